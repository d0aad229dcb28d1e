/- Cells: single rules are onto; a rule that is onto has four words ahead of each word. -/
import Derived.Test.YtlemkfgipbfjhaaCellM
import Derived.Test.YtlemkfgipbfjhaaCellG
set_option linter.unusedSimpArgs false
set_option linter.unusedVariables false
set_option maxRecDepth 100000
namespace Go.Av
open Go.Proofs

def soOk (r : Nat) : Bool := match xpE (ledB r) 16 0 xs0, xpE (fun f t => ledB r t f) 16 0 xs0 with
  | some a, some b => (decide (a.2.length = 16) && decide (b.2.length = 16)) && (mergeB a b || ontoB r)
  | _, _ => false
theorem so_all : ((List.range 256).all soOk) = true := by kernel_rfl

theorem singleM_rule (r : Int) (h : ruleOk r = false) : CallsA Try.prog 21 [I r] (.tup [Bo false, I 4]) [] := by
  refine fn_of0 comp21 (by simp) ?_
  unfold code21
  simp (maxSteps := 1000000) only [EA, EB, EC, ED, EE, EF, EG, EH, XA, XB, XC, XD, XE, XF, XG, XH, XI, XJ, XK, XL, XM, reduceIte, ↓reduceIte, Nat.reduceAdd, Nat.reduceLeDiff, Nat.reduceEqDiff, Nat.reduceLT, Nat.reduceSub, Nat.reduceBEq, forall_const, reduceCtorEq, implies_true, exists_eq_left', exists_eq_left, if_true, if_false, undef]
  refine callF (CallsA.args (isRule_spec r) (by simp [EA, EB, EC, ED, EE, EF, EG, EH, XA, XB, XC, XD, XE, XF, XG, XH, XI, XJ, XK, XL, XM, reduceIte, ↓reduceIte, Nat.reduceAdd, Nat.reduceLeDiff, Nat.reduceEqDiff, Nat.reduceLT, Nat.reduceSub, Nat.reduceBEq, forall_const, reduceCtorEq, implies_true, exists_eq_left', exists_eq_left, if_true, if_false, undef])) rfl (by simp [flat, EA, EB, EC, ED, EE, EF, EG, EH, XA, XB, XC, XD, XE, XF, XG, XH, XI, XJ, XK, XL, XM, reduceIte, ↓reduceIte, Nat.reduceAdd, Nat.reduceLeDiff, Nat.reduceEqDiff, Nat.reduceLT, Nat.reduceSub, Nat.reduceBEq, forall_const, reduceCtorEq, implies_true, exists_eq_left', exists_eq_left, if_true, if_false, undef]) ?_
  simp (maxSteps := 1000000) only [h, Bo, EA, EB, EC, ED, EE, EF, EG, EH, XA, XB, XC, XD, XE, XF, XG, XH, XI, XJ, XK, XL, XM, reduceIte, ↓reduceIte, Nat.reduceAdd, Nat.reduceLeDiff, Nat.reduceEqDiff, Nat.reduceLT, Nat.reduceSub, Nat.reduceBEq, forall_const, reduceCtorEq, implies_true, exists_eq_left', exists_eq_left, if_true, if_false, undef]
theorem singleM_spec (rule : Nat) (hr : rule < 256) : ∃ b, (b = true → ontoB rule = true) ∧ CallsA Try.prog 21 [I rule] (.tup [Bo b, I 0]) [] := by
  have hro : ruleOk rule = true := by simp [ruleOk]; omega
  have hs := (List.all_eq_true.1 so_all) rule (by simpa using hr)
  unfold soOk at hs
  split at hs
  · rename_i a b ha hb
    simp only [Bool.and_eq_true, decide_eq_true_eq, Bool.or_eq_true] at hs
    refine ⟨!mergeB a b, fun h => ?_, ?_⟩
    · rcases hs.2 with h2 | h2
      · rw [h2] at h; cases h
      · exact h2
    refine fn_of0 comp21 (by simp) ?_
    unfold code21
    simp (maxSteps := 1000000) only [EA, EB, EC, ED, EE, EF, EG, EH, XA, XB, XC, XD, XE, XF, XG, XH, XI, XJ, XK, XL, XM, reduceIte, ↓reduceIte, Nat.reduceAdd, Nat.reduceLeDiff, Nat.reduceEqDiff, Nat.reduceLT, Nat.reduceSub, Nat.reduceBEq, forall_const, reduceCtorEq, implies_true, exists_eq_left', exists_eq_left, if_true, if_false, undef]
    refine callF (CallsA.args (isRule_spec rule) (by simp [EA, EB, EC, ED, EE, EF, EG, EH, XA, XB, XC, XD, XE, XF, XG, XH, XI, XJ, XK, XL, XM, reduceIte, ↓reduceIte, Nat.reduceAdd, Nat.reduceLeDiff, Nat.reduceEqDiff, Nat.reduceLT, Nat.reduceSub, Nat.reduceBEq, forall_const, reduceCtorEq, implies_true, exists_eq_left', exists_eq_left, if_true, if_false, undef])) rfl (by simp [flat, EA, EB, EC, ED, EE, EF, EG, EH, XA, XB, XC, XD, XE, XF, XG, XH, XI, XJ, XK, XL, XM, reduceIte, ↓reduceIte, Nat.reduceAdd, Nat.reduceLeDiff, Nat.reduceEqDiff, Nat.reduceLT, Nat.reduceSub, Nat.reduceBEq, forall_const, reduceCtorEq, implies_true, exists_eq_left', exists_eq_left, if_true, if_false, undef]) ?_
    simp (maxSteps := 1000000) only [hro, EA, EB, EC, ED, EE, EF, EG, EH, XA, XB, XC, XD, XE, XF, XG, XH, XI, XJ, XK, XL, XM, reduceIte, ↓reduceIte, Nat.reduceAdd, Nat.reduceLeDiff, Nat.reduceEqDiff, Nat.reduceLT, Nat.reduceSub, Nat.reduceBEq, forall_const, reduceCtorEq, implies_true, exists_eq_left', exists_eq_left, if_true, if_false, undef]
    refine callF (CallsA.args (canMerge_spec rule hr a b ha hb hs.1.1 hs.1.2) (by simp [EA, EB, EC, ED, EE, EF, EG, EH, XA, XB, XC, XD, XE, XF, XG, XH, XI, XJ, XK, XL, XM, reduceIte, ↓reduceIte, Nat.reduceAdd, Nat.reduceLeDiff, Nat.reduceEqDiff, Nat.reduceLT, Nat.reduceSub, Nat.reduceBEq, forall_const, reduceCtorEq, implies_true, exists_eq_left', exists_eq_left, if_true, if_false, undef])) rfl (by simp [flat, EA, EB, EC, ED, EE, EF, EG, EH, XA, XB, XC, XD, XE, XF, XG, XH, XI, XJ, XK, XL, XM, reduceIte, ↓reduceIte, Nat.reduceAdd, Nat.reduceLeDiff, Nat.reduceEqDiff, Nat.reduceLT, Nat.reduceSub, Nat.reduceBEq, forall_const, reduceCtorEq, implies_true, exists_eq_left', exists_eq_left, if_true, if_false, undef]) ?_
    simp (maxSteps := 1000000) only [Bo, EA, EB, EC, ED, EE, EF, EG, EH, XA, XB, XC, XD, XE, XF, XG, XH, XI, XJ, XK, XL, XM, reduceIte, ↓reduceIte, Nat.reduceAdd, Nat.reduceLeDiff, Nat.reduceEqDiff, Nat.reduceLT, Nat.reduceSub, Nat.reduceBEq, forall_const, reduceCtorEq, implies_true, exists_eq_left', exists_eq_left, if_true, if_false, undef]
  · cases hs

/-- all vectors of ends that are come to -/
def vclo (rule : Nat) : Nat → List (List Nat) → List (List Nat) → List (List Nat)
  | 0, _, seen => seen
  | _ + 1, [], seen => seen
  | f + 1, s :: q, seen =>
    let s0 := exF rule false s 8
    let s1 := exF rule true s 8
    let n0 := if seen.contains s0 = true then [] else [s0]
    let n1 := if (n0 ++ seen).contains s1 = true then [] else [s1]
    vclo rule f (q ++ (n0 ++ n1)) (n1 ++ (n0 ++ seen))
def closedV (rule : Nat) (R : List (List Nat)) : Bool := R.contains [1, 1, 1, 1] && R.all fun v => decide (v.sum = 4) && (R.contains (exF rule false v 8) && R.contains (exF rule true v 8))
theorem v_all : ((List.range 256).all fun r => !ontoB r || closedV r (vclo r 40 [[1, 1, 1, 1]] [[1, 1, 1, 1]])) = true := by kernel_rfl
theorem closedV_all {rule : Nat} {R : List (List Nat)} (h : closedV rule R = true) : ∀ (word : List Bool) (v : List Nat), v ∈ R → mvec rule word v ∈ R := by
  simp only [closedV, Bool.and_eq_true, List.all_eq_true, List.contains_iff_mem] at h
  intro word
  induction word with
  | nil => intro s hs; exact hs
  | cons x r ih =>
    intro s hs
    have := (h.2 s hs).2
    cases x
    · exact ih _ this.1
    · exact ih _ this.2
theorem onto_four {rule : Nat} (hr : rule < 256) (h : ontoB rule = true) (word : List Bool) : (mvec rule word [1, 1, 1, 1]).sum = 4 := by
  have hv := (List.all_eq_true.1 v_all) rule (by simpa using hr)
  simp only [h, Bool.not_true, Bool.false_or] at hv
  have h1 := hv
  simp only [closedV, Bool.and_eq_true, List.all_eq_true, List.contains_iff_mem, decide_eq_true_eq] at h1
  exact (h1.2 _ (closedV_all hv word _ h1.1)).1

end Go.Av
