/- Cells: the words ahead of a word, counted one by one. -/
import Derived.Test.YtlemkfgipbfjhaaCell
set_option linter.unusedSimpArgs false
set_option linter.unusedVariables false
set_option maxRecDepth 100000
namespace Go.Av
open Go.Proofs

/-- the first k cells of the word come out of the word w -/
def okI (rule : Nat) (word : List Bool) (w : Nat) (k : Nat) : Bool := (List.range k).all fun i => tru rule (w.testBit i) (w.testBit (i + 1)) (w.testBit (i + 2)) == word.getD i false
def okW (rule : Nat) : List Bool → Nat → Bool
  | [], _ => true
  | x :: r, w => (tru rule (w.testBit 0) (w.testBit 1) (w.testBit 2) == x) && okW rule r (w / 2)

theorem okI_succ (rule : Nat) (word : List Bool) (w k : Nat) : okI rule word w (k + 1) = (okI rule word w k && (tru rule (w.testBit k) (w.testBit (k + 1)) (w.testBit (k + 2)) == word.getD k false)) := by
  simp [okI, List.range_succ]

theorem okI_W (rule : Nat) : ∀ (word : List Bool) (w : Nat), okI rule word w word.length = okW rule word w := by
  intro word
  induction word with
  | nil => intro w; rfl
  | cons x r ih =>
    intro w
    simp only [okW, ← ih]
    simp only [okI, List.length_cons, List.range_succ_eq_map, List.all_cons, List.all_map]
    refine congr (congrArg _ rfl) (congrArg (fun p => (List.range r.length).all p) (funext fun i => ?_))
    have hb : ∀ j, w.testBit (j + 1) = (w / 2).testBit j := fun j => Nat.testBit_succ ..
    show (tru rule (w.testBit (i + 1)) (w.testBit (i + 1 + 1)) (w.testBit (i + 2 + 1)) == _) = _
    rw [hb, hb, hb]
    rfl

def aheads (rule : Nat) (word : List Bool) : Nat := ((List.range (2 ^ (word.length + 2))).filter (okW rule word)).length
def aheadsTo (rule : Nat) (word : List Bool) (m : Nat) : Nat := ((List.range m).filter (okW rule word)).length
theorem aheadsTo_succ (rule : Nat) (word : List Bool) (m : Nat) : aheadsTo rule word (m + 1) = aheadsTo rule word m + (okW rule word m).toNat := by
  simp only [aheadsTo, List.range_succ, List.filter_append, List.length_append]
  congr 1
  cases h : okW rule word m <;> simp [List.filter, h]
theorem aheadsTo_le (rule : Nat) (word : List Bool) (m : Nat) : aheadsTo rule word m ≤ m := by
  have := List.length_filter_le (okW rule word) (List.range m)
  simpa [aheadsTo] using this

theorem aheads_spec (rule : Nat) (hr : rule < 256) (word : List Bool) (hl : word.length ≤ 12) : CallsA Try.prog 16 [I rule, .ro 1 (word.map Bo)] (I (aheads rule word)) [] := by
  refine fn_of0 comp16 (by simp) ?_
  unfold code16
  have hll : ((word.map Bo).length : Int) = word.length := by simp
  have w2 : IntKind.i64.wrap ((word.length : Int) + 2) = ((word.length + 2 : Nat) : Int) := by rw [wrap_id] <;> omega
  have u2 : IntKind.u64.wrap ((word.length + 2 : Nat) : Int) = ((word.length + 2 : Nat) : Int) := wrap_u64 (by omega) (by omega)
  have hsh := shl_one (i := word.length + 2) (by omega)
  have hp : 2 ^ (word.length + 2) ≤ 2 ^ 14 := Nat.pow_le_pow_right (by omega) (by omega)
  generalize hP : 2 ^ (word.length + 2) = M at hsh hp
  simp (maxSteps := 1000000) only [hll, EA, EB, EC, ED, EE, EF, EG, EH, XA, XB, XC, XD, XE, XF, XG, XH, XI, XJ, XK, XL, XM, reduceIte, ↓reduceIte, Nat.reduceAdd, Nat.reduceLeDiff, Nat.reduceEqDiff, Nat.reduceLT, Nat.reduceSub, Nat.reduceBEq, forall_const, reduceCtorEq, implies_true, exists_eq_left', exists_eq_left, if_true, if_false, undef]
  refine loop0 Nat [7, 6] (fun w => [I (w : Nat), I (aheadsTo rule word w : Nat)]) (fun w => w ≤ M) (fun w => M - w) (by decide) 0 (by simp) (by simp [Back, BackF, fzT, fzM, fzU, fz, fzL, fzO, kin, SubT, Sub, SubL, SubM, SubO, keepM, srcOk, look, lookM, ev, evs, putT, argT, EA, EB, EC, ED, EE, EF, EG, EH, XA, XB, XC, XD, XE, XF, XG, XH, XI, XJ, XK, XL, XM, reduceIte, ↓reduceIte, Nat.reduceAdd, Nat.reduceLeDiff, Nat.reduceEqDiff, Nat.reduceLT, Nat.reduceSub, Nat.reduceBEq, forall_const, reduceCtorEq, implies_true, exists_eq_left', exists_eq_left, if_true, if_false, undef, aheadsTo]) (fun w hw => ?_)
  have hwl := aheadsTo_le rule word w
  simp (maxSteps := 1000000) only [hll, w2, u2, hsh, EA, EB, EC, ED, EE, EF, EG, EH, XA, XB, XC, XD, XE, XF, XG, XH, XI, XJ, XK, XL, XM, reduceIte, ↓reduceIte, Nat.reduceAdd, Nat.reduceLeDiff, Nat.reduceEqDiff, Nat.reduceLT, Nat.reduceSub, Nat.reduceBEq, forall_const, reduceCtorEq, implies_true, exists_eq_left', exists_eq_left, if_true, if_false, undef]
  refine ⟨by omega, ?_⟩
  by_cases c1 : w < M
  rotate_left
  · have f1 : decide ((w : Int) < (M : Int)) = false := by simp; omega
    have : w = M := by omega
    subst this
    simp (maxSteps := 1000000) only [f1, EA, EB, EC, ED, EE, EF, EG, EH, XA, XB, XC, XD, XE, XF, XG, XH, XI, XJ, XK, XL, XM, reduceIte, ↓reduceIte, Nat.reduceAdd, Nat.reduceLeDiff, Nat.reduceEqDiff, Nat.reduceLT, Nat.reduceSub, Nat.reduceBEq, forall_const, reduceCtorEq, implies_true, exists_eq_left', exists_eq_left, if_true, if_false, undef]
    simp [aheads, aheadsTo, hP]
  have f1 : decide ((w : Int) < (M : Int)) = true := by simp; omega
  simp (maxSteps := 1000000) only [f1, EA, EB, EC, ED, EE, EF, EG, EH, XA, XB, XC, XD, XE, XF, XG, XH, XI, XJ, XK, XL, XM, reduceIte, ↓reduceIte, Nat.reduceAdd, Nat.reduceLeDiff, Nat.reduceEqDiff, Nat.reduceLT, Nat.reduceSub, Nat.reduceBEq, forall_const, reduceCtorEq, implies_true, exists_eq_left', exists_eq_left, if_true, if_false, undef]
  refine loop0 Nat [9, 8] (fun i => [I (i : Nat), Bo (okI rule word w i)]) (fun i => i ≤ word.length) (fun i => word.length - i) (by decide) 0 (by simp) (by simp [Back, BackF, fzT, fzM, fzU, fz, fzL, fzO, kin, SubT, Sub, SubL, SubM, SubO, keepM, srcOk, look, lookM, ev, evs, putT, argT, EA, EB, EC, ED, EE, EF, EG, EH, XA, XB, XC, XD, XE, XF, XG, XH, XI, XJ, XK, XL, XM, reduceIte, ↓reduceIte, Nat.reduceAdd, Nat.reduceLeDiff, Nat.reduceEqDiff, Nat.reduceLT, Nat.reduceSub, Nat.reduceBEq, forall_const, reduceCtorEq, implies_true, exists_eq_left', exists_eq_left, if_true, if_false, undef, okI]) (fun i hi => ?_)
  by_cases c2 : i < word.length
  · have f2 : decide ((i : Int) < (word.length : Int)) = true := by simp [c2]
    have wi1 : IntKind.i64.wrap ((i : Int) + 1) = ((i + 1 : Nat) : Int) := by rw [wrap_id] <;> omega
    have wi2 : IntKind.i64.wrap ((i : Int) + 2) = ((i + 2 : Nat) : Int) := by rw [wrap_id] <;> omega
    have hg : word[i]?.getD false = word[i] := by simp [c2]
    cases hok : okI rule word w i
    · simp (maxSteps := 1000000) only [f2, hll, hok, wi1, EA, EB, EC, ED, EE, EF, EG, EH, XA, XB, XC, XD, XE, XF, XG, XH, XI, XJ, XK, XL, XM, reduceIte, ↓reduceIte, Nat.reduceAdd, Nat.reduceLeDiff, Nat.reduceEqDiff, Nat.reduceLT, Nat.reduceSub, Nat.reduceBEq, forall_const, reduceCtorEq, implies_true, exists_eq_left', exists_eq_left, if_true, if_false, undef]
      refine ⟨i + 1, by omega, by omega, ?_⟩
      simp [Back, BackF, fzT, fzM, fzU, fz, fzL, fzO, kin, SubT, Sub, SubL, SubM, SubO, keepM, srcOk, look, lookM, ev, evs, putT, argT, EA, EB, EC, ED, EE, EF, EG, EH, XA, XB, XC, XD, XE, XF, XG, XH, XI, XJ, XK, XL, XM, reduceIte, ↓reduceIte, Nat.reduceAdd, Nat.reduceLeDiff, Nat.reduceEqDiff, Nat.reduceLT, Nat.reduceSub, Nat.reduceBEq, forall_const, reduceCtorEq, implies_true, exists_eq_left', exists_eq_left, if_true, if_false, undef, okI_succ, hok]
    · simp (maxSteps := 1000000) only [f2, hll, hok, wi1, wi2, EA, EB, EC, ED, EE, EF, EG, EH, XA, XB, XC, XD, XE, XF, XG, XH, XI, XJ, XK, XL, XM, reduceIte, ↓reduceIte, Nat.reduceAdd, Nat.reduceLeDiff, Nat.reduceEqDiff, Nat.reduceLT, Nat.reduceSub, Nat.reduceBEq, forall_const, reduceCtorEq, implies_true, exists_eq_left', exists_eq_left, if_true, if_false, undef]
      refine callD (CallsA.args (bit_spec w i (by omega) (by omega)) (by simp [EA, EB, EC, ED, EE, EF, EG, EH, XA, XB, XC, XD, XE, XF, XG, XH, XI, XJ, XK, XL, XM, reduceIte, ↓reduceIte, Nat.reduceAdd, Nat.reduceLeDiff, Nat.reduceEqDiff, Nat.reduceLT, Nat.reduceSub, Nat.reduceBEq, forall_const, reduceCtorEq, implies_true, exists_eq_left', exists_eq_left, if_true, if_false, undef])) rfl (by simp [flat, EA, EB, EC, ED, EE, EF, EG, EH, XA, XB, XC, XD, XE, XF, XG, XH, XI, XJ, XK, XL, XM, reduceIte, ↓reduceIte, Nat.reduceAdd, Nat.reduceLeDiff, Nat.reduceEqDiff, Nat.reduceLT, Nat.reduceSub, Nat.reduceBEq, forall_const, reduceCtorEq, implies_true, exists_eq_left', exists_eq_left, if_true, if_false, undef]) (by simp [EA, EB, EC, ED, EE, EF, EG, EH, XA, XB, XC, XD, XE, XF, XG, XH, XI, XJ, XK, XL, XM, reduceIte, ↓reduceIte, Nat.reduceAdd, Nat.reduceLeDiff, Nat.reduceEqDiff, Nat.reduceLT, Nat.reduceSub, Nat.reduceBEq, forall_const, reduceCtorEq, implies_true, exists_eq_left', exists_eq_left, if_true, if_false, undef]) ?_
      simp (maxSteps := 1000000) only [wi1, wi2, EA, EB, EC, ED, EE, EF, EG, EH, XA, XB, XC, XD, XE, XF, XG, XH, XI, XJ, XK, XL, XM, reduceIte, ↓reduceIte, Nat.reduceAdd, Nat.reduceLeDiff, Nat.reduceEqDiff, Nat.reduceLT, Nat.reduceSub, Nat.reduceBEq, forall_const, reduceCtorEq, implies_true, exists_eq_left', exists_eq_left, if_true, if_false, undef]
      refine callD (CallsA.args (bit_spec w (i + 1) (by omega) (by omega)) (by simp [EA, EB, EC, ED, EE, EF, EG, EH, XA, XB, XC, XD, XE, XF, XG, XH, XI, XJ, XK, XL, XM, reduceIte, ↓reduceIte, Nat.reduceAdd, Nat.reduceLeDiff, Nat.reduceEqDiff, Nat.reduceLT, Nat.reduceSub, Nat.reduceBEq, forall_const, reduceCtorEq, implies_true, exists_eq_left', exists_eq_left, if_true, if_false, undef])) rfl (by simp [flat, EA, EB, EC, ED, EE, EF, EG, EH, XA, XB, XC, XD, XE, XF, XG, XH, XI, XJ, XK, XL, XM, reduceIte, ↓reduceIte, Nat.reduceAdd, Nat.reduceLeDiff, Nat.reduceEqDiff, Nat.reduceLT, Nat.reduceSub, Nat.reduceBEq, forall_const, reduceCtorEq, implies_true, exists_eq_left', exists_eq_left, if_true, if_false, undef]) (by simp [EA, EB, EC, ED, EE, EF, EG, EH, XA, XB, XC, XD, XE, XF, XG, XH, XI, XJ, XK, XL, XM, reduceIte, ↓reduceIte, Nat.reduceAdd, Nat.reduceLeDiff, Nat.reduceEqDiff, Nat.reduceLT, Nat.reduceSub, Nat.reduceBEq, forall_const, reduceCtorEq, implies_true, exists_eq_left', exists_eq_left, if_true, if_false, undef]) ?_
      simp (maxSteps := 1000000) only [wi1, wi2, EA, EB, EC, ED, EE, EF, EG, EH, XA, XB, XC, XD, XE, XF, XG, XH, XI, XJ, XK, XL, XM, reduceIte, ↓reduceIte, Nat.reduceAdd, Nat.reduceLeDiff, Nat.reduceEqDiff, Nat.reduceLT, Nat.reduceSub, Nat.reduceBEq, forall_const, reduceCtorEq, implies_true, exists_eq_left', exists_eq_left, if_true, if_false, undef]
      refine callD (CallsA.args (bit_spec w (i + 2) (by omega) (by omega)) (by simp [EA, EB, EC, ED, EE, EF, EG, EH, XA, XB, XC, XD, XE, XF, XG, XH, XI, XJ, XK, XL, XM, reduceIte, ↓reduceIte, Nat.reduceAdd, Nat.reduceLeDiff, Nat.reduceEqDiff, Nat.reduceLT, Nat.reduceSub, Nat.reduceBEq, forall_const, reduceCtorEq, implies_true, exists_eq_left', exists_eq_left, if_true, if_false, undef])) rfl (by simp [flat, EA, EB, EC, ED, EE, EF, EG, EH, XA, XB, XC, XD, XE, XF, XG, XH, XI, XJ, XK, XL, XM, reduceIte, ↓reduceIte, Nat.reduceAdd, Nat.reduceLeDiff, Nat.reduceEqDiff, Nat.reduceLT, Nat.reduceSub, Nat.reduceBEq, forall_const, reduceCtorEq, implies_true, exists_eq_left', exists_eq_left, if_true, if_false, undef]) (by simp [EA, EB, EC, ED, EE, EF, EG, EH, XA, XB, XC, XD, XE, XF, XG, XH, XI, XJ, XK, XL, XM, reduceIte, ↓reduceIte, Nat.reduceAdd, Nat.reduceLeDiff, Nat.reduceEqDiff, Nat.reduceLT, Nat.reduceSub, Nat.reduceBEq, forall_const, reduceCtorEq, implies_true, exists_eq_left', exists_eq_left, if_true, if_false, undef]) ?_
      simp (maxSteps := 1000000) only [wi1, wi2, EA, EB, EC, ED, EE, EF, EG, EH, XA, XB, XC, XD, XE, XF, XG, XH, XI, XJ, XK, XL, XM, reduceIte, ↓reduceIte, Nat.reduceAdd, Nat.reduceLeDiff, Nat.reduceEqDiff, Nat.reduceLT, Nat.reduceSub, Nat.reduceBEq, forall_const, reduceCtorEq, implies_true, exists_eq_left', exists_eq_left, if_true, if_false, undef]
      refine callD (CallsA.args (truth_spec rule hr (w.testBit i) (w.testBit (i + 1)) (w.testBit (i + 2))) (by simp [EA, EB, EC, ED, EE, EF, EG, EH, XA, XB, XC, XD, XE, XF, XG, XH, XI, XJ, XK, XL, XM, reduceIte, ↓reduceIte, Nat.reduceAdd, Nat.reduceLeDiff, Nat.reduceEqDiff, Nat.reduceLT, Nat.reduceSub, Nat.reduceBEq, forall_const, reduceCtorEq, implies_true, exists_eq_left', exists_eq_left, if_true, if_false, undef])) rfl (by simp [flat, EA, EB, EC, ED, EE, EF, EG, EH, XA, XB, XC, XD, XE, XF, XG, XH, XI, XJ, XK, XL, XM, reduceIte, ↓reduceIte, Nat.reduceAdd, Nat.reduceLeDiff, Nat.reduceEqDiff, Nat.reduceLT, Nat.reduceSub, Nat.reduceBEq, forall_const, reduceCtorEq, implies_true, exists_eq_left', exists_eq_left, if_true, if_false, undef]) (by simp [EA, EB, EC, ED, EE, EF, EG, EH, XA, XB, XC, XD, XE, XF, XG, XH, XI, XJ, XK, XL, XM, reduceIte, ↓reduceIte, Nat.reduceAdd, Nat.reduceLeDiff, Nat.reduceEqDiff, Nat.reduceLT, Nat.reduceSub, Nat.reduceBEq, forall_const, reduceCtorEq, implies_true, exists_eq_left', exists_eq_left, if_true, if_false, undef]) ?_
      simp (maxSteps := 1000000) only [wi1, wi2, EA, EB, EC, ED, EE, EF, EG, EH, XA, XB, XC, XD, XE, XF, XG, XH, XI, XJ, XK, XL, XM, reduceIte, ↓reduceIte, Nat.reduceAdd, Nat.reduceLeDiff, Nat.reduceEqDiff, Nat.reduceLT, Nat.reduceSub, Nat.reduceBEq, forall_const, reduceCtorEq, implies_true, exists_eq_left', exists_eq_left, if_true, if_false, undef]
      refine ⟨by omega, pickM c2 ?_⟩
      simp (maxSteps := 1000000) only [wi1, EA, EB, EC, ED, EE, EF, EG, EH, XA, XB, XC, XD, XE, XF, XG, XH, XI, XJ, XK, XL, XM, reduceIte, ↓reduceIte, Nat.reduceAdd, Nat.reduceLeDiff, Nat.reduceEqDiff, Nat.reduceLT, Nat.reduceSub, Nat.reduceBEq, forall_const, reduceCtorEq, implies_true, exists_eq_left', exists_eq_left, if_true, if_false, undef]
      refine ⟨i + 1, by omega, by omega, ?_⟩
      simp [Back, BackF, fzT, fzM, fzU, fz, fzL, fzO, kin, SubT, Sub, SubL, SubM, SubO, keepM, srcOk, look, lookM, ev, evs, putT, argT, EA, EB, EC, ED, EE, EF, EG, EH, XA, XB, XC, XD, XE, XF, XG, XH, XI, XJ, XK, XL, XM, reduceIte, ↓reduceIte, Nat.reduceAdd, Nat.reduceLeDiff, Nat.reduceEqDiff, Nat.reduceLT, Nat.reduceSub, Nat.reduceBEq, forall_const, reduceCtorEq, implies_true, exists_eq_left', exists_eq_left, if_true, if_false, undef, okI_succ, hok, hg]
  · have f2 : decide ((i : Int) < (word.length : Int)) = false := by simp [c2]
    have : i = word.length := by omega
    subst this
    have ww : IntKind.i64.wrap ((w : Int) + 1) = ((w + 1 : Nat) : Int) := by rw [wrap_id] <;> omega
    have wm : IntKind.i64.wrap ((aheadsTo rule word w : Int) + 1) = ((aheadsTo rule word w + 1 : Nat) : Int) := by rw [wrap_id] <;> omega
    have hs := aheadsTo_succ rule word w
    rw [← okI_W] at hs
    cases hok : okI rule word w word.length
    · rw [hok] at hs
      simp (maxSteps := 1000000) only [f2, hll, hok, ww, EA, EB, EC, ED, EE, EF, EG, EH, XA, XB, XC, XD, XE, XF, XG, XH, XI, XJ, XK, XL, XM, reduceIte, ↓reduceIte, Nat.reduceAdd, Nat.reduceLeDiff, Nat.reduceEqDiff, Nat.reduceLT, Nat.reduceSub, Nat.reduceBEq, forall_const, reduceCtorEq, implies_true, exists_eq_left', exists_eq_left, if_true, if_false, undef]
      exact ⟨w + 1, by omega, by omega, by simp [Back, BackF, fzT, fzM, fzU, fz, fzL, fzO, kin, SubT, Sub, SubL, SubM, SubO, keepM, srcOk, look, lookM, ev, evs, putT, argT, EA, EB, EC, ED, EE, EF, EG, EH, XA, XB, XC, XD, XE, XF, XG, XH, XI, XJ, XK, XL, XM, reduceIte, ↓reduceIte, Nat.reduceAdd, Nat.reduceLeDiff, Nat.reduceEqDiff, Nat.reduceLT, Nat.reduceSub, Nat.reduceBEq, forall_const, reduceCtorEq, implies_true, exists_eq_left', exists_eq_left, if_true, if_false, undef, hs]⟩
    · rw [hok] at hs
      simp (maxSteps := 1000000) only [f2, hll, hok, ww, wm, EA, EB, EC, ED, EE, EF, EG, EH, XA, XB, XC, XD, XE, XF, XG, XH, XI, XJ, XK, XL, XM, reduceIte, ↓reduceIte, Nat.reduceAdd, Nat.reduceLeDiff, Nat.reduceEqDiff, Nat.reduceLT, Nat.reduceSub, Nat.reduceBEq, forall_const, reduceCtorEq, implies_true, exists_eq_left', exists_eq_left, if_true, if_false, undef]
      exact ⟨w + 1, by omega, by omega, by simp [Back, BackF, fzT, fzM, fzU, fz, fzL, fzO, kin, SubT, Sub, SubL, SubM, SubO, keepM, srcOk, look, lookM, ev, evs, putT, argT, EA, EB, EC, ED, EE, EF, EG, EH, XA, XB, XC, XD, XE, XF, XG, XH, XI, XJ, XK, XL, XM, reduceIte, ↓reduceIte, Nat.reduceAdd, Nat.reduceLeDiff, Nat.reduceEqDiff, Nat.reduceLT, Nat.reduceSub, Nat.reduceBEq, forall_const, reduceCtorEq, implies_true, exists_eq_left', exists_eq_left, if_true, if_false, undef, hs]⟩

/-- how many words of cells are ahead of a word, if the first two cells are known -/
def cnt (rule : Nat) (a b : Bool) : List Bool → Nat
  | [] => 1
  | x :: r => (if tru rule a b false = x then cnt rule b false r else 0) + (if tru rule a b true = x then cnt rule b true r else 0)
def cntAll (rule : Nat) (word : List Bool) : Nat := cnt rule false false word + cnt rule false true word + cnt rule true false word + cnt rule true true word

/-- those whose first two cells are known -/
def cntW (rule : Nat) (word : List Bool) (a b : Bool) : Nat := ((List.range (2 ^ word.length)).filter fun v => okW rule word (4 * v + 2 * b.toNat + a.toNat)).length

theorem filt_two (p : Nat → Bool) : ∀ m, ((List.range (2 * m)).filter p).length = ((List.range m).filter fun v => p (2 * v)).length + ((List.range m).filter fun v => p (2 * v + 1)).length := by
  intro m
  induction m with
  | zero => rfl
  | succ m ih =>
    rw [show 2 * (m + 1) = 2 * m + 1 + 1 by omega, List.range_succ, List.range_succ, List.range_succ]
    simp only [List.filter_append, List.length_append, ih]
    cases h1 : p (2 * m) <;> cases h2 : p (2 * m + 1) <;> simp [List.filter, h1, h2] <;> omega

theorem cntW_eq (rule : Nat) : ∀ (word : List Bool) (a b : Bool), cntW rule word a b = cnt rule a b word := by
  intro word
  induction word with
  | nil => intro a b; simp [cntW, cnt, okW]
  | cons x r ih =>
    intro a b
    have bits : ∀ v : Nat, ∀ c : Bool, okW rule (x :: r) (4 * (2 * v + c.toNat) + 2 * b.toNat + a.toNat) = ((tru rule a b c == x) && okW rule r (4 * v + 2 * c.toNat + b.toNat)) := fun v c => by
      simp only [okW]
      have h0 : (4 * (2 * v + c.toNat) + 2 * b.toNat + a.toNat).testBit 0 = a := by
        rw [Nat.testBit_zero]; cases a <;> cases b <;> simp [Bool.toNat] <;> omega
      have h1 : (4 * (2 * v + c.toNat) + 2 * b.toNat + a.toNat) / 2 = 4 * v + 2 * c.toNat + b.toNat := by cases a <;> cases b <;> cases c <;> simp [Bool.toNat] <;> omega
      have h2 : (4 * (2 * v + c.toNat) + 2 * b.toNat + a.toNat).testBit 1 = b := by
        rw [Nat.testBit_succ, h1, Nat.testBit_zero]; cases b <;> cases c <;> simp [Bool.toNat] <;> omega
      have h3 : (4 * (2 * v + c.toNat) + 2 * b.toNat + a.toNat).testBit 2 = c := by
        rw [Nat.testBit_succ, h1, Nat.testBit_succ, Nat.testBit_zero]; cases b <;> cases c <;> simp [Bool.toNat] <;> omega
      rw [h0, h1, h2, h3]
    have half : ∀ c : Bool, ((List.range (2 ^ r.length)).filter fun v => okW rule (x :: r) (4 * (2 * v + c.toNat) + 2 * b.toNat + a.toNat)).length = if tru rule a b c = x then cnt rule b c r else 0 := fun c => by
      rw [← ih b c, cntW]
      split
      · rename_i h
        congr 2
        funext v
        rw [bits v c, h]; simp
      · rename_i h
        have : (fun v => okW rule (x :: r) (4 * (2 * v + c.toNat) + 2 * b.toNat + a.toNat)) = fun _ => false := by
          funext v
          rw [bits v c]
          have : (tru rule a b c == x) = false := by simpa using h
          rw [this]; rfl
        rw [this]; simp
    rw [cntW, List.length_cons, show 2 ^ (r.length + 1) = 2 * 2 ^ r.length by rw [Nat.pow_succ, Nat.mul_comm], filt_two, cnt, ← half false, ← half true]
    rfl

theorem aheads_cnt (rule : Nat) (word : List Bool) : aheads rule word = cntAll rule word := by
  rw [aheads, show 2 ^ (word.length + 2) = 2 * (2 * 2 ^ word.length) by rw [Nat.pow_add]; omega, filt_two, filt_two, filt_two]
  have e : ∀ a b : Bool, ((List.range (2 ^ word.length)).filter fun v => okW rule word (4 * v + 2 * b.toNat + a.toNat)).length = cnt rule a b word := fun a b => cntW_eq rule word a b
  rw [cntAll, ← e false false, ← e false true, ← e true false, ← e true true]
  have k1 : ∀ v, 2 * (2 * v) = 4 * v + 2 * false.toNat + false.toNat := fun v => by simp [Bool.toNat]; omega
  have k2 : ∀ v, 2 * (2 * v + 1) = 4 * v + 2 * true.toNat + false.toNat := fun v => by simp [Bool.toNat]; omega
  have k3 : ∀ v, 2 * (2 * v) + 1 = 4 * v + 2 * false.toNat + true.toNat := fun v => by simp [Bool.toNat]; omega
  have k4 : ∀ v, 2 * (2 * v + 1) + 1 = 4 * v + 2 * true.toNat + true.toNat := fun v => by simp [Bool.toNat]; omega
  simp only [k3, k4]
  simp only [k1, k2]
  omega

end Go.Av
