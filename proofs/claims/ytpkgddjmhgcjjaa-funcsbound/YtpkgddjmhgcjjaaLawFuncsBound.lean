/- For any functions and any arguments: the value is below what the Ackermann function gives for their rank and the greatest argument; for all arguments. -/
import Derived.Test.YtpkgddjmhgcjjaaFunY
import Derived.Test.YtpkgddjmhgcjjaaFunB
import Derived.Test.YtpkgddjmhgcjjaaFunA
import Derived.Test.YtpkgddjmhgcjjaaRows
import Derived.ProofKit
set_option linter.unusedSimpArgs false
set_option linter.unusedVariables false
set_option maxRecDepth 100000
namespace Go.Av
open Go.Proofs

def mostL (ns : List Nat) : Nat := ns.foldl max 0
theorem mostL_snoc (ns : List Nat) (x : Nat) : mostL (ns ++ [x]) = max (mostL ns) x := by simp [mostL]
theorem mostL_le (ns : List Nat) : LeA (mostL ns) ns := by
  have : ∀ (ns : List Nat) (m : Nat), m ≤ ns.foldl max m ∧ ∀ a ∈ ns, a ≤ ns.foldl max m := by
    intro ns
    induction ns with
    | nil => intro m; exact ⟨Nat.le_refl _, fun j h => by cases h⟩
    | cons x js ih =>
      intro m
      obtain ⟨h1, h2⟩ := ih (max m x)
      have h3 := Nat.le_max_left m x
      have h4 := Nat.le_max_right m x
      refine ⟨Nat.le_trans h3 h1, fun j hj => ?_⟩
      rcases List.mem_cons.1 hj with rfl | hj
      · exact Nat.le_trans h4 h1
      · exact h2 j hj
  exact (this ns 0).2
theorem mostL_max {ns : List Nat} {B : Nat} (h : ∀ a ∈ ns, a ≤ B) : mostL ns ≤ B := by
  have : ∀ (ns : List Nat) (m : Nat), m ≤ B → (∀ a ∈ ns, a ≤ B) → ns.foldl max m ≤ B := by
    intro ns
    induction ns with
    | nil => intro m hm _; exact hm
    | cons x ns ih => intro m hm ha; exact ih _ (Nat.max_le.2 ⟨hm, ha x (by simp)⟩) (fun a h => ha a (by simp [h]))
  exact this ns 0 (Nat.zero_le _) h

theorem bound_chk (l : List Fn) (args : List Int) (hl : (l.length : Int) < 2 ^ 63) (hi : ∀ f ∈ l, (f.into.length : Int) < 2 ^ 63) (hal : (args.length : Int) < 2 ^ 63) (hc : chk l ≠ 0) : CallsA Try.prog 7 [.ro 6 (l.map encF), .ro 1 (args.map I)] (Bo true) [] := by
  refine fn_of0 comp7 (by simp) ?_
  unfold code7
  have hv : valE l args = chk l := by rw [valE, if_pos hc]
  have v1 := value_err l args hal (by rw [hv]; exact hc)
  rw [hv] at v1
  have g : (chk l != 0) = true := by simpa using hc
  simp (maxSteps := 1000000) only [encF, encU, EA, EB, EC, ED, EE, EF, EG, EH, XA, XB, XC, XD, XE, XF, XG, XH, XI, XJ, XK, XL, XM, reduceIte, ↓reduceIte, Nat.reduceAdd, Nat.reduceLeDiff, Nat.reduceEqDiff, Nat.reduceLT, Nat.reduceSub, Nat.reduceBEq, forall_const, reduceCtorEq, implies_true, exists_eq_left', exists_eq_left, if_true, if_false, undef]
  refine callA (CallsA.args (v1) (by simp [encF, encU, EA, EB, EC, ED, EE, EF, EG, EH, XA, XB, XC, XD, XE, XF, XG, XH, XI, XJ, XK, XL, XM, reduceIte, ↓reduceIte, Nat.reduceAdd, Nat.reduceLeDiff, Nat.reduceEqDiff, Nat.reduceLT, Nat.reduceSub, Nat.reduceBEq, forall_const, reduceCtorEq, implies_true, exists_eq_left', exists_eq_left, if_true, if_false, undef])) rfl ?_
  simp (maxSteps := 1000000) only [encF, encU, EA, EB, EC, ED, EE, EF, EG, EH, XA, XB, XC, XD, XE, XF, XG, XH, XI, XJ, XK, XL, XM, reduceIte, ↓reduceIte, Nat.reduceAdd, Nat.reduceLeDiff, Nat.reduceEqDiff, Nat.reduceLT, Nat.reduceSub, Nat.reduceBEq, forall_const, reduceCtorEq, implies_true, exists_eq_left', exists_eq_left, if_true, if_false, undef]
  refine callA (CallsA.args (rank_err l hc) (by simp [encF, encU, EA, EB, EC, ED, EE, EF, EG, EH, XA, XB, XC, XD, XE, XF, XG, XH, XI, XJ, XK, XL, XM, reduceIte, ↓reduceIte, Nat.reduceAdd, Nat.reduceLeDiff, Nat.reduceEqDiff, Nat.reduceLT, Nat.reduceSub, Nat.reduceBEq, forall_const, reduceCtorEq, implies_true, exists_eq_left', exists_eq_left, if_true, if_false, undef])) rfl ?_
  simp (maxSteps := 1000000) only [encF, encU, EA, EB, EC, ED, EE, EF, EG, EH, XA, XB, XC, XD, XE, XF, XG, XH, XI, XJ, XK, XL, XM, reduceIte, ↓reduceIte, Nat.reduceAdd, Nat.reduceLeDiff, Nat.reduceEqDiff, Nat.reduceLT, Nat.reduceSub, Nat.reduceBEq, forall_const, reduceCtorEq, implies_true, exists_eq_left', exists_eq_left, if_true, if_false, undef]
  refine callF (CallsA.args (refCheck_spec l hl hi) (by simp [encF, encU, EA, EB, EC, ED, EE, EF, EG, EH, XA, XB, XC, XD, XE, XF, XG, XH, XI, XJ, XK, XL, XM, reduceIte, ↓reduceIte, Nat.reduceAdd, Nat.reduceLeDiff, Nat.reduceEqDiff, Nat.reduceLT, Nat.reduceSub, Nat.reduceBEq, forall_const, reduceCtorEq, implies_true, exists_eq_left', exists_eq_left, if_true, if_false, undef])) rfl (by simp [flat, encF, encU, EA, EB, EC, ED, EE, EF, EG, EH, XA, XB, XC, XD, XE, XF, XG, XH, XI, XJ, XK, XL, XM, reduceIte, ↓reduceIte, Nat.reduceAdd, Nat.reduceLeDiff, Nat.reduceEqDiff, Nat.reduceLT, Nat.reduceSub, Nat.reduceBEq, forall_const, reduceCtorEq, implies_true, exists_eq_left', exists_eq_left, if_true, if_false, undef]) ?_
  simp (maxSteps := 1000000) only [g, Bo, encF, encU, EA, EB, EC, ED, EE, EF, EG, EH, XA, XB, XC, XD, XE, XF, XG, XH, XI, XJ, XK, XL, XM, reduceIte, ↓reduceIte, Nat.reduceAdd, Nat.reduceLeDiff, Nat.reduceEqDiff, Nat.reduceLT, Nat.reduceSub, Nat.reduceBEq, forall_const, reduceCtorEq, implies_true, exists_eq_left', exists_eq_left, if_true, if_false, undef]

theorem rankV_rk (l : List Fn) : rankV l = rkAt l (l.length - 1) := rfl

theorem bound_err (l : List Fn) (args : List Int) (hl : (l.length : Int) < 2 ^ 63) (hi : ∀ f ∈ l, (f.into.length : Int) < 2 ^ 63) (hal : (args.length : Int) < 2 ^ 63) (hc : chk l = 0) (e : Int) (he : e ≠ 0)
    (v1 : CallsA Try.prog 12 [.ro 6 (l.map encF), .ro 1 (args.map I)] (.tup [I 0, I e]) []) : CallsA Try.prog 7 [.ro 6 (l.map encF), .ro 1 (args.map I)] (Bo true) [] := by
  have hr := rankV_le (good_of hc).len
  refine fn_of0 comp7 (by simp) ?_
  unfold code7
  have g : (chk l != 0) = false := by simpa using hc
  have g1 : (e != 0) = true := by simpa using he
  have q0 : ((0 : Int) != 0) = false := by decide
  have q1 : ((0 : Int) == 0) = true := by decide
  have r1 : decide ((rankV l : Int) < 1) = false := by simp; omega
  have r2 : decide ((rankV l : Int) > 1000) = false := by simp; omega
  simp (maxSteps := 1000000) only [encF, encU, EA, EB, EC, ED, EE, EF, EG, EH, XA, XB, XC, XD, XE, XF, XG, XH, XI, XJ, XK, XL, XM, reduceIte, ↓reduceIte, Nat.reduceAdd, Nat.reduceLeDiff, Nat.reduceEqDiff, Nat.reduceLT, Nat.reduceSub, Nat.reduceBEq, forall_const, reduceCtorEq, implies_true, exists_eq_left', exists_eq_left, if_true, if_false, undef]
  refine callA (CallsA.args (v1) (by simp [encF, encU, EA, EB, EC, ED, EE, EF, EG, EH, XA, XB, XC, XD, XE, XF, XG, XH, XI, XJ, XK, XL, XM, reduceIte, ↓reduceIte, Nat.reduceAdd, Nat.reduceLeDiff, Nat.reduceEqDiff, Nat.reduceLT, Nat.reduceSub, Nat.reduceBEq, forall_const, reduceCtorEq, implies_true, exists_eq_left', exists_eq_left, if_true, if_false, undef])) rfl ?_
  simp (maxSteps := 1000000) only [encF, encU, EA, EB, EC, ED, EE, EF, EG, EH, XA, XB, XC, XD, XE, XF, XG, XH, XI, XJ, XK, XL, XM, reduceIte, ↓reduceIte, Nat.reduceAdd, Nat.reduceLeDiff, Nat.reduceEqDiff, Nat.reduceLT, Nat.reduceSub, Nat.reduceBEq, forall_const, reduceCtorEq, implies_true, exists_eq_left', exists_eq_left, if_true, if_false, undef]
  refine callA (CallsA.args (rank_spec l hc) (by simp [encF, encU, EA, EB, EC, ED, EE, EF, EG, EH, XA, XB, XC, XD, XE, XF, XG, XH, XI, XJ, XK, XL, XM, reduceIte, ↓reduceIte, Nat.reduceAdd, Nat.reduceLeDiff, Nat.reduceEqDiff, Nat.reduceLT, Nat.reduceSub, Nat.reduceBEq, forall_const, reduceCtorEq, implies_true, exists_eq_left', exists_eq_left, if_true, if_false, undef])) rfl ?_
  simp (maxSteps := 1000000) only [encF, encU, EA, EB, EC, ED, EE, EF, EG, EH, XA, XB, XC, XD, XE, XF, XG, XH, XI, XJ, XK, XL, XM, reduceIte, ↓reduceIte, Nat.reduceAdd, Nat.reduceLeDiff, Nat.reduceEqDiff, Nat.reduceLT, Nat.reduceSub, Nat.reduceBEq, forall_const, reduceCtorEq, implies_true, exists_eq_left', exists_eq_left, if_true, if_false, undef]
  refine callF (CallsA.args (refCheck_spec l hl hi) (by simp [encF, encU, EA, EB, EC, ED, EE, EF, EG, EH, XA, XB, XC, XD, XE, XF, XG, XH, XI, XJ, XK, XL, XM, reduceIte, ↓reduceIte, Nat.reduceAdd, Nat.reduceLeDiff, Nat.reduceEqDiff, Nat.reduceLT, Nat.reduceSub, Nat.reduceBEq, forall_const, reduceCtorEq, implies_true, exists_eq_left', exists_eq_left, if_true, if_false, undef])) rfl (by simp [flat, encF, encU, EA, EB, EC, ED, EE, EF, EG, EH, XA, XB, XC, XD, XE, XF, XG, XH, XI, XJ, XK, XL, XM, reduceIte, ↓reduceIte, Nat.reduceAdd, Nat.reduceLeDiff, Nat.reduceEqDiff, Nat.reduceLT, Nat.reduceSub, Nat.reduceBEq, forall_const, reduceCtorEq, implies_true, exists_eq_left', exists_eq_left, if_true, if_false, undef]) ?_
  simp (maxSteps := 1000000) only [g, g1, q0, q1, r1, r2, Bo, encF, encU, EA, EB, EC, ED, EE, EF, EG, EH, XA, XB, XC, XD, XE, XF, XG, XH, XI, XJ, XK, XL, XM, reduceIte, ↓reduceIte, Nat.reduceAdd, Nat.reduceLeDiff, Nat.reduceEqDiff, Nat.reduceLT, Nat.reduceSub, Nat.reduceBEq, forall_const, reduceCtorEq, implies_true, exists_eq_left', exists_eq_left, if_true, if_false, undef]

theorem bound_ok (l : List Fn) (ns : List Nat) (hl : (l.length : Int) < 2 ^ 63) (hi : ∀ f ∈ l, (f.into.length : Int) < 2 ^ 63) (hs : ∀ a ∈ ns, a ≤ 20) (hc : chk l = 0) (hla : (ns.length : Int) = lastA l) (hv : (valR l ns).1 = true) :
    CallsA Try.prog 7 [.ro 6 (l.map encF), aN ns] (Bo true) [] := by
  have hg := good_of hc
  have hr := rankV_le hg.len
  obtain ⟨hlt, hle⟩ := lastA_eq hg.len.1
  have hof := hg.okF hlt
  have ha4 := hof.args
  have v1 := value_spec l ns hs hc hla
  rw [valAns, if_pos hv] at v1
  have hbel := fun (h4 : rankV l ≤ 4) y => val_below hg (M := mostL ns) (mostL_le ns) (by rw [← rankV_rk]; exact h4) (d := l.length) (fuel := 20000) (y := y) hv
  have h1000 : (valR l ns).2.1 ≤ 1000 := (evF_ok l l.length (l.length - 1) ns 20000 (fun a ha => by have := hs a ha; omega)).2 hv
  have hmost := mostL_max hs
  rw [← rankV_rk] at hbel
  have hR : evF l l.length (l.length - 1) ns 20000 = valR l ns := rfl
  rw [hR] at hbel
  refine fn_of0 comp7 (by simp) ?_
  unfold code7
  generalize (valR l ns).2.1 = v at *
  have g : (chk l != 0) = false := by simpa using hc
  have q0 : ((0 : Int) != 0) = false := by decide
  have q1 : ((0 : Int) == 0) = true := by decide
  have q7 : ((0 : Int) == 7) = false := by decide
  have q77 : ((7 : Int) == 7) = true := by decide
  have r1 : decide ((rankV l : Int) < 1) = false := by simp; omega
  have r2 : decide ((rankV l : Int) > 1000) = false := by simp; omega
  have s1 : decide ((v : Int) ≥ 0) = true := by simp
  have s2 : decide ((v : Int) ≤ 1000) = true := by simp; omega
  simp (maxSteps := 1000000) only [encF, encU, EA, EB, EC, ED, EE, EF, EG, EH, XA, XB, XC, XD, XE, XF, XG, XH, XI, XJ, XK, XL, XM, reduceIte, ↓reduceIte, Nat.reduceAdd, Nat.reduceLeDiff, Nat.reduceEqDiff, Nat.reduceLT, Nat.reduceSub, Nat.reduceBEq, forall_const, reduceCtorEq, implies_true, exists_eq_left', exists_eq_left, if_true, if_false, undef]
  refine callA (CallsA.args (v1) (by simp [encF, encU, EA, EB, EC, ED, EE, EF, EG, EH, XA, XB, XC, XD, XE, XF, XG, XH, XI, XJ, XK, XL, XM, reduceIte, ↓reduceIte, Nat.reduceAdd, Nat.reduceLeDiff, Nat.reduceEqDiff, Nat.reduceLT, Nat.reduceSub, Nat.reduceBEq, forall_const, reduceCtorEq, implies_true, exists_eq_left', exists_eq_left, if_true, if_false, undef])) rfl ?_
  simp (maxSteps := 1000000) only [encF, encU, EA, EB, EC, ED, EE, EF, EG, EH, XA, XB, XC, XD, XE, XF, XG, XH, XI, XJ, XK, XL, XM, reduceIte, ↓reduceIte, Nat.reduceAdd, Nat.reduceLeDiff, Nat.reduceEqDiff, Nat.reduceLT, Nat.reduceSub, Nat.reduceBEq, forall_const, reduceCtorEq, implies_true, exists_eq_left', exists_eq_left, if_true, if_false, undef]
  refine callA (CallsA.args (rank_spec l hc) (by simp [encF, encU, EA, EB, EC, ED, EE, EF, EG, EH, XA, XB, XC, XD, XE, XF, XG, XH, XI, XJ, XK, XL, XM, reduceIte, ↓reduceIte, Nat.reduceAdd, Nat.reduceLeDiff, Nat.reduceEqDiff, Nat.reduceLT, Nat.reduceSub, Nat.reduceBEq, forall_const, reduceCtorEq, implies_true, exists_eq_left', exists_eq_left, if_true, if_false, undef])) rfl ?_
  simp (maxSteps := 1000000) only [encF, encU, EA, EB, EC, ED, EE, EF, EG, EH, XA, XB, XC, XD, XE, XF, XG, XH, XI, XJ, XK, XL, XM, reduceIte, ↓reduceIte, Nat.reduceAdd, Nat.reduceLeDiff, Nat.reduceEqDiff, Nat.reduceLT, Nat.reduceSub, Nat.reduceBEq, forall_const, reduceCtorEq, implies_true, exists_eq_left', exists_eq_left, if_true, if_false, undef]
  refine callF (CallsA.args (refCheck_spec l hl hi) (by simp [encF, encU, EA, EB, EC, ED, EE, EF, EG, EH, XA, XB, XC, XD, XE, XF, XG, XH, XI, XJ, XK, XL, XM, reduceIte, ↓reduceIte, Nat.reduceAdd, Nat.reduceLeDiff, Nat.reduceEqDiff, Nat.reduceLT, Nat.reduceSub, Nat.reduceBEq, forall_const, reduceCtorEq, implies_true, exists_eq_left', exists_eq_left, if_true, if_false, undef])) rfl (by simp [flat, encF, encU, EA, EB, EC, ED, EE, EF, EG, EH, XA, XB, XC, XD, XE, XF, XG, XH, XI, XJ, XK, XL, XM, reduceIte, ↓reduceIte, Nat.reduceAdd, Nat.reduceLeDiff, Nat.reduceEqDiff, Nat.reduceLT, Nat.reduceSub, Nat.reduceBEq, forall_const, reduceCtorEq, implies_true, exists_eq_left', exists_eq_left, if_true, if_false, undef]) ?_
  have hal2 : ((ns.map IN).length : Int) = ns.length := by simp
  simp (maxSteps := 1000000) only [g, q0, q1, r1, r2, encF, encU, EA, EB, EC, ED, EE, EF, EG, EH, XA, XB, XC, XD, XE, XF, XG, XH, XI, XJ, XK, XL, XM, reduceIte, ↓reduceIte, Nat.reduceAdd, Nat.reduceLeDiff, Nat.reduceEqDiff, Nat.reduceLT, Nat.reduceSub, Nat.reduceBEq, forall_const, reduceCtorEq, implies_true, exists_eq_left', exists_eq_left, if_true, if_false, undef]
  refine loop0 Nat [50, 9] (fun k => [IN k, IN (mostL (ns.take k))]) (fun k => k ≤ ns.length) (fun k => ns.length - k) (by decide) 0 (by simp) (by simp [Back, BackF, fzT, fzM, fzU, fz, fzL, fzO, kin, SubT, Sub, SubL, SubM, SubO, keepM, srcOk, look, lookM, ev, evs, putT, argT, encF, encU, EA, EB, EC, ED, EE, EF, EG, EH, XA, XB, XC, XD, XE, XF, XG, XH, XI, XJ, XK, XL, XM, reduceIte, ↓reduceIte, Nat.reduceAdd, Nat.reduceLeDiff, Nat.reduceEqDiff, Nat.reduceLT, Nat.reduceSub, Nat.reduceBEq, forall_const, reduceCtorEq, implies_true, exists_eq_left', exists_eq_left, if_true, if_false, undef, mostL]) (fun k hk => ?_)
  by_cases c1 : k < ns.length
  · have f1 : decide ((k : Int) < (ns.length : Int)) = true := by simp [c1]
    have hw : IntKind.i64.wrap ((k : Int) + 1) = ((k + 1 : Nat) : Int) := by rw [wrap_id] <;> omega
    have hsn : mostL (ns.take (k + 1)) = max (mostL (ns.take k)) ns[k] := by
      rw [List.take_add_one, List.getElem?_eq_getElem c1]; exact mostL_snoc _ _
    have hmm := max_eq (mostL (ns.take k)) ns[k]
    rw [← hsn] at hmm
    simp (maxSteps := 1000000) only [hal2, f1, encF, encU, EA, EB, EC, ED, EE, EF, EG, EH, XA, XB, XC, XD, XE, XF, XG, XH, XI, XJ, XK, XL, XM, reduceIte, ↓reduceIte, Nat.reduceAdd, Nat.reduceLeDiff, Nat.reduceEqDiff, Nat.reduceLT, Nat.reduceSub, Nat.reduceBEq, forall_const, reduceCtorEq, implies_true, exists_eq_left', exists_eq_left, if_true, if_false, undef]
    refine ⟨by omega, pickM c1 ?_⟩
    generalize ns[k] = y at *
    by_cases hgt : (y : Int) > (mostL (ns.take k) : Int)
    · have g3 : decide ((y : Int) > (mostL (ns.take k) : Int)) = true := by simpa using hgt
      rw [if_pos hgt] at hmm
      simp (maxSteps := 1000000) only [g3, hw, encF, encU, EA, EB, EC, ED, EE, EF, EG, EH, XA, XB, XC, XD, XE, XF, XG, XH, XI, XJ, XK, XL, XM, reduceIte, ↓reduceIte, Nat.reduceAdd, Nat.reduceLeDiff, Nat.reduceEqDiff, Nat.reduceLT, Nat.reduceSub, Nat.reduceBEq, forall_const, reduceCtorEq, implies_true, exists_eq_left', exists_eq_left, if_true, if_false, undef]
      exact ⟨k + 1, by omega, by omega, by simp [Back, BackF, fzT, fzM, fzU, fz, fzL, fzO, kin, SubT, Sub, SubL, SubM, SubO, keepM, srcOk, look, lookM, ev, evs, putT, argT, encF, encU, EA, EB, EC, ED, EE, EF, EG, EH, XA, XB, XC, XD, XE, XF, XG, XH, XI, XJ, XK, XL, XM, reduceIte, ↓reduceIte, Nat.reduceAdd, Nat.reduceLeDiff, Nat.reduceEqDiff, Nat.reduceLT, Nat.reduceSub, Nat.reduceBEq, forall_const, reduceCtorEq, implies_true, exists_eq_left', exists_eq_left, if_true, if_false, undef, hmm]⟩
    · have g3 : decide ((y : Int) > (mostL (ns.take k) : Int)) = false := by simpa using hgt
      rw [if_neg hgt] at hmm
      simp (maxSteps := 1000000) only [g3, hw, encF, encU, EA, EB, EC, ED, EE, EF, EG, EH, XA, XB, XC, XD, XE, XF, XG, XH, XI, XJ, XK, XL, XM, reduceIte, ↓reduceIte, Nat.reduceAdd, Nat.reduceLeDiff, Nat.reduceEqDiff, Nat.reduceLT, Nat.reduceSub, Nat.reduceBEq, forall_const, reduceCtorEq, implies_true, exists_eq_left', exists_eq_left, if_true, if_false, undef]
      exact ⟨k + 1, by omega, by omega, by simp [Back, BackF, fzT, fzM, fzU, fz, fzL, fzO, kin, SubT, Sub, SubL, SubM, SubO, keepM, srcOk, look, lookM, ev, evs, putT, argT, encF, encU, EA, EB, EC, ED, EE, EF, EG, EH, XA, XB, XC, XD, XE, XF, XG, XH, XI, XJ, XK, XL, XM, reduceIte, ↓reduceIte, Nat.reduceAdd, Nat.reduceLeDiff, Nat.reduceEqDiff, Nat.reduceLT, Nat.reduceSub, Nat.reduceBEq, forall_const, reduceCtorEq, implies_true, exists_eq_left', exists_eq_left, if_true, if_false, undef, hmm]⟩
  have f1 : decide ((k : Int) < (ns.length : Int)) = false := by simp [c1]
  have : k = ns.length := by omega
  subst this
  rw [List.take_length]
  by_cases h4 : rankV l ≤ 4
  rotate_left
  · have r4 : decide ((rankV l : Int) > 4) = true := by simp; omega
    simp (maxSteps := 1000000) only [hal2, f1, r4, s1, s2, Bo, encF, encU, EA, EB, EC, ED, EE, EF, EG, EH, XA, XB, XC, XD, XE, XF, XG, XH, XI, XJ, XK, XL, XM, reduceIte, ↓reduceIte, Nat.reduceAdd, Nat.reduceLeDiff, Nat.reduceEqDiff, Nat.reduceLT, Nat.reduceSub, Nat.reduceBEq, forall_const, reduceCtorEq, implies_true, exists_eq_left', exists_eq_left, if_true, if_false, undef]
  have r4 : decide ((rankV l : Int) > 4) = false := by simp; omega
  have hb := hbel h4
  have hk := ackP_spec (rankV l) (mostL ns) h4
  generalize rankV l = r at *
  generalize mostL ns = M at *
  simp (maxSteps := 1000000) only [hal2, f1, r4, s1, s2, Bo, encF, encU, EA, EB, EC, ED, EE, EF, EG, EH, XA, XB, XC, XD, XE, XF, XG, XH, XI, XJ, XK, XL, XM, reduceIte, ↓reduceIte, Nat.reduceAdd, Nat.reduceLeDiff, Nat.reduceEqDiff, Nat.reduceLT, Nat.reduceSub, Nat.reduceBEq, forall_const, reduceCtorEq, implies_true, exists_eq_left', exists_eq_left, if_true, if_false, undef]
  refine callA (CallsA.args (hk) (by simp [encF, encU, EA, EB, EC, ED, EE, EF, EG, EH, XA, XB, XC, XD, XE, XF, XG, XH, XI, XJ, XK, XL, XM, reduceIte, ↓reduceIte, Nat.reduceAdd, Nat.reduceLeDiff, Nat.reduceEqDiff, Nat.reduceLT, Nat.reduceSub, Nat.reduceBEq, forall_const, reduceCtorEq, implies_true, exists_eq_left', exists_eq_left, if_true, if_false, undef])) rfl ?_
  cases hy : (rowC r)[M]? with
  | none =>
    rw [ackAns, hy]
    simp (maxSteps := 1000000) only [q0, q1, q7, q77, s1, s2, Bo, encF, encU, EA, EB, EC, ED, EE, EF, EG, EH, XA, XB, XC, XD, XE, XF, XG, XH, XI, XJ, XK, XL, XM, reduceIte, ↓reduceIte, Nat.reduceAdd, Nat.reduceLeDiff, Nat.reduceEqDiff, Nat.reduceLT, Nat.reduceSub, Nat.reduceBEq, forall_const, reduceCtorEq, implies_true, exists_eq_left', exists_eq_left, if_true, if_false, undef]
    exact ⟨_, rfl⟩
  | some y =>
    have hlt := hb y hy
    have s3 : decide ((v : Int) < (y : Int)) = true := by simp; omega
    rw [ackAns, hy]
    simp (maxSteps := 1000000) only [q0, q1, q7, q77, s1, s2, s3, Bo, encF, encU, EA, EB, EC, ED, EE, EF, EG, EH, XA, XB, XC, XD, XE, XF, XG, XH, XI, XJ, XK, XL, XM, reduceIte, ↓reduceIte, Nat.reduceAdd, Nat.reduceLeDiff, Nat.reduceEqDiff, Nat.reduceLT, Nat.reduceSub, Nat.reduceBEq, forall_const, reduceCtorEq, implies_true, exists_eq_left', exists_eq_left, if_true, if_false, undef]

def sh_FuncsBound : List Sh := [shFns, .slice 1 (.int .i64)]
theorem law_FuncsBound (xs : List AV) (h : HasAll sh_FuncsBound xs) : CallsA Try.prog 7 xs (.v (.bool true)) [] := by
  obtain ⟨x, r, rfl, hx, y, r, rfl, hy, rfl⟩ := h
  obtain ⟨l, rfl, hl, hi⟩ := hasFns hx
  obtain ⟨args, rfl, hal⟩ := hasInts hy
  by_cases hc : chk l = 0
  rotate_left
  · exact bound_chk l args hl hi hal hc
  by_cases he : valE l args = 0
  rotate_left
  · exact bound_err l args hl hi hal hc _ he (value_err l args hal he)
  have hE := he
  rw [valE, if_neg (by simpa using hc)] at hE
  by_cases hla : (args.length : Int) = lastA l
  rotate_left
  · rw [if_pos hla] at hE; cases hE
  rw [if_neg (by simpa using hla)] at hE
  have hany : args.any argBad = false := by
    cases hb : args.any argBad with
    | false => rfl
    | true => rw [if_pos hb] at hE; cases hE
  obtain ⟨ns, rfl, hs⟩ := args_nat hany
  have hm : (ns.map (fun n : Nat => (n : Int))).map I = ns.map IN := by simp [Function.comp_def, IN]
  have hla2 : (ns.length : Int) = lastA l := by rw [← hla]; simp
  by_cases hv : (valR l ns).1 = true
  · rw [hm]; exact bound_ok l ns hl hi hs hc hla2 hv
  · have v1 := value_spec l ns hs hc hla2
    rw [valAns, if_neg hv] at v1
    refine bound_err l _ hl hi hal hc 7 (by decide) ?_
    rw [hm]; exact v1

end Go.Av
namespace Go.Proofs.Ytpkgddjmhgcjjaa
open Go.ChangeShapes Go.WideShapes Go.ChangeAt Go.RowKit
open Go.Av (open_all shut_all OldS HasAll Sh CallsA shAll)

theorem own : ownKnob Try.prog.godebug = none := by kernel_rfl
theorem laidOut : laidOutB Try.prog = true := by kernel_rfl
theorem shs_eq : shAll Try.prog 12 Try.f7.params.toList = some Go.Av.sh_FuncsBound := by kernel_rfl
theorem readable : (Try.f7.params.toList.all fun t => Try.prog.readableRec t && decide (t < Try.prog.types.size)) = true := by kernel_rfl

theorem lifted (os : Os) (started : os.Started) (H : Type) (enc : TypeId × Value → H) :
    ReturnsInHanded {} Try.checked os 7 .any (Rows.funcsBoundSpec.pre6 enc Try.prog Try.f7 Rows.funcsBoundRow.domain false) (Rows.funcsBoundSpec.post enc Try.prog Try.f7 false true false false) := by
  refine returnsInHanded_of_change (C := Try.checked) own started (by kernel_rfl) Try.func7
    (ChangeSpec.witness6 (enc := enc) (C := Try.checked) false ⟨#[], #[.slice none 0 0, .slice none 0 0], []⟩ 8 (by kernel_rfl) (by kernel_rfl) (by kernel_rfl) (by kernel_rfl)) ?_
  intro W base args ds gs before hval0 hW hcnd _
  have hval : ∀ (j : Nat) t v, Try.f7.params[j]? = some t → args[j]? = some v → Value.okWide Try.prog W .any base t v := hval0
  have hW' := hW
  obtain ⟨p, q, hA0, hV, rfl, hfz, hnd⟩ := hW
  have hA : DataW.TrodAll enc Try.prog W 0 (fun _ => true) true Try.f7.params.toList args.toList ds p := hA0
  obtain ⟨xs, hxs, hlen, hR⟩ := open_all (g := 12) _ _ _ _ Go.Av.sh_FuncsBound hA (fun j t v ht hv => hval j t v (by simpa using ht) (by simpa using hv)) shs_eq
  obtain ⟨rfl, rfl⟩ := trodVars_none hV
  have hB := hA
  rw [Try.params7] at hB
  obtain ⟨v0, vs0, d0, ds0, p0, q0, hargs0, rfl, rfl, h0, r0⟩ := trodAll_cons hB
  obtain ⟨v1, vs1, d1, ds1, p1, q1, hargs1, rfl, rfl, h1, r1⟩ := trodAll_cons r0
  obtain ⟨rfl, rfl, rfl⟩ := trodAll_nil r1
  refine ((Go.Av.law_FuncsBound xs hxs).2 W (OldS W) args ⟨fun _ h => h, fun g cs hm => by simp [Go.Av.globs] at hm⟩ (by simpa using hlen) (fun i x y h1 h2 => hR i x y h1 (by simpa using h2))).mono ?_
  rintro e W' ⟨v, S', κ', rfl, hv, _, _, _, bel⟩
  rw [hv.v_inv]
  exact ⟨_, rfl, _, _, _, [], _, [], hW', trodAll_mk1 (shut_bool Try.underlying4 _), shut_all laidOut bel _ _ _ _ (fun t ht => by
    have := (List.all_eq_true.1 readable) t ht
    simpa using this) hA, rfl, bel.frame _, fun h => by cases h⟩

theorem funcsBound_holds : Rows.FuncsBoundSaid :=
  OpenClaim.holds_of_wide 7 Try.f7 rfl rfl rfl rfl rfl rfl rfl ⟨rfl, rfl, rfl, rfl, rfl⟩ rfl rfl rfl rfl rfl (by kernel_rfl) Try.func7 (by kernel_rfl)
    (of_decide_eq_true (by kernel_rfl)) (by unfold Func.isWrapper; first | (rw [if_pos (by decide +kernel)]; kernel_rfl) | (rw [if_neg (by decide +kernel)]; exact ⟨rfl, rfl⟩))
    (fun os started H enc _ => lifted os started H enc)

end Go.Proofs.Ytpkgddjmhgcjjaa
