/- The two numbers of any number are those whose pairing it is, or there are none; for all arguments. -/
import Derived.Test.YtpfeliiankfmbaaPair
import Derived.Test.YtpfeliiankfmbaaRows
import Derived.ProofKit
set_option linter.unusedSimpArgs false
set_option linter.unusedVariables false
set_option maxRecDepth 100000
namespace Go.Av
open Go.Proofs

theorem wf64 {n : Int} (h : (Lit.int .i64 n).wf = true) : -(2 ^ 63) ≤ n ∧ n < 2 ^ 63 := by
  simp [Lit.wf, IntKind.min, IntKind.max, IntKind.bits, IntKind.signed] at h; omega
/-- the greatest sum: what the search holds -/
theorem great {n k s : Nat} (h1 : tri k ≤ n) (h2 : n < tri (k + 1)) : tri s ≤ n ↔ s ≤ k := by
  constructor
  · intro h
    rcases Nat.lt_or_ge k s with hh | hh
    · have := tri_mono (s := k + 1) (t := s) (by omega); omega
    · exact hh
  · intro h; have := tri_mono h; omega

theorem pairOpens_spec (n : Int) (hn : n < 2 ^ 63) : CallsA Try.prog 4 [I n] (Bo true) [] := by
  refine fn_of0 comp4 (by simp) ?_
  unfold code4
  have e00 : ((0 : Int) == 0) = true := by decide
  have n44 : ((4 : Int) != 4) = false := by decide
  have n40 : ((4 : Int) != 0) = true := by decide
  have n00 : ((0 : Int) != 0) = false := by decide
  simp (maxSteps := 1000000) only [EA, EB, EC, ED, EE, EF, EG, EH, XA, XB, XC, XD, XE, XF, XG, XH, XI, XJ, XK, XL, XM, reduceIte, ↓reduceIte, Nat.reduceAdd, Nat.reduceLeDiff, Nat.reduceEqDiff, Nat.reduceLT, Nat.reduceSub, Nat.reduceBEq, forall_const, reduceCtorEq, implies_true, exists_eq_left', exists_eq_left, if_true, if_false, undef]
  rcases open_cases n hn with ⟨a, b, ha, hb, rfl, hc⟩ | ⟨hno, hc⟩
  · have g1 : decide (0 ≤ (a : Int) ∧ (a : Int) ≤ 1000000) = true := by rw [decide_eq_true_iff]; omega
    have g2 : decide (0 ≤ (b : Int) ∧ (b : Int) ≤ 1000000) = true := by rw [decide_eq_true_iff]; omega
    have hb := mul_bound (s := a + b) (n := 2000000) (by omega)
    have hb2 := tri_bound (s := a + b) (n := 2000000) (by omega)
    have ht : tri 2000000 = 2000001000000 := by decide
    have w1 : IntKind.i64.wrap ((a : Int) + (b : Int)) = ((a + b : Nat) : Int) := by rw [wrap_id] <;> omega
    have w2 : IntKind.i64.wrap (((a + b : Nat) : Int) + 1) = ((a + b + 1 : Nat) : Int) := by rw [wrap_id] <;> omega
    have w3 : IntKind.i64.wrap (((a + b : Nat) : Int) * ((a + b + 1 : Nat) : Int)) = (((a + b) * (a + b + 1) : Nat) : Int) := by rw [← Int.natCast_mul, wrap_id] <;> omega
    have w4 : IntKind.i64.wrap (Int.tdiv (((a + b) * (a + b + 1) : Nat) : Int) 2) = (tri (a + b) : Int) := by
      have : Int.tdiv (((a + b) * (a + b + 1) : Nat) : Int) 2 = (tri (a + b) : Int) := by rw [tri]; rfl
      rw [this, wrap_id] <;> omega
    have w5 : IntKind.i64.wrap ((tri (a + b) : Int) + (b : Int)) = ((tri (a + b) + b : Nat) : Int) := by rw [wrap_id] <;> omega
    have e1 : (((tri (a + b) + b : Nat) : Int) == ((tri (a + b) + b : Nat) : Int)) = true := by simp
    refine callA (CallsA.args (hc) (by simp [EA, EB, EC, ED, EE, EF, EG, EH, XA, XB, XC, XD, XE, XF, XG, XH, XI, XJ, XK, XL, XM, reduceIte, ↓reduceIte, Nat.reduceAdd, Nat.reduceLeDiff, Nat.reduceEqDiff, Nat.reduceLT, Nat.reduceSub, Nat.reduceBEq, forall_const, reduceCtorEq, implies_true, exists_eq_left', exists_eq_left, if_true, if_false, undef])) rfl ?_
    simp (maxSteps := 1000000) only [n00, EA, EB, EC, ED, EE, EF, EG, EH, XA, XB, XC, XD, XE, XF, XG, XH, XI, XJ, XK, XL, XM, reduceIte, ↓reduceIte, Nat.reduceAdd, Nat.reduceLeDiff, Nat.reduceEqDiff, Nat.reduceLT, Nat.reduceSub, Nat.reduceBEq, forall_const, reduceCtorEq, implies_true, exists_eq_left', exists_eq_left, if_true, if_false, undef]
    refine callF (CallsA.args (within_spec 0 (a : Int) 1000000) (by simp [EA, EB, EC, ED, EE, EF, EG, EH, XA, XB, XC, XD, XE, XF, XG, XH, XI, XJ, XK, XL, XM, reduceIte, ↓reduceIte, Nat.reduceAdd, Nat.reduceLeDiff, Nat.reduceEqDiff, Nat.reduceLT, Nat.reduceSub, Nat.reduceBEq, forall_const, reduceCtorEq, implies_true, exists_eq_left', exists_eq_left, if_true, if_false, undef])) rfl (by simp [flat, EA, EB, EC, ED, EE, EF, EG, EH, XA, XB, XC, XD, XE, XF, XG, XH, XI, XJ, XK, XL, XM, reduceIte, ↓reduceIte, Nat.reduceAdd, Nat.reduceLeDiff, Nat.reduceEqDiff, Nat.reduceLT, Nat.reduceSub, Nat.reduceBEq, forall_const, reduceCtorEq, implies_true, exists_eq_left', exists_eq_left, if_true, if_false, undef]) ?_
    simp (maxSteps := 1000000) only [g1, Bo, EA, EB, EC, ED, EE, EF, EG, EH, XA, XB, XC, XD, XE, XF, XG, XH, XI, XJ, XK, XL, XM, reduceIte, ↓reduceIte, Nat.reduceAdd, Nat.reduceLeDiff, Nat.reduceEqDiff, Nat.reduceLT, Nat.reduceSub, Nat.reduceBEq, forall_const, reduceCtorEq, implies_true, exists_eq_left', exists_eq_left, if_true, if_false, undef]
    refine callF (CallsA.args (within_spec 0 (b : Int) 1000000) (by simp [EA, EB, EC, ED, EE, EF, EG, EH, XA, XB, XC, XD, XE, XF, XG, XH, XI, XJ, XK, XL, XM, reduceIte, ↓reduceIte, Nat.reduceAdd, Nat.reduceLeDiff, Nat.reduceEqDiff, Nat.reduceLT, Nat.reduceSub, Nat.reduceBEq, forall_const, reduceCtorEq, implies_true, exists_eq_left', exists_eq_left, if_true, if_false, undef])) rfl (by simp [flat, EA, EB, EC, ED, EE, EF, EG, EH, XA, XB, XC, XD, XE, XF, XG, XH, XI, XJ, XK, XL, XM, reduceIte, ↓reduceIte, Nat.reduceAdd, Nat.reduceLeDiff, Nat.reduceEqDiff, Nat.reduceLT, Nat.reduceSub, Nat.reduceBEq, forall_const, reduceCtorEq, implies_true, exists_eq_left', exists_eq_left, if_true, if_false, undef]) ?_
    simp (maxSteps := 1000000) only [g2, Bo, w1, w2, w3, w4, w5, e1, EA, EB, EC, ED, EE, EF, EG, EH, XA, XB, XC, XD, XE, XF, XG, XH, XI, XJ, XK, XL, XM, reduceIte, ↓reduceIte, Nat.reduceAdd, Nat.reduceLeDiff, Nat.reduceEqDiff, Nat.reduceLT, Nat.reduceSub, Nat.reduceBEq, forall_const, reduceCtorEq, implies_true, exists_eq_left', exists_eq_left, if_true, if_false, undef]
    decide
  refine callA (CallsA.args (hc) (by simp [EA, EB, EC, ED, EE, EF, EG, EH, XA, XB, XC, XD, XE, XF, XG, XH, XI, XJ, XK, XL, XM, reduceIte, ↓reduceIte, Nat.reduceAdd, Nat.reduceLeDiff, Nat.reduceEqDiff, Nat.reduceLT, Nat.reduceSub, Nat.reduceBEq, forall_const, reduceCtorEq, implies_true, exists_eq_left', exists_eq_left, if_true, if_false, undef])) rfl ?_
  simp (maxSteps := 1000000) only [n00, n40, n44, EA, EB, EC, ED, EE, EF, EG, EH, XA, XB, XC, XD, XE, XF, XG, XH, XI, XJ, XK, XL, XM, reduceIte, ↓reduceIte, Nat.reduceAdd, Nat.reduceLeDiff, Nat.reduceEqDiff, Nat.reduceLT, Nat.reduceSub, Nat.reduceBEq, forall_const, reduceCtorEq, implies_true, exists_eq_left', exists_eq_left, if_true, if_false, undef]
  by_cases h1 : n < 0
  · have f1 : decide (n < 0) = true := by simp [h1]
    simp (maxSteps := 1000000) only [f1, Bo, EA, EB, EC, ED, EE, EF, EG, EH, XA, XB, XC, XD, XE, XF, XG, XH, XI, XJ, XK, XL, XM, reduceIte, ↓reduceIte, Nat.reduceAdd, Nat.reduceLeDiff, Nat.reduceEqDiff, Nat.reduceLT, Nat.reduceSub, Nat.reduceBEq, forall_const, reduceCtorEq, implies_true, exists_eq_left', exists_eq_left, if_true, if_false, undef]
  have f1 : decide (n < 0) = false := by simp; omega
  by_cases h2 : n > 4000000000000
  · have f2 : decide (n > 4000000000000) = true := by simp; omega
    simp (maxSteps := 1000000) only [f1, f2, Bo, EA, EB, EC, ED, EE, EF, EG, EH, XA, XB, XC, XD, XE, XF, XG, XH, XI, XJ, XK, XL, XM, reduceIte, ↓reduceIte, Nat.reduceAdd, Nat.reduceLeDiff, Nat.reduceEqDiff, Nat.reduceLT, Nat.reduceSub, Nat.reduceBEq, forall_const, reduceCtorEq, implies_true, exists_eq_left', exists_eq_left, if_true, if_false, undef]
  have f2 : decide (n > 4000000000000) = false := by simp; omega
  obtain ⟨m, rfl⟩ : ∃ m : Nat, n = m := ⟨n.toNat, by omega⟩
  obtain ⟨k, k1, k2, k3⟩ := tri_root m 2147483648
  have ht : tri 2147483648 = 2305843010287435776 := by decide
  have ht1 : tri 4000000 = 8000002000000 := by decide
  have hk : k < 4000000 := by
    rcases Nat.lt_or_ge k 4000000 with h | h
    · exact h
    · have := tri_mono h; omega
  have k3 := k3 (by omega)
  have hg : ∀ s, tri s ≤ m ↔ s ≤ k := fun s => great k2 k3
  simp (maxSteps := 1000000) only [f1, f2, EA, EB, EC, ED, EE, EF, EG, EH, XA, XB, XC, XD, XE, XF, XG, XH, XI, XJ, XK, XL, XM, reduceIte, ↓reduceIte, Nat.reduceAdd, Nat.reduceLeDiff, Nat.reduceEqDiff, Nat.reduceLT, Nat.reduceSub, Nat.reduceBEq, forall_const, reduceCtorEq, implies_true, exists_eq_left', exists_eq_left, if_true, if_false, undef]
  refine loop0 (Nat × Nat) [6, 7] (fun s => [IN s.1, IN (if s.2 = 0 then 0 else 2 ^ (s.2 - 1))]) (fun s => s.1 ≤ k ∧ k < s.1 + 2 ^ s.2 ∧ s.2 ≤ 41) (fun s => s.2) (by decide) (0, 41) (by simp; omega) (by simp [Back, BackF, fzT, fzM, fzU, fz, fzL, fzO, kin, SubT, Sub, SubL, SubM, SubO, keepM, srcOk, look, lookM, ev, evs, putT, argT, EA, EB, EC, ED, EE, EF, EG, EH, XA, XB, XC, XD, XE, XF, XG, XH, XI, XJ, XK, XL, XM, reduceIte, ↓reduceIte, Nat.reduceAdd, Nat.reduceLeDiff, Nat.reduceEqDiff, Nat.reduceLT, Nat.reduceSub, Nat.reduceBEq, forall_const, reduceCtorEq, implies_true, exists_eq_left', exists_eq_left, if_true, if_false, undef]) ?_
  rintro ⟨s, j⟩ ⟨h3, h4, h5⟩
  simp only at h3 h4 h5
  cases j with
  | zero =>
    obtain rfl : s = k := by simp at h4; omega
    have g1 : decide (((0 : Nat) : Int) > 0) = false := by decide
    have hb := mul_bound (s := s) (n := 4000000) (by omega)
    have hb2 := tri_bound (s := s) (n := 4000000) (by omega)
    rw [tri_succ] at k3
    have w2 : IntKind.i64.wrap ((s : Int) + 1) = ((s + 1 : Nat) : Int) := by rw [wrap_id] <;> omega
    have w3 : IntKind.i64.wrap ((s : Int) * ((s + 1 : Nat) : Int)) = ((s * (s + 1) : Nat) : Int) := by rw [← Int.natCast_mul, wrap_id] <;> omega
    have w4 : IntKind.i64.wrap (Int.tdiv ((s * (s + 1) : Nat) : Int) 2) = (tri s : Int) := by
      have : Int.tdiv ((s * (s + 1) : Nat) : Int) 2 = (tri s : Int) := by rw [tri]; rfl
      rw [this, wrap_id] <;> omega
    have w5 : IntKind.i64.wrap ((m : Int) - (tri s : Int)) = ((m - tri s : Nat) : Int) := by rw [wrap_id] <;> omega
    have w6 : IntKind.i64.wrap ((s : Int) - ((m - tri s : Nat) : Int)) = ((s - (m - tri s) : Nat) : Int) := by rw [wrap_id] <;> omega
    have z2 : (2 : Int) ≠ 0 := by decide
    simp (maxSteps := 1000000) only [g1, w2, w3, w4, w5, w6, EA, EB, EC, ED, EE, EF, EG, EH, XA, XB, XC, XD, XE, XF, XG, XH, XI, XJ, XK, XL, XM, reduceIte, ↓reduceIte, Nat.reduceAdd, Nat.reduceLeDiff, Nat.reduceEqDiff, Nat.reduceLT, Nat.reduceSub, Nat.reduceBEq, forall_const, reduceCtorEq, implies_true, exists_eq_left', exists_eq_left, if_true, if_false, undef]
    by_cases c1 : m - tri s > 1000000
    · have q1 : decide (((m - tri s : Nat) : Int) > 1000000) = true := by simp only [decide_eq_true_eq]; omega
      simp (maxSteps := 1000000) only [q1, Bo, EA, EB, EC, ED, EE, EF, EG, EH, XA, XB, XC, XD, XE, XF, XG, XH, XI, XJ, XK, XL, XM, reduceIte, ↓reduceIte, Nat.reduceAdd, Nat.reduceLeDiff, Nat.reduceEqDiff, Nat.reduceLT, Nat.reduceSub, Nat.reduceBEq, forall_const, reduceCtorEq, implies_true, exists_eq_left', exists_eq_left, if_true, if_false, undef]
      decide
    have q1 : decide (((m - tri s : Nat) : Int) > 1000000) = false := by simp only [decide_eq_false_iff_not]; omega
    by_cases c2 : s - (m - tri s) > 1000000
    · have q2 : decide (((s - (m - tri s) : Nat) : Int) > 1000000) = true := by simp only [decide_eq_true_eq]; omega
      simp (maxSteps := 1000000) only [q1, w6, q2, Bo, EA, EB, EC, ED, EE, EF, EG, EH, XA, XB, XC, XD, XE, XF, XG, XH, XI, XJ, XK, XL, XM, reduceIte, ↓reduceIte, Nat.reduceAdd, Nat.reduceLeDiff, Nat.reduceEqDiff, Nat.reduceLT, Nat.reduceSub, Nat.reduceBEq, forall_const, reduceCtorEq, implies_true, exists_eq_left', exists_eq_left, if_true, if_false, undef]
      decide
    have := hno (s - (m - tri s)) (m - tri s) (by omega) (by omega)
    have e1 : s - (m - tri s) + (m - tri s) = s := by omega
    rw [e1] at this
    omega
  | succ j =>
    have hp : 2 ^ (j + 1) = 2 * 2 ^ j := by rw [Nat.pow_succ]; omega
    have hp0 : 0 < 2 ^ j := Nat.two_pow_pos j
    have hp4 : 2 ^ j ≤ 2 ^ 40 := Nat.pow_le_pow_right (by omega) (by omega)
    have hq : (if j + 1 = 0 then 0 else 2 ^ (j + 1 - 1)) = 2 ^ j := by simp
    have hh : Int.tdiv ((2 ^ j : Nat) : Int) 2 = ((if j = 0 then 0 else 2 ^ (j - 1) : Nat) : Int) := by
      have e1 : Int.tdiv ((2 ^ j : Nat) : Int) 2 = ((2 ^ j / 2 : Nat) : Int) := rfl
      rw [e1]
      cases j with
      | zero => rfl
      | succ j => simp [Nat.pow_succ]
    have hle : (if j = 0 then 0 else 2 ^ (j - 1)) ≤ 2 ^ j := by
      split
      · omega
      · exact Nat.pow_le_pow_right (by omega) (by omega)
    rw [hp] at h4
    simp only [hq]
    have hpp : ∃ p : Nat, p = 2 ^ j := ⟨_, rfl⟩
    generalize hP : (if j = 0 then 0 else 2 ^ (j - 1)) = P at *
    have wh : IntKind.i64.wrap (P : Int) = (P : Int) := by rw [wrap_id] <;> omega
    have g1 : decide (((2 ^ j : Nat) : Int) > 0) = true := by simp only [decide_eq_true_eq]; omega
    have w1 : IntKind.i64.wrap ((s : Int) + ((2 ^ j : Nat) : Int)) = ((s + 2 ^ j : Nat) : Int) := by rw [wrap_id] <;> omega
    have next1 : s + 2 ^ j ≤ k → ∃ x' : Nat × Nat, (x'.1 ≤ k ∧ k < x'.1 + 2 ^ x'.2 ∧ x'.2 ≤ 41) ∧ x'.2 < j + 1 ∧ x' = (s + 2 ^ j, j) := fun h => ⟨(s + 2 ^ j, j), ⟨h, by simp only; omega, by simp only; omega⟩, by simp only; omega, rfl⟩
    simp (maxSteps := 1000000) only [g1, w1, EA, EB, EC, ED, EE, EF, EG, EH, XA, XB, XC, XD, XE, XF, XG, XH, XI, XJ, XK, XL, XM, reduceIte, ↓reduceIte, Nat.reduceAdd, Nat.reduceLeDiff, Nat.reduceEqDiff, Nat.reduceLT, Nat.reduceSub, Nat.reduceBEq, forall_const, reduceCtorEq, implies_true, exists_eq_left', exists_eq_left, if_true, if_false, undef]
    by_cases c1 : s + 2 ^ j ≤ 2147483648
    · have q1 : decide (((s + 2 ^ j : Nat) : Int) ≤ 2147483648) = true := by simp only [decide_eq_true_eq]; omega
      have hb := mul_bound c1
      have hb2 := tri_bound c1
      have w2 : IntKind.i64.wrap (((s + 2 ^ j : Nat) : Int) + 1) = ((s + 2 ^ j + 1 : Nat) : Int) := by rw [wrap_id] <;> omega
      have w3 : IntKind.i64.wrap (((s + 2 ^ j : Nat) : Int) * ((s + 2 ^ j + 1 : Nat) : Int)) = (((s + 2 ^ j) * (s + 2 ^ j + 1) : Nat) : Int) := by rw [← Int.natCast_mul, wrap_id] <;> omega
      have w4 : IntKind.i64.wrap (Int.tdiv (((s + 2 ^ j) * (s + 2 ^ j + 1) : Nat) : Int) 2) = (tri (s + 2 ^ j) : Int) := by
        have : Int.tdiv (((s + 2 ^ j) * (s + 2 ^ j + 1) : Nat) : Int) 2 = (tri (s + 2 ^ j) : Int) := by rw [tri]; rfl
        rw [this, wrap_id] <;> omega
      simp (maxSteps := 1000000) only [q1, w2, w3, w4, EA, EB, EC, ED, EE, EF, EG, EH, XA, XB, XC, XD, XE, XF, XG, XH, XI, XJ, XK, XL, XM, reduceIte, ↓reduceIte, Nat.reduceAdd, Nat.reduceLeDiff, Nat.reduceEqDiff, Nat.reduceLT, Nat.reduceSub, Nat.reduceBEq, forall_const, reduceCtorEq, implies_true, exists_eq_left', exists_eq_left, if_true, if_false, undef]
      refine ⟨by decide, ?_⟩
      by_cases c2 : tri (s + 2 ^ j) ≤ m
      · have q2 : decide ((tri (s + 2 ^ j) : Int) ≤ (m : Int)) = true := by simp only [decide_eq_true_eq]; omega
        have hk2 := (hg _).1 c2
        simp (maxSteps := 1000000) only [w2, w3, w4, q2, w1, hh, wh, EA, EB, EC, ED, EE, EF, EG, EH, XA, XB, XC, XD, XE, XF, XG, XH, XI, XJ, XK, XL, XM, reduceIte, ↓reduceIte, Nat.reduceAdd, Nat.reduceLeDiff, Nat.reduceEqDiff, Nat.reduceLT, Nat.reduceSub, Nat.reduceBEq, forall_const, reduceCtorEq, implies_true, exists_eq_left', exists_eq_left, if_true, if_false, undef]
        exact ⟨by decide, (s + 2 ^ j, j), ⟨hk2, by simp only; omega, by simp only; omega⟩, by simp only; omega, by simp [Back, BackF, fzT, fzM, fzU, fz, fzL, fzO, kin, SubT, Sub, SubL, SubM, SubO, keepM, srcOk, look, lookM, ev, evs, putT, argT, EA, EB, EC, ED, EE, EF, EG, EH, XA, XB, XC, XD, XE, XF, XG, XH, XI, XJ, XK, XL, XM, reduceIte, ↓reduceIte, Nat.reduceAdd, Nat.reduceLeDiff, Nat.reduceEqDiff, Nat.reduceLT, Nat.reduceSub, Nat.reduceBEq, forall_const, reduceCtorEq, implies_true, exists_eq_left', exists_eq_left, if_true, if_false, undef, hP]⟩
      · have q2 : decide ((tri (s + 2 ^ j) : Int) ≤ (m : Int)) = false := by simp only [decide_eq_false_iff_not]; omega
        have hk2 : ¬ s + 2 ^ j ≤ k := fun h => c2 ((hg _).2 h)
        simp (maxSteps := 1000000) only [w2, w3, w4, q2, w1, hh, wh, EA, EB, EC, ED, EE, EF, EG, EH, XA, XB, XC, XD, XE, XF, XG, XH, XI, XJ, XK, XL, XM, reduceIte, ↓reduceIte, Nat.reduceAdd, Nat.reduceLeDiff, Nat.reduceEqDiff, Nat.reduceLT, Nat.reduceSub, Nat.reduceBEq, forall_const, reduceCtorEq, implies_true, exists_eq_left', exists_eq_left, if_true, if_false, undef]
        exact ⟨by decide, (s, j), ⟨h3, by simp only; omega, by simp only; omega⟩, by simp only; omega, by simp [Back, BackF, fzT, fzM, fzU, fz, fzL, fzO, kin, SubT, Sub, SubL, SubM, SubO, keepM, srcOk, look, lookM, ev, evs, putT, argT, EA, EB, EC, ED, EE, EF, EG, EH, XA, XB, XC, XD, XE, XF, XG, XH, XI, XJ, XK, XL, XM, reduceIte, ↓reduceIte, Nat.reduceAdd, Nat.reduceLeDiff, Nat.reduceEqDiff, Nat.reduceLT, Nat.reduceSub, Nat.reduceBEq, forall_const, reduceCtorEq, implies_true, exists_eq_left', exists_eq_left, if_true, if_false, undef, hP]⟩
    · have q1 : decide (((s + 2 ^ j : Nat) : Int) ≤ 2147483648) = false := by simp only [decide_eq_false_iff_not]; omega
      simp (maxSteps := 1000000) only [q1, w1, hh, wh, EA, EB, EC, ED, EE, EF, EG, EH, XA, XB, XC, XD, XE, XF, XG, XH, XI, XJ, XK, XL, XM, reduceIte, ↓reduceIte, Nat.reduceAdd, Nat.reduceLeDiff, Nat.reduceEqDiff, Nat.reduceLT, Nat.reduceSub, Nat.reduceBEq, forall_const, reduceCtorEq, implies_true, exists_eq_left', exists_eq_left, if_true, if_false, undef]
      exact ⟨by decide, (s, j), ⟨h3, by simp only; omega, by simp only; omega⟩, by simp only; omega, by simp [Back, BackF, fzT, fzM, fzU, fz, fzL, fzO, kin, SubT, Sub, SubL, SubM, SubO, keepM, srcOk, look, lookM, ev, evs, putT, argT, EA, EB, EC, ED, EE, EF, EG, EH, XA, XB, XC, XD, XE, XF, XG, XH, XI, XJ, XK, XL, XM, reduceIte, ↓reduceIte, Nat.reduceAdd, Nat.reduceLeDiff, Nat.reduceEqDiff, Nat.reduceLT, Nat.reduceSub, Nat.reduceBEq, forall_const, reduceCtorEq, implies_true, exists_eq_left', exists_eq_left, if_true, if_false, undef, hP]⟩

def sh_PairOpens : List Sh := [.int .i64]
theorem law_PairOpens (xs : List AV) (h : HasAll sh_PairOpens xs) : CallsA Try.prog 4 xs (.v (.bool true)) [] := by
  obtain ⟨x, r, rfl, hx, rfl⟩ := h
  obtain ⟨c, rfl, hc⟩ := hasInt hx
  exact pairOpens_spec c (wf64 hc).2

end Go.Av
namespace Go.Proofs.Ytpfeliiankfmbaa
open Go.ChangeShapes Go.WideShapes Go.ChangeAt Go.RowKit
open Go.Av (open_all shut_all OldS HasAll Sh CallsA shAll)

theorem own : ownKnob Try.prog.godebug = none := by kernel_rfl
theorem laidOut : laidOutB Try.prog = true := by kernel_rfl
theorem shs_eq : shAll Try.prog 12 Try.f4.params.toList = some Go.Av.sh_PairOpens := by kernel_rfl
theorem readable : (Try.f4.params.toList.all fun t => Try.prog.readableRec t && decide (t < Try.prog.types.size)) = true := by kernel_rfl

theorem lifted (os : Os) (started : os.Started) (H : Type) (enc : TypeId × Value → H) :
    ReturnsInHanded {} Try.checked os 4 .any (Rows.pairOpensSpec.pre6 enc Try.prog Try.f4 Rows.pairOpensRow.domain false) (Rows.pairOpensSpec.post enc Try.prog Try.f4 false true false false) := by
  refine returnsInHanded_of_change (C := Try.checked) own started (by kernel_rfl) Try.func4
    (ChangeSpec.witness6 (enc := enc) (C := Try.checked) false ⟨#[], #[.int .i64 0], []⟩ 8 (by kernel_rfl) (by kernel_rfl) (by kernel_rfl) (by kernel_rfl)) ?_
  intro W base args ds gs before hval0 hW hcnd _
  have hval : ∀ (j : Nat) t v, Try.f4.params[j]? = some t → args[j]? = some v → Value.okWide Try.prog W .any base t v := hval0
  have hW' := hW
  obtain ⟨p, q, hA0, hV, rfl, hfz, hnd⟩ := hW
  have hA : DataW.TrodAll enc Try.prog W 0 (fun _ => true) true Try.f4.params.toList args.toList ds p := hA0
  obtain ⟨xs, hxs, hlen, hR⟩ := open_all (g := 12) _ _ _ _ Go.Av.sh_PairOpens hA (fun j t v ht hv => hval j t v (by simpa using ht) (by simpa using hv)) shs_eq
  obtain ⟨rfl, rfl⟩ := trodVars_none hV
  have hB := hA
  rw [Try.params4] at hB
  obtain ⟨v0, vs0, d0, ds0, p0, q0, hargs0, rfl, rfl, h0, r0⟩ := trodAll_cons hB
  obtain ⟨rfl, rfl, rfl⟩ := trodAll_nil r0
  refine ((Go.Av.law_PairOpens xs hxs).2 W (OldS W) args ⟨fun _ h => h, fun g cs hm => by simp [Go.Av.globs] at hm⟩ (by simpa using hlen) (fun i x y h1 h2 => hR i x y h1 (by simpa using h2))).mono ?_
  rintro e W' ⟨v, S', κ', rfl, hv, _, _, _, bel⟩
  rw [hv.v_inv]
  exact ⟨_, rfl, _, _, _, [], _, [], hW', trodAll_mk1 (shut_bool Try.underlying4 _), shut_all laidOut bel _ _ _ _ (fun t ht => by
    have := (List.all_eq_true.1 readable) t ht
    simpa using this) hA, rfl, bel.frame _, fun h => by cases h⟩

theorem pairOpens_holds : Rows.PairOpensSaid :=
  OpenClaim.holds_of_wide 4 Try.f4 rfl rfl rfl rfl rfl rfl rfl ⟨rfl, rfl, rfl, rfl, rfl⟩ rfl rfl rfl rfl rfl (by kernel_rfl) Try.func4 (by kernel_rfl)
    (of_decide_eq_true (by kernel_rfl)) (by unfold Func.isWrapper; first | (rw [if_pos (by decide +kernel)]; kernel_rfl) | (rw [if_neg (by decide +kernel)]; exact ⟨rfl, rfl⟩))
    (fun os started H enc _ => lifted os started H enc)

end Go.Proofs.Ytpfeliiankfmbaa
