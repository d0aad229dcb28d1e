/- The encoding of pairs: the functions. -/
import Derived.Test.YtpfeliiankfmbaaHas
set_option linter.unusedSimpArgs false
set_option linter.unusedVariables false
set_option maxRecDepth 100000
namespace Go.Av
open Go.Proofs

/-- how many pairs have a sum below s -/
def tri (s : Nat) : Nat := s * (s + 1) / 2
theorem tri_two (s : Nat) : 2 * tri s = s * (s + 1) := by
  have h : s * (s + 1) % 2 = 0 := by
    rcases Nat.mod_two_eq_zero_or_one s with h | h
    · rw [Nat.mul_mod, h]; simp
    · rw [Nat.mul_mod, Nat.add_mod, h]
  unfold tri; omega
theorem tri_succ (s : Nat) : tri (s + 1) = tri s + s + 1 := by
  have h1 := tri_two s
  have h2 := tri_two (s + 1)
  have h3 : (s + 1) * (s + 1 + 1) = s * (s + 1) + 2 * (s + 1) := by rw [Nat.mul_add (s + 1) (s + 1) 1, Nat.add_mul s 1 (s + 1)]; omega
  omega
theorem tri_mono {s t : Nat} (h : s ≤ t) : tri s ≤ tri t := by
  induction t with
  | zero => obtain rfl : s = 0 := by omega
            exact Nat.le_refl _
  | succ t ih =>
    by_cases hs : s = t + 1
    · subst hs; exact Nat.le_refl _
    · rw [tri_succ]; have := ih (by omega); omega
theorem tri_zero : tri 0 = 0 := rfl
theorem tri_lt {s t : Nat} (h : s < t) : tri s + s < tri t := by
  have := tri_mono (s := s + 1) (t := t) (by omega)
  rw [tri_succ] at this; omega
theorem tri_inj {s t b c : Nat} (h : tri s + b = tri t + c) (hb : b ≤ s) (hc : c ≤ t) : s = t ∧ b = c := by
  rcases Nat.lt_trichotomy s t with h1 | h1 | h1
  · have := tri_lt h1; omega
  · subst h1; omega
  · have := tri_lt h1; omega
theorem mul_bound {s n : Nat} (h : s ≤ n) : s * (s + 1) ≤ n * (n + 1) := Nat.mul_le_mul h (by omega)
theorem tri_bound {s n : Nat} (h : s ≤ n) : tri s ≤ tri n := tri_mono h

/-- the greatest sum up to a bound whose pairs begin at n or before -/
theorem tri_root (n m : Nat) : ∃ k, k ≤ m ∧ tri k ≤ n ∧ (k < m → n < tri (k + 1)) := by
  induction m with
  | zero => exact ⟨0, by omega, by simp [tri_zero], by omega⟩
  | succ m ih =>
    obtain ⟨k, h1, h2, h3⟩ := ih
    by_cases hk : k < m
    · exact ⟨k, by omega, h2, fun _ => h3 hk⟩
    · obtain rfl : k = m := by omega
      by_cases h : tri (k + 1) ≤ n
      · exact ⟨k + 1, by omega, h, by omega⟩
      · exact ⟨k, by omega, h2, fun _ => by omega⟩

theorem below_spec (s : Nat) (hs : s ≤ 4000000) : CallsA Try.prog 16 [IN s] (IN (tri s)) [] := by
  refine fn_of0 comp16 (by simp) ?_
  unfold code16
  have hb := mul_bound hs
  have w1 : IntKind.i64.wrap ((s : Int) + 1) = ((s + 1 : Nat) : Int) := by rw [wrap_id] <;> omega
  have w2 : IntKind.i64.wrap ((s : Int) * ((s + 1 : Nat) : Int)) = ((s * (s + 1) : Nat) : Int) := by rw [← Int.natCast_mul, wrap_id] <;> omega
  have w3 : IntKind.i64.wrap (Int.tdiv ((s * (s + 1) : Nat) : Int) 2) = (tri s : Int) := by
    have : Int.tdiv ((s * (s + 1) : Nat) : Int) 2 = (tri s : Int) := by rw [tri]; rfl
    have h2 := tri_two s
    rw [this, wrap_id] <;> omega
  simp (maxSteps := 1000000) only [w1, w2, w3, EA, EB, EC, ED, EE, EF, EG, EH, XA, XB, XC, XD, XE, XF, XG, XH, XI, XJ, XK, XL, XM, reduceIte, ↓reduceIte, Nat.reduceAdd, Nat.reduceLeDiff, Nat.reduceEqDiff, Nat.reduceLT, Nat.reduceSub, Nat.reduceBEq, forall_const, reduceCtorEq, implies_true, exists_eq_left', exists_eq_left, if_true, if_false, undef]
  decide

def pairAns (a b : Int) : AV := if 0 ≤ a ∧ a ≤ 1000000 ∧ 0 ≤ b ∧ b ≤ 1000000 then .tup [IN (tri (a.toNat + b.toNat) + b.toNat), I 0] else .tup [I 0, I 4]
theorem pair_spec (a b : Int) : CallsA Try.prog 10 [I a, I b] (pairAns a b) [] := by
  refine fn_of0 comp10 (by simp) ?_
  unfold code10
  by_cases h1 : a < 0
  · have f1 : decide (a < 0) = true := by simp [h1]
    rw [pairAns, if_neg (by omega)]
    simp (maxSteps := 1000000) only [f1, EA, EB, EC, ED, EE, EF, EG, EH, XA, XB, XC, XD, XE, XF, XG, XH, XI, XJ, XK, XL, XM, reduceIte, ↓reduceIte, Nat.reduceAdd, Nat.reduceLeDiff, Nat.reduceEqDiff, Nat.reduceLT, Nat.reduceSub, Nat.reduceBEq, forall_const, reduceCtorEq, implies_true, exists_eq_left', exists_eq_left, if_true, if_false, undef]
  have f1 : decide (a < 0) = false := by simp; omega
  by_cases h2 : a > 1000000
  · have f2 : decide (a > 1000000) = true := by simp; omega
    rw [pairAns, if_neg (by omega)]
    simp (maxSteps := 1000000) only [f1, f2, EA, EB, EC, ED, EE, EF, EG, EH, XA, XB, XC, XD, XE, XF, XG, XH, XI, XJ, XK, XL, XM, reduceIte, ↓reduceIte, Nat.reduceAdd, Nat.reduceLeDiff, Nat.reduceEqDiff, Nat.reduceLT, Nat.reduceSub, Nat.reduceBEq, forall_const, reduceCtorEq, implies_true, exists_eq_left', exists_eq_left, if_true, if_false, undef]
  have f2 : decide (a > 1000000) = false := by simp; omega
  by_cases h3 : b < 0
  · have f3 : decide (b < 0) = true := by simp [h3]
    rw [pairAns, if_neg (by omega)]
    simp (maxSteps := 1000000) only [f1, f2, f3, EA, EB, EC, ED, EE, EF, EG, EH, XA, XB, XC, XD, XE, XF, XG, XH, XI, XJ, XK, XL, XM, reduceIte, ↓reduceIte, Nat.reduceAdd, Nat.reduceLeDiff, Nat.reduceEqDiff, Nat.reduceLT, Nat.reduceSub, Nat.reduceBEq, forall_const, reduceCtorEq, implies_true, exists_eq_left', exists_eq_left, if_true, if_false, undef]
  have f3 : decide (b < 0) = false := by simp; omega
  by_cases h4 : b > 1000000
  · have f4 : decide (b > 1000000) = true := by simp; omega
    rw [pairAns, if_neg (by omega)]
    simp (maxSteps := 1000000) only [f1, f2, f3, f4, EA, EB, EC, ED, EE, EF, EG, EH, XA, XB, XC, XD, XE, XF, XG, XH, XI, XJ, XK, XL, XM, reduceIte, ↓reduceIte, Nat.reduceAdd, Nat.reduceLeDiff, Nat.reduceEqDiff, Nat.reduceLT, Nat.reduceSub, Nat.reduceBEq, forall_const, reduceCtorEq, implies_true, exists_eq_left', exists_eq_left, if_true, if_false, undef]
  have f4 : decide (b > 1000000) = false := by simp; omega
  rw [pairAns, if_pos (by omega)]
  obtain ⟨x, rfl⟩ : ∃ x : Nat, a = x := ⟨a.toNat, by omega⟩
  obtain ⟨y, rfl⟩ : ∃ y : Nat, b = y := ⟨b.toNat, by omega⟩
  have hb := tri_bound (s := x + y) (n := 2000000) (by omega)
  have ht : tri 2000000 = 2000001000000 := by decide
  have w1 : IntKind.i64.wrap ((x : Int) + (y : Int)) = ((x + y : Nat) : Int) := by rw [wrap_id] <;> omega
  have w2 : IntKind.i64.wrap ((tri (x + y) : Int) + (y : Int)) = ((tri (x + y) + y : Nat) : Int) := by rw [wrap_id] <;> omega
  simp (maxSteps := 1000000) only [f1, f2, f3, f4, w1, Int.toNat_natCast, EA, EB, EC, ED, EE, EF, EG, EH, XA, XB, XC, XD, XE, XF, XG, XH, XI, XJ, XK, XL, XM, reduceIte, ↓reduceIte, Nat.reduceAdd, Nat.reduceLeDiff, Nat.reduceEqDiff, Nat.reduceLT, Nat.reduceSub, Nat.reduceBEq, forall_const, reduceCtorEq, implies_true, exists_eq_left', exists_eq_left, if_true, if_false, undef]
  refine callF (CallsA.args (below_spec (x + y) (by omega)) (by simp [EA, EB, EC, ED, EE, EF, EG, EH, XA, XB, XC, XD, XE, XF, XG, XH, XI, XJ, XK, XL, XM, reduceIte, ↓reduceIte, Nat.reduceAdd, Nat.reduceLeDiff, Nat.reduceEqDiff, Nat.reduceLT, Nat.reduceSub, Nat.reduceBEq, forall_const, reduceCtorEq, implies_true, exists_eq_left', exists_eq_left, if_true, if_false, undef])) rfl (by simp [flat, EA, EB, EC, ED, EE, EF, EG, EH, XA, XB, XC, XD, XE, XF, XG, XH, XI, XJ, XK, XL, XM, reduceIte, ↓reduceIte, Nat.reduceAdd, Nat.reduceLeDiff, Nat.reduceEqDiff, Nat.reduceLT, Nat.reduceSub, Nat.reduceBEq, forall_const, reduceCtorEq, implies_true, exists_eq_left', exists_eq_left, if_true, if_false, undef]) ?_
  simp (maxSteps := 1000000) only [w2, Int.toNat_natCast, EA, EB, EC, ED, EE, EF, EG, EH, XA, XB, XC, XD, XE, XF, XG, XH, XI, XJ, XK, XL, XM, reduceIte, ↓reduceIte, Nat.reduceAdd, Nat.reduceLeDiff, Nat.reduceEqDiff, Nat.reduceLT, Nat.reduceSub, Nat.reduceBEq, forall_const, reduceCtorEq, implies_true, exists_eq_left', exists_eq_left, if_true, if_false, undef]

theorem sum1_spec (s : Nat) (n : Int) (hs : s < 2000000) : CallsA Try.prog 21 [IN s, .rp [I n]] (Bo (decide ((tri (s + 1) : Int) > n))) [] := by
  refine fn_of0 comp21 (by simp) ?_
  unfold code21
  have w1 : IntKind.i64.wrap ((s : Int) + 1) = ((s + 1 : Nat) : Int) := by rw [wrap_id] <;> omega
  simp (maxSteps := 1000000) only [w1, EA, EB, EC, ED, EE, EF, EG, EH, XA, XB, XC, XD, XE, XF, XG, XH, XI, XJ, XK, XL, XM, reduceIte, ↓reduceIte, Nat.reduceAdd, Nat.reduceLeDiff, Nat.reduceEqDiff, Nat.reduceLT, Nat.reduceSub, Nat.reduceBEq, forall_const, reduceCtorEq, implies_true, exists_eq_left', exists_eq_left, if_true, if_false, undef]
  refine callD (CallsA.args (below_spec (s + 1) (by omega)) (by simp [EA, EB, EC, ED, EE, EF, EG, EH, XA, XB, XC, XD, XE, XF, XG, XH, XI, XJ, XK, XL, XM, reduceIte, ↓reduceIte, Nat.reduceAdd, Nat.reduceLeDiff, Nat.reduceEqDiff, Nat.reduceLT, Nat.reduceSub, Nat.reduceBEq, forall_const, reduceCtorEq, implies_true, exists_eq_left', exists_eq_left, if_true, if_false, undef])) rfl (by simp [flat, EA, EB, EC, ED, EE, EF, EG, EH, XA, XB, XC, XD, XE, XF, XG, XH, XI, XJ, XK, XL, XM, reduceIte, ↓reduceIte, Nat.reduceAdd, Nat.reduceLeDiff, Nat.reduceEqDiff, Nat.reduceLT, Nat.reduceSub, Nat.reduceBEq, forall_const, reduceCtorEq, implies_true, exists_eq_left', exists_eq_left, if_true, if_false, undef]) (by simp [EA, EB, EC, ED, EE, EF, EG, EH, XA, XB, XC, XD, XE, XF, XG, XH, XI, XJ, XK, XL, XM, reduceIte, ↓reduceIte, Nat.reduceAdd, Nat.reduceLeDiff, Nat.reduceEqDiff, Nat.reduceLT, Nat.reduceSub, Nat.reduceBEq, forall_const, reduceCtorEq, implies_true, exists_eq_left', exists_eq_left, if_true, if_false, undef]) ?_
  simp (maxSteps := 1000000) only [Bo, EA, EB, EC, ED, EE, EF, EG, EH, XA, XB, XC, XD, XE, XF, XG, XH, XI, XJ, XK, XL, XM, reduceIte, ↓reduceIte, Nat.reduceAdd, Nat.reduceLeDiff, Nat.reduceEqDiff, Nat.reduceLT, Nat.reduceSub, Nat.reduceBEq, forall_const, reduceCtorEq, implies_true, exists_eq_left', exists_eq_left, if_true, if_false, undef]

theorem search_spec (g : Nat) (c : AV) (p : Nat → Bool) (n k : Nat) (hn : n ≤ 1000000000) (hk : k ≤ n) (hlo : ∀ i, i < k → p i = false) (hhi : ∀ i, k ≤ i → i < n → p i = true)
    (hg : ∀ i, i < n → CallsA Try.prog g [IN i, .rp [c]] (Bo (p i)) []) : CallsA Try.prog 20 [IN n, .fn g [.rp [c]]] (IN k) [] := by
  refine fn_of0 comp20 (by simp) ?_
  unfold code20
  simp (maxSteps := 1000000) only [EA, EB, EC, ED, EE, EF, EG, EH, XA, XB, XC, XD, XE, XF, XG, XH, XI, XJ, XK, XL, XM, reduceIte, ↓reduceIte, Nat.reduceAdd, Nat.reduceLeDiff, Nat.reduceEqDiff, Nat.reduceLT, Nat.reduceSub, Nat.reduceBEq, forall_const, reduceCtorEq, implies_true, exists_eq_left', exists_eq_left, if_true, if_false, undef]
  refine loop0 (Nat × Nat) [5, 6] (fun s => [IN s.1, IN s.2]) (fun s => s.1 ≤ k ∧ k ≤ s.2 ∧ s.2 ≤ n) (fun s => s.2 - s.1) (by decide) (0, n) (by simp [hk]) (by simp [Back, BackF, fzT, fzM, fzU, fz, fzL, fzO, kin, SubT, Sub, SubL, SubM, SubO, keepM, srcOk, look, lookM, ev, evs, putT, argT, EA, EB, EC, ED, EE, EF, EG, EH, XA, XB, XC, XD, XE, XF, XG, XH, XI, XJ, XK, XL, XM, reduceIte, ↓reduceIte, Nat.reduceAdd, Nat.reduceLeDiff, Nat.reduceEqDiff, Nat.reduceLT, Nat.reduceSub, Nat.reduceBEq, forall_const, reduceCtorEq, implies_true, exists_eq_left', exists_eq_left, if_true, if_false, undef]) ?_
  rintro ⟨i, j⟩ ⟨h1, h2, h3⟩
  simp only at h1 h2 h3
  by_cases c1 : i < j
  rotate_left
  · have f1 : decide ((i : Int) < (j : Int)) = false := by simp; omega
    obtain rfl : i = k := by omega
    simp (maxSteps := 1000000) only [f1, EA, EB, EC, ED, EE, EF, EG, EH, XA, XB, XC, XD, XE, XF, XG, XH, XI, XJ, XK, XL, XM, reduceIte, ↓reduceIte, Nat.reduceAdd, Nat.reduceLeDiff, Nat.reduceEqDiff, Nat.reduceLT, Nat.reduceSub, Nat.reduceBEq, forall_const, reduceCtorEq, implies_true, exists_eq_left', exists_eq_left, if_true, if_false, undef]
  have f1 : decide ((i : Int) < (j : Int)) = true := by simp; omega
  have w1 : IntKind.i64.wrap ((i : Int) + (j : Int)) = ((i + j : Nat) : Int) := by rw [wrap_id] <;> omega
  have w2 : IntKind.u64.wrap (((i + j : Nat) : Int)) = ((i + j : Nat) : Int) := by simp only [IntKind.wrap, IntKind.bits, IntKind.signed]; simp; omega
  have w0 : ((i + j : Nat) : Int).fdiv (2 ^ min (Int.toNat 1) IntKind.u64.bits) = (((i + j) / 2 : Nat) : Int) := by
    show ((i + j : Nat) : Int).fdiv 2 = _
    rw [Int.fdiv_eq_ediv_of_nonneg _ (by omega)]; omega
  have w3 : IntKind.i64.wrap ((((i + j) / 2 : Nat) : Int)) = (((i + j) / 2 : Nat) : Int) := by rw [wrap_id] <;> omega
  simp (maxSteps := 1000000) only [f1, w1, w2, w0, w3, EA, EB, EC, ED, EE, EF, EG, EH, XA, XB, XC, XD, XE, XF, XG, XH, XI, XJ, XK, XL, XM, reduceIte, ↓reduceIte, Nat.reduceAdd, Nat.reduceLeDiff, Nat.reduceEqDiff, Nat.reduceLT, Nat.reduceSub, Nat.reduceBEq, forall_const, reduceCtorEq, implies_true, exists_eq_left', exists_eq_left, if_true, if_false, undef]
  refine ⟨by decide, ?_⟩
  have hm : (i + j) / 2 < j := by omega
  have hm' : i ≤ (i + j) / 2 := by omega
  generalize (i + j) / 2 = h at *
  refine callF (CallsA.args (hg h (by omega)) (by simp [EA, EB, EC, ED, EE, EF, EG, EH, XA, XB, XC, XD, XE, XF, XG, XH, XI, XJ, XK, XL, XM, reduceIte, ↓reduceIte, Nat.reduceAdd, Nat.reduceLeDiff, Nat.reduceEqDiff, Nat.reduceLT, Nat.reduceSub, Nat.reduceBEq, forall_const, reduceCtorEq, implies_true, exists_eq_left', exists_eq_left, if_true, if_false, undef])) rfl (by simp [flat, EA, EB, EC, ED, EE, EF, EG, EH, XA, XB, XC, XD, XE, XF, XG, XH, XI, XJ, XK, XL, XM, reduceIte, ↓reduceIte, Nat.reduceAdd, Nat.reduceLeDiff, Nat.reduceEqDiff, Nat.reduceLT, Nat.reduceSub, Nat.reduceBEq, forall_const, reduceCtorEq, implies_true, exists_eq_left', exists_eq_left, if_true, if_false, undef]) ?_
  cases hp : p h with
  | true =>
    simp (maxSteps := 1000000) only [Bo, hp, EA, EB, EC, ED, EE, EF, EG, EH, XA, XB, XC, XD, XE, XF, XG, XH, XI, XJ, XK, XL, XM, reduceIte, ↓reduceIte, Nat.reduceAdd, Nat.reduceLeDiff, Nat.reduceEqDiff, Nat.reduceLT, Nat.reduceSub, Nat.reduceBEq, forall_const, reduceCtorEq, implies_true, exists_eq_left', exists_eq_left, if_true, if_false, undef]
    have hkh : k ≤ h := by
      rcases Nat.lt_or_ge h k with hh | hh
      · have := hlo h hh; rw [this] at hp; cases hp
      · exact hh
    exact ⟨(i, h), ⟨h1, hkh, by omega⟩, by simp only; omega, by simp [Back, BackF, fzT, fzM, fzU, fz, fzL, fzO, kin, SubT, Sub, SubL, SubM, SubO, keepM, srcOk, look, lookM, ev, evs, putT, argT, EA, EB, EC, ED, EE, EF, EG, EH, XA, XB, XC, XD, XE, XF, XG, XH, XI, XJ, XK, XL, XM, reduceIte, ↓reduceIte, Nat.reduceAdd, Nat.reduceLeDiff, Nat.reduceEqDiff, Nat.reduceLT, Nat.reduceSub, Nat.reduceBEq, forall_const, reduceCtorEq, implies_true, exists_eq_left', exists_eq_left, if_true, if_false, undef]⟩
  | false =>
    have w4 : IntKind.i64.wrap ((h : Int) + 1) = ((h + 1 : Nat) : Int) := by rw [wrap_id] <;> omega
    simp (maxSteps := 1000000) only [Bo, hp, w4, EA, EB, EC, ED, EE, EF, EG, EH, XA, XB, XC, XD, XE, XF, XG, XH, XI, XJ, XK, XL, XM, reduceIte, ↓reduceIte, Nat.reduceAdd, Nat.reduceLeDiff, Nat.reduceEqDiff, Nat.reduceLT, Nat.reduceSub, Nat.reduceBEq, forall_const, reduceCtorEq, implies_true, exists_eq_left', exists_eq_left, if_true, if_false, undef]
    have hkh : h + 1 ≤ k := by
      rcases Nat.lt_or_ge h k with hh | hh
      · exact hh
      · have := hhi h hh (by omega); rw [this] at hp; cases hp
    exact ⟨(h + 1, j), ⟨hkh, h2, h3⟩, by simp only; omega, by simp [Back, BackF, fzT, fzM, fzU, fz, fzL, fzO, kin, SubT, Sub, SubL, SubM, SubO, keepM, srcOk, look, lookM, ev, evs, putT, argT, EA, EB, EC, ED, EE, EF, EG, EH, XA, XB, XC, XD, XE, XF, XG, XH, XI, XJ, XK, XL, XM, reduceIte, ↓reduceIte, Nat.reduceAdd, Nat.reduceLeDiff, Nat.reduceEqDiff, Nat.reduceLT, Nat.reduceSub, Nat.reduceBEq, forall_const, reduceCtorEq, implies_true, exists_eq_left', exists_eq_left, if_true, if_false, undef]⟩

theorem sumOf_spec (n : Nat) (hn : n < 2 ^ 63) (k : Nat) (h1 : k ≤ 2000000) (h2 : tri k ≤ n) (h3 : k < 2000000 → n < tri (k + 1)) : CallsA Try.prog 17 [IN n] (IN k) [] := by
  refine fn_of0 comp17 (by simp) ?_
  unfold code17
  simp (maxSteps := 1000000) only [EA, EB, EC, ED, EE, EF, EG, EH, XA, XB, XC, XD, XE, XF, XG, XH, XI, XJ, XK, XL, XM, reduceIte, ↓reduceIte, Nat.reduceAdd, Nat.reduceLeDiff, Nat.reduceEqDiff, Nat.reduceLT, Nat.reduceSub, Nat.reduceBEq, forall_const, reduceCtorEq, implies_true, exists_eq_left', exists_eq_left, if_true, if_false, undef]
  have hs := search_spec 21 (IN n) (fun i => decide ((tri (i + 1) : Int) > (n : Int))) 2000000 k (by omega) h1
    (fun i hi => by have := tri_mono (s := i + 1) (t := k) (by omega); simp; omega)
    (fun i hi hi2 => by have := tri_mono (s := k + 1) (t := i + 1) (by omega); have := h3 (by omega); simp; omega)
    (fun i hi => sum1_spec i n hi)
  refine callF (CallsA.args (hs) (by simp [EA, EB, EC, ED, EE, EF, EG, EH, XA, XB, XC, XD, XE, XF, XG, XH, XI, XJ, XK, XL, XM, reduceIte, ↓reduceIte, Nat.reduceAdd, Nat.reduceLeDiff, Nat.reduceEqDiff, Nat.reduceLT, Nat.reduceSub, Nat.reduceBEq, forall_const, reduceCtorEq, implies_true, exists_eq_left', exists_eq_left, if_true, if_false, undef])) rfl (by simp [flat, EA, EB, EC, ED, EE, EF, EG, EH, XA, XB, XC, XD, XE, XF, XG, XH, XI, XJ, XK, XL, XM, reduceIte, ↓reduceIte, Nat.reduceAdd, Nat.reduceLeDiff, Nat.reduceEqDiff, Nat.reduceLT, Nat.reduceSub, Nat.reduceBEq, forall_const, reduceCtorEq, implies_true, exists_eq_left', exists_eq_left, if_true, if_false, undef]) ?_
  simp (maxSteps := 1000000) only [EA, EB, EC, ED, EE, EF, EG, EH, XA, XB, XC, XD, XE, XF, XG, XH, XI, XJ, XK, XL, XM, reduceIte, ↓reduceIte, Nat.reduceAdd, Nat.reduceLeDiff, Nat.reduceEqDiff, Nat.reduceLT, Nat.reduceSub, Nat.reduceBEq, forall_const, reduceCtorEq, implies_true, exists_eq_left', exists_eq_left, if_true, if_false, undef]

theorem open_neg (n : Int) (h : n < 0) : CallsA Try.prog 12 [I n] (.tup [I 0, I 0, I 4]) [] := by
  refine fn_of0 comp12 (by simp) ?_
  unfold code12
  have f1 : decide (n < 0) = true := by simp [h]
  simp (maxSteps := 1000000) only [f1, EA, EB, EC, ED, EE, EF, EG, EH, XA, XB, XC, XD, XE, XF, XG, XH, XI, XJ, XK, XL, XM, reduceIte, ↓reduceIte, Nat.reduceAdd, Nat.reduceLeDiff, Nat.reduceEqDiff, Nat.reduceLT, Nat.reduceSub, Nat.reduceBEq, forall_const, reduceCtorEq, implies_true, exists_eq_left', exists_eq_left, if_true, if_false, undef]

def openAns (n k : Nat) : AV := if (k : Int) - ((n - tri k : Nat) : Int) > 1000000 ∨ ((n - tri k : Nat) : Int) > 1000000 then .tup [I 0, I 0, I 4] else .tup [I ((k : Int) - ((n - tri k : Nat) : Int)), IN (n - tri k), I 0]
theorem open_gen (n : Nat) (hn : n < 2 ^ 63) (k : Nat) (h1 : k ≤ 2000000) (h2 : tri k ≤ n) (h3 : k < 2000000 → n < tri (k + 1)) : CallsA Try.prog 12 [IN n] (openAns n k) [] := by
  refine fn_of0 comp12 (by simp) ?_
  unfold code12
  have f1 : decide ((n : Int) < 0) = false := by simp
  have hb := tri_bound (s := k) (n := 2000000) (by omega)
  have ht : tri 2000000 = 2000001000000 := by decide
  have w1 : IntKind.i64.wrap ((n : Int) - (tri k : Int)) = ((n - tri k : Nat) : Int) := by rw [wrap_id] <;> omega
  have w2 : IntKind.i64.wrap ((k : Int) - ((n - tri k : Nat) : Int)) = (k : Int) - ((n - tri k : Nat) : Int) := by rw [wrap_id] <;> omega
  simp (maxSteps := 1000000) only [f1, EA, EB, EC, ED, EE, EF, EG, EH, XA, XB, XC, XD, XE, XF, XG, XH, XI, XJ, XK, XL, XM, reduceIte, ↓reduceIte, Nat.reduceAdd, Nat.reduceLeDiff, Nat.reduceEqDiff, Nat.reduceLT, Nat.reduceSub, Nat.reduceBEq, forall_const, reduceCtorEq, implies_true, exists_eq_left', exists_eq_left, if_true, if_false, undef]
  refine callF (CallsA.args (sumOf_spec n hn k h1 h2 h3) (by simp [EA, EB, EC, ED, EE, EF, EG, EH, XA, XB, XC, XD, XE, XF, XG, XH, XI, XJ, XK, XL, XM, reduceIte, ↓reduceIte, Nat.reduceAdd, Nat.reduceLeDiff, Nat.reduceEqDiff, Nat.reduceLT, Nat.reduceSub, Nat.reduceBEq, forall_const, reduceCtorEq, implies_true, exists_eq_left', exists_eq_left, if_true, if_false, undef])) rfl (by simp [flat, EA, EB, EC, ED, EE, EF, EG, EH, XA, XB, XC, XD, XE, XF, XG, XH, XI, XJ, XK, XL, XM, reduceIte, ↓reduceIte, Nat.reduceAdd, Nat.reduceLeDiff, Nat.reduceEqDiff, Nat.reduceLT, Nat.reduceSub, Nat.reduceBEq, forall_const, reduceCtorEq, implies_true, exists_eq_left', exists_eq_left, if_true, if_false, undef]) ?_
  simp (maxSteps := 1000000) only [EA, EB, EC, ED, EE, EF, EG, EH, XA, XB, XC, XD, XE, XF, XG, XH, XI, XJ, XK, XL, XM, reduceIte, ↓reduceIte, Nat.reduceAdd, Nat.reduceLeDiff, Nat.reduceEqDiff, Nat.reduceLT, Nat.reduceSub, Nat.reduceBEq, forall_const, reduceCtorEq, implies_true, exists_eq_left', exists_eq_left, if_true, if_false, undef]
  refine callF (CallsA.args (below_spec k (by omega)) (by simp [EA, EB, EC, ED, EE, EF, EG, EH, XA, XB, XC, XD, XE, XF, XG, XH, XI, XJ, XK, XL, XM, reduceIte, ↓reduceIte, Nat.reduceAdd, Nat.reduceLeDiff, Nat.reduceEqDiff, Nat.reduceLT, Nat.reduceSub, Nat.reduceBEq, forall_const, reduceCtorEq, implies_true, exists_eq_left', exists_eq_left, if_true, if_false, undef])) rfl (by simp [flat, EA, EB, EC, ED, EE, EF, EG, EH, XA, XB, XC, XD, XE, XF, XG, XH, XI, XJ, XK, XL, XM, reduceIte, ↓reduceIte, Nat.reduceAdd, Nat.reduceLeDiff, Nat.reduceEqDiff, Nat.reduceLT, Nat.reduceSub, Nat.reduceBEq, forall_const, reduceCtorEq, implies_true, exists_eq_left', exists_eq_left, if_true, if_false, undef]) ?_
  simp (maxSteps := 1000000) only [w1, w2, EA, EB, EC, ED, EE, EF, EG, EH, XA, XB, XC, XD, XE, XF, XG, XH, XI, XJ, XK, XL, XM, reduceIte, ↓reduceIte, Nat.reduceAdd, Nat.reduceLeDiff, Nat.reduceEqDiff, Nat.reduceLT, Nat.reduceSub, Nat.reduceBEq, forall_const, reduceCtorEq, implies_true, exists_eq_left', exists_eq_left, if_true, if_false, undef]
  by_cases c1 : (k : Int) - ((n - tri k : Nat) : Int) > 1000000
  · have g1 : decide ((k : Int) - ((n - tri k : Nat) : Int) > 1000000) = true := by simpa using c1
    rw [openAns, if_pos (.inl c1)]
    simp (maxSteps := 1000000) only [g1, EA, EB, EC, ED, EE, EF, EG, EH, XA, XB, XC, XD, XE, XF, XG, XH, XI, XJ, XK, XL, XM, reduceIte, ↓reduceIte, Nat.reduceAdd, Nat.reduceLeDiff, Nat.reduceEqDiff, Nat.reduceLT, Nat.reduceSub, Nat.reduceBEq, forall_const, reduceCtorEq, implies_true, exists_eq_left', exists_eq_left, if_true, if_false, undef]
  have g1 : decide ((k : Int) - ((n - tri k : Nat) : Int) > 1000000) = false := by simpa using c1
  by_cases c2 : ((n - tri k : Nat) : Int) > 1000000
  · have g2 : decide (((n - tri k : Nat) : Int) > 1000000) = true := by simp only [decide_eq_true_eq]; exact c2
    rw [openAns, if_pos (.inr c2)]
    simp (maxSteps := 1000000) only [g1, g2, EA, EB, EC, ED, EE, EF, EG, EH, XA, XB, XC, XD, XE, XF, XG, XH, XI, XJ, XK, XL, XM, reduceIte, ↓reduceIte, Nat.reduceAdd, Nat.reduceLeDiff, Nat.reduceEqDiff, Nat.reduceLT, Nat.reduceSub, Nat.reduceBEq, forall_const, reduceCtorEq, implies_true, exists_eq_left', exists_eq_left, if_true, if_false, undef]
  have g2 : decide (((n - tri k : Nat) : Int) > 1000000) = false := by simp only [decide_eq_false_iff_not]; exact c2
  rw [openAns, if_neg (by omega)]
  simp (maxSteps := 1000000) only [g1, g2, EA, EB, EC, ED, EE, EF, EG, EH, XA, XB, XC, XD, XE, XF, XG, XH, XI, XJ, XK, XL, XM, reduceIte, ↓reduceIte, Nat.reduceAdd, Nat.reduceLeDiff, Nat.reduceEqDiff, Nat.reduceLT, Nat.reduceSub, Nat.reduceBEq, forall_const, reduceCtorEq, implies_true, exists_eq_left', exists_eq_left, if_true, if_false, undef]

theorem open_ok (a b : Nat) (ha : a ≤ 1000000) (hb : b ≤ 1000000) : CallsA Try.prog 12 [IN (tri (a + b) + b)] (.tup [IN a, IN b, I 0]) [] := by
  have hx := tri_bound (s := a + b) (n := 2000000) (by omega)
  have ht : tri 2000000 = 2000001000000 := by decide
  have := open_gen (tri (a + b) + b) (by omega) (a + b) (by omega) (by omega) (fun _ => by rw [tri_succ]; omega)
  have e : openAns (tri (a + b) + b) (a + b) = .tup [IN a, IN b, I 0] := by
    have e1 : tri (a + b) + b - tri (a + b) = b := by omega
    have e2 : ((a + b : Nat) : Int) - (b : Int) = (a : Int) := by omega
    rw [openAns, e1, e2, if_neg (by omega)]
  rwa [e] at this
theorem open_no (n : Int) (hn : n < 2 ^ 63) (h : ∀ a b : Nat, a ≤ 1000000 → b ≤ 1000000 → n ≠ ((tri (a + b) + b : Nat) : Int)) : CallsA Try.prog 12 [I n] (.tup [I 0, I 0, I 4]) [] := by
  by_cases h0 : n < 0
  · exact open_neg n h0
  obtain ⟨m, rfl⟩ : ∃ m : Nat, n = m := ⟨n.toNat, by omega⟩
  obtain ⟨k, h1, h2, h3⟩ := tri_root m 2000000
  have := open_gen m (by omega) k h1 h2 h3
  have e : openAns m k = .tup [I 0, I 0, I 4] := by
    rw [openAns, if_pos]
    rcases Nat.lt_or_ge k 2000000 with hk | hk
    · have h4 := h3 hk
      rw [tri_succ] at h4
      rcases Nat.lt_or_ge 1000000 (m - tri k) with h5 | h5
      · exact .inr (by omega)
      rcases Nat.lt_or_ge 1000000 (k - (m - tri k)) with h6 | h6
      · exact .inl (by omega)
      have := h (k - (m - tri k)) (m - tri k) h6 h5
      have e1 : k - (m - tri k) + (m - tri k) = k := by omega
      rw [e1] at this
      omega
    · obtain rfl : k = 2000000 := by omega
      rcases Nat.lt_or_ge 1000000 (m - tri 2000000) with h5 | h5
      · exact .inr (by omega)
      rcases Nat.lt_or_ge (m - tri 2000000) 1000000 with h6 | h6
      · exact .inl (by omega)
      have := h 1000000 1000000 (by omega) (by omega)
      have e1 : (1000000 : Nat) + 1000000 = 2000000 := rfl
      rw [e1] at this
      omega
  rwa [e] at this

/-- what Open tells -/
theorem open_cases (n : Int) (hn : n < 2 ^ 63) : (∃ a b : Nat, a ≤ 1000000 ∧ b ≤ 1000000 ∧ n = ((tri (a + b) + b : Nat) : Int) ∧ CallsA Try.prog 12 [I n] (.tup [IN a, IN b, I 0]) []) ∨
    ((∀ a b : Nat, a ≤ 1000000 → b ≤ 1000000 → n ≠ ((tri (a + b) + b : Nat) : Int)) ∧ CallsA Try.prog 12 [I n] (.tup [I 0, I 0, I 4]) []) := by
  by_cases h : ∃ a b : Nat, a ≤ 1000000 ∧ b ≤ 1000000 ∧ n = ((tri (a + b) + b : Nat) : Int)
  · obtain ⟨a, b, ha, hb, rfl⟩ := h
    exact .inl ⟨a, b, ha, hb, rfl, open_ok a b ha hb⟩
  · have h' : ∀ a b : Nat, a ≤ 1000000 → b ≤ 1000000 → n ≠ ((tri (a + b) + b : Nat) : Int) := fun a b ha hb e => h ⟨a, b, ha, hb, e⟩
    exact .inr ⟨h', open_no n hn h'⟩

end Go.Av
