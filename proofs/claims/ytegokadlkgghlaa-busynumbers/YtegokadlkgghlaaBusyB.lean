/- Small machines: the program's small functions. -/
import Derived.Test.YtegokadlkgghlaaBusyO
set_option linter.unusedSimpArgs false
set_option linter.unusedVariables false
set_option maxRecDepth 100000
namespace Go.Av
open Go.Proofs

theorem isStates_spec (s : Int) : CallsA Try.prog 16 [I s] (Bo (decide (1 ≤ s ∧ s ≤ 2))) [] := by
  refine fn_of0 comp16 (by simp) ?_
  unfold code16
  simp (maxSteps := 1000000) only [encR, encRow, encM, EA, EB, EC, ED, EE, EF, EG, EH, EI, XA, XB, XC, XD, XE, XF, XG, XH, XI, XJ, XK, XL, XM, reduceIte, ↓reduceIte, Nat.reduceAdd, Nat.reduceLeDiff, Nat.reduceEqDiff, Nat.reduceLT, Nat.reduceSub, Nat.reduceBEq, forall_const, reduceCtorEq, implies_true, exists_eq_left', exists_eq_left, if_true, if_false, undef]
  by_cases h1 : 1 ≤ s
  · have g1 : decide (1 ≤ s) = true := by simp [h1]
    simp (maxSteps := 1000000) only [g1, encR, encRow, encM, EA, EB, EC, ED, EE, EF, EG, EH, EI, XA, XB, XC, XD, XE, XF, XG, XH, XI, XJ, XK, XL, XM, reduceIte, ↓reduceIte, Nat.reduceAdd, Nat.reduceLeDiff, Nat.reduceEqDiff, Nat.reduceLT, Nat.reduceSub, Nat.reduceBEq, forall_const, reduceCtorEq, implies_true, exists_eq_left', exists_eq_left, if_true, if_false, undef]
    simp [h1]
  · have g1 : decide (1 ≤ s) = false := by simp [h1]
    simp (maxSteps := 1000000) only [g1, encR, encRow, encM, EA, EB, EC, ED, EE, EF, EG, EH, EI, XA, XB, XC, XD, XE, XF, XG, XH, XI, XJ, XK, XL, XM, reduceIte, ↓reduceIte, Nat.reduceAdd, Nat.reduceLeDiff, Nat.reduceEqDiff, Nat.reduceLT, Nat.reduceSub, Nat.reduceBEq, forall_const, reduceCtorEq, implies_true, exists_eq_left', exists_eq_left, if_true, if_false, undef]
    simp [h1]

theorem bdig_spec (s : Nat) (hs : s ≤ 1000) : CallsA Try.prog 22 [IN s] (IN (4 * (s + 1))) [] := by
  refine fn_of0 comp22 (by simp) ?_
  unfold code22
  have w1 : IntKind.i64.wrap ((s : Int) + 1) = ((s + 1 : Nat) : Int) := by rw [wrap_id] <;> omega
  have w2 : IntKind.i64.wrap (4 * ((s + 1 : Nat) : Int)) = ((4 * (s + 1) : Nat) : Int) := by rw [wrap_id] <;> omega
  simp (maxSteps := 1000000) only [w1, w2, encR, encRow, encM, EA, EB, EC, ED, EE, EF, EG, EH, EI, XA, XB, XC, XD, XE, XF, XG, XH, XI, XJ, XK, XL, XM, reduceIte, ↓reduceIte, Nat.reduceAdd, Nat.reduceLeDiff, Nat.reduceEqDiff, Nat.reduceLT, Nat.reduceSub, Nat.reduceBEq, forall_const, reduceCtorEq, implies_true, exists_eq_left', exists_eq_left, if_true, if_false, undef]

theorem machines_spec (s : Nat) (hs : s = 1 ∨ s = 2) : CallsA Try.prog 17 [IN s] (IN (bldTop s)) [] := by
  refine fn_of0 comp17 (by simp) ?_
  unfold code17
  have w1 : IntKind.i64.wrap ((s : Int) * 2) = ((2 * s : Nat) : Int) := by rw [wrap_id] <;> omega
  simp (maxSteps := 1000000) only [w1, encR, encRow, encM, EA, EB, EC, ED, EE, EF, EG, EH, EI, XA, XB, XC, XD, XE, XF, XG, XH, XI, XJ, XK, XL, XM, reduceIte, ↓reduceIte, Nat.reduceAdd, Nat.reduceLeDiff, Nat.reduceEqDiff, Nat.reduceLT, Nat.reduceSub, Nat.reduceBEq, forall_const, reduceCtorEq, implies_true, exists_eq_left', exists_eq_left, if_true, if_false, undef]
  refine loop0 Nat [6, 3] (fun k => [IN k, IN ((4 * (s + 1)) ^ k)]) (fun k => k ≤ 2 * s) (fun k => 2 * s - k) (by decide) 0 (by simp) (by simp [Back, BackF, fzT, fzM, fzU, fz, fzL, fzO, kin, SubT, Sub, SubL, SubM, SubO, keepM, srcOk, look, lookM, ev, evs, putT, argT, encR, encRow, encM, EA, EB, EC, ED, EE, EF, EG, EH, EI, XA, XB, XC, XD, XE, XF, XG, XH, XI, XJ, XK, XL, XM, reduceIte, ↓reduceIte, Nat.reduceAdd, Nat.reduceLeDiff, Nat.reduceEqDiff, Nat.reduceLT, Nat.reduceSub, Nat.reduceBEq, forall_const, reduceCtorEq, implies_true, exists_eq_left', exists_eq_left, if_true, if_false, undef]) (fun k hk => ?_)
  simp (maxSteps := 1000000) only [w1, encR, encRow, encM, EA, EB, EC, ED, EE, EF, EG, EH, EI, XA, XB, XC, XD, XE, XF, XG, XH, XI, XJ, XK, XL, XM, reduceIte, ↓reduceIte, Nat.reduceAdd, Nat.reduceLeDiff, Nat.reduceEqDiff, Nat.reduceLT, Nat.reduceSub, Nat.reduceBEq, forall_const, reduceCtorEq, implies_true, exists_eq_left', exists_eq_left, if_true, if_false, undef]
  by_cases c1 : k < 2 * s
  · have g1 : decide ((k : Int) < ((2 * s : Nat) : Int)) = true := by simp only [decide_eq_true_eq]; omega
    have hbase : (4 * (s + 1)) ^ (2 * s) ≤ 20736 := by rcases hs with rfl | rfl <;> decide
    have hp : (4 * (s + 1)) ^ (k + 1) ≤ 20736 := Nat.le_trans (Nat.pow_le_pow_right (by omega) c1) hbase
    have w2 : IntKind.i64.wrap ((((4 * (s + 1)) ^ k : Nat) : Int) * ((4 * (s + 1) : Nat) : Int)) = (((4 * (s + 1)) ^ (k + 1) : Nat) : Int) := by
      have e1 : (4 * (s + 1)) ^ k * (4 * (s + 1)) = (4 * (s + 1)) ^ (k + 1) := (Nat.pow_succ ..).symm
      rw [← Int.natCast_mul, e1, wrap_id] <;> omega
    have w3 : IntKind.i64.wrap ((k : Int) + 1) = ((k + 1 : Nat) : Int) := by rw [wrap_id] <;> omega
    simp (maxSteps := 1000000) only [g1, encR, encRow, encM, EA, EB, EC, ED, EE, EF, EG, EH, EI, XA, XB, XC, XD, XE, XF, XG, XH, XI, XJ, XK, XL, XM, reduceIte, ↓reduceIte, Nat.reduceAdd, Nat.reduceLeDiff, Nat.reduceEqDiff, Nat.reduceLT, Nat.reduceSub, Nat.reduceBEq, forall_const, reduceCtorEq, implies_true, exists_eq_left', exists_eq_left, if_true, if_false, undef]
    refine callF (CallsA.args (bdig_spec s (by omega)) (by simp [encR, encRow, encM, EA, EB, EC, ED, EE, EF, EG, EH, EI, XA, XB, XC, XD, XE, XF, XG, XH, XI, XJ, XK, XL, XM, reduceIte, ↓reduceIte, Nat.reduceAdd, Nat.reduceLeDiff, Nat.reduceEqDiff, Nat.reduceLT, Nat.reduceSub, Nat.reduceBEq, forall_const, reduceCtorEq, implies_true, exists_eq_left', exists_eq_left, if_true, if_false, undef])) rfl (by simp [flat, encR, encRow, encM, EA, EB, EC, ED, EE, EF, EG, EH, EI, XA, XB, XC, XD, XE, XF, XG, XH, XI, XJ, XK, XL, XM, reduceIte, ↓reduceIte, Nat.reduceAdd, Nat.reduceLeDiff, Nat.reduceEqDiff, Nat.reduceLT, Nat.reduceSub, Nat.reduceBEq, forall_const, reduceCtorEq, implies_true, exists_eq_left', exists_eq_left, if_true, if_false, undef]) ?_
    simp (maxSteps := 1000000) only [w2, w3, encR, encRow, encM, EA, EB, EC, ED, EE, EF, EG, EH, EI, XA, XB, XC, XD, XE, XF, XG, XH, XI, XJ, XK, XL, XM, reduceIte, ↓reduceIte, Nat.reduceAdd, Nat.reduceLeDiff, Nat.reduceEqDiff, Nat.reduceLT, Nat.reduceSub, Nat.reduceBEq, forall_const, reduceCtorEq, implies_true, exists_eq_left', exists_eq_left, if_true, if_false, undef]
    exact ⟨k + 1, by omega, by omega, by simp [Back, BackF, fzT, fzM, fzU, fz, fzL, fzO, kin, SubT, Sub, SubL, SubM, SubO, keepM, srcOk, look, lookM, ev, evs, putT, argT, encR, encRow, encM, EA, EB, EC, ED, EE, EF, EG, EH, EI, XA, XB, XC, XD, XE, XF, XG, XH, XI, XJ, XK, XL, XM, reduceIte, ↓reduceIte, Nat.reduceAdd, Nat.reduceLeDiff, Nat.reduceEqDiff, Nat.reduceLT, Nat.reduceSub, Nat.reduceBEq, forall_const, reduceCtorEq, implies_true, exists_eq_left', exists_eq_left, if_true, if_false, undef]⟩
  · have g1 : decide ((k : Int) < ((2 * s : Nat) : Int)) = false := by simp only [decide_eq_false_iff_not]; omega
    obtain rfl : k = 2 * s := by omega
    simp (maxSteps := 1000000) only [g1, bldTop, encR, encRow, encM, EA, EB, EC, ED, EE, EF, EG, EH, EI, XA, XB, XC, XD, XE, XF, XG, XH, XI, XJ, XK, XL, XM, reduceIte, ↓reduceIte, Nat.reduceAdd, Nat.reduceLeDiff, Nat.reduceEqDiff, Nat.reduceLT, Nat.reduceSub, Nat.reduceBEq, forall_const, reduceCtorEq, implies_true, exists_eq_left', exists_eq_left, if_true, if_false, undef]

theorem digitOf_spec (s : Nat) (r : Rule) (hs : s = 1 ∨ s = 2) (hw : 0 ≤ r.w ∧ r.w ≤ 1) (hn : 0 ≤ r.n ∧ r.n ≤ s) : CallsA Try.prog 23 [IN s, encR r] (I ((2 * r.w + (if r.m > 0 then 1 else 0)) * ((s : Int) + 1) + r.n)) [] := by
  refine fn_of0 comp23 (by simp) ?_
  unfold code23
  have w1 : IntKind.i64.wrap ((s : Int) + 1) = (s : Int) + 1 := by rw [wrap_id] <;> omega
  have w2 : IntKind.i64.wrap (2 * r.w) = 2 * r.w := by rw [wrap_id] <;> omega
  simp (maxSteps := 1000000) only [encR, w1, w2, encR, encRow, encM, EA, EB, EC, ED, EE, EF, EG, EH, EI, XA, XB, XC, XD, XE, XF, XG, XH, XI, XJ, XK, XL, XM, reduceIte, ↓reduceIte, Nat.reduceAdd, Nat.reduceLeDiff, Nat.reduceEqDiff, Nat.reduceLT, Nat.reduceSub, Nat.reduceBEq, forall_const, reduceCtorEq, implies_true, exists_eq_left', exists_eq_left, if_true, if_false, undef]
  by_cases hm : r.m > 0
  · have g1 : decide (r.m > 0) = true := by simp [hm]
    have w3 : IntKind.i64.wrap (2 * r.w + 1) = 2 * r.w + 1 := by rw [wrap_id] <;> omega
    have w4 : IntKind.i64.wrap ((2 * r.w + 1) * ((s : Int) + 1)) = (2 * r.w + 1) * ((s : Int) + 1) := by rcases hs with rfl | rfl <;> (rw [wrap_id] <;> omega)
    have w5 : IntKind.i64.wrap ((2 * r.w + 1) * ((s : Int) + 1) + r.n) = (2 * r.w + 1) * ((s : Int) + 1) + r.n := by rcases hs with rfl | rfl <;> (rw [wrap_id] <;> omega)
    simp (maxSteps := 1000000) only [g1, w1, w2, w3, w4, w5, encR, encRow, encM, EA, EB, EC, ED, EE, EF, EG, EH, EI, XA, XB, XC, XD, XE, XF, XG, XH, XI, XJ, XK, XL, XM, reduceIte, ↓reduceIte, Nat.reduceAdd, Nat.reduceLeDiff, Nat.reduceEqDiff, Nat.reduceLT, Nat.reduceSub, Nat.reduceBEq, forall_const, reduceCtorEq, implies_true, exists_eq_left', exists_eq_left, if_true, if_false, undef]
    simp [hm]
  · have g1 : decide (r.m > 0) = false := by simp only [decide_eq_false_iff_not]; exact hm
    have w3 : IntKind.i64.wrap (2 * r.w + 0) = 2 * r.w + 0 := by rw [wrap_id] <;> omega
    have w4 : IntKind.i64.wrap ((2 * r.w + 0) * ((s : Int) + 1)) = (2 * r.w + 0) * ((s : Int) + 1) := by rcases hs with rfl | rfl <;> (rw [wrap_id] <;> omega)
    have w5 : IntKind.i64.wrap ((2 * r.w + 0) * ((s : Int) + 1) + r.n) = (2 * r.w + 0) * ((s : Int) + 1) + r.n := by rcases hs with rfl | rfl <;> (rw [wrap_id] <;> omega)
    simp (maxSteps := 1000000) only [g1, w1, w2, w3, w4, w5, encR, encRow, encM, EA, EB, EC, ED, EE, EF, EG, EH, EI, XA, XB, XC, XD, XE, XF, XG, XH, XI, XJ, XK, XL, XM, reduceIte, ↓reduceIte, Nat.reduceAdd, Nat.reduceLeDiff, Nat.reduceEqDiff, Nat.reduceLT, Nat.reduceSub, Nat.reduceBEq, forall_const, reduceCtorEq, implies_true, exists_eq_left', exists_eq_left, if_true, if_false, undef]
    simp [hm]

theorem ruleOf_spec (s d : Nat) (hs : s = 1 ∨ s = 2) (hd : d < 4 * (s + 1)) : CallsA Try.prog 26 [IN s, IN d] (encR (bldR s d)) [] := by
  refine fn_of0 comp26 (by simp) ?_
  unfold code26
  have w1 : IntKind.i64.wrap ((s : Int) + 1) = ((s + 1 : Nat) : Int) := by rw [wrap_id] <;> omega
  have hq : Int.tdiv (d : Int) ((s + 1 : Nat) : Int) = ((d / (s + 1) : Nat) : Int) := rfl
  have hr : Int.tmod (d : Int) ((s + 1 : Nat) : Int) = ((d % (s + 1) : Nat) : Int) := rfl
  have h0 : ((s + 1 : Nat) : Int) ≠ 0 := by omega
  have h4 : d / (s + 1) < 4 := Nat.div_lt_of_lt_mul (by omega)
  have hm := Nat.mod_lt d (show 0 < s + 1 by omega)
  have hb : bldR s d = ⟨((d / (s + 1) / 2 : Nat) : Int), if d / (s + 1) % 2 = 1 then 1 else -1, ((d % (s + 1) : Nat) : Int)⟩ := rfl
  rw [hb]
  simp (maxSteps := 1000000) only [w1, hq, hr, encR, encRow, encM, EA, EB, EC, ED, EE, EF, EG, EH, EI, XA, XB, XC, XD, XE, XF, XG, XH, XI, XJ, XK, XL, XM, reduceIte, ↓reduceIte, Nat.reduceAdd, Nat.reduceLeDiff, Nat.reduceEqDiff, Nat.reduceLT, Nat.reduceSub, Nat.reduceBEq, forall_const, reduceCtorEq, implies_true, exists_eq_left', exists_eq_left, if_true, if_false, undef]
  generalize d / (s + 1) = u at *
  generalize d % (s + 1) = v at *
  have w2 : IntKind.i64.wrap (u : Int) = (u : Int) := by rw [wrap_id] <;> omega
  have q2 : Int.tdiv (u : Int) 2 = ((u / 2 : Nat) : Int) := rfl
  have r2 : Int.tmod (u : Int) 2 = ((u % 2 : Nat) : Int) := rfl
  have w3 : IntKind.i64.wrap ((u / 2 : Nat) : Int) = ((u / 2 : Nat) : Int) := by rw [wrap_id] <;> omega
  have w4 : IntKind.i64.wrap (((u % 2 : Nat) : Int) * 2) = ((u % 2 : Nat) : Int) * 2 := by rw [wrap_id] <;> omega
  have w5 : IntKind.i64.wrap (((u % 2 : Nat) : Int) * 2 - 1) = if u % 2 = 1 then 1 else -1 := by
    rw [wrap_id] <;> first | omega | (split <;> omega)
  refine ⟨h0, ?_⟩
  simp (maxSteps := 1000000) only [w1, w2, q2, r2, w3, w4, w5, encR, encRow, encM, EA, EB, EC, ED, EE, EF, EG, EH, EI, XA, XB, XC, XD, XE, XF, XG, XH, XI, XJ, XK, XL, XM, reduceIte, ↓reduceIte, Nat.reduceAdd, Nat.reduceLeDiff, Nat.reduceEqDiff, Nat.reduceLT, Nat.reduceSub, Nat.reduceBEq, forall_const, reduceCtorEq, implies_true, exists_eq_left', exists_eq_left, if_true, if_false, undef]
  exact ⟨h0, by decide, by decide⟩

/-- the rows of a machine that is built from the last rule to the first -/
def bZ : AV := .agg [I 0, I 0, I 0]
def bE (s n j p : Nat) : AV := if j ≤ p then encR (bldR s (dgt s n p)) else bZ
def bR1 (s k : Nat) : List MRow := (List.range s).map fun i => .own (if i < k then [bZ, bZ] else [])
def bR2 (s n j : Nat) : List MRow := (List.range s).map fun i => .own [bE s n j (2 * i), bE s n j (2 * i + 1)]

theorem bR1_zero (s : Nat) : bR1 s 0 = List.replicate s (.own []) := by
  apply List.ext_getElem?
  intro i
  by_cases hi : i < s <;> simp [bR1, hi]
theorem bR1_set {s k : Nat} (h : k < s) : (bR1 s k).set k (.own [bZ, bZ]) = bR1 s (k + 1) := by
  apply List.ext_getElem?
  intro i
  rw [List.getElem?_set]
  by_cases hi : k = i
  · subst hi; simp [bR1, h]
  · rw [if_neg hi]
    by_cases hs : i < s
    · have : i < k + 1 ↔ i < k := by omega
      simp [bR1, hs, this]
    · simp [bR1, hs]
theorem bR_mid {s n : Nat} : bR1 s s = bR2 s n (2 * s) := by
  apply List.ext_getElem?
  intro i
  by_cases hi : i < s
  · have h1 : ¬ 2 * s ≤ 2 * i := by omega
    have h2 : ¬ 2 * s ≤ 2 * i + 1 := by omega
    simp [bR1, bR2, bE, hi, h1, h2]
  · simp [bR1, bR2, hi]
theorem bR2_get {s n j i : Nat} (h : i < s) : (bR2 s n j)[i]? = some (.own [bE s n j (2 * i), bE s n j (2 * i + 1)]) := by simp [bR2, h]
theorem bR2_set {s n p : Nat} (h : p < 2 * s) : (bR2 s n (p + 1)).set (p / 2) (.own ([bE s n (p + 1) (2 * (p / 2)), bE s n (p + 1) (2 * (p / 2) + 1)].set (p % 2) (encR (bldR s (dgt s n p))))) = bR2 s n p := by
  apply List.ext_getElem?
  intro i
  rw [List.getElem?_set]
  by_cases hi : p / 2 = i
  · subst hi
    have hl : p / 2 < (bR2 s n (p + 1)).length := by simp [bR2]; omega
    have hs : p / 2 < s := by omega
    rw [if_pos rfl, if_pos hl, bR2_get hs]
    rcases (by omega : p % 2 = 0 ∨ p % 2 = 1) with h2 | h2
    · have e : 2 * (p / 2) = p := by omega
      have h3 : p + 1 ≤ p + 1 := Nat.le_refl _
      have h4 : p ≤ p + 1 := by omega
      simp [h2, e, bE, h4]
    · have e : 2 * (p / 2) + 1 = p := by omega
      have e2 : ¬ p + 1 ≤ 2 * (p / 2) := by omega
      have e3 : ¬ p ≤ 2 * (p / 2) := by omega
      simp [h2, e, bE, e2, e3]
  · rw [if_neg hi]
    by_cases hs : i < s
    · rw [bR2_get hs, bR2_get hs]
      have e1 : p + 1 ≤ 2 * i ↔ p ≤ 2 * i := by omega
      have e2 : p + 1 ≤ 2 * i + 1 ↔ p ≤ 2 * i + 1 := by omega
      simp only [bE, e1, e2]
    · simp [bR2, hs]

theorem buildP_spec (s n : Nat) (hs : s = 1 ∨ s = 2) (hn : n < bldTop s) : CallsA Try.prog 18 [IN s, IN n] (encM (bldM s n)) [] := by
  refine fn_of0 comp18 (by simp) ?_
  unfold code18
  have hb : bldTop s ≤ 20736 := by rcases hs with rfl | rfl <;> decide
  have hrep : List.replicate s (MRow.own []) = bR1 s 0 := (bR1_zero s).symm
  simp (maxSteps := 1000000) only [encR, encRow, encM, EA, EB, EC, ED, EE, EF, EG, EH, EI, XA, XB, XC, XD, XE, XF, XG, XH, XI, XJ, XK, XL, XM, reduceIte, ↓reduceIte, Nat.reduceAdd, Nat.reduceLeDiff, Nat.reduceEqDiff, Nat.reduceLT, Nat.reduceSub, Nat.reduceBEq, forall_const, reduceCtorEq, implies_true, exists_eq_left', exists_eq_left, if_true, if_false, undef]
  refine ⟨by omega, by omega, by omega, .inr ?_⟩
  simp (maxSteps := 1000000) only [hrep, Int.toNat_natCast, encR, encRow, encM, EA, EB, EC, ED, EE, EF, EG, EH, EI, XA, XB, XC, XD, XE, XF, XG, XH, XI, XJ, XK, XL, XM, reduceIte, ↓reduceIte, Nat.reduceAdd, Nat.reduceLeDiff, Nat.reduceEqDiff, Nat.reduceLT, Nat.reduceSub, Nat.reduceBEq, forall_const, reduceCtorEq, implies_true, exists_eq_left', exists_eq_left, if_true, if_false, undef]
  have hl1 : ∀ k, (bR1 s k).length = s := fun k => by simp [bR1]
  have hl2 : ∀ k, (bR2 s n k).length = s := fun k => by simp [bR2]
  have hz2 : List.replicate ((2 : Int).toNat) (AV.agg [AV.v (.int .i64 0), AV.v (.int .i64 0), AV.v (.int .i64 0)]) = [bZ, bZ] := rfl
  refine loopO Nat [12] (fun k => [IN k]) (fun k => [(2, some (.mat 3 (bR1 s k)))]) (fun k => k ≤ s) (fun k => s - k) (by decide) 0 (by simp) (by simp [Back, BackF, fzT, fzM, fzU, fz, fzL, fzO, kin, SubT, Sub, SubL, SubM, SubO, keepM, srcOk, look, lookM, ev, evs, putT, argT, encR, encRow, encM, EA, EB, EC, ED, EE, EF, EG, EH, EI, XA, XB, XC, XD, XE, XF, XG, XH, XI, XJ, XK, XL, XM, reduceIte, ↓reduceIte, Nat.reduceAdd, Nat.reduceLeDiff, Nat.reduceEqDiff, Nat.reduceLT, Nat.reduceSub, Nat.reduceBEq, forall_const, reduceCtorEq, implies_true, exists_eq_left', exists_eq_left, if_true, if_false, undef]) (fun k hk => ?_)
  by_cases c1 : k < s
  · have g1 : decide ((k : Int) < (s : Int)) = true := by simp [c1]
    have w1 : IntKind.i64.wrap ((k : Int) + 1) = ((k + 1 : Nat) : Int) := by rw [wrap_id] <;> omega
    simp (maxSteps := 1000000) only [g1, w1, hl1, hz2, Int.toNat_natCast, encR, encRow, encM, EA, EB, EC, ED, EE, EF, EG, EH, EI, XA, XB, XC, XD, XE, XF, XG, XH, XI, XJ, XK, XL, XM, reduceIte, ↓reduceIte, Nat.reduceAdd, Nat.reduceLeDiff, Nat.reduceEqDiff, Nat.reduceLT, Nat.reduceSub, Nat.reduceBEq, forall_const, reduceCtorEq, implies_true, exists_eq_left', exists_eq_left, if_true, if_false, undef]
    refine ⟨by omega, by omega, by omega, by omega, by omega, c1, rfl, k + 1, by omega, by omega, ?_⟩
    rw [bR1_set c1]
    simp [Back, BackF, fzT, fzM, fzU, fz, fzL, fzO, kin, SubT, Sub, SubL, SubM, SubO, keepM, srcOk, look, lookM, ev, evs, putT, argT, encR, encRow, encM, EA, EB, EC, ED, EE, EF, EG, EH, EI, XA, XB, XC, XD, XE, XF, XG, XH, XI, XJ, XK, XL, XM, reduceIte, ↓reduceIte, Nat.reduceAdd, Nat.reduceLeDiff, Nat.reduceEqDiff, Nat.reduceLT, Nat.reduceSub, Nat.reduceBEq, forall_const, reduceCtorEq, implies_true, exists_eq_left', exists_eq_left, if_true, if_false, undef]
  · have g1 : decide ((k : Int) < (s : Int)) = false := by simp only [decide_eq_false_iff_not]; omega
    obtain rfl : k = s := by omega
    have w2 : IntKind.i64.wrap ((k : Int) * 2) = ((2 * k : Nat) : Int) := by rw [wrap_id] <;> omega
    have w3 : IntKind.i64.wrap (((2 * k : Nat) : Int) - 1) = ((2 * k : Nat) : Int) - 1 := by rw [wrap_id] <;> omega
    rw [bR_mid (n := n)]
    simp (maxSteps := 1000000) only [g1, w2, w3, encR, encRow, encM, EA, EB, EC, ED, EE, EF, EG, EH, EI, XA, XB, XC, XD, XE, XF, XG, XH, XI, XJ, XK, XL, XM, reduceIte, ↓reduceIte, Nat.reduceAdd, Nat.reduceLeDiff, Nat.reduceEqDiff, Nat.reduceLT, Nat.reduceSub, Nat.reduceBEq, forall_const, reduceCtorEq, implies_true, exists_eq_left', exists_eq_left, if_true, if_false, undef]
    have hbp : 4 * (k + 1) ≤ 12 := by omega
    refine loopO Nat [7, 1] (fun j => [I ((j : Int) - 1), IN (n / (4 * (k + 1)) ^ (2 * k - j))]) (fun j => [(2, some (.mat 3 (bR2 k n j)))]) (fun j => j ≤ 2 * k) (fun j => j) (by decide) (2 * k) (by simp) (by simp [Back, BackF, fzT, fzM, fzU, fz, fzL, fzO, kin, SubT, Sub, SubL, SubM, SubO, keepM, srcOk, look, lookM, ev, evs, putT, argT, encR, encRow, encM, EA, EB, EC, ED, EE, EF, EG, EH, EI, XA, XB, XC, XD, XE, XF, XG, XH, XI, XJ, XK, XL, XM, reduceIte, ↓reduceIte, Nat.reduceAdd, Nat.reduceLeDiff, Nat.reduceEqDiff, Nat.reduceLT, Nat.reduceSub, Nat.reduceBEq, forall_const, reduceCtorEq, implies_true, exists_eq_left', exists_eq_left, if_true, if_false, undef]) (fun j hj => ?_)
    by_cases c2 : 1 ≤ j
    · have g2 : decide (((j : Int) - 1) ≥ 0) = true := by simp only [decide_eq_true_eq]; omega
      obtain ⟨p, rfl⟩ : ∃ p, j = p + 1 := ⟨j - 1, by omega⟩
      have ep : ((p + 1 : Nat) : Int) - 1 = (p : Int) := by omega
      rw [ep] at g2
      have d1 : Int.tdiv (p : Int) 2 = ((p / 2 : Nat) : Int) := rfl
      have d2 : Int.tmod (p : Int) 2 = ((p % 2 : Nat) : Int) := rfl
      have w4 : IntKind.i64.wrap ((p / 2 : Nat) : Int) = ((p / 2 : Nat) : Int) := by rw [wrap_id] <;> omega
      generalize hq : n / (4 * (k + 1)) ^ (2 * k - (p + 1)) = q
      have hqn : q ≤ n := hq ▸ Nat.div_le_self _ _
      have d3 : Int.tmod (q : Int) ((4 * (k + 1) : Nat) : Int) = ((dgt k n p : Nat) : Int) := by
        have : dgt k n p = q % (4 * (k + 1)) := by rw [dgt, ← hq, show 2 * k - 1 - p = 2 * k - (p + 1) by omega]
        rw [this]; rfl
      have d4 : Int.tdiv (q : Int) ((4 * (k + 1) : Nat) : Int) = ((n / (4 * (k + 1)) ^ (2 * k - p) : Nat) : Int) := by
        have : n / (4 * (k + 1)) ^ (2 * k - p) = q / (4 * (k + 1)) := by
          rw [← hq, Nat.div_div_eq_div_mul, ← Nat.pow_succ, show (2 * k - (p + 1)).succ = 2 * k - p by omega]
        rw [this]; rfl
      have hq2 : n / (4 * (k + 1)) ^ (2 * k - p) ≤ n := Nat.div_le_self _ _
      have hdg := dgt_ok k n p
      have h0 : ((4 * (k + 1) : Nat) : Int) ≠ 0 := by omega
      have w5 : IntKind.i64.wrap ((n / (4 * (k + 1)) ^ (2 * k - p) : Nat) : Int) = ((n / (4 * (k + 1)) ^ (2 * k - p) : Nat) : Int) := by
        generalize n / (4 * (k + 1)) ^ (2 * k - p) = z at *
        rw [wrap_id] <;> omega
      simp (maxSteps := 1000000) only [ep, g2, d1, d2, w4, hl2, encR, encRow, encM, EA, EB, EC, ED, EE, EF, EG, EH, EI, XA, XB, XC, XD, XE, XF, XG, XH, XI, XJ, XK, XL, XM, reduceIte, ↓reduceIte, Nat.reduceAdd, Nat.reduceLeDiff, Nat.reduceEqDiff, Nat.reduceLT, Nat.reduceSub, Nat.reduceBEq, forall_const, reduceCtorEq, implies_true, exists_eq_left', exists_eq_left, if_true, if_false, undef]
      refine ⟨by decide, by omega, by omega, PickR.mk (.own [bE k n (p + 1) (2 * (p / 2)), bE k n (p + 1) (2 * (p / 2) + 1)]) (by rw [Int.toNat_natCast]; exact bR2_get (by omega)) ?_⟩
      simp (maxSteps := 1000000) only [d2, encR, encRow, encM, EA, EB, EC, ED, EE, EF, EG, EH, EI, XA, XB, XC, XD, XE, XF, XG, XH, XI, XJ, XK, XL, XM, reduceIte, ↓reduceIte, Nat.reduceAdd, Nat.reduceLeDiff, Nat.reduceEqDiff, Nat.reduceLT, Nat.reduceSub, Nat.reduceBEq, forall_const, reduceCtorEq, implies_true, exists_eq_left', exists_eq_left, if_true, if_false, undef]
      refine ⟨by decide, ?_⟩
      refine callD (CallsA.args (bdig_spec k (by omega)) (by simp [encR, encRow, encM, EA, EB, EC, ED, EE, EF, EG, EH, EI, XA, XB, XC, XD, XE, XF, XG, XH, XI, XJ, XK, XL, XM, reduceIte, ↓reduceIte, Nat.reduceAdd, Nat.reduceLeDiff, Nat.reduceEqDiff, Nat.reduceLT, Nat.reduceSub, Nat.reduceBEq, forall_const, reduceCtorEq, implies_true, exists_eq_left', exists_eq_left, if_true, if_false, undef])) rfl (by simp [flat, encR, encRow, encM, EA, EB, EC, ED, EE, EF, EG, EH, EI, XA, XB, XC, XD, XE, XF, XG, XH, XI, XJ, XK, XL, XM, reduceIte, ↓reduceIte, Nat.reduceAdd, Nat.reduceLeDiff, Nat.reduceEqDiff, Nat.reduceLT, Nat.reduceSub, Nat.reduceBEq, forall_const, reduceCtorEq, implies_true, exists_eq_left', exists_eq_left, if_true, if_false, undef]) (by simp [encR, encRow, encM, EA, EB, EC, ED, EE, EF, EG, EH, EI, XA, XB, XC, XD, XE, XF, XG, XH, XI, XJ, XK, XL, XM, reduceIte, ↓reduceIte, Nat.reduceAdd, Nat.reduceLeDiff, Nat.reduceEqDiff, Nat.reduceLT, Nat.reduceSub, Nat.reduceBEq, forall_const, reduceCtorEq, implies_true, exists_eq_left', exists_eq_left, if_true, if_false, undef]) ?_
      simp (maxSteps := 1000000) only [d3, encR, encRow, encM, EA, EB, EC, ED, EE, EF, EG, EH, EI, XA, XB, XC, XD, XE, XF, XG, XH, XI, XJ, XK, XL, XM, reduceIte, ↓reduceIte, Nat.reduceAdd, Nat.reduceLeDiff, Nat.reduceEqDiff, Nat.reduceLT, Nat.reduceSub, Nat.reduceBEq, forall_const, reduceCtorEq, implies_true, exists_eq_left', exists_eq_left, if_true, if_false, undef]
      refine ⟨h0, ?_⟩
      refine callD (CallsA.args (ruleOf_spec k (dgt k n p) hs hdg) (by simp [encR, encRow, encM, EA, EB, EC, ED, EE, EF, EG, EH, EI, XA, XB, XC, XD, XE, XF, XG, XH, XI, XJ, XK, XL, XM, reduceIte, ↓reduceIte, Nat.reduceAdd, Nat.reduceLeDiff, Nat.reduceEqDiff, Nat.reduceLT, Nat.reduceSub, Nat.reduceBEq, forall_const, reduceCtorEq, implies_true, exists_eq_left', exists_eq_left, if_true, if_false, undef])) rfl (by simp [flat, encR, encRow, encM, EA, EB, EC, ED, EE, EF, EG, EH, EI, XA, XB, XC, XD, XE, XF, XG, XH, XI, XJ, XK, XL, XM, reduceIte, ↓reduceIte, Nat.reduceAdd, Nat.reduceLeDiff, Nat.reduceEqDiff, Nat.reduceLT, Nat.reduceSub, Nat.reduceBEq, forall_const, reduceCtorEq, implies_true, exists_eq_left', exists_eq_left, if_true, if_false, undef]) (by simp [encR, encRow, encM, EA, EB, EC, ED, EE, EF, EG, EH, EI, XA, XB, XC, XD, XE, XF, XG, XH, XI, XJ, XK, XL, XM, reduceIte, ↓reduceIte, Nat.reduceAdd, Nat.reduceLeDiff, Nat.reduceEqDiff, Nat.reduceLT, Nat.reduceSub, Nat.reduceBEq, forall_const, reduceCtorEq, implies_true, exists_eq_left', exists_eq_left, if_true, if_false, undef]) ?_
      simp (maxSteps := 1000000) only [encR, encRow, encM, EA, EB, EC, ED, EE, EF, EG, EH, EI, XA, XB, XC, XD, XE, XF, XG, XH, XI, XJ, XK, XL, XM, reduceIte, ↓reduceIte, Nat.reduceAdd, Nat.reduceLeDiff, Nat.reduceEqDiff, Nat.reduceLT, Nat.reduceSub, Nat.reduceBEq, forall_const, reduceCtorEq, implies_true, exists_eq_left', exists_eq_left, if_true, if_false, undef]
      refine ⟨by omega, by omega, by omega, ⟨by rfl, by rfl⟩, ?_⟩
      refine callF (CallsA.args (bdig_spec k (by omega)) (by simp [encR, encRow, encM, EA, EB, EC, ED, EE, EF, EG, EH, EI, XA, XB, XC, XD, XE, XF, XG, XH, XI, XJ, XK, XL, XM, reduceIte, ↓reduceIte, Nat.reduceAdd, Nat.reduceLeDiff, Nat.reduceEqDiff, Nat.reduceLT, Nat.reduceSub, Nat.reduceBEq, forall_const, reduceCtorEq, implies_true, exists_eq_left', exists_eq_left, if_true, if_false, undef])) rfl (by simp [flat, encR, encRow, encM, EA, EB, EC, ED, EE, EF, EG, EH, EI, XA, XB, XC, XD, XE, XF, XG, XH, XI, XJ, XK, XL, XM, reduceIte, ↓reduceIte, Nat.reduceAdd, Nat.reduceLeDiff, Nat.reduceEqDiff, Nat.reduceLT, Nat.reduceSub, Nat.reduceBEq, forall_const, reduceCtorEq, implies_true, exists_eq_left', exists_eq_left, if_true, if_false, undef]) ?_
      have ws : IntKind.i64.wrap ((p : Int) - 1) = (p : Int) - 1 := by rw [wrap_id] <;> omega
      simp (maxSteps := 1000000) only [d4, w5, ws, Int.toNat_natCast, encR, encRow, encM, EA, EB, EC, ED, EE, EF, EG, EH, EI, XA, XB, XC, XD, XE, XF, XG, XH, XI, XJ, XK, XL, XM, reduceIte, ↓reduceIte, Nat.reduceAdd, Nat.reduceLeDiff, Nat.reduceEqDiff, Nat.reduceLT, Nat.reduceSub, Nat.reduceBEq, forall_const, reduceCtorEq, implies_true, exists_eq_left', exists_eq_left, if_true, if_false, undef]
      refine ⟨h0, p, by omega, by omega, ?_⟩
      have hset := bR2_set (s := k) (n := n) (p := p) (by omega)
      simp only [encR] at hset
      simp (maxSteps := 1000000) [List.set_set, hset, Back, BackF, fzT, fzM, fzU, fz, fzL, fzO, kin, SubT, Sub, SubL, SubM, SubO, keepM, srcOk, look, lookM, ev, evs, putT, argT, encR, encRow, encM, EA, EB, EC, ED, EE, EF, EG, EH, EI, XA, XB, XC, XD, XE, XF, XG, XH, XI, XJ, XK, XL, XM, reduceIte, ↓reduceIte, Nat.reduceAdd, Nat.reduceLeDiff, Nat.reduceEqDiff, Nat.reduceLT, Nat.reduceSub, Nat.reduceBEq, forall_const, reduceCtorEq, implies_true, exists_eq_left', exists_eq_left, if_true, if_false, undef]
    · have g2 : decide (((j : Int) - 1) ≥ 0) = false := by simp only [decide_eq_false_iff_not]; omega
      obtain rfl : j = 0 := by omega
      simp (maxSteps := 1000000) only [g2, encR, encRow, encM, EA, EB, EC, ED, EE, EF, EG, EH, EI, XA, XB, XC, XD, XE, XF, XG, XH, XI, XJ, XK, XL, XM, reduceIte, ↓reduceIte, Nat.reduceAdd, Nat.reduceLeDiff, Nat.reduceEqDiff, Nat.reduceLT, Nat.reduceSub, Nat.reduceBEq, forall_const, reduceCtorEq, implies_true, exists_eq_left', exists_eq_left, if_true, if_false, undef]
      refine FzVC.mk [2] rfl ?_
      have hfin : (bR2 k n 0).map (rowRO 3) = (bldM k n).rules.map encRow := by
        simp only [bR2, bldM, List.map_map]
        apply List.map_congr_left
        intro i _
        simp [rowRO, bE, encRow]
      have hok : rowsOk (bR2 k n 0) = true := by
        rcases hs with rfl | rfl <;> rfl
      have htk : ((bR2 k n 0).map (rowRO 3)).take k = (bldM k n).rules.map encRow := by
        rw [List.take_of_length_le (by simp [bR2]), hfin]
      have hm1 : (bldM k n).states = (k : Int) := rfl
      have hm2 : (bldM k n).signs = 2 := rfl
      simp (maxSteps := 1000000) only [hok, htk, hm1, hm2, encM, encR, encRow, encM, EA, EB, EC, ED, EE, EF, EG, EH, EI, XA, XB, XC, XD, XE, XF, XG, XH, XI, XJ, XK, XL, XM, reduceIte, ↓reduceIte, Nat.reduceAdd, Nat.reduceLeDiff, Nat.reduceEqDiff, Nat.reduceLT, Nat.reduceSub, Nat.reduceBEq, forall_const, reduceCtorEq, implies_true, exists_eq_left', exists_eq_left, if_true, if_false, undef]

end Go.Av
