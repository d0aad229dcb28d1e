/- For any two numbers: the Ackermann function is above the second one, and grows with either; for all arguments. -/
import Derived.Test.YtlemkfgipbfjhabFunA
import Derived.Test.YtlemkfgipbfjhabRows
import Derived.ProofKit
set_option linter.unusedSimpArgs false
set_option linter.unusedVariables false
set_option maxRecDepth 100000
namespace Go.Av
open Go.Proofs

theorem rangeMap_get? (f : Nat → Nat) (n i : Nat) : ((List.range n).map f)[i]? = if i < n then some (f i) else none := by
  by_cases h : i < n
  · rw [List.getElem?_map, List.getElem?_range h, if_pos h]; rfl
  · rw [List.getElem?_eq_none (by simp; omega), if_neg h]
theorem if_some {c : Prop} [Decidable c] {a y : Nat} (h : (if c then some a else none) = some y) : c ∧ a = y := by
  split at h
  · rename_i hc; cases h; exact ⟨hc, rfl⟩
  · cases h
theorem ack_up : ∀ {m n y : Nat}, m ≤ 4 → (rowC m)[n]? = some y → n < y ∧ n < 1000 ∧ (∀ z, (rowC m)[n + 1]? = some z → y < z) ∧ (m < 4 → ∀ z, (rowC (m + 1))[n]? = some z → y < z) := by
  intro m n y hm h
  rcases (by omega : m = 0 ∨ m = 1 ∨ m = 2 ∨ m = 3 ∨ m = 4) with rfl | rfl | rfl | rfl | rfl
  · simp only [rowC, rangeMap_get?] at h ⊢
    obtain ⟨h1, rfl⟩ := if_some h
    exact ⟨by omega, by omega, fun z hz => by obtain ⟨_, rfl⟩ := if_some hz; omega, fun _ z hz => by obtain ⟨_, rfl⟩ := if_some hz; omega⟩
  · simp only [rowC, rangeMap_get?] at h ⊢
    obtain ⟨h1, rfl⟩ := if_some h
    exact ⟨by omega, by omega, fun z hz => by obtain ⟨_, rfl⟩ := if_some hz; omega, fun _ z hz => by obtain ⟨_, rfl⟩ := if_some hz; omega⟩
  · have h3 : ∀ n, n < 7 → ∀ z, (rowC 3)[n]? = some z → 2 * n + 3 < z := by decide
    simp only [rowC, rangeMap_get?] at h ⊢
    obtain ⟨h1, rfl⟩ := if_some h
    refine ⟨by omega, by omega, fun z hz => by obtain ⟨_, rfl⟩ := if_some hz; omega, fun _ z hz => h3 n ?_ z hz⟩
    exact (List.getElem?_eq_some_iff.1 hz).1
  · have hn : n < 7 := (List.getElem?_eq_some_iff.1 h).1
    have h3 : ∀ n, n < 7 → ∀ y, (rowC 3)[n]? = some y → n < y ∧ n < 1000 ∧ (∀ z, (rowC 3)[n + 1]? = some z → y < z) ∧ ∀ z, (rowC 4)[n]? = some z → y < z := by
      intro n hn
      rcases (by omega : n = 0 ∨ n = 1 ∨ n = 2 ∨ n = 3 ∨ n = 4 ∨ n = 5 ∨ n = 6) with rfl | rfl | rfl | rfl | rfl | rfl | rfl <;> simp [rowC]
    obtain ⟨a, b, c, d⟩ := h3 n hn y h
    exact ⟨a, b, c, fun _ => d⟩
  · have hn : n < 1 := (List.getElem?_eq_some_iff.1 h).1
    obtain rfl : n = 0 := by omega
    simp only [rowC] at h
    obtain rfl : 13 = y := by simpa using h
    exact ⟨by omega, by omega, fun z hz => by simp [rowC] at hz, fun h => by omega⟩

theorem c40 : ((4 : Int) == 0) = false := by decide
theorem c44 : ((4 : Int) == 4) = true := by decide
theorem c47 : ((4 : Int) == 7) = false := by decide
theorem c77 : ((7 : Int) == 7) = true := by decide
theorem c07 : ((0 : Int) == 7) = false := by decide
theorem c04 : ((0 : Int) == 4) = false := by decide
theorem c74 : ((7 : Int) == 4) = false := by decide
theorem c00 : ((0 : Int) == 0) = true := by decide
theorem c70 : ((7 : Int) == 0) = false := by decide
theorem n40 : ((4 : Int) != 0) = true := by decide
theorem n70 : ((7 : Int) != 0) = true := by decide
theorem n00 : ((0 : Int) != 0) = false := by decide

theorem funcsAck_spec (m n : Int) : CallsA Try.prog 9 [I m, I n] (Bo true) [] := by
  refine fn_of0 comp9 (by simp) ?_
  unfold code9
  simp (maxSteps := 1000000) only [EA, EB, EC, ED, EE, EF, EG, EH, XA, XB, XC, XD, XE, XF, XG, XH, XI, XJ, XK, XL, XM, reduceIte, ↓reduceIte, Nat.reduceAdd, Nat.reduceLeDiff, Nat.reduceEqDiff, Nat.reduceLT, Nat.reduceSub, Nat.reduceBEq, forall_const, reduceCtorEq, implies_true, exists_eq_left', exists_eq_left, if_true, if_false, undef]
  by_cases hr : m < 0 ∨ n < 0 ∨ 4 < m
  · refine callA (CallsA.args (ack_range m n hr) (by simp [EA, EB, EC, ED, EE, EF, EG, EH, XA, XB, XC, XD, XE, XF, XG, XH, XI, XJ, XK, XL, XM, reduceIte, ↓reduceIte, Nat.reduceAdd, Nat.reduceLeDiff, Nat.reduceEqDiff, Nat.reduceLT, Nat.reduceSub, Nat.reduceBEq, forall_const, reduceCtorEq, implies_true, exists_eq_left', exists_eq_left, if_true, if_false, undef])) rfl ?_
    simp (maxSteps := 1000000) only [EA, EB, EC, ED, EE, EF, EG, EH, XA, XB, XC, XD, XE, XF, XG, XH, XI, XJ, XK, XL, XM, reduceIte, ↓reduceIte, Nat.reduceAdd, Nat.reduceLeDiff, Nat.reduceEqDiff, Nat.reduceLT, Nat.reduceSub, Nat.reduceBEq, forall_const, reduceCtorEq, implies_true, exists_eq_left', exists_eq_left, if_true, if_false, undef]
    refine callF (CallsA.args (within_spec 0 m 4) (by simp [EA, EB, EC, ED, EE, EF, EG, EH, XA, XB, XC, XD, XE, XF, XG, XH, XI, XJ, XK, XL, XM, reduceIte, ↓reduceIte, Nat.reduceAdd, Nat.reduceLeDiff, Nat.reduceEqDiff, Nat.reduceLT, Nat.reduceSub, Nat.reduceBEq, forall_const, reduceCtorEq, implies_true, exists_eq_left', exists_eq_left, if_true, if_false, undef])) rfl (by simp [flat, EA, EB, EC, ED, EE, EF, EG, EH, XA, XB, XC, XD, XE, XF, XG, XH, XI, XJ, XK, XL, XM, reduceIte, ↓reduceIte, Nat.reduceAdd, Nat.reduceLeDiff, Nat.reduceEqDiff, Nat.reduceLT, Nat.reduceSub, Nat.reduceBEq, forall_const, reduceCtorEq, implies_true, exists_eq_left', exists_eq_left, if_true, if_false, undef]) ?_
    by_cases hw : 0 ≤ m ∧ m ≤ 4
    · have g1 : decide (0 ≤ m ∧ m ≤ 4) = true := by simpa using hw
      have g2 : decide (n < 0) = true := by simp; omega
      simp (maxSteps := 1000000) only [g1, g2, n40, c40, c44, c00, Bo, EA, EB, EC, ED, EE, EF, EG, EH, XA, XB, XC, XD, XE, XF, XG, XH, XI, XJ, XK, XL, XM, reduceIte, ↓reduceIte, Nat.reduceAdd, Nat.reduceLeDiff, Nat.reduceEqDiff, Nat.reduceLT, Nat.reduceSub, Nat.reduceBEq, forall_const, reduceCtorEq, implies_true, exists_eq_left', exists_eq_left, if_true, if_false, undef]
    · have g1 : decide (0 ≤ m ∧ m ≤ 4) = false := by rw [decide_eq_false_iff_not]; exact hw
      simp (maxSteps := 1000000) only [g1, n40, c40, c44, c00, Bo, EA, EB, EC, ED, EE, EF, EG, EH, XA, XB, XC, XD, XE, XF, XG, XH, XI, XJ, XK, XL, XM, reduceIte, ↓reduceIte, Nat.reduceAdd, Nat.reduceLeDiff, Nat.reduceEqDiff, Nat.reduceLT, Nat.reduceSub, Nat.reduceBEq, forall_const, reduceCtorEq, implies_true, exists_eq_left', exists_eq_left, if_true, if_false, undef]
  obtain ⟨a, rfl⟩ : ∃ a : Nat, m = a := ⟨m.toNat, by omega⟩
  obtain ⟨b, rfl⟩ : ∃ b : Nat, n = b := ⟨n.toNat, by omega⟩
  have ha : a ≤ 4 := by omega
  have g1 : decide (0 ≤ (a : Int) ∧ (a : Int) ≤ 4) = true := by rw [decide_eq_true_iff]; omega
  have g2 : decide ((b : Int) < 0) = false := by simp
  refine callA (CallsA.args (ackP_spec a b ha) (by simp [EA, EB, EC, ED, EE, EF, EG, EH, XA, XB, XC, XD, XE, XF, XG, XH, XI, XJ, XK, XL, XM, reduceIte, ↓reduceIte, Nat.reduceAdd, Nat.reduceLeDiff, Nat.reduceEqDiff, Nat.reduceLT, Nat.reduceSub, Nat.reduceBEq, forall_const, reduceCtorEq, implies_true, exists_eq_left', exists_eq_left, if_true, if_false, undef])) rfl ?_
  cases h1 : (rowC a)[b]? with
  | none =>
    rw [ackAns, h1]
    simp (maxSteps := 1000000) only [EA, EB, EC, ED, EE, EF, EG, EH, XA, XB, XC, XD, XE, XF, XG, XH, XI, XJ, XK, XL, XM, reduceIte, ↓reduceIte, Nat.reduceAdd, Nat.reduceLeDiff, Nat.reduceEqDiff, Nat.reduceLT, Nat.reduceSub, Nat.reduceBEq, forall_const, reduceCtorEq, implies_true, exists_eq_left', exists_eq_left, if_true, if_false, undef]
    refine callF (CallsA.args (within_spec 0 (a : Int) 4) (by simp [EA, EB, EC, ED, EE, EF, EG, EH, XA, XB, XC, XD, XE, XF, XG, XH, XI, XJ, XK, XL, XM, reduceIte, ↓reduceIte, Nat.reduceAdd, Nat.reduceLeDiff, Nat.reduceEqDiff, Nat.reduceLT, Nat.reduceSub, Nat.reduceBEq, forall_const, reduceCtorEq, implies_true, exists_eq_left', exists_eq_left, if_true, if_false, undef])) rfl (by simp [flat, EA, EB, EC, ED, EE, EF, EG, EH, XA, XB, XC, XD, XE, XF, XG, XH, XI, XJ, XK, XL, XM, reduceIte, ↓reduceIte, Nat.reduceAdd, Nat.reduceLeDiff, Nat.reduceEqDiff, Nat.reduceLT, Nat.reduceSub, Nat.reduceBEq, forall_const, reduceCtorEq, implies_true, exists_eq_left', exists_eq_left, if_true, if_false, undef]) ?_
    simp (maxSteps := 1000000) only [g1, g2, n70, n40, c40, c44, c00, c77, Bo, EA, EB, EC, ED, EE, EF, EG, EH, XA, XB, XC, XD, XE, XF, XG, XH, XI, XJ, XK, XL, XM, reduceIte, ↓reduceIte, Nat.reduceAdd, Nat.reduceLeDiff, Nat.reduceEqDiff, Nat.reduceLT, Nat.reduceSub, Nat.reduceBEq, forall_const, reduceCtorEq, implies_true, exists_eq_left', exists_eq_left, if_true, if_false, undef]
  | some y =>
  obtain ⟨u1, u2, u3, u4⟩ := ack_up ha h1
  rw [ackAns, h1]
  have g3 : decide ((y : Int) ≤ (b : Int)) = false := by simp; omega
  have g4 : decide ((b : Int) > 1000) = false := by simp; omega
  have w1 : IntKind.i64.wrap ((b : Int) + 1) = ((b + 1 : Nat) : Int) := by rw [wrap_id] <;> omega
  have w2 : IntKind.i64.wrap ((a : Int) + 1) = ((a + 1 : Nat) : Int) := by rw [wrap_id] <;> omega
  simp (maxSteps := 1000000) only [EA, EB, EC, ED, EE, EF, EG, EH, XA, XB, XC, XD, XE, XF, XG, XH, XI, XJ, XK, XL, XM, reduceIte, ↓reduceIte, Nat.reduceAdd, Nat.reduceLeDiff, Nat.reduceEqDiff, Nat.reduceLT, Nat.reduceSub, Nat.reduceBEq, forall_const, reduceCtorEq, implies_true, exists_eq_left', exists_eq_left, if_true, if_false, undef]
  refine callF (CallsA.args (within_spec 0 (a : Int) 4) (by simp [EA, EB, EC, ED, EE, EF, EG, EH, XA, XB, XC, XD, XE, XF, XG, XH, XI, XJ, XK, XL, XM, reduceIte, ↓reduceIte, Nat.reduceAdd, Nat.reduceLeDiff, Nat.reduceEqDiff, Nat.reduceLT, Nat.reduceSub, Nat.reduceBEq, forall_const, reduceCtorEq, implies_true, exists_eq_left', exists_eq_left, if_true, if_false, undef])) rfl (by simp [flat, EA, EB, EC, ED, EE, EF, EG, EH, XA, XB, XC, XD, XE, XF, XG, XH, XI, XJ, XK, XL, XM, reduceIte, ↓reduceIte, Nat.reduceAdd, Nat.reduceLeDiff, Nat.reduceEqDiff, Nat.reduceLT, Nat.reduceSub, Nat.reduceBEq, forall_const, reduceCtorEq, implies_true, exists_eq_left', exists_eq_left, if_true, if_false, undef]) ?_
  simp (maxSteps := 1000000) only [g1, g2, g3, g4, n00, n70, n40, c40, c44, c00, c77, w1, Bo, EA, EB, EC, ED, EE, EF, EG, EH, XA, XB, XC, XD, XE, XF, XG, XH, XI, XJ, XK, XL, XM, reduceIte, ↓reduceIte, Nat.reduceAdd, Nat.reduceLeDiff, Nat.reduceEqDiff, Nat.reduceLT, Nat.reduceSub, Nat.reduceBEq, forall_const, reduceCtorEq, implies_true, exists_eq_left', exists_eq_left, if_true, if_false, undef]
  refine callA (CallsA.args (ackP_spec a (b + 1) ha) (by simp [EA, EB, EC, ED, EE, EF, EG, EH, XA, XB, XC, XD, XE, XF, XG, XH, XI, XJ, XK, XL, XM, reduceIte, ↓reduceIte, Nat.reduceAdd, Nat.reduceLeDiff, Nat.reduceEqDiff, Nat.reduceLT, Nat.reduceSub, Nat.reduceBEq, forall_const, reduceCtorEq, implies_true, exists_eq_left', exists_eq_left, if_true, if_false, undef])) rfl ?_
  have fin : ∀ z : Nat, y < z → decide ((z : Int) > (y : Int)) = true := fun z hz => by simp; omega
  cases h2 : (rowC a)[b + 1]? with
  | none =>
    rw [ackAns, h2]
    simp (maxSteps := 1000000) only [w2, EA, EB, EC, ED, EE, EF, EG, EH, XA, XB, XC, XD, XE, XF, XG, XH, XI, XJ, XK, XL, XM, reduceIte, ↓reduceIte, Nat.reduceAdd, Nat.reduceLeDiff, Nat.reduceEqDiff, Nat.reduceLT, Nat.reduceSub, Nat.reduceBEq, forall_const, reduceCtorEq, implies_true, exists_eq_left', exists_eq_left, if_true, if_false, undef]
    by_cases h4 : a < 4
    · have z4 : ((a : Int) == 4) = false := beq_false_of_ne (by omega)
      refine callA (CallsA.args (ackP_spec (a + 1) b (by omega)) (by simp [EA, EB, EC, ED, EE, EF, EG, EH, XA, XB, XC, XD, XE, XF, XG, XH, XI, XJ, XK, XL, XM, reduceIte, ↓reduceIte, Nat.reduceAdd, Nat.reduceLeDiff, Nat.reduceEqDiff, Nat.reduceLT, Nat.reduceSub, Nat.reduceBEq, forall_const, reduceCtorEq, implies_true, exists_eq_left', exists_eq_left, if_true, if_false, undef])) rfl ?_
      cases h3 : (rowC (a + 1))[b]? with
      | none =>
        rw [ackAns, h3]
        simp (maxSteps := 1000000) only [z4, c40, c44, c00, c77, c47, c07, c04, c74, c70, Bo, EA, EB, EC, ED, EE, EF, EG, EH, XA, XB, XC, XD, XE, XF, XG, XH, XI, XJ, XK, XL, XM, reduceIte, ↓reduceIte, Nat.reduceAdd, Nat.reduceLeDiff, Nat.reduceEqDiff, Nat.reduceLT, Nat.reduceSub, Nat.reduceBEq, forall_const, reduceCtorEq, implies_true, exists_eq_left', exists_eq_left, if_true, if_false, undef]
        exact ⟨_, rfl⟩
      | some z =>
        have g5 := fin z (u4 h4 z h3)
        rw [ackAns, h3]
        simp (maxSteps := 1000000) only [z4, g5, c40, c44, c00, c77, c47, c07, c04, c74, c70, Bo, EA, EB, EC, ED, EE, EF, EG, EH, XA, XB, XC, XD, XE, XF, XG, XH, XI, XJ, XK, XL, XM, reduceIte, ↓reduceIte, Nat.reduceAdd, Nat.reduceLeDiff, Nat.reduceEqDiff, Nat.reduceLT, Nat.reduceSub, Nat.reduceBEq, forall_const, reduceCtorEq, implies_true, exists_eq_left', exists_eq_left, if_true, if_false, undef]
    · obtain rfl : a = 4 := by omega
      have z4 : (((4 : Nat) : Int) == 4) = true := by decide
      refine callA (CallsA.args (ack_range ((4 + 1 : Nat) : Int) (b : Int) (by omega)) (by simp [EA, EB, EC, ED, EE, EF, EG, EH, XA, XB, XC, XD, XE, XF, XG, XH, XI, XJ, XK, XL, XM, reduceIte, ↓reduceIte, Nat.reduceAdd, Nat.reduceLeDiff, Nat.reduceEqDiff, Nat.reduceLT, Nat.reduceSub, Nat.reduceBEq, forall_const, reduceCtorEq, implies_true, exists_eq_left', exists_eq_left, if_true, if_false, undef])) rfl ?_
      simp (maxSteps := 1000000) only [z4, c40, c44, c00, c77, c47, c07, c04, c74, c70, Bo, EA, EB, EC, ED, EE, EF, EG, EH, XA, XB, XC, XD, XE, XF, XG, XH, XI, XJ, XK, XL, XM, reduceIte, ↓reduceIte, Nat.reduceAdd, Nat.reduceLeDiff, Nat.reduceEqDiff, Nat.reduceLT, Nat.reduceSub, Nat.reduceBEq, forall_const, reduceCtorEq, implies_true, exists_eq_left', exists_eq_left, if_true, if_false, undef]
      exact ⟨_, rfl⟩
  | some x =>
    have g6 := fin x (u3 x h2)
    rw [ackAns, h2]
    simp (maxSteps := 1000000) only [w2, EA, EB, EC, ED, EE, EF, EG, EH, XA, XB, XC, XD, XE, XF, XG, XH, XI, XJ, XK, XL, XM, reduceIte, ↓reduceIte, Nat.reduceAdd, Nat.reduceLeDiff, Nat.reduceEqDiff, Nat.reduceLT, Nat.reduceSub, Nat.reduceBEq, forall_const, reduceCtorEq, implies_true, exists_eq_left', exists_eq_left, if_true, if_false, undef]
    by_cases h4 : a < 4
    · have z4 : ((a : Int) == 4) = false := beq_false_of_ne (by omega)
      refine callA (CallsA.args (ackP_spec (a + 1) b (by omega)) (by simp [EA, EB, EC, ED, EE, EF, EG, EH, XA, XB, XC, XD, XE, XF, XG, XH, XI, XJ, XK, XL, XM, reduceIte, ↓reduceIte, Nat.reduceAdd, Nat.reduceLeDiff, Nat.reduceEqDiff, Nat.reduceLT, Nat.reduceSub, Nat.reduceBEq, forall_const, reduceCtorEq, implies_true, exists_eq_left', exists_eq_left, if_true, if_false, undef])) rfl ?_
      cases h3 : (rowC (a + 1))[b]? with
      | none =>
        rw [ackAns, h3]
        simp (maxSteps := 1000000) only [z4, g6, c40, c44, c00, c77, c47, c07, c04, c74, c70, Bo, EA, EB, EC, ED, EE, EF, EG, EH, XA, XB, XC, XD, XE, XF, XG, XH, XI, XJ, XK, XL, XM, reduceIte, ↓reduceIte, Nat.reduceAdd, Nat.reduceLeDiff, Nat.reduceEqDiff, Nat.reduceLT, Nat.reduceSub, Nat.reduceBEq, forall_const, reduceCtorEq, implies_true, exists_eq_left', exists_eq_left, if_true, if_false, undef]
        exact ⟨_, rfl⟩
      | some z =>
        have g5 := fin z (u4 h4 z h3)
        rw [ackAns, h3]
        simp (maxSteps := 1000000) only [z4, g5, g6, c40, c44, c00, c77, c47, c07, c04, c74, c70, Bo, EA, EB, EC, ED, EE, EF, EG, EH, XA, XB, XC, XD, XE, XF, XG, XH, XI, XJ, XK, XL, XM, reduceIte, ↓reduceIte, Nat.reduceAdd, Nat.reduceLeDiff, Nat.reduceEqDiff, Nat.reduceLT, Nat.reduceSub, Nat.reduceBEq, forall_const, reduceCtorEq, implies_true, exists_eq_left', exists_eq_left, if_true, if_false, undef]
    · obtain rfl : a = 4 := by omega
      have z4 : (((4 : Nat) : Int) == 4) = true := by decide
      refine callA (CallsA.args (ack_range ((4 + 1 : Nat) : Int) (b : Int) (by omega)) (by simp [EA, EB, EC, ED, EE, EF, EG, EH, XA, XB, XC, XD, XE, XF, XG, XH, XI, XJ, XK, XL, XM, reduceIte, ↓reduceIte, Nat.reduceAdd, Nat.reduceLeDiff, Nat.reduceEqDiff, Nat.reduceLT, Nat.reduceSub, Nat.reduceBEq, forall_const, reduceCtorEq, implies_true, exists_eq_left', exists_eq_left, if_true, if_false, undef])) rfl ?_
      simp (maxSteps := 1000000) only [z4, g6, c40, c44, c00, c77, c47, c07, c04, c74, c70, Bo, EA, EB, EC, ED, EE, EF, EG, EH, XA, XB, XC, XD, XE, XF, XG, XH, XI, XJ, XK, XL, XM, reduceIte, ↓reduceIte, Nat.reduceAdd, Nat.reduceLeDiff, Nat.reduceEqDiff, Nat.reduceLT, Nat.reduceSub, Nat.reduceBEq, forall_const, reduceCtorEq, implies_true, exists_eq_left', exists_eq_left, if_true, if_false, undef]
      exact ⟨_, rfl⟩

def sh_FuncsAck : List Sh := [.int .i64, .int .i64]
theorem law_FuncsAck (xs : List AV) (h : HasAll sh_FuncsAck xs) : CallsA Try.prog 9 xs (.v (.bool true)) [] := by
  obtain ⟨x, r, rfl, hx, y, r, rfl, hy, rfl⟩ := h
  obtain ⟨c, rfl, _⟩ := hasInt hx
  obtain ⟨d, rfl, _⟩ := hasInt hy
  exact funcsAck_spec c d

end Go.Av
namespace Go.Proofs.Ytlemkfgipbfjhab
open Go.ChangeShapes Go.WideShapes Go.ChangeAt Go.RowKit
open Go.Av (open_all shut_all OldS HasAll Sh CallsA shAll)

theorem own : ownKnob Try.prog.godebug = none := by kernel_rfl
theorem laidOut : laidOutB Try.prog = true := by kernel_rfl
theorem shs_eq : shAll Try.prog 12 Try.f9.params.toList = some Go.Av.sh_FuncsAck := by kernel_rfl
theorem readable : (Try.f9.params.toList.all fun t => Try.prog.readableRec t && decide (t < Try.prog.types.size)) = true := by kernel_rfl

theorem lifted (os : Os) (started : os.Started) (H : Type) (enc : TypeId × Value → H) :
    ReturnsInHanded {} Try.checked os 9 .any (Rows.funcsAckSpec.pre6 enc Try.prog Try.f9 Rows.funcsAckRow.domain false) (Rows.funcsAckSpec.post enc Try.prog Try.f9 false true false false) := by
  refine returnsInHanded_of_change (C := Try.checked) own started (by kernel_rfl) Try.func9
    (ChangeSpec.witness6 (enc := enc) (C := Try.checked) false ⟨#[], #[.int .i64 0, .int .i64 0], []⟩ 8 (by kernel_rfl) (by kernel_rfl) (by kernel_rfl) (by kernel_rfl)) ?_
  intro W base args ds gs before hval0 hW hcnd _
  have hval : ∀ (j : Nat) t v, Try.f9.params[j]? = some t → args[j]? = some v → Value.okWide Try.prog W .any base t v := hval0
  have hW' := hW
  obtain ⟨p, q, hA0, hV, rfl, hfz, hnd⟩ := hW
  have hA : DataW.TrodAll enc Try.prog W 0 (fun _ => true) true Try.f9.params.toList args.toList ds p := hA0
  obtain ⟨xs, hxs, hlen, hR⟩ := open_all (g := 12) _ _ _ _ Go.Av.sh_FuncsAck hA (fun j t v ht hv => hval j t v (by simpa using ht) (by simpa using hv)) shs_eq
  obtain ⟨rfl, rfl⟩ := trodVars_none hV
  have hB := hA
  rw [Try.params9] at hB
  obtain ⟨v0, vs0, d0, ds0, p0, q0, hargs0, rfl, rfl, h0, r0⟩ := trodAll_cons hB
  obtain ⟨v1, vs1, d1, ds1, p1, q1, hargs1, rfl, rfl, h1, r1⟩ := trodAll_cons r0
  obtain ⟨rfl, rfl, rfl⟩ := trodAll_nil r1
  refine ((Go.Av.law_FuncsAck xs hxs).2 W (OldS W) args ⟨fun _ h => h, fun g cs hm => by simp [Go.Av.globs] at hm⟩ (by simpa using hlen) (fun i x y h1 h2 => hR i x y h1 (by simpa using h2))).mono ?_
  rintro e W' ⟨v, S', κ', rfl, hv, _, _, _, bel⟩
  rw [hv.v_inv]
  exact ⟨_, rfl, _, _, _, [], _, [], hW', trodAll_mk1 (shut_bool Try.underlying4 _), shut_all laidOut bel _ _ _ _ (fun t ht => by
    have := (List.all_eq_true.1 readable) t ht
    simpa using this) hA, rfl, bel.frame _, fun h => by cases h⟩

theorem funcsAck_holds : Rows.FuncsAckSaid :=
  OpenClaim.holds_of_wide 9 Try.f9 rfl rfl rfl rfl rfl rfl rfl ⟨rfl, rfl, rfl, rfl, rfl⟩ rfl rfl rfl rfl rfl (by kernel_rfl) Try.func9 (by kernel_rfl)
    (of_decide_eq_true (by kernel_rfl)) (by unfold Func.isWrapper; first | (rw [if_pos (by decide +kernel)]; kernel_rfl) | (rw [if_neg (by decide +kernel)]; exact ⟨rfl, rfl⟩))
    (fun os started H enc _ => lifted os started H enc)

end Go.Proofs.Ytlemkfgipbfjhab
