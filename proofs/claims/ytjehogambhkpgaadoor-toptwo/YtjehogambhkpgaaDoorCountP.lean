/- Counter machines: the program's functions. -/
import Derived.Test.YtjehogambhkpgaaDoorCount
set_option linter.unusedSimpArgs false
set_option linter.unusedVariables false
set_option maxRecDepth 100000
namespace Go.Av
open Go.Proofs

theorem check1_spec (x : Int) (l : List Ord) : CallsA Tryd.prog 19 [I x, .rp [.ro 4 (l.map encO)]] (Bo (decide (0 ≤ x ∧ x ≤ l.length))) [] := by
  refine fn_of0 comp19 (by simp) ?_
  unfold code19
  have hll : ((l.map encO).length : Int) = l.length := by simp
  simp (maxSteps := 1000000) only [encO, EA, EB, EC, ED, EE, EF, EG, EH, XA, XB, XC, XD, XE, XF, XG, XH, XI, XJ, XK, XL, XM, reduceIte, ↓reduceIte, Nat.reduceAdd, Nat.reduceLeDiff, Nat.reduceEqDiff, Nat.reduceLT, Nat.reduceSub, Nat.reduceBEq, forall_const, reduceCtorEq, implies_true, exists_eq_left', exists_eq_left, if_true, if_false, undef]
  by_cases h : 0 ≤ x
  · have e1 : decide (0 ≤ x) = true := by simp [h]
    simp (maxSteps := 1000000) only [e1, hll, encO, EA, EB, EC, ED, EE, EF, EG, EH, XA, XB, XC, XD, XE, XF, XG, XH, XI, XJ, XK, XL, XM, reduceIte, ↓reduceIte, Nat.reduceAdd, Nat.reduceLeDiff, Nat.reduceEqDiff, Nat.reduceLT, Nat.reduceSub, Nat.reduceBEq, forall_const, reduceCtorEq, implies_true, exists_eq_left', exists_eq_left, if_true, if_false, undef]
    simp [h]
  · have e1 : decide (0 ≤ x) = false := by simp [h]
    simp (maxSteps := 1000000) only [e1, hll, encO, EA, EB, EC, ED, EE, EF, EG, EH, XA, XB, XC, XD, XE, XF, XG, XH, XI, XJ, XK, XL, XM, reduceIte, ↓reduceIte, Nat.reduceAdd, Nat.reduceLeDiff, Nat.reduceEqDiff, Nat.reduceLT, Nat.reduceSub, Nat.reduceBEq, forall_const, reduceCtorEq, implies_true, exists_eq_left', exists_eq_left, if_true, if_false, undef]
    simp [h]

theorem checkOrder_spec (counters : Int) (o : Ord) (l : List Ord) : CallsA Tryd.prog 20 [I counters, encO o, .fn 19 [.rp [.ro 4 (l.map encO)]]] (I (ordErr counters l.length o)) [] := by
  refine fn_of0 comp20 (by simp) ?_
  unfold code20
  have e6 : ¬(o.kind = 1 ∨ o.kind = 2) → ordErr counters l.length o = 6 := fun q => by simp only [ordErr]; rw [if_pos (by omega)]
  have e2 : (o.kind = 1 ∨ o.kind = 2) → ¬(0 ≤ o.counter ∧ o.counter < counters) → ordErr counters l.length o = 2 := fun q q2 => by simp only [ordErr]; rw [if_neg (by omega), if_pos (by omega)]
  have e3 : (o.kind = 1 ∨ o.kind = 2) → (0 ≤ o.counter ∧ o.counter < counters) → ¬(0 ≤ o.next ∧ o.next ≤ l.length) ∨ (o.kind = 2 ∧ ¬(0 ≤ o.zero ∧ o.zero ≤ l.length)) → ordErr counters l.length o = 3 := fun q q2 q3 => by simp only [ordErr]; rw [if_neg (by omega), if_neg (by omega), if_pos (by omega)]
  have fin : (o.kind = 1 ∨ o.kind = 2) ∧ (0 ≤ o.counter ∧ o.counter < counters) ∧ (0 ≤ o.next ∧ o.next ≤ l.length) ∧ (o.kind = 2 → (0 ≤ o.zero ∧ o.zero ≤ l.length)) → ordErr counters l.length o = 0 := fun q => by
    simp only [ordErr]; rw [if_neg (by omega), if_neg (by omega), if_neg (by omega)]
  have hkind : (o.kind = 1 ∧ (o.kind != 1) = false ∧ (o.kind == 2) = false) ∨ (o.kind = 2 ∧ (o.kind != 1) = true ∧ (o.kind != 2) = false ∧ (o.kind == 2) = true) ∨ (¬(o.kind = 1 ∨ o.kind = 2) ∧ (o.kind != 1) = true ∧ (o.kind != 2) = true) := by
    simp only [bne_iff_ne, ne_eq, beq_iff_eq, bne_eq_false_iff_eq, beq_eq_false_iff_ne]; omega
  generalize hE : ordErr counters l.length o = E at *
  have hcnt : (decide (o.counter < 0) = true ∧ ¬(0 ≤ o.counter ∧ o.counter < counters)) ∨ (decide (o.counter < 0) = false ∧ decide (o.counter ≥ counters) = true ∧ ¬(0 ≤ o.counter ∧ o.counter < counters)) ∨ (decide (o.counter < 0) = false ∧ decide (o.counter ≥ counters) = false ∧ (0 ≤ o.counter ∧ o.counter < counters)) := by
    simp only [decide_eq_true_eq, decide_eq_false_iff_not]; omega
  have hk' : ((o.kind = 1 ∨ o.kind = 2) → (0 ≤ o.counter ∧ o.counter < counters) → True) := fun _ _ => trivial
  rcases hkind with ⟨q, k1, k3⟩ | ⟨q, k1, k2, k3⟩ | ⟨q, k1, k2⟩
  · simp (maxSteps := 1000000) only [k1, k3, encO, EA, EB, EC, ED, EE, EF, EG, EH, XA, XB, XC, XD, XE, XF, XG, XH, XI, XJ, XK, XL, XM, reduceIte, ↓reduceIte, Nat.reduceAdd, Nat.reduceLeDiff, Nat.reduceEqDiff, Nat.reduceLT, Nat.reduceSub, Nat.reduceBEq, forall_const, reduceCtorEq, implies_true, exists_eq_left', exists_eq_left, if_true, if_false, undef]
    rcases hcnt with ⟨c1, c⟩ | ⟨c1, c2, c⟩ | ⟨c1, c2, c⟩
    · simp (maxSteps := 1000000) only [c1, encO, EA, EB, EC, ED, EE, EF, EG, EH, XA, XB, XC, XD, XE, XF, XG, XH, XI, XJ, XK, XL, XM, reduceIte, ↓reduceIte, Nat.reduceAdd, Nat.reduceLeDiff, Nat.reduceEqDiff, Nat.reduceLT, Nat.reduceSub, Nat.reduceBEq, forall_const, reduceCtorEq, implies_true, exists_eq_left', exists_eq_left, if_true, if_false, undef]
      rw [e2 (.inl q) c]
    · simp (maxSteps := 1000000) only [c1, c2, encO, EA, EB, EC, ED, EE, EF, EG, EH, XA, XB, XC, XD, XE, XF, XG, XH, XI, XJ, XK, XL, XM, reduceIte, ↓reduceIte, Nat.reduceAdd, Nat.reduceLeDiff, Nat.reduceEqDiff, Nat.reduceLT, Nat.reduceSub, Nat.reduceBEq, forall_const, reduceCtorEq, implies_true, exists_eq_left', exists_eq_left, if_true, if_false, undef]
      rw [e2 (.inl q) c]
    · simp (maxSteps := 1000000) only [c1, c2, encO, EA, EB, EC, ED, EE, EF, EG, EH, XA, XB, XC, XD, XE, XF, XG, XH, XI, XJ, XK, XL, XM, reduceIte, ↓reduceIte, Nat.reduceAdd, Nat.reduceLeDiff, Nat.reduceEqDiff, Nat.reduceLT, Nat.reduceSub, Nat.reduceBEq, forall_const, reduceCtorEq, implies_true, exists_eq_left', exists_eq_left, if_true, if_false, undef]
      refine callF (CallsA.args (check1_spec o.next l) (by simp [encO, EA, EB, EC, ED, EE, EF, EG, EH, XA, XB, XC, XD, XE, XF, XG, XH, XI, XJ, XK, XL, XM, reduceIte, ↓reduceIte, Nat.reduceAdd, Nat.reduceLeDiff, Nat.reduceEqDiff, Nat.reduceLT, Nat.reduceSub, Nat.reduceBEq, forall_const, reduceCtorEq, implies_true, exists_eq_left', exists_eq_left, if_true, if_false, undef])) rfl (by simp [flat, encO, EA, EB, EC, ED, EE, EF, EG, EH, XA, XB, XC, XD, XE, XF, XG, XH, XI, XJ, XK, XL, XM, reduceIte, ↓reduceIte, Nat.reduceAdd, Nat.reduceLeDiff, Nat.reduceEqDiff, Nat.reduceLT, Nat.reduceSub, Nat.reduceBEq, forall_const, reduceCtorEq, implies_true, exists_eq_left', exists_eq_left, if_true, if_false, undef]) ?_
      simp (maxSteps := 1000000) only [encO, EA, EB, EC, ED, EE, EF, EG, EH, XA, XB, XC, XD, XE, XF, XG, XH, XI, XJ, XK, XL, XM, reduceIte, ↓reduceIte, Nat.reduceAdd, Nat.reduceLeDiff, Nat.reduceEqDiff, Nat.reduceLT, Nat.reduceSub, Nat.reduceBEq, forall_const, reduceCtorEq, implies_true, exists_eq_left', exists_eq_left, if_true, if_false, undef]
      refine ⟨fun h1 => ?_, fun h1 => ?_⟩ <;> try simp (maxSteps := 1000000) only [encO, EA, EB, EC, ED, EE, EF, EG, EH, XA, XB, XC, XD, XE, XF, XG, XH, XI, XJ, XK, XL, XM, reduceIte, ↓reduceIte, Nat.reduceAdd, Nat.reduceLeDiff, Nat.reduceEqDiff, Nat.reduceLT, Nat.reduceSub, Nat.reduceBEq, forall_const, reduceCtorEq, implies_true, exists_eq_left', exists_eq_left, if_true, if_false, undef]
      · simp at h1; rw [e3 (.inl q) c (by omega)]
      simp at h1
      simp (maxSteps := 1000000) only [k3, encO, EA, EB, EC, ED, EE, EF, EG, EH, XA, XB, XC, XD, XE, XF, XG, XH, XI, XJ, XK, XL, XM, reduceIte, ↓reduceIte, Nat.reduceAdd, Nat.reduceLeDiff, Nat.reduceEqDiff, Nat.reduceLT, Nat.reduceSub, Nat.reduceBEq, forall_const, reduceCtorEq, implies_true, exists_eq_left', exists_eq_left, if_true, if_false, undef]
      rw [fin (by omega)]
  · simp (maxSteps := 1000000) only [k1, k2, k3, encO, EA, EB, EC, ED, EE, EF, EG, EH, XA, XB, XC, XD, XE, XF, XG, XH, XI, XJ, XK, XL, XM, reduceIte, ↓reduceIte, Nat.reduceAdd, Nat.reduceLeDiff, Nat.reduceEqDiff, Nat.reduceLT, Nat.reduceSub, Nat.reduceBEq, forall_const, reduceCtorEq, implies_true, exists_eq_left', exists_eq_left, if_true, if_false, undef]
    rcases hcnt with ⟨c1, c⟩ | ⟨c1, c2, c⟩ | ⟨c1, c2, c⟩
    · simp (maxSteps := 1000000) only [c1, encO, EA, EB, EC, ED, EE, EF, EG, EH, XA, XB, XC, XD, XE, XF, XG, XH, XI, XJ, XK, XL, XM, reduceIte, ↓reduceIte, Nat.reduceAdd, Nat.reduceLeDiff, Nat.reduceEqDiff, Nat.reduceLT, Nat.reduceSub, Nat.reduceBEq, forall_const, reduceCtorEq, implies_true, exists_eq_left', exists_eq_left, if_true, if_false, undef]
      rw [e2 (.inr q) c]
    · simp (maxSteps := 1000000) only [c1, c2, encO, EA, EB, EC, ED, EE, EF, EG, EH, XA, XB, XC, XD, XE, XF, XG, XH, XI, XJ, XK, XL, XM, reduceIte, ↓reduceIte, Nat.reduceAdd, Nat.reduceLeDiff, Nat.reduceEqDiff, Nat.reduceLT, Nat.reduceSub, Nat.reduceBEq, forall_const, reduceCtorEq, implies_true, exists_eq_left', exists_eq_left, if_true, if_false, undef]
      rw [e2 (.inr q) c]
    · simp (maxSteps := 1000000) only [c1, c2, encO, EA, EB, EC, ED, EE, EF, EG, EH, XA, XB, XC, XD, XE, XF, XG, XH, XI, XJ, XK, XL, XM, reduceIte, ↓reduceIte, Nat.reduceAdd, Nat.reduceLeDiff, Nat.reduceEqDiff, Nat.reduceLT, Nat.reduceSub, Nat.reduceBEq, forall_const, reduceCtorEq, implies_true, exists_eq_left', exists_eq_left, if_true, if_false, undef]
      refine callF (CallsA.args (check1_spec o.next l) (by simp [encO, EA, EB, EC, ED, EE, EF, EG, EH, XA, XB, XC, XD, XE, XF, XG, XH, XI, XJ, XK, XL, XM, reduceIte, ↓reduceIte, Nat.reduceAdd, Nat.reduceLeDiff, Nat.reduceEqDiff, Nat.reduceLT, Nat.reduceSub, Nat.reduceBEq, forall_const, reduceCtorEq, implies_true, exists_eq_left', exists_eq_left, if_true, if_false, undef])) rfl (by simp [flat, encO, EA, EB, EC, ED, EE, EF, EG, EH, XA, XB, XC, XD, XE, XF, XG, XH, XI, XJ, XK, XL, XM, reduceIte, ↓reduceIte, Nat.reduceAdd, Nat.reduceLeDiff, Nat.reduceEqDiff, Nat.reduceLT, Nat.reduceSub, Nat.reduceBEq, forall_const, reduceCtorEq, implies_true, exists_eq_left', exists_eq_left, if_true, if_false, undef]) ?_
      simp (maxSteps := 1000000) only [encO, EA, EB, EC, ED, EE, EF, EG, EH, XA, XB, XC, XD, XE, XF, XG, XH, XI, XJ, XK, XL, XM, reduceIte, ↓reduceIte, Nat.reduceAdd, Nat.reduceLeDiff, Nat.reduceEqDiff, Nat.reduceLT, Nat.reduceSub, Nat.reduceBEq, forall_const, reduceCtorEq, implies_true, exists_eq_left', exists_eq_left, if_true, if_false, undef]
      refine ⟨fun h1 => ?_, fun h1 => ?_⟩ <;> try simp (maxSteps := 1000000) only [encO, EA, EB, EC, ED, EE, EF, EG, EH, XA, XB, XC, XD, XE, XF, XG, XH, XI, XJ, XK, XL, XM, reduceIte, ↓reduceIte, Nat.reduceAdd, Nat.reduceLeDiff, Nat.reduceEqDiff, Nat.reduceLT, Nat.reduceSub, Nat.reduceBEq, forall_const, reduceCtorEq, implies_true, exists_eq_left', exists_eq_left, if_true, if_false, undef]
      · simp at h1; rw [e3 (.inr q) c (by omega)]
      simp at h1
      simp (maxSteps := 1000000) only [k3, encO, EA, EB, EC, ED, EE, EF, EG, EH, XA, XB, XC, XD, XE, XF, XG, XH, XI, XJ, XK, XL, XM, reduceIte, ↓reduceIte, Nat.reduceAdd, Nat.reduceLeDiff, Nat.reduceEqDiff, Nat.reduceLT, Nat.reduceSub, Nat.reduceBEq, forall_const, reduceCtorEq, implies_true, exists_eq_left', exists_eq_left, if_true, if_false, undef]
      refine callF (CallsA.args (check1_spec o.zero l) (by simp [encO, EA, EB, EC, ED, EE, EF, EG, EH, XA, XB, XC, XD, XE, XF, XG, XH, XI, XJ, XK, XL, XM, reduceIte, ↓reduceIte, Nat.reduceAdd, Nat.reduceLeDiff, Nat.reduceEqDiff, Nat.reduceLT, Nat.reduceSub, Nat.reduceBEq, forall_const, reduceCtorEq, implies_true, exists_eq_left', exists_eq_left, if_true, if_false, undef])) rfl (by simp [flat, encO, EA, EB, EC, ED, EE, EF, EG, EH, XA, XB, XC, XD, XE, XF, XG, XH, XI, XJ, XK, XL, XM, reduceIte, ↓reduceIte, Nat.reduceAdd, Nat.reduceLeDiff, Nat.reduceEqDiff, Nat.reduceLT, Nat.reduceSub, Nat.reduceBEq, forall_const, reduceCtorEq, implies_true, exists_eq_left', exists_eq_left, if_true, if_false, undef]) ?_
      simp (maxSteps := 1000000) only [encO, EA, EB, EC, ED, EE, EF, EG, EH, XA, XB, XC, XD, XE, XF, XG, XH, XI, XJ, XK, XL, XM, reduceIte, ↓reduceIte, Nat.reduceAdd, Nat.reduceLeDiff, Nat.reduceEqDiff, Nat.reduceLT, Nat.reduceSub, Nat.reduceBEq, forall_const, reduceCtorEq, implies_true, exists_eq_left', exists_eq_left, if_true, if_false, undef]
      refine ⟨fun h2 => ?_, fun h2 => ?_⟩ <;> try simp (maxSteps := 1000000) only [encO, EA, EB, EC, ED, EE, EF, EG, EH, XA, XB, XC, XD, XE, XF, XG, XH, XI, XJ, XK, XL, XM, reduceIte, ↓reduceIte, Nat.reduceAdd, Nat.reduceLeDiff, Nat.reduceEqDiff, Nat.reduceLT, Nat.reduceSub, Nat.reduceBEq, forall_const, reduceCtorEq, implies_true, exists_eq_left', exists_eq_left, if_true, if_false, undef]
      · simp at h2; rw [e3 (.inr q) c (by omega)]
      simp at h2
      rw [fin (by omega)]
  · simp (maxSteps := 1000000) only [k1, k2, encO, EA, EB, EC, ED, EE, EF, EG, EH, XA, XB, XC, XD, XE, XF, XG, XH, XI, XJ, XK, XL, XM, reduceIte, ↓reduceIte, Nat.reduceAdd, Nat.reduceLeDiff, Nat.reduceEqDiff, Nat.reduceLT, Nat.reduceSub, Nat.reduceBEq, forall_const, reduceCtorEq, implies_true, exists_eq_left', exists_eq_left, if_true, if_false, undef]
    rw [e6 q]

theorem check_spec (counters : Int) (l : List Ord) (hl : (l.length : Int) < 2 ^ 63) : CallsA Tryd.prog 11 [I counters, .ro 4 (l.map encO)] (I (countErr counters l)) [] := by
  refine fn_of0 comp11 (by simp) ?_
  unfold code11
  have hll : ((l.map encO).length : Int) = l.length := by simp
  have hcnt : (decide (counters < 1) = true ∧ ¬(1 ≤ counters ∧ counters ≤ 4)) ∨ (decide (counters < 1) = false ∧ decide (counters > 4) = true ∧ ¬(1 ≤ counters ∧ counters ≤ 4)) ∨ (decide (counters < 1) = false ∧ decide (counters > 4) = false ∧ (1 ≤ counters ∧ counters ≤ 4)) := by
    simp only [decide_eq_true_eq, decide_eq_false_iff_not]; omega
  have hlen : ((((l.length : Int)) == 0) = true ∧ ¬(1 ≤ (l.length : Int) ∧ (l.length : Int) ≤ 12)) ∨ ((((l.length : Int)) == 0) = false ∧ decide ((l.length : Int) > 12) = true ∧ ¬(1 ≤ (l.length : Int) ∧ (l.length : Int) ≤ 12)) ∨ ((((l.length : Int)) == 0) = false ∧ decide ((l.length : Int) > 12) = false ∧ (1 ≤ (l.length : Int) ∧ (l.length : Int) ≤ 12)) := by
    simp only [decide_eq_true_eq, decide_eq_false_iff_not, beq_iff_eq, beq_eq_false_iff_ne]; omega
  rcases hcnt with ⟨c1, c⟩ | ⟨c1, c2, c⟩ | ⟨c1, c2, c⟩
  · simp (maxSteps := 1000000) only [c1, encO, EA, EB, EC, ED, EE, EF, EG, EH, XA, XB, XC, XD, XE, XF, XG, XH, XI, XJ, XK, XL, XM, reduceIte, ↓reduceIte, Nat.reduceAdd, Nat.reduceLeDiff, Nat.reduceEqDiff, Nat.reduceLT, Nat.reduceSub, Nat.reduceBEq, forall_const, reduceCtorEq, implies_true, exists_eq_left', exists_eq_left, if_true, if_false, undef]
    rw [countErr, if_pos (by omega)]
  · simp (maxSteps := 1000000) only [c1, c2, encO, EA, EB, EC, ED, EE, EF, EG, EH, XA, XB, XC, XD, XE, XF, XG, XH, XI, XJ, XK, XL, XM, reduceIte, ↓reduceIte, Nat.reduceAdd, Nat.reduceLeDiff, Nat.reduceEqDiff, Nat.reduceLT, Nat.reduceSub, Nat.reduceBEq, forall_const, reduceCtorEq, implies_true, exists_eq_left', exists_eq_left, if_true, if_false, undef]
    rw [countErr, if_pos (by omega)]
  simp (maxSteps := 1000000) only [c1, c2, hll, encO, EA, EB, EC, ED, EE, EF, EG, EH, XA, XB, XC, XD, XE, XF, XG, XH, XI, XJ, XK, XL, XM, reduceIte, ↓reduceIte, Nat.reduceAdd, Nat.reduceLeDiff, Nat.reduceEqDiff, Nat.reduceLT, Nat.reduceSub, Nat.reduceBEq, forall_const, reduceCtorEq, implies_true, exists_eq_left', exists_eq_left, if_true, if_false, undef]
  rcases hlen with ⟨d1, d⟩ | ⟨d1, d2, d⟩ | ⟨d1, d2, d⟩
  · simp (maxSteps := 1000000) only [d1, encO, EA, EB, EC, ED, EE, EF, EG, EH, XA, XB, XC, XD, XE, XF, XG, XH, XI, XJ, XK, XL, XM, reduceIte, ↓reduceIte, Nat.reduceAdd, Nat.reduceLeDiff, Nat.reduceEqDiff, Nat.reduceLT, Nat.reduceSub, Nat.reduceBEq, forall_const, reduceCtorEq, implies_true, exists_eq_left', exists_eq_left, if_true, if_false, undef]
    rw [countErr, if_pos (by omega)]
  · simp (maxSteps := 1000000) only [d1, d2, hll, encO, EA, EB, EC, ED, EE, EF, EG, EH, XA, XB, XC, XD, XE, XF, XG, XH, XI, XJ, XK, XL, XM, reduceIte, ↓reduceIte, Nat.reduceAdd, Nat.reduceLeDiff, Nat.reduceEqDiff, Nat.reduceLT, Nat.reduceSub, Nat.reduceBEq, forall_const, reduceCtorEq, implies_true, exists_eq_left', exists_eq_left, if_true, if_false, undef]
    rw [countErr, if_pos (by omega)]
  simp (maxSteps := 1000000) only [d1, d2, hll, encO, EA, EB, EC, ED, EE, EF, EG, EH, XA, XB, XC, XD, XE, XF, XG, XH, XI, XJ, XK, XL, XM, reduceIte, ↓reduceIte, Nat.reduceAdd, Nat.reduceLeDiff, Nat.reduceEqDiff, Nat.reduceLT, Nat.reduceSub, Nat.reduceBEq, forall_const, reduceCtorEq, implies_true, exists_eq_left', exists_eq_left, if_true, if_false, undef]
  have hE : countErr counters l = ordersErr counters l := by rw [countErr, if_neg (by omega)]
  rw [hE]
  refine loop0 Nat [26] (fun k => [I k]) (fun k => k ≤ l.length ∧ firstErr (ordErr counters l.length) (l.take k) = 0) (fun k => l.length - k) (by decide) 0 (by simp [firstErr]) (by simp [Back, BackF, fzT, fzM, fzU, fz, fzL, fzO, kin, SubT, Sub, SubL, SubM, SubO, keepM, srcOk, look, lookM, ev, evs, putT, argT, encO, EA, EB, EC, ED, EE, EF, EG, EH, XA, XB, XC, XD, XE, XF, XG, XH, XI, XJ, XK, XL, XM, reduceIte, ↓reduceIte, Nat.reduceAdd, Nat.reduceLeDiff, Nat.reduceEqDiff, Nat.reduceLT, Nat.reduceSub, Nat.reduceBEq, forall_const, reduceCtorEq, implies_true, exists_eq_left', exists_eq_left, if_true, if_false, undef]) (fun k hk => ?_)
  obtain ⟨hk, hp⟩ := hk
  simp (maxSteps := 1000000) only [encO, EA, EB, EC, ED, EE, EF, EG, EH, XA, XB, XC, XD, XE, XF, XG, XH, XI, XJ, XK, XL, XM, reduceIte, ↓reduceIte, Nat.reduceAdd, Nat.reduceLeDiff, Nat.reduceEqDiff, Nat.reduceLT, Nat.reduceSub, Nat.reduceBEq, forall_const, reduceCtorEq, implies_true, exists_eq_left', exists_eq_left, if_true, if_false, undef]
  refine ⟨fun h => ?_, fun h => ?_⟩ <;> try simp (maxSteps := 1000000) only [encO, EA, EB, EC, ED, EE, EF, EG, EH, XA, XB, XC, XD, XE, XF, XG, XH, XI, XJ, XK, XL, XM, reduceIte, ↓reduceIte, Nat.reduceAdd, Nat.reduceLeDiff, Nat.reduceEqDiff, Nat.reduceLT, Nat.reduceSub, Nat.reduceBEq, forall_const, reduceCtorEq, implies_true, exists_eq_left', exists_eq_left, if_true, if_false, undef]
  · refine ⟨by omega, ?_⟩
    simp only [decide_eq_true_eq, List.length_map, Int.ofNat_lt] at h
    have hkw : IntKind.i64.wrap ((k : Int) + 1) = ((k + 1 : Nat) : Int) := by rw [wrap_id] <;> omega
    have hat := firstErr_at h hp
    have htk := firstErr_take h hp
    refine pickM h ?_
    generalize l[k] = o at *
    simp (maxSteps := 1000000) only [encO, encO, EA, EB, EC, ED, EE, EF, EG, EH, XA, XB, XC, XD, XE, XF, XG, XH, XI, XJ, XK, XL, XM, reduceIte, ↓reduceIte, Nat.reduceAdd, Nat.reduceLeDiff, Nat.reduceEqDiff, Nat.reduceLT, Nat.reduceSub, Nat.reduceBEq, forall_const, reduceCtorEq, implies_true, exists_eq_left', exists_eq_left, if_true, if_false, undef]
    refine callF (CallsA.args (checkOrder_spec counters o l ) (by simp [ encO,encO, EA, EB, EC, ED, EE, EF, EG, EH, XA, XB, XC, XD, XE, XF, XG, XH, XI, XJ, XK, XL, XM, reduceIte, ↓reduceIte, Nat.reduceAdd, Nat.reduceLeDiff, Nat.reduceEqDiff, Nat.reduceLT, Nat.reduceSub, Nat.reduceBEq, forall_const, reduceCtorEq, implies_true, exists_eq_left', exists_eq_left, if_true, if_false, undef])) rfl (by simp [flat, encO, EA, EB, EC, ED, EE, EF, EG, EH, XA, XB, XC, XD, XE, XF, XG, XH, XI, XJ, XK, XL, XM, reduceIte, ↓reduceIte, Nat.reduceAdd, Nat.reduceLeDiff, Nat.reduceEqDiff, Nat.reduceLT, Nat.reduceSub, Nat.reduceBEq, forall_const, reduceCtorEq, implies_true, exists_eq_left', exists_eq_left, if_true, if_false, undef]) ?_
    simp (maxSteps := 1000000) only [encO, EA, EB, EC, ED, EE, EF, EG, EH, XA, XB, XC, XD, XE, XF, XG, XH, XI, XJ, XK, XL, XM, reduceIte, ↓reduceIte, Nat.reduceAdd, Nat.reduceLeDiff, Nat.reduceEqDiff, Nat.reduceLT, Nat.reduceSub, Nat.reduceBEq, forall_const, reduceCtorEq, implies_true, exists_eq_left', exists_eq_left, if_true, if_false, undef]
    refine ⟨fun h1 => ?_, fun h1 => ?_⟩ <;> try simp (maxSteps := 1000000) only [encO, EA, EB, EC, ED, EE, EF, EG, EH, XA, XB, XC, XD, XE, XF, XG, XH, XI, XJ, XK, XL, XM, reduceIte, ↓reduceIte, Nat.reduceAdd, Nat.reduceLeDiff, Nat.reduceEqDiff, Nat.reduceLT, Nat.reduceSub, Nat.reduceBEq, forall_const, reduceCtorEq, implies_true, exists_eq_left', exists_eq_left, if_true, if_false, undef]
    · simp at h1
      rw [ordersErr, hat h1]
    · simp at h1
      exact ⟨k + 1, ⟨by omega, htk h1⟩, by omega, by simp [hkw, Back, BackF, fzT, fzM, fzU, fz, fzL, fzO, kin, SubT, Sub, SubL, SubM, SubO, keepM, srcOk, look, lookM, ev, evs, putT, argT, encO, EA, EB, EC, ED, EE, EF, EG, EH, XA, XB, XC, XD, XE, XF, XG, XH, XI, XJ, XK, XL, XM, reduceIte, ↓reduceIte, Nat.reduceAdd, Nat.reduceLeDiff, Nat.reduceEqDiff, Nat.reduceLT, Nat.reduceSub, Nat.reduceBEq, forall_const, reduceCtorEq, implies_true, exists_eq_left', exists_eq_left, if_true, if_false, undef]⟩
  · simp only [decide_eq_false_iff_not, Int.ofNat_lt] at h
    have : k = l.length := by omega
    subst this
    simp only [List.take_length] at hp
    simp [ordersErr, hp]

theorem checkStart_spec (counters turns : Int) (l : List Int) (hl : (l.length : Int) < 2 ^ 63) : CallsA Tryd.prog 15 [I counters, .ro 1 (l.map I), I turns] (I (haveErr counters l turns)) [] := by
  refine fn_of0 comp15 (by simp) ?_
  unfold code15
  have hll : ((l.map I).length : Int) = l.length := by simp
  simp (maxSteps := 1000000) only [hll, encO, EA, EB, EC, ED, EE, EF, EG, EH, XA, XB, XC, XD, XE, XF, XG, XH, XI, XJ, XK, XL, XM, reduceIte, ↓reduceIte, Nat.reduceAdd, Nat.reduceLeDiff, Nat.reduceEqDiff, Nat.reduceLT, Nat.reduceSub, Nat.reduceBEq, forall_const, reduceCtorEq, implies_true, exists_eq_left', exists_eq_left, if_true, if_false, undef]
  refine ⟨fun h0 => ?_, fun h0 => ?_⟩ <;> try simp (maxSteps := 1000000) only [encO, EA, EB, EC, ED, EE, EF, EG, EH, XA, XB, XC, XD, XE, XF, XG, XH, XI, XJ, XK, XL, XM, reduceIte, ↓reduceIte, Nat.reduceAdd, Nat.reduceLeDiff, Nat.reduceEqDiff, Nat.reduceLT, Nat.reduceSub, Nat.reduceBEq, forall_const, reduceCtorEq, implies_true, exists_eq_left', exists_eq_left, if_true, if_false, undef]
  · simp at h0; rw [haveErr, if_pos (by omega)]
  simp at h0
  simp only [hll]
  refine loop0 Nat [15] (fun k => [I k]) (fun k => k ≤ l.length ∧ (l.take k).all (fun x => decide (0 ≤ x ∧ x ≤ 20)) = true) (fun k => l.length - k) (by decide) 0 (by simp) (by simp [Back, BackF, fzT, fzM, fzU, fz, fzL, fzO, kin, SubT, Sub, SubL, SubM, SubO, keepM, srcOk, look, lookM, ev, evs, putT, argT, encO, EA, EB, EC, ED, EE, EF, EG, EH, XA, XB, XC, XD, XE, XF, XG, XH, XI, XJ, XK, XL, XM, reduceIte, ↓reduceIte, Nat.reduceAdd, Nat.reduceLeDiff, Nat.reduceEqDiff, Nat.reduceLT, Nat.reduceSub, Nat.reduceBEq, forall_const, reduceCtorEq, implies_true, exists_eq_left', exists_eq_left, if_true, if_false, undef]) (fun k hk => ?_)
  obtain ⟨hk, hp⟩ := hk
  simp (maxSteps := 1000000) only [encO, EA, EB, EC, ED, EE, EF, EG, EH, XA, XB, XC, XD, XE, XF, XG, XH, XI, XJ, XK, XL, XM, reduceIte, ↓reduceIte, Nat.reduceAdd, Nat.reduceLeDiff, Nat.reduceEqDiff, Nat.reduceLT, Nat.reduceSub, Nat.reduceBEq, forall_const, reduceCtorEq, implies_true, exists_eq_left', exists_eq_left, if_true, if_false, undef]
  refine ⟨fun h => ?_, fun h => ?_⟩ <;> try simp (maxSteps := 1000000) only [encO, EA, EB, EC, ED, EE, EF, EG, EH, XA, XB, XC, XD, XE, XF, XG, XH, XI, XJ, XK, XL, XM, reduceIte, ↓reduceIte, Nat.reduceAdd, Nat.reduceLeDiff, Nat.reduceEqDiff, Nat.reduceLT, Nat.reduceSub, Nat.reduceBEq, forall_const, reduceCtorEq, implies_true, exists_eq_left', exists_eq_left, if_true, if_false, undef]
  · refine ⟨by omega, ?_⟩
    simp only [decide_eq_true_eq, Int.ofNat_lt] at h
    have hw : IntKind.i64.wrap ((k : Int) + 1) = ((k + 1 : Nat) : Int) := by rw [wrap_id] <;> omega
    refine pickM h ?_
    have hx : (decide (l[k] < 0) = true ∧ ¬(0 ≤ l[k] ∧ l[k] ≤ 20)) ∨ (decide (l[k] < 0) = false ∧ decide (l[k] > 20) = true ∧ ¬(0 ≤ l[k] ∧ l[k] ≤ 20)) ∨ (decide (l[k] < 0) = false ∧ decide (l[k] > 20) = false ∧ (0 ≤ l[k] ∧ l[k] ≤ 20)) := by
      simp only [decide_eq_true_eq, decide_eq_false_iff_not]; omega
    have bad : ¬(0 ≤ l[k] ∧ l[k] ≤ 20) → haveErr counters l turns = 4 := fun q => by
      have hno : (l.all fun x => decide (0 ≤ x ∧ x ≤ 20)) = false := all_no h (by simp; omega)
      rw [haveErr, if_neg (by omega), if_pos (by rw [hno]; decide)]
    rcases hx with ⟨c1, c⟩ | ⟨c1, c2, c⟩ | ⟨c1, c2, c⟩
    · simp (maxSteps := 1000000) only [c1, encO, EA, EB, EC, ED, EE, EF, EG, EH, XA, XB, XC, XD, XE, XF, XG, XH, XI, XJ, XK, XL, XM, reduceIte, ↓reduceIte, Nat.reduceAdd, Nat.reduceLeDiff, Nat.reduceEqDiff, Nat.reduceLT, Nat.reduceSub, Nat.reduceBEq, forall_const, reduceCtorEq, implies_true, exists_eq_left', exists_eq_left, if_true, if_false, undef]
      rw [bad c]
    · simp (maxSteps := 1000000) only [c1, c2, encO, EA, EB, EC, ED, EE, EF, EG, EH, XA, XB, XC, XD, XE, XF, XG, XH, XI, XJ, XK, XL, XM, reduceIte, ↓reduceIte, Nat.reduceAdd, Nat.reduceLeDiff, Nat.reduceEqDiff, Nat.reduceLT, Nat.reduceSub, Nat.reduceBEq, forall_const, reduceCtorEq, implies_true, exists_eq_left', exists_eq_left, if_true, if_false, undef]
      rw [bad c]
    · simp (maxSteps := 1000000) only [c1, c2, encO, EA, EB, EC, ED, EE, EF, EG, EH, XA, XB, XC, XD, XE, XF, XG, XH, XI, XJ, XK, XL, XM, reduceIte, ↓reduceIte, Nat.reduceAdd, Nat.reduceLeDiff, Nat.reduceEqDiff, Nat.reduceLT, Nat.reduceSub, Nat.reduceBEq, forall_const, reduceCtorEq, implies_true, exists_eq_left', exists_eq_left, if_true, if_false, undef]
      exact ⟨k + 1, ⟨by omega, all_take h hp (by simpa using c)⟩, by omega, by simp [Back, BackF, fzT, fzM, fzU, fz, fzL, fzO, kin, SubT, Sub, SubL, SubM, SubO, keepM, srcOk, look, lookM, ev, evs, putT, argT, encO, EA, EB, EC, ED, EE, EF, EG, EH, XA, XB, XC, XD, XE, XF, XG, XH, XI, XJ, XK, XL, XM, reduceIte, ↓reduceIte, Nat.reduceAdd, Nat.reduceLeDiff, Nat.reduceEqDiff, Nat.reduceLT, Nat.reduceSub, Nat.reduceBEq, forall_const, reduceCtorEq, implies_true, exists_eq_left', exists_eq_left, if_true, if_false, undef, hw]⟩
  · simp only [decide_eq_false_iff_not, Int.ofNat_lt] at h
    have : k = l.length := by omega
    subst this
    rw [List.take_length] at hp
    have ht : (decide (turns < 0) = true ∧ ¬(0 ≤ turns ∧ turns ≤ 400)) ∨ (decide (turns < 0) = false ∧ decide (turns > 400) = true ∧ ¬(0 ≤ turns ∧ turns ≤ 400)) ∨ (decide (turns < 0) = false ∧ decide (turns > 400) = false ∧ (0 ≤ turns ∧ turns ≤ 400)) := by
      simp only [decide_eq_true_eq, decide_eq_false_iff_not]; omega
    have bad : ¬(0 ≤ turns ∧ turns ≤ 400) → haveErr counters l turns = 7 := fun q => by
      rw [haveErr, if_neg (by omega), if_neg (by rw [hp]; simp), if_pos (by omega)]
    rcases ht with ⟨c1, c⟩ | ⟨c1, c2, c⟩ | ⟨c1, c2, c⟩
    · simp (maxSteps := 1000000) only [c1, encO, EA, EB, EC, ED, EE, EF, EG, EH, XA, XB, XC, XD, XE, XF, XG, XH, XI, XJ, XK, XL, XM, reduceIte, ↓reduceIte, Nat.reduceAdd, Nat.reduceLeDiff, Nat.reduceEqDiff, Nat.reduceLT, Nat.reduceSub, Nat.reduceBEq, forall_const, reduceCtorEq, implies_true, exists_eq_left', exists_eq_left, if_true, if_false, undef]
      rw [bad c]
    · simp (maxSteps := 1000000) only [c1, c2, encO, EA, EB, EC, ED, EE, EF, EG, EH, XA, XB, XC, XD, XE, XF, XG, XH, XI, XJ, XK, XL, XM, reduceIte, ↓reduceIte, Nat.reduceAdd, Nat.reduceLeDiff, Nat.reduceEqDiff, Nat.reduceLT, Nat.reduceSub, Nat.reduceBEq, forall_const, reduceCtorEq, implies_true, exists_eq_left', exists_eq_left, if_true, if_false, undef]
      rw [bad c]
    · simp (maxSteps := 1000000) only [c1, c2, encO, EA, EB, EC, ED, EE, EF, EG, EH, XA, XB, XC, XD, XE, XF, XG, XH, XI, XJ, XK, XL, XM, reduceIte, ↓reduceIte, Nat.reduceAdd, Nat.reduceLeDiff, Nat.reduceEqDiff, Nat.reduceLT, Nat.reduceSub, Nat.reduceBEq, forall_const, reduceCtorEq, implies_true, exists_eq_left', exists_eq_left, if_true, if_false, undef]
      rw [haveErr, if_neg (by omega), if_neg (by rw [hp]; simp), if_neg (by omega)]

theorem clone_spec (l : List Int) (h0 : l ≠ []) (hl : l.length ≤ 4294967296) : CallsA Tryd.prog 16 [.ro 1 (l.map I)] (.arr 0 0 l.length) [.arr 1 (l.map I)] := by
  have hll : (l.map I).length = l.length := by simp
  refine fn_of comp16 (by simp) ?_
  unfold code16
  simp (maxSteps := 1000000) only [encO, EA, EB, EC, ED, EE, EF, EG, EH, XA, XB, XC, XD, XE, XF, XG, XH, XI, XJ, XK, XL, XM, reduceIte, ↓reduceIte, Nat.reduceAdd, Nat.reduceLeDiff, Nat.reduceEqDiff, Nat.reduceLT, Nat.reduceSub, Nat.reduceBEq, forall_const, reduceCtorEq, implies_true, exists_eq_left', exists_eq_left, if_true, if_false, undef]
  refine NilVC.ro (by simpa using h0) ?_
  simp (maxSteps := 1000000) only [bne_self_eq_false, hll, encO, EA, EB, EC, ED, EE, EF, EG, EH, XA, XB, XC, XD, XE, XF, XG, XH, XI, XJ, XK, XL, XM, reduceIte, ↓reduceIte, Nat.reduceAdd, Nat.reduceLeDiff, Nat.reduceEqDiff, Nat.reduceLT, Nat.reduceSub, Nat.reduceBEq, forall_const, reduceCtorEq, implies_true, exists_eq_left', exists_eq_left, if_true, if_false, undef]
  refine ⟨hl, [5], by simp [encO, EA, EB, EC, ED, EE, EF, EG, EH, XA, XB, XC, XD, XE, XF, XG, XH, XI, XJ, XK, XL, XM, reduceIte, ↓reduceIte, Nat.reduceAdd, Nat.reduceLeDiff, Nat.reduceEqDiff, Nat.reduceLT, Nat.reduceSub, Nat.reduceBEq, forall_const, reduceCtorEq, implies_true, exists_eq_left', exists_eq_left, if_true, if_false, undef], rfl, by simp, fun i k o h1 h2 => ?_⟩
  cases i with
  | zero => simp at h1 h2; subst h1 h2; simp
  | succ i => simp at h1

def estep (o : Ord) (c : List Int) : CS :=
  if o.kind = 1 then (c.set o.counter.toNat (cAt c o.counter + 1), o.next)
  else if 0 < cAt c o.counter then (c.set o.counter.toNat (cAt c o.counter - 1), o.next)
  else (c, o.zero)
theorem cstep_eq (l : List Ord) (s : CS) : cstep l s = estep (ordAt l s.2) s.1 := rfl

theorem execute_spec (n L : Nat) (o : Ord) (c : List Int) (ho : OrdOk n L o) (hc : c.length = n) (hb : ∀ x ∈ c, 0 ≤ x ∧ x ≤ 1000000) :
    CallsM Tryd.prog 17 [encO o, .arr 0 0 c.length] [.arr 1 (c.map I)] (I (estep o c).2) [some (.arr 1 ((estep o c).1.map I))] := by
  have hcb := ho.counter
  have hlt : o.counter.toNat < c.length := by omega
  have hcx : c[o.counter.toNat]? = some (cAt c o.counter) := by
    rw [cAt, List.getElem?_eq_getElem hlt]; rfl
  have hca : 0 ≤ cAt c o.counter ∧ cAt c o.counter ≤ 1000000 := hb _ (List.mem_of_getElem? hcx)
  have hwp : IntKind.i64.wrap (cAt c o.counter + 1) = cAt c o.counter + 1 := by rw [wrap_id] <;> omega
  have hwm : IntKind.i64.wrap (cAt c o.counter - 1) = cAt c o.counter - 1 := by rw [wrap_id] <;> omega
  have hll : (c.map I).length = c.length := by simp
  refine fnM_of comp17 (by simp) (by simp) ?_
  unfold code17
  simp (maxSteps := 1000000) only [encO, encO, EA, EB, EC, ED, EE, EF, EG, EH, XA, XB, XC, XD, XE, XF, XG, XH, XI, XJ, XK, XL, XM, reduceIte, ↓reduceIte, Nat.reduceAdd, Nat.reduceLeDiff, Nat.reduceEqDiff, Nat.reduceLT, Nat.reduceSub, Nat.reduceBEq, forall_const, reduceCtorEq, implies_true, exists_eq_left', exists_eq_left, if_true, if_false, undef]
  by_cases hk1 : o.kind = 1
  · have k1 : (o.kind == 1) = true := by simp [hk1]
    have hs : estep o c = (c.set o.counter.toNat (cAt c o.counter + 1), o.next) := by simp [estep, hk1]
    rw [hs]
    simp (maxSteps := 1000000) only [k1, encO, EA, EB, EC, ED, EE, EF, EG, EH, XA, XB, XC, XD, XE, XF, XG, XH, XI, XJ, XK, XL, XM, reduceIte, ↓reduceIte, Nat.reduceAdd, Nat.reduceLeDiff, Nat.reduceEqDiff, Nat.reduceLT, Nat.reduceSub, Nat.reduceBEq, forall_const, reduceCtorEq, implies_true, exists_eq_left', exists_eq_left, if_true, if_false, undef]
    refine ⟨hcb.1, by omega, ?_⟩
    rw [Nat.zero_add]
    refine pickA hcx ?_
    simp (maxSteps := 1000000) only [hwp, encO, EA, EB, EC, ED, EE, EF, EG, EH, XA, XB, XC, XD, XE, XF, XG, XH, XI, XJ, XK, XL, XM, reduceIte, ↓reduceIte, Nat.reduceAdd, Nat.reduceLeDiff, Nat.reduceEqDiff, Nat.reduceLT, Nat.reduceSub, Nat.reduceBEq, forall_const, reduceCtorEq, implies_true, exists_eq_left', exists_eq_left, if_true, if_false, undef]
    refine ⟨hcb.1, by omega, by omega, [], ?_⟩
    simp [List.map_set, encO, EA, EB, EC, ED, EE, EF, EG, EH, XA, XB, XC, XD, XE, XF, XG, XH, XI, XJ, XK, XL, XM, reduceIte, ↓reduceIte, Nat.reduceAdd, Nat.reduceLeDiff, Nat.reduceEqDiff, Nat.reduceLT, Nat.reduceSub, Nat.reduceBEq, forall_const, reduceCtorEq, implies_true, exists_eq_left', exists_eq_left, if_true, if_false, undef]
  · have k1 : (o.kind == 1) = false := by simp [hk1]
    simp (maxSteps := 1000000) only [k1, encO, EA, EB, EC, ED, EE, EF, EG, EH, XA, XB, XC, XD, XE, XF, XG, XH, XI, XJ, XK, XL, XM, reduceIte, ↓reduceIte, Nat.reduceAdd, Nat.reduceLeDiff, Nat.reduceEqDiff, Nat.reduceLT, Nat.reduceSub, Nat.reduceBEq, forall_const, reduceCtorEq, implies_true, exists_eq_left', exists_eq_left, if_true, if_false, undef]
    refine ⟨hcb.1, by omega, ?_⟩
    rw [Nat.zero_add]
    refine pickA hcx ?_
    simp (maxSteps := 1000000) only [encO, EA, EB, EC, ED, EE, EF, EG, EH, XA, XB, XC, XD, XE, XF, XG, XH, XI, XJ, XK, XL, XM, reduceIte, ↓reduceIte, Nat.reduceAdd, Nat.reduceLeDiff, Nat.reduceEqDiff, Nat.reduceLT, Nat.reduceSub, Nat.reduceBEq, forall_const, reduceCtorEq, implies_true, exists_eq_left', exists_eq_left, if_true, if_false, undef]
    by_cases hz : 0 < cAt c o.counter
    · have ez : (cAt c o.counter == 0) = false := by simp; omega
      have hs : estep o c = (c.set o.counter.toNat (cAt c o.counter - 1), o.next) := by simp [estep, hk1, hz]
      rw [hs]
      simp (maxSteps := 1000000) only [ez, encO, EA, EB, EC, ED, EE, EF, EG, EH, XA, XB, XC, XD, XE, XF, XG, XH, XI, XJ, XK, XL, XM, reduceIte, ↓reduceIte, Nat.reduceAdd, Nat.reduceLeDiff, Nat.reduceEqDiff, Nat.reduceLT, Nat.reduceSub, Nat.reduceBEq, forall_const, reduceCtorEq, implies_true, exists_eq_left', exists_eq_left, if_true, if_false, undef]
      refine ⟨hcb.1, by omega, ?_⟩
      rw [Nat.zero_add]
      refine pickA hcx ?_
      simp (maxSteps := 1000000) only [hwm, encO, EA, EB, EC, ED, EE, EF, EG, EH, XA, XB, XC, XD, XE, XF, XG, XH, XI, XJ, XK, XL, XM, reduceIte, ↓reduceIte, Nat.reduceAdd, Nat.reduceLeDiff, Nat.reduceEqDiff, Nat.reduceLT, Nat.reduceSub, Nat.reduceBEq, forall_const, reduceCtorEq, implies_true, exists_eq_left', exists_eq_left, if_true, if_false, undef]
      refine ⟨hcb.1, by omega, by omega, [], ?_⟩
      simp [List.map_set, encO, EA, EB, EC, ED, EE, EF, EG, EH, XA, XB, XC, XD, XE, XF, XG, XH, XI, XJ, XK, XL, XM, reduceIte, ↓reduceIte, Nat.reduceAdd, Nat.reduceLeDiff, Nat.reduceEqDiff, Nat.reduceLT, Nat.reduceSub, Nat.reduceBEq, forall_const, reduceCtorEq, implies_true, exists_eq_left', exists_eq_left, if_true, if_false, undef]
    · have ez : (cAt c o.counter == 0) = true := by simp; omega
      have hs : estep o c = (c, o.zero) := by simp [estep, hk1, hz]
      rw [hs]
      simp (maxSteps := 1000000) only [ez, encO, EA, EB, EC, ED, EE, EF, EG, EH, XA, XB, XC, XD, XE, XF, XG, XH, XI, XJ, XK, XL, XM, reduceIte, ↓reduceIte, Nat.reduceAdd, Nat.reduceLeDiff, Nat.reduceEqDiff, Nat.reduceLT, Nat.reduceSub, Nat.reduceBEq, forall_const, reduceCtorEq, implies_true, exists_eq_left', exists_eq_left, if_true, if_false, undef]
      refine ⟨[], ?_⟩
      simp [encO, EA, EB, EC, ED, EE, EF, EG, EH, XA, XB, XC, XD, XE, XF, XG, XH, XI, XJ, XK, XL, XM, reduceIte, ↓reduceIte, Nat.reduceAdd, Nat.reduceLeDiff, Nat.reduceEqDiff, Nat.reduceLT, Nat.reduceSub, Nat.reduceBEq, forall_const, reduceCtorEq, implies_true, exists_eq_left', exists_eq_left, if_true, if_false, undef]

end Go.Av
