/- Counter machines: the document's functions. -/
import Derived.Test.YtjehogambhkpgaaDoorHas
import Derived.Test.YtjehogambhkpgaaDoorInts
set_option linter.unusedSimpArgs false
set_option linter.unusedVariables false
set_option maxRecDepth 100000
namespace Go.Av
open Go.Proofs

structure Ord where
  kind : Int
  counter : Int
  next : Int
  zero : Int

def encO (o : Ord) : AV := .agg [I o.kind, I o.counter, I o.next, I o.zero]

/-- what is wrong with an instruction -/
def ordErr (counters : Int) (L : Nat) (o : Ord) : Int :=
  if o.kind ≠ 1 ∧ o.kind ≠ 2 then 6 else if ¬(0 ≤ o.counter ∧ o.counter < counters) then 2
  else if ¬(0 ≤ o.next ∧ o.next ≤ L) ∨ (o.kind = 2 ∧ ¬(0 ≤ o.zero ∧ o.zero ≤ L)) then 3 else 0
def ordersErr (counters : Int) (l : List Ord) : Int := firstErr (ordErr counters l.length) l
def countErr (counters : Int) (l : List Ord) : Int :=
  if ¬((1 ≤ counters ∧ counters ≤ 4) ∧ (1 ≤ (l.length : Int) ∧ (l.length : Int) ≤ 12)) then 1 else ordersErr counters l
def haveErr (counters : Int) (have_ : List Int) (turns : Int) : Int :=
  if (have_.length : Int) ≠ counters then 3 else if ¬(have_.all fun x => decide (0 ≤ x ∧ x ≤ 20)) = true then 4
  else if ¬(0 ≤ turns ∧ turns ≤ 400) then 7 else 0

theorem ordersCheck_spec (counters : Int) (l : List Ord) (hl : (l.length : Int) < 2 ^ 62) : CallsA Tryd.prog 8 [I counters, .ro 4 (l.map encO)] (I (ordersErr counters l)) [] := by
  refine fn_of0 comp8 (by simp) ?_
  unfold code8
  simp (maxSteps := 1000000) only [encO, EA, EB, EC, ED, EE, EF, EG, EH, XA, XB, XC, XD, XE, XF, XG, XH, XI, XJ, XK, XL, XM, reduceIte, ↓reduceIte, Nat.reduceAdd, Nat.reduceLeDiff, Nat.reduceEqDiff, Nat.reduceLT, Nat.reduceSub, Nat.reduceBEq, forall_const, reduceCtorEq, implies_true, exists_eq_left', exists_eq_left, if_true, if_false, undef]
  refine loop0 Nat [9] (fun k => [I k]) (fun k => k ≤ l.length ∧ firstErr (ordErr counters l.length) (l.take k) = 0) (fun k => l.length - k) (by decide) 0 (by simp [firstErr]) (by simp [Back, BackF, fzT, fzM, fzU, fz, fzL, fzO, kin, SubT, Sub, SubL, SubM, SubO, keepM, srcOk, look, lookM, ev, evs, putT, argT, encO, EA, EB, EC, ED, EE, EF, EG, EH, XA, XB, XC, XD, XE, XF, XG, XH, XI, XJ, XK, XL, XM, reduceIte, ↓reduceIte, Nat.reduceAdd, Nat.reduceLeDiff, Nat.reduceEqDiff, Nat.reduceLT, Nat.reduceSub, Nat.reduceBEq, forall_const, reduceCtorEq, implies_true, exists_eq_left', exists_eq_left, if_true, if_false, undef]) (fun k hk => ?_)
  obtain ⟨hk, hp⟩ := hk
  simp (maxSteps := 1000000) only [encO, EA, EB, EC, ED, EE, EF, EG, EH, XA, XB, XC, XD, XE, XF, XG, XH, XI, XJ, XK, XL, XM, reduceIte, ↓reduceIte, Nat.reduceAdd, Nat.reduceLeDiff, Nat.reduceEqDiff, Nat.reduceLT, Nat.reduceSub, Nat.reduceBEq, forall_const, reduceCtorEq, implies_true, exists_eq_left', exists_eq_left, if_true, if_false, undef]
  refine ⟨fun h => ?_, fun h => ?_⟩ <;> try simp (maxSteps := 1000000) only [encO, EA, EB, EC, ED, EE, EF, EG, EH, XA, XB, XC, XD, XE, XF, XG, XH, XI, XJ, XK, XL, XM, reduceIte, ↓reduceIte, Nat.reduceAdd, Nat.reduceLeDiff, Nat.reduceEqDiff, Nat.reduceLT, Nat.reduceSub, Nat.reduceBEq, forall_const, reduceCtorEq, implies_true, exists_eq_left', exists_eq_left, if_true, if_false, undef]
  · refine ⟨by omega, ?_⟩
    simp only [decide_eq_true_eq, List.length_map, Int.ofNat_lt] at h
    have hkw : IntKind.i64.wrap ((k : Int) + 1) = ((k + 1 : Nat) : Int) := by rw [wrap_id] <;> omega
    have hlw : IntKind.i64.wrap ((l.length : Int) + 1) = (l.length : Int) + 1 := by rw [wrap_id] <;> omega
    have hll : ((l.map encO).length : Int) = l.length := by simp
    have hat := firstErr_at h hp
    have htk := firstErr_take h hp
    refine pickM h ?_
    generalize l[k] = o at *
    have hres : ∀ e, ordErr counters l.length o = e → e ≠ 0 → ordersErr counters l = e := fun e h1 h2 => by
      rw [ordersErr, hat (by omega), h1]
    have fin : (o.kind = 1 ∨ o.kind = 2) ∧ (0 ≤ o.counter ∧ o.counter < counters) ∧ (0 ≤ o.next ∧ o.next ≤ l.length) ∧ (o.kind = 2 → (0 ≤ o.zero ∧ o.zero ≤ l.length)) → ordErr counters l.length o = 0 := fun q => by
      simp only [ordErr]; rw [if_neg (by omega), if_neg (by omega), if_neg (by omega)]
    have e6 : ¬(o.kind = 1 ∨ o.kind = 2) → ordersErr counters l = 6 := fun q => hres 6 (by simp only [ordErr]; rw [if_pos (by omega)]) (by decide)
    have e2 : (o.kind = 1 ∨ o.kind = 2) → ¬(0 ≤ o.counter ∧ o.counter < counters) → ordersErr counters l = 2 := fun q q2 => hres 2 (by simp only [ordErr]; rw [if_neg (by omega), if_pos (by omega)]) (by decide)
    have e3 : (o.kind = 1 ∨ o.kind = 2) → (0 ≤ o.counter ∧ o.counter < counters) → ¬(0 ≤ o.next ∧ o.next ≤ l.length) ∨ (o.kind = 2 ∧ ¬(0 ≤ o.zero ∧ o.zero ≤ l.length)) → ordersErr counters l = 3 := fun q q2 q3 => hres 3 (by simp only [ordErr]; rw [if_neg (by omega), if_neg (by omega), if_pos (by omega)]) (by decide)
    have hkind : (o.kind = 1 ∧ (o.kind != 1) = false ∧ (o.kind == 2) = false) ∨ (o.kind = 2 ∧ (o.kind != 1) = true ∧ (o.kind != 2) = false ∧ (o.kind == 2) = true) ∨ (¬(o.kind = 1 ∨ o.kind = 2) ∧ (o.kind != 1) = true ∧ (o.kind != 2) = true) := by
      simp only [bne_iff_ne, ne_eq, beq_iff_eq, bne_eq_false_iff_eq, beq_eq_false_iff_ne]; omega
    rcases hkind with ⟨q, k1, k3⟩ | ⟨q, k1, k2, k3⟩ | ⟨q, k1, k2⟩
    · simp (maxSteps := 1000000) only [encO, k1, k3, encO, EA, EB, EC, ED, EE, EF, EG, EH, XA, XB, XC, XD, XE, XF, XG, XH, XI, XJ, XK, XL, XM, reduceIte, ↓reduceIte, Nat.reduceAdd, Nat.reduceLeDiff, Nat.reduceEqDiff, Nat.reduceLT, Nat.reduceSub, Nat.reduceBEq, forall_const, reduceCtorEq, implies_true, exists_eq_left', exists_eq_left, if_true, if_false, undef]
      refine callF (CallsA.args (inside_spec counters [o.counter] (by simp)) (by simp [encO, EA, EB, EC, ED, EE, EF, EG, EH, XA, XB, XC, XD, XE, XF, XG, XH, XI, XJ, XK, XL, XM, reduceIte, ↓reduceIte, Nat.reduceAdd, Nat.reduceLeDiff, Nat.reduceEqDiff, Nat.reduceLT, Nat.reduceSub, Nat.reduceBEq, forall_const, reduceCtorEq, implies_true, exists_eq_left', exists_eq_left, if_true, if_false, undef])) rfl (by simp [flat, encO, EA, EB, EC, ED, EE, EF, EG, EH, XA, XB, XC, XD, XE, XF, XG, XH, XI, XJ, XK, XL, XM, reduceIte, ↓reduceIte, Nat.reduceAdd, Nat.reduceLeDiff, Nat.reduceEqDiff, Nat.reduceLT, Nat.reduceSub, Nat.reduceBEq, forall_const, reduceCtorEq, implies_true, exists_eq_left', exists_eq_left, if_true, if_false, undef]) ?_
      simp (maxSteps := 1000000) only [encO, EA, EB, EC, ED, EE, EF, EG, EH, XA, XB, XC, XD, XE, XF, XG, XH, XI, XJ, XK, XL, XM, reduceIte, ↓reduceIte, Nat.reduceAdd, Nat.reduceLeDiff, Nat.reduceEqDiff, Nat.reduceLT, Nat.reduceSub, Nat.reduceBEq, forall_const, reduceCtorEq, implies_true, exists_eq_left', exists_eq_left, if_true, if_false, undef]
      refine ⟨fun h1 => ?_, fun h1 => ?_⟩ <;> try simp (maxSteps := 1000000) only [encO, EA, EB, EC, ED, EE, EF, EG, EH, XA, XB, XC, XD, XE, XF, XG, XH, XI, XJ, XK, XL, XM, reduceIte, ↓reduceIte, Nat.reduceAdd, Nat.reduceLeDiff, Nat.reduceEqDiff, Nat.reduceLT, Nat.reduceSub, Nat.reduceBEq, forall_const, reduceCtorEq, implies_true, exists_eq_left', exists_eq_left, if_true, if_false, undef]
      · simp at h1; rw [e2 (.inl q) (by omega)]
      simp at h1
      simp only [hll, hlw]
      refine callF (CallsA.args (inside_spec ((l.length : Int) + 1) [o.next] (by simp) ) (by simp [ hlw,encO, EA, EB, EC, ED, EE, EF, EG, EH, XA, XB, XC, XD, XE, XF, XG, XH, XI, XJ, XK, XL, XM, reduceIte, ↓reduceIte, Nat.reduceAdd, Nat.reduceLeDiff, Nat.reduceEqDiff, Nat.reduceLT, Nat.reduceSub, Nat.reduceBEq, forall_const, reduceCtorEq, implies_true, exists_eq_left', exists_eq_left, if_true, if_false, undef])) rfl (by simp [flat, encO, EA, EB, EC, ED, EE, EF, EG, EH, XA, XB, XC, XD, XE, XF, XG, XH, XI, XJ, XK, XL, XM, reduceIte, ↓reduceIte, Nat.reduceAdd, Nat.reduceLeDiff, Nat.reduceEqDiff, Nat.reduceLT, Nat.reduceSub, Nat.reduceBEq, forall_const, reduceCtorEq, implies_true, exists_eq_left', exists_eq_left, if_true, if_false, undef]) ?_
      simp (maxSteps := 1000000) only [encO, EA, EB, EC, ED, EE, EF, EG, EH, XA, XB, XC, XD, XE, XF, XG, XH, XI, XJ, XK, XL, XM, reduceIte, ↓reduceIte, Nat.reduceAdd, Nat.reduceLeDiff, Nat.reduceEqDiff, Nat.reduceLT, Nat.reduceSub, Nat.reduceBEq, forall_const, reduceCtorEq, implies_true, exists_eq_left', exists_eq_left, if_true, if_false, undef]
      by_cases hx : 0 ≤ o.next ∧ o.next < (l.length : Int) + 1
      · have en : decide (0 ≤ o.next ∧ o.next < (l.length : Int) + 1) = true := by simp [hx]
        simp (maxSteps := 1000000) only [en, k3, hll, hlw, encO, EA, EB, EC, ED, EE, EF, EG, EH, XA, XB, XC, XD, XE, XF, XG, XH, XI, XJ, XK, XL, XM, reduceIte, ↓reduceIte, Nat.reduceAdd, Nat.reduceLeDiff, Nat.reduceEqDiff, Nat.reduceLT, Nat.reduceSub, Nat.reduceBEq, forall_const, reduceCtorEq, implies_true, exists_eq_left', exists_eq_left, if_true, if_false, undef]
        exact ⟨k + 1, ⟨by omega, htk (fin (by omega))⟩, by omega, by simp [hkw, Back, BackF, fzT, fzM, fzU, fz, fzL, fzO, kin, SubT, Sub, SubL, SubM, SubO, keepM, srcOk, look, lookM, ev, evs, putT, argT, encO, EA, EB, EC, ED, EE, EF, EG, EH, XA, XB, XC, XD, XE, XF, XG, XH, XI, XJ, XK, XL, XM, reduceIte, ↓reduceIte, Nat.reduceAdd, Nat.reduceLeDiff, Nat.reduceEqDiff, Nat.reduceLT, Nat.reduceSub, Nat.reduceBEq, forall_const, reduceCtorEq, implies_true, exists_eq_left', exists_eq_left, if_true, if_false, undef]⟩
      · have en : decide (0 ≤ o.next ∧ o.next < (l.length : Int) + 1) = false := by simp [hx]
        simp (maxSteps := 1000000) only [en, k3, encO, EA, EB, EC, ED, EE, EF, EG, EH, XA, XB, XC, XD, XE, XF, XG, XH, XI, XJ, XK, XL, XM, reduceIte, ↓reduceIte, Nat.reduceAdd, Nat.reduceLeDiff, Nat.reduceEqDiff, Nat.reduceLT, Nat.reduceSub, Nat.reduceBEq, forall_const, reduceCtorEq, implies_true, exists_eq_left', exists_eq_left, if_true, if_false, undef]
        rw [e3 (.inl q) h1 (by omega)]
    · simp (maxSteps := 1000000) only [encO, k1, k2, k3, encO, EA, EB, EC, ED, EE, EF, EG, EH, XA, XB, XC, XD, XE, XF, XG, XH, XI, XJ, XK, XL, XM, reduceIte, ↓reduceIte, Nat.reduceAdd, Nat.reduceLeDiff, Nat.reduceEqDiff, Nat.reduceLT, Nat.reduceSub, Nat.reduceBEq, forall_const, reduceCtorEq, implies_true, exists_eq_left', exists_eq_left, if_true, if_false, undef]
      refine callF (CallsA.args (inside_spec counters [o.counter] (by simp)) (by simp [encO, EA, EB, EC, ED, EE, EF, EG, EH, XA, XB, XC, XD, XE, XF, XG, XH, XI, XJ, XK, XL, XM, reduceIte, ↓reduceIte, Nat.reduceAdd, Nat.reduceLeDiff, Nat.reduceEqDiff, Nat.reduceLT, Nat.reduceSub, Nat.reduceBEq, forall_const, reduceCtorEq, implies_true, exists_eq_left', exists_eq_left, if_true, if_false, undef])) rfl (by simp [flat, encO, EA, EB, EC, ED, EE, EF, EG, EH, XA, XB, XC, XD, XE, XF, XG, XH, XI, XJ, XK, XL, XM, reduceIte, ↓reduceIte, Nat.reduceAdd, Nat.reduceLeDiff, Nat.reduceEqDiff, Nat.reduceLT, Nat.reduceSub, Nat.reduceBEq, forall_const, reduceCtorEq, implies_true, exists_eq_left', exists_eq_left, if_true, if_false, undef]) ?_
      simp (maxSteps := 1000000) only [encO, EA, EB, EC, ED, EE, EF, EG, EH, XA, XB, XC, XD, XE, XF, XG, XH, XI, XJ, XK, XL, XM, reduceIte, ↓reduceIte, Nat.reduceAdd, Nat.reduceLeDiff, Nat.reduceEqDiff, Nat.reduceLT, Nat.reduceSub, Nat.reduceBEq, forall_const, reduceCtorEq, implies_true, exists_eq_left', exists_eq_left, if_true, if_false, undef]
      refine ⟨fun h1 => ?_, fun h1 => ?_⟩ <;> try simp (maxSteps := 1000000) only [encO, EA, EB, EC, ED, EE, EF, EG, EH, XA, XB, XC, XD, XE, XF, XG, XH, XI, XJ, XK, XL, XM, reduceIte, ↓reduceIte, Nat.reduceAdd, Nat.reduceLeDiff, Nat.reduceEqDiff, Nat.reduceLT, Nat.reduceSub, Nat.reduceBEq, forall_const, reduceCtorEq, implies_true, exists_eq_left', exists_eq_left, if_true, if_false, undef]
      · simp at h1; rw [e2 (.inr q) (by omega)]
      simp at h1
      simp only [hll, hlw]
      refine callF (CallsA.args (inside_spec ((l.length : Int) + 1) [o.next] (by simp) ) (by simp [ hlw,encO, EA, EB, EC, ED, EE, EF, EG, EH, XA, XB, XC, XD, XE, XF, XG, XH, XI, XJ, XK, XL, XM, reduceIte, ↓reduceIte, Nat.reduceAdd, Nat.reduceLeDiff, Nat.reduceEqDiff, Nat.reduceLT, Nat.reduceSub, Nat.reduceBEq, forall_const, reduceCtorEq, implies_true, exists_eq_left', exists_eq_left, if_true, if_false, undef])) rfl (by simp [flat, encO, EA, EB, EC, ED, EE, EF, EG, EH, XA, XB, XC, XD, XE, XF, XG, XH, XI, XJ, XK, XL, XM, reduceIte, ↓reduceIte, Nat.reduceAdd, Nat.reduceLeDiff, Nat.reduceEqDiff, Nat.reduceLT, Nat.reduceSub, Nat.reduceBEq, forall_const, reduceCtorEq, implies_true, exists_eq_left', exists_eq_left, if_true, if_false, undef]) ?_
      simp (maxSteps := 1000000) only [encO, EA, EB, EC, ED, EE, EF, EG, EH, XA, XB, XC, XD, XE, XF, XG, XH, XI, XJ, XK, XL, XM, reduceIte, ↓reduceIte, Nat.reduceAdd, Nat.reduceLeDiff, Nat.reduceEqDiff, Nat.reduceLT, Nat.reduceSub, Nat.reduceBEq, forall_const, reduceCtorEq, implies_true, exists_eq_left', exists_eq_left, if_true, if_false, undef]
      by_cases hx : 0 ≤ o.next ∧ o.next < (l.length : Int) + 1
      · have en : decide (0 ≤ o.next ∧ o.next < (l.length : Int) + 1) = true := by simp [hx]
        simp (maxSteps := 1000000) only [en, k3, hll, hlw, encO, EA, EB, EC, ED, EE, EF, EG, EH, XA, XB, XC, XD, XE, XF, XG, XH, XI, XJ, XK, XL, XM, reduceIte, ↓reduceIte, Nat.reduceAdd, Nat.reduceLeDiff, Nat.reduceEqDiff, Nat.reduceLT, Nat.reduceSub, Nat.reduceBEq, forall_const, reduceCtorEq, implies_true, exists_eq_left', exists_eq_left, if_true, if_false, undef]
        refine callF (CallsA.args (inside_spec ((l.length : Int) + 1) [o.zero] (by simp) ) (by simp [ hlw,encO, EA, EB, EC, ED, EE, EF, EG, EH, XA, XB, XC, XD, XE, XF, XG, XH, XI, XJ, XK, XL, XM, reduceIte, ↓reduceIte, Nat.reduceAdd, Nat.reduceLeDiff, Nat.reduceEqDiff, Nat.reduceLT, Nat.reduceSub, Nat.reduceBEq, forall_const, reduceCtorEq, implies_true, exists_eq_left', exists_eq_left, if_true, if_false, undef])) rfl (by simp [flat, encO, EA, EB, EC, ED, EE, EF, EG, EH, XA, XB, XC, XD, XE, XF, XG, XH, XI, XJ, XK, XL, XM, reduceIte, ↓reduceIte, Nat.reduceAdd, Nat.reduceLeDiff, Nat.reduceEqDiff, Nat.reduceLT, Nat.reduceSub, Nat.reduceBEq, forall_const, reduceCtorEq, implies_true, exists_eq_left', exists_eq_left, if_true, if_false, undef]) ?_
        simp (maxSteps := 1000000) only [encO, EA, EB, EC, ED, EE, EF, EG, EH, XA, XB, XC, XD, XE, XF, XG, XH, XI, XJ, XK, XL, XM, reduceIte, ↓reduceIte, Nat.reduceAdd, Nat.reduceLeDiff, Nat.reduceEqDiff, Nat.reduceLT, Nat.reduceSub, Nat.reduceBEq, forall_const, reduceCtorEq, implies_true, exists_eq_left', exists_eq_left, if_true, if_false, undef]
        by_cases hz : 0 ≤ o.zero ∧ o.zero < (l.length : Int) + 1
        · have ez : decide (0 ≤ o.zero ∧ o.zero < (l.length : Int) + 1) = true := by simp [hz]
          simp (maxSteps := 1000000) only [ez, encO, EA, EB, EC, ED, EE, EF, EG, EH, XA, XB, XC, XD, XE, XF, XG, XH, XI, XJ, XK, XL, XM, reduceIte, ↓reduceIte, Nat.reduceAdd, Nat.reduceLeDiff, Nat.reduceEqDiff, Nat.reduceLT, Nat.reduceSub, Nat.reduceBEq, forall_const, reduceCtorEq, implies_true, exists_eq_left', exists_eq_left, if_true, if_false, undef]
          exact ⟨k + 1, ⟨by omega, htk (fin (by omega))⟩, by omega, by simp [hkw, Back, BackF, fzT, fzM, fzU, fz, fzL, fzO, kin, SubT, Sub, SubL, SubM, SubO, keepM, srcOk, look, lookM, ev, evs, putT, argT, encO, EA, EB, EC, ED, EE, EF, EG, EH, XA, XB, XC, XD, XE, XF, XG, XH, XI, XJ, XK, XL, XM, reduceIte, ↓reduceIte, Nat.reduceAdd, Nat.reduceLeDiff, Nat.reduceEqDiff, Nat.reduceLT, Nat.reduceSub, Nat.reduceBEq, forall_const, reduceCtorEq, implies_true, exists_eq_left', exists_eq_left, if_true, if_false, undef]⟩
        · have ez : decide (0 ≤ o.zero ∧ o.zero < (l.length : Int) + 1) = false := by simp [hz]
          simp (maxSteps := 1000000) only [ez, encO, EA, EB, EC, ED, EE, EF, EG, EH, XA, XB, XC, XD, XE, XF, XG, XH, XI, XJ, XK, XL, XM, reduceIte, ↓reduceIte, Nat.reduceAdd, Nat.reduceLeDiff, Nat.reduceEqDiff, Nat.reduceLT, Nat.reduceSub, Nat.reduceBEq, forall_const, reduceCtorEq, implies_true, exists_eq_left', exists_eq_left, if_true, if_false, undef]
          rw [e3 (.inr q) h1 (by omega)]
      · have en : decide (0 ≤ o.next ∧ o.next < (l.length : Int) + 1) = false := by simp [hx]
        simp (maxSteps := 1000000) only [en, k3, encO, EA, EB, EC, ED, EE, EF, EG, EH, XA, XB, XC, XD, XE, XF, XG, XH, XI, XJ, XK, XL, XM, reduceIte, ↓reduceIte, Nat.reduceAdd, Nat.reduceLeDiff, Nat.reduceEqDiff, Nat.reduceLT, Nat.reduceSub, Nat.reduceBEq, forall_const, reduceCtorEq, implies_true, exists_eq_left', exists_eq_left, if_true, if_false, undef]
        rw [e3 (.inr q) h1 (by omega)]
    · simp (maxSteps := 1000000) only [encO, k1, k2, encO, EA, EB, EC, ED, EE, EF, EG, EH, XA, XB, XC, XD, XE, XF, XG, XH, XI, XJ, XK, XL, XM, reduceIte, ↓reduceIte, Nat.reduceAdd, Nat.reduceLeDiff, Nat.reduceEqDiff, Nat.reduceLT, Nat.reduceSub, Nat.reduceBEq, forall_const, reduceCtorEq, implies_true, exists_eq_left', exists_eq_left, if_true, if_false, undef]
      rw [e6 q]
  · simp only [decide_eq_false_iff_not, List.length_map, Int.ofNat_lt] at h
    have : k = l.length := by omega
    subst this
    simp only [List.take_length] at hp
    simp [ordersErr, hp]

theorem countCheck_spec (counters : Int) (l : List Ord) (hl : (l.length : Int) < 2 ^ 63) : CallsA Tryd.prog 5 [I counters, .ro 4 (l.map encO)] (I (countErr counters l)) [] := by
  refine fn_of0 comp5 (by simp) ?_
  unfold code5
  simp (maxSteps := 1000000) only [encO, EA, EB, EC, ED, EE, EF, EG, EH, XA, XB, XC, XD, XE, XF, XG, XH, XI, XJ, XK, XL, XM, reduceIte, ↓reduceIte, Nat.reduceAdd, Nat.reduceLeDiff, Nat.reduceEqDiff, Nat.reduceLT, Nat.reduceSub, Nat.reduceBEq, forall_const, reduceCtorEq, implies_true, exists_eq_left', exists_eq_left, if_true, if_false, undef]
  refine callF (CallsA.args (within_spec 1 counters 4) (by simp [encO, EA, EB, EC, ED, EE, EF, EG, EH, XA, XB, XC, XD, XE, XF, XG, XH, XI, XJ, XK, XL, XM, reduceIte, ↓reduceIte, Nat.reduceAdd, Nat.reduceLeDiff, Nat.reduceEqDiff, Nat.reduceLT, Nat.reduceSub, Nat.reduceBEq, forall_const, reduceCtorEq, implies_true, exists_eq_left', exists_eq_left, if_true, if_false, undef])) rfl (by simp [flat, encO, EA, EB, EC, ED, EE, EF, EG, EH, XA, XB, XC, XD, XE, XF, XG, XH, XI, XJ, XK, XL, XM, reduceIte, ↓reduceIte, Nat.reduceAdd, Nat.reduceLeDiff, Nat.reduceEqDiff, Nat.reduceLT, Nat.reduceSub, Nat.reduceBEq, forall_const, reduceCtorEq, implies_true, exists_eq_left', exists_eq_left, if_true, if_false, undef]) ?_
  simp (maxSteps := 1000000) only [encO, EA, EB, EC, ED, EE, EF, EG, EH, XA, XB, XC, XD, XE, XF, XG, XH, XI, XJ, XK, XL, XM, reduceIte, ↓reduceIte, Nat.reduceAdd, Nat.reduceLeDiff, Nat.reduceEqDiff, Nat.reduceLT, Nat.reduceSub, Nat.reduceBEq, forall_const, reduceCtorEq, implies_true, exists_eq_left', exists_eq_left, if_true, if_false, undef]
  have hll : ((l.map encO).length : Int) = l.length := by simp
  by_cases h1 : 1 ≤ counters ∧ counters ≤ 4
  · have e1 : decide (1 ≤ counters ∧ counters ≤ 4) = true := by simp [h1]
    simp (maxSteps := 1000000) only [e1, hll, encO, EA, EB, EC, ED, EE, EF, EG, EH, XA, XB, XC, XD, XE, XF, XG, XH, XI, XJ, XK, XL, XM, reduceIte, ↓reduceIte, Nat.reduceAdd, Nat.reduceLeDiff, Nat.reduceEqDiff, Nat.reduceLT, Nat.reduceSub, Nat.reduceBEq, forall_const, reduceCtorEq, implies_true, exists_eq_left', exists_eq_left, if_true, if_false, undef]
    refine callF (CallsA.args (within_spec 1 (l.length : Int) 12) (by simp [encO, EA, EB, EC, ED, EE, EF, EG, EH, XA, XB, XC, XD, XE, XF, XG, XH, XI, XJ, XK, XL, XM, reduceIte, ↓reduceIte, Nat.reduceAdd, Nat.reduceLeDiff, Nat.reduceEqDiff, Nat.reduceLT, Nat.reduceSub, Nat.reduceBEq, forall_const, reduceCtorEq, implies_true, exists_eq_left', exists_eq_left, if_true, if_false, undef])) rfl (by simp [flat, encO, EA, EB, EC, ED, EE, EF, EG, EH, XA, XB, XC, XD, XE, XF, XG, XH, XI, XJ, XK, XL, XM, reduceIte, ↓reduceIte, Nat.reduceAdd, Nat.reduceLeDiff, Nat.reduceEqDiff, Nat.reduceLT, Nat.reduceSub, Nat.reduceBEq, forall_const, reduceCtorEq, implies_true, exists_eq_left', exists_eq_left, if_true, if_false, undef]) ?_
    simp (maxSteps := 1000000) only [encO, EA, EB, EC, ED, EE, EF, EG, EH, XA, XB, XC, XD, XE, XF, XG, XH, XI, XJ, XK, XL, XM, reduceIte, ↓reduceIte, Nat.reduceAdd, Nat.reduceLeDiff, Nat.reduceEqDiff, Nat.reduceLT, Nat.reduceSub, Nat.reduceBEq, forall_const, reduceCtorEq, implies_true, exists_eq_left', exists_eq_left, if_true, if_false, undef]
    refine ⟨fun h2 => ?_, fun h2 => ?_⟩ <;> try simp (maxSteps := 1000000) only [encO, EA, EB, EC, ED, EE, EF, EG, EH, XA, XB, XC, XD, XE, XF, XG, XH, XI, XJ, XK, XL, XM, reduceIte, ↓reduceIte, Nat.reduceAdd, Nat.reduceLeDiff, Nat.reduceEqDiff, Nat.reduceLT, Nat.reduceSub, Nat.reduceBEq, forall_const, reduceCtorEq, implies_true, exists_eq_left', exists_eq_left, if_true, if_false, undef]
    · simp at h2; rw [countErr, if_pos (by omega)]
    simp at h2
    refine callF (CallsA.args (ordersCheck_spec counters l (by omega)) (by simp [encO, EA, EB, EC, ED, EE, EF, EG, EH, XA, XB, XC, XD, XE, XF, XG, XH, XI, XJ, XK, XL, XM, reduceIte, ↓reduceIte, Nat.reduceAdd, Nat.reduceLeDiff, Nat.reduceEqDiff, Nat.reduceLT, Nat.reduceSub, Nat.reduceBEq, forall_const, reduceCtorEq, implies_true, exists_eq_left', exists_eq_left, if_true, if_false, undef])) rfl (by simp [flat, encO, EA, EB, EC, ED, EE, EF, EG, EH, XA, XB, XC, XD, XE, XF, XG, XH, XI, XJ, XK, XL, XM, reduceIte, ↓reduceIte, Nat.reduceAdd, Nat.reduceLeDiff, Nat.reduceEqDiff, Nat.reduceLT, Nat.reduceSub, Nat.reduceBEq, forall_const, reduceCtorEq, implies_true, exists_eq_left', exists_eq_left, if_true, if_false, undef]) ?_
    rw [countErr, if_neg (by omega)]
    simp [encO, EA, EB, EC, ED, EE, EF, EG, EH, XA, XB, XC, XD, XE, XF, XG, XH, XI, XJ, XK, XL, XM, reduceIte, ↓reduceIte, Nat.reduceAdd, Nat.reduceLeDiff, Nat.reduceEqDiff, Nat.reduceLT, Nat.reduceSub, Nat.reduceBEq, forall_const, reduceCtorEq, implies_true, exists_eq_left', exists_eq_left, if_true, if_false, undef]
  · have e1 : decide (1 ≤ counters ∧ counters ≤ 4) = false := by simp [h1]
    simp (maxSteps := 1000000) only [e1, encO, EA, EB, EC, ED, EE, EF, EG, EH, XA, XB, XC, XD, XE, XF, XG, XH, XI, XJ, XK, XL, XM, reduceIte, ↓reduceIte, Nat.reduceAdd, Nat.reduceLeDiff, Nat.reduceEqDiff, Nat.reduceLT, Nat.reduceSub, Nat.reduceBEq, forall_const, reduceCtorEq, implies_true, exists_eq_left', exists_eq_left, if_true, if_false, undef]
    rw [countErr, if_pos (by omega)]

/-- counters, and the number of the instruction -/
abbrev CS := List Int × Int
def ordAt (l : List Ord) (a : Int) : Ord := (l[a.toNat]?).getD ⟨0, 0, 0, 0⟩
def cAt (c : List Int) (i : Int) : Int := (c[i.toNat]?).getD 0
def cstep (l : List Ord) (s : CS) : CS :=
  if (ordAt l s.2).kind = 1 then (s.1.set (ordAt l s.2).counter.toNat (cAt s.1 (ordAt l s.2).counter + 1), (ordAt l s.2).next)
  else if 0 < cAt s.1 (ordAt l s.2).counter then (s.1.set (ordAt l s.2).counter.toNat (cAt s.1 (ordAt l s.2).counter - 1), (ordAt l s.2).next)
  else (s.1, (ordAt l s.2).zero)
def crun (l : List Ord) (s : CS) : Nat → CS
  | 0 => s
  | k + 1 => if (crun l s k).2 < l.length then cstep l (crun l s k) else crun l s k
def cdone (l : List Ord) (s : CS) : Nat → Nat
  | 0 => 0
  | k + 1 => if (crun l s k).2 < l.length then cdone l s k + 1 else cdone l s k

theorem cdone_le (l : List Ord) (s : CS) : ∀ k, cdone l s k ≤ k
  | 0 => by simp [cdone]
  | k + 1 => by have := cdone_le l s k; simp only [cdone]; split <;> omega
theorem cdone_live {l : List Ord} {s : CS} : ∀ {k}, cdone l s k = k → ∀ j, j < k → (crun l s j).2 < l.length
  | 0, _, j, hj => by omega
  | k + 1, h, j, hj => by
    have hle := cdone_le l s k
    simp only [cdone] at h
    split at h
    · rename_i hl
      by_cases hjk : j = k
      · rw [hjk]; exact hl
      · exact cdone_live (k := k) (by omega) j (by omega)
    · omega
theorem cdone_stop {l : List Ord} {s : CS} {k : Nat} (h : ¬(crun l s k).2 < l.length) (hk : cdone l s k = k) : ∀ N, k ≤ N → crun l s N = crun l s k ∧ cdone l s N = k := by
  intro N
  induction N with
  | zero => intro hN; have : k = 0 := by omega
            subst this; exact ⟨rfl, hk⟩
  | succ N ih =>
    intro hN
    by_cases he : k = N + 1
    · subst he; exact ⟨rfl, hk⟩
    · obtain ⟨a, b⟩ := ih (by omega)
      simp only [crun, cdone]
      rw [a, if_neg h, if_neg h]
      exact ⟨rfl, b⟩

structure OrdOk (n : Nat) (L : Nat) (o : Ord) : Prop where
  kind : o.kind = 1 ∨ o.kind = 2
  counter : 0 ≤ o.counter ∧ o.counter < n
  next : 0 ≤ o.next ∧ o.next ≤ L
  zero : o.kind = 2 → 0 ≤ o.zero ∧ o.zero ≤ L

structure CSOk (n L : Nat) (top : Int) (s : CS) : Prop where
  len : s.1.length = n
  lo : ∀ x ∈ s.1, 0 ≤ x ∧ x ≤ top
  at0 : 0 ≤ s.2
  at1 : s.2 ≤ L

theorem cAt_ok {n L : Nat} {top : Int} {s : CS} (h : CSOk n L top s) {i : Int} (hi : 0 ≤ i ∧ i < n) : 0 ≤ cAt s.1 i ∧ cAt s.1 i ≤ top := by
  have hlt : i.toNat < s.1.length := by rw [h.len]; omega
  simp only [cAt, List.getElem?_eq_getElem hlt, Option.getD_some]
  exact h.lo _ (List.getElem_mem hlt)

theorem ordAt_ok {n : Nat} {l : List Ord} (ho : ∀ o ∈ l, OrdOk n l.length o) {a : Int} (h0 : 0 ≤ a) (h1 : a < l.length) : OrdOk n l.length (ordAt l a) := by
  have hlt : a.toNat < l.length := by omega
  simp only [ordAt, List.getElem?_eq_getElem hlt, Option.getD_some]
  exact ho _ (List.getElem_mem hlt)

theorem cstep_ok {n : Nat} {l : List Ord} (ho : ∀ o ∈ l, OrdOk n l.length o) {top : Int} {s : CS} (h : CSOk n l.length top s) (hl : s.2 < l.length) (ht : 0 ≤ top) : CSOk n l.length (top + 1) (cstep l s) := by
  have hoo := ordAt_ok ho h.at0 hl
  have hc := cAt_ok h hoo.counter
  have hm : ∀ v : Int, 0 ≤ v ∧ v ≤ top + 1 → ∀ x ∈ s.1.set (ordAt l s.2).counter.toNat v, 0 ≤ x ∧ x ≤ top + 1 := fun v hv x hx => by
    rcases List.mem_or_eq_of_mem_set hx with q | q
    · have := h.lo x q; omega
    · rw [q]; exact hv
  unfold cstep
  split
  · exact ⟨by simp [h.len], hm _ (by omega), hoo.next.1, hoo.next.2⟩
  · rename_i hk
    split
    · exact ⟨by simp [h.len], hm _ (by omega), hoo.next.1, hoo.next.2⟩
    · have := hoo.zero (by have := hoo.kind; omega)
      exact ⟨h.len, fun x hx => by have := h.lo x hx; omega, this.1, this.2⟩

theorem crun_ok {n : Nat} {l : List Ord} (ho : ∀ o ∈ l, OrdOk n l.length o) {top : Int} {s : CS} (h : CSOk n l.length top s) (ht : 0 ≤ top) : ∀ k : Nat, CSOk n l.length (top + k) (crun l s k)
  | 0 => by simpa [crun] using h
  | k + 1 => by
    have ih := crun_ok ho h ht k
    simp only [crun]
    split
    · rename_i hl
      have := cstep_ok ho ih hl (by omega)
      rw [show top + ((k + 1 : Nat) : Int) = top + k + 1 by omega]; exact this
    · exact ⟨ih.len, fun x hx => by have := ih.lo x hx; omega, ih.at0, ih.at1⟩

theorem pickA {α : Type} {l : List α} {f : α → AV} {i : Nat} {K : AV → Prop} {x : α} (h : l[i]? = some x) (hK : K (f x)) : Pick (l.map f) i K := ⟨f x, by simp [h], hK⟩

theorem counted_gen (n : Nat) (l : List Ord) (c : List Int) (turns : Nat) {top : Int} (htop : 0 ≤ top ∧ top ≤ 1000000) (ho : ∀ o ∈ l, OrdOk n l.length o) (hc : CSOk n l.length top (c, 0)) (ht : turns ≤ 10000000) (hl : l.length ≤ 100000) (hn : n ≤ 4) :
    CallsA Tryd.prog 9 [.ro 4 (l.map encO), .ro 1 (c.map I), I 0, I (turns : Nat)] (.tup [.ro 1 ((crun l (c, 0) turns).1.map I), I (crun l (c, 0) turns).2, I (cdone l (c, 0) turns : Nat)]) [] := by
  refine fn_of0 comp9 (by simp) ?_
  unfold code9
  simp (maxSteps := 1000000) only [encO, EA, EB, EC, ED, EE, EF, EG, EH, XA, XB, XC, XD, XE, XF, XG, XH, XI, XJ, XK, XL, XM, reduceIte, ↓reduceIte, Nat.reduceAdd, Nat.reduceLeDiff, Nat.reduceEqDiff, Nat.reduceLT, Nat.reduceSub, Nat.reduceBEq, forall_const, reduceCtorEq, implies_true, exists_eq_left', exists_eq_left, if_true, if_false, undef]
  have hlc : (c.map I).length = n := by simp; exact hc.len
  have hll : ((l.map encO).length : Int) = l.length := by simp
  refine ⟨by omega, ?_⟩
  refine loopO Nat [12, 2] (fun k => [I (k : Nat), I (crun l (c, 0) k).2]) (fun k => [(5, some (.arr 1 ((crun l (c, 0) k).1.map I)))]) (fun k => k ≤ turns ∧ cdone l (c, 0) k = k) (fun k => turns - k) (by decide) 0 (by simp [cdone]) (by simp [Back, BackF, fzT, fzM, fzU, fz, fzL, fzO, kin, SubT, Sub, SubL, SubM, SubO, keepM, srcOk, look, lookM, ev, evs, putT, argT, encO, EA, EB, EC, ED, EE, EF, EG, EH, XA, XB, XC, XD, XE, XF, XG, XH, XI, XJ, XK, XL, XM, reduceIte, ↓reduceIte, Nat.reduceAdd, Nat.reduceLeDiff, Nat.reduceEqDiff, Nat.reduceLT, Nat.reduceSub, Nat.reduceBEq, forall_const, reduceCtorEq, implies_true, exists_eq_left', exists_eq_left, if_true, if_false, undef, crun]) (fun k hk => ?_)
  obtain ⟨hk, hd⟩ := hk
  have hs := crun_ok ho hc htop.1 k
  have hsl : ((crun l (c, 0) k).1.map I).length = n := by simp [hs.len]
  by_cases h1 : k < turns
  · have e1 : decide ((k : Int) < (turns : Int)) = true := by simp [h1]
    by_cases h2 : (crun l (c, 0) k).2 < (l.length : Int)
    · have e2 : decide ((crun l (c, 0) k).2 < (l.length : Int)) = true := by simp [h2]
      have hoo := ordAt_ok ho hs.at0 h2
      have hca := cAt_ok hs hoo.counter
      have hoa : l[(crun l (c, 0) k).2.toNat]? = some (ordAt l (crun l (c, 0) k).2) := by
        have := hs.at0
        rw [ordAt, List.getElem?_eq_getElem (by omega)]; rfl
      have hw : IntKind.i64.wrap ((k : Int) + 1) = ((k + 1 : Nat) : Int) := by rw [wrap_id] <;> omega
      have hrun : crun l (c, 0) (k + 1) = cstep l (crun l (c, 0) k) := by simp only [crun]; rw [if_pos h2]
      have hdn : cdone l (c, 0) (k + 1) = k + 1 := by simp only [cdone]; rw [if_pos h2, hd]
      generalize crun l (c, 0) k = s at *
      simp (maxSteps := 1000000) only [e1, e2, hll, encO, EA, EB, EC, ED, EE, EF, EG, EH, XA, XB, XC, XD, XE, XF, XG, XH, XI, XJ, XK, XL, XM, reduceIte, ↓reduceIte, Nat.reduceAdd, Nat.reduceLeDiff, Nat.reduceEqDiff, Nat.reduceLT, Nat.reduceSub, Nat.reduceBEq, forall_const, reduceCtorEq, implies_true, exists_eq_left', exists_eq_left, if_true, if_false, undef]
      refine ⟨hs.at0, pickA hoa ?_⟩
      rw [cstep] at hrun
      generalize ordAt l s.2 = o at *
      have hcx : s.1[o.counter.toNat]? = some (cAt s.1 o.counter) := by
        have := hs.len
        have := hoo.counter
        rw [cAt, List.getElem?_eq_getElem (by omega)]; rfl
      have hwp : IntKind.i64.wrap (cAt s.1 o.counter + 1) = cAt s.1 o.counter + 1 := by rw [wrap_id] <;> omega
      have hwm : IntKind.i64.wrap (cAt s.1 o.counter - 1) = cAt s.1 o.counter - 1 := by rw [wrap_id] <;> omega
      have hcb := hoo.counter
      by_cases hk1 : o.kind = 1
      · have k1 : (o.kind == 1) = true := by simp [hk1]
        rw [if_pos hk1] at hrun
        simp (maxSteps := 1000000) only [encO, k1, encO, EA, EB, EC, ED, EE, EF, EG, EH, XA, XB, XC, XD, XE, XF, XG, XH, XI, XJ, XK, XL, XM, reduceIte, ↓reduceIte, Nat.reduceAdd, Nat.reduceLeDiff, Nat.reduceEqDiff, Nat.reduceLT, Nat.reduceSub, Nat.reduceBEq, forall_const, reduceCtorEq, implies_true, exists_eq_left', exists_eq_left, if_true, if_false, undef]
        refine ⟨hcb.1, by omega, ?_⟩
        rw [Nat.zero_add]
        refine pickA hcx ?_
        simp (maxSteps := 1000000) only [hwp, hw, encO, EA, EB, EC, ED, EE, EF, EG, EH, XA, XB, XC, XD, XE, XF, XG, XH, XI, XJ, XK, XL, XM, reduceIte, ↓reduceIte, Nat.reduceAdd, Nat.reduceLeDiff, Nat.reduceEqDiff, Nat.reduceLT, Nat.reduceSub, Nat.reduceBEq, forall_const, reduceCtorEq, implies_true, exists_eq_left', exists_eq_left, if_true, if_false, undef]
        exact ⟨hcb.1, by omega, by omega, k + 1, ⟨by omega, hdn⟩, by omega, by simp [Back, BackF, fzT, fzM, fzU, fz, fzL, fzO, kin, SubT, Sub, SubL, SubM, SubO, keepM, srcOk, look, lookM, ev, evs, putT, argT, encO, EA, EB, EC, ED, EE, EF, EG, EH, XA, XB, XC, XD, XE, XF, XG, XH, XI, XJ, XK, XL, XM, reduceIte, ↓reduceIte, Nat.reduceAdd, Nat.reduceLeDiff, Nat.reduceEqDiff, Nat.reduceLT, Nat.reduceSub, Nat.reduceBEq, forall_const, reduceCtorEq, implies_true, exists_eq_left', exists_eq_left, if_true, if_false, undef, hrun, List.map_set]⟩
      · have k1 : (o.kind == 1) = false := by simp [hk1]
        rw [if_neg hk1] at hrun
        simp (maxSteps := 1000000) only [encO, k1, encO, EA, EB, EC, ED, EE, EF, EG, EH, XA, XB, XC, XD, XE, XF, XG, XH, XI, XJ, XK, XL, XM, reduceIte, ↓reduceIte, Nat.reduceAdd, Nat.reduceLeDiff, Nat.reduceEqDiff, Nat.reduceLT, Nat.reduceSub, Nat.reduceBEq, forall_const, reduceCtorEq, implies_true, exists_eq_left', exists_eq_left, if_true, if_false, undef]
        refine ⟨hcb.1, by omega, ?_⟩
        rw [Nat.zero_add]
        refine pickA hcx ?_
        simp (maxSteps := 1000000) only [encO, EA, EB, EC, ED, EE, EF, EG, EH, XA, XB, XC, XD, XE, XF, XG, XH, XI, XJ, XK, XL, XM, reduceIte, ↓reduceIte, Nat.reduceAdd, Nat.reduceLeDiff, Nat.reduceEqDiff, Nat.reduceLT, Nat.reduceSub, Nat.reduceBEq, forall_const, reduceCtorEq, implies_true, exists_eq_left', exists_eq_left, if_true, if_false, undef]
        by_cases hz : 0 < cAt s.1 o.counter
        · have ez : decide (0 < cAt s.1 o.counter) = true := by simp [hz]
          rw [if_pos hz] at hrun
          simp (maxSteps := 1000000) only [ez, encO, EA, EB, EC, ED, EE, EF, EG, EH, XA, XB, XC, XD, XE, XF, XG, XH, XI, XJ, XK, XL, XM, reduceIte, ↓reduceIte, Nat.reduceAdd, Nat.reduceLeDiff, Nat.reduceEqDiff, Nat.reduceLT, Nat.reduceSub, Nat.reduceBEq, forall_const, reduceCtorEq, implies_true, exists_eq_left', exists_eq_left, if_true, if_false, undef]
          refine ⟨hcb.1, by omega, ?_⟩
          rw [Nat.zero_add]
          refine pickA hcx ?_
          simp (maxSteps := 1000000) only [hwm, hw, encO, EA, EB, EC, ED, EE, EF, EG, EH, XA, XB, XC, XD, XE, XF, XG, XH, XI, XJ, XK, XL, XM, reduceIte, ↓reduceIte, Nat.reduceAdd, Nat.reduceLeDiff, Nat.reduceEqDiff, Nat.reduceLT, Nat.reduceSub, Nat.reduceBEq, forall_const, reduceCtorEq, implies_true, exists_eq_left', exists_eq_left, if_true, if_false, undef]
          exact ⟨hcb.1, by omega, by omega, k + 1, ⟨by omega, hdn⟩, by omega, by simp [Back, BackF, fzT, fzM, fzU, fz, fzL, fzO, kin, SubT, Sub, SubL, SubM, SubO, keepM, srcOk, look, lookM, ev, evs, putT, argT, encO, EA, EB, EC, ED, EE, EF, EG, EH, XA, XB, XC, XD, XE, XF, XG, XH, XI, XJ, XK, XL, XM, reduceIte, ↓reduceIte, Nat.reduceAdd, Nat.reduceLeDiff, Nat.reduceEqDiff, Nat.reduceLT, Nat.reduceSub, Nat.reduceBEq, forall_const, reduceCtorEq, implies_true, exists_eq_left', exists_eq_left, if_true, if_false, undef, hrun, List.map_set]⟩
        · have ez : decide (0 < cAt s.1 o.counter) = false := by simp [hz]
          rw [if_neg hz] at hrun
          simp (maxSteps := 1000000) only [ez, hw, encO, EA, EB, EC, ED, EE, EF, EG, EH, XA, XB, XC, XD, XE, XF, XG, XH, XI, XJ, XK, XL, XM, reduceIte, ↓reduceIte, Nat.reduceAdd, Nat.reduceLeDiff, Nat.reduceEqDiff, Nat.reduceLT, Nat.reduceSub, Nat.reduceBEq, forall_const, reduceCtorEq, implies_true, exists_eq_left', exists_eq_left, if_true, if_false, undef]
          exact ⟨k + 1, ⟨by omega, hdn⟩, by omega, by simp [Back, BackF, fzT, fzM, fzU, fz, fzL, fzO, kin, SubT, Sub, SubL, SubM, SubO, keepM, srcOk, look, lookM, ev, evs, putT, argT, encO, EA, EB, EC, ED, EE, EF, EG, EH, XA, XB, XC, XD, XE, XF, XG, XH, XI, XJ, XK, XL, XM, reduceIte, ↓reduceIte, Nat.reduceAdd, Nat.reduceLeDiff, Nat.reduceEqDiff, Nat.reduceLT, Nat.reduceSub, Nat.reduceBEq, forall_const, reduceCtorEq, implies_true, exists_eq_left', exists_eq_left, if_true, if_false, undef, hrun]⟩
    · have e2 : decide ((crun l (c, 0) k).2 < (l.length : Int)) = false := by simp [h2]
      obtain ⟨a1, a2⟩ := cdone_stop h2 hd turns hk
      simp (maxSteps := 1000000) only [e1, e2, hll, a1, a2, encO, EA, EB, EC, ED, EE, EF, EG, EH, XA, XB, XC, XD, XE, XF, XG, XH, XI, XJ, XK, XL, XM, reduceIte, ↓reduceIte, Nat.reduceAdd, Nat.reduceLeDiff, Nat.reduceEqDiff, Nat.reduceLT, Nat.reduceSub, Nat.reduceBEq, forall_const, reduceCtorEq, implies_true, exists_eq_left', exists_eq_left, if_true, if_false, undef]
      rw [hlc]; exact List.take_of_length_le (by omega)
  · have e1 : decide ((k : Int) < (turns : Int)) = false := by simp [h1]
    have : k = turns := by omega
    subst this
    simp (maxSteps := 1000000) only [e1, hd, encO, EA, EB, EC, ED, EE, EF, EG, EH, XA, XB, XC, XD, XE, XF, XG, XH, XI, XJ, XK, XL, XM, reduceIte, ↓reduceIte, Nat.reduceAdd, Nat.reduceLeDiff, Nat.reduceEqDiff, Nat.reduceLT, Nat.reduceSub, Nat.reduceBEq, forall_const, reduceCtorEq, implies_true, exists_eq_left', exists_eq_left, if_true, if_false, undef]
    rw [hlc]; exact List.take_of_length_le (by omega)

theorem counted_spec (n : Nat) (l : List Ord) (c : List Int) (turns : Nat) (ho : ∀ o ∈ l, OrdOk n l.length o) (hc : CSOk n l.length 20 (c, 0)) (ht : turns ≤ 400) (hl : l.length ≤ 12) (hn : n ≤ 4) :
    CallsA Tryd.prog 9 [.ro 4 (l.map encO), .ro 1 (c.map I), I 0, I (turns : Nat)] (.tup [.ro 1 ((crun l (c, 0) turns).1.map I), I (crun l (c, 0) turns).2, I (cdone l (c, 0) turns : Nat)]) [] :=
  counted_gen n l c turns (by omega) ho hc (by omega) (by omega) hn

end Go.Av
