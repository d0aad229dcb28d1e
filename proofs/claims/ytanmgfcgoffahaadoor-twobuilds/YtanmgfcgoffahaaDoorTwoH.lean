/- The document's functions that the law on Build calls. -/
import Derived.Test.YtanmgfcgoffahaaDoorTwoQ
import Derived.Test.YtanmgfcgoffahaaDoorTwoG
set_option linter.unusedSimpArgs false
set_option linter.unusedVariables false
set_option maxRecDepth 100000
namespace Go.Av
open Go.Proofs

theorem has_spec (l : List Int) (x : Int) (hl : (l.length : Int) < 2 ^ 63) : CallsA Tryd.prog 17 [.ro 1 (l.map I), I x] (Bo (decide (x ∈ l))) [] := by
  refine fn_of0 comp17 (by simp) ?_
  unfold code17
  have hll : ((l.map I).length : Int) = l.length := by simp
  simp (maxSteps := 1000000) only [encO, EA, EB, EC, ED, EE, EF, EG, XA, XB, XC, XD, XE, XF, XG, XH, XI, XJ, XK, XL, reduceIte, ↓reduceIte, Nat.reduceAdd, Nat.reduceLeDiff, Nat.reduceEqDiff, Nat.reduceLT, Nat.reduceSub, Nat.reduceBEq, forall_const, reduceCtorEq, implies_true, exists_eq_left', exists_eq_left, if_true, if_false, undef]
  refine loop0 Nat [9] (fun k => [I k]) (fun k => k ≤ l.length ∧ x ∉ l.take k) (fun k => l.length - k) (by decide) 0 (by simp) (by simp [Back, SubT, Sub, SubL, SubM, SubO, keepM, srcOk, look, lookM, ev, evs, putT, argT, encO, EA, EB, EC, ED, EE, EF, EG, XA, XB, XC, XD, XE, XF, XG, XH, XI, XJ, XK, XL, reduceIte, ↓reduceIte, Nat.reduceAdd, Nat.reduceLeDiff, Nat.reduceEqDiff, Nat.reduceLT, Nat.reduceSub, Nat.reduceBEq, forall_const, reduceCtorEq, implies_true, exists_eq_left', exists_eq_left, if_true, if_false, undef]) (fun k hk => ?_)
  obtain ⟨hk, hp⟩ := hk
  by_cases h : k < l.length
  · have e1 : decide ((k : Int) < (l.length : Int)) = true := by simp [h]
    have hw : IntKind.i64.wrap ((k : Int) + 1) = ((k + 1 : Nat) : Int) := by rw [wrap_id] <;> omega
    simp (maxSteps := 1000000) only [e1, hll, encO, EA, EB, EC, ED, EE, EF, EG, XA, XB, XC, XD, XE, XF, XG, XH, XI, XJ, XK, XL, reduceIte, ↓reduceIte, Nat.reduceAdd, Nat.reduceLeDiff, Nat.reduceEqDiff, Nat.reduceLT, Nat.reduceSub, Nat.reduceBEq, forall_const, reduceCtorEq, implies_true, exists_eq_left', exists_eq_left, if_true, if_false, undef]
    refine ⟨by omega, pickM h ?_⟩
    by_cases g : x = l[k]
    · have e2 : (x == l[k]) = true := by simp [g]
      have hm : x ∈ l := by rw [g]; exact List.getElem_mem h
      simp (maxSteps := 1000000) only [e2, encO, EA, EB, EC, ED, EE, EF, EG, XA, XB, XC, XD, XE, XF, XG, XH, XI, XJ, XK, XL, reduceIte, ↓reduceIte, Nat.reduceAdd, Nat.reduceLeDiff, Nat.reduceEqDiff, Nat.reduceLT, Nat.reduceSub, Nat.reduceBEq, forall_const, reduceCtorEq, implies_true, exists_eq_left', exists_eq_left, if_true, if_false, undef]
      simp [hm, encO, EA, EB, EC, ED, EE, EF, EG, XA, XB, XC, XD, XE, XF, XG, XH, XI, XJ, XK, XL, reduceIte, ↓reduceIte, Nat.reduceAdd, Nat.reduceLeDiff, Nat.reduceEqDiff, Nat.reduceLT, Nat.reduceSub, Nat.reduceBEq, forall_const, reduceCtorEq, implies_true, exists_eq_left', exists_eq_left, if_true, if_false, undef]
    · have e2 : (x == l[k]) = false := by simp [g]
      simp (maxSteps := 1000000) only [e2, hw, encO, EA, EB, EC, ED, EE, EF, EG, XA, XB, XC, XD, XE, XF, XG, XH, XI, XJ, XK, XL, reduceIte, ↓reduceIte, Nat.reduceAdd, Nat.reduceLeDiff, Nat.reduceEqDiff, Nat.reduceLT, Nat.reduceSub, Nat.reduceBEq, forall_const, reduceCtorEq, implies_true, exists_eq_left', exists_eq_left, if_true, if_false, undef]
      refine ⟨k + 1, ⟨by omega, ?_⟩, by omega, by simp [Back, SubT, Sub, SubL, SubM, SubO, keepM, srcOk, look, lookM, ev, evs, putT, argT, encO, EA, EB, EC, ED, EE, EF, EG, XA, XB, XC, XD, XE, XF, XG, XH, XI, XJ, XK, XL, reduceIte, ↓reduceIte, Nat.reduceAdd, Nat.reduceLeDiff, Nat.reduceEqDiff, Nat.reduceLT, Nat.reduceSub, Nat.reduceBEq, forall_const, reduceCtorEq, implies_true, exists_eq_left', exists_eq_left, if_true, if_false, undef]⟩
      intro hm
      rw [List.take_add_one, List.getElem?_eq_getElem h] at hm
      rcases List.mem_append.1 hm with hm | hm
      · exact hp hm
      · simp at hm; exact g hm
  · have e1 : decide ((k : Int) < (l.length : Int)) = false := by simp [h]
    have : k = l.length := by omega
    subst this
    rw [List.take_length] at hp
    simp (maxSteps := 1000000) only [e1, hll, encO, EA, EB, EC, ED, EE, EF, EG, XA, XB, XC, XD, XE, XF, XG, XH, XI, XJ, XK, XL, reduceIte, ↓reduceIte, Nat.reduceAdd, Nat.reduceLeDiff, Nat.reduceEqDiff, Nat.reduceLT, Nat.reduceSub, Nat.reduceBEq, forall_const, reduceCtorEq, implies_true, exists_eq_left', exists_eq_left, if_true, if_false, undef]
    simp [hp, encO, EA, EB, EC, ED, EE, EF, EG, XA, XB, XC, XD, XE, XF, XG, XH, XI, XJ, XK, XL, reduceIte, ↓reduceIte, Nat.reduceAdd, Nat.reduceLeDiff, Nat.reduceEqDiff, Nat.reduceLT, Nat.reduceSub, Nat.reduceBEq, forall_const, reduceCtorEq, implies_true, exists_eq_left', exists_eq_left, if_true, if_false, undef]

theorem oneOrder_spec (n L : Nat) (o : Ord) (c : List Int) (ho : OrdOk n L o) (hc : c.length = n) (hn : n ≤ 4) (hb : ∀ x ∈ c, 0 ≤ x ∧ x ≤ 1000000) :
    CallsA Tryd.prog 16 [encO o, .ro 1 (c.map I)] (.tup [.ro 1 ((estep o c).1.map I), I (estep o c).2]) [] := by
  have hcb := ho.counter
  have hlt : o.counter.toNat < c.length := by omega
  have hcx : c[o.counter.toNat]? = some (cAt c o.counter) := by
    rw [cAt, List.getElem?_eq_getElem hlt]; rfl
  have hca : 0 ≤ cAt c o.counter ∧ cAt c o.counter ≤ 1000000 := hb _ (List.mem_of_getElem? hcx)
  have hwp : IntKind.i64.wrap (cAt c o.counter + 1) = cAt c o.counter + 1 := by rw [wrap_id] <;> omega
  have hwm : IntKind.i64.wrap (cAt c o.counter - 1) = cAt c o.counter - 1 := by rw [wrap_id] <;> omega
  have hll : (c.map I).length = c.length := by simp
  refine fn_of0 comp16 (by simp) ?_
  unfold code16
  simp (maxSteps := 1000000) only [encO, hll, List.drop_nil, List.nil_append, encO, EA, EB, EC, ED, EE, EF, EG, XA, XB, XC, XD, XE, XF, XG, XH, XI, XJ, XK, XL, reduceIte, ↓reduceIte, Nat.reduceAdd, Nat.reduceLeDiff, Nat.reduceEqDiff, Nat.reduceLT, Nat.reduceSub, Nat.reduceBEq, forall_const, reduceCtorEq, implies_true, exists_eq_left', exists_eq_left, if_true, if_false, undef]
  refine ⟨by omega, ?_⟩
  by_cases hk1 : o.kind = 1
  · have k1 : (o.kind == 1) = true := by simp [hk1]
    have hs : estep o c = (c.set o.counter.toNat (cAt c o.counter + 1), o.next) := by simp [estep, hk1]
    simp (maxSteps := 1000000) only [k1, encO, EA, EB, EC, ED, EE, EF, EG, XA, XB, XC, XD, XE, XF, XG, XH, XI, XJ, XK, XL, reduceIte, ↓reduceIte, Nat.reduceAdd, Nat.reduceLeDiff, Nat.reduceEqDiff, Nat.reduceLT, Nat.reduceSub, Nat.reduceBEq, forall_const, reduceCtorEq, implies_true, exists_eq_left', exists_eq_left, if_true, if_false, undef]
    refine ⟨hcb.1, by omega, pickA (by rw [Nat.zero_add]; exact hcx) ?_⟩
    simp (maxSteps := 1000000) only [hwp, encO, EA, EB, EC, ED, EE, EF, EG, XA, XB, XC, XD, XE, XF, XG, XH, XI, XJ, XK, XL, reduceIte, ↓reduceIte, Nat.reduceAdd, Nat.reduceLeDiff, Nat.reduceEqDiff, Nat.reduceLT, Nat.reduceSub, Nat.reduceBEq, forall_const, reduceCtorEq, implies_true, exists_eq_left', exists_eq_left, if_true, if_false, undef]
    refine ⟨hcb.1, by omega, ?_⟩
    simp (maxSteps := 1000000) only [hwp, hll, hs, encO, EA, EB, EC, ED, EE, EF, EG, XA, XB, XC, XD, XE, XF, XG, XH, XI, XJ, XK, XL, reduceIte, ↓reduceIte, Nat.reduceAdd, Nat.reduceLeDiff, Nat.reduceEqDiff, Nat.reduceLT, Nat.reduceSub, Nat.reduceBEq, forall_const, reduceCtorEq, implies_true, exists_eq_left', exists_eq_left, if_true, if_false, undef]
    refine ⟨by omega, ?_⟩
    rw [List.take_of_length_le (by simp)]
    simp [List.map_set]
  · have k1 : (o.kind == 1) = false := by simp [hk1]
    simp (maxSteps := 1000000) only [k1, encO, EA, EB, EC, ED, EE, EF, EG, XA, XB, XC, XD, XE, XF, XG, XH, XI, XJ, XK, XL, reduceIte, ↓reduceIte, Nat.reduceAdd, Nat.reduceLeDiff, Nat.reduceEqDiff, Nat.reduceLT, Nat.reduceSub, Nat.reduceBEq, forall_const, reduceCtorEq, implies_true, exists_eq_left', exists_eq_left, if_true, if_false, undef]
    refine ⟨hcb.1, by omega, pickA (by rw [Nat.zero_add]; exact hcx) ?_⟩
    by_cases hz : 0 < cAt c o.counter
    · have ez : (cAt c o.counter == 0) = false := by simp; omega
      have hs : estep o c = (c.set o.counter.toNat (cAt c o.counter - 1), o.next) := by simp [estep, hk1, hz]
      simp (maxSteps := 1000000) only [ez, encO, EA, EB, EC, ED, EE, EF, EG, XA, XB, XC, XD, XE, XF, XG, XH, XI, XJ, XK, XL, reduceIte, ↓reduceIte, Nat.reduceAdd, Nat.reduceLeDiff, Nat.reduceEqDiff, Nat.reduceLT, Nat.reduceSub, Nat.reduceBEq, forall_const, reduceCtorEq, implies_true, exists_eq_left', exists_eq_left, if_true, if_false, undef]
      refine ⟨hcb.1, by omega, pickA (by rw [Nat.zero_add]; exact hcx) ?_⟩
      simp (maxSteps := 1000000) only [hwm, encO, EA, EB, EC, ED, EE, EF, EG, XA, XB, XC, XD, XE, XF, XG, XH, XI, XJ, XK, XL, reduceIte, ↓reduceIte, Nat.reduceAdd, Nat.reduceLeDiff, Nat.reduceEqDiff, Nat.reduceLT, Nat.reduceSub, Nat.reduceBEq, forall_const, reduceCtorEq, implies_true, exists_eq_left', exists_eq_left, if_true, if_false, undef]
      refine ⟨hcb.1, by omega, ?_⟩
      simp (maxSteps := 1000000) only [hwm, hll, hs, encO, EA, EB, EC, ED, EE, EF, EG, XA, XB, XC, XD, XE, XF, XG, XH, XI, XJ, XK, XL, reduceIte, ↓reduceIte, Nat.reduceAdd, Nat.reduceLeDiff, Nat.reduceEqDiff, Nat.reduceLT, Nat.reduceSub, Nat.reduceBEq, forall_const, reduceCtorEq, implies_true, exists_eq_left', exists_eq_left, if_true, if_false, undef]
      refine ⟨by omega, ?_⟩
      rw [List.take_of_length_le (by simp)]
      simp [List.map_set]
    · have ez : (cAt c o.counter == 0) = true := by simp; omega
      have hs : estep o c = (c, o.zero) := by simp [estep, hk1, hz]
      simp (maxSteps := 1000000) only [ez, hs, encO, EA, EB, EC, ED, EE, EF, EG, XA, XB, XC, XD, XE, XF, XG, XH, XI, XJ, XK, XL, reduceIte, ↓reduceIte, Nat.reduceAdd, Nat.reduceLeDiff, Nat.reduceEqDiff, Nat.reduceLT, Nat.reduceSub, Nat.reduceBEq, forall_const, reduceCtorEq, implies_true, exists_eq_left', exists_eq_left, if_true, if_false, undef]
      rw [List.take_of_length_le (by simp)]

end Go.Av
