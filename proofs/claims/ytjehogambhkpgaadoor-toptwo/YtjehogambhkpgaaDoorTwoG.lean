/- The compiler to two counters: Build. -/
import Derived.Test.YtjehogambhkpgaaDoorTwoF
set_option linter.unusedSimpArgs false
set_option linter.unusedVariables false
set_option maxRecDepth 100000
namespace Go.Av
open Go.Proofs

def buildAns (counters : Int) (l : List Ord) : AV := if countErr counters l = 0 then .tup [.ro 4 ((bldCode l).map encO), .ro 1 ((sts l).map I), I 0] else .tup [.ro 4 [], .ro 1 [], I (countErr counters l)]

/-- the points lead to instructions -/
theorem pts_range {l : List Ord} {L : Nat} (h : ∀ o ∈ l, OrdOk 4 L o) : ∀ i og, afind (bld l).2.1 i = some og → 0 ≤ og ∧ og ≤ L := by
  revert h
  refine snocInd (P := fun l => (∀ o ∈ l, OrdOk 4 L o) → ∀ i og, afind (bld l).2.1 i = some og → 0 ≤ og ∧ og ≤ L) (by intro _ i og h; simp [bld_nil, afind] at h) (fun l o ih h i og hf => ?_) l
  have ho := h o (by simp)
  have ih' := ih (fun o' ho' => h o' (by simp [ho']))
  rw [bld_snoc] at hf
  simp only [pts] at hf
  split at hf
  · rw [afind_aset] at hf
    split at hf
    · simp at hf; subst hf; exact ho.next
    · exact ih' i og hf
  · rename_i hk
    rw [afind_aset] at hf
    split at hf
    · simp at hf; subst hf
      exact ho.zero (by rcases ho.kind with h | h <;> omega)
    · rw [afind_aset] at hf
      split at hf
      · simp at hf; subst hf; exact ho.next
      · exact ih' i og hf

set_option maxHeartbeats 2000000 in
theorem build_spec (counters : Int) (l : List Ord) (hl : (l.length : Int) < 2 ^ 63) : CallsA Tryd.prog 4 [I counters, .ro 4 (l.map encO)] (buildAns counters l) [] := by
  refine fn_of0 comp4 (by simp) ?_
  unfold code4
  have hll : ((l.map encO).length : Int) = l.length := by simp
  simp (maxSteps := 1000000) only [encO, EA, EB, EC, ED, EE, EF, EG, EH, XA, XB, XC, XD, XE, XF, XG, XH, XI, XJ, XK, XL, XM, reduceIte, ↓reduceIte, Nat.reduceAdd, Nat.reduceLeDiff, Nat.reduceEqDiff, Nat.reduceLT, Nat.reduceSub, Nat.reduceBEq, forall_const, reduceCtorEq, implies_true, exists_eq_left', exists_eq_left, if_true, if_false, undef]
  refine callF (CallsA.args (check_spec counters l hl) (by simp [encO, EA, EB, EC, ED, EE, EF, EG, EH, XA, XB, XC, XD, XE, XF, XG, XH, XI, XJ, XK, XL, XM, reduceIte, ↓reduceIte, Nat.reduceAdd, Nat.reduceLeDiff, Nat.reduceEqDiff, Nat.reduceLT, Nat.reduceSub, Nat.reduceBEq, forall_const, reduceCtorEq, implies_true, exists_eq_left', exists_eq_left, if_true, if_false, undef])) rfl (by simp [flat, encO, EA, EB, EC, ED, EE, EF, EG, EH, XA, XB, XC, XD, XE, XF, XG, XH, XI, XJ, XK, XL, XM, reduceIte, ↓reduceIte, Nat.reduceAdd, Nat.reduceLeDiff, Nat.reduceEqDiff, Nat.reduceLT, Nat.reduceSub, Nat.reduceBEq, forall_const, reduceCtorEq, implies_true, exists_eq_left', exists_eq_left, if_true, if_false, undef]) ?_
  by_cases h0 : countErr counters l = 0
  · have e1 : ((0 : Int) != 0) = false := by decide
    obtain ⟨hcn, hln, hord⟩ := countErr_ok h0
    have w1 : IntKind.i64.wrap ((l.length : Int) + 1) = (l.length : Int) + 1 := by rw [wrap_id] <;> omega
    simp (maxSteps := 1000000) only [h0, e1, hll, w1, encO, EA, EB, EC, ED, EE, EF, EG, EH, XA, XB, XC, XD, XE, XF, XG, XH, XI, XJ, XK, XL, XM, reduceIte, ↓reduceIte, Nat.reduceAdd, Nat.reduceLeDiff, Nat.reduceEqDiff, Nat.reduceLT, Nat.reduceSub, Nat.reduceBEq, forall_const, reduceCtorEq, implies_true, exists_eq_left', exists_eq_left, if_true, if_false, undef]
    refine ⟨by omega, by omega, by omega, ?_⟩
    simp (maxSteps := 1000000) only [encO, EA, EB, EC, ED, EE, EF, EG, EH, XA, XB, XC, XD, XE, XF, XG, XH, XI, XJ, XK, XL, XM, reduceIte, ↓reduceIte, Nat.reduceAdd, Nat.reduceLeDiff, Nat.reduceEqDiff, Nat.reduceLT, Nat.reduceSub, Nat.reduceBEq, forall_const, reduceCtorEq, implies_true, exists_eq_left', exists_eq_left, if_true, if_false, undef]
    refine loopR Nat [26, 9] (fun k => [I k, .arr 22 0 k])
      (fun k => [(11, some (.box [.arr 21 0 (bld (l.take k)).1.length, .mp 9])), (21, some (.arr 4 ((bld (l.take k)).1.map encO))), (22, some (.arr 1 (((bld (l.take k)).2.2.map Int.ofNat).map I))), (9, some (.map (encE (bld (l.take k)).2.1))), (16, none)])
      2 (fun k => k ≤ l.length) (fun k => l.length - k) (by decide) 0 [none, some 16] rfl (by simp) (by simp [Back, BackF, fzT, fzM, fzU, fz, fzL, fzO, kin, SubT, Sub, SubL, SubM, SubO, keepM, srcOk, look, lookM, ev, evs, putT, argT, encO, EA, EB, EC, ED, EE, EF, EG, EH, XA, XB, XC, XD, XE, XF, XG, XH, XI, XJ, XK, XL, XM, reduceIte, ↓reduceIte, Nat.reduceAdd, Nat.reduceLeDiff, Nat.reduceEqDiff, Nat.reduceLT, Nat.reduceSub, Nat.reduceBEq, forall_const, reduceCtorEq, implies_true, exists_eq_left', exists_eq_left, if_true, if_false, undef, bld_nil, encE]) (fun k hk => ?_)
    have hsz := bld_size (l.take k)
    rw [List.length_take, Nat.min_eq_left hk] at hsz
    by_cases h : k < l.length
    · have e2 : decide ((k : Int) < (l.length : Int)) = true := by simp [h]
      have w2 : IntKind.i64.wrap ((k : Int) + 1) = ((k + 1 : Nat) : Int) := by rw [wrap_id] <;> omega
      have htk : l.take (k + 1) = l.take k ++ [l[k]] := by rw [List.take_add_one]; simp [h]
      have hok := hord l[k] (List.getElem_mem h)
      have hbs := bld_snoc (l.take k) l[k]
      rw [← htk] at hbs
      simp (maxSteps := 1000000) only [e2, hll, encO, EA, EB, EC, ED, EE, EF, EG, EH, XA, XB, XC, XD, XE, XF, XG, XH, XI, XJ, XK, XL, XM, reduceIte, ↓reduceIte, Nat.reduceAdd, Nat.reduceLeDiff, Nat.reduceEqDiff, Nat.reduceLT, Nat.reduceSub, Nat.reduceBEq, forall_const, reduceCtorEq, implies_true, exists_eq_left', exists_eq_left, if_true, if_false, undef]
      refine ⟨by omega, pickM h ?_⟩
      generalize hC : bld (l.take k) = C at *
      simp (maxSteps := 1000000) only [encO, encO, EA, EB, EC, ED, EE, EF, EG, EH, XA, XB, XC, XD, XE, XF, XG, XH, XI, XJ, XK, XL, XM, reduceIte, ↓reduceIte, Nat.reduceAdd, Nat.reduceLeDiff, Nat.reduceEqDiff, Nat.reduceLT, Nat.reduceSub, Nat.reduceBEq, forall_const, reduceCtorEq, implies_true, exists_eq_left', exists_eq_left, if_true, if_false, undef]
      have hcc := hok.counter
      refine ⟨by simp [hsz.2], by omega, ?_⟩
      refine callM [some 11, some 21, some 9] (compile_spec l[k] C.1 C.2.1 (by omega) hok.kind (by omega)) (by simp [ cmpM, cmpR,encO, EA, EB, EC, ED, EE, EF, EG, EH, XA, XB, XC, XD, XE, XF, XG, XH, XI, XJ, XK, XL, XM, reduceIte, ↓reduceIte, Nat.reduceAdd, Nat.reduceLeDiff, Nat.reduceEqDiff, Nat.reduceLT, Nat.reduceSub, Nat.reduceBEq, forall_const, reduceCtorEq, implies_true, exists_eq_left', exists_eq_left, if_true, if_false, undef]) (by simp [encO, EA, EB, EC, ED, EE, EF, EG, EH, XA, XB, XC, XD, XE, XF, XG, XH, XI, XJ, XK, XL, XM, reduceIte, ↓reduceIte, Nat.reduceAdd, Nat.reduceLeDiff, Nat.reduceEqDiff, Nat.reduceLT, Nat.reduceSub, Nat.reduceBEq, forall_const, reduceCtorEq, implies_true, exists_eq_left', exists_eq_left, if_true, if_false, undef]) (by simp [ cmpM, cmpR,encO, EA, EB, EC, ED, EE, EF, EG, EH, XA, XB, XC, XD, XE, XF, XG, XH, XI, XJ, XK, XL, XM, reduceIte, ↓reduceIte, Nat.reduceAdd, Nat.reduceLeDiff, Nat.reduceEqDiff, Nat.reduceLT, Nat.reduceSub, Nat.reduceBEq, forall_const, reduceCtorEq, implies_true, exists_eq_left', exists_eq_left, if_true, if_false, undef]) ?_
      simp (maxSteps := 1000000) only [cmpR, w2, encO, EA, EB, EC, ED, EE, EF, EG, EH, XA, XB, XC, XD, XE, XF, XG, XH, XI, XJ, XK, XL, XM, reduceIte, ↓reduceIte, Nat.reduceAdd, Nat.reduceLeDiff, Nat.reduceEqDiff, Nat.reduceLT, Nat.reduceSub, Nat.reduceBEq, forall_const, reduceCtorEq, implies_true, exists_eq_left', exists_eq_left, if_true, if_false, undef]
      exact ⟨k + 1, [some 39, some 33], rfl, by omega, by omega, by rw [hbs]; simp [w2, Back, BackF, fzT, fzM, fzU, fz, fzL, fzO, kin, SubT, Sub, SubL, SubM, SubO, keepM, srcOk, look, lookM, ev, evs, putT, argT, encO, EA, EB, EC, ED, EE, EF, EG, EH, XA, XB, XC, XD, XE, XF, XG, XH, XI, XJ, XK, XL, XM, reduceIte, ↓reduceIte, Nat.reduceAdd, Nat.reduceLeDiff, Nat.reduceEqDiff, Nat.reduceLT, Nat.reduceSub, Nat.reduceBEq, forall_const, reduceCtorEq, implies_true, exists_eq_left', exists_eq_left, if_true, if_false, undef]⟩
    · have e2 : decide ((k : Int) < (l.length : Int)) = false := by simp [h]
      have hkl : k = l.length := by omega
      subst hkl
      rw [List.take_length] at hsz
      have hst : ((bld l).2.2.map Int.ofNat).map I ++ [I ((bld l).1.length : Nat)] = (sts l).map I := by simp [sts]
      have hsl : (sts l).length = l.length + 1 := by simp [sts, hsz.2]
      have hpr := pts_range (l := l) (L := l.length) (fun o ho => by
        have q := hord o ho
        have := q.counter
        exact ⟨q.kind, by omega, q.next, q.zero⟩)
      simp (maxSteps := 1000000) only [e2, hll, List.take_length, encO, EA, EB, EC, ED, EE, EF, EG, EH, XA, XB, XC, XD, XE, XF, XG, XH, XI, XJ, XK, XL, XM, reduceIte, ↓reduceIte, Nat.reduceAdd, Nat.reduceLeDiff, Nat.reduceEqDiff, Nat.reduceLT, Nat.reduceSub, Nat.reduceBEq, forall_const, reduceCtorEq, implies_true, exists_eq_left', exists_eq_left, if_true, if_false, undef]
      refine ⟨by simp [hsz.2], by omega, ?_⟩
      rw [hst, ← hsl]
      refine callM [some 11, some 21, some 9, some 29] (connect_spec (bld l).1 (bld l).2.1 (sts l) (by omega) (fun i og hf => by have := hpr i og hf; omega)) (by simp [encO, EA, EB, EC, ED, EE, EF, EG, EH, XA, XB, XC, XD, XE, XF, XG, XH, XI, XJ, XK, XL, XM, reduceIte, ↓reduceIte, Nat.reduceAdd, Nat.reduceLeDiff, Nat.reduceEqDiff, Nat.reduceLT, Nat.reduceSub, Nat.reduceBEq, forall_const, reduceCtorEq, implies_true, exists_eq_left', exists_eq_left, if_true, if_false, undef]) (by simp [encO, EA, EB, EC, ED, EE, EF, EG, EH, XA, XB, XC, XD, XE, XF, XG, XH, XI, XJ, XK, XL, XM, reduceIte, ↓reduceIte, Nat.reduceAdd, Nat.reduceLeDiff, Nat.reduceEqDiff, Nat.reduceLT, Nat.reduceSub, Nat.reduceBEq, forall_const, reduceCtorEq, implies_true, exists_eq_left', exists_eq_left, if_true, if_false, undef]) (by simp [encO, EA, EB, EC, ED, EE, EF, EG, EH, XA, XB, XC, XD, XE, XF, XG, XH, XI, XJ, XK, XL, XM, reduceIte, ↓reduceIte, Nat.reduceAdd, Nat.reduceLeDiff, Nat.reduceEqDiff, Nat.reduceLT, Nat.reduceSub, Nat.reduceBEq, forall_const, reduceCtorEq, implies_true, exists_eq_left', exists_eq_left, if_true, if_false, undef]) ?_
      simp (maxSteps := 1000000) only [buildAns, h0, if_true, encO, EA, EB, EC, ED, EE, EF, EG, EH, XA, XB, XC, XD, XE, XF, XG, XH, XI, XJ, XK, XL, XM, reduceIte, ↓reduceIte, Nat.reduceAdd, Nat.reduceLeDiff, Nat.reduceEqDiff, Nat.reduceLT, Nat.reduceSub, Nat.reduceBEq, forall_const, reduceCtorEq, implies_true, exists_eq_left', exists_eq_left, if_true, if_false, undef]
      exact ⟨by rw [List.take_of_length_le (by simp [fixK_length])]; rfl, List.take_of_length_le (by simp)⟩
  · have e1 : (countErr counters l != 0) = true := by simp [h0]
    simp (maxSteps := 1000000) only [e1, buildAns, h0, if_false, encO, EA, EB, EC, ED, EE, EF, EG, EH, XA, XB, XC, XD, XE, XF, XG, XH, XI, XJ, XK, XL, XM, reduceIte, ↓reduceIte, Nat.reduceAdd, Nat.reduceLeDiff, Nat.reduceEqDiff, Nat.reduceLT, Nat.reduceSub, Nat.reduceBEq, forall_const, reduceCtorEq, implies_true, exists_eq_left', exists_eq_left, if_true, if_false, undef]

end Go.Av
