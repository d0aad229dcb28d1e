/- For any rule, any ring and any place: turned round it becomes what it became, turned round; and twice as long, it becomes that twice; for all arguments. -/
import Derived.Test.YtlemkfgipbfjhaaCellH
import Derived.Test.YtlemkfgipbfjhaaLend
import Derived.Test.YtlemkfgipbfjhaaRows
import Derived.ProofKit
set_option linter.unusedSimpArgs false
set_option linter.unusedVariables false
set_option maxRecDepth 100000
namespace Go.Av
open Go.Proofs

theorem stepL_getD {rule : Nat} {ring : List Bool} {k : Nat} (h : k < ring.length) : (stepL rule ring).getD k false = tru rule (ring.getD ((k + ring.length - 1) % ring.length) false) (ring.getD k false) (ring.getD ((k + 1) % ring.length) false) := by
  rw [List.getD_eq_getElem?_getD, stepL_get h]; rfl

theorem ext_getD {a b : List Bool} (h : a.length = b.length) (hh : ∀ k, k < a.length → a.getD k false = b.getD k false) : a = b := by
  refine List.ext_getElem h (fun k h1 h2 => ?_)
  have := hh k h1
  rwa [List.getD_eq_getElem?_getD, List.getD_eq_getElem?_getD, List.getElem?_eq_getElem h1, List.getElem?_eq_getElem h2] at this

theorem rot_getD (l : List Bool) {i k : Nat} (hi : i < l.length) (hk : k < l.length) : (l.drop i ++ l.take i).getD k false = l.getD ((k + i) % l.length) false := by
  rw [List.getD_eq_getElem?_getD, List.getD_eq_getElem?_getD]
  by_cases h : k < l.length - i
  · rw [List.getElem?_append_left (by simpa using h), List.getElem?_drop, Nat.mod_eq_of_lt (by omega), Nat.add_comm]
  · rw [List.getElem?_append_right (by simp; omega), List.length_drop, List.getElem?_take_of_lt (by omega), show k + i = (k - (l.length - i)) + l.length by omega, Nat.add_mod_right, Nat.mod_eq_of_lt (by omega)]
theorem dbl_getD (l : List Bool) {k : Nat} (hk : k < 2 * l.length) : (l ++ l).getD k false = l.getD (k % l.length) false := by
  rw [List.getD_eq_getElem?_getD, List.getD_eq_getElem?_getD]
  by_cases h : k < l.length
  · rw [List.getElem?_append_left h, Nat.mod_eq_of_lt h]
  · rw [List.getElem?_append_right (by omega), Nat.mod_eq_sub_mod (by omega), Nat.mod_eq_of_lt (by omega)]

theorem stepL_rot (rule : Nat) (l : List Bool) {i : Nat} (hi : i < l.length) : stepL rule (l.drop i ++ l.take i) = (stepL rule l).drop i ++ (stepL rule l).take i := by
  have hn : (l.drop i ++ l.take i).length = l.length := by simp; omega
  have hs := stepL_length rule l
  refine ext_getD (by rw [stepL_length, hn, List.length_append, List.length_drop, List.length_take, hs]; omega) (fun k hk => ?_)
  rw [stepL_length, hn] at hk
  have hpos : 0 < l.length := by omega
  rw [stepL_getD (by omega), hn, rot_getD _ hi (Nat.mod_lt _ hpos), rot_getD _ hi hk, rot_getD _ hi (Nat.mod_lt _ hpos), rot_getD _ (by omega) (by omega), hs, stepL_getD (Nat.mod_lt _ hpos)]
  have e1 : ((k + l.length - 1) % l.length + i) % l.length = ((k + i) % l.length + l.length - 1) % l.length := by
    rw [Nat.mod_add_mod, Nat.add_sub_assoc hpos, Nat.add_sub_assoc hpos, Nat.mod_add_mod]; congr 1; omega
  have e2 : ((k + 1) % l.length + i) % l.length = ((k + i) % l.length + 1) % l.length := by
    rw [Nat.mod_add_mod, Nat.mod_add_mod]; congr 1; omega
  rw [e1, e2]

theorem stepL_dbl (rule : Nat) (l : List Bool) : stepL rule (l ++ l) = stepL rule l ++ stepL rule l := by
  have hn : (l ++ l).length = 2 * l.length := by simp; omega
  have hs := stepL_length rule l
  refine ext_getD (by rw [stepL_length, hn, List.length_append, hs]; omega) (fun k hk => ?_)
  rw [stepL_length, hn] at hk
  have hpos : 0 < l.length := by omega
  rw [stepL_getD (by omega), hn, dbl_getD _ (Nat.mod_lt _ (by omega)), dbl_getD _ hk, dbl_getD _ (Nat.mod_lt _ (by omega)), dbl_getD _ (by omega), hs, stepL_getD (Nat.mod_lt _ hpos)]
  have hd : l.length ∣ 2 * l.length := ⟨2, Nat.mul_comm _ _⟩
  have e1 : (k + 2 * l.length - 1) % (2 * l.length) % l.length = (k % l.length + l.length - 1) % l.length := by
    rw [Nat.mod_mod_of_dvd _ hd, Nat.add_sub_assoc hpos, Nat.mod_add_mod, show k + 2 * l.length - 1 = k + (l.length - 1) + l.length by omega, Nat.add_mod_right]
  have e2 : (k + 1) % (2 * l.length) % l.length = (k % l.length + 1) % l.length := by
    rw [Nat.mod_mod_of_dvd _ hd, Nat.mod_add_mod]
  rw [e1, e2]

theorem stepM (rule : Nat) (hr : rule < 256) (l : List Bool) (h1 : 1 ≤ l.length) (hl : l.length ≤ 12) :
    CallsM Try.prog 11 [I rule, .arr 0 0 l.length] [.arr 1 (l.map Bo)] (.tup [.ro 1 ((stepL rule l).map Bo), I 0]) [none] :=
  CallsM.ofA (step_spec rule hr l h1 hl) (by simp [frzL, frz, pos, memOf, memFrom, lookM, List.take_of_length_le]) rfl
theorem boolsM (a b : List Bool) (ha : (a.length : Int) < 2 ^ 63) :
    CallsM Try.prog 20 [.ro 1 (a.map Bo), .arr 0 0 b.length] [.arr 1 (b.map Bo)] (Bo (decide (a = b))) [none] :=
  CallsM.ofA (bools_spec a b ha) (by simp [frzL, frz, pos, memOf, memFrom, lookM, List.take_of_length_le]) rfl

theorem boolsT (a : List Bool) (ha : (a.length : Int) < 2 ^ 63) : CallsM Try.prog 20 [.ro 1 (a.map Bo), .arr 0 0 a.length] [.arr 1 (a.map Bo)] (Bo true) [none] := by
  have h := boolsM a a ha
  rwa [decide_eq_true rfl] at h
theorem boolsTA (a : List Bool) (ha : (a.length : Int) < 2 ^ 63) : CallsA Try.prog 20 [.ro 1 (a.map Bo), .ro 1 (a.map Bo)] (Bo true) [] := by
  have h := bools_spec a a ha
  rwa [decide_eq_true rfl] at h

theorem cellShift_spec (r : Int) (ring : List Bool) (k : Nat) (hk : k < 256) (hl : (ring.length : Int) < 2 ^ 63) : CallsA Try.prog 9 [I r, .ro 1 (ring.map Bo), .v (.int .u8 k)] (Bo true) [] := by
  refine fn_of0 comp9 (by simp) ?_
  unfold code9
  have hll : ((ring.map Bo).length : Int) = ring.length := by simp
  have hln : (ring.map Bo).length = ring.length := by simp
  simp (maxSteps := 1000000) only [EA, EB, EC, ED, EE, EF, EG, EH, XA, XB, XC, XD, XE, XF, XG, XH, XI, XJ, XK, XL, XM, reduceIte, ↓reduceIte, Nat.reduceAdd, Nat.reduceLeDiff, Nat.reduceEqDiff, Nat.reduceLT, Nat.reduceSub, Nat.reduceBEq, forall_const, reduceCtorEq, implies_true, exists_eq_left', exists_eq_left, if_true, if_false, undef]
  cases hr : ruleOk r
  · refine callA (CallsA.args (step_rule r hr ring) (by simp [EA, EB, EC, ED, EE, EF, EG, EH, XA, XB, XC, XD, XE, XF, XG, XH, XI, XJ, XK, XL, XM, reduceIte, ↓reduceIte, Nat.reduceAdd, Nat.reduceLeDiff, Nat.reduceEqDiff, Nat.reduceLT, Nat.reduceSub, Nat.reduceBEq, forall_const, reduceCtorEq, implies_true, exists_eq_left', exists_eq_left, if_true, if_false, undef])) rfl ?_
    simp (maxSteps := 1000000) only [EA, EB, EC, ED, EE, EF, EG, EH, XA, XB, XC, XD, XE, XF, XG, XH, XI, XJ, XK, XL, XM, reduceIte, ↓reduceIte, Nat.reduceAdd, Nat.reduceLeDiff, Nat.reduceEqDiff, Nat.reduceLT, Nat.reduceSub, Nat.reduceBEq, forall_const, reduceCtorEq, implies_true, exists_eq_left', exists_eq_left, if_true, if_false, undef]
    refine callF (CallsA.args (within_spec 0 r 255) (by simp [EA, EB, EC, ED, EE, EF, EG, EH, XA, XB, XC, XD, XE, XF, XG, XH, XI, XJ, XK, XL, XM, reduceIte, ↓reduceIte, Nat.reduceAdd, Nat.reduceLeDiff, Nat.reduceEqDiff, Nat.reduceLT, Nat.reduceSub, Nat.reduceBEq, forall_const, reduceCtorEq, implies_true, exists_eq_left', exists_eq_left, if_true, if_false, undef])) rfl (by simp [flat, EA, EB, EC, ED, EE, EF, EG, EH, XA, XB, XC, XD, XE, XF, XG, XH, XI, XJ, XK, XL, XM, reduceIte, ↓reduceIte, Nat.reduceAdd, Nat.reduceLeDiff, Nat.reduceEqDiff, Nat.reduceLT, Nat.reduceSub, Nat.reduceBEq, forall_const, reduceCtorEq, implies_true, exists_eq_left', exists_eq_left, if_true, if_false, undef]) ?_
    simp (maxSteps := 1000000) only [ruleOk_eq, hr, hll, c40, c4n, c44, c00, c0n, c1n, c10, c11, cz0, EA, EB, EC, ED, EE, EF, EG, EH, XA, XB, XC, XD, XE, XF, XG, XH, XI, XJ, XK, XL, XM, reduceIte, ↓reduceIte, Nat.reduceAdd, Nat.reduceLeDiff, Nat.reduceEqDiff, Nat.reduceLT, Nat.reduceSub, Nat.reduceBEq, forall_const, reduceCtorEq, implies_true, exists_eq_left', exists_eq_left, if_true, if_false, undef]
  obtain ⟨rule, rfl, h256⟩ := ruleOk_nat hr
  by_cases h12 : 1 ≤ ring.length ∧ ring.length ≤ 12
  rotate_left
  · have g1 : decide (1 ≤ (ring.length : Int) ∧ (ring.length : Int) ≤ 12) = false := by rw [decide_eq_false_iff_not]; omega
    refine callA (CallsA.args (step_large _ hr ring (by omega)) (by simp [EA, EB, EC, ED, EE, EF, EG, EH, XA, XB, XC, XD, XE, XF, XG, XH, XI, XJ, XK, XL, XM, reduceIte, ↓reduceIte, Nat.reduceAdd, Nat.reduceLeDiff, Nat.reduceEqDiff, Nat.reduceLT, Nat.reduceSub, Nat.reduceBEq, forall_const, reduceCtorEq, implies_true, exists_eq_left', exists_eq_left, if_true, if_false, undef])) rfl ?_
    simp (maxSteps := 1000000) only [EA, EB, EC, ED, EE, EF, EG, EH, XA, XB, XC, XD, XE, XF, XG, XH, XI, XJ, XK, XL, XM, reduceIte, ↓reduceIte, Nat.reduceAdd, Nat.reduceLeDiff, Nat.reduceEqDiff, Nat.reduceLT, Nat.reduceSub, Nat.reduceBEq, forall_const, reduceCtorEq, implies_true, exists_eq_left', exists_eq_left, if_true, if_false, undef]
    refine callF (CallsA.args (within_spec 0 rule 255) (by simp [EA, EB, EC, ED, EE, EF, EG, EH, XA, XB, XC, XD, XE, XF, XG, XH, XI, XJ, XK, XL, XM, reduceIte, ↓reduceIte, Nat.reduceAdd, Nat.reduceLeDiff, Nat.reduceEqDiff, Nat.reduceLT, Nat.reduceSub, Nat.reduceBEq, forall_const, reduceCtorEq, implies_true, exists_eq_left', exists_eq_left, if_true, if_false, undef])) rfl (by simp [flat, EA, EB, EC, ED, EE, EF, EG, EH, XA, XB, XC, XD, XE, XF, XG, XH, XI, XJ, XK, XL, XM, reduceIte, ↓reduceIte, Nat.reduceAdd, Nat.reduceLeDiff, Nat.reduceEqDiff, Nat.reduceLT, Nat.reduceSub, Nat.reduceBEq, forall_const, reduceCtorEq, implies_true, exists_eq_left', exists_eq_left, if_true, if_false, undef]) ?_
    simp (maxSteps := 1000000) only [ruleOk_eq, hr, hll, c40, c4n, c44, c00, c0n, c1n, c10, c11, cz0, EA, EB, EC, ED, EE, EF, EG, EH, XA, XB, XC, XD, XE, XF, XG, XH, XI, XJ, XK, XL, XM, reduceIte, ↓reduceIte, Nat.reduceAdd, Nat.reduceLeDiff, Nat.reduceEqDiff, Nat.reduceLT, Nat.reduceSub, Nat.reduceBEq, forall_const, reduceCtorEq, implies_true, exists_eq_left', exists_eq_left, if_true, if_false, undef]
    refine callF (CallsA.args (within_spec 1 (ring.length : Int) 12) (by simp [EA, EB, EC, ED, EE, EF, EG, EH, XA, XB, XC, XD, XE, XF, XG, XH, XI, XJ, XK, XL, XM, reduceIte, ↓reduceIte, Nat.reduceAdd, Nat.reduceLeDiff, Nat.reduceEqDiff, Nat.reduceLT, Nat.reduceSub, Nat.reduceBEq, forall_const, reduceCtorEq, implies_true, exists_eq_left', exists_eq_left, if_true, if_false, undef])) rfl (by simp [flat, EA, EB, EC, ED, EE, EF, EG, EH, XA, XB, XC, XD, XE, XF, XG, XH, XI, XJ, XK, XL, XM, reduceIte, ↓reduceIte, Nat.reduceAdd, Nat.reduceLeDiff, Nat.reduceEqDiff, Nat.reduceLT, Nat.reduceSub, Nat.reduceBEq, forall_const, reduceCtorEq, implies_true, exists_eq_left', exists_eq_left, if_true, if_false, undef]) ?_
    simp (maxSteps := 1000000) only [hll, g1, c40, c4n, c44, c00, c0n, c1n, c10, c11, cz0, EA, EB, EC, ED, EE, EF, EG, EH, XA, XB, XC, XD, XE, XF, XG, XH, XI, XJ, XK, XL, XM, reduceIte, ↓reduceIte, Nat.reduceAdd, Nat.reduceLeDiff, Nat.reduceEqDiff, Nat.reduceLT, Nat.reduceSub, Nat.reduceBEq, forall_const, reduceCtorEq, implies_true, exists_eq_left', exists_eq_left, if_true, if_false, undef]
  have g1 : decide (1 ≤ (ring.length : Int) ∧ (ring.length : Int) ≤ 12) = true := by rw [decide_eq_true_iff]; omega
  have hsl := stepL_length rule ring
  have hsll : (((stepL rule ring).map Bo).length : Int) = ring.length := by simp [hsl]
  have hsln : ((stepL rule ring).map Bo).length = ring.length := by simp [hsl]
  have hnn : ((ring.length : Int) != (ring.length : Int)) = false := by simp
  have wk : IntKind.i64.wrap (k : Int) = (k : Int) := by rw [wrap_id] <;> omega
  have tk : Int.tmod (k : Int) (ring.length : Int) = ((k % ring.length : Nat) : Int) := by rw [← Int.ofNat_tmod]
  have hi : k % ring.length < ring.length := Nat.mod_lt _ (by omega)
  refine callA (CallsA.args (step_spec rule h256 ring h12.1 h12.2) (by simp [EA, EB, EC, ED, EE, EF, EG, EH, XA, XB, XC, XD, XE, XF, XG, XH, XI, XJ, XK, XL, XM, reduceIte, ↓reduceIte, Nat.reduceAdd, Nat.reduceLeDiff, Nat.reduceEqDiff, Nat.reduceLT, Nat.reduceSub, Nat.reduceBEq, forall_const, reduceCtorEq, implies_true, exists_eq_left', exists_eq_left, if_true, if_false, undef])) rfl ?_
  simp (maxSteps := 1000000) only [EA, EB, EC, ED, EE, EF, EG, EH, XA, XB, XC, XD, XE, XF, XG, XH, XI, XJ, XK, XL, XM, reduceIte, ↓reduceIte, Nat.reduceAdd, Nat.reduceLeDiff, Nat.reduceEqDiff, Nat.reduceLT, Nat.reduceSub, Nat.reduceBEq, forall_const, reduceCtorEq, implies_true, exists_eq_left', exists_eq_left, if_true, if_false, undef]
  refine callF (CallsA.args (within_spec 0 rule 255) (by simp [EA, EB, EC, ED, EE, EF, EG, EH, XA, XB, XC, XD, XE, XF, XG, XH, XI, XJ, XK, XL, XM, reduceIte, ↓reduceIte, Nat.reduceAdd, Nat.reduceLeDiff, Nat.reduceEqDiff, Nat.reduceLT, Nat.reduceSub, Nat.reduceBEq, forall_const, reduceCtorEq, implies_true, exists_eq_left', exists_eq_left, if_true, if_false, undef])) rfl (by simp [flat, EA, EB, EC, ED, EE, EF, EG, EH, XA, XB, XC, XD, XE, XF, XG, XH, XI, XJ, XK, XL, XM, reduceIte, ↓reduceIte, Nat.reduceAdd, Nat.reduceLeDiff, Nat.reduceEqDiff, Nat.reduceLT, Nat.reduceSub, Nat.reduceBEq, forall_const, reduceCtorEq, implies_true, exists_eq_left', exists_eq_left, if_true, if_false, undef]) ?_
  simp (maxSteps := 1000000) only [ruleOk_eq, hr, hll, c40, c4n, c44, c00, c0n, c1n, c10, c11, cz0, EA, EB, EC, ED, EE, EF, EG, EH, XA, XB, XC, XD, XE, XF, XG, XH, XI, XJ, XK, XL, XM, reduceIte, ↓reduceIte, Nat.reduceAdd, Nat.reduceLeDiff, Nat.reduceEqDiff, Nat.reduceLT, Nat.reduceSub, Nat.reduceBEq, forall_const, reduceCtorEq, implies_true, exists_eq_left', exists_eq_left, if_true, if_false, undef]
  refine callF (CallsA.args (within_spec 1 (ring.length : Int) 12) (by simp [EA, EB, EC, ED, EE, EF, EG, EH, XA, XB, XC, XD, XE, XF, XG, XH, XI, XJ, XK, XL, XM, reduceIte, ↓reduceIte, Nat.reduceAdd, Nat.reduceLeDiff, Nat.reduceEqDiff, Nat.reduceLT, Nat.reduceSub, Nat.reduceBEq, forall_const, reduceCtorEq, implies_true, exists_eq_left', exists_eq_left, if_true, if_false, undef])) rfl (by simp [flat, EA, EB, EC, ED, EE, EF, EG, EH, XA, XB, XC, XD, XE, XF, XG, XH, XI, XJ, XK, XL, XM, reduceIte, ↓reduceIte, Nat.reduceAdd, Nat.reduceLeDiff, Nat.reduceEqDiff, Nat.reduceLT, Nat.reduceSub, Nat.reduceBEq, forall_const, reduceCtorEq, implies_true, exists_eq_left', exists_eq_left, if_true, if_false, undef]) ?_
  have hrot := stepL_rot rule ring hi
  generalize hgi : k % ring.length = i at *
  have d1 : List.drop (i : Int).toNat (List.take (ring.length : Int).toNat (ring.map Bo)) = (ring.drop i).map Bo := by
    rw [Int.toNat_natCast, Int.toNat_natCast, List.take_of_length_le (by simp), List.map_drop]
  have d2 : List.drop ((0 : Nat) : Int).toNat (List.take (i : Int).toNat (ring.map Bo)) = (ring.take i).map Bo := by
    rw [Int.toNat_natCast, Int.toNat_natCast, List.drop_zero, List.map_take]
  simp (maxSteps := 1000000) only [hll, g1, hsll, hnn, wk, tk, d1, d2, c40, c4n, c44, c00, c0n, c1n, c10, c11, cz0, EA, EB, EC, ED, EE, EF, EG, EH, XA, XB, XC, XD, XE, XF, XG, XH, XI, XJ, XK, XL, XM, reduceIte, ↓reduceIte, Nat.reduceAdd, Nat.reduceLeDiff, Nat.reduceEqDiff, Nat.reduceLT, Nat.reduceSub, Nat.reduceBEq, forall_const, reduceCtorEq, implies_true, exists_eq_left', exists_eq_left, if_true, if_false, undef]
  refine ⟨by omega, by omega, by omega, by omega, by simp; omega, by omega, by omega, by omega, by simp; omega, ?_⟩
  have hrl : (ring.drop i ++ ring.take i).length = ring.length := by simp; omega
  have d3 : (ring.drop i).map Bo ++ (ring.take i).map Bo = (ring.drop i ++ ring.take i).map Bo := by simp
  have d4 : ((ring.drop i).map Bo).length + ((ring.take i).map Bo).length = (ring.drop i ++ ring.take i).length := by simp
  simp only [d3, d4]
  have hml := stepL_length rule (ring.drop i ++ ring.take i)
  generalize ring.drop i ++ ring.take i = R at *
  refine callX [34] [] (stepM rule h256 R (by omega) (by omega)) (by simp [EA, EB, EC, ED, EE, EF, EG, EH, XA, XB, XC, XD, XE, XF, XG, XH, XI, XJ, XK, XL, XM, reduceIte, ↓reduceIte, Nat.reduceAdd, Nat.reduceLeDiff, Nat.reduceEqDiff, Nat.reduceLT, Nat.reduceSub, Nat.reduceBEq, forall_const, reduceCtorEq, implies_true, exists_eq_left', exists_eq_left, if_true, if_false, undef]) (by simp [EA, EB, EC, ED, EE, EF, EG, EH, XA, XB, XC, XD, XE, XF, XG, XH, XI, XJ, XK, XL, XM, reduceIte, ↓reduceIte, Nat.reduceAdd, Nat.reduceLeDiff, Nat.reduceEqDiff, Nat.reduceLT, Nat.reduceSub, Nat.reduceBEq, forall_const, reduceCtorEq, implies_true, exists_eq_left', exists_eq_left, if_true, if_false, undef]) (by simp) (by simp [EA, EB, EC, ED, EE, EF, EG, EH, XA, XB, XC, XD, XE, XF, XG, XH, XI, XJ, XK, XL, XM, reduceIte, ↓reduceIte, Nat.reduceAdd, Nat.reduceLeDiff, Nat.reduceEqDiff, Nat.reduceLT, Nat.reduceSub, Nat.reduceBEq, forall_const, reduceCtorEq, implies_true, exists_eq_left', exists_eq_left, if_true, if_false, undef]) (by simp [EA, EB, EC, ED, EE, EF, EG, EH, XA, XB, XC, XD, XE, XF, XG, XH, XI, XJ, XK, XL, XM, reduceIte, ↓reduceIte, Nat.reduceAdd, Nat.reduceLeDiff, Nat.reduceEqDiff, Nat.reduceLT, Nat.reduceSub, Nat.reduceBEq, forall_const, reduceCtorEq, implies_true, exists_eq_left', exists_eq_left, if_true, if_false, undef]) (by simp [EA, EB, EC, ED, EE, EF, EG, EH, XA, XB, XC, XD, XE, XF, XG, XH, XI, XJ, XK, XL, XM, reduceIte, ↓reduceIte, Nat.reduceAdd, Nat.reduceLeDiff, Nat.reduceEqDiff, Nat.reduceLT, Nat.reduceSub, Nat.reduceBEq, forall_const, reduceCtorEq, implies_true, exists_eq_left', exists_eq_left, if_true, if_false, undef]) (by simp [EA, EB, EC, ED, EE, EF, EG, EH, XA, XB, XC, XD, XE, XF, XG, XH, XI, XJ, XK, XL, XM, reduceIte, ↓reduceIte, Nat.reduceAdd, Nat.reduceLeDiff, Nat.reduceEqDiff, Nat.reduceLT, Nat.reduceSub, Nat.reduceBEq, forall_const, reduceCtorEq, implies_true, exists_eq_left', exists_eq_left, if_true, if_false, undef]) (by simp) ?_
  have hmll : (((stepL rule R).map Bo).length : Int) = ring.length := by simp [hml, hrl]
  have e1 : List.drop (i : Int).toNat (List.take (ring.length : Int).toNat ((stepL rule ring).map Bo)) = ((stepL rule ring).drop i).map Bo := by
    rw [Int.toNat_natCast, Int.toNat_natCast, List.take_of_length_le (by simp [hsl]), List.map_drop]
  have e2 : List.drop ((0 : Nat) : Int).toNat (List.take (i : Int).toNat ((stepL rule ring).map Bo)) = ((stepL rule ring).take i).map Bo := by
    rw [Int.toNat_natCast, Int.toNat_natCast, List.drop_zero, List.map_take]
  simp (maxSteps := 1000000) only [Option.toList_some, Option.toList_none, hll, g1, hsll, hmll, hnn, wk, tk, d1, d2, e1, e2, c40, c4n, c44, c00, c0n, c1n, c10, c11, cz0, EA, EB, EC, ED, EE, EF, EG, EH, XA, XB, XC, XD, XE, XF, XG, XH, XI, XJ, XK, XL, XM, reduceIte, ↓reduceIte, Nat.reduceAdd, Nat.reduceLeDiff, Nat.reduceEqDiff, Nat.reduceLT, Nat.reduceSub, Nat.reduceBEq, forall_const, reduceCtorEq, implies_true, exists_eq_left', exists_eq_left, if_true, if_false, undef]
  refine ⟨by decide, by omega, by omega, by omega, by simp [hsl]; omega, by omega, by omega, by omega, by simp [hsl]; omega, ?_⟩
  have e3 : ((stepL rule ring).drop i).map Bo ++ ((stepL rule ring).take i).map Bo = (stepL rule R).map Bo := by rw [hrot]; simp
  have e4 : (((stepL rule ring).drop i).map Bo).length + (((stepL rule ring).take i).map Bo).length = (stepL rule R).length := by rw [hrot]; simp
  simp only [e3, e4]
  refine callX [68] [] (boolsT (stepL rule R) (by omega)) (by simp [EA, EB, EC, ED, EE, EF, EG, EH, XA, XB, XC, XD, XE, XF, XG, XH, XI, XJ, XK, XL, XM, reduceIte, ↓reduceIte, Nat.reduceAdd, Nat.reduceLeDiff, Nat.reduceEqDiff, Nat.reduceLT, Nat.reduceSub, Nat.reduceBEq, forall_const, reduceCtorEq, implies_true, exists_eq_left', exists_eq_left, if_true, if_false, undef]) (by simp [EA, EB, EC, ED, EE, EF, EG, EH, XA, XB, XC, XD, XE, XF, XG, XH, XI, XJ, XK, XL, XM, reduceIte, ↓reduceIte, Nat.reduceAdd, Nat.reduceLeDiff, Nat.reduceEqDiff, Nat.reduceLT, Nat.reduceSub, Nat.reduceBEq, forall_const, reduceCtorEq, implies_true, exists_eq_left', exists_eq_left, if_true, if_false, undef]) (by simp) (by simp [EA, EB, EC, ED, EE, EF, EG, EH, XA, XB, XC, XD, XE, XF, XG, XH, XI, XJ, XK, XL, XM, reduceIte, ↓reduceIte, Nat.reduceAdd, Nat.reduceLeDiff, Nat.reduceEqDiff, Nat.reduceLT, Nat.reduceSub, Nat.reduceBEq, forall_const, reduceCtorEq, implies_true, exists_eq_left', exists_eq_left, if_true, if_false, undef]) (by simp [EA, EB, EC, ED, EE, EF, EG, EH, XA, XB, XC, XD, XE, XF, XG, XH, XI, XJ, XK, XL, XM, reduceIte, ↓reduceIte, Nat.reduceAdd, Nat.reduceLeDiff, Nat.reduceEqDiff, Nat.reduceLT, Nat.reduceSub, Nat.reduceBEq, forall_const, reduceCtorEq, implies_true, exists_eq_left', exists_eq_left, if_true, if_false, undef]) (by simp [EA, EB, EC, ED, EE, EF, EG, EH, XA, XB, XC, XD, XE, XF, XG, XH, XI, XJ, XK, XL, XM, reduceIte, ↓reduceIte, Nat.reduceAdd, Nat.reduceLeDiff, Nat.reduceEqDiff, Nat.reduceLT, Nat.reduceSub, Nat.reduceBEq, forall_const, reduceCtorEq, implies_true, exists_eq_left', exists_eq_left, if_true, if_false, undef]) (by simp [EA, EB, EC, ED, EE, EF, EG, EH, XA, XB, XC, XD, XE, XF, XG, XH, XI, XJ, XK, XL, XM, reduceIte, ↓reduceIte, Nat.reduceAdd, Nat.reduceLeDiff, Nat.reduceEqDiff, Nat.reduceLT, Nat.reduceSub, Nat.reduceBEq, forall_const, reduceCtorEq, implies_true, exists_eq_left', exists_eq_left, if_true, if_false, undef]) (by simp) ?_
  have w2 : IntKind.i64.wrap (2 * (ring.length : Int)) = ((2 * ring.length : Nat) : Int) := by rw [wrap_id] <;> omega
  by_cases h6 : 12 < 2 * ring.length
  · have g6 : decide (((2 * ring.length : Nat) : Int) > 12) = true := by simp; omega
    simp (maxSteps := 1000000) only [Option.toList_some, Option.toList_none, w2, g6, hll, c40, c4n, c44, c00, c0n, c1n, c10, c11, cz0, EA, EB, EC, ED, EE, EF, EG, EH, XA, XB, XC, XD, XE, XF, XG, XH, XI, XJ, XK, XL, XM, reduceIte, ↓reduceIte, Nat.reduceAdd, Nat.reduceLeDiff, Nat.reduceEqDiff, Nat.reduceLT, Nat.reduceSub, Nat.reduceBEq, forall_const, reduceCtorEq, implies_true, exists_eq_left', exists_eq_left, if_true, if_false, undef]
    decide
  have g6 : decide (((2 * ring.length : Nat) : Int) > 12) = false := by simp; omega
  have hdbl := stepL_dbl rule ring
  have hdl : (ring ++ ring).length = ring.length + ring.length := by simp
  have hdsl := stepL_length rule (ring ++ ring)
  have f1 : List.take (ring.length + ring.length) (ring.map Bo ++ ring.map Bo) = (ring ++ ring).map Bo := by rw [List.take_of_length_le (by simp)]; simp
  have f2 : List.take (ring.length + ring.length) ((stepL rule ring).map Bo ++ (stepL rule ring).map Bo) = (stepL rule (ring ++ ring)).map Bo := by rw [List.take_of_length_le (by simp [hsl]), hdbl]; simp
  simp (maxSteps := 1000000) only [Option.toList_some, Option.toList_none, w2, g6, hll, hln, c40, c4n, c44, c00, c0n, c1n, c10, c11, cz0, EA, EB, EC, ED, EE, EF, EG, EH, XA, XB, XC, XD, XE, XF, XG, XH, XI, XJ, XK, XL, XM, reduceIte, ↓reduceIte, Nat.reduceAdd, Nat.reduceLeDiff, Nat.reduceEqDiff, Nat.reduceLT, Nat.reduceSub, Nat.reduceBEq, forall_const, reduceCtorEq, implies_true, exists_eq_left', exists_eq_left, if_true, if_false, undef]
  refine ⟨by decide, by omega, by omega, ?_⟩
  refine callA (CallsA.args (step_spec rule h256 (ring ++ ring) (by omega) (by omega) ) (by simp [ hln, f1,EA, EB, EC, ED, EE, EF, EG, EH, XA, XB, XC, XD, XE, XF, XG, XH, XI, XJ, XK, XL, XM, reduceIte, ↓reduceIte, Nat.reduceAdd, Nat.reduceLeDiff, Nat.reduceEqDiff, Nat.reduceLT, Nat.reduceSub, Nat.reduceBEq, forall_const, reduceCtorEq, implies_true, exists_eq_left', exists_eq_left, if_true, if_false, undef])) rfl ?_
  simp (maxSteps := 1000000) only [hsln, hll, c40, c4n, c44, c00, c0n, c1n, c10, c11, cz0, EA, EB, EC, ED, EE, EF, EG, EH, XA, XB, XC, XD, XE, XF, XG, XH, XI, XJ, XK, XL, XM, reduceIte, ↓reduceIte, Nat.reduceAdd, Nat.reduceLeDiff, Nat.reduceEqDiff, Nat.reduceLT, Nat.reduceSub, Nat.reduceBEq, forall_const, reduceCtorEq, implies_true, exists_eq_left', exists_eq_left, if_true, if_false, undef]
  refine ⟨by omega, by omega, ?_⟩
  refine callA (CallsA.args (boolsTA (stepL rule (ring ++ ring)) (by omega) ) (by simp [ hsln, f2,EA, EB, EC, ED, EE, EF, EG, EH, XA, XB, XC, XD, XE, XF, XG, XH, XI, XJ, XK, XL, XM, reduceIte, ↓reduceIte, Nat.reduceAdd, Nat.reduceLeDiff, Nat.reduceEqDiff, Nat.reduceLT, Nat.reduceSub, Nat.reduceBEq, forall_const, reduceCtorEq, implies_true, exists_eq_left', exists_eq_left, if_true, if_false, undef])) rfl ?_
  simp (maxSteps := 1000000) only [EA, EB, EC, ED, EE, EF, EG, EH, XA, XB, XC, XD, XE, XF, XG, XH, XI, XJ, XK, XL, XM, reduceIte, ↓reduceIte, Nat.reduceAdd, Nat.reduceLeDiff, Nat.reduceEqDiff, Nat.reduceLT, Nat.reduceSub, Nat.reduceBEq, forall_const, reduceCtorEq, implies_true, exists_eq_left', exists_eq_left, if_true, if_false, undef]

def sh_CellShift : List Sh := [.int .i64, .slice 1 .bool, .int .u8]
theorem law_CellShift (xs : List AV) (h : HasAll sh_CellShift xs) : CallsA Try.prog 9 xs (.v (.bool true)) [] := by
  obtain ⟨x, r, rfl, hx, y, r, rfl, hy, z, r, rfl, hz, rfl⟩ := h
  obtain ⟨c, rfl, _⟩ := hasInt hx
  obtain ⟨l, rfl, hl⟩ := hasBools hy
  obtain ⟨k, rfl, hk⟩ := hasInt hz
  have := u8_range hk
  obtain ⟨k, rfl⟩ : ∃ n : Nat, k = n := ⟨k.toNat, by omega⟩
  exact cellShift_spec c l k (by omega) hl

end Go.Av
namespace Go.Proofs.Ytlemkfgipbfjhaa
open Go.ChangeShapes Go.WideShapes Go.ChangeAt Go.RowKit
open Go.Av (open_all shut_all OldS HasAll Sh CallsA shAll)

theorem own : ownKnob Try.prog.godebug = none := by kernel_rfl
theorem laidOut : laidOutB Try.prog = true := by kernel_rfl
theorem shs_eq : shAll Try.prog 12 Try.f9.params.toList = some Go.Av.sh_CellShift := by kernel_rfl
theorem readable : (Try.f9.params.toList.all fun t => Try.prog.readableRec t && decide (t < Try.prog.types.size)) = true := by kernel_rfl

theorem lifted (os : Os) (started : os.Started) (H : Type) (enc : TypeId × Value → H) :
    ReturnsInHanded {} Try.checked os 9 .any (Rows.cellShiftSpec.pre6 enc Try.prog Try.f9 Rows.cellShiftRow.domain false) (Rows.cellShiftSpec.post enc Try.prog Try.f9 false true false false) := by
  refine returnsInHanded_of_change (C := Try.checked) own started (by kernel_rfl) Try.func9
    (ChangeSpec.witness6 (enc := enc) (C := Try.checked) false ⟨#[], #[.int .i64 0, .slice none 0 0, .int .u8 0], []⟩ 8 (by kernel_rfl) (by kernel_rfl) (by kernel_rfl) (by kernel_rfl)) ?_
  intro W base args ds gs before hval0 hW hcnd _
  have hval : ∀ (j : Nat) t v, Try.f9.params[j]? = some t → args[j]? = some v → Value.okWide Try.prog W .any base t v := hval0
  have hW' := hW
  obtain ⟨p, q, hA0, hV, rfl, hfz, hnd⟩ := hW
  have hA : DataW.TrodAll enc Try.prog W 0 (fun _ => true) true Try.f9.params.toList args.toList ds p := hA0
  obtain ⟨xs, hxs, hlen, hR⟩ := open_all (g := 12) _ _ _ _ Go.Av.sh_CellShift hA (fun j t v ht hv => hval j t v (by simpa using ht) (by simpa using hv)) shs_eq
  obtain ⟨rfl, rfl⟩ := trodVars_none hV
  have hB := hA
  rw [Try.params9] at hB
  obtain ⟨v0, vs0, d0, ds0, p0, q0, hargs0, rfl, rfl, h0, r0⟩ := trodAll_cons hB
  obtain ⟨v1, vs1, d1, ds1, p1, q1, hargs1, rfl, rfl, h1, r1⟩ := trodAll_cons r0
  obtain ⟨v2, vs2, d2, ds2, p2, q2, hargs2, rfl, rfl, h2, r2⟩ := trodAll_cons r1
  obtain ⟨rfl, rfl, rfl⟩ := trodAll_nil r2
  refine ((Go.Av.law_CellShift xs hxs).2 W (OldS W) args ⟨fun _ h => h, fun g cs hm => by simp [Go.Av.globs] at hm⟩ (by simpa using hlen) (fun i x y h1 h2 => hR i x y h1 (by simpa using h2))).mono ?_
  rintro e W' ⟨v, S', κ', rfl, hv, _, _, _, bel⟩
  rw [hv.v_inv]
  exact ⟨_, rfl, _, _, _, [], _, [], hW', trodAll_mk1 (shut_bool Try.underlying4 _), shut_all laidOut bel _ _ _ _ (fun t ht => by
    have := (List.all_eq_true.1 readable) t ht
    simpa using this) hA, rfl, bel.frame _, fun h => by cases h⟩

theorem cellShift_holds : Rows.CellShiftSaid :=
  OpenClaim.holds_of_wide 9 Try.f9 rfl rfl rfl rfl rfl rfl rfl ⟨rfl, rfl, rfl, rfl, rfl⟩ rfl rfl rfl rfl rfl (by kernel_rfl) Try.func9 (by kernel_rfl)
    (of_decide_eq_true (by kernel_rfl)) (by unfold Func.isWrapper; first | (rw [if_pos (by decide +kernel)]; kernel_rfl) | (rw [if_neg (by decide +kernel)]; exact ⟨rfl, rfl⟩))
    (fun os started H enc _ => lifted os started H enc)

end Go.Proofs.Ytlemkfgipbfjhaa
