/- For any rule and any ring the program does one step as the document does; for all arguments. -/
import Derived.Test.YtjblibemdmfglaaCellH
import Derived.Test.YtjblibemdmfglaaRows
import Derived.ProofKit
set_option linter.unusedSimpArgs false
set_option linter.unusedVariables false
set_option maxRecDepth 100000
namespace Go.Av
open Go.Proofs

theorem cellSteps_spec (r : Int) (ring : List Bool) (hl : (ring.length : Int) < 2 ^ 63) : CallsA Try.prog 3 [I r, .ro 1 (ring.map Bo)] (Bo true) [] := by
  refine fn_of0 comp3 (by simp) ?_
  unfold code3
  have hll : ((ring.map Bo).length : Int) = ring.length := by simp
  simp (maxSteps := 1000000) only [EA, EB, EC, ED, EE, EF, EG, EH, XA, XB, XC, XD, XE, XF, XG, XH, XI, XJ, XK, XL, XM, reduceIte, ↓reduceIte, Nat.reduceAdd, Nat.reduceLeDiff, Nat.reduceEqDiff, Nat.reduceLT, Nat.reduceSub, Nat.reduceBEq, forall_const, reduceCtorEq, implies_true, exists_eq_left', exists_eq_left, if_true, if_false, undef]
  cases hr : ruleOk r
  · refine callA (CallsA.args (step_rule r hr ring) (by simp [EA, EB, EC, ED, EE, EF, EG, EH, XA, XB, XC, XD, XE, XF, XG, XH, XI, XJ, XK, XL, XM, reduceIte, ↓reduceIte, Nat.reduceAdd, Nat.reduceLeDiff, Nat.reduceEqDiff, Nat.reduceLT, Nat.reduceSub, Nat.reduceBEq, forall_const, reduceCtorEq, implies_true, exists_eq_left', exists_eq_left, if_true, if_false, undef])) rfl ?_
    simp (maxSteps := 1000000) only [EA, EB, EC, ED, EE, EF, EG, EH, XA, XB, XC, XD, XE, XF, XG, XH, XI, XJ, XK, XL, XM, reduceIte, ↓reduceIte, Nat.reduceAdd, Nat.reduceLeDiff, Nat.reduceEqDiff, Nat.reduceLT, Nat.reduceSub, Nat.reduceBEq, forall_const, reduceCtorEq, implies_true, exists_eq_left', exists_eq_left, if_true, if_false, undef]
    refine callF (CallsA.args (ruleCode_bad r hr) (by simp [EA, EB, EC, ED, EE, EF, EG, EH, XA, XB, XC, XD, XE, XF, XG, XH, XI, XJ, XK, XL, XM, reduceIte, ↓reduceIte, Nat.reduceAdd, Nat.reduceLeDiff, Nat.reduceEqDiff, Nat.reduceLT, Nat.reduceSub, Nat.reduceBEq, forall_const, reduceCtorEq, implies_true, exists_eq_left', exists_eq_left, if_true, if_false, undef])) rfl (by simp [flat, EA, EB, EC, ED, EE, EF, EG, EH, XA, XB, XC, XD, XE, XF, XG, XH, XI, XJ, XK, XL, XM, reduceIte, ↓reduceIte, Nat.reduceAdd, Nat.reduceLeDiff, Nat.reduceEqDiff, Nat.reduceLT, Nat.reduceSub, Nat.reduceBEq, forall_const, reduceCtorEq, implies_true, exists_eq_left', exists_eq_left, if_true, if_false, undef]) ?_
    simp (maxSteps := 1000000) only [c40, c4n, c44, c00, c0n, c1n, c10, c11, cz0, EA, EB, EC, ED, EE, EF, EG, EH, XA, XB, XC, XD, XE, XF, XG, XH, XI, XJ, XK, XL, XM, reduceIte, ↓reduceIte, Nat.reduceAdd, Nat.reduceLeDiff, Nat.reduceEqDiff, Nat.reduceLT, Nat.reduceSub, Nat.reduceBEq, forall_const, reduceCtorEq, implies_true, exists_eq_left', exists_eq_left, if_true, if_false, undef]
  obtain ⟨rule, rfl, h256⟩ := ruleOk_nat hr
  by_cases h12 : 1 ≤ ring.length ∧ ring.length ≤ 12
  rotate_left
  · have g1 : decide (1 ≤ (ring.length : Int) ∧ (ring.length : Int) ≤ 12) = false := by rw [decide_eq_false_iff_not]; omega
    refine callA (CallsA.args (step_large _ hr ring (by omega)) (by simp [EA, EB, EC, ED, EE, EF, EG, EH, XA, XB, XC, XD, XE, XF, XG, XH, XI, XJ, XK, XL, XM, reduceIte, ↓reduceIte, Nat.reduceAdd, Nat.reduceLeDiff, Nat.reduceEqDiff, Nat.reduceLT, Nat.reduceSub, Nat.reduceBEq, forall_const, reduceCtorEq, implies_true, exists_eq_left', exists_eq_left, if_true, if_false, undef])) rfl ?_
    simp (maxSteps := 1000000) only [EA, EB, EC, ED, EE, EF, EG, EH, XA, XB, XC, XD, XE, XF, XG, XH, XI, XJ, XK, XL, XM, reduceIte, ↓reduceIte, Nat.reduceAdd, Nat.reduceLeDiff, Nat.reduceEqDiff, Nat.reduceLT, Nat.reduceSub, Nat.reduceBEq, forall_const, reduceCtorEq, implies_true, exists_eq_left', exists_eq_left, if_true, if_false, undef]
    refine callF (CallsA.args (ruleCode_ok _ hr) (by simp [EA, EB, EC, ED, EE, EF, EG, EH, XA, XB, XC, XD, XE, XF, XG, XH, XI, XJ, XK, XL, XM, reduceIte, ↓reduceIte, Nat.reduceAdd, Nat.reduceLeDiff, Nat.reduceEqDiff, Nat.reduceLT, Nat.reduceSub, Nat.reduceBEq, forall_const, reduceCtorEq, implies_true, exists_eq_left', exists_eq_left, if_true, if_false, undef])) rfl (by simp [flat, EA, EB, EC, ED, EE, EF, EG, EH, XA, XB, XC, XD, XE, XF, XG, XH, XI, XJ, XK, XL, XM, reduceIte, ↓reduceIte, Nat.reduceAdd, Nat.reduceLeDiff, Nat.reduceEqDiff, Nat.reduceLT, Nat.reduceSub, Nat.reduceBEq, forall_const, reduceCtorEq, implies_true, exists_eq_left', exists_eq_left, if_true, if_false, undef]) ?_
    simp (maxSteps := 1000000) only [hll, c40, c4n, c44, c00, c0n, c1n, c10, c11, cz0, EA, EB, EC, ED, EE, EF, EG, EH, XA, XB, XC, XD, XE, XF, XG, XH, XI, XJ, XK, XL, XM, reduceIte, ↓reduceIte, Nat.reduceAdd, Nat.reduceLeDiff, Nat.reduceEqDiff, Nat.reduceLT, Nat.reduceSub, Nat.reduceBEq, forall_const, reduceCtorEq, implies_true, exists_eq_left', exists_eq_left, if_true, if_false, undef]
    refine callF (CallsA.args (within_spec 1 (ring.length : Int) 12) (by simp [EA, EB, EC, ED, EE, EF, EG, EH, XA, XB, XC, XD, XE, XF, XG, XH, XI, XJ, XK, XL, XM, reduceIte, ↓reduceIte, Nat.reduceAdd, Nat.reduceLeDiff, Nat.reduceEqDiff, Nat.reduceLT, Nat.reduceSub, Nat.reduceBEq, forall_const, reduceCtorEq, implies_true, exists_eq_left', exists_eq_left, if_true, if_false, undef])) rfl (by simp [flat, EA, EB, EC, ED, EE, EF, EG, EH, XA, XB, XC, XD, XE, XF, XG, XH, XI, XJ, XK, XL, XM, reduceIte, ↓reduceIte, Nat.reduceAdd, Nat.reduceLeDiff, Nat.reduceEqDiff, Nat.reduceLT, Nat.reduceSub, Nat.reduceBEq, forall_const, reduceCtorEq, implies_true, exists_eq_left', exists_eq_left, if_true, if_false, undef]) ?_
    simp (maxSteps := 1000000) only [hll, g1, c40, c4n, c44, c00, c0n, c1n, c10, c11, cz0, EA, EB, EC, ED, EE, EF, EG, EH, XA, XB, XC, XD, XE, XF, XG, XH, XI, XJ, XK, XL, XM, reduceIte, ↓reduceIte, Nat.reduceAdd, Nat.reduceLeDiff, Nat.reduceEqDiff, Nat.reduceLT, Nat.reduceSub, Nat.reduceBEq, forall_const, reduceCtorEq, implies_true, exists_eq_left', exists_eq_left, if_true, if_false, undef]
  have g1 : decide (1 ≤ (ring.length : Int) ∧ (ring.length : Int) ≤ 12) = true := by rw [decide_eq_true_iff]; omega
  have hsl := stepL_length rule ring
  have hsll : (((stepL rule ring).map Bo).length : Int) = ring.length := by simp [hsl]
  have hnn : ((ring.length : Int) != (ring.length : Int)) = false := by simp
  refine callA (CallsA.args (step_spec rule h256 ring h12.1 h12.2) (by simp [EA, EB, EC, ED, EE, EF, EG, EH, XA, XB, XC, XD, XE, XF, XG, XH, XI, XJ, XK, XL, XM, reduceIte, ↓reduceIte, Nat.reduceAdd, Nat.reduceLeDiff, Nat.reduceEqDiff, Nat.reduceLT, Nat.reduceSub, Nat.reduceBEq, forall_const, reduceCtorEq, implies_true, exists_eq_left', exists_eq_left, if_true, if_false, undef])) rfl ?_
  simp (maxSteps := 1000000) only [EA, EB, EC, ED, EE, EF, EG, EH, XA, XB, XC, XD, XE, XF, XG, XH, XI, XJ, XK, XL, XM, reduceIte, ↓reduceIte, Nat.reduceAdd, Nat.reduceLeDiff, Nat.reduceEqDiff, Nat.reduceLT, Nat.reduceSub, Nat.reduceBEq, forall_const, reduceCtorEq, implies_true, exists_eq_left', exists_eq_left, if_true, if_false, undef]
  refine callF (CallsA.args (ruleCode_ok _ hr) (by simp [EA, EB, EC, ED, EE, EF, EG, EH, XA, XB, XC, XD, XE, XF, XG, XH, XI, XJ, XK, XL, XM, reduceIte, ↓reduceIte, Nat.reduceAdd, Nat.reduceLeDiff, Nat.reduceEqDiff, Nat.reduceLT, Nat.reduceSub, Nat.reduceBEq, forall_const, reduceCtorEq, implies_true, exists_eq_left', exists_eq_left, if_true, if_false, undef])) rfl (by simp [flat, EA, EB, EC, ED, EE, EF, EG, EH, XA, XB, XC, XD, XE, XF, XG, XH, XI, XJ, XK, XL, XM, reduceIte, ↓reduceIte, Nat.reduceAdd, Nat.reduceLeDiff, Nat.reduceEqDiff, Nat.reduceLT, Nat.reduceSub, Nat.reduceBEq, forall_const, reduceCtorEq, implies_true, exists_eq_left', exists_eq_left, if_true, if_false, undef]) ?_
  simp (maxSteps := 1000000) only [hll, c40, c4n, c44, c00, c0n, c1n, c10, c11, cz0, EA, EB, EC, ED, EE, EF, EG, EH, XA, XB, XC, XD, XE, XF, XG, XH, XI, XJ, XK, XL, XM, reduceIte, ↓reduceIte, Nat.reduceAdd, Nat.reduceLeDiff, Nat.reduceEqDiff, Nat.reduceLT, Nat.reduceSub, Nat.reduceBEq, forall_const, reduceCtorEq, implies_true, exists_eq_left', exists_eq_left, if_true, if_false, undef]
  refine callF (CallsA.args (within_spec 1 (ring.length : Int) 12) (by simp [EA, EB, EC, ED, EE, EF, EG, EH, XA, XB, XC, XD, XE, XF, XG, XH, XI, XJ, XK, XL, XM, reduceIte, ↓reduceIte, Nat.reduceAdd, Nat.reduceLeDiff, Nat.reduceEqDiff, Nat.reduceLT, Nat.reduceSub, Nat.reduceBEq, forall_const, reduceCtorEq, implies_true, exists_eq_left', exists_eq_left, if_true, if_false, undef])) rfl (by simp [flat, EA, EB, EC, ED, EE, EF, EG, EH, XA, XB, XC, XD, XE, XF, XG, XH, XI, XJ, XK, XL, XM, reduceIte, ↓reduceIte, Nat.reduceAdd, Nat.reduceLeDiff, Nat.reduceEqDiff, Nat.reduceLT, Nat.reduceSub, Nat.reduceBEq, forall_const, reduceCtorEq, implies_true, exists_eq_left', exists_eq_left, if_true, if_false, undef]) ?_
  simp (maxSteps := 1000000) only [hll, g1, hsll, hnn, c40, c4n, c44, c00, c0n, c1n, c10, c11, cz0, EA, EB, EC, ED, EE, EF, EG, EH, XA, XB, XC, XD, XE, XF, XG, XH, XI, XJ, XK, XL, XM, reduceIte, ↓reduceIte, Nat.reduceAdd, Nat.reduceLeDiff, Nat.reduceEqDiff, Nat.reduceLT, Nat.reduceSub, Nat.reduceBEq, forall_const, reduceCtorEq, implies_true, exists_eq_left', exists_eq_left, if_true, if_false, undef]
  refine loop0 Nat [9] (fun k => [I (k : Nat)]) (fun k => k ≤ ring.length) (fun k => ring.length - k) (by decide) 0 (by simp) (by simp [Back, BackF, fzT, fzM, fzU, fz, fzL, fzO, kin, SubT, Sub, SubL, SubM, SubO, keepM, srcOk, look, lookM, ev, evs, putT, argT, EA, EB, EC, ED, EE, EF, EG, EH, XA, XB, XC, XD, XE, XF, XG, XH, XI, XJ, XK, XL, XM, reduceIte, ↓reduceIte, Nat.reduceAdd, Nat.reduceLeDiff, Nat.reduceEqDiff, Nat.reduceLT, Nat.reduceSub, Nat.reduceBEq, forall_const, reduceCtorEq, implies_true, exists_eq_left', exists_eq_left, if_true, if_false, undef]) (fun k hk => ?_)
  by_cases c1 : k < ring.length
  rotate_left
  · have f1 : decide ((k : Int) < (ring.length : Int)) = false := by simp [c1]
    simp (maxSteps := 1000000) only [f1, EA, EB, EC, ED, EE, EF, EG, EH, XA, XB, XC, XD, XE, XF, XG, XH, XI, XJ, XK, XL, XM, reduceIte, ↓reduceIte, Nat.reduceAdd, Nat.reduceLeDiff, Nat.reduceEqDiff, Nat.reduceLT, Nat.reduceSub, Nat.reduceBEq, forall_const, reduceCtorEq, implies_true, exists_eq_left', exists_eq_left, if_true, if_false, undef]
  have f1 : decide ((k : Int) < (ring.length : Int)) = true := by simp [c1]
  have hA : (k + ring.length - 1) % ring.length < ring.length := Nat.mod_lt _ (by omega)
  have hC : (k + 1) % ring.length < ring.length := Nat.mod_lt _ (by omega)
  have wa : IntKind.i64.wrap ((k : Int) + (ring.length : Int)) = ((k + ring.length : Nat) : Int) := by rw [wrap_id] <;> omega
  have wb : IntKind.i64.wrap (((k + ring.length : Nat) : Int) - 1) = ((k + ring.length - 1 : Nat) : Int) := by rw [wrap_id] <;> omega
  have wc : IntKind.i64.wrap ((k : Int) + 1) = ((k + 1 : Nat) : Int) := by rw [wrap_id] <;> omega
  have ta : Int.tmod ((k + ring.length - 1 : Nat) : Int) (ring.length : Int) = (((k + ring.length - 1) % ring.length : Nat) : Int) := by rw [← Int.ofNat_tmod]
  have tb : Int.tmod ((k + 1 : Nat) : Int) (ring.length : Int) = (((k + 1) % ring.length : Nat) : Int) := by rw [← Int.ofNat_tmod]
  have hg := stepL_get (rule := rule) c1
  have hgd : (stepL rule ring).getD k false = tru rule (ring.getD ((k + ring.length - 1) % ring.length) false) (ring.getD k false) (ring.getD ((k + 1) % ring.length) false) := by
    rw [List.getD_eq_getElem?_getD, hg]; rfl
  generalize (k + ring.length - 1) % ring.length = pa at *
  generalize (k + 1) % ring.length = pc at *
  simp (maxSteps := 1000000) only [f1, hsll, EA, EB, EC, ED, EE, EF, EG, EH, XA, XB, XC, XD, XE, XF, XG, XH, XI, XJ, XK, XL, XM, reduceIte, ↓reduceIte, Nat.reduceAdd, Nat.reduceLeDiff, Nat.reduceEqDiff, Nat.reduceLT, Nat.reduceSub, Nat.reduceBEq, forall_const, reduceCtorEq, implies_true, exists_eq_left', exists_eq_left, if_true, if_false, undef]
  refine ⟨by omega, pickD (by omega) ?_⟩
  simp (maxSteps := 1000000) only [wa, wb, wc, ta, tb, hll, EA, EB, EC, ED, EE, EF, EG, EH, XA, XB, XC, XD, XE, XF, XG, XH, XI, XJ, XK, XL, XM, reduceIte, ↓reduceIte, Nat.reduceAdd, Nat.reduceLeDiff, Nat.reduceEqDiff, Nat.reduceLT, Nat.reduceSub, Nat.reduceBEq, forall_const, reduceCtorEq, implies_true, exists_eq_left', exists_eq_left, if_true, if_false, undef]
  refine ⟨by omega, by omega, pickD hA ?_⟩
  simp (maxSteps := 1000000) only [wa, wb, wc, ta, tb, hll, EA, EB, EC, ED, EE, EF, EG, EH, XA, XB, XC, XD, XE, XF, XG, XH, XI, XJ, XK, XL, XM, reduceIte, ↓reduceIte, Nat.reduceAdd, Nat.reduceLeDiff, Nat.reduceEqDiff, Nat.reduceLT, Nat.reduceSub, Nat.reduceBEq, forall_const, reduceCtorEq, implies_true, exists_eq_left', exists_eq_left, if_true, if_false, undef]
  refine ⟨by omega, pickD c1 ?_⟩
  simp (maxSteps := 1000000) only [wa, wb, wc, ta, tb, hll, EA, EB, EC, ED, EE, EF, EG, EH, XA, XB, XC, XD, XE, XF, XG, XH, XI, XJ, XK, XL, XM, reduceIte, ↓reduceIte, Nat.reduceAdd, Nat.reduceLeDiff, Nat.reduceEqDiff, Nat.reduceLT, Nat.reduceSub, Nat.reduceBEq, forall_const, reduceCtorEq, implies_true, exists_eq_left', exists_eq_left, if_true, if_false, undef]
  refine ⟨by omega, by omega, pickD hC ?_⟩
  simp (maxSteps := 1000000) only [wa, wb, wc, ta, tb, hll, EA, EB, EC, ED, EE, EF, EG, EH, XA, XB, XC, XD, XE, XF, XG, XH, XI, XJ, XK, XL, XM, reduceIte, ↓reduceIte, Nat.reduceAdd, Nat.reduceLeDiff, Nat.reduceEqDiff, Nat.reduceLT, Nat.reduceSub, Nat.reduceBEq, forall_const, reduceCtorEq, implies_true, exists_eq_left', exists_eq_left, if_true, if_false, undef]
  refine callD (CallsA.args (truth_spec rule h256 (ring.getD pa false) (ring.getD k false) (ring.getD pc false)) (by simp [EA, EB, EC, ED, EE, EF, EG, EH, XA, XB, XC, XD, XE, XF, XG, XH, XI, XJ, XK, XL, XM, reduceIte, ↓reduceIte, Nat.reduceAdd, Nat.reduceLeDiff, Nat.reduceEqDiff, Nat.reduceLT, Nat.reduceSub, Nat.reduceBEq, forall_const, reduceCtorEq, implies_true, exists_eq_left', exists_eq_left, if_true, if_false, undef])) rfl (by simp [flat, EA, EB, EC, ED, EE, EF, EG, EH, XA, XB, XC, XD, XE, XF, XG, XH, XI, XJ, XK, XL, XM, reduceIte, ↓reduceIte, Nat.reduceAdd, Nat.reduceLeDiff, Nat.reduceEqDiff, Nat.reduceLT, Nat.reduceSub, Nat.reduceBEq, forall_const, reduceCtorEq, implies_true, exists_eq_left', exists_eq_left, if_true, if_false, undef]) (by simp [EA, EB, EC, ED, EE, EF, EG, EH, XA, XB, XC, XD, XE, XF, XG, XH, XI, XJ, XK, XL, XM, reduceIte, ↓reduceIte, Nat.reduceAdd, Nat.reduceLeDiff, Nat.reduceEqDiff, Nat.reduceLT, Nat.reduceSub, Nat.reduceBEq, forall_const, reduceCtorEq, implies_true, exists_eq_left', exists_eq_left, if_true, if_false, undef]) ?_
  have hne : ((stepL rule ring).getD k false != tru rule (ring.getD pa false) (ring.getD k false) (ring.getD pc false)) = false := by rw [hgd]; simp
  simp (maxSteps := 1000000) only [hne, wc, EA, EB, EC, ED, EE, EF, EG, EH, XA, XB, XC, XD, XE, XF, XG, XH, XI, XJ, XK, XL, XM, reduceIte, ↓reduceIte, Nat.reduceAdd, Nat.reduceLeDiff, Nat.reduceEqDiff, Nat.reduceLT, Nat.reduceSub, Nat.reduceBEq, forall_const, reduceCtorEq, implies_true, exists_eq_left', exists_eq_left, if_true, if_false, undef]
  exact ⟨k + 1, by omega, by omega, by simp [Back, BackF, fzT, fzM, fzU, fz, fzL, fzO, kin, SubT, Sub, SubL, SubM, SubO, keepM, srcOk, look, lookM, ev, evs, putT, argT, EA, EB, EC, ED, EE, EF, EG, EH, XA, XB, XC, XD, XE, XF, XG, XH, XI, XJ, XK, XL, XM, reduceIte, ↓reduceIte, Nat.reduceAdd, Nat.reduceLeDiff, Nat.reduceEqDiff, Nat.reduceLT, Nat.reduceSub, Nat.reduceBEq, forall_const, reduceCtorEq, implies_true, exists_eq_left', exists_eq_left, if_true, if_false, undef]⟩

def sh_CellSteps : List Sh := [.int .i64, .slice 1 .bool]
theorem law_CellSteps (xs : List AV) (h : HasAll sh_CellSteps xs) : CallsA Try.prog 3 xs (.v (.bool true)) [] := by
  obtain ⟨x, r, rfl, hx, y, r, rfl, hy, rfl⟩ := h
  obtain ⟨c, rfl, _⟩ := hasInt hx
  obtain ⟨l, rfl, hl⟩ := hasBools hy
  exact cellSteps_spec c l hl

end Go.Av
namespace Go.Proofs.Ytjblibemdmfglaa
open Go.ChangeShapes Go.WideShapes Go.ChangeAt Go.RowKit
open Go.Av (open_all shut_all OldS HasAll Sh CallsA shAll)

theorem own : ownKnob Try.prog.godebug = none := by kernel_rfl
theorem laidOut : laidOutB Try.prog = true := by kernel_rfl
theorem shs_eq : shAll Try.prog 12 Try.f3.params.toList = some Go.Av.sh_CellSteps := by kernel_rfl
theorem readable : (Try.f3.params.toList.all fun t => Try.prog.readableRec t && decide (t < Try.prog.types.size)) = true := by kernel_rfl

theorem lifted (os : Os) (started : os.Started) (H : Type) (enc : TypeId × Value → H) :
    ReturnsInHanded {} Try.checked os 3 .any (Rows.cellStepsSpec.pre6 enc Try.prog Try.f3 Rows.cellStepsRow.domain false) (Rows.cellStepsSpec.post enc Try.prog Try.f3 false true false false) := by
  refine returnsInHanded_of_change (C := Try.checked) own started (by kernel_rfl) Try.func3
    (ChangeSpec.witness6 (enc := enc) (C := Try.checked) false ⟨#[], #[.int .i64 0, .slice none 0 0], []⟩ 8 (by kernel_rfl) (by kernel_rfl) (by kernel_rfl) (by kernel_rfl)) ?_
  intro W base args ds gs before hval0 hW hcnd _
  have hval : ∀ (j : Nat) t v, Try.f3.params[j]? = some t → args[j]? = some v → Value.okWide Try.prog W .any base t v := hval0
  have hW' := hW
  obtain ⟨p, q, hA0, hV, rfl, hfz, hnd⟩ := hW
  have hA : DataW.TrodAll enc Try.prog W 0 (fun _ => true) true Try.f3.params.toList args.toList ds p := hA0
  obtain ⟨xs, hxs, hlen, hR⟩ := open_all (g := 12) _ _ _ _ Go.Av.sh_CellSteps hA (fun j t v ht hv => hval j t v (by simpa using ht) (by simpa using hv)) shs_eq
  obtain ⟨rfl, rfl⟩ := trodVars_none hV
  have hB := hA
  rw [Try.params3] at hB
  obtain ⟨v0, vs0, d0, ds0, p0, q0, hargs0, rfl, rfl, h0, r0⟩ := trodAll_cons hB
  obtain ⟨v1, vs1, d1, ds1, p1, q1, hargs1, rfl, rfl, h1, r1⟩ := trodAll_cons r0
  obtain ⟨rfl, rfl, rfl⟩ := trodAll_nil r1
  refine ((Go.Av.law_CellSteps xs hxs).2 W (OldS W) args ⟨fun _ h => h, fun g cs hm => by simp [Go.Av.globs] at hm⟩ (by simpa using hlen) (fun i x y h1 h2 => hR i x y h1 (by simpa using h2))).mono ?_
  rintro e W' ⟨v, S', κ', rfl, hv, _, _, _, bel⟩
  rw [hv.v_inv]
  exact ⟨_, rfl, _, _, _, [], _, [], hW', trodAll_mk1 (shut_bool Try.underlying4 _), shut_all laidOut bel _ _ _ _ (fun t ht => by
    have := (List.all_eq_true.1 readable) t ht
    simpa using this) hA, rfl, bel.frame _, fun h => by cases h⟩

theorem cellSteps_holds : Rows.CellStepsSaid :=
  OpenClaim.holds_of_wide 3 Try.f3 rfl rfl rfl rfl rfl rfl rfl ⟨rfl, rfl, rfl, rfl, rfl⟩ rfl rfl rfl rfl rfl (by kernel_rfl) Try.func3 (by kernel_rfl)
    (of_decide_eq_true (by kernel_rfl)) (by unfold Func.isWrapper; first | (rw [if_pos (by decide +kernel)]; kernel_rfl) | (rw [if_neg (by decide +kernel)]; exact ⟨rfl, rfl⟩))
    (fun os started H enc _ => lifted os started H enc)

end Go.Proofs.Ytjblibemdmfglaa
