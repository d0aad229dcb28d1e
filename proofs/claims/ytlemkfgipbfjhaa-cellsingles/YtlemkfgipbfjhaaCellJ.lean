/- Cells: what the program tells of single rules, and the document. -/
import Derived.Test.YtlemkfgipbfjhaaCellM
import Derived.Test.YtlemkfgipbfjhaaCellP
set_option linter.unusedSimpArgs false
set_option linter.unusedVariables false
set_option maxRecDepth 100000
namespace Go.Av
open Go.Proofs

def sgOk (r : Nat) : Bool := match xpE (ledB r) 16 0 xs0, xpE (fun f t => ledB r t f) 16 0 xs0 with
  | some a, some b => (decide (a.2.length = 16) && decide (b.2.length = 16)) && (mergeB a b == !singleB r)
  | _, _ => false
theorem sg0 : ((List.range 64).all fun r => sgOk r) = true := by kernel_rfl
theorem sg1 : ((List.range 64).all fun r => sgOk (64 + r)) = true := by kernel_rfl
theorem sg2 : ((List.range 64).all fun r => sgOk (128 + r)) = true := by kernel_rfl
theorem sg3 : ((List.range 64).all fun r => sgOk (192 + r)) = true := by kernel_rfl
theorem sg_all {r : Nat} (h : r < 256) : sgOk r = true := by
  by_cases h0 : r < 64
  · exact (List.all_eq_true.1 sg0) r (List.mem_range.2 h0)
  by_cases h1 : r < 128
  · have := (List.all_eq_true.1 sg1) (r - 64) (List.mem_range.2 (by omega))
    rwa [show 64 + (r - 64) = r by omega] at this
  by_cases h2 : r < 192
  · have := (List.all_eq_true.1 sg2) (r - 128) (List.mem_range.2 (by omega))
    rwa [show 128 + (r - 128) = r by omega] at this
  have := (List.all_eq_true.1 sg3) (r - 192) (List.mem_range.2 (by omega))
  rwa [show 192 + (r - 192) = r by omega] at this

theorem singleP_rule (r : Int) (h : ruleOk r = false) : CallsA Try.prog 21 [I r] (.tup [Bo false, I 4]) [] := by
  refine fn_of0 comp21 (by simp) ?_
  unfold code21
  simp (maxSteps := 1000000) only [EA, EB, EC, ED, EE, EF, EG, EH, XA, XB, XC, XD, XE, XF, XG, XH, XI, XJ, XK, XL, XM, reduceIte, ↓reduceIte, Nat.reduceAdd, Nat.reduceLeDiff, Nat.reduceEqDiff, Nat.reduceLT, Nat.reduceSub, Nat.reduceBEq, forall_const, reduceCtorEq, implies_true, exists_eq_left', exists_eq_left, if_true, if_false, undef]
  refine callF (CallsA.args (isRule_spec r) (by simp [EA, EB, EC, ED, EE, EF, EG, EH, XA, XB, XC, XD, XE, XF, XG, XH, XI, XJ, XK, XL, XM, reduceIte, ↓reduceIte, Nat.reduceAdd, Nat.reduceLeDiff, Nat.reduceEqDiff, Nat.reduceLT, Nat.reduceSub, Nat.reduceBEq, forall_const, reduceCtorEq, implies_true, exists_eq_left', exists_eq_left, if_true, if_false, undef])) rfl (by simp [flat, EA, EB, EC, ED, EE, EF, EG, EH, XA, XB, XC, XD, XE, XF, XG, XH, XI, XJ, XK, XL, XM, reduceIte, ↓reduceIte, Nat.reduceAdd, Nat.reduceLeDiff, Nat.reduceEqDiff, Nat.reduceLT, Nat.reduceSub, Nat.reduceBEq, forall_const, reduceCtorEq, implies_true, exists_eq_left', exists_eq_left, if_true, if_false, undef]) ?_
  simp (maxSteps := 1000000) only [h, Bo, EA, EB, EC, ED, EE, EF, EG, EH, XA, XB, XC, XD, XE, XF, XG, XH, XI, XJ, XK, XL, XM, reduceIte, ↓reduceIte, Nat.reduceAdd, Nat.reduceLeDiff, Nat.reduceEqDiff, Nat.reduceLT, Nat.reduceSub, Nat.reduceBEq, forall_const, reduceCtorEq, implies_true, exists_eq_left', exists_eq_left, if_true, if_false, undef]
theorem singleP_spec (rule : Nat) (hr : rule < 256) : CallsA Try.prog 21 [I rule] (.tup [Bo (singleB rule), I 0]) [] := by
  have hro : ruleOk rule = true := by simp [ruleOk]; omega
  have hs := sg_all hr
  unfold sgOk at hs
  split at hs
  · rename_i a b ha hb
    simp only [Bool.and_eq_true, decide_eq_true_eq, beq_iff_eq] at hs
    refine fn_of0 comp21 (by simp) ?_
    unfold code21
    simp (maxSteps := 1000000) only [EA, EB, EC, ED, EE, EF, EG, EH, XA, XB, XC, XD, XE, XF, XG, XH, XI, XJ, XK, XL, XM, reduceIte, ↓reduceIte, Nat.reduceAdd, Nat.reduceLeDiff, Nat.reduceEqDiff, Nat.reduceLT, Nat.reduceSub, Nat.reduceBEq, forall_const, reduceCtorEq, implies_true, exists_eq_left', exists_eq_left, if_true, if_false, undef]
    refine callF (CallsA.args (isRule_spec rule) (by simp [EA, EB, EC, ED, EE, EF, EG, EH, XA, XB, XC, XD, XE, XF, XG, XH, XI, XJ, XK, XL, XM, reduceIte, ↓reduceIte, Nat.reduceAdd, Nat.reduceLeDiff, Nat.reduceEqDiff, Nat.reduceLT, Nat.reduceSub, Nat.reduceBEq, forall_const, reduceCtorEq, implies_true, exists_eq_left', exists_eq_left, if_true, if_false, undef])) rfl (by simp [flat, EA, EB, EC, ED, EE, EF, EG, EH, XA, XB, XC, XD, XE, XF, XG, XH, XI, XJ, XK, XL, XM, reduceIte, ↓reduceIte, Nat.reduceAdd, Nat.reduceLeDiff, Nat.reduceEqDiff, Nat.reduceLT, Nat.reduceSub, Nat.reduceBEq, forall_const, reduceCtorEq, implies_true, exists_eq_left', exists_eq_left, if_true, if_false, undef]) ?_
    simp (maxSteps := 1000000) only [hro, EA, EB, EC, ED, EE, EF, EG, EH, XA, XB, XC, XD, XE, XF, XG, XH, XI, XJ, XK, XL, XM, reduceIte, ↓reduceIte, Nat.reduceAdd, Nat.reduceLeDiff, Nat.reduceEqDiff, Nat.reduceLT, Nat.reduceSub, Nat.reduceBEq, forall_const, reduceCtorEq, implies_true, exists_eq_left', exists_eq_left, if_true, if_false, undef]
    refine callF (CallsA.args (canMerge_spec rule hr a b ha hb hs.1.1 hs.1.2) (by simp [EA, EB, EC, ED, EE, EF, EG, EH, XA, XB, XC, XD, XE, XF, XG, XH, XI, XJ, XK, XL, XM, reduceIte, ↓reduceIte, Nat.reduceAdd, Nat.reduceLeDiff, Nat.reduceEqDiff, Nat.reduceLT, Nat.reduceSub, Nat.reduceBEq, forall_const, reduceCtorEq, implies_true, exists_eq_left', exists_eq_left, if_true, if_false, undef])) rfl (by simp [flat, EA, EB, EC, ED, EE, EF, EG, EH, XA, XB, XC, XD, XE, XF, XG, XH, XI, XJ, XK, XL, XM, reduceIte, ↓reduceIte, Nat.reduceAdd, Nat.reduceLeDiff, Nat.reduceEqDiff, Nat.reduceLT, Nat.reduceSub, Nat.reduceBEq, forall_const, reduceCtorEq, implies_true, exists_eq_left', exists_eq_left, if_true, if_false, undef]) ?_
    simp (maxSteps := 1000000) only [hs.2, Bool.not_not, Bo, EA, EB, EC, ED, EE, EF, EG, EH, XA, XB, XC, XD, XE, XF, XG, XH, XI, XJ, XK, XL, XM, reduceIte, ↓reduceIte, Nat.reduceAdd, Nat.reduceLeDiff, Nat.reduceEqDiff, Nat.reduceLT, Nat.reduceSub, Nat.reduceBEq, forall_const, reduceCtorEq, implies_true, exists_eq_left', exists_eq_left, if_true, if_false, undef]
  · cases hs

end Go.Av
