/- Cells: pairs of rows that become the same, as the document looks for them. -/
import Derived.Test.YtlemkfgipbfjhaaCell
set_option linter.unusedSimpArgs false
set_option linter.unusedVariables false
set_option maxRecDepth 100000
namespace Go.Av
open Go.Proofs

def pqP (p c d : Nat) : Nat := (p / 4 % 2 * 2 + c) * 4 + p % 4 % 2 * 2 + d
def psame (rule p c d : Nat) : Bool := tru rule (decide (p / 4 ≥ 2)) (p / 4 % 2 == 1) (c == 1) == tru rule (decide (p % 4 ≥ 2)) (p % 4 % 2 == 1) (d == 1)
def pput (rule : Nat) (on : Bool) (can nx : List Bool) (p c d : Nat) : List Bool :=
  if psame rule p c d = true then (if on = true then (if can.getD (pqP p c d) false = true then nx.set p true else nx) else (if can.getD p false = true then nx.set (pqP p c d) true else nx)) else nx
def pf (rule : Nat) (on : Bool) (can : List Bool) : Nat → List Bool
  | 0 => List.replicate 16 false
  | j + 1 => pput rule on can (pf rule on can j) (j / 4) (j / 2 % 2) (j % 2)
theorem pf_length (rule : Nat) (on : Bool) (can : List Bool) : ∀ j, (pf rule on can j).length = 16
  | 0 => rfl
  | j + 1 => by
    have ih := pf_length rule on can j
    simp only [pf, pput]
    repeat' split
    all_goals first | exact ih | (rw [List.length_set]; exact ih)
def pr (rule : Nat) (on : Bool) : Nat → List Bool
  | 0 => List.replicate 16 true
  | k + 1 => pf rule on (pr rule on k) 64
theorem pr_length (rule : Nat) (on : Bool) : ∀ k, (pr rule on k).length = 16
  | 0 => rfl
  | k + 1 => pf_length rule on _ 64

def padT (p : Nat) : List Bool := List.replicate p true ++ List.replicate (16 - p) false
theorem padT_set {p : Nat} (h : p < 16) : (padT p).set p true = padT (p + 1) := by
  unfold padT
  rw [List.set_append_right _ _ (by simp)]
  obtain ⟨q, hq⟩ : ∃ q, 16 - p = q + 1 := ⟨16 - p - 1, by omega⟩
  rw [List.length_replicate, Nat.sub_self, hq, List.replicate_succ, show 16 - (p + 1) = q by omega, List.replicate_succ']
  simp

theorem tmodN (a b : Nat) : Int.tmod (a : Int) (b : Int) = ((a % b : Nat) : Int) := by rw [← Int.ofNat_tmod]
theorem tdivN (a b : Nat) : Int.tdiv (a : Int) (b : Int) = ((a / b : Nat) : Int) := by rw [← Int.ofNat_tdiv]
theorem eq1N (a : Nat) : ((a : Int) == 1) = (a == 1) := by rw [Bool.eq_iff_iff]; simp; omega
theorem ge2N (a : Nat) : decide ((a : Int) ≥ 2) = decide (a ≥ 2) := by rw [decide_eq_decide]; omega

theorem pairsOn_spec (rule : Nat) (hr : rule < 256) (on : Bool) : CallsA Try.prog 31 [I rule, Bo on] (.ro 1 ((pr rule on 17).map Bo)) [] := by
  refine fn_of0 comp31 (by simp) ?_
  unfold code31
  simp (maxSteps := 1000000) only [EA, EB, EC, ED, EE, EF, EG, EH, XA, XB, XC, XD, XE, XF, XG, XH, XI, XJ, XK, XL, XM, reduceIte, ↓reduceIte, Nat.reduceAdd, Nat.reduceLeDiff, Nat.reduceEqDiff, Nat.reduceLT, Nat.reduceSub, Nat.reduceBEq, forall_const, reduceCtorEq, implies_true, exists_eq_left', exists_eq_left, if_true, if_false, undef]
  refine ⟨by omega, by omega, by omega, ?_⟩
  refine loopO Nat [6] (fun p => [I (p : Nat)]) (fun p => [(1, some (.arr 1 ((padT p).map Bo)))]) (fun p => p ≤ 16) (fun p => 16 - p) (by decide) 0 (by simp) (by simp [Back, BackF, fzT, fzM, fzU, fz, fzL, fzO, kin, SubT, Sub, SubL, SubM, SubO, keepM, srcOk, look, lookM, ev, evs, putT, argT, EA, EB, EC, ED, EE, EF, EG, EH, XA, XB, XC, XD, XE, XF, XG, XH, XI, XJ, XK, XL, XM, reduceIte, ↓reduceIte, Nat.reduceAdd, Nat.reduceLeDiff, Nat.reduceEqDiff, Nat.reduceLT, Nat.reduceSub, Nat.reduceBEq, forall_const, reduceCtorEq, implies_true, exists_eq_left', exists_eq_left, if_true, if_false, undef, padT]) (fun p hp => ?_)
  have hpl : ((padT p).map Bo).length = 16 := by simp [padT]; omega
  by_cases c0 : p < 16
  · have f0 : decide ((p : Int) < 16) = true := by simp; omega
    have hw0 : IntKind.i64.wrap ((p : Int) + 1) = ((p + 1 : Nat) : Int) := by rw [wrap_id] <;> omega
    simp (maxSteps := 1000000) only [f0, hw0, EA, EB, EC, ED, EE, EF, EG, EH, XA, XB, XC, XD, XE, XF, XG, XH, XI, XJ, XK, XL, XM, reduceIte, ↓reduceIte, Nat.reduceAdd, Nat.reduceLeDiff, Nat.reduceEqDiff, Nat.reduceLT, Nat.reduceSub, Nat.reduceBEq, forall_const, reduceCtorEq, implies_true, exists_eq_left', exists_eq_left, if_true, if_false, undef]
    refine ⟨by omega, by simp; omega, ?_⟩
    simp (maxSteps := 1000000) only [hpl, Int.toNat_natCast, hw0, EA, EB, EC, ED, EE, EF, EG, EH, XA, XB, XC, XD, XE, XF, XG, XH, XI, XJ, XK, XL, XM, reduceIte, ↓reduceIte, Nat.reduceAdd, Nat.reduceLeDiff, Nat.reduceEqDiff, Nat.reduceLT, Nat.reduceSub, Nat.reduceBEq, forall_const, reduceCtorEq, implies_true, exists_eq_left', exists_eq_left, if_true, if_false, undef]
    refine ⟨c0, ?_⟩
    exact ⟨p + 1, by omega, by omega, by simp [Back, BackF, fzT, fzM, fzU, fz, fzL, fzO, kin, SubT, Sub, SubL, SubM, SubO, keepM, srcOk, look, lookM, ev, evs, putT, argT, EA, EB, EC, ED, EE, EF, EG, EH, XA, XB, XC, XD, XE, XF, XG, XH, XI, XJ, XK, XL, XM, reduceIte, ↓reduceIte, Nat.reduceAdd, Nat.reduceLeDiff, Nat.reduceEqDiff, Nat.reduceLT, Nat.reduceSub, Nat.reduceBEq, forall_const, reduceCtorEq, implies_true, exists_eq_left', exists_eq_left, if_true, if_false, undef, ← padT_set c0]⟩
  have f0 : decide ((p : Int) < 16) = false := by simp; omega
  have : p = 16 := by omega
  subst this
  simp (maxSteps := 1000000) only [f0, EA, EB, EC, ED, EE, EF, EG, EH, XA, XB, XC, XD, XE, XF, XG, XH, XI, XJ, XK, XL, XM, reduceIte, ↓reduceIte, Nat.reduceAdd, Nat.reduceLeDiff, Nat.reduceEqDiff, Nat.reduceLT, Nat.reduceSub, Nat.reduceBEq, forall_const, reduceCtorEq, implies_true, exists_eq_left', exists_eq_left, if_true, if_false, undef]
  refine loopR Nat [7, 5] (fun k => [I k, .arr 7 0 16]) (fun k => [(7, some (.arr 1 ((pr rule on k).map Bo))), (1, none)]) 1 (fun k => k ≤ 17) (fun k => 17 - k) (by decide) 0 [some 1] rfl (by simp)
    (by simp [Back, BackF, fzT, fzM, fzU, fz, fzL, fzO, kin, SubT, Sub, SubL, SubM, SubO, keepM, srcOk, look, lookM, ev, evs, putT, argT, EA, EB, EC, ED, EE, EF, EG, EH, XA, XB, XC, XD, XE, XF, XG, XH, XI, XJ, XK, XL, XM, reduceIte, ↓reduceIte, Nat.reduceAdd, Nat.reduceLeDiff, Nat.reduceEqDiff, Nat.reduceLT, Nat.reduceSub, Nat.reduceBEq, forall_const, reduceCtorEq, implies_true, exists_eq_left', exists_eq_left, if_true, if_false, undef, pr, padT]) (fun k hk => ?_)
  have hcl := pr_length rule on k
  by_cases c1 : k < 17
  rotate_left
  · have f1 : decide ((k : Int) < 17) = false := by simp; omega
    have : k = 17 := by omega
    subst this
    simp (maxSteps := 1000000) only [f1, EA, EB, EC, ED, EE, EF, EG, EH, XA, XB, XC, XD, XE, XF, XG, XH, XI, XJ, XK, XL, XM, reduceIte, ↓reduceIte, Nat.reduceAdd, Nat.reduceLeDiff, Nat.reduceEqDiff, Nat.reduceLT, Nat.reduceSub, Nat.reduceBEq, forall_const, reduceCtorEq, implies_true, exists_eq_left', exists_eq_left, if_true, if_false, undef]
    exact List.take_of_length_le (by rw [List.length_map]; omega)
  have f1 : decide ((k : Int) < 17) = true := by simp; omega
  have hw1 : IntKind.i64.wrap ((k : Int) + 1) = ((k + 1 : Nat) : Int) := by rw [wrap_id] <;> omega
  have hpr : pr rule on (k + 1) = pf rule on (pr rule on k) 64 := rfl
  generalize pr rule on k = can at hcl hpr
  simp (maxSteps := 1000000) only [f1, EA, EB, EC, ED, EE, EF, EG, EH, XA, XB, XC, XD, XE, XF, XG, XH, XI, XJ, XK, XL, XM, reduceIte, ↓reduceIte, Nat.reduceAdd, Nat.reduceLeDiff, Nat.reduceEqDiff, Nat.reduceLT, Nat.reduceSub, Nat.reduceBEq, forall_const, reduceCtorEq, implies_true, exists_eq_left', exists_eq_left, if_true, if_false, undef]
  refine ⟨by omega, by omega, by omega, ?_⟩
  refine loopO Nat [9] (fun p => [I (p : Nat)]) (fun p => [(10, some (.arr 1 ((pf rule on can (4 * p)).map Bo)))]) (fun p => p ≤ 16) (fun p => 16 - p) (by decide) 0 (by simp) (by simp [Back, BackF, fzT, fzM, fzU, fz, fzL, fzO, kin, SubT, Sub, SubL, SubM, SubO, keepM, srcOk, look, lookM, ev, evs, putT, argT, EA, EB, EC, ED, EE, EF, EG, EH, XA, XB, XC, XD, XE, XF, XG, XH, XI, XJ, XK, XL, XM, reduceIte, ↓reduceIte, Nat.reduceAdd, Nat.reduceLeDiff, Nat.reduceEqDiff, Nat.reduceLT, Nat.reduceSub, Nat.reduceBEq, forall_const, reduceCtorEq, implies_true, exists_eq_left', exists_eq_left, if_true, if_false, undef, pf]) (fun p hp => ?_)
  by_cases c2 : p < 16
  rotate_left
  · have f2 : decide ((p : Int) < 16) = false := by simp; omega
    have : p = 16 := by omega
    subst this
    simp (maxSteps := 1000000) only [f2, hw1, EA, EB, EC, ED, EE, EF, EG, EH, XA, XB, XC, XD, XE, XF, XG, XH, XI, XJ, XK, XL, XM, reduceIte, ↓reduceIte, Nat.reduceAdd, Nat.reduceLeDiff, Nat.reduceEqDiff, Nat.reduceLT, Nat.reduceSub, Nat.reduceBEq, forall_const, reduceCtorEq, implies_true, exists_eq_left', exists_eq_left, if_true, if_false, undef]
    exact ⟨k + 1, [some 10], rfl, by omega, by omega, by simp [Back, BackF, fzT, fzM, fzU, fz, fzL, fzO, kin, SubT, Sub, SubL, SubM, SubO, keepM, srcOk, look, lookM, ev, evs, putT, argT, EA, EB, EC, ED, EE, EF, EG, EH, XA, XB, XC, XD, XE, XF, XG, XH, XI, XJ, XK, XL, XM, reduceIte, ↓reduceIte, Nat.reduceAdd, Nat.reduceLeDiff, Nat.reduceEqDiff, Nat.reduceLT, Nat.reduceSub, Nat.reduceBEq, forall_const, reduceCtorEq, implies_true, exists_eq_left', exists_eq_left, if_true, if_false, undef, hpr]⟩
  have f2 : decide ((p : Int) < 16) = true := by simp; omega
  have hw2 : IntKind.i64.wrap ((p : Int) + 1) = ((p + 1 : Nat) : Int) := by rw [wrap_id] <;> omega
  simp (maxSteps := 1000000) only [f2, EA, EB, EC, ED, EE, EF, EG, EH, XA, XB, XC, XD, XE, XF, XG, XH, XI, XJ, XK, XL, XM, reduceIte, ↓reduceIte, Nat.reduceAdd, Nat.reduceLeDiff, Nat.reduceEqDiff, Nat.reduceLT, Nat.reduceSub, Nat.reduceBEq, forall_const, reduceCtorEq, implies_true, exists_eq_left', exists_eq_left, if_true, if_false, undef]
  refine loopO Nat [10] (fun c => [I (c : Nat)]) (fun c => [(10, some (.arr 1 ((pf rule on can (4 * p + 2 * c)).map Bo)))]) (fun c => c ≤ 2) (fun c => 2 - c) (by decide) 0 (by simp) (by simp [Back, BackF, fzT, fzM, fzU, fz, fzL, fzO, kin, SubT, Sub, SubL, SubM, SubO, keepM, srcOk, look, lookM, ev, evs, putT, argT, EA, EB, EC, ED, EE, EF, EG, EH, XA, XB, XC, XD, XE, XF, XG, XH, XI, XJ, XK, XL, XM, reduceIte, ↓reduceIte, Nat.reduceAdd, Nat.reduceLeDiff, Nat.reduceEqDiff, Nat.reduceLT, Nat.reduceSub, Nat.reduceBEq, forall_const, reduceCtorEq, implies_true, exists_eq_left', exists_eq_left, if_true, if_false, undef]) (fun c hc => ?_)
  by_cases c3 : c < 2
  rotate_left
  · have f3 : decide ((c : Int) < 2) = false := by simp; omega
    have : c = 2 := by omega
    subst this
    simp (maxSteps := 1000000) only [f3, hw2, EA, EB, EC, ED, EE, EF, EG, EH, XA, XB, XC, XD, XE, XF, XG, XH, XI, XJ, XK, XL, XM, reduceIte, ↓reduceIte, Nat.reduceAdd, Nat.reduceLeDiff, Nat.reduceEqDiff, Nat.reduceLT, Nat.reduceSub, Nat.reduceBEq, forall_const, reduceCtorEq, implies_true, exists_eq_left', exists_eq_left, if_true, if_false, undef]
    exact ⟨p + 1, by omega, by omega, by simp [Back, BackF, fzT, fzM, fzU, fz, fzL, fzO, kin, SubT, Sub, SubL, SubM, SubO, keepM, srcOk, look, lookM, ev, evs, putT, argT, EA, EB, EC, ED, EE, EF, EG, EH, XA, XB, XC, XD, XE, XF, XG, XH, XI, XJ, XK, XL, XM, reduceIte, ↓reduceIte, Nat.reduceAdd, Nat.reduceLeDiff, Nat.reduceEqDiff, Nat.reduceLT, Nat.reduceSub, Nat.reduceBEq, forall_const, reduceCtorEq, implies_true, exists_eq_left', exists_eq_left, if_true, if_false, undef, show 4 * (p + 1) = 4 * p + 4 by omega]⟩
  have f3 : decide ((c : Int) < 2) = true := by simp; omega
  have hw3 : IntKind.i64.wrap ((c : Int) + 1) = ((c + 1 : Nat) : Int) := by rw [wrap_id] <;> omega
  simp (maxSteps := 1000000) only [f3, EA, EB, EC, ED, EE, EF, EG, EH, XA, XB, XC, XD, XE, XF, XG, XH, XI, XJ, XK, XL, XM, reduceIte, ↓reduceIte, Nat.reduceAdd, Nat.reduceLeDiff, Nat.reduceEqDiff, Nat.reduceLT, Nat.reduceSub, Nat.reduceBEq, forall_const, reduceCtorEq, implies_true, exists_eq_left', exists_eq_left, if_true, if_false, undef]
  refine loopO Nat [11] (fun d => [I (d : Nat)]) (fun d => [(10, some (.arr 1 ((pf rule on can (4 * p + 2 * c + d)).map Bo)))]) (fun d => d ≤ 2) (fun d => 2 - d) (by decide) 0 (by simp) (by simp [Back, BackF, fzT, fzM, fzU, fz, fzL, fzO, kin, SubT, Sub, SubL, SubM, SubO, keepM, srcOk, look, lookM, ev, evs, putT, argT, EA, EB, EC, ED, EE, EF, EG, EH, XA, XB, XC, XD, XE, XF, XG, XH, XI, XJ, XK, XL, XM, reduceIte, ↓reduceIte, Nat.reduceAdd, Nat.reduceLeDiff, Nat.reduceEqDiff, Nat.reduceLT, Nat.reduceSub, Nat.reduceBEq, forall_const, reduceCtorEq, implies_true, exists_eq_left', exists_eq_left, if_true, if_false, undef]) (fun d hd => ?_)
  by_cases c4 : d < 2
  rotate_left
  · have f4 : decide ((d : Int) < 2) = false := by simp; omega
    have : d = 2 := by omega
    subst this
    simp (maxSteps := 1000000) only [f4, hw3, EA, EB, EC, ED, EE, EF, EG, EH, XA, XB, XC, XD, XE, XF, XG, XH, XI, XJ, XK, XL, XM, reduceIte, ↓reduceIte, Nat.reduceAdd, Nat.reduceLeDiff, Nat.reduceEqDiff, Nat.reduceLT, Nat.reduceSub, Nat.reduceBEq, forall_const, reduceCtorEq, implies_true, exists_eq_left', exists_eq_left, if_true, if_false, undef]
    exact ⟨c + 1, by omega, by omega, by simp [Back, BackF, fzT, fzM, fzU, fz, fzL, fzO, kin, SubT, Sub, SubL, SubM, SubO, keepM, srcOk, look, lookM, ev, evs, putT, argT, EA, EB, EC, ED, EE, EF, EG, EH, XA, XB, XC, XD, XE, XF, XG, XH, XI, XJ, XK, XL, XM, reduceIte, ↓reduceIte, Nat.reduceAdd, Nat.reduceLeDiff, Nat.reduceEqDiff, Nat.reduceLT, Nat.reduceSub, Nat.reduceBEq, forall_const, reduceCtorEq, implies_true, exists_eq_left', exists_eq_left, if_true, if_false, undef, show 2 * (c + 1) = 2 * c + 2 by omega, ← Nat.add_assoc]⟩
  have f4 : decide ((d : Int) < 2) = true := by simp; omega
  have hw4 : IntKind.i64.wrap ((d : Int) + 1) = ((d + 1 : Nat) : Int) := by rw [wrap_id] <;> omega
  have hj1 : (4 * p + 2 * c + d) / 4 = p := by omega
  have hj2 : (4 * p + 2 * c + d) / 2 % 2 = c := by omega
  have hj3 : (4 * p + 2 * c + d) % 2 = d := by omega
  have hst : pf rule on can (4 * p + 2 * c + d + 1) = pput rule on can (pf rule on can (4 * p + 2 * c + d)) p c d := by rw [pf, hj1, hj2, hj3]
  have hnl : ((pf rule on can (4 * p + 2 * c + d)).map Bo).length = 16 := by rw [List.length_map, pf_length]
  have hq4 : Int.tdiv (p : Int) 4 = ((p / 4 : Nat) : Int) := tdivN p 4
  have hq : IntKind.i64.wrap ((p / 4 : Nat) : Int) = ((p / 4 : Nat) : Int) := by rw [wrap_id] <;> omega
  have hm4 : Int.tmod (p : Int) 4 = ((p % 4 : Nat) : Int) := tmodN p 4
  have hm2 : Int.tmod ((p / 4 : Nat) : Int) 2 = ((p / 4 % 2 : Nat) : Int) := tmodN (p / 4) 2
  have hm3 : Int.tmod ((p % 4 : Nat) : Int) 2 = ((p % 4 % 2 : Nat) : Int) := tmodN (p % 4) 2
  simp (maxSteps := 1000000) only [f4, hq4, hq, hm4, hm2, hm3, eq1N, ge2N, EA, EB, EC, ED, EE, EF, EG, EH, XA, XB, XC, XD, XE, XF, XG, XH, XI, XJ, XK, XL, XM, reduceIte, ↓reduceIte, Nat.reduceAdd, Nat.reduceLeDiff, Nat.reduceEqDiff, Nat.reduceLT, Nat.reduceSub, Nat.reduceBEq, forall_const, reduceCtorEq, implies_true, exists_eq_left', exists_eq_left, if_true, if_false, undef]
  refine ⟨by omega, by omega, by omega, ?_⟩
  refine callF (CallsA.args (truth_spec rule hr (decide (p / 4 ≥ 2)) (p / 4 % 2 == 1) (c == 1)) (by simp [EA, EB, EC, ED, EE, EF, EG, EH, XA, XB, XC, XD, XE, XF, XG, XH, XI, XJ, XK, XL, XM, reduceIte, ↓reduceIte, Nat.reduceAdd, Nat.reduceLeDiff, Nat.reduceEqDiff, Nat.reduceLT, Nat.reduceSub, Nat.reduceBEq, forall_const, reduceCtorEq, implies_true, exists_eq_left', exists_eq_left, if_true, if_false, undef])) rfl (by simp [flat, EA, EB, EC, ED, EE, EF, EG, EH, XA, XB, XC, XD, XE, XF, XG, XH, XI, XJ, XK, XL, XM, reduceIte, ↓reduceIte, Nat.reduceAdd, Nat.reduceLeDiff, Nat.reduceEqDiff, Nat.reduceLT, Nat.reduceSub, Nat.reduceBEq, forall_const, reduceCtorEq, implies_true, exists_eq_left', exists_eq_left, if_true, if_false, undef]) ?_
  simp (maxSteps := 1000000) only [hm3, eq1N, ge2N, EA, EB, EC, ED, EE, EF, EG, EH, XA, XB, XC, XD, XE, XF, XG, XH, XI, XJ, XK, XL, XM, reduceIte, ↓reduceIte, Nat.reduceAdd, Nat.reduceLeDiff, Nat.reduceEqDiff, Nat.reduceLT, Nat.reduceSub, Nat.reduceBEq, forall_const, reduceCtorEq, implies_true, exists_eq_left', exists_eq_left, if_true, if_false, undef]
  refine ⟨by omega, ?_⟩
  refine callF (CallsA.args (truth_spec rule hr (decide (p % 4 ≥ 2)) (p % 4 % 2 == 1) (d == 1)) (by simp [EA, EB, EC, ED, EE, EF, EG, EH, XA, XB, XC, XD, XE, XF, XG, XH, XI, XJ, XK, XL, XM, reduceIte, ↓reduceIte, Nat.reduceAdd, Nat.reduceLeDiff, Nat.reduceEqDiff, Nat.reduceLT, Nat.reduceSub, Nat.reduceBEq, forall_const, reduceCtorEq, implies_true, exists_eq_left', exists_eq_left, if_true, if_false, undef])) rfl (by simp [flat, EA, EB, EC, ED, EE, EF, EG, EH, XA, XB, XC, XD, XE, XF, XG, XH, XI, XJ, XK, XL, XM, reduceIte, ↓reduceIte, Nat.reduceAdd, Nat.reduceLeDiff, Nat.reduceEqDiff, Nat.reduceLT, Nat.reduceSub, Nat.reduceBEq, forall_const, reduceCtorEq, implies_true, exists_eq_left', exists_eq_left, if_true, if_false, undef]) ?_
  have hps : (tru rule (decide (p / 4 ≥ 2)) (p / 4 % 2 == 1) (c == 1) != tru rule (decide (p % 4 ≥ 2)) (p % 4 % 2 == 1) (d == 1)) = !psame rule p c d := rfl
  cases hsm : psame rule p c d
  · rw [hsm] at hps
    have hpp : pput rule on can (pf rule on can (4 * p + 2 * c + d)) p c d = pf rule on can (4 * p + 2 * c + d) := by rw [pput, hsm, if_neg (by simp)]
    simp (maxSteps := 1000000) only [hps, hw4, EA, EB, EC, ED, EE, EF, EG, EH, XA, XB, XC, XD, XE, XF, XG, XH, XI, XJ, XK, XL, XM, reduceIte, ↓reduceIte, Nat.reduceAdd, Nat.reduceLeDiff, Nat.reduceEqDiff, Nat.reduceLT, Nat.reduceSub, Nat.reduceBEq, forall_const, reduceCtorEq, implies_true, exists_eq_left', exists_eq_left, if_true, if_false, undef]
    exact ⟨d + 1, by omega, by omega, by simp [Back, BackF, fzT, fzM, fzU, fz, fzL, fzO, kin, SubT, Sub, SubL, SubM, SubO, keepM, srcOk, look, lookM, ev, evs, putT, argT, EA, EB, EC, ED, EE, EF, EG, EH, XA, XB, XC, XD, XE, XF, XG, XH, XI, XJ, XK, XL, XM, reduceIte, ↓reduceIte, Nat.reduceAdd, Nat.reduceLeDiff, Nat.reduceEqDiff, Nat.reduceLT, Nat.reduceSub, Nat.reduceBEq, forall_const, reduceCtorEq, implies_true, exists_eq_left', exists_eq_left, if_true, if_false, undef, ← Nat.add_assoc, hst, hpp]⟩
  rw [hsm] at hps
  have v1 : IntKind.i64.wrap (((p / 4 % 2 : Nat) : Int) * 2) = ((p / 4 % 2 * 2 : Nat) : Int) := by rw [wrap_id] <;> omega
  have v2 : IntKind.i64.wrap (((p / 4 % 2 * 2 : Nat) : Int) + (c : Int)) = ((p / 4 % 2 * 2 + c : Nat) : Int) := by rw [wrap_id] <;> omega
  have v3 : IntKind.i64.wrap (((p / 4 % 2 * 2 + c : Nat) : Int) * 4) = (((p / 4 % 2 * 2 + c) * 4 : Nat) : Int) := by rw [wrap_id] <;> omega
  have v4 : IntKind.i64.wrap (((p % 4 % 2 : Nat) : Int) * 2) = ((p % 4 % 2 * 2 : Nat) : Int) := by rw [wrap_id] <;> omega
  have v5 : IntKind.i64.wrap ((((p / 4 % 2 * 2 + c) * 4 : Nat) : Int) + ((p % 4 % 2 * 2 : Nat) : Int)) = (((p / 4 % 2 * 2 + c) * 4 + p % 4 % 2 * 2 : Nat) : Int) := by rw [wrap_id] <;> omega
  have v6 : IntKind.i64.wrap ((((p / 4 % 2 * 2 + c) * 4 + p % 4 % 2 * 2 : Nat) : Int) + (d : Int)) = ((pqP p c d : Nat) : Int) := by rw [pqP, wrap_id] <;> omega
  have hql : pqP p c d < 16 := by unfold pqP; omega
  have hget : ∀ i, i < 16 → (can.map Bo)[i]? = some (Bo (can.getD i false)) := fun i hi => by
    rw [List.getElem?_map, List.getElem?_eq_getElem (by omega), List.getD_eq_getElem?_getD, List.getElem?_eq_getElem (by omega)]; rfl
  simp (maxSteps := 1000000) only [hps, hm2, hm3, v1, v2, v3, v4, v5, v6, EA, EB, EC, ED, EE, EF, EG, EH, XA, XB, XC, XD, XE, XF, XG, XH, XI, XJ, XK, XL, XM, reduceIte, ↓reduceIte, Nat.reduceAdd, Nat.reduceLeDiff, Nat.reduceEqDiff, Nat.reduceLT, Nat.reduceSub, Nat.reduceBEq, forall_const, reduceCtorEq, implies_true, exists_eq_left', exists_eq_left, if_true, if_false, undef]
  refine ⟨by omega, by omega, ?_⟩
  cases on
  · simp (maxSteps := 1000000) only [v6, EA, EB, EC, ED, EE, EF, EG, EH, XA, XB, XC, XD, XE, XF, XG, XH, XI, XJ, XK, XL, XM, reduceIte, ↓reduceIte, Nat.reduceAdd, Nat.reduceLeDiff, Nat.reduceEqDiff, Nat.reduceLT, Nat.reduceSub, Nat.reduceBEq, forall_const, reduceCtorEq, implies_true, exists_eq_left', exists_eq_left, if_true, if_false, undef]
    refine ⟨by omega, by omega, ?_⟩
    simp (maxSteps := 1000000) only [Int.toNat_natCast, EA, EB, EC, ED, EE, EF, EG, EH, XA, XB, XC, XD, XE, XF, XG, XH, XI, XJ, XK, XL, XM, reduceIte, ↓reduceIte, Nat.reduceAdd, Nat.reduceLeDiff, Nat.reduceEqDiff, Nat.reduceLT, Nat.reduceSub, Nat.reduceBEq, forall_const, reduceCtorEq, implies_true, exists_eq_left', exists_eq_left, if_true, if_false, undef]
    refine Pick.mk _ (hget p c2) ?_
    cases hcan : can.getD p false
    · have hpp : pput rule false can (pf rule false can (4 * p + 2 * c + d)) p c d = pf rule false can (4 * p + 2 * c + d) := by rw [pput, hsm, if_pos rfl, if_neg (by simp), hcan, if_neg (by simp)]
      simp (maxSteps := 1000000) only [hw4, EA, EB, EC, ED, EE, EF, EG, EH, XA, XB, XC, XD, XE, XF, XG, XH, XI, XJ, XK, XL, XM, reduceIte, ↓reduceIte, Nat.reduceAdd, Nat.reduceLeDiff, Nat.reduceEqDiff, Nat.reduceLT, Nat.reduceSub, Nat.reduceBEq, forall_const, reduceCtorEq, implies_true, exists_eq_left', exists_eq_left, if_true, if_false, undef]
      exact ⟨d + 1, by omega, by omega, by simp [Back, BackF, fzT, fzM, fzU, fz, fzL, fzO, kin, SubT, Sub, SubL, SubM, SubO, keepM, srcOk, look, lookM, ev, evs, putT, argT, EA, EB, EC, ED, EE, EF, EG, EH, XA, XB, XC, XD, XE, XF, XG, XH, XI, XJ, XK, XL, XM, reduceIte, ↓reduceIte, Nat.reduceAdd, Nat.reduceLeDiff, Nat.reduceEqDiff, Nat.reduceLT, Nat.reduceSub, Nat.reduceBEq, forall_const, reduceCtorEq, implies_true, exists_eq_left', exists_eq_left, if_true, if_false, undef, ← Nat.add_assoc, hst, hpp]⟩
    · have hpp : pput rule false can (pf rule false can (4 * p + 2 * c + d)) p c d = (pf rule false can (4 * p + 2 * c + d)).set (pqP p c d) true := by rw [pput, hsm, if_pos rfl, if_neg (by simp), hcan, if_pos rfl]
      simp (maxSteps := 1000000) only [hw4, EA, EB, EC, ED, EE, EF, EG, EH, XA, XB, XC, XD, XE, XF, XG, XH, XI, XJ, XK, XL, XM, reduceIte, ↓reduceIte, Nat.reduceAdd, Nat.reduceLeDiff, Nat.reduceEqDiff, Nat.reduceLT, Nat.reduceSub, Nat.reduceBEq, forall_const, reduceCtorEq, implies_true, exists_eq_left', exists_eq_left, if_true, if_false, undef]
      refine ⟨by omega, by omega, ?_⟩
      simp (maxSteps := 1000000) only [hnl, Int.toNat_natCast, hw4, EA, EB, EC, ED, EE, EF, EG, EH, XA, XB, XC, XD, XE, XF, XG, XH, XI, XJ, XK, XL, XM, reduceIte, ↓reduceIte, Nat.reduceAdd, Nat.reduceLeDiff, Nat.reduceEqDiff, Nat.reduceLT, Nat.reduceSub, Nat.reduceBEq, forall_const, reduceCtorEq, implies_true, exists_eq_left', exists_eq_left, if_true, if_false, undef]
      refine ⟨hql, ?_⟩
      exact ⟨d + 1, by omega, by omega, by simp [Back, BackF, fzT, fzM, fzU, fz, fzL, fzO, kin, SubT, Sub, SubL, SubM, SubO, keepM, srcOk, look, lookM, ev, evs, putT, argT, EA, EB, EC, ED, EE, EF, EG, EH, XA, XB, XC, XD, XE, XF, XG, XH, XI, XJ, XK, XL, XM, reduceIte, ↓reduceIte, Nat.reduceAdd, Nat.reduceLeDiff, Nat.reduceEqDiff, Nat.reduceLT, Nat.reduceSub, Nat.reduceBEq, forall_const, reduceCtorEq, implies_true, exists_eq_left', exists_eq_left, if_true, if_false, undef, ← Nat.add_assoc, hst, hpp]⟩
  · simp (maxSteps := 1000000) only [v6, EA, EB, EC, ED, EE, EF, EG, EH, XA, XB, XC, XD, XE, XF, XG, XH, XI, XJ, XK, XL, XM, reduceIte, ↓reduceIte, Nat.reduceAdd, Nat.reduceLeDiff, Nat.reduceEqDiff, Nat.reduceLT, Nat.reduceSub, Nat.reduceBEq, forall_const, reduceCtorEq, implies_true, exists_eq_left', exists_eq_left, if_true, if_false, undef]
    refine ⟨by omega, by omega, ?_⟩
    simp (maxSteps := 1000000) only [Int.toNat_natCast, EA, EB, EC, ED, EE, EF, EG, EH, XA, XB, XC, XD, XE, XF, XG, XH, XI, XJ, XK, XL, XM, reduceIte, ↓reduceIte, Nat.reduceAdd, Nat.reduceLeDiff, Nat.reduceEqDiff, Nat.reduceLT, Nat.reduceSub, Nat.reduceBEq, forall_const, reduceCtorEq, implies_true, exists_eq_left', exists_eq_left, if_true, if_false, undef]
    refine Pick.mk _ (hget (pqP p c d) hql) ?_
    cases hcan : can.getD (pqP p c d) false
    · have hpp : pput rule true can (pf rule true can (4 * p + 2 * c + d)) p c d = pf rule true can (4 * p + 2 * c + d) := by rw [pput, hsm, if_pos rfl, if_pos rfl, hcan, if_neg (by simp)]
      simp (maxSteps := 1000000) only [hw4, EA, EB, EC, ED, EE, EF, EG, EH, XA, XB, XC, XD, XE, XF, XG, XH, XI, XJ, XK, XL, XM, reduceIte, ↓reduceIte, Nat.reduceAdd, Nat.reduceLeDiff, Nat.reduceEqDiff, Nat.reduceLT, Nat.reduceSub, Nat.reduceBEq, forall_const, reduceCtorEq, implies_true, exists_eq_left', exists_eq_left, if_true, if_false, undef]
      exact ⟨d + 1, by omega, by omega, by simp [Back, BackF, fzT, fzM, fzU, fz, fzL, fzO, kin, SubT, Sub, SubL, SubM, SubO, keepM, srcOk, look, lookM, ev, evs, putT, argT, EA, EB, EC, ED, EE, EF, EG, EH, XA, XB, XC, XD, XE, XF, XG, XH, XI, XJ, XK, XL, XM, reduceIte, ↓reduceIte, Nat.reduceAdd, Nat.reduceLeDiff, Nat.reduceEqDiff, Nat.reduceLT, Nat.reduceSub, Nat.reduceBEq, forall_const, reduceCtorEq, implies_true, exists_eq_left', exists_eq_left, if_true, if_false, undef, ← Nat.add_assoc, hst, hpp]⟩
    · have hpp : pput rule true can (pf rule true can (4 * p + 2 * c + d)) p c d = (pf rule true can (4 * p + 2 * c + d)).set p true := by rw [pput, hsm, if_pos rfl, if_pos rfl, hcan, if_pos rfl]
      simp (maxSteps := 1000000) only [hw4, EA, EB, EC, ED, EE, EF, EG, EH, XA, XB, XC, XD, XE, XF, XG, XH, XI, XJ, XK, XL, XM, reduceIte, ↓reduceIte, Nat.reduceAdd, Nat.reduceLeDiff, Nat.reduceEqDiff, Nat.reduceLT, Nat.reduceSub, Nat.reduceBEq, forall_const, reduceCtorEq, implies_true, exists_eq_left', exists_eq_left, if_true, if_false, undef]
      refine ⟨by omega, by omega, ?_⟩
      simp (maxSteps := 1000000) only [hnl, Int.toNat_natCast, hw4, EA, EB, EC, ED, EE, EF, EG, EH, XA, XB, XC, XD, XE, XF, XG, XH, XI, XJ, XK, XL, XM, reduceIte, ↓reduceIte, Nat.reduceAdd, Nat.reduceLeDiff, Nat.reduceEqDiff, Nat.reduceLT, Nat.reduceSub, Nat.reduceBEq, forall_const, reduceCtorEq, implies_true, exists_eq_left', exists_eq_left, if_true, if_false, undef]
      refine ⟨c2, ?_⟩
      exact ⟨d + 1, by omega, by omega, by simp [Back, BackF, fzT, fzM, fzU, fz, fzL, fzO, kin, SubT, Sub, SubL, SubM, SubO, keepM, srcOk, look, lookM, ev, evs, putT, argT, EA, EB, EC, ED, EE, EF, EG, EH, XA, XB, XC, XD, XE, XF, XG, XH, XI, XJ, XK, XL, XM, reduceIte, ↓reduceIte, Nat.reduceAdd, Nat.reduceLeDiff, Nat.reduceEqDiff, Nat.reduceLT, Nat.reduceSub, Nat.reduceBEq, forall_const, reduceCtorEq, implies_true, exists_eq_left', exists_eq_left, if_true, if_false, undef, ← Nat.add_assoc, hst, hpp]⟩

def apartB (rule p : Nat) : Bool := (pr rule true 17).getD p false && (pr rule false 17).getD p false && (p / 4 != p % 4)
def singleB (rule : Nat) : Bool := (List.range 16).all fun p => !apartB rule p

theorem refSingle_spec (rule : Nat) (hr : rule < 256) : CallsA Try.prog 22 [I rule] (Bo (singleB rule)) [] := by
  refine fn_of0 comp22 (by simp) ?_
  unfold code22
  simp (maxSteps := 1000000) only [EA, EB, EC, ED, EE, EF, EG, EH, XA, XB, XC, XD, XE, XF, XG, XH, XI, XJ, XK, XL, XM, reduceIte, ↓reduceIte, Nat.reduceAdd, Nat.reduceLeDiff, Nat.reduceEqDiff, Nat.reduceLT, Nat.reduceSub, Nat.reduceBEq, forall_const, reduceCtorEq, implies_true, exists_eq_left', exists_eq_left, if_true, if_false, undef]
  refine callA (CallsA.args (pairsOn_spec rule hr true) (by simp [EA, EB, EC, ED, EE, EF, EG, EH, XA, XB, XC, XD, XE, XF, XG, XH, XI, XJ, XK, XL, XM, reduceIte, ↓reduceIte, Nat.reduceAdd, Nat.reduceLeDiff, Nat.reduceEqDiff, Nat.reduceLT, Nat.reduceSub, Nat.reduceBEq, forall_const, reduceCtorEq, implies_true, exists_eq_left', exists_eq_left, if_true, if_false, undef])) rfl ?_
  simp (maxSteps := 1000000) only [EA, EB, EC, ED, EE, EF, EG, EH, XA, XB, XC, XD, XE, XF, XG, XH, XI, XJ, XK, XL, XM, reduceIte, ↓reduceIte, Nat.reduceAdd, Nat.reduceLeDiff, Nat.reduceEqDiff, Nat.reduceLT, Nat.reduceSub, Nat.reduceBEq, forall_const, reduceCtorEq, implies_true, exists_eq_left', exists_eq_left, if_true, if_false, undef]
  refine callA (CallsA.args (pairsOn_spec rule hr false) (by simp [EA, EB, EC, ED, EE, EF, EG, EH, XA, XB, XC, XD, XE, XF, XG, XH, XI, XJ, XK, XL, XM, reduceIte, ↓reduceIte, Nat.reduceAdd, Nat.reduceLeDiff, Nat.reduceEqDiff, Nat.reduceLT, Nat.reduceSub, Nat.reduceBEq, forall_const, reduceCtorEq, implies_true, exists_eq_left', exists_eq_left, if_true, if_false, undef])) rfl ?_
  simp (maxSteps := 1000000) only [EA, EB, EC, ED, EE, EF, EG, EH, XA, XB, XC, XD, XE, XF, XG, XH, XI, XJ, XK, XL, XM, reduceIte, ↓reduceIte, Nat.reduceAdd, Nat.reduceLeDiff, Nat.reduceEqDiff, Nat.reduceLT, Nat.reduceSub, Nat.reduceBEq, forall_const, reduceCtorEq, implies_true, exists_eq_left', exists_eq_left, if_true, if_false, undef]
  have l1 := pr_length rule true 17
  have l2 := pr_length rule false 17
  have hget : ∀ (can : List Bool) i, can.length = 16 → i < 16 → (can.map Bo)[i]? = some (Bo (can.getD i false)) := fun can i hl hi => by
    rw [List.getElem?_map, List.getElem?_eq_getElem (by omega), List.getD_eq_getElem?_getD, List.getElem?_eq_getElem (by omega)]; rfl
  refine loop0 Nat [5] (fun p => [I (p : Nat)]) (fun p => p ≤ 16 ∧ ∀ j, j < p → apartB rule j = false) (fun p => 16 - p) (by decide) 0 (by simp) (by simp [Back, BackF, fzT, fzM, fzU, fz, fzL, fzO, kin, SubT, Sub, SubL, SubM, SubO, keepM, srcOk, look, lookM, ev, evs, putT, argT, EA, EB, EC, ED, EE, EF, EG, EH, XA, XB, XC, XD, XE, XF, XG, XH, XI, XJ, XK, XL, XM, reduceIte, ↓reduceIte, Nat.reduceAdd, Nat.reduceLeDiff, Nat.reduceEqDiff, Nat.reduceLT, Nat.reduceSub, Nat.reduceBEq, forall_const, reduceCtorEq, implies_true, exists_eq_left', exists_eq_left, if_true, if_false, undef]) (fun p hp => ?_)
  obtain ⟨hp, hno⟩ := hp
  by_cases c2 : p < 16
  rotate_left
  · have f2 : decide ((p : Int) < 16) = false := by simp; omega
    have : p = 16 := by omega
    subst this
    have hs : singleB rule = true := by
      rw [singleB, List.all_eq_true]; intro j hj; rw [hno j (by simpa using hj)]; rfl
    simp (maxSteps := 1000000) only [f2, hs, EA, EB, EC, ED, EE, EF, EG, EH, XA, XB, XC, XD, XE, XF, XG, XH, XI, XJ, XK, XL, XM, reduceIte, ↓reduceIte, Nat.reduceAdd, Nat.reduceLeDiff, Nat.reduceEqDiff, Nat.reduceLT, Nat.reduceSub, Nat.reduceBEq, forall_const, reduceCtorEq, implies_true, exists_eq_left', exists_eq_left, if_true, if_false, undef]
  have f2 : decide ((p : Int) < 16) = true := by simp; omega
  have hw2 : IntKind.i64.wrap ((p : Int) + 1) = ((p + 1 : Nat) : Int) := by rw [wrap_id] <;> omega
  have on : apartB rule p = false → ∀ j, j < p + 1 → apartB rule j = false := fun h j hj => by
    by_cases hj' : j < p
    · exact hno j hj'
    · rw [show j = p by omega]; exact h
  have hq4 : Int.tdiv (p : Int) 4 = ((p / 4 : Nat) : Int) := tdivN p 4
  have hq : IntKind.i64.wrap ((p / 4 : Nat) : Int) = ((p / 4 : Nat) : Int) := by rw [wrap_id] <;> omega
  have hm4 : Int.tmod (p : Int) 4 = ((p % 4 : Nat) : Int) := tmodN p 4
  have hne : (((p / 4 : Nat) : Int) != ((p % 4 : Nat) : Int)) = (p / 4 != p % 4) := by rw [Bool.eq_iff_iff]; simp; omega
  simp (maxSteps := 1000000) only [f2, EA, EB, EC, ED, EE, EF, EG, EH, XA, XB, XC, XD, XE, XF, XG, XH, XI, XJ, XK, XL, XM, reduceIte, ↓reduceIte, Nat.reduceAdd, Nat.reduceLeDiff, Nat.reduceEqDiff, Nat.reduceLT, Nat.reduceSub, Nat.reduceBEq, forall_const, reduceCtorEq, implies_true, exists_eq_left', exists_eq_left, if_true, if_false, undef]
  refine ⟨by omega, Pick.mk _ (by rw [Int.toNat_natCast]; exact hget _ p l1 c2) ?_⟩
  cases h1 : (pr rule true 17).getD p false
  · have ha : apartB rule p = false := by rw [apartB, h1]; rfl
    simp (maxSteps := 1000000) only [hw2, EA, EB, EC, ED, EE, EF, EG, EH, XA, XB, XC, XD, XE, XF, XG, XH, XI, XJ, XK, XL, XM, reduceIte, ↓reduceIte, Nat.reduceAdd, Nat.reduceLeDiff, Nat.reduceEqDiff, Nat.reduceLT, Nat.reduceSub, Nat.reduceBEq, forall_const, reduceCtorEq, implies_true, exists_eq_left', exists_eq_left, if_true, if_false, undef]
    exact ⟨p + 1, ⟨by omega, on ha⟩, by omega, by simp [Back, BackF, fzT, fzM, fzU, fz, fzL, fzO, kin, SubT, Sub, SubL, SubM, SubO, keepM, srcOk, look, lookM, ev, evs, putT, argT, EA, EB, EC, ED, EE, EF, EG, EH, XA, XB, XC, XD, XE, XF, XG, XH, XI, XJ, XK, XL, XM, reduceIte, ↓reduceIte, Nat.reduceAdd, Nat.reduceLeDiff, Nat.reduceEqDiff, Nat.reduceLT, Nat.reduceSub, Nat.reduceBEq, forall_const, reduceCtorEq, implies_true, exists_eq_left', exists_eq_left, if_true, if_false, undef]⟩
  simp (maxSteps := 1000000) only [EA, EB, EC, ED, EE, EF, EG, EH, XA, XB, XC, XD, XE, XF, XG, XH, XI, XJ, XK, XL, XM, reduceIte, ↓reduceIte, Nat.reduceAdd, Nat.reduceLeDiff, Nat.reduceEqDiff, Nat.reduceLT, Nat.reduceSub, Nat.reduceBEq, forall_const, reduceCtorEq, implies_true, exists_eq_left', exists_eq_left, if_true, if_false, undef]
  refine ⟨by omega, Pick.mk _ (by rw [Int.toNat_natCast]; exact hget _ p l2 c2) ?_⟩
  cases h2 : (pr rule false 17).getD p false
  · have ha : apartB rule p = false := by rw [apartB, h1, h2]; rfl
    simp (maxSteps := 1000000) only [hw2, EA, EB, EC, ED, EE, EF, EG, EH, XA, XB, XC, XD, XE, XF, XG, XH, XI, XJ, XK, XL, XM, reduceIte, ↓reduceIte, Nat.reduceAdd, Nat.reduceLeDiff, Nat.reduceEqDiff, Nat.reduceLT, Nat.reduceSub, Nat.reduceBEq, forall_const, reduceCtorEq, implies_true, exists_eq_left', exists_eq_left, if_true, if_false, undef]
    exact ⟨p + 1, ⟨by omega, on ha⟩, by omega, by simp [Back, BackF, fzT, fzM, fzU, fz, fzL, fzO, kin, SubT, Sub, SubL, SubM, SubO, keepM, srcOk, look, lookM, ev, evs, putT, argT, EA, EB, EC, ED, EE, EF, EG, EH, XA, XB, XC, XD, XE, XF, XG, XH, XI, XJ, XK, XL, XM, reduceIte, ↓reduceIte, Nat.reduceAdd, Nat.reduceLeDiff, Nat.reduceEqDiff, Nat.reduceLT, Nat.reduceSub, Nat.reduceBEq, forall_const, reduceCtorEq, implies_true, exists_eq_left', exists_eq_left, if_true, if_false, undef]⟩
  have ha : apartB rule p = (p / 4 != p % 4) := by rw [apartB, h1, h2]; rfl
  simp (maxSteps := 1000000) only [hq4, hq, hm4, hne, EA, EB, EC, ED, EE, EF, EG, EH, XA, XB, XC, XD, XE, XF, XG, XH, XI, XJ, XK, XL, XM, reduceIte, ↓reduceIte, Nat.reduceAdd, Nat.reduceLeDiff, Nat.reduceEqDiff, Nat.reduceLT, Nat.reduceSub, Nat.reduceBEq, forall_const, reduceCtorEq, implies_true, exists_eq_left', exists_eq_left, if_true, if_false, undef]
  refine ⟨by omega, by omega, ?_⟩
  cases h3 : (p / 4 != p % 4)
  · rw [h3] at ha
    simp (maxSteps := 1000000) only [hw2, EA, EB, EC, ED, EE, EF, EG, EH, XA, XB, XC, XD, XE, XF, XG, XH, XI, XJ, XK, XL, XM, reduceIte, ↓reduceIte, Nat.reduceAdd, Nat.reduceLeDiff, Nat.reduceEqDiff, Nat.reduceLT, Nat.reduceSub, Nat.reduceBEq, forall_const, reduceCtorEq, implies_true, exists_eq_left', exists_eq_left, if_true, if_false, undef]
    exact ⟨p + 1, ⟨by omega, on ha⟩, by omega, by simp [Back, BackF, fzT, fzM, fzU, fz, fzL, fzO, kin, SubT, Sub, SubL, SubM, SubO, keepM, srcOk, look, lookM, ev, evs, putT, argT, EA, EB, EC, ED, EE, EF, EG, EH, XA, XB, XC, XD, XE, XF, XG, XH, XI, XJ, XK, XL, XM, reduceIte, ↓reduceIte, Nat.reduceAdd, Nat.reduceLeDiff, Nat.reduceEqDiff, Nat.reduceLT, Nat.reduceSub, Nat.reduceBEq, forall_const, reduceCtorEq, implies_true, exists_eq_left', exists_eq_left, if_true, if_false, undef]⟩
  · rw [h3] at ha
    have hs : singleB rule = false := by
      rw [singleB, List.all_eq_false]; exact ⟨p, by simp [c2], by simp [ha]⟩
    simp (maxSteps := 1000000) only [hs, EA, EB, EC, ED, EE, EF, EG, EH, XA, XB, XC, XD, XE, XF, XG, XH, XI, XJ, XK, XL, XM, reduceIte, ↓reduceIte, Nat.reduceAdd, Nat.reduceLeDiff, Nat.reduceEqDiff, Nat.reduceLT, Nat.reduceSub, Nat.reduceBEq, forall_const, reduceCtorEq, implies_true, exists_eq_left', exists_eq_left, if_true, if_false, undef]

end Go.Av
