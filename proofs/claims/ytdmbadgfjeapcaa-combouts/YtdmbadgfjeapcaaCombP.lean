/- Terms of combinators: the program's functions. -/
import Derived.Test.YtdmbadgfjeapcaaCombQ
set_option linter.unusedSimpArgs false
set_option linter.unusedVariables false
set_option maxRecDepth 100000
namespace Go.Av
open Go.Proofs

theorem listP_spec (t : Tm) (h : t.size ≤ 300) : CallsA Try.prog 33 [encP t] (.ro 4 ((wrT t []).map encC)) [] := by
  obtain ⟨x, y, z, u, ha⟩ := cellsP_form t
  have hc : capT t = t.size := by unfold capT; omega
  have hap := appendTo_spec t [] (by simp; omega)
  rw [encP, ha] at hap
  refine fn_of0 comp33 (by simp) ?_
  unfold code33
  rw [encP, ha]
  simp (maxSteps := 1000000) only [encC, EA, EB, EC, ED, EE, EF, EG, EH, XA, XB, XC, XD, XE, XF, XG, XH, XI, XJ, XK, XL, XM, reduceIte, ↓reduceIte, Nat.reduceAdd, Nat.reduceLeDiff, Nat.reduceEqDiff, Nat.reduceLT, Nat.reduceSub, Nat.reduceBEq, forall_const, reduceCtorEq, implies_true, exists_eq_left', exists_eq_left, if_true, if_false, undef]
  refine ⟨by omega, by omega, by omega, ?_⟩
  simp (maxSteps := 1000000) only [List.map_nil, List.length_nil] at hap
  refine callM [some 6] (hap) (by simp [encC, EA, EB, EC, ED, EE, EF, EG, EH, XA, XB, XC, XD, XE, XF, XG, XH, XI, XJ, XK, XL, XM, reduceIte, ↓reduceIte, Nat.reduceAdd, Nat.reduceLeDiff, Nat.reduceEqDiff, Nat.reduceLT, Nat.reduceSub, Nat.reduceBEq, forall_const, reduceCtorEq, implies_true, exists_eq_left', exists_eq_left, if_true, if_false, undef]) (by simp [encC, EA, EB, EC, ED, EE, EF, EG, EH, XA, XB, XC, XD, XE, XF, XG, XH, XI, XJ, XK, XL, XM, reduceIte, ↓reduceIte, Nat.reduceAdd, Nat.reduceLeDiff, Nat.reduceEqDiff, Nat.reduceLT, Nat.reduceSub, Nat.reduceBEq, forall_const, reduceCtorEq, implies_true, exists_eq_left', exists_eq_left, if_true, if_false, undef]) (by simp [encC, EA, EB, EC, ED, EE, EF, EG, EH, XA, XB, XC, XD, XE, XF, XG, XH, XI, XJ, XK, XL, XM, reduceIte, ↓reduceIte, Nat.reduceAdd, Nat.reduceLeDiff, Nat.reduceEqDiff, Nat.reduceLT, Nat.reduceSub, Nat.reduceBEq, forall_const, reduceCtorEq, implies_true, exists_eq_left', exists_eq_left, if_true, if_false, undef]) ?_
  simp (maxSteps := 1000000) only [encC, EA, EB, EC, ED, EE, EF, EG, EH, XA, XB, XC, XD, XE, XF, XG, XH, XI, XJ, XK, XL, XM, reduceIte, ↓reduceIte, Nat.reduceAdd, Nat.reduceLeDiff, Nat.reduceEqDiff, Nat.reduceLT, Nat.reduceSub, Nat.reduceBEq, forall_const, reduceCtorEq, implies_true, exists_eq_left', exists_eq_left, if_true, if_false, undef]
  exact List.take_of_length_le (by simp)

theorem writeP_spec (t : Tm) : CallsA Try.prog 29 [encP t] (if 300 < t.size then .tup [noC, I 7] else .tup [.ro 4 ((wrT t []).map encC), I 0]) [] := by
  refine fn_of0 comp29 (by simp) ?_
  unfold code29
  simp (maxSteps := 1000000) only [encC, EA, EB, EC, ED, EE, EF, EG, EH, XA, XB, XC, XD, XE, XF, XG, XH, XI, XJ, XK, XL, XM, reduceIte, ↓reduceIte, Nat.reduceAdd, Nat.reduceLeDiff, Nat.reduceEqDiff, Nat.reduceLT, Nat.reduceSub, Nat.reduceBEq, forall_const, reduceCtorEq, implies_true, exists_eq_left', exists_eq_left, if_true, if_false, undef]
  refine callF (CallsA.args (isLongP_spec t) (by simp [encC, EA, EB, EC, ED, EE, EF, EG, EH, XA, XB, XC, XD, XE, XF, XG, XH, XI, XJ, XK, XL, XM, reduceIte, ↓reduceIte, Nat.reduceAdd, Nat.reduceLeDiff, Nat.reduceEqDiff, Nat.reduceLT, Nat.reduceSub, Nat.reduceBEq, forall_const, reduceCtorEq, implies_true, exists_eq_left', exists_eq_left, if_true, if_false, undef])) rfl (by simp [flat, encC, EA, EB, EC, ED, EE, EF, EG, EH, XA, XB, XC, XD, XE, XF, XG, XH, XI, XJ, XK, XL, XM, reduceIte, ↓reduceIte, Nat.reduceAdd, Nat.reduceLeDiff, Nat.reduceEqDiff, Nat.reduceLT, Nat.reduceSub, Nat.reduceBEq, forall_const, reduceCtorEq, implies_true, exists_eq_left', exists_eq_left, if_true, if_false, undef]) ?_
  by_cases h : 300 < t.size
  · have f : decide (300 < t.size) = true := by simpa using h
    rw [if_pos h]
    simp (maxSteps := 1000000) only [f, Bo, encC, EA, EB, EC, ED, EE, EF, EG, EH, XA, XB, XC, XD, XE, XF, XG, XH, XI, XJ, XK, XL, XM, reduceIte, ↓reduceIte, Nat.reduceAdd, Nat.reduceLeDiff, Nat.reduceEqDiff, Nat.reduceLT, Nat.reduceSub, Nat.reduceBEq, forall_const, reduceCtorEq, implies_true, exists_eq_left', exists_eq_left, if_true, if_false, undef]
  · have f : decide (300 < t.size) = false := by simpa using h
    rw [if_neg h]
    simp (maxSteps := 1000000) only [f, Bo, encC, EA, EB, EC, ED, EE, EF, EG, EH, XA, XB, XC, XD, XE, XF, XG, XH, XI, XJ, XK, XL, XM, reduceIte, ↓reduceIte, Nat.reduceAdd, Nat.reduceLeDiff, Nat.reduceEqDiff, Nat.reduceLT, Nat.reduceSub, Nat.reduceBEq, forall_const, reduceCtorEq, implies_true, exists_eq_left', exists_eq_left, if_true, if_false, undef]
    refine callA (CallsA.args (listP_spec t (by omega)) (by simp [encC, EA, EB, EC, ED, EE, EF, EG, EH, XA, XB, XC, XD, XE, XF, XG, XH, XI, XJ, XK, XL, XM, reduceIte, ↓reduceIte, Nat.reduceAdd, Nat.reduceLeDiff, Nat.reduceEqDiff, Nat.reduceLT, Nat.reduceSub, Nat.reduceBEq, forall_const, reduceCtorEq, implies_true, exists_eq_left', exists_eq_left, if_true, if_false, undef])) rfl ?_
    simp (maxSteps := 1000000) only [encC, EA, EB, EC, ED, EE, EF, EG, EH, XA, XB, XC, XD, XE, XF, XG, XH, XI, XJ, XK, XL, XM, reduceIte, ↓reduceIte, Nat.reduceAdd, Nat.reduceLeDiff, Nat.reduceEqDiff, Nat.reduceLT, Nat.reduceSub, Nat.reduceBEq, forall_const, reduceCtorEq, implies_true, exists_eq_left', exists_eq_left, if_true, if_false, undef]

theorem isVariable_spec (v : Int) : CallsA Try.prog 34 [I v] (Bo (decide (0 ≤ v ∧ v ≤ 1000))) [] := by
  refine fn_of0 comp34 (by simp) ?_
  unfold code34
  have e : decide (0 ≤ v ∧ v ≤ 1000) = (decide (v ≥ 0) && decide (v ≤ 1000)) := by rw [← Bool.decide_and]
  rw [e]
  cases h1 : decide (v ≥ 0) with
  | false => simp (maxSteps := 1000000) only [h1, Bool.false_and, Bo, encC, EA, EB, EC, ED, EE, EF, EG, EH, XA, XB, XC, XD, XE, XF, XG, XH, XI, XJ, XK, XL, XM, reduceIte, ↓reduceIte, Nat.reduceAdd, Nat.reduceLeDiff, Nat.reduceEqDiff, Nat.reduceLT, Nat.reduceSub, Nat.reduceBEq, forall_const, reduceCtorEq, implies_true, exists_eq_left', exists_eq_left, if_true, if_false, undef]
  | true => simp (maxSteps := 1000000) only [h1, Bool.true_and, Bo, encC, EA, EB, EC, ED, EE, EF, EG, EH, XA, XB, XC, XD, XE, XF, XG, XH, XI, XJ, XK, XL, XM, reduceIte, ↓reduceIte, Nat.reduceAdd, Nat.reduceLeDiff, Nat.reduceEqDiff, Nat.reduceLT, Nat.reduceSub, Nat.reduceBEq, forall_const, reduceCtorEq, implies_true, exists_eq_left', exists_eq_left, if_true, if_false, undef]

theorem precedes_spec (x : Int) (k : Nat) (xs : List AV) (hk : k ≤ xs.length) : CallsM Try.prog 42 [I x, .ptr 0 0] [.box [.arr 1 0 k], .arr 1 xs] (Bo (decide (0 ≤ x ∧ x < k))) [some (.box [.arr 1 0 k]), some (.arr 1 xs)] := by
  refine fnM_of comp42 (by simp) (by simp) ?_
  unfold code42
  have e : decide (0 ≤ x ∧ x < (k : Int)) = (decide (x ≥ 0) && decide (x < (k : Int))) := by rw [← Bool.decide_and]
  rw [e]
  cases h1 : decide (x ≥ 0) with
  | false =>
    simp (maxSteps := 1000000) only [h1, Bool.false_and, Bo, encC, EA, EB, EC, ED, EE, EF, EG, EH, XA, XB, XC, XD, XE, XF, XG, XH, XI, XJ, XK, XL, XM, reduceIte, ↓reduceIte, Nat.reduceAdd, Nat.reduceLeDiff, Nat.reduceEqDiff, Nat.reduceLT, Nat.reduceSub, Nat.reduceBEq, forall_const, reduceCtorEq, implies_true, exists_eq_left', exists_eq_left, if_true, if_false, undef]
    exact ⟨[], by simp, by simp [encC, EA, EB, EC, ED, EE, EF, EG, EH, XA, XB, XC, XD, XE, XF, XG, XH, XI, XJ, XK, XL, XM, reduceIte, ↓reduceIte, Nat.reduceAdd, Nat.reduceLeDiff, Nat.reduceEqDiff, Nat.reduceLT, Nat.reduceSub, Nat.reduceBEq, forall_const, reduceCtorEq, implies_true, exists_eq_left', exists_eq_left, if_true, if_false, undef]⟩
  | true =>
    simp (maxSteps := 1000000) only [h1, Bool.true_and, Bo, encC, EA, EB, EC, ED, EE, EF, EG, EH, XA, XB, XC, XD, XE, XF, XG, XH, XI, XJ, XK, XL, XM, reduceIte, ↓reduceIte, Nat.reduceAdd, Nat.reduceLeDiff, Nat.reduceEqDiff, Nat.reduceLT, Nat.reduceSub, Nat.reduceBEq, forall_const, reduceCtorEq, implies_true, exists_eq_left', exists_eq_left, if_true, if_false, undef]
    exact ⟨[], by simp, by simp [encC, EA, EB, EC, ED, EE, EF, EG, EH, XA, XB, XC, XD, XE, XF, XG, XH, XI, XJ, XK, XL, XM, reduceIte, ↓reduceIte, Nat.reduceAdd, Nat.reduceLeDiff, Nat.reduceEqDiff, Nat.reduceLT, Nat.reduceSub, Nat.reduceBEq, forall_const, reduceCtorEq, implies_true, exists_eq_left', exists_eq_left, if_true, if_false, undef]⟩

def nodeT (tr : Nat → Tm) (c : Cb) : Tm := if c.kind = 4 then .put (tr c.a.toNat) (tr c.b.toNat) else if c.kind = 3 then .v c.var else if c.kind = 2 then .k else .s
def bldP (tr : Nat → Tm) (k : Nat) (c : Cb) : AV := if nodeErr k c ≠ 0 then .tup [nilP, I (nodeErr k c)] else .tup [encP (nodeT tr c), I 0]
theorem buildP_spec (tr : Nat → Tm) (k : Nat) (xs : List AV) (hk : k ≤ xs.length) (hk2 : k ≤ 1000) (hx : ∀ i, i < k → xs[i]? = some (encP (tr i))) (c : Cb) :
    CallsM Try.prog 36 [.arr 0 0 k, encC c] [.arr 1 xs] (bldP tr k c) [some (.arr 1 xs)] := by
  obtain ⟨kd, a, b, vr⟩ := c
  refine fnM_of comp36 (by simp) (by simp) ?_
  unfold code36
  have e4 : ((4 : Int) == 4) = true := by decide
  have e3 : ((3 : Int) == 3) = true := by decide
  have e2 : ((2 : Int) == 2) = true := by decide
  have e1 : ((1 : Int) == 1) = true := by decide
  have e41 : ((4 : Int) == 1) = false := by decide
  have e42 : ((4 : Int) == 2) = false := by decide
  have e43 : ((4 : Int) == 3) = false := by decide
  have e31 : ((3 : Int) == 1) = false := by decide
  have e32 : ((3 : Int) == 2) = false := by decide
  have e21 : ((2 : Int) == 1) = false := by decide
  by_cases h1 : kd = 1
  · subst h1
    have hb : bldP tr k ⟨1, a, b, vr⟩ = .tup [encP .s, I 0] := by simp [bldP, nodeErr, nodeT]
    rw [hb]
    simp (maxSteps := 1000000) only [e1, encC, encC, EA, EB, EC, ED, EE, EF, EG, EH, XA, XB, XC, XD, XE, XF, XG, XH, XI, XJ, XK, XL, XM, reduceIte, ↓reduceIte, Nat.reduceAdd, Nat.reduceLeDiff, Nat.reduceEqDiff, Nat.reduceLT, Nat.reduceSub, Nat.reduceBEq, forall_const, reduceCtorEq, implies_true, exists_eq_left', exists_eq_left, if_true, if_false, undef]
    refine callA (CallsA.args (leafP_spec 1 0) (by simp [encC, EA, EB, EC, ED, EE, EF, EG, EH, XA, XB, XC, XD, XE, XF, XG, XH, XI, XJ, XK, XL, XM, reduceIte, ↓reduceIte, Nat.reduceAdd, Nat.reduceLeDiff, Nat.reduceEqDiff, Nat.reduceLT, Nat.reduceSub, Nat.reduceBEq, forall_const, reduceCtorEq, implies_true, exists_eq_left', exists_eq_left, if_true, if_false, undef])) rfl ?_
    simp (maxSteps := 1000000) only [cellsP, encC, EA, EB, EC, ED, EE, EF, EG, EH, XA, XB, XC, XD, XE, XF, XG, XH, XI, XJ, XK, XL, XM, reduceIte, ↓reduceIte, Nat.reduceAdd, Nat.reduceLeDiff, Nat.reduceEqDiff, Nat.reduceLT, Nat.reduceSub, Nat.reduceBEq, forall_const, reduceCtorEq, implies_true, exists_eq_left', exists_eq_left, if_true, if_false, undef]
    exact ⟨[], by simp [encC, EA, EB, EC, ED, EE, EF, EG, EH, XA, XB, XC, XD, XE, XF, XG, XH, XI, XJ, XK, XL, XM, reduceIte, ↓reduceIte, Nat.reduceAdd, Nat.reduceLeDiff, Nat.reduceEqDiff, Nat.reduceLT, Nat.reduceSub, Nat.reduceBEq, forall_const, reduceCtorEq, implies_true, exists_eq_left', exists_eq_left, if_true, if_false, undef]⟩
  by_cases h2 : kd = 2
  · subst h2
    have hb : bldP tr k ⟨2, a, b, vr⟩ = .tup [encP .k, I 0] := by simp [bldP, nodeErr, nodeT]
    rw [hb]
    simp (maxSteps := 1000000) only [e2, e21, encC, encC, EA, EB, EC, ED, EE, EF, EG, EH, XA, XB, XC, XD, XE, XF, XG, XH, XI, XJ, XK, XL, XM, reduceIte, ↓reduceIte, Nat.reduceAdd, Nat.reduceLeDiff, Nat.reduceEqDiff, Nat.reduceLT, Nat.reduceSub, Nat.reduceBEq, forall_const, reduceCtorEq, implies_true, exists_eq_left', exists_eq_left, if_true, if_false, undef]
    refine callA (CallsA.args (leafP_spec 2 0) (by simp [encC, EA, EB, EC, ED, EE, EF, EG, EH, XA, XB, XC, XD, XE, XF, XG, XH, XI, XJ, XK, XL, XM, reduceIte, ↓reduceIte, Nat.reduceAdd, Nat.reduceLeDiff, Nat.reduceEqDiff, Nat.reduceLT, Nat.reduceSub, Nat.reduceBEq, forall_const, reduceCtorEq, implies_true, exists_eq_left', exists_eq_left, if_true, if_false, undef])) rfl ?_
    simp (maxSteps := 1000000) only [cellsP, encC, EA, EB, EC, ED, EE, EF, EG, EH, XA, XB, XC, XD, XE, XF, XG, XH, XI, XJ, XK, XL, XM, reduceIte, ↓reduceIte, Nat.reduceAdd, Nat.reduceLeDiff, Nat.reduceEqDiff, Nat.reduceLT, Nat.reduceSub, Nat.reduceBEq, forall_const, reduceCtorEq, implies_true, exists_eq_left', exists_eq_left, if_true, if_false, undef]
    exact ⟨[], by simp [encC, EA, EB, EC, ED, EE, EF, EG, EH, XA, XB, XC, XD, XE, XF, XG, XH, XI, XJ, XK, XL, XM, reduceIte, ↓reduceIte, Nat.reduceAdd, Nat.reduceLeDiff, Nat.reduceEqDiff, Nat.reduceLT, Nat.reduceSub, Nat.reduceBEq, forall_const, reduceCtorEq, implies_true, exists_eq_left', exists_eq_left, if_true, if_false, undef]⟩
  by_cases h3 : kd = 3
  · subst h3
    simp (maxSteps := 1000000) only [e3, e32, e31, encC, encC, EA, EB, EC, ED, EE, EF, EG, EH, XA, XB, XC, XD, XE, XF, XG, XH, XI, XJ, XK, XL, XM, reduceIte, ↓reduceIte, Nat.reduceAdd, Nat.reduceLeDiff, Nat.reduceEqDiff, Nat.reduceLT, Nat.reduceSub, Nat.reduceBEq, forall_const, reduceCtorEq, implies_true, exists_eq_left', exists_eq_left, if_true, if_false, undef]
    refine callF (CallsA.args (isVariable_spec vr) (by simp [encC, EA, EB, EC, ED, EE, EF, EG, EH, XA, XB, XC, XD, XE, XF, XG, XH, XI, XJ, XK, XL, XM, reduceIte, ↓reduceIte, Nat.reduceAdd, Nat.reduceLeDiff, Nat.reduceEqDiff, Nat.reduceLT, Nat.reduceSub, Nat.reduceBEq, forall_const, reduceCtorEq, implies_true, exists_eq_left', exists_eq_left, if_true, if_false, undef])) rfl (by simp [flat, encC, EA, EB, EC, ED, EE, EF, EG, EH, XA, XB, XC, XD, XE, XF, XG, XH, XI, XJ, XK, XL, XM, reduceIte, ↓reduceIte, Nat.reduceAdd, Nat.reduceLeDiff, Nat.reduceEqDiff, Nat.reduceLT, Nat.reduceSub, Nat.reduceBEq, forall_const, reduceCtorEq, implies_true, exists_eq_left', exists_eq_left, if_true, if_false, undef]) ?_
    by_cases hv : 0 ≤ vr ∧ vr ≤ 1000
    · have hb : bldP tr k ⟨3, a, b, vr⟩ = .tup [encP (.v vr), I 0] := by simp [bldP, nodeErr, nodeT, hv]
      have f : decide (0 ≤ vr ∧ vr ≤ 1000) = true := by simpa using hv
      rw [hb]
      simp (maxSteps := 1000000) only [f, Bo, encC, EA, EB, EC, ED, EE, EF, EG, EH, XA, XB, XC, XD, XE, XF, XG, XH, XI, XJ, XK, XL, XM, reduceIte, ↓reduceIte, Nat.reduceAdd, Nat.reduceLeDiff, Nat.reduceEqDiff, Nat.reduceLT, Nat.reduceSub, Nat.reduceBEq, forall_const, reduceCtorEq, implies_true, exists_eq_left', exists_eq_left, if_true, if_false, undef]
      refine callA (CallsA.args (leafP_spec 3 vr) (by simp [encC, EA, EB, EC, ED, EE, EF, EG, EH, XA, XB, XC, XD, XE, XF, XG, XH, XI, XJ, XK, XL, XM, reduceIte, ↓reduceIte, Nat.reduceAdd, Nat.reduceLeDiff, Nat.reduceEqDiff, Nat.reduceLT, Nat.reduceSub, Nat.reduceBEq, forall_const, reduceCtorEq, implies_true, exists_eq_left', exists_eq_left, if_true, if_false, undef])) rfl ?_
      simp (maxSteps := 1000000) only [cellsP, encC, EA, EB, EC, ED, EE, EF, EG, EH, XA, XB, XC, XD, XE, XF, XG, XH, XI, XJ, XK, XL, XM, reduceIte, ↓reduceIte, Nat.reduceAdd, Nat.reduceLeDiff, Nat.reduceEqDiff, Nat.reduceLT, Nat.reduceSub, Nat.reduceBEq, forall_const, reduceCtorEq, implies_true, exists_eq_left', exists_eq_left, if_true, if_false, undef]
      exact ⟨[], by simp [encC, EA, EB, EC, ED, EE, EF, EG, EH, XA, XB, XC, XD, XE, XF, XG, XH, XI, XJ, XK, XL, XM, reduceIte, ↓reduceIte, Nat.reduceAdd, Nat.reduceLeDiff, Nat.reduceEqDiff, Nat.reduceLT, Nat.reduceSub, Nat.reduceBEq, forall_const, reduceCtorEq, implies_true, exists_eq_left', exists_eq_left, if_true, if_false, undef]⟩
    · have hb : bldP tr k ⟨3, a, b, vr⟩ = .tup [nilP, I 4] := by simp [bldP, nodeErr, hv]
      have f : decide (0 ≤ vr ∧ vr ≤ 1000) = false := by rw [decide_eq_false_iff_not]; exact hv
      rw [hb]
      simp (maxSteps := 1000000) only [f, Bo, encC, EA, EB, EC, ED, EE, EF, EG, EH, XA, XB, XC, XD, XE, XF, XG, XH, XI, XJ, XK, XL, XM, reduceIte, ↓reduceIte, Nat.reduceAdd, Nat.reduceLeDiff, Nat.reduceEqDiff, Nat.reduceLT, Nat.reduceSub, Nat.reduceBEq, forall_const, reduceCtorEq, implies_true, exists_eq_left', exists_eq_left, if_true, if_false, undef]
      exact ⟨[], by simp [encC, EA, EB, EC, ED, EE, EF, EG, EH, XA, XB, XC, XD, XE, XF, XG, XH, XI, XJ, XK, XL, XM, reduceIte, ↓reduceIte, Nat.reduceAdd, Nat.reduceLeDiff, Nat.reduceEqDiff, Nat.reduceLT, Nat.reduceSub, Nat.reduceBEq, forall_const, reduceCtorEq, implies_true, exists_eq_left', exists_eq_left, if_true, if_false, undef]⟩
  by_cases h4 : kd = 4
  · subst h4
    simp (maxSteps := 1000000) only [e4, e41, e42, e43, encC, encC, EA, EB, EC, ED, EE, EF, EG, EH, XA, XB, XC, XD, XE, XF, XG, XH, XI, XJ, XK, XL, XM, reduceIte, ↓reduceIte, Nat.reduceAdd, Nat.reduceLeDiff, Nat.reduceEqDiff, Nat.reduceLT, Nat.reduceSub, Nat.reduceBEq, forall_const, reduceCtorEq, implies_true, exists_eq_left', exists_eq_left, if_true, if_false, undef]
    have nA : (decide (0 ≤ a ∧ a < (k : Int)) = true ∧ decide (0 ≤ b ∧ b < (k : Int)) = true) ∨ nodeErr k ⟨4, a, b, vr⟩ = 2 := by
      simp only [decide_eq_true_eq]
      by_cases hh : (0 ≤ a ∧ a < (k : Int)) ∧ (0 ≤ b ∧ b < (k : Int))
      · exact .inl hh
      · right; simp only [nodeErr]; rw [if_neg (by omega), if_neg (by omega), if_pos (by simpa using hh)]
    refine callM [some 1, some 0] (precedes_spec a k xs hk) (by simp [encC, EA, EB, EC, ED, EE, EF, EG, EH, XA, XB, XC, XD, XE, XF, XG, XH, XI, XJ, XK, XL, XM, reduceIte, ↓reduceIte, Nat.reduceAdd, Nat.reduceLeDiff, Nat.reduceEqDiff, Nat.reduceLT, Nat.reduceSub, Nat.reduceBEq, forall_const, reduceCtorEq, implies_true, exists_eq_left', exists_eq_left, if_true, if_false, undef]) (by simp [encC, EA, EB, EC, ED, EE, EF, EG, EH, XA, XB, XC, XD, XE, XF, XG, XH, XI, XJ, XK, XL, XM, reduceIte, ↓reduceIte, Nat.reduceAdd, Nat.reduceLeDiff, Nat.reduceEqDiff, Nat.reduceLT, Nat.reduceSub, Nat.reduceBEq, forall_const, reduceCtorEq, implies_true, exists_eq_left', exists_eq_left, if_true, if_false, undef]) (by simp [encC, EA, EB, EC, ED, EE, EF, EG, EH, XA, XB, XC, XD, XE, XF, XG, XH, XI, XJ, XK, XL, XM, reduceIte, ↓reduceIte, Nat.reduceAdd, Nat.reduceLeDiff, Nat.reduceEqDiff, Nat.reduceLT, Nat.reduceSub, Nat.reduceBEq, forall_const, reduceCtorEq, implies_true, exists_eq_left', exists_eq_left, if_true, if_false, undef]) ?_
    by_cases ha : 0 ≤ a ∧ a < (k : Int)
    rotate_left
    · have f : decide (0 ≤ a ∧ a < (k : Int)) = false := by rw [decide_eq_false_iff_not]; exact ha
      have hb : bldP tr k ⟨4, a, b, vr⟩ = .tup [nilP, I 2] := by
        rcases nA with nA | nA
        · rw [f] at nA; cases nA.1
        · rw [bldP, nA, if_pos (by decide)]
      rw [hb]
      simp (maxSteps := 1000000) only [f, Bo, Bool.not_false, encC, EA, EB, EC, ED, EE, EF, EG, EH, XA, XB, XC, XD, XE, XF, XG, XH, XI, XJ, XK, XL, XM, reduceIte, ↓reduceIte, Nat.reduceAdd, Nat.reduceLeDiff, Nat.reduceEqDiff, Nat.reduceLT, Nat.reduceSub, Nat.reduceBEq, forall_const, reduceCtorEq, implies_true, exists_eq_left', exists_eq_left, if_true, if_false, undef]
      exact ⟨[], by simp [encC, EA, EB, EC, ED, EE, EF, EG, EH, XA, XB, XC, XD, XE, XF, XG, XH, XI, XJ, XK, XL, XM, reduceIte, ↓reduceIte, Nat.reduceAdd, Nat.reduceLeDiff, Nat.reduceEqDiff, Nat.reduceLT, Nat.reduceSub, Nat.reduceBEq, forall_const, reduceCtorEq, implies_true, exists_eq_left', exists_eq_left, if_true, if_false, undef]⟩
    have f : decide (0 ≤ a ∧ a < (k : Int)) = true := by rw [decide_eq_true_iff]; exact ha
    simp (maxSteps := 1000000) only [f, Bo, Bool.not_true, encC, EA, EB, EC, ED, EE, EF, EG, EH, XA, XB, XC, XD, XE, XF, XG, XH, XI, XJ, XK, XL, XM, reduceIte, ↓reduceIte, Nat.reduceAdd, Nat.reduceLeDiff, Nat.reduceEqDiff, Nat.reduceLT, Nat.reduceSub, Nat.reduceBEq, forall_const, reduceCtorEq, implies_true, exists_eq_left', exists_eq_left, if_true, if_false, undef]
    refine callM [some 1, some 0] (precedes_spec b k xs hk) (by simp [encC, EA, EB, EC, ED, EE, EF, EG, EH, XA, XB, XC, XD, XE, XF, XG, XH, XI, XJ, XK, XL, XM, reduceIte, ↓reduceIte, Nat.reduceAdd, Nat.reduceLeDiff, Nat.reduceEqDiff, Nat.reduceLT, Nat.reduceSub, Nat.reduceBEq, forall_const, reduceCtorEq, implies_true, exists_eq_left', exists_eq_left, if_true, if_false, undef]) (by simp [encC, EA, EB, EC, ED, EE, EF, EG, EH, XA, XB, XC, XD, XE, XF, XG, XH, XI, XJ, XK, XL, XM, reduceIte, ↓reduceIte, Nat.reduceAdd, Nat.reduceLeDiff, Nat.reduceEqDiff, Nat.reduceLT, Nat.reduceSub, Nat.reduceBEq, forall_const, reduceCtorEq, implies_true, exists_eq_left', exists_eq_left, if_true, if_false, undef]) (by simp [encC, EA, EB, EC, ED, EE, EF, EG, EH, XA, XB, XC, XD, XE, XF, XG, XH, XI, XJ, XK, XL, XM, reduceIte, ↓reduceIte, Nat.reduceAdd, Nat.reduceLeDiff, Nat.reduceEqDiff, Nat.reduceLT, Nat.reduceSub, Nat.reduceBEq, forall_const, reduceCtorEq, implies_true, exists_eq_left', exists_eq_left, if_true, if_false, undef]) ?_
    by_cases hb : 0 ≤ b ∧ b < (k : Int)
    rotate_left
    · have f : decide (0 ≤ b ∧ b < (k : Int)) = false := by rw [decide_eq_false_iff_not]; exact hb
      have hb : bldP tr k ⟨4, a, b, vr⟩ = .tup [nilP, I 2] := by
        rcases nA with nA | nA
        · rw [f] at nA; cases nA.2
        · rw [bldP, nA, if_pos (by decide)]
      rw [hb]
      simp (maxSteps := 1000000) only [f, Bo, Bool.not_false, encC, EA, EB, EC, ED, EE, EF, EG, EH, XA, XB, XC, XD, XE, XF, XG, XH, XI, XJ, XK, XL, XM, reduceIte, ↓reduceIte, Nat.reduceAdd, Nat.reduceLeDiff, Nat.reduceEqDiff, Nat.reduceLT, Nat.reduceSub, Nat.reduceBEq, forall_const, reduceCtorEq, implies_true, exists_eq_left', exists_eq_left, if_true, if_false, undef]
      exact ⟨[], by simp [encC, EA, EB, EC, ED, EE, EF, EG, EH, XA, XB, XC, XD, XE, XF, XG, XH, XI, XJ, XK, XL, XM, reduceIte, ↓reduceIte, Nat.reduceAdd, Nat.reduceLeDiff, Nat.reduceEqDiff, Nat.reduceLT, Nat.reduceSub, Nat.reduceBEq, forall_const, reduceCtorEq, implies_true, exists_eq_left', exists_eq_left, if_true, if_false, undef]⟩
    have f : decide (0 ≤ b ∧ b < (k : Int)) = true := by rw [decide_eq_true_iff]; exact hb
    have hB : bldP tr k ⟨4, a, b, vr⟩ = .tup [encP (.put (tr a.toNat) (tr b.toNat)), I 0] := by
      have : nodeErr k ⟨4, a, b, vr⟩ = 0 := by simp only [nodeErr]; rw [if_neg (by omega), if_neg (by omega), if_neg (by omega)]
      simp [bldP, this, nodeT]
    have xa := hx a.toNat (by omega)
    have xb := hx b.toNat (by omega)
    rw [hB]
    simp (maxSteps := 1000000) only [f, Bo, Bool.not_true, encC, EA, EB, EC, ED, EE, EF, EG, EH, XA, XB, XC, XD, XE, XF, XG, XH, XI, XJ, XK, XL, XM, reduceIte, ↓reduceIte, Nat.reduceAdd, Nat.reduceLeDiff, Nat.reduceEqDiff, Nat.reduceLT, Nat.reduceSub, Nat.reduceBEq, forall_const, reduceCtorEq, implies_true, exists_eq_left', exists_eq_left, if_true, if_false, undef]
    refine ⟨by omega, by omega, Pick.mk (encP (tr a.toNat)) (by rw [Nat.zero_add]; exact xa) ?_⟩
    simp (maxSteps := 1000000) only [encC, EA, EB, EC, ED, EE, EF, EG, EH, XA, XB, XC, XD, XE, XF, XG, XH, XI, XJ, XK, XL, XM, reduceIte, ↓reduceIte, Nat.reduceAdd, Nat.reduceLeDiff, Nat.reduceEqDiff, Nat.reduceLT, Nat.reduceSub, Nat.reduceBEq, forall_const, reduceCtorEq, implies_true, exists_eq_left', exists_eq_left, if_true, if_false, undef]
    refine ⟨by omega, by omega, Pick.mk (encP (tr b.toNat)) (by rw [Nat.zero_add]; exact xb) ?_⟩
    simp (maxSteps := 1000000) only [encC, EA, EB, EC, ED, EE, EF, EG, EH, XA, XB, XC, XD, XE, XF, XG, XH, XI, XJ, XK, XL, XM, reduceIte, ↓reduceIte, Nat.reduceAdd, Nat.reduceLeDiff, Nat.reduceEqDiff, Nat.reduceLT, Nat.reduceSub, Nat.reduceBEq, forall_const, reduceCtorEq, implies_true, exists_eq_left', exists_eq_left, if_true, if_false, undef]
    refine callXd (CallsA.args (putP_spec (tr a.toNat) (tr b.toNat)) (by simp [encC, EA, EB, EC, ED, EE, EF, EG, EH, XA, XB, XC, XD, XE, XF, XG, XH, XI, XJ, XK, XL, XM, reduceIte, ↓reduceIte, Nat.reduceAdd, Nat.reduceLeDiff, Nat.reduceEqDiff, Nat.reduceLT, Nat.reduceSub, Nat.reduceBEq, forall_const, reduceCtorEq, implies_true, exists_eq_left', exists_eq_left, if_true, if_false, undef])) rfl (by simp [flat, encC, EA, EB, EC, ED, EE, EF, EG, EH, XA, XB, XC, XD, XE, XF, XG, XH, XI, XJ, XK, XL, XM, reduceIte, ↓reduceIte, Nat.reduceAdd, Nat.reduceLeDiff, Nat.reduceEqDiff, Nat.reduceLT, Nat.reduceSub, Nat.reduceBEq, forall_const, reduceCtorEq, implies_true, exists_eq_left', exists_eq_left, if_true, if_false, undef]) (by simp [encC, EA, EB, EC, ED, EE, EF, EG, EH, XA, XB, XC, XD, XE, XF, XG, XH, XI, XJ, XK, XL, XM, reduceIte, ↓reduceIte, Nat.reduceAdd, Nat.reduceLeDiff, Nat.reduceEqDiff, Nat.reduceLT, Nat.reduceSub, Nat.reduceBEq, forall_const, reduceCtorEq, implies_true, exists_eq_left', exists_eq_left, if_true, if_false, undef]) ?_
    simp (maxSteps := 1000000) only [encC, EA, EB, EC, ED, EE, EF, EG, EH, XA, XB, XC, XD, XE, XF, XG, XH, XI, XJ, XK, XL, XM, reduceIte, ↓reduceIte, Nat.reduceAdd, Nat.reduceLeDiff, Nat.reduceEqDiff, Nat.reduceLT, Nat.reduceSub, Nat.reduceBEq, forall_const, reduceCtorEq, implies_true, exists_eq_left', exists_eq_left, if_true, if_false, undef]
    exact ⟨[], by simp [encC, EA, EB, EC, ED, EE, EF, EG, EH, XA, XB, XC, XD, XE, XF, XG, XH, XI, XJ, XK, XL, XM, reduceIte, ↓reduceIte, Nat.reduceAdd, Nat.reduceLeDiff, Nat.reduceEqDiff, Nat.reduceLT, Nat.reduceSub, Nat.reduceBEq, forall_const, reduceCtorEq, implies_true, exists_eq_left', exists_eq_left, if_true, if_false, undef]⟩
  have f1 : (kd == 1) = false := by simpa using h1
  have f2 : (kd == 2) = false := by simpa using h2
  have f3 : (kd == 3) = false := by simpa using h3
  have f4 : (kd == 4) = false := by simpa using h4
  have hb : bldP tr k ⟨kd, a, b, vr⟩ = .tup [nilP, I 6] := by
    have : nodeErr k ⟨kd, a, b, vr⟩ = 6 := by simp only [nodeErr]; rw [if_pos (by omega)]
    rw [bldP, this, if_pos (by decide)]
  rw [hb]
  simp (maxSteps := 1000000) only [f1, f2, f3, f4, encC, encC, EA, EB, EC, ED, EE, EF, EG, EH, XA, XB, XC, XD, XE, XF, XG, XH, XI, XJ, XK, XL, XM, reduceIte, ↓reduceIte, Nat.reduceAdd, Nat.reduceLeDiff, Nat.reduceEqDiff, Nat.reduceLT, Nat.reduceSub, Nat.reduceBEq, forall_const, reduceCtorEq, implies_true, exists_eq_left', exists_eq_left, if_true, if_false, undef]
  exact ⟨[], by simp [encC, EA, EB, EC, ED, EE, EF, EG, EH, XA, XB, XC, XD, XE, XF, XG, XH, XI, XJ, XK, XL, XM, reduceIte, ↓reduceIte, Nat.reduceAdd, Nat.reduceLeDiff, Nat.reduceEqDiff, Nat.reduceLT, Nat.reduceSub, Nat.reduceBEq, forall_const, reduceCtorEq, implies_true, exists_eq_left', exists_eq_left, if_true, if_false, undef]⟩

theorem rdT_moreB {l : List Cb} {K : Nat} (hl : ∀ (i : Nat) (h : i < l.length), i < K → CbOk i l[i]) : ∀ {i f : Nat}, i < l.length → i < K → i < f → rdT l f i = treeT l i := by
  intro i
  induction i using Nat.strongRecOn with
  | _ i ih =>
    intro f hi hK hf
    cases f with
    | zero => omega
    | succ f =>
    have h := hl i hi hK
    rw [treeT, rdT, rdT, List.getElem?_eq_getElem hi]
    simp only
    by_cases h4 : l[i].kind = 4
    · obtain ⟨h1, h2⟩ := h.parts h4
      rw [if_pos h4, if_pos h4, ih _ (by omega) (by omega) (by omega) (show l[i].a.toNat < f by omega), ih _ (by omega) (by omega) (by omega) (show l[i].b.toNat < f by omega),
        ih _ (by omega) (by omega) (by omega) (show l[i].a.toNat < i by omega), ih _ (by omega) (by omega) (by omega) (show l[i].b.toNat < i by omega)]
    · rw [if_neg h4, if_neg h4]
theorem node_tree {l : List Cb} {k : Nat} (hz : cbErr l k = 0) (hk : k < l.length) (hn : nodeErr k l[k] = 0) : nodeT (treeT l) l[k] = treeT l k := by
  have hall : ∀ (i : Nat) (h : i < l.length), i < k + 1 → CbOk i l[i] := fun i h hi => by
    by_cases hik : i = k
    · subst hik; exact (node_ok hn).1
    · have := (node_ok (cbErr_zero hz i (by omega))).1
      rwa [cbAt, List.getElem?_eq_getElem h] at this
  have h := hall k hk (by omega)
  have e : treeT l k = rdT l (k + 1) k := rfl
  rw [e, rdT, List.getElem?_eq_getElem hk, nodeT]
  simp only
  by_cases h4 : l[k].kind = 4
  · obtain ⟨h1, h2⟩ := h.parts h4
    rw [if_pos h4, if_pos h4, rdT_moreB hall (by omega) (by omega) (by omega), rdT_moreB hall (by omega) (by omega) (by omega)]
  · rw [if_neg h4, if_neg h4]

def tms (l : List Cb) (k : Nat) : List AV := (List.range l.length).map fun i => if i < k then encP (treeT l i) else nilP
theorem tms_length (l : List Cb) (k : Nat) : (tms l k).length = l.length := by simp [tms]
theorem tms_get {l : List Cb} {k i : Nat} (h : i < l.length) : (tms l k)[i]? = some (if i < k then encP (treeT l i) else nilP) := by simp [tms, h]
theorem tms_set {l : List Cb} {k : Nat} (h : k < l.length) : (tms l k).set k (encP (treeT l k)) = tms l (k + 1) := by
  apply List.ext_getElem?
  intro i
  rw [List.getElem?_set]
  by_cases hi : i < l.length
  · by_cases hk : k = i
    · subst hk
      rw [if_pos rfl, if_pos (by rw [tms_length]; exact hi), tms_get hi, if_pos (by omega)]
    · rw [if_neg hk, tms_get hi, tms_get hi]
      by_cases hik : i < k
      · rw [if_pos hik, if_pos (by omega)]
      · rw [if_neg hik, if_neg (by omega)]
  · have h1 : (tms l k)[i]? = none := List.getElem?_eq_none (by rw [tms_length]; omega)
    have h2 : (tms l (k + 1))[i]? = none := List.getElem?_eq_none (by rw [tms_length]; omega)
    rw [h1, h2, if_neg (by omega)]
theorem parseP_spec (l : List Cb) (hl : (l.length : Int) < 2 ^ 63) : CallsA Try.prog 26 [.ro 4 (l.map encC)] (.tup [if combErr l = 0 then encP (lastT l) else nilP, I (combErr l)]) [] := by
  refine fn_of0 comp26 (by simp) ?_
  unfold code26
  have hll : ((l.map encC).length : Int) = l.length := by simp
  simp (maxSteps := 1000000) only [hll, encC, EA, EB, EC, ED, EE, EF, EG, EH, XA, XB, XC, XD, XE, XF, XG, XH, XI, XJ, XK, XL, XM, reduceIte, ↓reduceIte, Nat.reduceAdd, Nat.reduceLeDiff, Nat.reduceEqDiff, Nat.reduceLT, Nat.reduceSub, Nat.reduceBEq, forall_const, reduceCtorEq, implies_true, exists_eq_left', exists_eq_left, if_true, if_false, undef]
  by_cases h0 : l.length = 0
  · have f : ((l.length : Int) == 0) = true := by simp [h0]
    have hE : combErr l = 1 := by rw [combErr, if_pos (by omega)]
    rw [hE, if_neg (by decide)]
    simp (maxSteps := 1000000) only [f, encC, EA, EB, EC, ED, EE, EF, EG, EH, XA, XB, XC, XD, XE, XF, XG, XH, XI, XJ, XK, XL, XM, reduceIte, ↓reduceIte, Nat.reduceAdd, Nat.reduceLeDiff, Nat.reduceEqDiff, Nat.reduceLT, Nat.reduceSub, Nat.reduceBEq, forall_const, reduceCtorEq, implies_true, exists_eq_left', exists_eq_left, if_true, if_false, undef]
  have f0 : ((l.length : Int) == 0) = false := by simpa using h0
  by_cases h40 : 40 < l.length
  · have f : decide ((l.length : Int) > 40) = true := by simp; omega
    have hE : combErr l = 1 := by rw [combErr, if_pos (by omega)]
    rw [hE, if_neg (by decide)]
    simp (maxSteps := 1000000) only [f0, f, hll, encC, EA, EB, EC, ED, EE, EF, EG, EH, XA, XB, XC, XD, XE, XF, XG, XH, XI, XJ, XK, XL, XM, reduceIte, ↓reduceIte, Nat.reduceAdd, Nat.reduceLeDiff, Nat.reduceEqDiff, Nat.reduceLT, Nat.reduceSub, Nat.reduceBEq, forall_const, reduceCtorEq, implies_true, exists_eq_left', exists_eq_left, if_true, if_false, undef]
  have f1 : decide ((l.length : Int) > 40) = false := by simp; omega
  have hrep : List.replicate (l.length : Int).toNat (AV.v (.pointer none)) = tms l 0 := by
    apply List.ext_getElem?
    intro i
    by_cases hi : i < l.length
    · rw [tms_get hi]; simp [hi]
    · rw [List.getElem?_eq_none (by simp; omega), List.getElem?_eq_none (by rw [tms_length]; omega)]
  simp (maxSteps := 1000000) only [f0, f1, hll, hrep, encC, EA, EB, EC, ED, EE, EF, EG, EH, XA, XB, XC, XD, XE, XF, XG, XH, XI, XJ, XK, XL, XM, reduceIte, ↓reduceIte, Nat.reduceAdd, Nat.reduceLeDiff, Nat.reduceEqDiff, Nat.reduceLT, Nat.reduceSub, Nat.reduceBEq, forall_const, reduceCtorEq, implies_true, exists_eq_left', exists_eq_left, if_true, if_false, undef]
  refine ⟨by omega, by omega, by omega, ?_⟩
  refine loopO Nat [23] (fun k => [IN k]) (fun k => [(12, some (.arr 1 (tms l k)))]) (fun k => k ≤ l.length ∧ cbErr l k = 0) (fun k => l.length - k) (by decide) 0 (by simp [cbErr]) (by simp [Back, BackF, fzT, fzM, fzU, fz, fzL, fzO, kin, SubT, Sub, SubL, SubM, SubO, keepM, srcOk, look, lookM, ev, evs, putT, argT, encC, EA, EB, EC, ED, EE, EF, EG, EH, XA, XB, XC, XD, XE, XF, XG, XH, XI, XJ, XK, XL, XM, reduceIte, ↓reduceIte, Nat.reduceAdd, Nat.reduceLeDiff, Nat.reduceEqDiff, Nat.reduceLT, Nat.reduceSub, Nat.reduceBEq, forall_const, reduceCtorEq, implies_true, exists_eq_left', exists_eq_left, if_true, if_false, undef]) ?_
  rintro k ⟨hk, hz⟩
  by_cases c1 : k < l.length
  · have g1 : decide ((k : Int) < (l.length : Int)) = true := by simp [c1]
    have hw : IntKind.i64.wrap ((k : Int) + 1) = ((k + 1 : Nat) : Int) := by rw [wrap_id] <;> omega
    have hnx : cbErr l (k + 1) = nodeErr k l[k] := by rw [cbErr, if_neg (by simp [hz]), cbAt, List.getElem?_eq_getElem c1]; rfl
    have hbad : nodeErr k l[k] ≠ 0 → combErr l = nodeErr k l[k] := fun h => by
      have h1 : cbErr l l.length = nodeErr k l[k] := by rw [← hnx]; exact cbErr_stay (by rw [hnx]; exact h) (by omega)
      rw [combErr, if_neg (by omega), h1, if_pos h]
    have htl : (tms l k).length = l.length := tms_length l k
    have hbp := buildP_spec (treeT l) k (tms l k) (by omega) (by omega) (fun i hi => by rw [tms_get (by omega), if_pos hi]) l[k]
    simp (maxSteps := 1000000) only [hll, g1, encC, EA, EB, EC, ED, EE, EF, EG, EH, XA, XB, XC, XD, XE, XF, XG, XH, XI, XJ, XK, XL, XM, reduceIte, ↓reduceIte, Nat.reduceAdd, Nat.reduceLeDiff, Nat.reduceEqDiff, Nat.reduceLT, Nat.reduceSub, Nat.reduceBEq, forall_const, reduceCtorEq, implies_true, exists_eq_left', exists_eq_left, if_true, if_false, undef]
    refine ⟨by omega, pickM c1 ?_⟩
    have hset := tms_set c1
    have hnt0 := node_tree hz c1
    generalize l[k] = c at *
    obtain ⟨kd, a, b, vr⟩ := c
    have e1 : (((l.length : Int).toNat : Nat) : Int) = l.length := by omega
    have e2 : (((k : Int).toNat - (((0 : Nat) : Int)).toNat : Nat) : Int) = k := by simp
    simp (maxSteps := 1000000) only [encC, splice, AV.cells, encC, EA, EB, EC, ED, EE, EF, EG, EH, XA, XB, XC, XD, XE, XF, XG, XH, XI, XJ, XK, XL, XM, reduceIte, ↓reduceIte, Nat.reduceAdd, Nat.reduceLeDiff, Nat.reduceEqDiff, Nat.reduceLT, Nat.reduceSub, Nat.reduceBEq, forall_const, reduceCtorEq, implies_true, exists_eq_left', exists_eq_left, if_true, if_false, undef]
    refine ⟨by omega, by omega, by omega, ?_⟩
    by_cases hn : nodeErr k ⟨kd, a, b, vr⟩ = 0
    rotate_left
    · have hb : bldP (treeT l) k ⟨kd, a, b, vr⟩ = .tup [nilP, I (nodeErr k ⟨kd, a, b, vr⟩)] := by rw [bldP, if_pos hn]
      have g : (nodeErr k ⟨kd, a, b, vr⟩ != 0) = true := by simpa using hn
      rw [hb] at hbp
      rw [hbad hn, if_neg hn]
      refine callXg [12] [some (.arr 1 (tms l k))] [] (hbp) (by simp [encC, EA, EB, EC, ED, EE, EF, EG, EH, XA, XB, XC, XD, XE, XF, XG, XH, XI, XJ, XK, XL, XM, reduceIte, ↓reduceIte, Nat.reduceAdd, Nat.reduceLeDiff, Nat.reduceEqDiff, Nat.reduceLT, Nat.reduceSub, Nat.reduceBEq, forall_const, reduceCtorEq, implies_true, exists_eq_left', exists_eq_left, if_true, if_false, undef]) rfl (by simp [ htl,encC, EA, EB, EC, ED, EE, EF, EG, EH, XA, XB, XC, XD, XE, XF, XG, XH, XI, XJ, XK, XL, XM, reduceIte, ↓reduceIte, Nat.reduceAdd, Nat.reduceLeDiff, Nat.reduceEqDiff, Nat.reduceLT, Nat.reduceSub, Nat.reduceBEq, forall_const, reduceCtorEq, implies_true, exists_eq_left', exists_eq_left, if_true, if_false, undef]) (by simp) (by simp [ htl,encC, EA, EB, EC, ED, EE, EF, EG, EH, XA, XB, XC, XD, XE, XF, XG, XH, XI, XJ, XK, XL, XM, reduceIte, ↓reduceIte, Nat.reduceAdd, Nat.reduceLeDiff, Nat.reduceEqDiff, Nat.reduceLT, Nat.reduceSub, Nat.reduceBEq, forall_const, reduceCtorEq, implies_true, exists_eq_left', exists_eq_left, if_true, if_false, undef]) (by simp [plainO, kfs, AV.kf, encC, EA, EB, EC, ED, EE, EF, EG, EH, XA, XB, XC, XD, XE, XF, XG, XH, XI, XJ, XK, XL, XM, reduceIte, ↓reduceIte, Nat.reduceAdd, Nat.reduceLeDiff, Nat.reduceEqDiff, Nat.reduceLT, Nat.reduceSub, Nat.reduceBEq, forall_const, reduceCtorEq, implies_true, exists_eq_left', exists_eq_left, if_true, if_false, undef]) (by simp [encC, EA, EB, EC, ED, EE, EF, EG, EH, XA, XB, XC, XD, XE, XF, XG, XH, XI, XJ, XK, XL, XM, reduceIte, ↓reduceIte, Nat.reduceAdd, Nat.reduceLeDiff, Nat.reduceEqDiff, Nat.reduceLT, Nat.reduceSub, Nat.reduceBEq, forall_const, reduceCtorEq, implies_true, exists_eq_left', exists_eq_left, if_true, if_false, undef]) (by simp [encC, EA, EB, EC, ED, EE, EF, EG, EH, XA, XB, XC, XD, XE, XF, XG, XH, XI, XJ, XK, XL, XM, reduceIte, ↓reduceIte, Nat.reduceAdd, Nat.reduceLeDiff, Nat.reduceEqDiff, Nat.reduceLT, Nat.reduceSub, Nat.reduceBEq, forall_const, reduceCtorEq, implies_true, exists_eq_left', exists_eq_left, if_true, if_false, undef]) (by simp) ?_
      simp (maxSteps := 1000000) only [g, encC, EA, EB, EC, ED, EE, EF, EG, EH, XA, XB, XC, XD, XE, XF, XG, XH, XI, XJ, XK, XL, XM, reduceIte, ↓reduceIte, Nat.reduceAdd, Nat.reduceLeDiff, Nat.reduceEqDiff, Nat.reduceLT, Nat.reduceSub, Nat.reduceBEq, forall_const, reduceCtorEq, implies_true, exists_eq_left', exists_eq_left, if_true, if_false, undef]
      exact ⟨_, rfl⟩
    have hnt := hnt0 hn
    have hb : bldP (treeT l) k ⟨kd, a, b, vr⟩ = .tup [encP (nodeT (treeT l) ⟨kd, a, b, vr⟩), I 0] := by rw [bldP, if_neg (by simp [hn])]
    rw [hb] at hbp
    refine callXg [12] [some (.arr 1 (tms l k))] [] (hbp) (by simp [encC, EA, EB, EC, ED, EE, EF, EG, EH, XA, XB, XC, XD, XE, XF, XG, XH, XI, XJ, XK, XL, XM, reduceIte, ↓reduceIte, Nat.reduceAdd, Nat.reduceLeDiff, Nat.reduceEqDiff, Nat.reduceLT, Nat.reduceSub, Nat.reduceBEq, forall_const, reduceCtorEq, implies_true, exists_eq_left', exists_eq_left, if_true, if_false, undef]) rfl (by simp [ htl,encC, EA, EB, EC, ED, EE, EF, EG, EH, XA, XB, XC, XD, XE, XF, XG, XH, XI, XJ, XK, XL, XM, reduceIte, ↓reduceIte, Nat.reduceAdd, Nat.reduceLeDiff, Nat.reduceEqDiff, Nat.reduceLT, Nat.reduceSub, Nat.reduceBEq, forall_const, reduceCtorEq, implies_true, exists_eq_left', exists_eq_left, if_true, if_false, undef]) (by simp) (by simp [ htl,encC, EA, EB, EC, ED, EE, EF, EG, EH, XA, XB, XC, XD, XE, XF, XG, XH, XI, XJ, XK, XL, XM, reduceIte, ↓reduceIte, Nat.reduceAdd, Nat.reduceLeDiff, Nat.reduceEqDiff, Nat.reduceLT, Nat.reduceSub, Nat.reduceBEq, forall_const, reduceCtorEq, implies_true, exists_eq_left', exists_eq_left, if_true, if_false, undef]) (by simp [plainO, kfs, AV.kf, encC, EA, EB, EC, ED, EE, EF, EG, EH, XA, XB, XC, XD, XE, XF, XG, XH, XI, XJ, XK, XL, XM, reduceIte, ↓reduceIte, Nat.reduceAdd, Nat.reduceLeDiff, Nat.reduceEqDiff, Nat.reduceLT, Nat.reduceSub, Nat.reduceBEq, forall_const, reduceCtorEq, implies_true, exists_eq_left', exists_eq_left, if_true, if_false, undef]) (by simp [encC, EA, EB, EC, ED, EE, EF, EG, EH, XA, XB, XC, XD, XE, XF, XG, XH, XI, XJ, XK, XL, XM, reduceIte, ↓reduceIte, Nat.reduceAdd, Nat.reduceLeDiff, Nat.reduceEqDiff, Nat.reduceLT, Nat.reduceSub, Nat.reduceBEq, forall_const, reduceCtorEq, implies_true, exists_eq_left', exists_eq_left, if_true, if_false, undef]) (by simp [encC, EA, EB, EC, ED, EE, EF, EG, EH, XA, XB, XC, XD, XE, XF, XG, XH, XI, XJ, XK, XL, XM, reduceIte, ↓reduceIte, Nat.reduceAdd, Nat.reduceLeDiff, Nat.reduceEqDiff, Nat.reduceLT, Nat.reduceSub, Nat.reduceBEq, forall_const, reduceCtorEq, implies_true, exists_eq_left', exists_eq_left, if_true, if_false, undef]) (by simp) ?_
    rw [hnt]
    simp (maxSteps := 1000000) only [hw, encC, EA, EB, EC, ED, EE, EF, EG, EH, XA, XB, XC, XD, XE, XF, XG, XH, XI, XJ, XK, XL, XM, reduceIte, ↓reduceIte, Nat.reduceAdd, Nat.reduceLeDiff, Nat.reduceEqDiff, Nat.reduceLT, Nat.reduceSub, Nat.reduceBEq, forall_const, reduceCtorEq, implies_true, exists_eq_left', exists_eq_left, if_true, if_false, undef]
    refine ⟨by omega, by omega, by rw [htl, Int.toNat_natCast]; exact c1, k + 1, ⟨by omega, by rw [hnx, hn]⟩, by omega, ?_⟩
    simp [Back, BackF, fzT, fzM, fzU, fz, fzL, fzO, kin, SubT, Sub, SubL, SubM, SubO, keepM, srcOk, look, lookM, ev, evs, putT, argT, encC, EA, EB, EC, ED, EE, EF, EG, EH, XA, XB, XC, XD, XE, XF, XG, XH, XI, XJ, XK, XL, XM, reduceIte, ↓reduceIte, Nat.reduceAdd, Nat.reduceLeDiff, Nat.reduceEqDiff, Nat.reduceLT, Nat.reduceSub, Nat.reduceBEq, forall_const, reduceCtorEq, implies_true, exists_eq_left', exists_eq_left, if_true, if_false, undef, hset]
  obtain rfl : k = l.length := by omega
  have hE : combErr l = if 300 < (lastT l).size then 1 else 0 := by rw [combErr, if_neg (by omega), if_neg (by simp [hz])]; rfl
  have g1 : decide ((l.length : Int) < (l.length : Int)) = false := by simp
  have w1 : IntKind.i64.wrap ((l.length : Int) - 1) = ((l.length - 1 : Nat) : Int) := by rw [wrap_id] <;> omega
  have hget : (tms l l.length)[l.length - 1]? = some (encP (lastT l)) := by rw [tms_get (by omega), if_pos (by omega)]; rfl
  rw [hE]
  simp (maxSteps := 1000000) only [hll, g1, w1, encC, EA, EB, EC, ED, EE, EF, EG, EH, XA, XB, XC, XD, XE, XF, XG, XH, XI, XJ, XK, XL, XM, reduceIte, ↓reduceIte, Nat.reduceAdd, Nat.reduceLeDiff, Nat.reduceEqDiff, Nat.reduceLT, Nat.reduceSub, Nat.reduceBEq, forall_const, reduceCtorEq, implies_true, exists_eq_left', exists_eq_left, if_true, if_false, undef]
  refine ⟨by omega, by omega, Pick.mk (encP (lastT l)) (by rw [Int.toNat_natCast]; exact hget) ?_⟩
  simp (maxSteps := 1000000) only [encC, EA, EB, EC, ED, EE, EF, EG, EH, XA, XB, XC, XD, XE, XF, XG, XH, XI, XJ, XK, XL, XM, reduceIte, ↓reduceIte, Nat.reduceAdd, Nat.reduceLeDiff, Nat.reduceEqDiff, Nat.reduceLT, Nat.reduceSub, Nat.reduceBEq, forall_const, reduceCtorEq, implies_true, exists_eq_left', exists_eq_left, if_true, if_false, undef]
  refine callF (CallsA.args (isLongP_spec (lastT l)) (by simp [encC, EA, EB, EC, ED, EE, EF, EG, EH, XA, XB, XC, XD, XE, XF, XG, XH, XI, XJ, XK, XL, XM, reduceIte, ↓reduceIte, Nat.reduceAdd, Nat.reduceLeDiff, Nat.reduceEqDiff, Nat.reduceLT, Nat.reduceSub, Nat.reduceBEq, forall_const, reduceCtorEq, implies_true, exists_eq_left', exists_eq_left, if_true, if_false, undef])) rfl (by simp [flat, encC, EA, EB, EC, ED, EE, EF, EG, EH, XA, XB, XC, XD, XE, XF, XG, XH, XI, XJ, XK, XL, XM, reduceIte, ↓reduceIte, Nat.reduceAdd, Nat.reduceLeDiff, Nat.reduceEqDiff, Nat.reduceLT, Nat.reduceSub, Nat.reduceBEq, forall_const, reduceCtorEq, implies_true, exists_eq_left', exists_eq_left, if_true, if_false, undef]) ?_
  by_cases h : 300 < (lastT l).size
  · have f : decide (300 < (lastT l).size) = true := by simpa using h
    rw [if_pos h, if_neg (by decide)]
    simp (maxSteps := 1000000) only [f, Bo, encC, EA, EB, EC, ED, EE, EF, EG, EH, XA, XB, XC, XD, XE, XF, XG, XH, XI, XJ, XK, XL, XM, reduceIte, ↓reduceIte, Nat.reduceAdd, Nat.reduceLeDiff, Nat.reduceEqDiff, Nat.reduceLT, Nat.reduceSub, Nat.reduceBEq, forall_const, reduceCtorEq, implies_true, exists_eq_left', exists_eq_left, if_true, if_false, undef]
  · have f : decide (300 < (lastT l).size) = false := by simpa using h
    rw [if_neg h, if_pos rfl]
    simp (maxSteps := 1000000) only [f, Bo, encC, EA, EB, EC, ED, EE, EF, EG, EH, XA, XB, XC, XD, XE, XF, XG, XH, XI, XJ, XK, XL, XM, reduceIte, ↓reduceIte, Nat.reduceAdd, Nat.reduceLeDiff, Nat.reduceEqDiff, Nat.reduceLT, Nat.reduceSub, Nat.reduceBEq, forall_const, reduceCtorEq, implies_true, exists_eq_left', exists_eq_left, if_true, if_false, undef]

theorem combCheckP_spec (l : List Cb) (hl : (l.length : Int) < 2 ^ 63) : CallsA Try.prog 10 [.ro 4 (l.map encC)] (I (combErr l)) [] := by
  refine fn_of0 comp10 (by simp) ?_
  unfold code10
  simp (maxSteps := 1000000) only [encC, EA, EB, EC, ED, EE, EF, EG, EH, XA, XB, XC, XD, XE, XF, XG, XH, XI, XJ, XK, XL, XM, reduceIte, ↓reduceIte, Nat.reduceAdd, Nat.reduceLeDiff, Nat.reduceEqDiff, Nat.reduceLT, Nat.reduceSub, Nat.reduceBEq, forall_const, reduceCtorEq, implies_true, exists_eq_left', exists_eq_left, if_true, if_false, undef]
  refine callA (CallsA.args (parseP_spec l hl) (by simp [encC, EA, EB, EC, ED, EE, EF, EG, EH, XA, XB, XC, XD, XE, XF, XG, XH, XI, XJ, XK, XL, XM, reduceIte, ↓reduceIte, Nat.reduceAdd, Nat.reduceLeDiff, Nat.reduceEqDiff, Nat.reduceLT, Nat.reduceSub, Nat.reduceBEq, forall_const, reduceCtorEq, implies_true, exists_eq_left', exists_eq_left, if_true, if_false, undef])) rfl ?_
  simp (maxSteps := 1000000) only [encC, EA, EB, EC, ED, EE, EF, EG, EH, XA, XB, XC, XD, XE, XF, XG, XH, XI, XJ, XK, XL, XM, reduceIte, ↓reduceIte, Nat.reduceAdd, Nat.reduceLeDiff, Nat.reduceEqDiff, Nat.reduceLT, Nat.reduceSub, Nat.reduceBEq, forall_const, reduceCtorEq, implies_true, exists_eq_left', exists_eq_left, if_true, if_false, undef]
  try exact ⟨_, rfl⟩

theorem combStepP_spec (l : List Cb) (hl : (l.length : Int) < 2 ^ 63) : CallsA Try.prog 12 [.ro 4 (l.map encC)] (stepAns l) [] := by
  refine fn_of0 comp12 (by simp) ?_
  unfold code12
  simp (maxSteps := 1000000) only [encC, EA, EB, EC, ED, EE, EF, EG, EH, XA, XB, XC, XD, XE, XF, XG, XH, XI, XJ, XK, XL, XM, reduceIte, ↓reduceIte, Nat.reduceAdd, Nat.reduceLeDiff, Nat.reduceEqDiff, Nat.reduceLT, Nat.reduceSub, Nat.reduceBEq, forall_const, reduceCtorEq, implies_true, exists_eq_left', exists_eq_left, if_true, if_false, undef]
  refine callA (CallsA.args (parseP_spec l hl) (by simp [encC, EA, EB, EC, ED, EE, EF, EG, EH, XA, XB, XC, XD, XE, XF, XG, XH, XI, XJ, XK, XL, XM, reduceIte, ↓reduceIte, Nat.reduceAdd, Nat.reduceLeDiff, Nat.reduceEqDiff, Nat.reduceLT, Nat.reduceSub, Nat.reduceBEq, forall_const, reduceCtorEq, implies_true, exists_eq_left', exists_eq_left, if_true, if_false, undef])) rfl ?_
  by_cases hc : combErr l = 0
  rotate_left
  · have f1 : (combErr l != 0) = true := by simpa using hc
    rw [if_neg hc, stepAns_err hc]
    simp (maxSteps := 1000000) only [f1, encC, EA, EB, EC, ED, EE, EF, EG, EH, XA, XB, XC, XD, XE, XF, XG, XH, XI, XJ, XK, XL, XM, reduceIte, ↓reduceIte, Nat.reduceAdd, Nat.reduceLeDiff, Nat.reduceEqDiff, Nat.reduceLT, Nat.reduceSub, Nat.reduceBEq, forall_const, reduceCtorEq, implies_true, exists_eq_left', exists_eq_left, if_true, if_false, undef]
    try exact ⟨_, rfl⟩
  have n00 : ((0 : Int) != 0) = false := by decide
  rw [if_pos hc, hc]
  have hr := reduceP_spec (lastT l)
  cases hs : stepT (lastT l) with
  | none =>
    have e : stpP (lastT l) = .tup [nilP, Bo false] := by rw [stpP, hs]
    rw [e] at hr
    rw [stepAns_none hc hs]
    simp (maxSteps := 1000000) only [n00, encC, EA, EB, EC, ED, EE, EF, EG, EH, XA, XB, XC, XD, XE, XF, XG, XH, XI, XJ, XK, XL, XM, reduceIte, ↓reduceIte, Nat.reduceAdd, Nat.reduceLeDiff, Nat.reduceEqDiff, Nat.reduceLT, Nat.reduceSub, Nat.reduceBEq, forall_const, reduceCtorEq, implies_true, exists_eq_left', exists_eq_left, if_true, if_false, undef]
    refine callA (CallsA.args (hr) (by simp [encC, EA, EB, EC, ED, EE, EF, EG, EH, XA, XB, XC, XD, XE, XF, XG, XH, XI, XJ, XK, XL, XM, reduceIte, ↓reduceIte, Nat.reduceAdd, Nat.reduceLeDiff, Nat.reduceEqDiff, Nat.reduceLT, Nat.reduceSub, Nat.reduceBEq, forall_const, reduceCtorEq, implies_true, exists_eq_left', exists_eq_left, if_true, if_false, undef])) rfl ?_
    simp (maxSteps := 1000000) only [Bo, Bool.not_false, encC, EA, EB, EC, ED, EE, EF, EG, EH, XA, XB, XC, XD, XE, XF, XG, XH, XI, XJ, XK, XL, XM, reduceIte, ↓reduceIte, Nat.reduceAdd, Nat.reduceLeDiff, Nat.reduceEqDiff, Nat.reduceLT, Nat.reduceSub, Nat.reduceBEq, forall_const, reduceCtorEq, implies_true, exists_eq_left', exists_eq_left, if_true, if_false, undef]
    try exact ⟨_, rfl⟩
  | some u =>
    have e : stpP (lastT l) = .tup [encP u, Bo true] := by rw [stpP, hs]
    rw [e] at hr
    have hwr := writeP_spec u
    by_cases h3 : 300 < u.size
    · rw [if_pos h3] at hwr
      rw [stepAns_long hc hs h3]
      simp (maxSteps := 1000000) only [n00, encC, EA, EB, EC, ED, EE, EF, EG, EH, XA, XB, XC, XD, XE, XF, XG, XH, XI, XJ, XK, XL, XM, reduceIte, ↓reduceIte, Nat.reduceAdd, Nat.reduceLeDiff, Nat.reduceEqDiff, Nat.reduceLT, Nat.reduceSub, Nat.reduceBEq, forall_const, reduceCtorEq, implies_true, exists_eq_left', exists_eq_left, if_true, if_false, undef]
      refine callA (CallsA.args (hr) (by simp [encC, EA, EB, EC, ED, EE, EF, EG, EH, XA, XB, XC, XD, XE, XF, XG, XH, XI, XJ, XK, XL, XM, reduceIte, ↓reduceIte, Nat.reduceAdd, Nat.reduceLeDiff, Nat.reduceEqDiff, Nat.reduceLT, Nat.reduceSub, Nat.reduceBEq, forall_const, reduceCtorEq, implies_true, exists_eq_left', exists_eq_left, if_true, if_false, undef])) rfl ?_
      simp (maxSteps := 1000000) only [Bo, Bool.not_true, encC, EA, EB, EC, ED, EE, EF, EG, EH, XA, XB, XC, XD, XE, XF, XG, XH, XI, XJ, XK, XL, XM, reduceIte, ↓reduceIte, Nat.reduceAdd, Nat.reduceLeDiff, Nat.reduceEqDiff, Nat.reduceLT, Nat.reduceSub, Nat.reduceBEq, forall_const, reduceCtorEq, implies_true, exists_eq_left', exists_eq_left, if_true, if_false, undef]
      refine callA (CallsA.args (hwr) (by simp [encC, EA, EB, EC, ED, EE, EF, EG, EH, XA, XB, XC, XD, XE, XF, XG, XH, XI, XJ, XK, XL, XM, reduceIte, ↓reduceIte, Nat.reduceAdd, Nat.reduceLeDiff, Nat.reduceEqDiff, Nat.reduceLT, Nat.reduceSub, Nat.reduceBEq, forall_const, reduceCtorEq, implies_true, exists_eq_left', exists_eq_left, if_true, if_false, undef])) rfl ?_
      simp (maxSteps := 1000000) only [encC, EA, EB, EC, ED, EE, EF, EG, EH, XA, XB, XC, XD, XE, XF, XG, XH, XI, XJ, XK, XL, XM, reduceIte, ↓reduceIte, Nat.reduceAdd, Nat.reduceLeDiff, Nat.reduceEqDiff, Nat.reduceLT, Nat.reduceSub, Nat.reduceBEq, forall_const, reduceCtorEq, implies_true, exists_eq_left', exists_eq_left, if_true, if_false, undef]
    · rw [if_neg h3] at hwr
      rw [stepAns_ok hc hs h3]
      simp (maxSteps := 1000000) only [n00, encC, EA, EB, EC, ED, EE, EF, EG, EH, XA, XB, XC, XD, XE, XF, XG, XH, XI, XJ, XK, XL, XM, reduceIte, ↓reduceIte, Nat.reduceAdd, Nat.reduceLeDiff, Nat.reduceEqDiff, Nat.reduceLT, Nat.reduceSub, Nat.reduceBEq, forall_const, reduceCtorEq, implies_true, exists_eq_left', exists_eq_left, if_true, if_false, undef]
      refine callA (CallsA.args (hr) (by simp [encC, EA, EB, EC, ED, EE, EF, EG, EH, XA, XB, XC, XD, XE, XF, XG, XH, XI, XJ, XK, XL, XM, reduceIte, ↓reduceIte, Nat.reduceAdd, Nat.reduceLeDiff, Nat.reduceEqDiff, Nat.reduceLT, Nat.reduceSub, Nat.reduceBEq, forall_const, reduceCtorEq, implies_true, exists_eq_left', exists_eq_left, if_true, if_false, undef])) rfl ?_
      simp (maxSteps := 1000000) only [Bo, Bool.not_true, encC, EA, EB, EC, ED, EE, EF, EG, EH, XA, XB, XC, XD, XE, XF, XG, XH, XI, XJ, XK, XL, XM, reduceIte, ↓reduceIte, Nat.reduceAdd, Nat.reduceLeDiff, Nat.reduceEqDiff, Nat.reduceLT, Nat.reduceSub, Nat.reduceBEq, forall_const, reduceCtorEq, implies_true, exists_eq_left', exists_eq_left, if_true, if_false, undef]
      refine callA (CallsA.args (hwr) (by simp [encC, EA, EB, EC, ED, EE, EF, EG, EH, XA, XB, XC, XD, XE, XF, XG, XH, XI, XJ, XK, XL, XM, reduceIte, ↓reduceIte, Nat.reduceAdd, Nat.reduceLeDiff, Nat.reduceEqDiff, Nat.reduceLT, Nat.reduceSub, Nat.reduceBEq, forall_const, reduceCtorEq, implies_true, exists_eq_left', exists_eq_left, if_true, if_false, undef])) rfl ?_
      simp (maxSteps := 1000000) only [encC, EA, EB, EC, ED, EE, EF, EG, EH, XA, XB, XC, XD, XE, XF, XG, XH, XI, XJ, XK, XL, XM, reduceIte, ↓reduceIte, Nat.reduceAdd, Nat.reduceLeDiff, Nat.reduceEqDiff, Nat.reduceLT, Nat.reduceSub, Nat.reduceBEq, forall_const, reduceCtorEq, implies_true, exists_eq_left', exists_eq_left, if_true, if_false, undef]

theorem combNormP_spec (l : List Cb) (steps : Int) (hl : (l.length : Int) < 2 ^ 63) : CallsA Try.prog 18 [.ro 4 (l.map encC), I steps] (normAns l steps) [] := by
  refine fn_of0 comp18 (by simp) ?_
  unfold code18
  simp (maxSteps := 1000000) only [encC, EA, EB, EC, ED, EE, EF, EG, EH, XA, XB, XC, XD, XE, XF, XG, XH, XI, XJ, XK, XL, XM, reduceIte, ↓reduceIte, Nat.reduceAdd, Nat.reduceLeDiff, Nat.reduceEqDiff, Nat.reduceLT, Nat.reduceSub, Nat.reduceBEq, forall_const, reduceCtorEq, implies_true, exists_eq_left', exists_eq_left, if_true, if_false, undef]
  refine callA (CallsA.args (parseP_spec l hl) (by simp [encC, EA, EB, EC, ED, EE, EF, EG, EH, XA, XB, XC, XD, XE, XF, XG, XH, XI, XJ, XK, XL, XM, reduceIte, ↓reduceIte, Nat.reduceAdd, Nat.reduceLeDiff, Nat.reduceEqDiff, Nat.reduceLT, Nat.reduceSub, Nat.reduceBEq, forall_const, reduceCtorEq, implies_true, exists_eq_left', exists_eq_left, if_true, if_false, undef])) rfl ?_
  by_cases hc : combErr l = 0
  rotate_left
  · have f1 : (combErr l != 0) = true := by simpa using hc
    rw [if_neg hc, normAns_err hc]
    simp (maxSteps := 1000000) only [f1, encC, EA, EB, EC, ED, EE, EF, EG, EH, XA, XB, XC, XD, XE, XF, XG, XH, XI, XJ, XK, XL, XM, reduceIte, ↓reduceIte, Nat.reduceAdd, Nat.reduceLeDiff, Nat.reduceEqDiff, Nat.reduceLT, Nat.reduceSub, Nat.reduceBEq, forall_const, reduceCtorEq, implies_true, exists_eq_left', exists_eq_left, if_true, if_false, undef]
    try exact ⟨_, rfl⟩
  have n00 : ((0 : Int) != 0) = false := by decide
  rw [if_pos hc, hc]
  simp (maxSteps := 1000000) only [n00, encC, EA, EB, EC, ED, EE, EF, EG, EH, XA, XB, XC, XD, XE, XF, XG, XH, XI, XJ, XK, XL, XM, reduceIte, ↓reduceIte, Nat.reduceAdd, Nat.reduceLeDiff, Nat.reduceEqDiff, Nat.reduceLT, Nat.reduceSub, Nat.reduceBEq, forall_const, reduceCtorEq, implies_true, exists_eq_left', exists_eq_left, if_true, if_false, undef]
  by_cases hs1 : steps < 0
  · have g : decide (steps < 0) = true := by simpa using hs1
    rw [normAns_range hc (by omega)]
    simp (maxSteps := 1000000) only [g, encC, EA, EB, EC, ED, EE, EF, EG, EH, XA, XB, XC, XD, XE, XF, XG, XH, XI, XJ, XK, XL, XM, reduceIte, ↓reduceIte, Nat.reduceAdd, Nat.reduceLeDiff, Nat.reduceEqDiff, Nat.reduceLT, Nat.reduceSub, Nat.reduceBEq, forall_const, reduceCtorEq, implies_true, exists_eq_left', exists_eq_left, if_true, if_false, undef]
  have g1 : decide (steps < 0) = false := by simpa using hs1
  by_cases hs2 : 60 < steps
  · have g : decide (steps > 60) = true := by simpa using hs2
    rw [normAns_range hc (by omega)]
    simp (maxSteps := 1000000) only [g1, g, encC, EA, EB, EC, ED, EE, EF, EG, EH, XA, XB, XC, XD, XE, XF, XG, XH, XI, XJ, XK, XL, XM, reduceIte, ↓reduceIte, Nat.reduceAdd, Nat.reduceLeDiff, Nat.reduceEqDiff, Nat.reduceLT, Nat.reduceSub, Nat.reduceBEq, forall_const, reduceCtorEq, implies_true, exists_eq_left', exists_eq_left, if_true, if_false, undef]
  have g2 : decide (steps > 60) = false := by simp; omega
  obtain ⟨n, rfl⟩ : ∃ n : Nat, steps = n := ⟨steps.toNat, by omega⟩
  have hn : n ≤ 60 := by omega
  obtain ⟨hlen, hok, hsz⟩ := comb_ok hc
  simp (maxSteps := 1000000) only [g1, g2, encC, EA, EB, EC, ED, EE, EF, EG, EH, XA, XB, XC, XD, XE, XF, XG, XH, XI, XJ, XK, XL, XM, reduceIte, ↓reduceIte, Nat.reduceAdd, Nat.reduceLeDiff, Nat.reduceEqDiff, Nat.reduceLT, Nat.reduceSub, Nat.reduceBEq, forall_const, reduceCtorEq, implies_true, exists_eq_left', exists_eq_left, if_true, if_false, undef]
  refine loop0 (Nat × Tm × Nat) [27, 7, 9] (fun s => [IN s.1, encP s.2.1, IN s.2.2]) (fun s => s.1 ≤ n ∧ nrmT (lastT l) s.1 = some s.2) (fun s => n - s.1) (by decide) (0, lastT l, 0) (by simp [nrmT]) (by simp [Back, BackF, fzT, fzM, fzU, fz, fzL, fzO, kin, SubT, Sub, SubL, SubM, SubO, keepM, srcOk, look, lookM, ev, evs, putT, argT, encC, EA, EB, EC, ED, EE, EF, EG, EH, XA, XB, XC, XD, XE, XF, XG, XH, XI, XJ, XK, XL, XM, reduceIte, ↓reduceIte, Nat.reduceAdd, Nat.reduceLeDiff, Nat.reduceEqDiff, Nat.reduceLT, Nat.reduceSub, Nat.reduceBEq, forall_const, reduceCtorEq, implies_true, exists_eq_left', exists_eq_left, if_true, if_false, undef]) ?_
  rintro ⟨k, t, d⟩ ⟨hk, hz⟩
  simp only at hk hz
  have ht3 := nrm_le hsz hz
  have hli := listP_spec t ht3.1
  by_cases c1 : k < n
  rotate_left
  · have f : decide ((k : Int) < (n : Int)) = false := by simp; omega
    obtain rfl : k = n := by omega
    rw [normAns_ok hc hn hz]
    simp (maxSteps := 1000000) only [f, encC, EA, EB, EC, ED, EE, EF, EG, EH, XA, XB, XC, XD, XE, XF, XG, XH, XI, XJ, XK, XL, XM, reduceIte, ↓reduceIte, Nat.reduceAdd, Nat.reduceLeDiff, Nat.reduceEqDiff, Nat.reduceLT, Nat.reduceSub, Nat.reduceBEq, forall_const, reduceCtorEq, implies_true, exists_eq_left', exists_eq_left, if_true, if_false, undef]
    refine callA (CallsA.args (hli) (by simp [encC, EA, EB, EC, ED, EE, EF, EG, EH, XA, XB, XC, XD, XE, XF, XG, XH, XI, XJ, XK, XL, XM, reduceIte, ↓reduceIte, Nat.reduceAdd, Nat.reduceLeDiff, Nat.reduceEqDiff, Nat.reduceLT, Nat.reduceSub, Nat.reduceBEq, forall_const, reduceCtorEq, implies_true, exists_eq_left', exists_eq_left, if_true, if_false, undef])) rfl ?_
    simp (maxSteps := 1000000) only [encC, EA, EB, EC, ED, EE, EF, EG, EH, XA, XB, XC, XD, XE, XF, XG, XH, XI, XJ, XK, XL, XM, reduceIte, ↓reduceIte, Nat.reduceAdd, Nat.reduceLeDiff, Nat.reduceEqDiff, Nat.reduceLT, Nat.reduceSub, Nat.reduceBEq, forall_const, reduceCtorEq, implies_true, exists_eq_left', exists_eq_left, if_true, if_false, undef]
  have f : decide ((k : Int) < (n : Int)) = true := by simp; omega
  have hw : IntKind.i64.wrap ((k : Int) + 1) = ((k + 1 : Nat) : Int) := by rw [wrap_id] <;> omega
  have hw2 : IntKind.i64.wrap ((d : Int) + 1) = ((d + 1 : Nat) : Int) := by rw [wrap_id] <;> omega
  have hr := reduceP_spec t
  simp (maxSteps := 1000000) only [f, encC, EA, EB, EC, ED, EE, EF, EG, EH, XA, XB, XC, XD, XE, XF, XG, XH, XI, XJ, XK, XL, XM, reduceIte, ↓reduceIte, Nat.reduceAdd, Nat.reduceLeDiff, Nat.reduceEqDiff, Nat.reduceLT, Nat.reduceSub, Nat.reduceBEq, forall_const, reduceCtorEq, implies_true, exists_eq_left', exists_eq_left, if_true, if_false, undef]
  cases hs : stepT t with
  | none =>
    have e : stpP t = .tup [nilP, Bo false] := by rw [stpP, hs]
    rw [e] at hr
    rw [normAns_ok hc hn (nrm_stop hz hs hk)]
    refine callA (CallsA.args (hr) (by simp [encC, EA, EB, EC, ED, EE, EF, EG, EH, XA, XB, XC, XD, XE, XF, XG, XH, XI, XJ, XK, XL, XM, reduceIte, ↓reduceIte, Nat.reduceAdd, Nat.reduceLeDiff, Nat.reduceEqDiff, Nat.reduceLT, Nat.reduceSub, Nat.reduceBEq, forall_const, reduceCtorEq, implies_true, exists_eq_left', exists_eq_left, if_true, if_false, undef])) rfl ?_
    simp (maxSteps := 1000000) only [Bo, Bool.not_false, encC, EA, EB, EC, ED, EE, EF, EG, EH, XA, XB, XC, XD, XE, XF, XG, XH, XI, XJ, XK, XL, XM, reduceIte, ↓reduceIte, Nat.reduceAdd, Nat.reduceLeDiff, Nat.reduceEqDiff, Nat.reduceLT, Nat.reduceSub, Nat.reduceBEq, forall_const, reduceCtorEq, implies_true, exists_eq_left', exists_eq_left, if_true, if_false, undef]
    refine callA (CallsA.args (hli) (by simp [encC, EA, EB, EC, ED, EE, EF, EG, EH, XA, XB, XC, XD, XE, XF, XG, XH, XI, XJ, XK, XL, XM, reduceIte, ↓reduceIte, Nat.reduceAdd, Nat.reduceLeDiff, Nat.reduceEqDiff, Nat.reduceLT, Nat.reduceSub, Nat.reduceBEq, forall_const, reduceCtorEq, implies_true, exists_eq_left', exists_eq_left, if_true, if_false, undef])) rfl ?_
    simp (maxSteps := 1000000) only [encC, EA, EB, EC, ED, EE, EF, EG, EH, XA, XB, XC, XD, XE, XF, XG, XH, XI, XJ, XK, XL, XM, reduceIte, ↓reduceIte, Nat.reduceAdd, Nat.reduceLeDiff, Nat.reduceEqDiff, Nat.reduceLT, Nat.reduceSub, Nat.reduceBEq, forall_const, reduceCtorEq, implies_true, exists_eq_left', exists_eq_left, if_true, if_false, undef]
  | some u =>
    have e : stpP t = .tup [encP u, Bo true] := by rw [stpP, hs]
    rw [e] at hr
    refine callA (CallsA.args (hr) (by simp [encC, EA, EB, EC, ED, EE, EF, EG, EH, XA, XB, XC, XD, XE, XF, XG, XH, XI, XJ, XK, XL, XM, reduceIte, ↓reduceIte, Nat.reduceAdd, Nat.reduceLeDiff, Nat.reduceEqDiff, Nat.reduceLT, Nat.reduceSub, Nat.reduceBEq, forall_const, reduceCtorEq, implies_true, exists_eq_left', exists_eq_left, if_true, if_false, undef])) rfl ?_
    simp (maxSteps := 1000000) only [Bo, Bool.not_true, encC, EA, EB, EC, ED, EE, EF, EG, EH, XA, XB, XC, XD, XE, XF, XG, XH, XI, XJ, XK, XL, XM, reduceIte, ↓reduceIte, Nat.reduceAdd, Nat.reduceLeDiff, Nat.reduceEqDiff, Nat.reduceLT, Nat.reduceSub, Nat.reduceBEq, forall_const, reduceCtorEq, implies_true, exists_eq_left', exists_eq_left, if_true, if_false, undef]
    refine callF (CallsA.args (isLongP_spec u) (by simp [encC, EA, EB, EC, ED, EE, EF, EG, EH, XA, XB, XC, XD, XE, XF, XG, XH, XI, XJ, XK, XL, XM, reduceIte, ↓reduceIte, Nat.reduceAdd, Nat.reduceLeDiff, Nat.reduceEqDiff, Nat.reduceLT, Nat.reduceSub, Nat.reduceBEq, forall_const, reduceCtorEq, implies_true, exists_eq_left', exists_eq_left, if_true, if_false, undef])) rfl (by simp [flat, encC, EA, EB, EC, ED, EE, EF, EG, EH, XA, XB, XC, XD, XE, XF, XG, XH, XI, XJ, XK, XL, XM, reduceIte, ↓reduceIte, Nat.reduceAdd, Nat.reduceLeDiff, Nat.reduceEqDiff, Nat.reduceLT, Nat.reduceSub, Nat.reduceBEq, forall_const, reduceCtorEq, implies_true, exists_eq_left', exists_eq_left, if_true, if_false, undef]) ?_
    by_cases h3 : 300 < u.size
    · have g : decide (300 < u.size) = true := by simpa using h3
      have hnn : nrmT (lastT l) (k + 1) = none := by rw [nrmT, hz]; simp only [hs]; rw [if_pos h3]
      rw [normAns_long hc hn (nrm_none hnn (by omega))]
      simp (maxSteps := 1000000) only [g, Bo, encC, EA, EB, EC, ED, EE, EF, EG, EH, XA, XB, XC, XD, XE, XF, XG, XH, XI, XJ, XK, XL, XM, reduceIte, ↓reduceIte, Nat.reduceAdd, Nat.reduceLeDiff, Nat.reduceEqDiff, Nat.reduceLT, Nat.reduceSub, Nat.reduceBEq, forall_const, reduceCtorEq, implies_true, exists_eq_left', exists_eq_left, if_true, if_false, undef]
    · have g : decide (300 < u.size) = false := by simpa using h3
      have hnn : nrmT (lastT l) (k + 1) = some (u, d + 1) := by rw [nrmT, hz]; simp only [hs]; rw [if_neg h3]
      simp (maxSteps := 1000000) only [g, hw, hw2, Bo, encC, EA, EB, EC, ED, EE, EF, EG, EH, XA, XB, XC, XD, XE, XF, XG, XH, XI, XJ, XK, XL, XM, reduceIte, ↓reduceIte, Nat.reduceAdd, Nat.reduceLeDiff, Nat.reduceEqDiff, Nat.reduceLT, Nat.reduceSub, Nat.reduceBEq, forall_const, reduceCtorEq, implies_true, exists_eq_left', exists_eq_left, if_true, if_false, undef]
      exact ⟨(k + 1, u, d + 1), ⟨by simp only; omega, hnn⟩, by simp only; omega, by simp [Back, BackF, fzT, fzM, fzU, fz, fzL, fzO, kin, SubT, Sub, SubL, SubM, SubO, keepM, srcOk, look, lookM, ev, evs, putT, argT, encC, EA, EB, EC, ED, EE, EF, EG, EH, XA, XB, XC, XD, XE, XF, XG, XH, XI, XJ, XK, XL, XM, reduceIte, ↓reduceIte, Nat.reduceAdd, Nat.reduceLeDiff, Nat.reduceEqDiff, Nat.reduceLT, Nat.reduceSub, Nat.reduceBEq, forall_const, reduceCtorEq, implies_true, exists_eq_left', exists_eq_left, if_true, if_false, undef]⟩

theorem combOutP_spec (l : List Cb) (w : Int) (hl : (l.length : Int) < 2 ^ 63) : CallsA Try.prog 20 [.ro 4 (l.map encC), I w] (outAns l w) [] := by
  refine fn_of0 comp20 (by simp) ?_
  unfold code20
  simp (maxSteps := 1000000) only [encC, EA, EB, EC, ED, EE, EF, EG, EH, XA, XB, XC, XD, XE, XF, XG, XH, XI, XJ, XK, XL, XM, reduceIte, ↓reduceIte, Nat.reduceAdd, Nat.reduceLeDiff, Nat.reduceEqDiff, Nat.reduceLT, Nat.reduceSub, Nat.reduceBEq, forall_const, reduceCtorEq, implies_true, exists_eq_left', exists_eq_left, if_true, if_false, undef]
  refine callA (CallsA.args (parseP_spec l hl) (by simp [encC, EA, EB, EC, ED, EE, EF, EG, EH, XA, XB, XC, XD, XE, XF, XG, XH, XI, XJ, XK, XL, XM, reduceIte, ↓reduceIte, Nat.reduceAdd, Nat.reduceLeDiff, Nat.reduceEqDiff, Nat.reduceLT, Nat.reduceSub, Nat.reduceBEq, forall_const, reduceCtorEq, implies_true, exists_eq_left', exists_eq_left, if_true, if_false, undef])) rfl ?_
  by_cases hc : combErr l = 0
  rotate_left
  · have f1 : (combErr l != 0) = true := by simpa using hc
    rw [if_neg hc, outAns_err hc]
    simp (maxSteps := 1000000) only [f1, encC, EA, EB, EC, ED, EE, EF, EG, EH, XA, XB, XC, XD, XE, XF, XG, XH, XI, XJ, XK, XL, XM, reduceIte, ↓reduceIte, Nat.reduceAdd, Nat.reduceLeDiff, Nat.reduceEqDiff, Nat.reduceLT, Nat.reduceSub, Nat.reduceBEq, forall_const, reduceCtorEq, implies_true, exists_eq_left', exists_eq_left, if_true, if_false, undef]
    try exact ⟨_, rfl⟩
  have n00 : ((0 : Int) != 0) = false := by decide
  rw [if_pos hc, hc]
  simp (maxSteps := 1000000) only [n00, encC, EA, EB, EC, ED, EE, EF, EG, EH, XA, XB, XC, XD, XE, XF, XG, XH, XI, XJ, XK, XL, XM, reduceIte, ↓reduceIte, Nat.reduceAdd, Nat.reduceLeDiff, Nat.reduceEqDiff, Nat.reduceLT, Nat.reduceSub, Nat.reduceBEq, forall_const, reduceCtorEq, implies_true, exists_eq_left', exists_eq_left, if_true, if_false, undef]
  refine callF (CallsA.args (isVariable_spec w) (by simp [encC, EA, EB, EC, ED, EE, EF, EG, EH, XA, XB, XC, XD, XE, XF, XG, XH, XI, XJ, XK, XL, XM, reduceIte, ↓reduceIte, Nat.reduceAdd, Nat.reduceLeDiff, Nat.reduceEqDiff, Nat.reduceLT, Nat.reduceSub, Nat.reduceBEq, forall_const, reduceCtorEq, implies_true, exists_eq_left', exists_eq_left, if_true, if_false, undef])) rfl (by simp [flat, encC, EA, EB, EC, ED, EE, EF, EG, EH, XA, XB, XC, XD, XE, XF, XG, XH, XI, XJ, XK, XL, XM, reduceIte, ↓reduceIte, Nat.reduceAdd, Nat.reduceLeDiff, Nat.reduceEqDiff, Nat.reduceLT, Nat.reduceSub, Nat.reduceBEq, forall_const, reduceCtorEq, implies_true, exists_eq_left', exists_eq_left, if_true, if_false, undef]) ?_
  by_cases hv : 0 ≤ w ∧ w ≤ 1000
  rotate_left
  · have f : decide (0 ≤ w ∧ w ≤ 1000) = false := by rw [decide_eq_false_iff_not]; exact hv
    rw [outAns_range hc hv]
    simp (maxSteps := 1000000) only [f, Bo, Bool.not_false, encC, EA, EB, EC, ED, EE, EF, EG, EH, XA, XB, XC, XD, XE, XF, XG, XH, XI, XJ, XK, XL, XM, reduceIte, ↓reduceIte, Nat.reduceAdd, Nat.reduceLeDiff, Nat.reduceEqDiff, Nat.reduceLT, Nat.reduceSub, Nat.reduceBEq, forall_const, reduceCtorEq, implies_true, exists_eq_left', exists_eq_left, if_true, if_false, undef]
  have f : decide (0 ≤ w ∧ w ≤ 1000) = true := by rw [decide_eq_true_iff]; exact hv
  have hwr := writeP_spec (outT w (lastT l))
  by_cases h3 : 300 < (outT w (lastT l)).size
  · rw [if_pos h3] at hwr
    rw [outAns_long hc hv h3]
    simp (maxSteps := 1000000) only [f, Bo, Bool.not_true, encC, EA, EB, EC, ED, EE, EF, EG, EH, XA, XB, XC, XD, XE, XF, XG, XH, XI, XJ, XK, XL, XM, reduceIte, ↓reduceIte, Nat.reduceAdd, Nat.reduceLeDiff, Nat.reduceEqDiff, Nat.reduceLT, Nat.reduceSub, Nat.reduceBEq, forall_const, reduceCtorEq, implies_true, exists_eq_left', exists_eq_left, if_true, if_false, undef]
    refine callA (CallsA.args (abstractP_spec w (lastT l)) (by simp [encC, EA, EB, EC, ED, EE, EF, EG, EH, XA, XB, XC, XD, XE, XF, XG, XH, XI, XJ, XK, XL, XM, reduceIte, ↓reduceIte, Nat.reduceAdd, Nat.reduceLeDiff, Nat.reduceEqDiff, Nat.reduceLT, Nat.reduceSub, Nat.reduceBEq, forall_const, reduceCtorEq, implies_true, exists_eq_left', exists_eq_left, if_true, if_false, undef])) rfl ?_
    simp (maxSteps := 1000000) only [encC, EA, EB, EC, ED, EE, EF, EG, EH, XA, XB, XC, XD, XE, XF, XG, XH, XI, XJ, XK, XL, XM, reduceIte, ↓reduceIte, Nat.reduceAdd, Nat.reduceLeDiff, Nat.reduceEqDiff, Nat.reduceLT, Nat.reduceSub, Nat.reduceBEq, forall_const, reduceCtorEq, implies_true, exists_eq_left', exists_eq_left, if_true, if_false, undef]
    refine callA (CallsA.args (hwr) (by simp [encC, EA, EB, EC, ED, EE, EF, EG, EH, XA, XB, XC, XD, XE, XF, XG, XH, XI, XJ, XK, XL, XM, reduceIte, ↓reduceIte, Nat.reduceAdd, Nat.reduceLeDiff, Nat.reduceEqDiff, Nat.reduceLT, Nat.reduceSub, Nat.reduceBEq, forall_const, reduceCtorEq, implies_true, exists_eq_left', exists_eq_left, if_true, if_false, undef])) rfl ?_
    simp (maxSteps := 1000000) only [encC, EA, EB, EC, ED, EE, EF, EG, EH, XA, XB, XC, XD, XE, XF, XG, XH, XI, XJ, XK, XL, XM, reduceIte, ↓reduceIte, Nat.reduceAdd, Nat.reduceLeDiff, Nat.reduceEqDiff, Nat.reduceLT, Nat.reduceSub, Nat.reduceBEq, forall_const, reduceCtorEq, implies_true, exists_eq_left', exists_eq_left, if_true, if_false, undef]
  · rw [if_neg h3] at hwr
    rw [outAns_ok hc hv h3]
    simp (maxSteps := 1000000) only [f, Bo, Bool.not_true, encC, EA, EB, EC, ED, EE, EF, EG, EH, XA, XB, XC, XD, XE, XF, XG, XH, XI, XJ, XK, XL, XM, reduceIte, ↓reduceIte, Nat.reduceAdd, Nat.reduceLeDiff, Nat.reduceEqDiff, Nat.reduceLT, Nat.reduceSub, Nat.reduceBEq, forall_const, reduceCtorEq, implies_true, exists_eq_left', exists_eq_left, if_true, if_false, undef]
    refine callA (CallsA.args (abstractP_spec w (lastT l)) (by simp [encC, EA, EB, EC, ED, EE, EF, EG, EH, XA, XB, XC, XD, XE, XF, XG, XH, XI, XJ, XK, XL, XM, reduceIte, ↓reduceIte, Nat.reduceAdd, Nat.reduceLeDiff, Nat.reduceEqDiff, Nat.reduceLT, Nat.reduceSub, Nat.reduceBEq, forall_const, reduceCtorEq, implies_true, exists_eq_left', exists_eq_left, if_true, if_false, undef])) rfl ?_
    simp (maxSteps := 1000000) only [encC, EA, EB, EC, ED, EE, EF, EG, EH, XA, XB, XC, XD, XE, XF, XG, XH, XI, XJ, XK, XL, XM, reduceIte, ↓reduceIte, Nat.reduceAdd, Nat.reduceLeDiff, Nat.reduceEqDiff, Nat.reduceLT, Nat.reduceSub, Nat.reduceBEq, forall_const, reduceCtorEq, implies_true, exists_eq_left', exists_eq_left, if_true, if_false, undef]
    refine callA (CallsA.args (hwr) (by simp [encC, EA, EB, EC, ED, EE, EF, EG, EH, XA, XB, XC, XD, XE, XF, XG, XH, XI, XJ, XK, XL, XM, reduceIte, ↓reduceIte, Nat.reduceAdd, Nat.reduceLeDiff, Nat.reduceEqDiff, Nat.reduceLT, Nat.reduceSub, Nat.reduceBEq, forall_const, reduceCtorEq, implies_true, exists_eq_left', exists_eq_left, if_true, if_false, undef])) rfl ?_
    simp (maxSteps := 1000000) only [encC, EA, EB, EC, ED, EE, EF, EG, EH, XA, XB, XC, XD, XE, XF, XG, XH, XI, XJ, XK, XL, XM, reduceIte, ↓reduceIte, Nat.reduceAdd, Nat.reduceLeDiff, Nat.reduceEqDiff, Nat.reduceLT, Nat.reduceSub, Nat.reduceBEq, forall_const, reduceCtorEq, implies_true, exists_eq_left', exists_eq_left, if_true, if_false, undef]

end Go.Av
