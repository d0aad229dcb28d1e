/- Small machines: the program's numbering. -/
import Derived.Test.YtegokadlkgghlaaBusyB
set_option linter.unusedSimpArgs false
set_option linter.unusedVariables false
set_option maxRecDepth 100000
namespace Go.Av
open Go.Proofs

def bMv (l : List (List Rule)) : Bool := l.all fun r => r.all fun x => decide (x.m ≠ 0)

theorem numG_sign {s : Int} (hs : 0 ≤ s) : ∀ {l : List Rule} {n : Int}, 0 ≤ n → (∀ r ∈ l, 0 ≤ r.w ∧ 0 ≤ r.n) → (0 ≤ numG s n l ↔ (l.all fun x => decide (x.m ≠ 0)) = true) := by
  intro l
  induction l with
  | nil => intro n hn _; simp [numG, hn]
  | cons r l ih =>
    intro n hn hl
    rw [numG]
    by_cases hm : r.m = 0
    · rw [if_pos hm]; simp [hm]
    · rw [if_neg hm]
      obtain ⟨h1, h2⟩ := hl r (by simp)
      have hx : 0 ≤ n * 4 * (s + 1) + (2 * r.w + (if r.m > 0 then 1 else 0)) * (s + 1) + r.n := by
        have e1 : 0 ≤ n * 4 * (s + 1) := Int.mul_nonneg (by omega) (by omega)
        have e2 : 0 ≤ (2 * r.w + (if r.m > 0 then 1 else 0)) * (s + 1) := Int.mul_nonneg (by split <;> omega) (by omega)
        omega
      rw [ih hx (fun q hq => hl q (by simp [hq]))]
      simp [hm]

theorem digM_sign {m : Mach} (hm : MOk m) : 0 ≤ digM m ↔ bMv m.rules = true := by
  have h0 : (0 : Int) ≤ m.states := by have := hm.s1; omega
  rw [digM, numG_sign h0 (Int.le_refl 0) (fun r hr => ?_)]
  · simp [bMv, List.all_flatten]
  · obtain ⟨l, hl, hr⟩ := List.mem_flatten.1 hr
    have := hm.rule l hl r hr
    omega

theorem isNumbered_spec (m : Mach) (hm : MOk m) : CallsA Try.prog 21 [encM m] (Bo (decide (m.states ≤ 2 ∧ m.signs = 2) && bMv m.rules)) [] := by
  obtain ⟨st, sg, rules⟩ := m
  have hs1 := hm.s1
  have hs5 := hm.s5
  have hlen := hm.len
  have hrow := hm.row
  have hrule := hm.rule
  have hg4 := hm.g4
  have hg2 := hm.g2
  simp only at hs1 hs5 hlen hrow hrule hg4 hg2
  refine fn_of0 comp21 (by simp) ?_
  unfold code21
  have hll : ((rules.map encRow).length : Int) = rules.length := by simp
  simp (maxSteps := 1000000) only [encM, encR, encRow, encM, EA, EB, EC, ED, EE, EF, EG, EH, EI, XA, XB, XC, XD, XE, XF, XG, XH, XI, XJ, XK, XL, XM, reduceIte, ↓reduceIte, Nat.reduceAdd, Nat.reduceLeDiff, Nat.reduceEqDiff, Nat.reduceLT, Nat.reduceSub, Nat.reduceBEq, forall_const, reduceCtorEq, implies_true, exists_eq_left', exists_eq_left, if_true, if_false, undef]
  refine callF (CallsA.args (isStates_spec st) (by simp [encR, encRow, encM, EA, EB, EC, ED, EE, EF, EG, EH, EI, XA, XB, XC, XD, XE, XF, XG, XH, XI, XJ, XK, XL, XM, reduceIte, ↓reduceIte, Nat.reduceAdd, Nat.reduceLeDiff, Nat.reduceEqDiff, Nat.reduceLT, Nat.reduceSub, Nat.reduceBEq, forall_const, reduceCtorEq, implies_true, exists_eq_left', exists_eq_left, if_true, if_false, undef])) rfl (by simp [flat, encR, encRow, encM, EA, EB, EC, ED, EE, EF, EG, EH, EI, XA, XB, XC, XD, XE, XF, XG, XH, XI, XJ, XK, XL, XM, reduceIte, ↓reduceIte, Nat.reduceAdd, Nat.reduceLeDiff, Nat.reduceEqDiff, Nat.reduceLT, Nat.reduceSub, Nat.reduceBEq, forall_const, reduceCtorEq, implies_true, exists_eq_left', exists_eq_left, if_true, if_false, undef]) ?_
  by_cases h1 : st ≤ 2
  rotate_left
  · have g1 : decide (1 ≤ st ∧ st ≤ 2) = false := by simp; omega
    simp (maxSteps := 1000000) only [g1, encR, encRow, encM, EA, EB, EC, ED, EE, EF, EG, EH, EI, XA, XB, XC, XD, XE, XF, XG, XH, XI, XJ, XK, XL, XM, reduceIte, ↓reduceIte, Nat.reduceAdd, Nat.reduceLeDiff, Nat.reduceEqDiff, Nat.reduceLT, Nat.reduceSub, Nat.reduceBEq, forall_const, reduceCtorEq, implies_true, exists_eq_left', exists_eq_left, if_true, if_false, undef]
    simp [h1]
  have g1 : decide (1 ≤ st ∧ st ≤ 2) = true := by simp; omega
  by_cases h2 : sg = 2
  rotate_left
  · have g2 : (sg != 2) = true := by simp [h2]
    simp (maxSteps := 1000000) only [g1, g2, encR, encRow, encM, EA, EB, EC, ED, EE, EF, EG, EH, EI, XA, XB, XC, XD, XE, XF, XG, XH, XI, XJ, XK, XL, XM, reduceIte, ↓reduceIte, Nat.reduceAdd, Nat.reduceLeDiff, Nat.reduceEqDiff, Nat.reduceLT, Nat.reduceSub, Nat.reduceBEq, forall_const, reduceCtorEq, implies_true, exists_eq_left', exists_eq_left, if_true, if_false, undef]
    simp [h2]
  have g2 : (sg != 2) = false := by simp [h2]
  have hres : (decide (st ≤ 2 ∧ sg = 2) && bMv rules) = bMv rules := by simp [h1, h2]
  simp (maxSteps := 1000000) only [g1, g2, hll, hres, encR, encRow, encM, EA, EB, EC, ED, EE, EF, EG, EH, EI, XA, XB, XC, XD, XE, XF, XG, XH, XI, XJ, XK, XL, XM, reduceIte, ↓reduceIte, Nat.reduceAdd, Nat.reduceLeDiff, Nat.reduceEqDiff, Nat.reduceLT, Nat.reduceSub, Nat.reduceBEq, forall_const, reduceCtorEq, implies_true, exists_eq_left', exists_eq_left, if_true, if_false, undef]
  refine loopO Nat [19] (fun k => [IN k]) (fun k => []) (fun k => k ≤ rules.length ∧ bMv (rules.take k) = true) (fun k => rules.length - k) (by decide) 0 ⟨by simp, rfl⟩ (by simp [Back, BackF, fzT, fzM, fzU, fz, fzL, fzO, kin, SubT, Sub, SubL, SubM, SubO, keepM, srcOk, look, lookM, ev, evs, putT, argT, encR, encRow, encM, EA, EB, EC, ED, EE, EF, EG, EH, EI, XA, XB, XC, XD, XE, XF, XG, XH, XI, XJ, XK, XL, XM, reduceIte, ↓reduceIte, Nat.reduceAdd, Nat.reduceLeDiff, Nat.reduceEqDiff, Nat.reduceLT, Nat.reduceSub, Nat.reduceBEq, forall_const, reduceCtorEq, implies_true, exists_eq_left', exists_eq_left, if_true, if_false, undef]) (fun i hi => ?_)
  obtain ⟨hi, hp⟩ := hi
  by_cases c1 : i < rules.length
  rotate_left
  · have e1 : decide ((i : Int) < (rules.length : Int)) = false := by simp; omega
    rw [List.take_of_length_le (by omega)] at hp
    simp (maxSteps := 1000000) only [hll, e1, hres, hp, encR, encRow, encM, EA, EB, EC, ED, EE, EF, EG, EH, EI, XA, XB, XC, XD, XE, XF, XG, XH, XI, XJ, XK, XL, XM, reduceIte, ↓reduceIte, Nat.reduceAdd, Nat.reduceLeDiff, Nat.reduceEqDiff, Nat.reduceLT, Nat.reduceSub, Nat.reduceBEq, forall_const, reduceCtorEq, implies_true, exists_eq_left', exists_eq_left, if_true, if_false, undef]
    simp [h1, h2]
  have e1 : decide ((i : Int) < (rules.length : Int)) = true := by simp [c1]
  have hwi : IntKind.i64.wrap ((i : Int) + 1) = ((i + 1 : Nat) : Int) := by rw [wrap_id] <;> omega
  have hrl := hrow _ (List.getElem_mem c1)
  simp (maxSteps := 1000000) only [hll, e1, encR, encRow, encM, EA, EB, EC, ED, EE, EF, EG, EH, EI, XA, XB, XC, XD, XE, XF, XG, XH, XI, XJ, XK, XL, XM, reduceIte, ↓reduceIte, Nat.reduceAdd, Nat.reduceLeDiff, Nat.reduceEqDiff, Nat.reduceLT, Nat.reduceSub, Nat.reduceBEq, forall_const, reduceCtorEq, implies_true, exists_eq_left', exists_eq_left, if_true, if_false, undef]
  refine ⟨by omega, pickM c1 ?_⟩
  have hall : ∀ j, (hj : j < rules[i].length) → (rules[i][j]).m = 0 → bMv rules = false := fun j hj h0 => by
    rw [bMv, List.all_eq_false]
    refine ⟨rules[i], List.getElem_mem c1, ?_⟩
    rw [Bool.not_eq_true, List.all_eq_false]
    exact ⟨_, List.getElem_mem hj, by simp [h0]⟩
  have hnext : (rules[i].all fun x => decide (x.m ≠ 0)) = true → bMv (rules.take (i + 1)) = true := fun h => all_take c1 hp h
  generalize rules[i] = row at *
  have hrll : ((row.map encR).length : Int) = row.length := by simp
  simp (maxSteps := 1000000) only [encRow, hrll, encR, encRow, encM, EA, EB, EC, ED, EE, EF, EG, EH, EI, XA, XB, XC, XD, XE, XF, XG, XH, XI, XJ, XK, XL, XM, reduceIte, ↓reduceIte, Nat.reduceAdd, Nat.reduceLeDiff, Nat.reduceEqDiff, Nat.reduceLT, Nat.reduceSub, Nat.reduceBEq, forall_const, reduceCtorEq, implies_true, exists_eq_left', exists_eq_left, if_true, if_false, undef]
  refine loopO Nat [25] (fun k => [IN k]) (fun k => []) (fun k => k ≤ row.length ∧ ((row.take k).all fun x => decide (x.m ≠ 0)) = true) (fun k => row.length - k) (by decide) 0 ⟨by simp, rfl⟩ (by simp [Back, BackF, fzT, fzM, fzU, fz, fzL, fzO, kin, SubT, Sub, SubL, SubM, SubO, keepM, srcOk, look, lookM, ev, evs, putT, argT, encR, encRow, encM, EA, EB, EC, ED, EE, EF, EG, EH, EI, XA, XB, XC, XD, XE, XF, XG, XH, XI, XJ, XK, XL, XM, reduceIte, ↓reduceIte, Nat.reduceAdd, Nat.reduceLeDiff, Nat.reduceEqDiff, Nat.reduceLT, Nat.reduceSub, Nat.reduceBEq, forall_const, reduceCtorEq, implies_true, exists_eq_left', exists_eq_left, if_true, if_false, undef]) (fun j hj => ?_)
  obtain ⟨hj, hq⟩ := hj
  by_cases c2 : j < row.length
  rotate_left
  · have e2 : decide ((j : Int) < (row.length : Int)) = false := by simp; omega
    rw [List.take_of_length_le (by omega)] at hq
    simp (maxSteps := 1000000) only [hll, hrll, e2, hwi, encR, encRow, encM, EA, EB, EC, ED, EE, EF, EG, EH, EI, XA, XB, XC, XD, XE, XF, XG, XH, XI, XJ, XK, XL, XM, reduceIte, ↓reduceIte, Nat.reduceAdd, Nat.reduceLeDiff, Nat.reduceEqDiff, Nat.reduceLT, Nat.reduceSub, Nat.reduceBEq, forall_const, reduceCtorEq, implies_true, exists_eq_left', exists_eq_left, if_true, if_false, undef]
    exact ⟨i + 1, ⟨by omega, hnext hq⟩, by omega, by simp [Back, BackF, fzT, fzM, fzU, fz, fzL, fzO, kin, SubT, Sub, SubL, SubM, SubO, keepM, srcOk, look, lookM, ev, evs, putT, argT, encR, encRow, encM, EA, EB, EC, ED, EE, EF, EG, EH, EI, XA, XB, XC, XD, XE, XF, XG, XH, XI, XJ, XK, XL, XM, reduceIte, ↓reduceIte, Nat.reduceAdd, Nat.reduceLeDiff, Nat.reduceEqDiff, Nat.reduceLT, Nat.reduceSub, Nat.reduceBEq, forall_const, reduceCtorEq, implies_true, exists_eq_left', exists_eq_left, if_true, if_false, undef]⟩
  have e2 : decide ((j : Int) < (row.length : Int)) = true := by simp [c2]
  have hwj : IntKind.i64.wrap ((j : Int) + 1) = ((j + 1 : Nat) : Int) := by rw [wrap_id] <;> omega
  simp (maxSteps := 1000000) only [hrll, e2, encR, encRow, encM, EA, EB, EC, ED, EE, EF, EG, EH, EI, XA, XB, XC, XD, XE, XF, XG, XH, XI, XJ, XK, XL, XM, reduceIte, ↓reduceIte, Nat.reduceAdd, Nat.reduceLeDiff, Nat.reduceEqDiff, Nat.reduceLT, Nat.reduceSub, Nat.reduceBEq, forall_const, reduceCtorEq, implies_true, exists_eq_left', exists_eq_left, if_true, if_false, undef]
  refine ⟨by omega, pickM c2 ?_⟩
  have hal := hall j c2
  have htk := all_take (p := fun x : Rule => decide (x.m ≠ 0)) c2 hq
  generalize row[j] = r at *
  simp (maxSteps := 1000000) only [encR, splice, AV.cells, encR, encRow, encM, EA, EB, EC, ED, EE, EF, EG, EH, EI, XA, XB, XC, XD, XE, XF, XG, XH, XI, XJ, XK, XL, XM, reduceIte, ↓reduceIte, Nat.reduceAdd, Nat.reduceLeDiff, Nat.reduceEqDiff, Nat.reduceLT, Nat.reduceSub, Nat.reduceBEq, forall_const, reduceCtorEq, implies_true, exists_eq_left', exists_eq_left, if_true, if_false, undef]
  by_cases h0 : r.m = 0
  · have e3 : (r.m == 0) = true := by simp [h0]
    simp (maxSteps := 1000000) only [e3, hres, hal h0, encR, encRow, encM, EA, EB, EC, ED, EE, EF, EG, EH, EI, XA, XB, XC, XD, XE, XF, XG, XH, XI, XJ, XK, XL, XM, reduceIte, ↓reduceIte, Nat.reduceAdd, Nat.reduceLeDiff, Nat.reduceEqDiff, Nat.reduceLT, Nat.reduceSub, Nat.reduceBEq, forall_const, reduceCtorEq, implies_true, exists_eq_left', exists_eq_left, if_true, if_false, undef]
    simp
  · have e3 : (r.m == 0) = false := by simp [h0]
    simp (maxSteps := 1000000) only [e3, hwj, encR, encRow, encM, EA, EB, EC, ED, EE, EF, EG, EH, EI, XA, XB, XC, XD, XE, XF, XG, XH, XI, XJ, XK, XL, XM, reduceIte, ↓reduceIte, Nat.reduceAdd, Nat.reduceLeDiff, Nat.reduceEqDiff, Nat.reduceLT, Nat.reduceSub, Nat.reduceBEq, forall_const, reduceCtorEq, implies_true, exists_eq_left', exists_eq_left, if_true, if_false, undef]
    exact ⟨j + 1, ⟨by omega, htk (by simp [h0])⟩, by omega, by simp [Back, BackF, fzT, fzM, fzU, fz, fzL, fzO, kin, SubT, Sub, SubL, SubM, SubO, keepM, srcOk, look, lookM, ev, evs, putT, argT, encR, encRow, encM, EA, EB, EC, ED, EE, EF, EG, EH, EI, XA, XB, XC, XD, XE, XF, XG, XH, XI, XJ, XK, XL, XM, reduceIte, ↓reduceIte, Nat.reduceAdd, Nat.reduceLeDiff, Nat.reduceEqDiff, Nat.reduceLT, Nat.reduceSub, Nat.reduceBEq, forall_const, reduceCtorEq, implies_true, exists_eq_left', exists_eq_left, if_true, if_false, undef]⟩

theorem busyBuildP_spec (s n : Int) : CallsA Try.prog 8 [I s, I n] (buildAnsM s n) [] := by
  refine fn_of0 comp8 (by simp) ?_
  unfold code8
  simp (maxSteps := 1000000) only [encR, encRow, encM, EA, EB, EC, ED, EE, EF, EG, EH, EI, XA, XB, XC, XD, XE, XF, XG, XH, XI, XJ, XK, XL, XM, reduceIte, ↓reduceIte, Nat.reduceAdd, Nat.reduceLeDiff, Nat.reduceEqDiff, Nat.reduceLT, Nat.reduceSub, Nat.reduceBEq, forall_const, reduceCtorEq, implies_true, exists_eq_left', exists_eq_left, if_true, if_false, undef]
  refine callF (CallsA.args (isStates_spec s) (by simp [encR, encRow, encM, EA, EB, EC, ED, EE, EF, EG, EH, EI, XA, XB, XC, XD, XE, XF, XG, XH, XI, XJ, XK, XL, XM, reduceIte, ↓reduceIte, Nat.reduceAdd, Nat.reduceLeDiff, Nat.reduceEqDiff, Nat.reduceLT, Nat.reduceSub, Nat.reduceBEq, forall_const, reduceCtorEq, implies_true, exists_eq_left', exists_eq_left, if_true, if_false, undef])) rfl (by simp [flat, encR, encRow, encM, EA, EB, EC, ED, EE, EF, EG, EH, EI, XA, XB, XC, XD, XE, XF, XG, XH, XI, XJ, XK, XL, XM, reduceIte, ↓reduceIte, Nat.reduceAdd, Nat.reduceLeDiff, Nat.reduceEqDiff, Nat.reduceLT, Nat.reduceSub, Nat.reduceBEq, forall_const, reduceCtorEq, implies_true, exists_eq_left', exists_eq_left, if_true, if_false, undef]) ?_
  by_cases h1 : 1 ≤ s ∧ s ≤ 2
  rotate_left
  · have g1 : decide (1 ≤ s ∧ s ≤ 2) = false := by simp only [decide_eq_false_iff_not]; exact h1
    have e : bldErr s n = 1 := by rw [bldErr, if_pos h1]
    simp (maxSteps := 1000000) only [g1, encR, encRow, encM, EA, EB, EC, ED, EE, EF, EG, EH, EI, XA, XB, XC, XD, XE, XF, XG, XH, XI, XJ, XK, XL, XM, reduceIte, ↓reduceIte, Nat.reduceAdd, Nat.reduceLeDiff, Nat.reduceEqDiff, Nat.reduceLT, Nat.reduceSub, Nat.reduceBEq, forall_const, reduceCtorEq, implies_true, exists_eq_left', exists_eq_left, if_true, if_false, undef]
    simp [buildAnsM, e, encR, encRow, encM, EA, EB, EC, ED, EE, EF, EG, EH, EI, XA, XB, XC, XD, XE, XF, XG, XH, XI, XJ, XK, XL, XM, reduceIte, ↓reduceIte, Nat.reduceAdd, Nat.reduceLeDiff, Nat.reduceEqDiff, Nat.reduceLT, Nat.reduceSub, Nat.reduceBEq, forall_const, reduceCtorEq, implies_true, exists_eq_left', exists_eq_left, if_true, if_false, undef]
  have g1 : decide (1 ≤ s ∧ s ≤ 2) = true := by simp only [decide_eq_true_eq]; exact h1
  obtain ⟨S, rfl⟩ : ∃ S : Nat, s = (S : Int) := ⟨s.toNat, by omega⟩
  have hS : S = 1 ∨ S = 2 := by omega
  simp (maxSteps := 1000000) only [g1, encR, encRow, encM, EA, EB, EC, ED, EE, EF, EG, EH, EI, XA, XB, XC, XD, XE, XF, XG, XH, XI, XJ, XK, XL, XM, reduceIte, ↓reduceIte, Nat.reduceAdd, Nat.reduceLeDiff, Nat.reduceEqDiff, Nat.reduceLT, Nat.reduceSub, Nat.reduceBEq, forall_const, reduceCtorEq, implies_true, exists_eq_left', exists_eq_left, if_true, if_false, undef]
  have hmach := machines_spec S hS
  by_cases h2 : n < 0
  · have g2 : decide (n < 0) = true := by simp [h2]
    have e : bldErr S n = 4 := by rw [bldErr, if_neg (fun h => h h1), if_pos (.inl h2)]
    simp (maxSteps := 1000000) only [g2, encR, encRow, encM, EA, EB, EC, ED, EE, EF, EG, EH, EI, XA, XB, XC, XD, XE, XF, XG, XH, XI, XJ, XK, XL, XM, reduceIte, ↓reduceIte, Nat.reduceAdd, Nat.reduceLeDiff, Nat.reduceEqDiff, Nat.reduceLT, Nat.reduceSub, Nat.reduceBEq, forall_const, reduceCtorEq, implies_true, exists_eq_left', exists_eq_left, if_true, if_false, undef]
    simp [buildAnsM, e, encR, encRow, encM, EA, EB, EC, ED, EE, EF, EG, EH, EI, XA, XB, XC, XD, XE, XF, XG, XH, XI, XJ, XK, XL, XM, reduceIte, ↓reduceIte, Nat.reduceAdd, Nat.reduceLeDiff, Nat.reduceEqDiff, Nat.reduceLT, Nat.reduceSub, Nat.reduceBEq, forall_const, reduceCtorEq, implies_true, exists_eq_left', exists_eq_left, if_true, if_false, undef]
  have g2 : decide (n < 0) = false := by simp only [decide_eq_false_iff_not]; exact h2
  simp (maxSteps := 1000000) only [g2, encR, encRow, encM, EA, EB, EC, ED, EE, EF, EG, EH, EI, XA, XB, XC, XD, XE, XF, XG, XH, XI, XJ, XK, XL, XM, reduceIte, ↓reduceIte, Nat.reduceAdd, Nat.reduceLeDiff, Nat.reduceEqDiff, Nat.reduceLT, Nat.reduceSub, Nat.reduceBEq, forall_const, reduceCtorEq, implies_true, exists_eq_left', exists_eq_left, if_true, if_false, undef]
  refine callF (CallsA.args (hmach) (by simp [encR, encRow, encM, EA, EB, EC, ED, EE, EF, EG, EH, EI, XA, XB, XC, XD, XE, XF, XG, XH, XI, XJ, XK, XL, XM, reduceIte, ↓reduceIte, Nat.reduceAdd, Nat.reduceLeDiff, Nat.reduceEqDiff, Nat.reduceLT, Nat.reduceSub, Nat.reduceBEq, forall_const, reduceCtorEq, implies_true, exists_eq_left', exists_eq_left, if_true, if_false, undef])) rfl (by simp [flat, encR, encRow, encM, EA, EB, EC, ED, EE, EF, EG, EH, EI, XA, XB, XC, XD, XE, XF, XG, XH, XI, XJ, XK, XL, XM, reduceIte, ↓reduceIte, Nat.reduceAdd, Nat.reduceLeDiff, Nat.reduceEqDiff, Nat.reduceLT, Nat.reduceSub, Nat.reduceBEq, forall_const, reduceCtorEq, implies_true, exists_eq_left', exists_eq_left, if_true, if_false, undef]) ?_
  by_cases h3 : n ≥ (bldTop S : Int)
  · have g3 : decide (n ≥ (bldTop S : Int)) = true := by simp only [decide_eq_true_eq]; exact h3
    have e : bldErr S n = 4 := by rw [bldErr, if_neg (fun h => h h1), if_pos (.inr (by rw [Int.toNat_natCast]; exact h3))]
    simp (maxSteps := 1000000) only [g3, encR, encRow, encM, EA, EB, EC, ED, EE, EF, EG, EH, EI, XA, XB, XC, XD, XE, XF, XG, XH, XI, XJ, XK, XL, XM, reduceIte, ↓reduceIte, Nat.reduceAdd, Nat.reduceLeDiff, Nat.reduceEqDiff, Nat.reduceLT, Nat.reduceSub, Nat.reduceBEq, forall_const, reduceCtorEq, implies_true, exists_eq_left', exists_eq_left, if_true, if_false, undef]
    simp [buildAnsM, e, encR, encRow, encM, EA, EB, EC, ED, EE, EF, EG, EH, EI, XA, XB, XC, XD, XE, XF, XG, XH, XI, XJ, XK, XL, XM, reduceIte, ↓reduceIte, Nat.reduceAdd, Nat.reduceLeDiff, Nat.reduceEqDiff, Nat.reduceLT, Nat.reduceSub, Nat.reduceBEq, forall_const, reduceCtorEq, implies_true, exists_eq_left', exists_eq_left, if_true, if_false, undef]
  have g3 : decide (n ≥ (bldTop S : Int)) = false := by simp only [decide_eq_false_iff_not]; exact h3
  obtain ⟨k, rfl⟩ : ∃ k : Nat, n = (k : Int) := ⟨n.toNat, by omega⟩
  have e : bldErr S k = 0 := by rw [bldErr, if_neg (fun h => h h1), if_neg (by rw [Int.toNat_natCast]; omega)]
  simp (maxSteps := 1000000) only [g3, encR, encRow, encM, EA, EB, EC, ED, EE, EF, EG, EH, EI, XA, XB, XC, XD, XE, XF, XG, XH, XI, XJ, XK, XL, XM, reduceIte, ↓reduceIte, Nat.reduceAdd, Nat.reduceLeDiff, Nat.reduceEqDiff, Nat.reduceLT, Nat.reduceSub, Nat.reduceBEq, forall_const, reduceCtorEq, implies_true, exists_eq_left', exists_eq_left, if_true, if_false, undef]
  refine callA (CallsA.args (buildP_spec S k hS (by omega)) (by simp [encR, encRow, encM, EA, EB, EC, ED, EE, EF, EG, EH, EI, XA, XB, XC, XD, XE, XF, XG, XH, XI, XJ, XK, XL, XM, reduceIte, ↓reduceIte, Nat.reduceAdd, Nat.reduceLeDiff, Nat.reduceEqDiff, Nat.reduceLT, Nat.reduceSub, Nat.reduceBEq, forall_const, reduceCtorEq, implies_true, exists_eq_left', exists_eq_left, if_true, if_false, undef])) rfl ?_
  simp [buildAnsM, e, encM, encR, encRow, encM, EA, EB, EC, ED, EE, EF, EG, EH, EI, XA, XB, XC, XD, XE, XF, XG, XH, XI, XJ, XK, XL, XM, reduceIte, ↓reduceIte, Nat.reduceAdd, Nat.reduceLeDiff, Nat.reduceEqDiff, Nat.reduceLT, Nat.reduceSub, Nat.reduceBEq, forall_const, reduceCtorEq, implies_true, exists_eq_left', exists_eq_left, if_true, if_false, undef]

theorem busyNumberP_spec (m : Mach) : CallsA Try.prog 13 [encM m] (numberAns m) [] := by
  refine fn_of0 comp13 (by simp) ?_
  unfold code13
  simp (maxSteps := 1000000) only [encM, encR, encRow, encM, EA, EB, EC, ED, EE, EF, EG, EH, EI, XA, XB, XC, XD, XE, XF, XG, XH, XI, XJ, XK, XL, XM, reduceIte, ↓reduceIte, Nat.reduceAdd, Nat.reduceLeDiff, Nat.reduceEqDiff, Nat.reduceLT, Nat.reduceSub, Nat.reduceBEq, forall_const, reduceCtorEq, implies_true, exists_eq_left', exists_eq_left, if_true, if_false, undef]
  refine callF (CallsA.args (check_spec m ) (by simp [ encM,encR, encRow, encM, EA, EB, EC, ED, EE, EF, EG, EH, EI, XA, XB, XC, XD, XE, XF, XG, XH, XI, XJ, XK, XL, XM, reduceIte, ↓reduceIte, Nat.reduceAdd, Nat.reduceLeDiff, Nat.reduceEqDiff, Nat.reduceLT, Nat.reduceSub, Nat.reduceBEq, forall_const, reduceCtorEq, implies_true, exists_eq_left', exists_eq_left, if_true, if_false, undef])) rfl (by simp [flat, encR, encRow, encM, EA, EB, EC, ED, EE, EF, EG, EH, EI, XA, XB, XC, XD, XE, XF, XG, XH, XI, XJ, XK, XL, XM, reduceIte, ↓reduceIte, Nat.reduceAdd, Nat.reduceLeDiff, Nat.reduceEqDiff, Nat.reduceLT, Nat.reduceSub, Nat.reduceBEq, forall_const, reduceCtorEq, implies_true, exists_eq_left', exists_eq_left, if_true, if_false, undef]) ?_
  by_cases h1 : machErr m = 0
  rotate_left
  · have g1 : (machErr m != 0) = true := by simp [h1]
    have e : nbrErr m = machErr m := by rw [nbrErr, if_pos h1]
    simp (maxSteps := 1000000) only [g1, encR, encRow, encM, EA, EB, EC, ED, EE, EF, EG, EH, EI, XA, XB, XC, XD, XE, XF, XG, XH, XI, XJ, XK, XL, XM, reduceIte, ↓reduceIte, Nat.reduceAdd, Nat.reduceLeDiff, Nat.reduceEqDiff, Nat.reduceLT, Nat.reduceSub, Nat.reduceBEq, forall_const, reduceCtorEq, implies_true, exists_eq_left', exists_eq_left, if_true, if_false, undef]
    simp [numberAns, e, h1, encR, encRow, encM, EA, EB, EC, ED, EE, EF, EG, EH, EI, XA, XB, XC, XD, XE, XF, XG, XH, XI, XJ, XK, XL, XM, reduceIte, ↓reduceIte, Nat.reduceAdd, Nat.reduceLeDiff, Nat.reduceEqDiff, Nat.reduceLT, Nat.reduceSub, Nat.reduceBEq, forall_const, reduceCtorEq, implies_true, exists_eq_left', exists_eq_left, if_true, if_false, undef]
  have g1 : (machErr m != 0) = false := by simp [h1]
  have hm := mach_ok h1
  simp (maxSteps := 1000000) only [g1, encR, encRow, encM, EA, EB, EC, ED, EE, EF, EG, EH, EI, XA, XB, XC, XD, XE, XF, XG, XH, XI, XJ, XK, XL, XM, reduceIte, ↓reduceIte, Nat.reduceAdd, Nat.reduceLeDiff, Nat.reduceEqDiff, Nat.reduceLT, Nat.reduceSub, Nat.reduceBEq, forall_const, reduceCtorEq, implies_true, exists_eq_left', exists_eq_left, if_true, if_false, undef]
  refine callF (CallsA.args (isNumbered_spec m hm ) (by simp [ encM,encR, encRow, encM, EA, EB, EC, ED, EE, EF, EG, EH, EI, XA, XB, XC, XD, XE, XF, XG, XH, XI, XJ, XK, XL, XM, reduceIte, ↓reduceIte, Nat.reduceAdd, Nat.reduceLeDiff, Nat.reduceEqDiff, Nat.reduceLT, Nat.reduceSub, Nat.reduceBEq, forall_const, reduceCtorEq, implies_true, exists_eq_left', exists_eq_left, if_true, if_false, undef])) rfl (by simp [flat, encR, encRow, encM, EA, EB, EC, ED, EE, EF, EG, EH, EI, XA, XB, XC, XD, XE, XF, XG, XH, XI, XJ, XK, XL, XM, reduceIte, ↓reduceIte, Nat.reduceAdd, Nat.reduceLeDiff, Nat.reduceEqDiff, Nat.reduceLT, Nat.reduceSub, Nat.reduceBEq, forall_const, reduceCtorEq, implies_true, exists_eq_left', exists_eq_left, if_true, if_false, undef]) ?_
  have hsg := digM_sign hm
  by_cases h2 : m.states ≤ 2 ∧ m.signs = 2 ∧ 0 ≤ digM m
  rotate_left
  · have g2 : (decide (m.states ≤ 2 ∧ m.signs = 2) && bMv m.rules) = false := by
      rw [Bool.and_eq_false_imp]
      intro h
      simp only [decide_eq_true_eq] at h
      cases hb : bMv m.rules with
      | false => rfl
      | true => exact (h2 ⟨h.1, h.2, hsg.2 hb⟩).elim
    have e : nbrErr m = 3 := by
      rw [nbrErr, if_neg (by simp [h1]), if_pos]
      by_cases a : m.states > 2
      · exact .inl a
      · by_cases b : m.signs = 2
        · refine .inr (.inr ?_)
          apply Classical.byContradiction
          intro c; exact h2 ⟨by omega, b, by omega⟩
        · exact .inr (.inl b)
    simp (maxSteps := 1000000) only [g2, encR, encRow, encM, EA, EB, EC, ED, EE, EF, EG, EH, EI, XA, XB, XC, XD, XE, XF, XG, XH, XI, XJ, XK, XL, XM, reduceIte, ↓reduceIte, Nat.reduceAdd, Nat.reduceLeDiff, Nat.reduceEqDiff, Nat.reduceLT, Nat.reduceSub, Nat.reduceBEq, forall_const, reduceCtorEq, implies_true, exists_eq_left', exists_eq_left, if_true, if_false, undef]
    simp [numberAns, e, encR, encRow, encM, EA, EB, EC, ED, EE, EF, EG, EH, EI, XA, XB, XC, XD, XE, XF, XG, XH, XI, XJ, XK, XL, XM, reduceIte, ↓reduceIte, Nat.reduceAdd, Nat.reduceLeDiff, Nat.reduceEqDiff, Nat.reduceLT, Nat.reduceSub, Nat.reduceBEq, forall_const, reduceCtorEq, implies_true, exists_eq_left', exists_eq_left, if_true, if_false, undef]
  have g2 : (decide (m.states ≤ 2 ∧ m.signs = 2) && bMv m.rules) = true := by
    rw [hsg.1 h2.2.2]; simp [h2.1, h2.2.1]
  have e : nbrErr m = 0 := by rw [nbrErr, if_neg (by simp [h1]), if_neg (by rintro (h | h | h) <;> first | omega | exact h h2.2.1)]
  have hmv := hsg.1 h2.2.2
  simp (maxSteps := 1000000) only [g2, encR, encRow, encM, EA, EB, EC, ED, EE, EF, EG, EH, EI, XA, XB, XC, XD, XE, XF, XG, XH, XI, XJ, XK, XL, XM, reduceIte, ↓reduceIte, Nat.reduceAdd, Nat.reduceLeDiff, Nat.reduceEqDiff, Nat.reduceLT, Nat.reduceSub, Nat.reduceBEq, forall_const, reduceCtorEq, implies_true, exists_eq_left', exists_eq_left, if_true, if_false, undef]
  obtain ⟨st, sg, rules⟩ := m
  have hs1 := hm.s1
  have hlen := hm.len
  have hrow := hm.row
  have hrule := hm.rule
  simp only at h2 hs1 hlen hrow hrule hmv
  obtain ⟨h2, rfl, h5⟩ := h2
  obtain ⟨S, rfl⟩ : ∃ S : Nat, st = (S : Int) := ⟨st.toNat, by omega⟩
  have hs : S = 1 ∨ S = 2 := by omega
  have hs' : (S : Int) = 1 ∨ (S : Int) = 2 := by omega
  have hll : ((rules.map encRow).length : Int) = rules.length := by simp
  have hD : digM ⟨S, 2, rules⟩ = numG S 0 rules.flatten := rfl
  have hans : numberAns ⟨S, 2, rules⟩ = .tup [I (digM ⟨S, 2, rules⟩), I 0] := by rw [numberAns, if_neg (by simp [e])]
  rw [hans, hD]
  simp (maxSteps := 1000000) only [hll, encR, encRow, encM, EA, EB, EC, ED, EE, EF, EG, EH, EI, XA, XB, XC, XD, XE, XF, XG, XH, XI, XJ, XK, XL, XM, reduceIte, ↓reduceIte, Nat.reduceAdd, Nat.reduceLeDiff, Nat.reduceEqDiff, Nat.reduceLT, Nat.reduceSub, Nat.reduceBEq, forall_const, reduceCtorEq, implies_true, exists_eq_left', exists_eq_left, if_true, if_false, undef]
  refine loopO (Nat × Int) [21, 5] (fun s => [IN s.1, I s.2]) (fun s => []) (fun s => s.1 ≤ rules.length ∧ (0 ≤ s.2 ∧ s.2 < 144 ^ s.1) ∧ numG S s.2 (rules.drop s.1).flatten = numG S 0 rules.flatten) (fun s => rules.length - s.1) (by decide) (0, 0) ⟨by simp, by simp, by simp⟩ (by simp [Back, BackF, fzT, fzM, fzU, fz, fzL, fzO, kin, SubT, Sub, SubL, SubM, SubO, keepM, srcOk, look, lookM, ev, evs, putT, argT, encR, encRow, encM, EA, EB, EC, ED, EE, EF, EG, EH, EI, XA, XB, XC, XD, XE, XF, XG, XH, XI, XJ, XK, XL, XM, reduceIte, ↓reduceIte, Nat.reduceAdd, Nat.reduceLeDiff, Nat.reduceEqDiff, Nat.reduceLT, Nat.reduceSub, Nat.reduceBEq, forall_const, reduceCtorEq, implies_true, exists_eq_left', exists_eq_left, if_true, if_false, undef]) ?_
  rintro ⟨i, cur⟩ ⟨hi, hcur, hnum⟩
  simp only at hi hcur hnum
  by_cases c1 : i < rules.length
  rotate_left
  · have g1 : decide ((i : Int) < (rules.length : Int)) = false := by simp; omega
    rw [List.drop_of_length_le (by omega)] at hnum
    simp only [List.flatten_nil, numG] at hnum
    simp (maxSteps := 1000000) only [hll, g1, hnum, encR, encRow, encM, EA, EB, EC, ED, EE, EF, EG, EH, EI, XA, XB, XC, XD, XE, XF, XG, XH, XI, XJ, XK, XL, XM, reduceIte, ↓reduceIte, Nat.reduceAdd, Nat.reduceLeDiff, Nat.reduceEqDiff, Nat.reduceLT, Nat.reduceSub, Nat.reduceBEq, forall_const, reduceCtorEq, implies_true, exists_eq_left', exists_eq_left, if_true, if_false, undef]
  have g1 : decide ((i : Int) < (rules.length : Int)) = true := by simp [c1]
  have hwi : IntKind.i64.wrap ((i : Int) + 1) = ((i + 1 : Nat) : Int) := by rw [wrap_id] <;> omega
  have hrl := hrow _ (List.getElem_mem c1)
  have hrr := hrule _ (List.getElem_mem c1)
  have hrm : (rules[i].all fun x => decide (x.m ≠ 0)) = true := (List.all_eq_true.1 hmv) _ (List.getElem_mem c1)
  have hdrop : (rules.drop i).flatten = rules[i] ++ (rules.drop (i + 1)).flatten := by rw [List.drop_eq_getElem_cons c1, List.flatten_cons]
  rw [hdrop] at hnum
  have hP : (144 : Int) ^ i * 12 * 12 = 144 ^ (i + 1) := by rw [Int.pow_succ]; omega
  have hP2 : (144 : Int) ^ (i + 1) ≤ 20736 := by
    rcases (by omega : i = 0 ∨ i = 1) with rfl | rfl <;> decide
  simp (maxSteps := 1000000) only [hll, g1, encR, encRow, encM, EA, EB, EC, ED, EE, EF, EG, EH, EI, XA, XB, XC, XD, XE, XF, XG, XH, XI, XJ, XK, XL, XM, reduceIte, ↓reduceIte, Nat.reduceAdd, Nat.reduceLeDiff, Nat.reduceEqDiff, Nat.reduceLT, Nat.reduceSub, Nat.reduceBEq, forall_const, reduceCtorEq, implies_true, exists_eq_left', exists_eq_left, if_true, if_false, undef]
  refine ⟨by omega, pickM c1 ?_⟩
  generalize rules[i] = row at *
  generalize hrest : (rules.drop (i + 1)).flatten = rest at *
  generalize hPP : (144 : Int) ^ i = P at *
  have hrll : ((row.map encR).length : Int) = 2 := by simp; omega
  have hr2 : row.length = 2 := by omega
  simp (maxSteps := 1000000) only [encRow, hrll, encR, encRow, encM, EA, EB, EC, ED, EE, EF, EG, EH, EI, XA, XB, XC, XD, XE, XF, XG, XH, XI, XJ, XK, XL, XM, reduceIte, ↓reduceIte, Nat.reduceAdd, Nat.reduceLeDiff, Nat.reduceEqDiff, Nat.reduceLT, Nat.reduceSub, Nat.reduceBEq, forall_const, reduceCtorEq, implies_true, exists_eq_left', exists_eq_left, if_true, if_false, undef]
  refine loopO (Nat × Int) [27, 5] (fun s => [IN s.1, I s.2]) (fun s => []) (fun s => s.1 ≤ 2 ∧ (0 ≤ s.2 ∧ s.2 < P * 12 ^ s.1) ∧ numG S s.2 (row.drop s.1 ++ rest) = numG S 0 rules.flatten) (fun s => 2 - s.1) (by decide) (0, cur) ⟨by simp, by simpa using hcur, by simpa using hnum⟩ (by simp [Back, BackF, fzT, fzM, fzU, fz, fzL, fzO, kin, SubT, Sub, SubL, SubM, SubO, keepM, srcOk, look, lookM, ev, evs, putT, argT, encR, encRow, encM, EA, EB, EC, ED, EE, EF, EG, EH, EI, XA, XB, XC, XD, XE, XF, XG, XH, XI, XJ, XK, XL, XM, reduceIte, ↓reduceIte, Nat.reduceAdd, Nat.reduceLeDiff, Nat.reduceEqDiff, Nat.reduceLT, Nat.reduceSub, Nat.reduceBEq, forall_const, reduceCtorEq, implies_true, exists_eq_left', exists_eq_left, if_true, if_false, undef]) ?_
  rintro ⟨j, cu⟩ ⟨hj, hcu, hnm⟩
  simp only at hj hcu hnm
  by_cases c2 : j < 2
  rotate_left
  · have g2 : decide ((j : Int) < 2) = false := by simp; omega
    obtain rfl : j = 2 := by omega
    rw [List.drop_of_length_le (by omega), List.nil_append] at hnm
    have hcb : cu < 144 ^ (i + 1) := by
      have := hcu.2
      rw [show (12 : Int) ^ 2 = 144 by rfl] at this
      omega
    simp (maxSteps := 1000000) only [hrll, g2, hwi, encR, encRow, encM, EA, EB, EC, ED, EE, EF, EG, EH, EI, XA, XB, XC, XD, XE, XF, XG, XH, XI, XJ, XK, XL, XM, reduceIte, ↓reduceIte, Nat.reduceAdd, Nat.reduceLeDiff, Nat.reduceEqDiff, Nat.reduceLT, Nat.reduceSub, Nat.reduceBEq, forall_const, reduceCtorEq, implies_true, exists_eq_left', exists_eq_left, if_true, if_false, undef]
    exact ⟨(i + 1, cu), ⟨by simp only; omega, ⟨hcu.1, hcb⟩, by simp only; rw [hrest]; exact hnm⟩, by simp only; omega, by simp [Back, BackF, fzT, fzM, fzU, fz, fzL, fzO, kin, SubT, Sub, SubL, SubM, SubO, keepM, srcOk, look, lookM, ev, evs, putT, argT, encR, encRow, encM, EA, EB, EC, ED, EE, EF, EG, EH, EI, XA, XB, XC, XD, XE, XF, XG, XH, XI, XJ, XK, XL, XM, reduceIte, ↓reduceIte, Nat.reduceAdd, Nat.reduceLeDiff, Nat.reduceEqDiff, Nat.reduceLT, Nat.reduceSub, Nat.reduceBEq, forall_const, reduceCtorEq, implies_true, exists_eq_left', exists_eq_left, if_true, if_false, undef]⟩
  have g2 : decide ((j : Int) < 2) = true := by simp; omega
  have hwj : IntKind.i64.wrap ((j : Int) + 1) = ((j + 1 : Nat) : Int) := by rw [wrap_id] <;> omega
  have hjl : j < row.length := by omega
  have hrj := hrr _ (List.getElem_mem hjl)
  have hmj : (row[j]).m ≠ 0 := by simpa using (List.all_eq_true.1 hrm) _ (List.getElem_mem hjl)
  have hdj : row.drop j = row[j] :: row.drop (j + 1) := List.drop_eq_getElem_cons hjl
  rw [hdj, List.cons_append, numG, if_neg hmj] at hnm
  have hPj : 0 ≤ P * 12 ^ j ∧ P * 12 ^ j * 12 = P * 12 ^ (j + 1) ∧ P * 12 ^ (j + 1) ≤ 20736 := by
    have hP0 : 0 < P := by rw [← hPP]; exact Int.pow_pos (by decide)
    rcases (by omega : j = 0 ∨ j = 1) with rfl | rfl
    · refine ⟨by simp; omega, by simp, ?_⟩; simp; omega
    · refine ⟨by simp; omega, by rw [show (12 : Int) ^ 1 = 12 by rfl, show (12 : Int) ^ (1 + 1) = 144 by rfl]; omega, ?_⟩
      rw [show (12 : Int) ^ (1 + 1) = 144 by rfl]; omega
  generalize P * 12 ^ j = Q at *
  generalize hQ : P * 12 ^ (j + 1) = Q' at *
  simp (maxSteps := 1000000) only [hrll, g2, encR, encRow, encM, EA, EB, EC, ED, EE, EF, EG, EH, EI, XA, XB, XC, XD, XE, XF, XG, XH, XI, XJ, XK, XL, XM, reduceIte, ↓reduceIte, Nat.reduceAdd, Nat.reduceLeDiff, Nat.reduceEqDiff, Nat.reduceLT, Nat.reduceSub, Nat.reduceBEq, forall_const, reduceCtorEq, implies_true, exists_eq_left', exists_eq_left, if_true, if_false, undef]
  refine ⟨by omega, pickM hjl ?_⟩
  have hdo := digitOf_spec S row[j] hs (by omega) (by omega)
  generalize row[j] = r at *
  have hd03 : 0 ≤ 2 * r.w + (if r.m > 0 then (1 : Int) else 0) ∧ 2 * r.w + (if r.m > 0 then (1 : Int) else 0) ≤ 3 := by split <;> omega
  generalize hdd : 2 * r.w + (if r.m > 0 then (1 : Int) else 0) = d at *
  have hb := row_step (d := d) (nx := r.n) hs' hcu hd03 (by omega)
  have e4 : cu * 4 * ((S : Int) + 1) = cu * ((4 * (S + 1) : Nat) : Int) := by rcases hs with rfl | rfl <;> simp <;> omega
  have v1 : IntKind.i64.wrap (cu * ((4 * (S + 1) : Nat) : Int)) = cu * 4 * ((S : Int) + 1) := by rw [← e4, wrap_id] <;> rcases hs with rfl | rfl <;> omega
  have v2 : IntKind.i64.wrap (cu * 4 * ((S : Int) + 1) + (d * ((S : Int) + 1) + r.n)) = cu * 4 * ((S : Int) + 1) + d * ((S : Int) + 1) + r.n := by
    rw [← Int.add_assoc, wrap_id] <;> omega
  simp (maxSteps := 1000000) only [encR, splice, AV.cells, encR, encRow, encM, EA, EB, EC, ED, EE, EF, EG, EH, EI, XA, XB, XC, XD, XE, XF, XG, XH, XI, XJ, XK, XL, XM, reduceIte, ↓reduceIte, Nat.reduceAdd, Nat.reduceLeDiff, Nat.reduceEqDiff, Nat.reduceLT, Nat.reduceSub, Nat.reduceBEq, forall_const, reduceCtorEq, implies_true, exists_eq_left', exists_eq_left, if_true, if_false, undef]
  refine callD (CallsA.args (bdig_spec S (by omega)) (by simp [encR, encRow, encM, EA, EB, EC, ED, EE, EF, EG, EH, EI, XA, XB, XC, XD, XE, XF, XG, XH, XI, XJ, XK, XL, XM, reduceIte, ↓reduceIte, Nat.reduceAdd, Nat.reduceLeDiff, Nat.reduceEqDiff, Nat.reduceLT, Nat.reduceSub, Nat.reduceBEq, forall_const, reduceCtorEq, implies_true, exists_eq_left', exists_eq_left, if_true, if_false, undef])) rfl (by simp [flat, encR, encRow, encM, EA, EB, EC, ED, EE, EF, EG, EH, EI, XA, XB, XC, XD, XE, XF, XG, XH, XI, XJ, XK, XL, XM, reduceIte, ↓reduceIte, Nat.reduceAdd, Nat.reduceLeDiff, Nat.reduceEqDiff, Nat.reduceLT, Nat.reduceSub, Nat.reduceBEq, forall_const, reduceCtorEq, implies_true, exists_eq_left', exists_eq_left, if_true, if_false, undef]) (by simp [encR, encRow, encM, EA, EB, EC, ED, EE, EF, EG, EH, EI, XA, XB, XC, XD, XE, XF, XG, XH, XI, XJ, XK, XL, XM, reduceIte, ↓reduceIte, Nat.reduceAdd, Nat.reduceLeDiff, Nat.reduceEqDiff, Nat.reduceLT, Nat.reduceSub, Nat.reduceBEq, forall_const, reduceCtorEq, implies_true, exists_eq_left', exists_eq_left, if_true, if_false, undef]) ?_
  simp (maxSteps := 1000000) only [v1, encR, encRow, encM, EA, EB, EC, ED, EE, EF, EG, EH, EI, XA, XB, XC, XD, XE, XF, XG, XH, XI, XJ, XK, XL, XM, reduceIte, ↓reduceIte, Nat.reduceAdd, Nat.reduceLeDiff, Nat.reduceEqDiff, Nat.reduceLT, Nat.reduceSub, Nat.reduceBEq, forall_const, reduceCtorEq, implies_true, exists_eq_left', exists_eq_left, if_true, if_false, undef]
  refine callXd (CallsA.args (hdo ) (by simp [ encR,encR, encRow, encM, EA, EB, EC, ED, EE, EF, EG, EH, EI, XA, XB, XC, XD, XE, XF, XG, XH, XI, XJ, XK, XL, XM, reduceIte, ↓reduceIte, Nat.reduceAdd, Nat.reduceLeDiff, Nat.reduceEqDiff, Nat.reduceLT, Nat.reduceSub, Nat.reduceBEq, forall_const, reduceCtorEq, implies_true, exists_eq_left', exists_eq_left, if_true, if_false, undef])) rfl (by simp [flat, encR, encRow, encM, EA, EB, EC, ED, EE, EF, EG, EH, EI, XA, XB, XC, XD, XE, XF, XG, XH, XI, XJ, XK, XL, XM, reduceIte, ↓reduceIte, Nat.reduceAdd, Nat.reduceLeDiff, Nat.reduceEqDiff, Nat.reduceLT, Nat.reduceSub, Nat.reduceBEq, forall_const, reduceCtorEq, implies_true, exists_eq_left', exists_eq_left, if_true, if_false, undef]) (by simp [encR, encRow, encM, EA, EB, EC, ED, EE, EF, EG, EH, EI, XA, XB, XC, XD, XE, XF, XG, XH, XI, XJ, XK, XL, XM, reduceIte, ↓reduceIte, Nat.reduceAdd, Nat.reduceLeDiff, Nat.reduceEqDiff, Nat.reduceLT, Nat.reduceSub, Nat.reduceBEq, forall_const, reduceCtorEq, implies_true, exists_eq_left', exists_eq_left, if_true, if_false, undef]) ?_
  simp (maxSteps := 1000000) only [hdd, v2, hwj, encR, encRow, encM, EA, EB, EC, ED, EE, EF, EG, EH, EI, XA, XB, XC, XD, XE, XF, XG, XH, XI, XJ, XK, XL, XM, reduceIte, ↓reduceIte, Nat.reduceAdd, Nat.reduceLeDiff, Nat.reduceEqDiff, Nat.reduceLT, Nat.reduceSub, Nat.reduceBEq, forall_const, reduceCtorEq, implies_true, exists_eq_left', exists_eq_left, if_true, if_false, undef]
  have hlt := hb.2
  rw [hPj.2.1] at hlt
  exact ⟨(j + 1, cu * 4 * ((S : Int) + 1) + d * ((S : Int) + 1) + r.n), ⟨by simp only; omega, ⟨hb.1, by simp only; rw [hQ]; exact hlt⟩, hnm⟩, by simp only; omega, by simp [Back, BackF, fzT, fzM, fzU, fz, fzL, fzO, kin, SubT, Sub, SubL, SubM, SubO, keepM, srcOk, look, lookM, ev, evs, putT, argT, encR, encRow, encM, EA, EB, EC, ED, EE, EF, EG, EH, EI, XA, XB, XC, XD, XE, XF, XG, XH, XI, XJ, XK, XL, XM, reduceIte, ↓reduceIte, Nat.reduceAdd, Nat.reduceLeDiff, Nat.reduceEqDiff, Nat.reduceLT, Nat.reduceSub, Nat.reduceBEq, forall_const, reduceCtorEq, implies_true, exists_eq_left', exists_eq_left, if_true, if_false, undef]⟩

end Go.Av
