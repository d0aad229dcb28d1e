/- Small machines: their numbers. -/
import Derived.Test.YtegokadlkgghlaaBusyM
import Derived.Test.YtegokadlkgghlaaTape2
import Derived.Test.YtegokadlkgghlaaTapeM
set_option linter.unusedSimpArgs false
set_option linter.unusedVariables false
set_option maxRecDepth 100000
namespace Go.Av
open Go.Proofs

/-- the number that rules go on with; below 0: one does not move -/
def numG (s : Int) : Int → List Rule → Int
  | n, [] => n
  | n, r :: l => if r.m = 0 then -1 else numG s (n * 4 * (s + 1) + (2 * r.w + (if r.m > 0 then 1 else 0)) * (s + 1) + r.n) l
def digM (m : Mach) : Int := numG m.states 0 m.rules.flatten

theorem row_step {s cur d nx P : Int} (hs : s = 1 ∨ s = 2) (hc : 0 ≤ cur ∧ cur < P) (hd : 0 ≤ d ∧ d ≤ 3) (hn : 0 ≤ nx ∧ nx ≤ s) : 0 ≤ cur * 4 * (s + 1) + d * (s + 1) + nx ∧ cur * 4 * (s + 1) + d * (s + 1) + nx < P * 12 := by
  rcases hs with rfl | rfl <;> omega

theorem digits_spec (m : Mach) (hm : MOk m) (h2 : m.states ≤ 2) (h3 : m.signs = 2) : CallsA Try.prog 12 [encM m] (I (digM m)) [] := by
  obtain ⟨st, sg, rules⟩ := m
  have hs1 := hm.s1
  have hlen := hm.len
  have hrow := hm.row
  have hrule := hm.rule
  simp only at h2 h3 hs1 hlen hrow hrule
  subst h3
  have hs : st = 1 ∨ st = 2 := by omega
  refine fn_of0 comp12 (by simp) ?_
  unfold code12
  have hll : ((rules.map encRow).length : Int) = rules.length := by simp
  have hD : digM ⟨st, 2, rules⟩ = numG st 0 rules.flatten := rfl
  rw [hD]
  simp (maxSteps := 1000000) only [encM, encR, encRow, encM, EA, EB, EC, ED, EE, EF, EG, EH, EI, XA, XB, XC, XD, XE, XF, XG, XH, XI, XJ, XK, XL, XM, reduceIte, ↓reduceIte, Nat.reduceAdd, Nat.reduceLeDiff, Nat.reduceEqDiff, Nat.reduceLT, Nat.reduceSub, Nat.reduceBEq, forall_const, reduceCtorEq, implies_true, exists_eq_left', exists_eq_left, if_true, if_false, undef]
  refine loopO (Nat × Int) [12, 3] (fun s => [IN s.1, I s.2]) (fun s => []) (fun s => s.1 ≤ rules.length ∧ (0 ≤ s.2 ∧ s.2 < 144 ^ s.1) ∧ numG st s.2 (rules.drop s.1).flatten = numG st 0 rules.flatten) (fun s => rules.length - s.1) (by decide) (0, 0) ⟨by simp, by simp, by simp⟩ (by simp [Back, BackF, fzT, fzM, fzU, fz, fzL, fzO, kin, SubT, Sub, SubL, SubM, SubO, keepM, srcOk, look, lookM, ev, evs, putT, argT, encR, encRow, encM, EA, EB, EC, ED, EE, EF, EG, EH, EI, XA, XB, XC, XD, XE, XF, XG, XH, XI, XJ, XK, XL, XM, reduceIte, ↓reduceIte, Nat.reduceAdd, Nat.reduceLeDiff, Nat.reduceEqDiff, Nat.reduceLT, Nat.reduceSub, Nat.reduceBEq, forall_const, reduceCtorEq, implies_true, exists_eq_left', exists_eq_left, if_true, if_false, undef]) ?_
  rintro ⟨i, cur⟩ ⟨hi, hcur, hnum⟩
  simp only at hi hcur hnum
  by_cases c1 : i < rules.length
  rotate_left
  · have g1 : decide ((i : Int) < (rules.length : Int)) = false := by simp; omega
    rw [List.drop_of_length_le (by omega)] at hnum
    simp only [List.flatten_nil, numG] at hnum
    simp (maxSteps := 1000000) only [hll, g1, encR, encRow, encM, EA, EB, EC, ED, EE, EF, EG, EH, EI, XA, XB, XC, XD, XE, XF, XG, XH, XI, XJ, XK, XL, XM, reduceIte, ↓reduceIte, Nat.reduceAdd, Nat.reduceLeDiff, Nat.reduceEqDiff, Nat.reduceLT, Nat.reduceSub, Nat.reduceBEq, forall_const, reduceCtorEq, implies_true, exists_eq_left', exists_eq_left, if_true, if_false, undef]
    simp [hnum]
  have g1 : decide ((i : Int) < (rules.length : Int)) = true := by simp [c1]
  have hwi : IntKind.i64.wrap ((i : Int) + 1) = ((i + 1 : Nat) : Int) := by rw [wrap_id] <;> omega
  have hrl := hrow _ (List.getElem_mem c1)
  have hrr := hrule _ (List.getElem_mem c1)
  have hdrop : (rules.drop i).flatten = rules[i] ++ (rules.drop (i + 1)).flatten := by rw [List.drop_eq_getElem_cons c1, List.flatten_cons]
  rw [hdrop] at hnum
  have hP : (144 : Int) ^ i * 12 * 12 = 144 ^ (i + 1) := by rw [Int.pow_succ]; omega
  have hP2 : (144 : Int) ^ (i + 1) ≤ 20736 := by
    rcases (by omega : i = 0 ∨ i = 1) with rfl | rfl <;> decide
  simp (maxSteps := 1000000) only [hll, g1, encR, encRow, encM, EA, EB, EC, ED, EE, EF, EG, EH, EI, XA, XB, XC, XD, XE, XF, XG, XH, XI, XJ, XK, XL, XM, reduceIte, ↓reduceIte, Nat.reduceAdd, Nat.reduceLeDiff, Nat.reduceEqDiff, Nat.reduceLT, Nat.reduceSub, Nat.reduceBEq, forall_const, reduceCtorEq, implies_true, exists_eq_left', exists_eq_left, if_true, if_false, undef]
  refine ⟨by omega, pickM c1 ?_⟩
  generalize rules[i] = row at *
  generalize hrest : (rules.drop (i + 1)).flatten = rest at *
  generalize hPP : (144 : Int) ^ i = P at *
  have hrll : ((row.map encR).length : Int) = 2 := by simp; omega
  have hr2 : row.length = 2 := by omega
  simp (maxSteps := 1000000) only [encRow, encR, encRow, encM, EA, EB, EC, ED, EE, EF, EG, EH, EI, XA, XB, XC, XD, XE, XF, XG, XH, XI, XJ, XK, XL, XM, reduceIte, ↓reduceIte, Nat.reduceAdd, Nat.reduceLeDiff, Nat.reduceEqDiff, Nat.reduceLT, Nat.reduceSub, Nat.reduceBEq, forall_const, reduceCtorEq, implies_true, exists_eq_left', exists_eq_left, if_true, if_false, undef]
  refine loopO (Nat × Int) [18, 3] (fun s => [IN s.1, I s.2]) (fun s => []) (fun s => s.1 ≤ 2 ∧ (0 ≤ s.2 ∧ s.2 < P * 12 ^ s.1) ∧ numG st s.2 (row.drop s.1 ++ rest) = numG st 0 rules.flatten) (fun s => 2 - s.1) (by decide) (0, cur) ⟨by simp, by simpa using hcur, by simpa using hnum⟩ (by simp [Back, BackF, fzT, fzM, fzU, fz, fzL, fzO, kin, SubT, Sub, SubL, SubM, SubO, keepM, srcOk, look, lookM, ev, evs, putT, argT, encR, encRow, encM, EA, EB, EC, ED, EE, EF, EG, EH, EI, XA, XB, XC, XD, XE, XF, XG, XH, XI, XJ, XK, XL, XM, reduceIte, ↓reduceIte, Nat.reduceAdd, Nat.reduceLeDiff, Nat.reduceEqDiff, Nat.reduceLT, Nat.reduceSub, Nat.reduceBEq, forall_const, reduceCtorEq, implies_true, exists_eq_left', exists_eq_left, if_true, if_false, undef]) ?_
  rintro ⟨j, cu⟩ ⟨hj, hcu, hnm⟩
  simp only at hj hcu hnm
  by_cases c2 : j < 2
  rotate_left
  · have g2 : decide ((j : Int) < 2) = false := by simp; omega
    obtain rfl : j = 2 := by omega
    rw [List.drop_of_length_le (by omega), List.nil_append] at hnm
    have hcb : cu < 144 ^ (i + 1) := by
      have := hcu.2
      rw [show (12 : Int) ^ 2 = 144 by rfl] at this
      omega
    simp (maxSteps := 1000000) only [hrll, g2, hwi, encR, encRow, encM, EA, EB, EC, ED, EE, EF, EG, EH, EI, XA, XB, XC, XD, XE, XF, XG, XH, XI, XJ, XK, XL, XM, reduceIte, ↓reduceIte, Nat.reduceAdd, Nat.reduceLeDiff, Nat.reduceEqDiff, Nat.reduceLT, Nat.reduceSub, Nat.reduceBEq, forall_const, reduceCtorEq, implies_true, exists_eq_left', exists_eq_left, if_true, if_false, undef]
    exact ⟨(i + 1, cu), ⟨by simp only; omega, ⟨hcu.1, hcb⟩, by simp only; rw [hrest]; exact hnm⟩, by simp only; omega, by simp [Back, BackF, fzT, fzM, fzU, fz, fzL, fzO, kin, SubT, Sub, SubL, SubM, SubO, keepM, srcOk, look, lookM, ev, evs, putT, argT, encR, encRow, encM, EA, EB, EC, ED, EE, EF, EG, EH, EI, XA, XB, XC, XD, XE, XF, XG, XH, XI, XJ, XK, XL, XM, reduceIte, ↓reduceIte, Nat.reduceAdd, Nat.reduceLeDiff, Nat.reduceEqDiff, Nat.reduceLT, Nat.reduceSub, Nat.reduceBEq, forall_const, reduceCtorEq, implies_true, exists_eq_left', exists_eq_left, if_true, if_false, undef]⟩
  have g2 : decide ((j : Int) < 2) = true := by simp; omega
  have hwj : IntKind.i64.wrap ((j : Int) + 1) = ((j + 1 : Nat) : Int) := by rw [wrap_id] <;> omega
  have hjl : j < row.length := by omega
  have hrj := hrr _ (List.getElem_mem hjl)
  have hdj : row.drop j = row[j] :: row.drop (j + 1) := List.drop_eq_getElem_cons hjl
  rw [hdj, List.cons_append, numG] at hnm
  have hPj : 0 ≤ P * 12 ^ j ∧ P * 12 ^ j * 12 = P * 12 ^ (j + 1) ∧ P * 12 ^ (j + 1) ≤ 20736 := by
    have hP0 : 0 < P := by rw [← hPP]; exact Int.pow_pos (by decide)
    rcases (by omega : j = 0 ∨ j = 1) with rfl | rfl
    · refine ⟨by simp; omega, by simp, ?_⟩; simp; omega
    · refine ⟨by simp; omega, by rw [show (12 : Int) ^ 1 = 12 by rfl, show (12 : Int) ^ (1 + 1) = 144 by rfl]; omega, ?_⟩
      rw [show (12 : Int) ^ (1 + 1) = 144 by rfl]; omega
  generalize P * 12 ^ j = Q at *
  generalize hQ : P * 12 ^ (j + 1) = Q' at *
  simp (maxSteps := 1000000) only [hrll, g2, encR, encRow, encM, EA, EB, EC, ED, EE, EF, EG, EH, EI, XA, XB, XC, XD, XE, XF, XG, XH, XI, XJ, XK, XL, XM, reduceIte, ↓reduceIte, Nat.reduceAdd, Nat.reduceLeDiff, Nat.reduceEqDiff, Nat.reduceLT, Nat.reduceSub, Nat.reduceBEq, forall_const, reduceCtorEq, implies_true, exists_eq_left', exists_eq_left, if_true, if_false, undef]
  refine ⟨by omega, pickM hjl ?_⟩
  generalize row[j] = r at *
  obtain ⟨w, mv, nx⟩ := r
  simp only at hrj hnm
  simp (maxSteps := 1000000) only [encR, splice, AV.cells, encR, encRow, encM, EA, EB, EC, ED, EE, EF, EG, EH, EI, XA, XB, XC, XD, XE, XF, XG, XH, XI, XJ, XK, XL, XM, reduceIte, ↓reduceIte, Nat.reduceAdd, Nat.reduceLeDiff, Nat.reduceEqDiff, Nat.reduceLT, Nat.reduceSub, Nat.reduceBEq, forall_const, reduceCtorEq, implies_true, exists_eq_left', exists_eq_left, if_true, if_false, undef]
  by_cases hm0 : mv = 0
  · have e0 : (mv == 0) = true := by simp [hm0]
    rw [if_pos hm0] at hnm
    simp (maxSteps := 1000000) only [e0, encR, encRow, encM, EA, EB, EC, ED, EE, EF, EG, EH, EI, XA, XB, XC, XD, XE, XF, XG, XH, XI, XJ, XK, XL, XM, reduceIte, ↓reduceIte, Nat.reduceAdd, Nat.reduceLeDiff, Nat.reduceEqDiff, Nat.reduceLT, Nat.reduceSub, Nat.reduceBEq, forall_const, reduceCtorEq, implies_true, exists_eq_left', exists_eq_left, if_true, if_false, undef]
    rw [← hnm]
  have e0 : (mv == 0) = false := by simp [hm0]
  rw [if_neg hm0] at hnm
  have v1 : IntKind.i64.wrap (2 * w) = 2 * w := by rw [wrap_id] <;> omega
  have v2 : IntKind.i64.wrap (2 * w + 1) = 2 * w + 1 := by rw [wrap_id] <;> omega
  have v3 : IntKind.i64.wrap (cu * 4) = cu * 4 := by rw [wrap_id] <;> omega
  have v4 : IntKind.i64.wrap (st + 1) = st + 1 := by rw [wrap_id] <;> omega
  have v5 : IntKind.i64.wrap (cu * 4 * (st + 1)) = cu * 4 * (st + 1) := by rw [wrap_id] <;> rcases hs with rfl | rfl <;> omega
  have v6 : ∀ d : Int, 0 ≤ d ∧ d ≤ 3 → IntKind.i64.wrap (d * (st + 1)) = d * (st + 1) ∧ IntKind.i64.wrap (cu * 4 * (st + 1) + d * (st + 1)) = cu * 4 * (st + 1) + d * (st + 1) ∧ IntKind.i64.wrap (cu * 4 * (st + 1) + d * (st + 1) + nx) = cu * 4 * (st + 1) + d * (st + 1) + nx := fun d hd => by
    refine ⟨?_, ?_, ?_⟩ <;> rw [wrap_id] <;> rcases hs with rfl | rfl <;> omega
  by_cases hmp : mv > 0
  · have e1 : decide (mv > 0) = true := by simp; omega
    rw [if_pos hmp] at hnm
    obtain ⟨x1, x2, x3⟩ := v6 (2 * w + 1) (by omega)
    have hb := row_step (d := 2 * w + 1) (nx := nx) hs hcu (by omega) (by omega)
    simp (maxSteps := 1000000) only [e0, e1, v1, v2, v3, v4, v5, x1, x2, x3, hwj, encR, encRow, encM, EA, EB, EC, ED, EE, EF, EG, EH, EI, XA, XB, XC, XD, XE, XF, XG, XH, XI, XJ, XK, XL, XM, reduceIte, ↓reduceIte, Nat.reduceAdd, Nat.reduceLeDiff, Nat.reduceEqDiff, Nat.reduceLT, Nat.reduceSub, Nat.reduceBEq, forall_const, reduceCtorEq, implies_true, exists_eq_left', exists_eq_left, if_true, if_false, undef]
    exact ⟨(j + 1, cu * 4 * (st + 1) + (2 * w + 1) * (st + 1) + nx), ⟨by simp only; omega, ⟨hb.1, by have := hb.2; rw [hPj.2.1] at this; simp only; rw [hQ]; exact this⟩, hnm⟩, by simp only; omega, by simp [Back, BackF, fzT, fzM, fzU, fz, fzL, fzO, kin, SubT, Sub, SubL, SubM, SubO, keepM, srcOk, look, lookM, ev, evs, putT, argT, encR, encRow, encM, EA, EB, EC, ED, EE, EF, EG, EH, EI, XA, XB, XC, XD, XE, XF, XG, XH, XI, XJ, XK, XL, XM, reduceIte, ↓reduceIte, Nat.reduceAdd, Nat.reduceLeDiff, Nat.reduceEqDiff, Nat.reduceLT, Nat.reduceSub, Nat.reduceBEq, forall_const, reduceCtorEq, implies_true, exists_eq_left', exists_eq_left, if_true, if_false, undef]⟩
  · have e1 : decide (mv > 0) = false := by simp; omega
    rw [if_neg hmp, Int.add_zero] at hnm
    obtain ⟨x1, x2, x3⟩ := v6 (2 * w) (by omega)
    have hb := row_step (d := 2 * w) (nx := nx) hs hcu (by omega) (by omega)
    simp (maxSteps := 1000000) only [e0, e1, v1, v2, v3, v4, v5, x1, x2, x3, hwj, encR, encRow, encM, EA, EB, EC, ED, EE, EF, EG, EH, EI, XA, XB, XC, XD, XE, XF, XG, XH, XI, XJ, XK, XL, XM, reduceIte, ↓reduceIte, Nat.reduceAdd, Nat.reduceLeDiff, Nat.reduceEqDiff, Nat.reduceLT, Nat.reduceSub, Nat.reduceBEq, forall_const, reduceCtorEq, implies_true, exists_eq_left', exists_eq_left, if_true, if_false, undef]
    exact ⟨(j + 1, cu * 4 * (st + 1) + 2 * w * (st + 1) + nx), ⟨by simp only; omega, ⟨hb.1, by have := hb.2; rw [hPj.2.1] at this; simp only; rw [hQ]; exact this⟩, hnm⟩, by simp only; omega, by simp [Back, BackF, fzT, fzM, fzU, fz, fzL, fzO, kin, SubT, Sub, SubL, SubM, SubO, keepM, srcOk, look, lookM, ev, evs, putT, argT, encR, encRow, encM, EA, EB, EC, ED, EE, EF, EG, EH, EI, XA, XB, XC, XD, XE, XF, XG, XH, XI, XJ, XK, XL, XM, reduceIte, ↓reduceIte, Nat.reduceAdd, Nat.reduceLeDiff, Nat.reduceEqDiff, Nat.reduceLT, Nat.reduceSub, Nat.reduceBEq, forall_const, reduceCtorEq, implies_true, exists_eq_left', exists_eq_left, if_true, if_false, undef]⟩

end Go.Av
