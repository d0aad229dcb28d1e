/- Circuits: the program's check, values and depths. -/
import Derived.Test.YtblakcgmngdhmaaGateE
set_option linter.unusedSimpArgs false
set_option linter.unusedVariables false
set_option maxRecDepth 100000
namespace Go.Av
open Go.Proofs

theorem gprec_spec (x : Int) (k : Nat) : CallsA Try.prog 33 [I x, .rp [IN k]] (Bo (decide (0 ≤ x ∧ x < k))) [] := by
  refine fn_of0 comp33 (by simp) ?_
  unfold code33
  have e : decide (0 ≤ x ∧ x < (k : Int)) = (decide (x ≥ 0) && decide (x < (k : Int))) := by rw [← Bool.decide_and]
  rw [e]
  cases h1 : decide (x ≥ 0) with
  | false => simp (maxSteps := 1000000) only [h1, Bool.false_and, Bo, encG, XX, reduceIte, ↓reduceIte, Nat.reduceAdd, Nat.reduceLeDiff, Nat.reduceEqDiff, Nat.reduceLT, Nat.reduceSub, Nat.reduceBEq, forall_const, reduceCtorEq, implies_true, exists_eq_left', exists_eq_left, if_true, if_false, undef]
  | true => simp (maxSteps := 1000000) only [h1, Bool.true_and, Bo, encG, XX, reduceIte, ↓reduceIte, Nat.reduceAdd, Nat.reduceLeDiff, Nat.reduceEqDiff, Nat.reduceLT, Nat.reduceSub, Nat.reduceBEq, forall_const, reduceCtorEq, implies_true, exists_eq_left', exists_eq_left, if_true, if_false, undef]

theorem checkGateP_spec (inn : Int) (k : Nat) (g : Gt) : CallsA Try.prog 31 [I inn, IN k, encG g] (I (gErr inn k g)) [] := by
  refine fn_of0 comp31 (by simp) ?_
  unfold code31
  obtain ⟨kd, a, b⟩ := g
  have h0 := gprec_spec a k
  have h1 := gprec_spec b k
  simp (maxSteps := 1000000) only [encG, splice, AV.cells, encG, XX, reduceIte, ↓reduceIte, Nat.reduceAdd, Nat.reduceLeDiff, Nat.reduceEqDiff, Nat.reduceLT, Nat.reduceSub, Nat.reduceBEq, forall_const, reduceCtorEq, implies_true, exists_eq_left', exists_eq_left, if_true, if_false, undef]
  by_cases k1 : kd = 1
  · have e1 : (kd == 1) = true := by simpa using k1
    have he : gErr inn k ⟨kd, a, b⟩ = if 0 ≤ a ∧ a < inn then 0 else 4 := by
      simp only [gErr]
      rw [if_neg (by omega)]
      by_cases c : 0 ≤ a ∧ a < inn
      · rw [if_neg (by omega), if_neg (by omega), if_pos c]
      · rw [if_pos ⟨k1, c⟩, if_neg c]
    rw [he]
    simp (maxSteps := 1000000) only [e1, encG, XX, reduceIte, ↓reduceIte, Nat.reduceAdd, Nat.reduceLeDiff, Nat.reduceEqDiff, Nat.reduceLT, Nat.reduceSub, Nat.reduceBEq, forall_const, reduceCtorEq, implies_true, exists_eq_left', exists_eq_left, if_true, if_false, undef]
    by_cases c1 : a < 0
    · have f1 : decide (a < 0) = true := by simpa using c1
      rw [if_neg (by omega)]
      simp (maxSteps := 1000000) only [f1, encG, XX, reduceIte, ↓reduceIte, Nat.reduceAdd, Nat.reduceLeDiff, Nat.reduceEqDiff, Nat.reduceLT, Nat.reduceSub, Nat.reduceBEq, forall_const, reduceCtorEq, implies_true, exists_eq_left', exists_eq_left, if_true, if_false, undef]
    · have f1 : decide (a < 0) = false := by simpa using c1
      by_cases c2 : a ≥ inn
      · have f2 : decide (a ≥ inn) = true := by simpa using c2
        rw [if_neg (by omega)]
        simp (maxSteps := 1000000) only [f1, f2, encG, XX, reduceIte, ↓reduceIte, Nat.reduceAdd, Nat.reduceLeDiff, Nat.reduceEqDiff, Nat.reduceLT, Nat.reduceSub, Nat.reduceBEq, forall_const, reduceCtorEq, implies_true, exists_eq_left', exists_eq_left, if_true, if_false, undef]
      · have f2 : decide (a ≥ inn) = false := by simpa using c2
        rw [if_pos (by omega)]
        simp (maxSteps := 1000000) only [f1, f2, encG, XX, reduceIte, ↓reduceIte, Nat.reduceAdd, Nat.reduceLeDiff, Nat.reduceEqDiff, Nat.reduceLT, Nat.reduceSub, Nat.reduceBEq, forall_const, reduceCtorEq, implies_true, exists_eq_left', exists_eq_left, if_true, if_false, undef]
  have e1 : (kd == 1) = false := by simpa using k1
  by_cases k2 : kd = 2
  · have e2 : (kd == 2) = true := by simpa using k2
    have he : gErr inn k ⟨kd, a, b⟩ = if 0 ≤ a ∧ a < (k : Int) then 0 else 2 := by
      simp only [gErr]
      rw [if_neg (by omega), if_neg (by omega)]
      by_cases c : 0 ≤ a ∧ a < (k : Int)
      · rw [if_neg (by omega), if_pos c]
      · rw [if_pos (.inl ⟨k1, c⟩), if_neg c]
    rw [he]
    simp (maxSteps := 1000000) only [e1, e2, encG, XX, reduceIte, ↓reduceIte, Nat.reduceAdd, Nat.reduceLeDiff, Nat.reduceEqDiff, Nat.reduceLT, Nat.reduceSub, Nat.reduceBEq, forall_const, reduceCtorEq, implies_true, exists_eq_left', exists_eq_left, if_true, if_false, undef]
    refine callF (CallsA.args (h0) (by simp [encG, XX, undef])) rfl (by simp [flat, encG, XX, undef]) ?_
    by_cases c : 0 ≤ a ∧ a < (k : Int)
    · have f1 : decide (0 ≤ a ∧ a < (k : Int)) = true := by rw [decide_eq_true_iff]; exact c
      rw [if_pos c]
      simp (maxSteps := 1000000) only [f1, Bo, encG, XX, reduceIte, ↓reduceIte, Nat.reduceAdd, Nat.reduceLeDiff, Nat.reduceEqDiff, Nat.reduceLT, Nat.reduceSub, Nat.reduceBEq, forall_const, reduceCtorEq, implies_true, exists_eq_left', exists_eq_left, if_true, if_false, undef]
    · have f1 : decide (0 ≤ a ∧ a < (k : Int)) = false := by rw [decide_eq_false_iff_not]; exact c
      rw [if_neg c]
      simp (maxSteps := 1000000) only [f1, Bo, encG, XX, reduceIte, ↓reduceIte, Nat.reduceAdd, Nat.reduceLeDiff, Nat.reduceEqDiff, Nat.reduceLT, Nat.reduceSub, Nat.reduceBEq, forall_const, reduceCtorEq, implies_true, exists_eq_left', exists_eq_left, if_true, if_false, undef]
  have e2 : (kd == 2) = false := by simpa using k2
  by_cases k3 : kd = 3 ∨ kd = 4
  · have he : gErr inn k ⟨kd, a, b⟩ = if (0 ≤ a ∧ a < (k : Int)) ∧ (0 ≤ b ∧ b < (k : Int)) then 0 else 2 := by
      simp only [gErr]
      rw [if_neg (by omega), if_neg (by omega)]
      by_cases c : (0 ≤ a ∧ a < (k : Int)) ∧ (0 ≤ b ∧ b < (k : Int))
      · rw [if_neg (by omega), if_pos c]
      · rw [if_pos (by omega), if_neg c]
    rw [he]
    have fin : ∀ {G : Prop}, True := fun {G} => trivial
    rcases k3 with k3 | k3
    · have e3 : (kd == 3) = true := by simpa using k3
      simp (maxSteps := 1000000) only [e1, e2, e3, encG, XX, reduceIte, ↓reduceIte, Nat.reduceAdd, Nat.reduceLeDiff, Nat.reduceEqDiff, Nat.reduceLT, Nat.reduceSub, Nat.reduceBEq, forall_const, reduceCtorEq, implies_true, exists_eq_left', exists_eq_left, if_true, if_false, undef]
      refine callF (CallsA.args (h0) (by simp [encG, XX, undef])) rfl (by simp [flat, encG, XX, undef]) ?_
      by_cases c : 0 ≤ a ∧ a < (k : Int)
      · have f1 : decide (0 ≤ a ∧ a < (k : Int)) = true := by rw [decide_eq_true_iff]; exact c
        simp (maxSteps := 1000000) only [f1, Bo, encG, XX, reduceIte, ↓reduceIte, Nat.reduceAdd, Nat.reduceLeDiff, Nat.reduceEqDiff, Nat.reduceLT, Nat.reduceSub, Nat.reduceBEq, forall_const, reduceCtorEq, implies_true, exists_eq_left', exists_eq_left, if_true, if_false, undef]
        refine callF (CallsA.args (h1) (by simp [encG, XX, undef])) rfl (by simp [flat, encG, XX, undef]) ?_
        by_cases c' : 0 ≤ b ∧ b < (k : Int)
        · have f2 : decide (0 ≤ b ∧ b < (k : Int)) = true := by rw [decide_eq_true_iff]; exact c'
          rw [if_pos ⟨c, c'⟩]
          simp (maxSteps := 1000000) only [f1, f2, Bo, encG, XX, reduceIte, ↓reduceIte, Nat.reduceAdd, Nat.reduceLeDiff, Nat.reduceEqDiff, Nat.reduceLT, Nat.reduceSub, Nat.reduceBEq, forall_const, reduceCtorEq, implies_true, exists_eq_left', exists_eq_left, if_true, if_false, undef]
        · have f2 : decide (0 ≤ b ∧ b < (k : Int)) = false := by rw [decide_eq_false_iff_not]; exact c'
          rw [if_neg (fun h => c' h.2)]
          simp (maxSteps := 1000000) only [f1, f2, Bo, encG, XX, reduceIte, ↓reduceIte, Nat.reduceAdd, Nat.reduceLeDiff, Nat.reduceEqDiff, Nat.reduceLT, Nat.reduceSub, Nat.reduceBEq, forall_const, reduceCtorEq, implies_true, exists_eq_left', exists_eq_left, if_true, if_false, undef]
      · have f1 : decide (0 ≤ a ∧ a < (k : Int)) = false := by rw [decide_eq_false_iff_not]; exact c
        rw [if_neg (fun h => c h.1)]
        simp (maxSteps := 1000000) only [f1, Bo, encG, XX, reduceIte, ↓reduceIte, Nat.reduceAdd, Nat.reduceLeDiff, Nat.reduceEqDiff, Nat.reduceLT, Nat.reduceSub, Nat.reduceBEq, forall_const, reduceCtorEq, implies_true, exists_eq_left', exists_eq_left, if_true, if_false, undef]
    · have e3 : (kd == 3) = false := by simp; omega
      have e4 : (kd == 4) = true := by simpa using k3
      simp (maxSteps := 1000000) only [e1, e2, e3, e4, encG, XX, reduceIte, ↓reduceIte, Nat.reduceAdd, Nat.reduceLeDiff, Nat.reduceEqDiff, Nat.reduceLT, Nat.reduceSub, Nat.reduceBEq, forall_const, reduceCtorEq, implies_true, exists_eq_left', exists_eq_left, if_true, if_false, undef]
      refine callF (CallsA.args (h0) (by simp [encG, XX, undef])) rfl (by simp [flat, encG, XX, undef]) ?_
      by_cases c : 0 ≤ a ∧ a < (k : Int)
      · have f1 : decide (0 ≤ a ∧ a < (k : Int)) = true := by rw [decide_eq_true_iff]; exact c
        simp (maxSteps := 1000000) only [f1, Bo, encG, XX, reduceIte, ↓reduceIte, Nat.reduceAdd, Nat.reduceLeDiff, Nat.reduceEqDiff, Nat.reduceLT, Nat.reduceSub, Nat.reduceBEq, forall_const, reduceCtorEq, implies_true, exists_eq_left', exists_eq_left, if_true, if_false, undef]
        refine callF (CallsA.args (h1) (by simp [encG, XX, undef])) rfl (by simp [flat, encG, XX, undef]) ?_
        by_cases c' : 0 ≤ b ∧ b < (k : Int)
        · have f2 : decide (0 ≤ b ∧ b < (k : Int)) = true := by rw [decide_eq_true_iff]; exact c'
          rw [if_pos ⟨c, c'⟩]
          simp (maxSteps := 1000000) only [f1, f2, Bo, encG, XX, reduceIte, ↓reduceIte, Nat.reduceAdd, Nat.reduceLeDiff, Nat.reduceEqDiff, Nat.reduceLT, Nat.reduceSub, Nat.reduceBEq, forall_const, reduceCtorEq, implies_true, exists_eq_left', exists_eq_left, if_true, if_false, undef]
        · have f2 : decide (0 ≤ b ∧ b < (k : Int)) = false := by rw [decide_eq_false_iff_not]; exact c'
          rw [if_neg (fun h => c' h.2)]
          simp (maxSteps := 1000000) only [f1, f2, Bo, encG, XX, reduceIte, ↓reduceIte, Nat.reduceAdd, Nat.reduceLeDiff, Nat.reduceEqDiff, Nat.reduceLT, Nat.reduceSub, Nat.reduceBEq, forall_const, reduceCtorEq, implies_true, exists_eq_left', exists_eq_left, if_true, if_false, undef]
      · have f1 : decide (0 ≤ a ∧ a < (k : Int)) = false := by rw [decide_eq_false_iff_not]; exact c
        rw [if_neg (fun h => c h.1)]
        simp (maxSteps := 1000000) only [f1, Bo, encG, XX, reduceIte, ↓reduceIte, Nat.reduceAdd, Nat.reduceLeDiff, Nat.reduceEqDiff, Nat.reduceLT, Nat.reduceSub, Nat.reduceBEq, forall_const, reduceCtorEq, implies_true, exists_eq_left', exists_eq_left, if_true, if_false, undef]
  · have e3 : (kd == 3) = false := by simp; omega
    have e4 : (kd == 4) = false := by simp; omega
    have he : gErr inn k ⟨kd, a, b⟩ = 6 := by simp only [gErr]; rw [if_pos (by omega)]
    rw [he]
    simp (maxSteps := 1000000) only [e1, e2, e3, e4, encG, XX, reduceIte, ↓reduceIte, Nat.reduceAdd, Nat.reduceLeDiff, Nat.reduceEqDiff, Nat.reduceLT, Nat.reduceSub, Nat.reduceBEq, forall_const, reduceCtorEq, implies_true, exists_eq_left', exists_eq_left, if_true, if_false, undef]

theorem gateCheckP_spec (inn : Int) (l : List Gt) (hl : (l.length : Int) < 2 ^ 63) : CallsA Try.prog 24 [I inn, .ro 3 (l.map encG)] (I (gateErr inn l)) [] := by
  refine fn_of0 comp24 (by simp) ?_
  unfold code24
  have hll : ((l.map encG).length : Int) = l.length := by simp
  have bad : ∀ {G : Prop}, (inn < 0 ∨ inn > 5 ∨ (l.length : Int) = 0 ∨ (l.length : Int) > 40) → gateErr inn l = 1 := fun {G} h => by rw [gateErr, if_pos (by omega)]
  simp (maxSteps := 1000000) only [hll, encG, XX, reduceIte, ↓reduceIte, Nat.reduceAdd, Nat.reduceLeDiff, Nat.reduceEqDiff, Nat.reduceLT, Nat.reduceSub, Nat.reduceBEq, forall_const, reduceCtorEq, implies_true, exists_eq_left', exists_eq_left, if_true, if_false, undef]
  by_cases c1 : inn < 0
  · have f1 : decide (inn < 0) = true := by simpa using c1
    rw [bad (G := True) (.inl c1)]
    simp (maxSteps := 1000000) only [f1, encG, XX, reduceIte, ↓reduceIte, Nat.reduceAdd, Nat.reduceLeDiff, Nat.reduceEqDiff, Nat.reduceLT, Nat.reduceSub, Nat.reduceBEq, forall_const, reduceCtorEq, implies_true, exists_eq_left', exists_eq_left, if_true, if_false, undef]
  have f1 : decide (inn < 0) = false := by simpa using c1
  by_cases c2 : inn > 5
  · have f2 : decide (inn > 5) = true := by simpa using c2
    rw [bad (G := True) (.inr (.inl c2))]
    simp (maxSteps := 1000000) only [f1, f2, encG, XX, reduceIte, ↓reduceIte, Nat.reduceAdd, Nat.reduceLeDiff, Nat.reduceEqDiff, Nat.reduceLT, Nat.reduceSub, Nat.reduceBEq, forall_const, reduceCtorEq, implies_true, exists_eq_left', exists_eq_left, if_true, if_false, undef]
  have f2 : decide (inn > 5) = false := by simpa using c2
  by_cases c3 : (l.length : Int) = 0
  · have f3 : ((l.length : Int) == 0) = true := by simpa using c3
    rw [bad (G := True) (.inr (.inr (.inl c3)))]
    simp (maxSteps := 1000000) only [f1, f2, f3, hll, encG, XX, reduceIte, ↓reduceIte, Nat.reduceAdd, Nat.reduceLeDiff, Nat.reduceEqDiff, Nat.reduceLT, Nat.reduceSub, Nat.reduceBEq, forall_const, reduceCtorEq, implies_true, exists_eq_left', exists_eq_left, if_true, if_false, undef]
  have f3 : ((l.length : Int) == 0) = false := by simpa using c3
  by_cases c4 : (l.length : Int) > 40
  · have f4 : decide ((l.length : Int) > 40) = true := by simpa using c4
    rw [bad (G := True) (.inr (.inr (.inr c4)))]
    simp (maxSteps := 1000000) only [f1, f2, f3, f4, hll, encG, XX, reduceIte, ↓reduceIte, Nat.reduceAdd, Nat.reduceLeDiff, Nat.reduceEqDiff, Nat.reduceLT, Nat.reduceSub, Nat.reduceBEq, forall_const, reduceCtorEq, implies_true, exists_eq_left', exists_eq_left, if_true, if_false, undef]
  have f4 : decide ((l.length : Int) > 40) = false := by simpa using c4
  rw [gateErr, if_neg (by omega)]
  simp (maxSteps := 1000000) only [f1, f2, f3, f4, hll, encG, XX, reduceIte, ↓reduceIte, Nat.reduceAdd, Nat.reduceLeDiff, Nat.reduceEqDiff, Nat.reduceLT, Nat.reduceSub, Nat.reduceBEq, forall_const, reduceCtorEq, implies_true, exists_eq_left', exists_eq_left, if_true, if_false, undef]
  refine loop0 Nat [26] (fun k => [IN k]) (fun k => k ≤ l.length ∧ gsErr inn l k = 0) (fun k => l.length - k) (by decide) 0 (by simp [gsErr]) (by simp [Back, BackF, fzT, fzM, fzU, fz, fzL, fzO, kin, SubT, Sub, SubL, SubM, SubO, keepM, srcOk, look, lookM, ev, evs, putT, argT, encG, XX, undef]) ?_
  rintro k ⟨hk, hz⟩
  by_cases g0 : k < l.length
  rotate_left
  · have g1 : decide ((k : Int) < (l.length : Int)) = false := by simp; omega
    obtain rfl : k = l.length := by omega
    simp (maxSteps := 1000000) only [hll, g1, hz, encG, XX, reduceIte, ↓reduceIte, Nat.reduceAdd, Nat.reduceLeDiff, Nat.reduceEqDiff, Nat.reduceLT, Nat.reduceSub, Nat.reduceBEq, forall_const, reduceCtorEq, implies_true, exists_eq_left', exists_eq_left, if_true, if_false, undef]
  have g1 : decide ((k : Int) < (l.length : Int)) = true := by simp [g0]
  have hw : IntKind.i64.wrap ((k : Int) + 1) = ((k + 1 : Nat) : Int) := by rw [wrap_id] <;> omega
  have hnx : gsErr inn l (k + 1) = gErr inn k l[k] := by rw [gsErr, if_neg (by simp [hz]), gAt, List.getElem?_eq_getElem g0]; rfl
  have hbad : gErr inn k l[k] ≠ 0 → gsErr inn l l.length = gErr inn k l[k] := fun h => by
    rw [← hnx]; exact gsErr_stay (by rw [hnx]; exact h) (by omega)
  have hsp := checkGateP_spec inn k l[k]
  simp (maxSteps := 1000000) only [hll, g1, encG, XX, reduceIte, ↓reduceIte, Nat.reduceAdd, Nat.reduceLeDiff, Nat.reduceEqDiff, Nat.reduceLT, Nat.reduceSub, Nat.reduceBEq, forall_const, reduceCtorEq, implies_true, exists_eq_left', exists_eq_left, if_true, if_false, undef]
  refine ⟨by omega, pickM g0 ?_⟩
  generalize l[k] = g at *
  obtain ⟨kd, a, b⟩ := g
  simp (maxSteps := 1000000) only [encG, splice, AV.cells, encG, XX, reduceIte, ↓reduceIte, Nat.reduceAdd, Nat.reduceLeDiff, Nat.reduceEqDiff, Nat.reduceLT, Nat.reduceSub, Nat.reduceBEq, forall_const, reduceCtorEq, implies_true, exists_eq_left', exists_eq_left, if_true, if_false, undef]
  simp only [encG] at hsp
  refine callF (CallsA.args (hsp) (by simp [encG, XX, undef])) rfl (by simp [flat, encG, XX, undef]) ?_
  generalize gErr inn k ⟨kd, a, b⟩ = e at *
  by_cases he : e = 0
  · have e1 : (e != 0) = false := by simp [he]
    simp (maxSteps := 1000000) only [e1, hw, encG, XX, reduceIte, ↓reduceIte, Nat.reduceAdd, Nat.reduceLeDiff, Nat.reduceEqDiff, Nat.reduceLT, Nat.reduceSub, Nat.reduceBEq, forall_const, reduceCtorEq, implies_true, exists_eq_left', exists_eq_left, if_true, if_false, undef]
    exact ⟨k + 1, ⟨by omega, by rw [hnx, he]⟩, by omega, by simp [Back, BackF, fzT, fzM, fzU, fz, fzL, fzO, kin, SubT, Sub, SubL, SubM, SubO, keepM, srcOk, look, lookM, ev, evs, putT, argT, encG, XX, undef]⟩
  · have e1 : (e != 0) = true := by simp [he]
    rw [hbad he]
    simp (maxSteps := 1000000) only [e1, encG, XX, reduceIte, ↓reduceIte, Nat.reduceAdd, Nat.reduceLeDiff, Nat.reduceEqDiff, Nat.reduceLT, Nat.reduceSub, Nat.reduceBEq, forall_const, reduceCtorEq, implies_true, exists_eq_left', exists_eq_left, if_true, if_false, undef]

theorem gateValueP_spec (inn : Int) (l : List Gt) (v : List Bool) (hl : (l.length : Int) < 2 ^ 63) (hv : (v.length : Int) < 2 ^ 63) : CallsA Try.prog 20 [I inn, .ro 3 (l.map encG), .ro 1 (v.map Bo)] (valueAns inn l v) [] := by
  refine fn_of0 comp20 (by simp) ?_
  unfold code20
  have hll : ((l.map encG).length : Int) = l.length := by simp
  have hvl : ((v.map Bo).length : Int) = v.length := by simp
  simp (maxSteps := 1000000) only [encG, XX, reduceIte, ↓reduceIte, Nat.reduceAdd, Nat.reduceLeDiff, Nat.reduceEqDiff, Nat.reduceLT, Nat.reduceSub, Nat.reduceBEq, forall_const, reduceCtorEq, implies_true, exists_eq_left', exists_eq_left, if_true, if_false, undef]
  refine callF (CallsA.args (gateCheckP_spec inn l hl) (by simp [encG, XX, undef])) rfl (by simp [flat, encG, XX, undef]) ?_
  by_cases he : gateErr inn l = 0
  rotate_left
  · have e1 : (gateErr inn l != 0) = true := by simp [he]
    rw [valueAns, if_pos he]
    simp (maxSteps := 1000000) only [e1, Bo, encG, XX, reduceIte, ↓reduceIte, Nat.reduceAdd, Nat.reduceLeDiff, Nat.reduceEqDiff, Nat.reduceLT, Nat.reduceSub, Nat.reduceBEq, forall_const, reduceCtorEq, implies_true, exists_eq_left', exists_eq_left, if_true, if_false, undef]
  have e1 : (gateErr inn l != 0) = false := by simp [he]
  rw [valueAns, if_neg (fun h => h he)]
  simp (maxSteps := 1000000) only [e1, hvl, encG, XX, reduceIte, ↓reduceIte, Nat.reduceAdd, Nat.reduceLeDiff, Nat.reduceEqDiff, Nat.reduceLT, Nat.reduceSub, Nat.reduceBEq, forall_const, reduceCtorEq, implies_true, exists_eq_left', exists_eq_left, if_true, if_false, undef]
  by_cases hvi : (v.length : Int) = inn
  rotate_left
  · have e2 : ((v.length : Int) != inn) = true := by simp [hvi]
    rw [if_pos hvi]
    simp (maxSteps := 1000000) only [e2, Bo, encG, XX, reduceIte, ↓reduceIte, Nat.reduceAdd, Nat.reduceLeDiff, Nat.reduceEqDiff, Nat.reduceLT, Nat.reduceSub, Nat.reduceBEq, forall_const, reduceCtorEq, implies_true, exists_eq_left', exists_eq_left, if_true, if_false, undef]
  have e2 : ((v.length : Int) != inn) = false := by simp [hvi]
  rw [if_neg (fun h => h hvi)]
  obtain ⟨hin, hlen, hok0⟩ := gate_ok he
  have hrep : List.replicate ((l.length : Int)).toNat (AV.v (.bool false)) = gvArr (wordN v) l 0 := by simp [gvArr, gvk, Bo]
  simp (maxSteps := 1000000) only [e2, hll, hrep, encG, XX, reduceIte, ↓reduceIte, Nat.reduceAdd, Nat.reduceLeDiff, Nat.reduceEqDiff, Nat.reduceLT, Nat.reduceSub, Nat.reduceBEq, forall_const, reduceCtorEq, implies_true, exists_eq_left', exists_eq_left, if_true, if_false, undef]
  refine ⟨by omega, by omega, by omega, ?_⟩
  generalize hWd : wordN v = w
  refine loopO Nat [27] (fun k => [IN k]) (fun k => [(14, some (.arr 1 (gvArr w l k)))]) (fun k => k ≤ l.length) (fun k => l.length - k) (by decide) 0 (by simp) (by simp [Back, BackF, fzT, fzM, fzU, fz, fzL, fzO, kin, SubT, Sub, SubL, SubM, SubO, keepM, srcOk, look, lookM, ev, evs, putT, argT, encG, XX, undef, hWd]) ?_
  intro k hk
  have hal := gvArr_length (w := w) (l := l) hk
  by_cases c1 : k < l.length
  rotate_left
  · have g1 : decide ((k : Int) < (l.length : Int)) = false := by simp; omega
    obtain rfl : k = l.length := by omega
    have hfin : gvArr w l l.length = (gvk w l l.length).map Bo := by simp [gvArr]
    have hw1 : IntKind.i64.wrap ((l.length : Int) - 1) = ((l.length - 1 : Nat) : Int) := by rw [wrap_id] <;> omega
    simp (maxSteps := 1000000) only [hll, hw1, g1, hfin, encG, XX, reduceIte, ↓reduceIte, Nat.reduceAdd, Nat.reduceLeDiff, Nat.reduceEqDiff, Nat.reduceLT, Nat.reduceSub, Nat.reduceBEq, forall_const, reduceCtorEq, implies_true, exists_eq_left', exists_eq_left, if_true, if_false, undef]
    refine ⟨by omega, by omega, Pick.mk (Bo (gval w l)) (by rw [Int.toNat_natCast]; exact gval_get (by omega)) ?_⟩
    simp (maxSteps := 1000000) only [Bo, encG, XX, reduceIte, ↓reduceIte, Nat.reduceAdd, Nat.reduceLeDiff, Nat.reduceEqDiff, Nat.reduceLT, Nat.reduceSub, Nat.reduceBEq, forall_const, reduceCtorEq, implies_true, exists_eq_left', exists_eq_left, if_true, if_false, undef]
  have g1 : decide ((k : Int) < (l.length : Int)) = true := by simp [c1]
  have hwk : IntKind.i64.wrap ((k : Int) + 1) = ((k + 1 : Nat) : Int) := by rw [wrap_id] <;> omega
  have hok := hok0 k c1
  have hset := gvArr_set (w := w) c1
  have hgat : gAt l k = l[k] := by rw [gAt, List.getElem?_eq_getElem c1]; rfl
  rw [hgat] at hset
  simp (maxSteps := 1000000) only [hll, g1, encG, XX, reduceIte, ↓reduceIte, Nat.reduceAdd, Nat.reduceLeDiff, Nat.reduceEqDiff, Nat.reduceLT, Nat.reduceSub, Nat.reduceBEq, forall_const, reduceCtorEq, implies_true, exists_eq_left', exists_eq_left, if_true, if_false, undef]
  refine ⟨by omega, pickM c1 ?_⟩
  generalize l[k] = g at *
  obtain ⟨kd, a, b⟩ := g
  have hkd := hok.kind
  have hinp := hok.input
  have hfi := hok.first
  have hse := hok.second
  simp only at hkd hinp hfi hse
  simp (maxSteps := 1000000) only [encG, splice, AV.cells, encG, XX, reduceIte, ↓reduceIte, Nat.reduceAdd, Nat.reduceLeDiff, Nat.reduceEqDiff, Nat.reduceLT, Nat.reduceSub, Nat.reduceBEq, forall_const, reduceCtorEq, implies_true, exists_eq_left', exists_eq_left, if_true, if_false, undef]
  rcases (by omega : kd = 1 ∨ kd = 2 ∨ kd = 3 ∨ kd = 4) with rfl | rfl | rfl | rfl
  · obtain ⟨p1, p2⟩ := hinp rfl
    have n1 : ((1 : Int) == 1) = true := by decide
    have hb : a.toNat < v.length := by omega
    have hv' : gev w (gvk w l k) ⟨1, a, b⟩ = v[a.toNat] := by
      simp only [gev, if_true]
      rw [← hWd, wordN_bit, List.getD_eq_getElem?_getD, List.getElem?_eq_getElem hb]; rfl
    rw [hv'] at hset
    simp (maxSteps := 1000000) only [n1, encG, XX, reduceIte, ↓reduceIte, Nat.reduceAdd, Nat.reduceLeDiff, Nat.reduceEqDiff, Nat.reduceLT, Nat.reduceSub, Nat.reduceBEq, forall_const, reduceCtorEq, implies_true, exists_eq_left', exists_eq_left, if_true, if_false, undef]
    refine ⟨by omega, pickI hb ?_⟩
    simp (maxSteps := 1000000) only [hwk, Bo, encG, XX, reduceIte, ↓reduceIte, Nat.reduceAdd, Nat.reduceLeDiff, Nat.reduceEqDiff, Nat.reduceLT, Nat.reduceSub, Nat.reduceBEq, forall_const, reduceCtorEq, implies_true, exists_eq_left', exists_eq_left, if_true, if_false, undef]
    exact ⟨by omega, by omega, by rw [Int.toNat_natCast]; omega, k + 1, by omega, by omega, by simp [Back, BackF, fzT, fzM, fzU, fz, fzL, fzO, kin, SubT, Sub, SubL, SubM, SubO, keepM, srcOk, look, lookM, ev, evs, putT, argT, encG, XX, undef, ← hset, Bo]⟩
  · obtain ⟨p1, p2⟩ := hfi (by omega)
    have n1 : ((2 : Int) == 1) = false := by decide
    have n2 : ((2 : Int) == 2) = true := by decide
    have hga := gvArr_get (w := w) (l := l) (k := k) (i := a.toNat) (by omega)
    have hv' : gev w (gvk w l k) ⟨2, a, b⟩ = !((gvk w l k).getD a.toNat false) := by simp [gev]
    rw [hv'] at hset
    generalize (gvk w l k).getD a.toNat false = A at *
    simp (maxSteps := 1000000) only [n1, n2, encG, XX, reduceIte, ↓reduceIte, Nat.reduceAdd, Nat.reduceLeDiff, Nat.reduceEqDiff, Nat.reduceLT, Nat.reduceSub, Nat.reduceBEq, forall_const, reduceCtorEq, implies_true, exists_eq_left', exists_eq_left, if_true, if_false, undef]
    refine ⟨by omega, by omega, Pick.mk (Bo A) (by simpa using hga) ?_⟩
    simp (maxSteps := 1000000) only [hwk, Bo, encG, XX, reduceIte, ↓reduceIte, Nat.reduceAdd, Nat.reduceLeDiff, Nat.reduceEqDiff, Nat.reduceLT, Nat.reduceSub, Nat.reduceBEq, forall_const, reduceCtorEq, implies_true, exists_eq_left', exists_eq_left, if_true, if_false, undef]
    exact ⟨by omega, by omega, by rw [Int.toNat_natCast]; omega, k + 1, by omega, by omega, by simp [Back, BackF, fzT, fzM, fzU, fz, fzL, fzO, kin, SubT, Sub, SubL, SubM, SubO, keepM, srcOk, look, lookM, ev, evs, putT, argT, encG, XX, undef, ← hset, Bo]⟩
  · obtain ⟨p1, p2⟩ := hfi (by omega)
    obtain ⟨q1, q2⟩ := hse (by omega)
    have n1 : ((3 : Int) == 1) = false := by decide
    have n2 : ((3 : Int) == 2) = false := by decide
    have n3 : ((3 : Int) == 3) = true := by decide
    have hga := gvArr_get (w := w) (l := l) (k := k) (i := a.toNat) (by omega)
    have hgb := gvArr_get (w := w) (l := l) (k := k) (i := b.toNat) (by omega)
    have hv' : gev w (gvk w l k) ⟨3, a, b⟩ = ((gvk w l k).getD a.toNat false && (gvk w l k).getD b.toNat false) := by simp [gev]
    rw [hv'] at hset
    generalize (gvk w l k).getD a.toNat false = A at *
    generalize (gvk w l k).getD b.toNat false = B at *
    simp (maxSteps := 1000000) only [n1, n2, n3, encG, XX, reduceIte, ↓reduceIte, Nat.reduceAdd, Nat.reduceLeDiff, Nat.reduceEqDiff, Nat.reduceLT, Nat.reduceSub, Nat.reduceBEq, forall_const, reduceCtorEq, implies_true, exists_eq_left', exists_eq_left, if_true, if_false, undef]
    refine ⟨by omega, by omega, Pick.mk (Bo A) (by simpa using hga) ?_⟩
    cases A with
    | false =>
      simp (maxSteps := 1000000) only [hwk, Bo, encG, XX, reduceIte, ↓reduceIte, Nat.reduceAdd, Nat.reduceLeDiff, Nat.reduceEqDiff, Nat.reduceLT, Nat.reduceSub, Nat.reduceBEq, forall_const, reduceCtorEq, implies_true, exists_eq_left', exists_eq_left, if_true, if_false, undef]
      exact ⟨by omega, by omega, by rw [Int.toNat_natCast]; omega, k + 1, by omega, by omega, by simp [Back, BackF, fzT, fzM, fzU, fz, fzL, fzO, kin, SubT, Sub, SubL, SubM, SubO, keepM, srcOk, look, lookM, ev, evs, putT, argT, encG, XX, undef, ← hset, Bo]⟩
    | true =>
      simp (maxSteps := 1000000) only [hwk, Bo, encG, XX, reduceIte, ↓reduceIte, Nat.reduceAdd, Nat.reduceLeDiff, Nat.reduceEqDiff, Nat.reduceLT, Nat.reduceSub, Nat.reduceBEq, forall_const, reduceCtorEq, implies_true, exists_eq_left', exists_eq_left, if_true, if_false, undef]
      refine ⟨by omega, by omega, Pick.mk (Bo B) (by simpa using hgb) ?_⟩
      simp (maxSteps := 1000000) only [hwk, Bo, encG, XX, reduceIte, ↓reduceIte, Nat.reduceAdd, Nat.reduceLeDiff, Nat.reduceEqDiff, Nat.reduceLT, Nat.reduceSub, Nat.reduceBEq, forall_const, reduceCtorEq, implies_true, exists_eq_left', exists_eq_left, if_true, if_false, undef]
      exact ⟨by omega, by omega, by rw [Int.toNat_natCast]; omega, k + 1, by omega, by omega, by simp [Back, BackF, fzT, fzM, fzU, fz, fzL, fzO, kin, SubT, Sub, SubL, SubM, SubO, keepM, srcOk, look, lookM, ev, evs, putT, argT, encG, XX, undef, ← hset, Bo]⟩
  · obtain ⟨p1, p2⟩ := hfi (by omega)
    obtain ⟨q1, q2⟩ := hse (by omega)
    have n1 : ((4 : Int) == 1) = false := by decide
    have n2 : ((4 : Int) == 2) = false := by decide
    have n3 : ((4 : Int) == 3) = false := by decide
    have n4 : ((4 : Int) == 4) = true := by decide
    have hga := gvArr_get (w := w) (l := l) (k := k) (i := a.toNat) (by omega)
    have hgb := gvArr_get (w := w) (l := l) (k := k) (i := b.toNat) (by omega)
    have hv' : gev w (gvk w l k) ⟨4, a, b⟩ = ((gvk w l k).getD a.toNat false || (gvk w l k).getD b.toNat false) := by simp [gev]
    rw [hv'] at hset
    generalize (gvk w l k).getD a.toNat false = A at *
    generalize (gvk w l k).getD b.toNat false = B at *
    simp (maxSteps := 1000000) only [n1, n2, n3, n4, encG, XX, reduceIte, ↓reduceIte, Nat.reduceAdd, Nat.reduceLeDiff, Nat.reduceEqDiff, Nat.reduceLT, Nat.reduceSub, Nat.reduceBEq, forall_const, reduceCtorEq, implies_true, exists_eq_left', exists_eq_left, if_true, if_false, undef]
    refine ⟨by omega, by omega, Pick.mk (Bo A) (by simpa using hga) ?_⟩
    cases A with
    | true =>
      simp (maxSteps := 1000000) only [hwk, Bo, encG, XX, reduceIte, ↓reduceIte, Nat.reduceAdd, Nat.reduceLeDiff, Nat.reduceEqDiff, Nat.reduceLT, Nat.reduceSub, Nat.reduceBEq, forall_const, reduceCtorEq, implies_true, exists_eq_left', exists_eq_left, if_true, if_false, undef]
      exact ⟨by omega, by omega, by rw [Int.toNat_natCast]; omega, k + 1, by omega, by omega, by simp [Back, BackF, fzT, fzM, fzU, fz, fzL, fzO, kin, SubT, Sub, SubL, SubM, SubO, keepM, srcOk, look, lookM, ev, evs, putT, argT, encG, XX, undef, ← hset, Bo]⟩
    | false =>
      simp (maxSteps := 1000000) only [hwk, Bo, encG, XX, reduceIte, ↓reduceIte, Nat.reduceAdd, Nat.reduceLeDiff, Nat.reduceEqDiff, Nat.reduceLT, Nat.reduceSub, Nat.reduceBEq, forall_const, reduceCtorEq, implies_true, exists_eq_left', exists_eq_left, if_true, if_false, undef]
      refine ⟨by omega, by omega, Pick.mk (Bo B) (by simpa using hgb) ?_⟩
      simp (maxSteps := 1000000) only [hwk, Bo, encG, XX, reduceIte, ↓reduceIte, Nat.reduceAdd, Nat.reduceLeDiff, Nat.reduceEqDiff, Nat.reduceLT, Nat.reduceSub, Nat.reduceBEq, forall_const, reduceCtorEq, implies_true, exists_eq_left', exists_eq_left, if_true, if_false, undef]
      exact ⟨by omega, by omega, by rw [Int.toNat_natCast]; omega, k + 1, by omega, by omega, by simp [Back, BackF, fzT, fzM, fzU, fz, fzL, fzO, kin, SubT, Sub, SubL, SubM, SubO, keepM, srcOk, look, lookM, ev, evs, putT, argT, encG, XX, undef, ← hset, Bo]⟩

end Go.Av
