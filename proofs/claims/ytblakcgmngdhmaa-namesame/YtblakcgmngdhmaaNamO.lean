/- Clauses: the program's functions True and Many. -/
import Derived.Test.YtblakcgmngdhmaaNamF
set_option linter.unusedSimpArgs false
set_option linter.unusedVariables false
set_option maxRecDepth 100000
namespace Go.Av
open Go.Proofs

theorem insB_no {n : Int} {l : List Int} {k : Nat} (h : k < l.length) (hx : ¬(0 ≤ l[k] ∧ l[k] < n)) : insB n l = false := by
  cases hb : insB n l with
  | false => rfl
  | true => exact absurd (insB_iff.1 hb _ (List.getElem_mem h)) hx
theorem insB_take {n : Int} {l : List Int} {k : Nat} (h : k < l.length) (hz : insB n (l.take k) = true) (hx : 0 ≤ l[k] ∧ l[k] < n) : insB n (l.take (k + 1)) = true := by
  simp only [insB] at *
  rw [List.take_add_one, List.getElem?_eq_getElem h, List.all_append, hz]; simp [hx]
theorem areVarsP_spec (n : Int) (l : List Int) (hl : (l.length : Int) < 2 ^ 63) : CallsA Try.prog 29 [I n, .ro 1 (l.map I)] (Bo (insB n l)) [] := by
  refine fn_of0 comp29 (by simp) ?_
  unfold code29
  have hll : ((l.map I).length : Int) = l.length := by simp
  simp (maxSteps := 1000000) only [hll, encCl, XX, reduceIte, ↓reduceIte, Nat.reduceAdd, Nat.reduceLeDiff, Nat.reduceEqDiff, Nat.reduceLT, Nat.reduceSub, Nat.reduceBEq, forall_const, reduceCtorEq, implies_true, exists_eq_left', exists_eq_left, if_true, if_false, undef]
  refine loop0 Nat [9] (fun k => [IN k]) (fun k => k ≤ l.length ∧ insB n (l.take k) = true) (fun k => l.length - k) (by decide) 0 (by simp [insB]) (by simp [Back, BackF, fzT, fzM, fzU, fz, fzL, fzO, kin, SubT, Sub, SubL, SubM, SubO, keepM, srcOk, look, lookM, ev, evs, putT, argT, encCl, XX, undef]) ?_
  rintro k ⟨hk, hz⟩
  by_cases c1 : k < l.length
  · have g1 : decide ((k : Int) < (l.length : Int)) = true := by simp [c1]
    have hw : IntKind.i64.wrap ((k : Int) + 1) = ((k + 1 : Nat) : Int) := by rw [wrap_id] <;> omega
    have hno := insB_no (n := n) c1
    have htk := insB_take c1 hz
    simp (maxSteps := 1000000) only [hll, g1, encCl, XX, reduceIte, ↓reduceIte, Nat.reduceAdd, Nat.reduceLeDiff, Nat.reduceEqDiff, Nat.reduceLT, Nat.reduceSub, Nat.reduceBEq, forall_const, reduceCtorEq, implies_true, exists_eq_left', exists_eq_left, if_true, if_false, undef]
    refine ⟨by omega, pickM c1 ?_⟩
    generalize l[k] = i at *
    by_cases c2 : i < 0
    · have f1 : decide (i < 0) = true := by simpa using c2
      rw [hno (by omega)]
      simp (maxSteps := 1000000) only [f1, Bo, encCl, XX, reduceIte, ↓reduceIte, Nat.reduceAdd, Nat.reduceLeDiff, Nat.reduceEqDiff, Nat.reduceLT, Nat.reduceSub, Nat.reduceBEq, forall_const, reduceCtorEq, implies_true, exists_eq_left', exists_eq_left, if_true, if_false, undef]
    have f1 : decide (i < 0) = false := by simpa using c2
    by_cases c3 : i ≥ n
    · have f2 : decide (i ≥ n) = true := by simpa using c3
      rw [hno (by omega)]
      simp (maxSteps := 1000000) only [f1, f2, Bo, encCl, XX, reduceIte, ↓reduceIte, Nat.reduceAdd, Nat.reduceLeDiff, Nat.reduceEqDiff, Nat.reduceLT, Nat.reduceSub, Nat.reduceBEq, forall_const, reduceCtorEq, implies_true, exists_eq_left', exists_eq_left, if_true, if_false, undef]
    have f2 : decide (i ≥ n) = false := by simpa using c3
    simp (maxSteps := 1000000) only [f1, f2, hw, Bo, encCl, XX, reduceIte, ↓reduceIte, Nat.reduceAdd, Nat.reduceLeDiff, Nat.reduceEqDiff, Nat.reduceLT, Nat.reduceSub, Nat.reduceBEq, forall_const, reduceCtorEq, implies_true, exists_eq_left', exists_eq_left, if_true, if_false, undef]
    exact ⟨k + 1, ⟨by omega, htk (by omega)⟩, by omega, by simp [Back, BackF, fzT, fzM, fzU, fz, fzL, fzO, kin, SubT, Sub, SubL, SubM, SubO, keepM, srcOk, look, lookM, ev, evs, putT, argT, encCl, XX, undef]⟩
  have g1 : decide ((k : Int) < (l.length : Int)) = false := by simp; omega
  obtain rfl : k = l.length := by omega
  rw [List.take_length] at hz
  rw [hz]
  simp (maxSteps := 1000000) only [hll, g1, Bo, encCl, XX, reduceIte, ↓reduceIte, Nat.reduceAdd, Nat.reduceLeDiff, Nat.reduceEqDiff, Nat.reduceLT, Nat.reduceSub, Nat.reduceBEq, forall_const, reduceCtorEq, implies_true, exists_eq_left', exists_eq_left, if_true, if_false, undef]

theorem nameCheckP_spec (vars most : Int) (l : List Cl) (hl : ClLen l) :
    CallsA Try.prog 21 [I vars, I most, .ro 2 (l.map encCl)] (I (clausesErr vars most l)) [] := by
  refine fn_of0 comp21 (by simp) ?_
  unfold code21
  have hll : ((l.map encCl).length : Int) = l.length := by simp
  have hlen := hl.len
  simp (maxSteps := 1000000) only [hll, encCl, XX, reduceIte, ↓reduceIte, Nat.reduceAdd, Nat.reduceLeDiff, Nat.reduceEqDiff, Nat.reduceLT, Nat.reduceSub, Nat.reduceBEq, forall_const, reduceCtorEq, implies_true, exists_eq_left', exists_eq_left, if_true, if_false, undef]
  by_cases h1 : vars < 0
  · have f : decide (vars < 0) = true := by simpa using h1
    rw [clausesErr, if_pos (.inl (by omega))]
    simp (maxSteps := 1000000) only [f, hll, encCl, XX, reduceIte, ↓reduceIte, Nat.reduceAdd, Nat.reduceLeDiff, Nat.reduceEqDiff, Nat.reduceLT, Nat.reduceSub, Nat.reduceBEq, forall_const, reduceCtorEq, implies_true, exists_eq_left', exists_eq_left, if_true, if_false, undef]
  have f1 : decide (vars < 0) = false := by simpa using h1
  by_cases h2 : vars > most
  · have f : decide (vars > most) = true := by simpa using h2
    rw [clausesErr, if_pos (.inl (by omega))]
    simp (maxSteps := 1000000) only [f1, f, hll, encCl, XX, reduceIte, ↓reduceIte, Nat.reduceAdd, Nat.reduceLeDiff, Nat.reduceEqDiff, Nat.reduceLT, Nat.reduceSub, Nat.reduceBEq, forall_const, reduceCtorEq, implies_true, exists_eq_left', exists_eq_left, if_true, if_false, undef]
  have f2 : decide (vars > most) = false := by simpa using h2
  by_cases h3 : l.length > 200
  · have f : decide ((l.length : Int) > 200) = true := by simp; omega
    rw [clausesErr, if_pos (.inr h3)]
    simp (maxSteps := 1000000) only [f1, f2, f, hll, encCl, XX, reduceIte, ↓reduceIte, Nat.reduceAdd, Nat.reduceLeDiff, Nat.reduceEqDiff, Nat.reduceLT, Nat.reduceSub, Nat.reduceBEq, forall_const, reduceCtorEq, implies_true, exists_eq_left', exists_eq_left, if_true, if_false, undef]
  have f3 : decide ((l.length : Int) > 200) = false := by simp; omega
  rw [clausesErr, if_neg (by omega)]
  simp (maxSteps := 1000000) only [f1, f2, f3, hll, encCl, XX, reduceIte, ↓reduceIte, Nat.reduceAdd, Nat.reduceLeDiff, Nat.reduceEqDiff, Nat.reduceLT, Nat.reduceSub, Nat.reduceBEq, forall_const, reduceCtorEq, implies_true, exists_eq_left', exists_eq_left, if_true, if_false, undef]
  refine loop0 Nat [23] (fun k => [IN k]) (fun k => k ≤ l.length ∧ firstErr (clErr vars) (l.take k) = 0) (fun k => l.length - k) (by decide) 0 (by simp [firstErr]) (by simp [Back, BackF, fzT, fzM, fzU, fz, fzL, fzO, kin, SubT, Sub, SubL, SubM, SubO, keepM, srcOk, look, lookM, ev, evs, putT, argT, encCl, XX, undef]) ?_
  rintro k ⟨hk, hz⟩
  by_cases c1 : k < l.length
  rotate_left
  · have g1 : decide ((k : Int) < (l.length : Int)) = false := by simp; omega
    obtain rfl : k = l.length := by omega
    rw [List.take_length] at hz
    simp (maxSteps := 1000000) only [hll, g1, hz, encCl, XX, reduceIte, ↓reduceIte, Nat.reduceAdd, Nat.reduceLeDiff, Nat.reduceEqDiff, Nat.reduceLT, Nat.reduceSub, Nat.reduceBEq, forall_const, reduceCtorEq, implies_true, exists_eq_left', exists_eq_left, if_true, if_false, undef]
  have g1 : decide ((k : Int) < (l.length : Int)) = true := by simp [c1]
  have hw : IntKind.i64.wrap ((k : Int) + 1) = ((k + 1 : Nat) : Int) := by rw [wrap_id] <;> omega
  have hat := firstErr_at c1 hz
  have htk := firstErr_take c1 hz
  obtain ⟨hcy, hcn⟩ := hl.at_ l[k] (List.getElem_mem c1)
  simp (maxSteps := 1000000) only [hll, g1, encCl, XX, reduceIte, ↓reduceIte, Nat.reduceAdd, Nat.reduceLeDiff, Nat.reduceEqDiff, Nat.reduceLT, Nat.reduceSub, Nat.reduceBEq, forall_const, reduceCtorEq, implies_true, exists_eq_left', exists_eq_left, if_true, if_false, undef]
  refine ⟨by omega, pickM c1 ?_⟩
  generalize l[k] = c at *
  obtain ⟨ys, ns⟩ := c
  simp only at hcy hcn
  have hyl : ((ys.map I).length : Int) = ys.length := by simp
  have hnl : ((ns.map I).length : Int) = ns.length := by simp
  simp (maxSteps := 1000000) only [encCl, splice, AV.cells, hyl, hnl, encCl, XX, reduceIte, ↓reduceIte, Nat.reduceAdd, Nat.reduceLeDiff, Nat.reduceEqDiff, Nat.reduceLT, Nat.reduceSub, Nat.reduceBEq, forall_const, reduceCtorEq, implies_true, exists_eq_left', exists_eq_left, if_true, if_false, undef]
  by_cases q1 : ys.length > 8
  · have f3 : decide ((ys.length : Int) > 8) = true := by simp; omega
    have he : clErr vars ⟨ys, ns⟩ = 1 := by rw [clErr, if_pos (.inl q1)]
    rw [hat (by rw [he]; decide), he]
    simp (maxSteps := 1000000) only [f3, encCl, XX, reduceIte, ↓reduceIte, Nat.reduceAdd, Nat.reduceLeDiff, Nat.reduceEqDiff, Nat.reduceLT, Nat.reduceSub, Nat.reduceBEq, forall_const, reduceCtorEq, implies_true, exists_eq_left', exists_eq_left, if_true, if_false, undef]
  have f3 : decide ((ys.length : Int) > 8) = false := by simp; omega
  by_cases q2 : ns.length > 8
  · have f4 : decide ((ns.length : Int) > 8) = true := by simp; omega
    have he : clErr vars ⟨ys, ns⟩ = 1 := by rw [clErr, if_pos (.inr q2)]
    rw [hat (by rw [he]; decide), he]
    simp (maxSteps := 1000000) only [f3, f4, hnl, encCl, XX, reduceIte, ↓reduceIte, Nat.reduceAdd, Nat.reduceLeDiff, Nat.reduceEqDiff, Nat.reduceLT, Nat.reduceSub, Nat.reduceBEq, forall_const, reduceCtorEq, implies_true, exists_eq_left', exists_eq_left, if_true, if_false, undef]
  have f4 : decide ((ns.length : Int) > 8) = false := by simp; omega
  simp (maxSteps := 1000000) only [f3, f4, hnl, encCl, XX, reduceIte, ↓reduceIte, Nat.reduceAdd, Nat.reduceLeDiff, Nat.reduceEqDiff, Nat.reduceLT, Nat.reduceSub, Nat.reduceBEq, forall_const, reduceCtorEq, implies_true, exists_eq_left', exists_eq_left, if_true, if_false, undef]
  refine callF (CallsA.args (areVarsP_spec vars ys hcy) (by simp [encCl, XX, undef])) rfl (by simp [flat, encCl, XX, undef]) ?_
  cases q3 : insB vars ys with
  | false =>
    have he : clErr vars ⟨ys, ns⟩ = 2 := by simp only [clErr]; rw [if_neg (by omega), if_pos (.inl q3)]
    rw [hat (by rw [he]; decide), he]
    simp (maxSteps := 1000000) only [Bo, Bool.not_false, encCl, XX, reduceIte, ↓reduceIte, Nat.reduceAdd, Nat.reduceLeDiff, Nat.reduceEqDiff, Nat.reduceLT, Nat.reduceSub, Nat.reduceBEq, forall_const, reduceCtorEq, implies_true, exists_eq_left', exists_eq_left, if_true, if_false, undef]
  | true =>
    simp (maxSteps := 1000000) only [Bo, Bool.not_true, encCl, XX, reduceIte, ↓reduceIte, Nat.reduceAdd, Nat.reduceLeDiff, Nat.reduceEqDiff, Nat.reduceLT, Nat.reduceSub, Nat.reduceBEq, forall_const, reduceCtorEq, implies_true, exists_eq_left', exists_eq_left, if_true, if_false, undef]
    refine callF (CallsA.args (areVarsP_spec vars ns hcn) (by simp [encCl, XX, undef])) rfl (by simp [flat, encCl, XX, undef]) ?_
    cases q4 : insB vars ns with
    | false =>
      have he : clErr vars ⟨ys, ns⟩ = 2 := by simp only [clErr]; rw [if_neg (by omega), if_pos (.inr q4)]
      rw [hat (by rw [he]; decide), he]
      simp (maxSteps := 1000000) only [Bo, Bool.not_false, encCl, XX, reduceIte, ↓reduceIte, Nat.reduceAdd, Nat.reduceLeDiff, Nat.reduceEqDiff, Nat.reduceLT, Nat.reduceSub, Nat.reduceBEq, forall_const, reduceCtorEq, implies_true, exists_eq_left', exists_eq_left, if_true, if_false, undef]
    | true =>
      have he : clErr vars ⟨ys, ns⟩ = 0 := by simp only [clErr]; rw [if_neg (by omega), if_neg (by simp [q3, q4])]
      simp (maxSteps := 1000000) only [hw, Bo, Bool.not_true, encCl, XX, reduceIte, ↓reduceIte, Nat.reduceAdd, Nat.reduceLeDiff, Nat.reduceEqDiff, Nat.reduceLT, Nat.reduceSub, Nat.reduceBEq, forall_const, reduceCtorEq, implies_true, exists_eq_left', exists_eq_left, if_true, if_false, undef]
      exact ⟨k + 1, ⟨by omega, htk he⟩, by omega, by simp [Back, BackF, fzT, fzM, fzU, fz, fzL, fzO, kin, SubT, Sub, SubL, SubM, SubO, keepM, srcOk, look, lookM, ev, evs, putT, argT, encCl, XX, undef]⟩

theorem holdsP_spec (c : Cl) (v : List Bool) (h : ClOk v.length c) (hv : (v.length : Int) < 2 ^ 63) : CallsA Try.prog 30 [encCl c, .ro 1 (v.map Bo)] (Bo (clT v c)) [] := by
  obtain ⟨ys, ns⟩ := c
  obtain ⟨h1, h2, h3, h4⟩ := h
  simp only at h1 h2 h3 h4
  refine fn_of0 comp30 (by simp) ?_
  unfold code30
  have hyl : ((ys.map I).length : Int) = ys.length := by simp
  have hnl : ((ns.map I).length : Int) = ns.length := by simp
  simp (maxSteps := 1000000) only [encCl, splice, AV.cells, hyl, encCl, XX, reduceIte, ↓reduceIte, Nat.reduceAdd, Nat.reduceLeDiff, Nat.reduceEqDiff, Nat.reduceLT, Nat.reduceSub, Nat.reduceBEq, forall_const, reduceCtorEq, implies_true, exists_eq_left', exists_eq_left, if_true, if_false, undef]
  refine loop0 Nat [12] (fun k => [IN k]) (fun k => k ≤ ys.length ∧ (ys.take k).any (litT v) = false) (fun k => ys.length - k) (by decide) 0 (by simp) (by simp [Back, BackF, fzT, fzM, fzU, fz, fzL, fzO, kin, SubT, Sub, SubL, SubM, SubO, keepM, srcOk, look, lookM, ev, evs, putT, argT, encCl, XX, undef]) ?_
  rintro k ⟨hk, hz⟩
  by_cases c1 : k < ys.length
  · have g1 : decide ((k : Int) < (ys.length : Int)) = true := by simp [c1]
    have hw : IntKind.i64.wrap ((k : Int) + 1) = ((k + 1 : Nat) : Int) := by rw [wrap_id] <;> omega
    have hr := h3 _ (List.getElem_mem c1)
    have hat := any_at (p := litT v) c1
    have htk := any_take_false c1 hz
    simp (maxSteps := 1000000) only [hyl, g1, encCl, XX, reduceIte, ↓reduceIte, Nat.reduceAdd, Nat.reduceLeDiff, Nat.reduceEqDiff, Nat.reduceLT, Nat.reduceSub, Nat.reduceBEq, forall_const, reduceCtorEq, implies_true, exists_eq_left', exists_eq_left, if_true, if_false, undef]
    refine ⟨by omega, pickM c1 ?_⟩
    generalize ys[k] = i at *
    simp (maxSteps := 1000000) only [encCl, XX, reduceIte, ↓reduceIte, Nat.reduceAdd, Nat.reduceLeDiff, Nat.reduceEqDiff, Nat.reduceLT, Nat.reduceSub, Nat.reduceBEq, forall_const, reduceCtorEq, implies_true, exists_eq_left', exists_eq_left, if_true, if_false, undef]
    refine ⟨hr.1, litPick hr ?_⟩
    cases hb : litT v i with
    | true =>
      have he : clT v ⟨ys, ns⟩ = true := by rw [clT]; simp only; rw [hat hb]; rfl
      rw [he]
      simp (maxSteps := 1000000) only [Bo, encCl, XX, reduceIte, ↓reduceIte, Nat.reduceAdd, Nat.reduceLeDiff, Nat.reduceEqDiff, Nat.reduceLT, Nat.reduceSub, Nat.reduceBEq, forall_const, reduceCtorEq, implies_true, exists_eq_left', exists_eq_left, if_true, if_false, undef]
    | false =>
      simp (maxSteps := 1000000) only [hw, Bo, encCl, XX, reduceIte, ↓reduceIte, Nat.reduceAdd, Nat.reduceLeDiff, Nat.reduceEqDiff, Nat.reduceLT, Nat.reduceSub, Nat.reduceBEq, forall_const, reduceCtorEq, implies_true, exists_eq_left', exists_eq_left, if_true, if_false, undef]
      exact ⟨k + 1, ⟨by omega, htk hb⟩, by omega, by simp [Back, BackF, fzT, fzM, fzU, fz, fzL, fzO, kin, SubT, Sub, SubL, SubM, SubO, keepM, srcOk, look, lookM, ev, evs, putT, argT, encCl, XX, undef]⟩
  have g1 : decide ((k : Int) < (ys.length : Int)) = false := by simp; omega
  obtain rfl : k = ys.length := by omega
  rw [List.take_length] at hz
  simp (maxSteps := 1000000) only [hyl, hnl, g1, encCl, XX, reduceIte, ↓reduceIte, Nat.reduceAdd, Nat.reduceLeDiff, Nat.reduceEqDiff, Nat.reduceLT, Nat.reduceSub, Nat.reduceBEq, forall_const, reduceCtorEq, implies_true, exists_eq_left', exists_eq_left, if_true, if_false, undef]
  refine loop0 Nat [24] (fun k => [IN k]) (fun k => k ≤ ns.length ∧ (ns.take k).any (fun i => !(litT v i)) = false) (fun k => ns.length - k) (by decide) 0 (by simp) (by simp [Back, BackF, fzT, fzM, fzU, fz, fzL, fzO, kin, SubT, Sub, SubL, SubM, SubO, keepM, srcOk, look, lookM, ev, evs, putT, argT, encCl, XX, undef]) ?_
  rintro k ⟨hk, hy⟩
  by_cases c1 : k < ns.length
  · have g1 : decide ((k : Int) < (ns.length : Int)) = true := by simp [c1]
    have hw : IntKind.i64.wrap ((k : Int) + 1) = ((k + 1 : Nat) : Int) := by rw [wrap_id] <;> omega
    have hr := h4 _ (List.getElem_mem c1)
    have hat := any_at (p := fun i => !(litT v i)) c1
    have htk := any_take_false c1 hy
    simp (maxSteps := 1000000) only [hnl, g1, encCl, XX, reduceIte, ↓reduceIte, Nat.reduceAdd, Nat.reduceLeDiff, Nat.reduceEqDiff, Nat.reduceLT, Nat.reduceSub, Nat.reduceBEq, forall_const, reduceCtorEq, implies_true, exists_eq_left', exists_eq_left, if_true, if_false, undef]
    refine ⟨by omega, pickM c1 ?_⟩
    generalize ns[k] = i at *
    simp (maxSteps := 1000000) only [encCl, XX, reduceIte, ↓reduceIte, Nat.reduceAdd, Nat.reduceLeDiff, Nat.reduceEqDiff, Nat.reduceLT, Nat.reduceSub, Nat.reduceBEq, forall_const, reduceCtorEq, implies_true, exists_eq_left', exists_eq_left, if_true, if_false, undef]
    refine ⟨hr.1, litPick hr ?_⟩
    cases hb : litT v i with
    | false =>
      have he : clT v ⟨ys, ns⟩ = true := by rw [clT]; simp only; rw [hat (by simp [hb]), Bool.or_true]
      rw [he]
      simp (maxSteps := 1000000) only [Bo, Bool.not_false, encCl, XX, reduceIte, ↓reduceIte, Nat.reduceAdd, Nat.reduceLeDiff, Nat.reduceEqDiff, Nat.reduceLT, Nat.reduceSub, Nat.reduceBEq, forall_const, reduceCtorEq, implies_true, exists_eq_left', exists_eq_left, if_true, if_false, undef]
    | true =>
      simp (maxSteps := 1000000) only [hw, Bo, Bool.not_true, encCl, XX, reduceIte, ↓reduceIte, Nat.reduceAdd, Nat.reduceLeDiff, Nat.reduceEqDiff, Nat.reduceLT, Nat.reduceSub, Nat.reduceBEq, forall_const, reduceCtorEq, implies_true, exists_eq_left', exists_eq_left, if_true, if_false, undef]
      exact ⟨k + 1, ⟨by omega, htk (by simp [hb])⟩, by omega, by simp [Back, BackF, fzT, fzM, fzU, fz, fzL, fzO, kin, SubT, Sub, SubL, SubM, SubO, keepM, srcOk, look, lookM, ev, evs, putT, argT, encCl, XX, undef]⟩
  have g1 : decide ((k : Int) < (ns.length : Int)) = false := by simp; omega
  obtain rfl : k = ns.length := by omega
  rw [List.take_length] at hy
  have he : clT v ⟨ys, ns⟩ = false := by rw [clT]; simp only; rw [hz, hy]; rfl
  rw [he]
  simp (maxSteps := 1000000) only [hnl, g1, Bo, encCl, XX, reduceIte, ↓reduceIte, Nat.reduceAdd, Nat.reduceLeDiff, Nat.reduceEqDiff, Nat.reduceLT, Nat.reduceSub, Nat.reduceBEq, forall_const, reduceCtorEq, implies_true, exists_eq_left', exists_eq_left, if_true, if_false, undef]

theorem allHoldP_spec (l : List Cl) (v : List Bool) (h : ClsOk v.length l) (hv : (v.length : Int) < 2 ^ 63) (hl : l.length ≤ 100000) : CallsA Try.prog 22 [.ro 2 (l.map encCl), .ro 1 (v.map Bo)] (Bo (allT l v)) [] := by
  refine fn_of0 comp22 (by simp) ?_
  unfold code22
  have hll : ((l.map encCl).length : Int) = l.length := by simp
  simp (maxSteps := 1000000) only [hll, encCl, XX, reduceIte, ↓reduceIte, Nat.reduceAdd, Nat.reduceLeDiff, Nat.reduceEqDiff, Nat.reduceLT, Nat.reduceSub, Nat.reduceBEq, forall_const, reduceCtorEq, implies_true, exists_eq_left', exists_eq_left, if_true, if_false, undef]
  refine loop0 Nat [9] (fun k => [IN k]) (fun k => k ≤ l.length ∧ (l.take k).all (clT v) = true) (fun k => l.length - k) (by decide) 0 (by simp) (by simp [Back, BackF, fzT, fzM, fzU, fz, fzL, fzO, kin, SubT, Sub, SubL, SubM, SubO, keepM, srcOk, look, lookM, ev, evs, putT, argT, encCl, XX, undef]) ?_
  rintro k ⟨hk, hz⟩
  by_cases c1 : k < l.length
  · have g1 : decide ((k : Int) < (l.length : Int)) = true := by simp [c1]
    have hw : IntKind.i64.wrap ((k : Int) + 1) = ((k + 1 : Nat) : Int) := by rw [wrap_id] <;> omega
    have hct := holdsP_spec l[k] v (h _ (List.getElem_mem c1)) hv
    have hno := all_no (p := clT v) c1
    have htk := all_take c1 hz
    simp (maxSteps := 1000000) only [hll, g1, encCl, XX, reduceIte, ↓reduceIte, Nat.reduceAdd, Nat.reduceLeDiff, Nat.reduceEqDiff, Nat.reduceLT, Nat.reduceSub, Nat.reduceBEq, forall_const, reduceCtorEq, implies_true, exists_eq_left', exists_eq_left, if_true, if_false, undef]
    refine ⟨by omega, pickM c1 ?_⟩
    generalize l[k] = c at *
    simp (maxSteps := 1000000) only [encCl, splice, AV.cells, encCl, XX, reduceIte, ↓reduceIte, Nat.reduceAdd, Nat.reduceLeDiff, Nat.reduceEqDiff, Nat.reduceLT, Nat.reduceSub, Nat.reduceBEq, forall_const, reduceCtorEq, implies_true, exists_eq_left', exists_eq_left, if_true, if_false, undef]
    refine callF (CallsA.args (hct ) (by simp [ encCl,encCl, XX, undef])) rfl (by simp [flat, encCl, XX, undef]) ?_
    cases hb : clT v c with
    | false =>
      rw [allT, hno hb]
      simp (maxSteps := 1000000) only [Bo, Bool.not_false, encCl, XX, reduceIte, ↓reduceIte, Nat.reduceAdd, Nat.reduceLeDiff, Nat.reduceEqDiff, Nat.reduceLT, Nat.reduceSub, Nat.reduceBEq, forall_const, reduceCtorEq, implies_true, exists_eq_left', exists_eq_left, if_true, if_false, undef]
    | true =>
      simp (maxSteps := 1000000) only [hw, Bo, Bool.not_true, encCl, XX, reduceIte, ↓reduceIte, Nat.reduceAdd, Nat.reduceLeDiff, Nat.reduceEqDiff, Nat.reduceLT, Nat.reduceSub, Nat.reduceBEq, forall_const, reduceCtorEq, implies_true, exists_eq_left', exists_eq_left, if_true, if_false, undef]
      exact ⟨k + 1, ⟨by omega, htk hb⟩, by omega, by simp [Back, BackF, fzT, fzM, fzU, fz, fzL, fzO, kin, SubT, Sub, SubL, SubM, SubO, keepM, srcOk, look, lookM, ev, evs, putT, argT, encCl, XX, undef]⟩
  have g1 : decide ((k : Int) < (l.length : Int)) = false := by simp; omega
  obtain rfl : k = l.length := by omega
  rw [List.take_length] at hz
  rw [allT, hz]
  simp (maxSteps := 1000000) only [hll, g1, Bo, encCl, XX, reduceIte, ↓reduceIte, Nat.reduceAdd, Nat.reduceLeDiff, Nat.reduceEqDiff, Nat.reduceLT, Nat.reduceSub, Nat.reduceBEq, forall_const, reduceCtorEq, implies_true, exists_eq_left', exists_eq_left, if_true, if_false, undef]

theorem nameTrueP_spec (vars : Int) (l : List Cl) (v : List Bool) (hl : ClLen l) (hv : (v.length : Int) < 2 ^ 63) : CallsA Try.prog 8 [I vars, .ro 2 (l.map encCl), .ro 1 (v.map Bo)] (trueAns vars l v) [] := by
  refine fn_of0 comp8 (by simp) ?_
  unfold code8
  have hvl : ((v.map Bo).length : Int) = v.length := by simp
  simp (maxSteps := 1000000) only [hvl, encCl, XX, reduceIte, ↓reduceIte, Nat.reduceAdd, Nat.reduceLeDiff, Nat.reduceEqDiff, Nat.reduceLT, Nat.reduceSub, Nat.reduceBEq, forall_const, reduceCtorEq, implies_true, exists_eq_left', exists_eq_left, if_true, if_false, undef]
  refine callF (CallsA.args (nameCheckP_spec vars 200 l hl) (by simp [encCl, XX, undef])) rfl (by simp [flat, encCl, XX, undef]) ?_
  by_cases h0 : clausesErr vars 200 l = 0
  rotate_left
  · have f : (clausesErr vars 200 l != 0) = true := by simpa using h0
    rw [trueAns, if_pos h0]
    simp (maxSteps := 1000000) only [f, Bo, encCl, XX, reduceIte, ↓reduceIte, Nat.reduceAdd, Nat.reduceLeDiff, Nat.reduceEqDiff, Nat.reduceLT, Nat.reduceSub, Nat.reduceBEq, forall_const, reduceCtorEq, implies_true, exists_eq_left', exists_eq_left, if_true, if_false, undef]
  have f : ((0 : Int) != 0) = false := by decide
  rw [trueAns, if_neg (by simpa using h0), h0]
  obtain ⟨hb, h200, hok⟩ := clauses_ok h0
  by_cases h1 : (v.length : Int) = vars
  rotate_left
  · have g : ((v.length : Int) != vars) = true := by simpa using h1
    rw [if_pos h1]
    simp (maxSteps := 1000000) only [f, g, hvl, Bo, encCl, XX, reduceIte, ↓reduceIte, Nat.reduceAdd, Nat.reduceLeDiff, Nat.reduceEqDiff, Nat.reduceLT, Nat.reduceSub, Nat.reduceBEq, forall_const, reduceCtorEq, implies_true, exists_eq_left', exists_eq_left, if_true, if_false, undef]
  have g : ((v.length : Int) != vars) = false := by simpa using h1
  rw [if_neg (by simpa using h1)]
  simp (maxSteps := 1000000) only [f, g, hvl, Bo, encCl, XX, reduceIte, ↓reduceIte, Nat.reduceAdd, Nat.reduceLeDiff, Nat.reduceEqDiff, Nat.reduceLT, Nat.reduceSub, Nat.reduceBEq, forall_const, reduceCtorEq, implies_true, exists_eq_left', exists_eq_left, if_true, if_false, undef]
  refine callF (CallsA.args (allHoldP_spec l v (by rw [show v.length = vars.toNat by omega]; exact hok) hv (by omega)) (by simp [encCl, XX, undef])) rfl (by simp [flat, encCl, XX, undef]) ?_
  simp (maxSteps := 1000000) only [Bo, encCl, XX, reduceIte, ↓reduceIte, Nat.reduceAdd, Nat.reduceLeDiff, Nat.reduceEqDiff, Nat.reduceLT, Nat.reduceSub, Nat.reduceBEq, forall_const, reduceCtorEq, implies_true, exists_eq_left', exists_eq_left, if_true, if_false, undef]

theorem bits_fill {n w k : Nat} (h : List Bool) (hl : h.length = n) (hk : k < n) (ht : h.take k = (bitsL n w).take k) : (h.set k (w.testBit k)).take (k + 1) = (bitsL n w).take (k + 1) := by
  rw [List.take_add_one, List.take_add_one, List.take_set_of_le (Nat.le_refl k), ht, List.getElem?_set_self (by omega), bitsL, List.getElem?_map, List.getElem?_range hk]
  rfl
theorem shr_bit {w i : Nat} (hi : i < 62) : Int.fdiv (w : Int) (2 ^ min ((i : Int)).toNat IntKind.i64.bits) = ((w / 2 ^ i : Nat) : Int) := by
  have hb : IntKind.i64.bits = 64 := rfl
  rw [hb, Int.toNat_natCast, Nat.min_eq_left (by omega), show (2 : Int) ^ i = ((2 ^ i : Nat) : Int) by simp, Int.fdiv_eq_ediv_of_nonneg _ (Int.natCast_nonneg _)]
  rfl
theorem nameManyP_spec (vars : Int) (l : List Cl) (hl : ClLen l) : CallsA Try.prog 11 [I vars, .ro 2 (l.map encCl)] (manyAns vars l) [] := by
  refine fn_of0 comp11 (by simp) ?_
  unfold code11
  simp (maxSteps := 1000000) only [encCl, XX, reduceIte, ↓reduceIte, Nat.reduceAdd, Nat.reduceLeDiff, Nat.reduceEqDiff, Nat.reduceLT, Nat.reduceSub, Nat.reduceBEq, forall_const, reduceCtorEq, implies_true, exists_eq_left', exists_eq_left, if_true, if_false, undef]
  refine callF (CallsA.args (nameCheckP_spec vars 8 l hl) (by simp [encCl, XX, undef])) rfl (by simp [flat, encCl, XX, undef]) ?_
  by_cases h0 : clausesErr vars 8 l = 0
  rotate_left
  · have f : (clausesErr vars 8 l != 0) = true := by simpa using h0
    rw [manyAns, if_pos h0]
    simp (maxSteps := 1000000) only [f, Bo, encCl, XX, reduceIte, ↓reduceIte, Nat.reduceAdd, Nat.reduceLeDiff, Nat.reduceEqDiff, Nat.reduceLT, Nat.reduceSub, Nat.reduceBEq, forall_const, reduceCtorEq, implies_true, exists_eq_left', exists_eq_left, if_true, if_false, undef]
  have f : ((0 : Int) != 0) = false := by decide
  rw [manyAns, if_neg (by simpa using h0), h0]
  obtain ⟨hb, h200, hok⟩ := clauses_ok h0
  obtain ⟨n, rfl⟩ : ∃ n : Nat, vars = n := ⟨vars.toNat, by omega⟩
  rw [Int.toNat_natCast] at hok ⊢
  have hn : n ≤ 8 := by omega
  have hsh := shl_one (show n < 62 by omega)
  have hp5 : 2 ^ n ≤ 2 ^ 8 := Nat.pow_le_pow_right (by decide) hn
  have hp5' : 2 ^ n ≤ 256 := hp5
  simp (maxSteps := 1000000) only [f, hsh, encCl, XX, reduceIte, ↓reduceIte, Nat.reduceAdd, Nat.reduceLeDiff, Nat.reduceEqDiff, Nat.reduceLT, Nat.reduceSub, Nat.reduceBEq, forall_const, reduceCtorEq, implies_true, exists_eq_left', exists_eq_left, if_true, if_false, undef]
  simp (maxSteps := 1000000) only [Int.toNat_natCast]
  repeat (refine ⟨by omega, ?_⟩)
  refine loopO (Nat × List Bool) [21, 7] (fun s => [IN s.1, IN (sumR (fun w => (allT l (bitsL n w)).toNat) s.1)]) (fun s => [(10, some (.arr 1 (s.2.map Bo)))])
    (fun s => s.1 ≤ 2 ^ n ∧ s.2.length = n) (fun s => 2 ^ n - s.1) (by decide) (0, List.replicate n false) ⟨by simp, by simp⟩ (by simp [Back, BackF, fzT, fzM, fzU, fz, fzL, fzO, kin, SubT, Sub, SubL, SubM, SubO, keepM, srcOk, look, lookM, ev, evs, putT, argT, encCl, XX, undef, sumR, Bo]) ?_
  rintro ⟨w, h⟩ ⟨hw, hhl⟩
  simp only at hw hhl
  by_cases c2 : w < 2 ^ n
  rotate_left
  · have c : decide ((w : Int) < ((2 ^ n : Nat) : Int)) = false := decide_eq_false (fun h => c2 (Int.ofNat_lt.1 h))
    obtain rfl : w = 2 ^ n := by omega
    simp (maxSteps := 1000000) only [c, manyN, encCl, XX, reduceIte, ↓reduceIte, Nat.reduceAdd, Nat.reduceLeDiff, Nat.reduceEqDiff, Nat.reduceLT, Nat.reduceSub, Nat.reduceBEq, forall_const, reduceCtorEq, implies_true, exists_eq_left', exists_eq_left, if_true, if_false, undef]
  have c : decide ((w : Int) < ((2 ^ n : Nat) : Int)) = true := decide_eq_true (Int.ofNat_lt.2 c2)
  have hww : IntKind.i64.wrap ((w : Int) + 1) = ((w + 1 : Nat) : Int) := by rw [wrap_id] <;> omega
  have hs1 : sumR (fun w => (allT l (bitsL n w)).toNat) (w + 1) = sumR (fun w => (allT l (bitsL n w)).toNat) w + (allT l (bitsL n w)).toNat := rfl
  have hle : sumR (fun w => (allT l (bitsL n w)).toNat) w ≤ w := by
    have : sumR (fun w => (allT l (bitsL n w)).toNat) w ≤ sumR (fun _ => 1) w := sumR_le (fun k _ => by cases allT l (bitsL n k) <;> simp)
    rwa [sumR_const, Nat.mul_one] at this
  have htr := allHoldP_spec l (bitsL n w) (by rw [bitsL_length]; exact hok) (by rw [bitsL_length]; omega) (by omega)
  simp (maxSteps := 1000000) only [c, encCl, XX, reduceIte, ↓reduceIte, Nat.reduceAdd, Nat.reduceLeDiff, Nat.reduceEqDiff, Nat.reduceLT, Nat.reduceSub, Nat.reduceBEq, forall_const, reduceCtorEq, implies_true, exists_eq_left', exists_eq_left, if_true, if_false, undef]
  refine loopO (Nat × List Bool) [26] (fun s => [IN s.1]) (fun s => [(10, some (.arr 1 (s.2.map Bo)))])
    (fun s => s.1 ≤ n ∧ s.2.length = n ∧ s.2.take s.1 = (bitsL n w).take s.1) (fun s => n - s.1) (by decide) (0, h) ⟨by simp, hhl, by simp⟩ (by simp [Back, BackF, fzT, fzM, fzU, fz, fzL, fzO, kin, SubT, Sub, SubL, SubM, SubO, keepM, srcOk, look, lookM, ev, evs, putT, argT, encCl, XX, undef]) ?_
  rintro ⟨k, h'⟩ ⟨hk, hh', htk⟩
  simp only at hk hh' htk
  by_cases c3 : k < n
  · have g1 : decide ((k : Int) < (n : Int)) = true := by simp [c3]
    have hkw : IntKind.i64.wrap ((k : Int) + 1) = ((k + 1 : Nat) : Int) := by rw [wrap_id] <;> omega
    have e1 := shr_bit (w := w) (i := k) (by omega)
    have hle : w / 2 ^ k ≤ w := Nat.div_le_self _ _
    have e2 := and_bit (w := w / 2 ^ k) (i := 0) (by omega) (by omega)
    have e3 : (((w / 2 ^ k &&& 2 ^ 0 : Nat) : Int) == 1) = w.testBit k := by
      rw [show (2 : Nat) ^ 0 = 1 from rfl, Nat.and_one_is_mod, Nat.testBit_eq_decide_div_mod_eq]
      generalize w / 2 ^ k = y
      rcases Nat.mod_two_eq_zero_or_one y with h | h <;> rw [h] <;> rfl
    rw [show ((2 ^ 0 : Nat) : Int) = 1 from rfl] at e2
    have eb : (IntKind.i64.wrap ((BitVec.ofInt IntKind.i64.bits (Int.fdiv (w : Int) (2 ^ min ((k : Int)).toNat IntKind.i64.bits)) &&& BitVec.ofInt IntKind.i64.bits 1).toNat : Int) == 1) = w.testBit k := by rw [e1, e2, e3]
    have hml : (h'.map Bo).length = n := by simp [hh']
    simp (maxSteps := 1000000) only [g1, eb, hml, hkw, encCl, XX, reduceIte, ↓reduceIte, Nat.reduceAdd, Nat.reduceLeDiff, Nat.reduceEqDiff, Nat.reduceLT, Nat.reduceSub, Nat.reduceBEq, forall_const, reduceCtorEq, implies_true, exists_eq_left', exists_eq_left, if_true, if_false, undef]
    repeat (refine ⟨by omega, ?_⟩)
    exact ⟨(k + 1, h'.set k (w.testBit k)), ⟨by simp only; omega, by simp [hh'], bits_fill h' hh' c3 htk⟩, by simp only; omega, by simp [Back, BackF, fzT, fzM, fzU, fz, fzL, fzO, kin, SubT, Sub, SubL, SubM, SubO, keepM, srcOk, look, lookM, ev, evs, putT, argT, encCl, XX, undef, List.map_set, Bo]⟩
  have g1 : decide ((k : Int) < (n : Int)) = false := by simp; omega
  obtain rfl : k = n := by omega
  rw [List.take_of_length_le (by omega), List.take_of_length_le (by rw [bitsL_length]; omega)] at htk
  subst htk
  have hml : ((bitsL k w).map Bo).length = k := by simp [bitsL_length]
  simp (maxSteps := 1000000) only [g1, encCl, XX, reduceIte, ↓reduceIte, Nat.reduceAdd, Nat.reduceLeDiff, Nat.reduceEqDiff, Nat.reduceLT, Nat.reduceSub, Nat.reduceBEq, forall_const, reduceCtorEq, implies_true, exists_eq_left', exists_eq_left, if_true, if_false, undef]
  refine callF (CallsA.args (htr ) (by simp [ List.take_of_length_le (Nat.le_of_eq hml),encCl, XX, undef])) rfl (by simp [flat, encCl, XX, undef]) ?_
  cases hbb : allT l (bitsL k w) with
  | false =>
    rw [hbb, Bool.toNat_false, Nat.add_zero] at hs1
    simp (maxSteps := 1000000) only [hww, Bo, encCl, XX, reduceIte, ↓reduceIte, Nat.reduceAdd, Nat.reduceLeDiff, Nat.reduceEqDiff, Nat.reduceLT, Nat.reduceSub, Nat.reduceBEq, forall_const, reduceCtorEq, implies_true, exists_eq_left', exists_eq_left, if_true, if_false, undef]
    exact ⟨(w + 1, bitsL k w), ⟨by simp only; omega, by simp [bitsL_length]⟩, by simp only; omega, by rw [hs1]; simp [Back, BackF, fzT, fzM, fzU, fz, fzL, fzO, kin, SubT, Sub, SubL, SubM, SubO, keepM, srcOk, look, lookM, ev, evs, putT, argT, encCl, XX, reduceIte, ↓reduceIte, Nat.reduceAdd, Nat.reduceLeDiff, Nat.reduceEqDiff, Nat.reduceLT, Nat.reduceSub, Nat.reduceBEq, forall_const, reduceCtorEq, implies_true, exists_eq_left', exists_eq_left, if_true, if_false, undef, Bo]⟩
  | true =>
    rw [hbb, Bool.toNat_true] at hs1
    have w2 : IntKind.i64.wrap ((sumR (fun w => (allT l (bitsL k w)).toNat) w : Int) + 1) = ((sumR (fun w => (allT l (bitsL k w)).toNat) w + 1 : Nat) : Int) := by rw [wrap_id] <;> omega
    simp (maxSteps := 1000000) only [hww, w2, Bo, encCl, XX, reduceIte, ↓reduceIte, Nat.reduceAdd, Nat.reduceLeDiff, Nat.reduceEqDiff, Nat.reduceLT, Nat.reduceSub, Nat.reduceBEq, forall_const, reduceCtorEq, implies_true, exists_eq_left', exists_eq_left, if_true, if_false, undef]
    exact ⟨(w + 1, bitsL k w), ⟨by simp only; omega, by simp [bitsL_length]⟩, by simp only; omega, by rw [hs1]; simp [Back, BackF, fzT, fzM, fzU, fz, fzL, fzO, kin, SubT, Sub, SubL, SubM, SubO, keepM, srcOk, look, lookM, ev, evs, putT, argT, encCl, XX, reduceIte, ↓reduceIte, Nat.reduceAdd, Nat.reduceLeDiff, Nat.reduceEqDiff, Nat.reduceLT, Nat.reduceSub, Nat.reduceBEq, forall_const, reduceCtorEq, implies_true, exists_eq_left', exists_eq_left, if_true, if_false, undef, Bo]⟩

end Go.Av
