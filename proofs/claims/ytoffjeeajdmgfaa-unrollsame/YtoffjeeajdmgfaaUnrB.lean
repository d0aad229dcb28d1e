/- Machines on few cells: the program's check and Ask. -/
import Derived.Test.YtoffjeeajdmgfaaUnrA
set_option linter.unusedSimpArgs false
set_option linter.unusedVariables false
set_option maxRecDepth 100000
namespace Go.Av
open Go.Proofs

theorem ucheck_spec (M : Mach) (cells steps : Int) : CallsA Try.prog 30 [encM M, I cells, I steps] (I (unrollErr M cells steps)) [] := by
  refine fn_of0 comp30 (by simp) ?_
  unfold code30
  simp (maxSteps := 1000000) only [encM, encR, encRow, encM, encG, encN, XX, reduceIte, ↓reduceIte, Nat.reduceAdd, Nat.reduceLeDiff, Nat.reduceEqDiff, Nat.reduceLT, Nat.reduceSub, Nat.reduceBEq, forall_const, reduceCtorEq, implies_true, exists_eq_left', exists_eq_left, if_true, if_false, undef]
  refine callF (CallsA.args (check_spec M ) (by simp [ encM,encR, encRow, encM, encG, encN, XX, undef])) rfl (by simp [flat, encR, encRow, encM, encG, encN, XX, undef]) ?_
  by_cases h0 : machErr M = 0
  rotate_left
  · have f : (machErr M != 0) = true := by simpa using h0
    rw [unrollErr, if_pos h0]
    simp (maxSteps := 1000000) only [f, encR, encRow, encM, encG, encN, XX, reduceIte, ↓reduceIte, Nat.reduceAdd, Nat.reduceLeDiff, Nat.reduceEqDiff, Nat.reduceLT, Nat.reduceSub, Nat.reduceBEq, forall_const, reduceCtorEq, implies_true, exists_eq_left', exists_eq_left, if_true, if_false, undef]
  have f0 : (machErr M != 0) = false := by simpa using h0
  have hg2 := (mach_ok h0).g2
  rw [unrollErr, if_neg (by simpa using h0)]
  simp (maxSteps := 1000000) only [f0, encR, encRow, encM, encG, encN, XX, reduceIte, ↓reduceIte, Nat.reduceAdd, Nat.reduceLeDiff, Nat.reduceEqDiff, Nat.reduceLT, Nat.reduceSub, Nat.reduceBEq, forall_const, reduceCtorEq, implies_true, exists_eq_left', exists_eq_left, if_true, if_false, undef]
  by_cases h1 : M.signs > 2
  · have f : decide (M.signs > 2) = true := by simpa using h1
    rw [if_pos (.inl (by omega))]
    simp (maxSteps := 1000000) only [f, encR, encRow, encM, encG, encN, XX, reduceIte, ↓reduceIte, Nat.reduceAdd, Nat.reduceLeDiff, Nat.reduceEqDiff, Nat.reduceLT, Nat.reduceSub, Nat.reduceBEq, forall_const, reduceCtorEq, implies_true, exists_eq_left', exists_eq_left, if_true, if_false, undef]
  have f1 : decide (M.signs > 2) = false := by simpa using h1
  by_cases h2 : M.states > 2
  · have f : decide (M.states > 2) = true := by simpa using h2
    rw [if_pos (.inr h2)]
    simp (maxSteps := 1000000) only [f1, f, encR, encRow, encM, encG, encN, XX, reduceIte, ↓reduceIte, Nat.reduceAdd, Nat.reduceLeDiff, Nat.reduceEqDiff, Nat.reduceLT, Nat.reduceSub, Nat.reduceBEq, forall_const, reduceCtorEq, implies_true, exists_eq_left', exists_eq_left, if_true, if_false, undef]
  have f2 : decide (M.states > 2) = false := by simpa using h2
  rw [if_neg (by omega)]
  simp (maxSteps := 1000000) only [f1, f2, encR, encRow, encM, encG, encN, XX, reduceIte, ↓reduceIte, Nat.reduceAdd, Nat.reduceLeDiff, Nat.reduceEqDiff, Nat.reduceLT, Nat.reduceSub, Nat.reduceBEq, forall_const, reduceCtorEq, implies_true, exists_eq_left', exists_eq_left, if_true, if_false, undef]
  by_cases h3 : cells < 1
  · have f : decide (cells < 1) = true := by simpa using h3
    rw [if_pos (by omega)]
    simp (maxSteps := 1000000) only [f, encR, encRow, encM, encG, encN, XX, reduceIte, ↓reduceIte, Nat.reduceAdd, Nat.reduceLeDiff, Nat.reduceEqDiff, Nat.reduceLT, Nat.reduceSub, Nat.reduceBEq, forall_const, reduceCtorEq, implies_true, exists_eq_left', exists_eq_left, if_true, if_false, undef]
  have f3 : decide (cells < 1) = false := by simpa using h3
  by_cases h4 : cells > 5
  · have f : decide (cells > 5) = true := by simpa using h4
    rw [if_pos (by omega)]
    simp (maxSteps := 1000000) only [f3, f, encR, encRow, encM, encG, encN, XX, reduceIte, ↓reduceIte, Nat.reduceAdd, Nat.reduceLeDiff, Nat.reduceEqDiff, Nat.reduceLT, Nat.reduceSub, Nat.reduceBEq, forall_const, reduceCtorEq, implies_true, exists_eq_left', exists_eq_left, if_true, if_false, undef]
  have f4 : decide (cells > 5) = false := by simpa using h4
  rw [if_neg (by omega)]
  simp (maxSteps := 1000000) only [f3, f4, encR, encRow, encM, encG, encN, XX, reduceIte, ↓reduceIte, Nat.reduceAdd, Nat.reduceLeDiff, Nat.reduceEqDiff, Nat.reduceLT, Nat.reduceSub, Nat.reduceBEq, forall_const, reduceCtorEq, implies_true, exists_eq_left', exists_eq_left, if_true, if_false, undef]
  by_cases h5 : steps < 0
  · have f : decide (steps < 0) = true := by simpa using h5
    rw [if_pos (by omega)]
    simp (maxSteps := 1000000) only [f, encR, encRow, encM, encG, encN, XX, reduceIte, ↓reduceIte, Nat.reduceAdd, Nat.reduceLeDiff, Nat.reduceEqDiff, Nat.reduceLT, Nat.reduceSub, Nat.reduceBEq, forall_const, reduceCtorEq, implies_true, exists_eq_left', exists_eq_left, if_true, if_false, undef]
  have f5 : decide (steps < 0) = false := by simpa using h5
  by_cases h6 : steps > 6
  · have f : decide (steps > 6) = true := by simpa using h6
    rw [if_pos (by omega)]
    simp (maxSteps := 1000000) only [f5, f, encR, encRow, encM, encG, encN, XX, reduceIte, ↓reduceIte, Nat.reduceAdd, Nat.reduceLeDiff, Nat.reduceEqDiff, Nat.reduceLT, Nat.reduceSub, Nat.reduceBEq, forall_const, reduceCtorEq, implies_true, exists_eq_left', exists_eq_left, if_true, if_false, undef]
  have f6 : decide (steps > 6) = false := by simpa using h6
  rw [if_neg (by omega)]
  simp (maxSteps := 1000000) only [f5, f6, encR, encRow, encM, encG, encN, XX, reduceIte, ↓reduceIte, Nat.reduceAdd, Nat.reduceLeDiff, Nat.reduceEqDiff, Nat.reduceLT, Nat.reduceSub, Nat.reduceBEq, forall_const, reduceCtorEq, implies_true, exists_eq_left', exists_eq_left, if_true, if_false, undef]

theorem uwithin_spec (h : Int) (cells : Nat) (h1 : 1 ≤ cells) (h5 : cells ≤ 100) : CallsA Try.prog 33 [I h, IN cells] (IN (clampN cells h)) [] := by
  have w : IntKind.i64.wrap ((cells : Int) - 1) = (cells : Int) - 1 := by rw [wrap_id] <;> omega
  refine fn_of0 comp33 (by simp) ?_
  unfold code33
  by_cases c1 : h < 0
  · have f1 : decide ((0 : Int) > h) = true := by simpa using c1
    have f2 : decide ((cells : Int) - 1 < 0) = false := by simp; omega
    rw [clampN, if_pos c1]
    simp (maxSteps := 1000000) only [w, f1, f2, Bool.cond_decide, encR, encRow, encM, encG, encN, XX, reduceIte, ↓reduceIte, Nat.reduceAdd, Nat.reduceLeDiff, Nat.reduceEqDiff, Nat.reduceLT, Nat.reduceSub, Nat.reduceBEq, forall_const, reduceCtorEq, implies_true, exists_eq_left', exists_eq_left, if_true, if_false, undef]
    try simp [encR, encRow, encM, encG, encN, XX, reduceIte, ↓reduceIte, Nat.reduceAdd, Nat.reduceLeDiff, Nat.reduceEqDiff, Nat.reduceLT, Nat.reduceSub, Nat.reduceBEq, forall_const, reduceCtorEq, implies_true, exists_eq_left', exists_eq_left, if_true, if_false, undef]
    try omega
  · have f1 : decide ((0 : Int) > h) = false := by simp; omega
    rw [clampN, if_neg c1]
    by_cases c2 : h ≥ cells
    · have f2 : decide ((cells : Int) - 1 < h) = true := by simp; omega
      rw [if_pos c2]
      simp (maxSteps := 1000000) only [w, f1, f2, encR, encRow, encM, encG, encN, XX, reduceIte, ↓reduceIte, Nat.reduceAdd, Nat.reduceLeDiff, Nat.reduceEqDiff, Nat.reduceLT, Nat.reduceSub, Nat.reduceBEq, forall_const, reduceCtorEq, implies_true, exists_eq_left', exists_eq_left, if_true, if_false, undef]
      try simp [encR, encRow, encM, encG, encN, XX, reduceIte, ↓reduceIte, Nat.reduceAdd, Nat.reduceLeDiff, Nat.reduceEqDiff, Nat.reduceLT, Nat.reduceSub, Nat.reduceBEq, forall_const, reduceCtorEq, implies_true, exists_eq_left', exists_eq_left, if_true, if_false, undef]
      try omega
    · have f2 : decide ((cells : Int) - 1 < h) = false := by simp; omega
      rw [if_neg c2]
      simp (maxSteps := 1000000) only [w, f1, f2, encR, encRow, encM, encG, encN, XX, reduceIte, ↓reduceIte, Nat.reduceAdd, Nat.reduceLeDiff, Nat.reduceEqDiff, Nat.reduceLT, Nat.reduceSub, Nat.reduceBEq, forall_const, reduceCtorEq, implies_true, exists_eq_left', exists_eq_left, if_true, if_false, undef]
      try simp [encR, encRow, encM, encG, encN, XX, reduceIte, ↓reduceIte, Nat.reduceAdd, Nat.reduceLeDiff, Nat.reduceEqDiff, Nat.reduceLT, Nat.reduceSub, Nat.reduceBEq, forall_const, reduceCtorEq, implies_true, exists_eq_left', exists_eq_left, if_true, if_false, undef]
      try omega

def sgL (v : List Bool) : List Int := v.map fun b => bif b then 1 else 0
def sgK (v : List Bool) (k : Nat) : List AV := ((sgL v).take k).map I ++ List.replicate (v.length - k) (I 0)
theorem sgK_len {v : List Bool} {k : Nat} (h : k ≤ v.length) : (sgK v k).length = v.length := by simp [sgK, sgL]; omega
theorem sgK_set {v : List Bool} {k : Nat} (h : k < v.length) : ((sgK v k).set k (I (bif v[k] then 1 else 0))) = sgK v (k + 1) := by
  have hl : ((sgL v).take k).length = k := by simp [sgL]; omega
  have hk : k < (sgL v).length := by simpa [sgL] using h
  rw [sgK, List.set_append_right _ _ (by rw [List.length_map, hl]; exact Nat.le_refl _), List.length_map, hl, Nat.sub_self, show v.length - k = (v.length - (k + 1)) + 1 by omega, List.replicate_succ, List.set_cons_zero, sgK, List.take_add_one, List.getElem?_eq_getElem hk, Option.toList_some,
    List.map_append, List.append_assoc]
  simp [sgL]
theorem usigns_spec (v : List Bool) (h : v.length ≤ 100) : CallsA Try.prog 31 [.ro 1 (v.map Bo)] (.ro 1 ((sgL v).map I)) [] := by
  have hll : ((v.map Bo).length : Int) = v.length := by simp
  have hrep : List.replicate ((v.length : Int)).toNat (AV.v (.int .i64 0)) = sgK v 0 := by simp [sgK, I]
  refine fn_of0 comp31 (by simp) ?_
  unfold code31
  simp (maxSteps := 1000000) only [hll, hrep, encR, encRow, encM, encG, encN, XX, reduceIte, ↓reduceIte, Nat.reduceAdd, Nat.reduceLeDiff, Nat.reduceEqDiff, Nat.reduceLT, Nat.reduceSub, Nat.reduceBEq, forall_const, reduceCtorEq, implies_true, exists_eq_left', exists_eq_left, if_true, if_false, undef]
  refine ⟨by omega, by omega, by omega, ?_⟩
  simp (maxSteps := 1000000) only [hll, hrep, encR, encRow, encM, encG, encN, XX, reduceIte, ↓reduceIte, Nat.reduceAdd, Nat.reduceLeDiff, Nat.reduceEqDiff, Nat.reduceLT, Nat.reduceSub, Nat.reduceBEq, forall_const, reduceCtorEq, implies_true, exists_eq_left', exists_eq_left, if_true, if_false, undef]
  refine loopO Nat [11] (fun k => [IN k]) (fun k => [(3, some (.arr 1 (sgK v k)))]) (fun k => k ≤ v.length) (fun k => v.length - k) (by decide) 0 (by simp) (by simp [Back, BackF, fzT, fzM, fzU, fz, fzL, fzO, kin, SubT, Sub, SubL, SubM, SubO, keepM, srcOk, look, lookM, ev, evs, putT, argT, encR, encRow, encM, encG, encN, XX, undef]) ?_
  intro k hk
  have hal := sgK_len hk
  by_cases c1 : k < v.length
  · have g1 : decide ((k : Int) < (v.length : Int)) = true := by simp [c1]
    have hwk : IntKind.i64.wrap ((k : Int) + 1) = ((k + 1 : Nat) : Int) := by rw [wrap_id] <;> omega
    have hset := sgK_set c1
    simp (maxSteps := 1000000) only [g1, encR, encRow, encM, encG, encN, XX, reduceIte, ↓reduceIte, Nat.reduceAdd, Nat.reduceLeDiff, Nat.reduceEqDiff, Nat.reduceLT, Nat.reduceSub, Nat.reduceBEq, forall_const, reduceCtorEq, implies_true, exists_eq_left', exists_eq_left, if_true, if_false, undef]
    refine ⟨by omega, pickM c1 ?_⟩
    have hx := c1
    generalize v[k] = b at *
    cases b with
    | false =>
      have hsame : sgK v (k + 1) = sgK v k := by
        rw [← hset]
        have : (sgK v k)[k]? = some (I 0) := by rw [sgK, List.getElem?_append_right (by simp [sgL]; omega)]; simp [sgL, List.getElem?_replicate]; omega
        obtain ⟨hlt, he⟩ := List.getElem?_eq_some_iff.1 this
        simp only [cond_false]
        rw [← he, List.set_getElem_self]
      simp (maxSteps := 1000000) only [hwk, Bo, encR, encRow, encM, encG, encN, XX, reduceIte, ↓reduceIte, Nat.reduceAdd, Nat.reduceLeDiff, Nat.reduceEqDiff, Nat.reduceLT, Nat.reduceSub, Nat.reduceBEq, forall_const, reduceCtorEq, implies_true, exists_eq_left', exists_eq_left, if_true, if_false, undef]
      exact ⟨k + 1, by omega, by omega, by simp [Back, BackF, fzT, fzM, fzU, fz, fzL, fzO, kin, SubT, Sub, SubL, SubM, SubO, keepM, srcOk, look, lookM, ev, evs, putT, argT, encR, encRow, encM, encG, encN, XX, undef, hsame]⟩
    | true =>
      simp (maxSteps := 1000000) only [hwk, Bo, encR, encRow, encM, encG, encN, XX, reduceIte, ↓reduceIte, Nat.reduceAdd, Nat.reduceLeDiff, Nat.reduceEqDiff, Nat.reduceLT, Nat.reduceSub, Nat.reduceBEq, forall_const, reduceCtorEq, implies_true, exists_eq_left', exists_eq_left, if_true, if_false, undef]
      exact ⟨by omega, by omega, by omega, k + 1, by omega, by omega, by simp only [cond_true] at hset; simp [Back, BackF, fzT, fzM, fzU, fz, fzL, fzO, kin, SubT, Sub, SubL, SubM, SubO, keepM, srcOk, look, lookM, ev, evs, putT, argT, encR, encRow, encM, encG, encN, XX, reduceIte, ↓reduceIte, Nat.reduceAdd, Nat.reduceLeDiff, Nat.reduceEqDiff, Nat.reduceLT, Nat.reduceSub, Nat.reduceBEq, forall_const, reduceCtorEq, implies_true, exists_eq_left', exists_eq_left, if_true, if_false, undef, ← hset, I]⟩
  have g1 : decide ((k : Int) < (v.length : Int)) = false := by simp; omega
  obtain rfl : k = v.length := by omega
  have hps : sgK v v.length = (sgL v).map I := by
    have hl : (sgL v).length = v.length := by simp [sgL]
    rw [sgK, Nat.sub_self, List.replicate_zero, List.append_nil, ← hl, List.take_length]
  simp (maxSteps := 1000000) only [g1, hps, encR, encRow, encM, encG, encN, XX, reduceIte, ↓reduceIte, Nat.reduceAdd, Nat.reduceLeDiff, Nat.reduceEqDiff, Nat.reduceLT, Nat.reduceSub, Nat.reduceBEq, forall_const, reduceCtorEq, implies_true, exists_eq_left', exists_eq_left, if_true, if_false, undef]
  exact List.take_of_length_le (by simp [sgL])

theorem uone_spec (n : Now) (hl : n.tape.length ≤ 100) (hf : -100 ≤ n.first ∧ n.first ≤ 100) (hh : -100 ≤ n.head ∧ n.head ≤ 100) : CallsA Try.prog 34 [encN n] (Bo (tapeF n.first n.tape n.head == 1)) [] := by
  have w : IntKind.i64.wrap (n.head - n.first) = n.head - n.first := by rw [wrap_id] <;> omega
  have hll : ((n.tape.map I).length : Int) = n.tape.length := by simp
  refine fn_of0 comp34 (by simp) ?_
  unfold code34
  simp (maxSteps := 1000000) only [encN, w, encR, encRow, encM, encG, encN, XX, reduceIte, ↓reduceIte, Nat.reduceAdd, Nat.reduceLeDiff, Nat.reduceEqDiff, Nat.reduceLT, Nat.reduceSub, Nat.reduceBEq, forall_const, reduceCtorEq, implies_true, exists_eq_left', exists_eq_left, if_true, if_false, undef]
  unfold tapeF
  by_cases c1 : n.head - n.first ≥ 0
  rotate_left
  · have f1 : decide (n.head - n.first ≥ 0) = false := by simpa using c1
    rw [if_neg (by omega)]
    simp (maxSteps := 1000000) only [f1, w, Bo, encR, encRow, encM, encG, encN, XX, reduceIte, ↓reduceIte, Nat.reduceAdd, Nat.reduceLeDiff, Nat.reduceEqDiff, Nat.reduceLT, Nat.reduceSub, Nat.reduceBEq, forall_const, reduceCtorEq, implies_true, exists_eq_left', exists_eq_left, if_true, if_false, undef]
    try rfl
  have f1 : decide (n.head - n.first ≥ 0) = true := by simpa using c1
  rw [if_pos (by omega)]
  by_cases c2 : n.head - n.first < n.tape.length
  · have f2 : decide (n.head - n.first < (n.tape.length : Int)) = true := by simpa using c2
    have hlt : (n.head - n.first).toNat < n.tape.length := by omega
    rw [List.getElem?_eq_getElem hlt]
    simp (maxSteps := 1000000) only [f1, f2, hll, w, Bo, encR, encRow, encM, encG, encN, XX, reduceIte, ↓reduceIte, Nat.reduceAdd, Nat.reduceLeDiff, Nat.reduceEqDiff, Nat.reduceLT, Nat.reduceSub, Nat.reduceBEq, forall_const, reduceCtorEq, implies_true, exists_eq_left', exists_eq_left, if_true, if_false, undef]
    refine ⟨by omega, pickI hlt ?_⟩
    simp (maxSteps := 1000000) only [w, Bo, Option.getD_some, encR, encRow, encM, encG, encN, XX, reduceIte, ↓reduceIte, Nat.reduceAdd, Nat.reduceLeDiff, Nat.reduceEqDiff, Nat.reduceLT, Nat.reduceSub, Nat.reduceBEq, forall_const, reduceCtorEq, implies_true, exists_eq_left', exists_eq_left, if_true, if_false, undef]
  · have f2 : decide (n.head - n.first < (n.tape.length : Int)) = false := by simpa using c2
    rw [List.getElem?_eq_none (by omega)]
    simp (maxSteps := 1000000) only [f1, f2, hll, w, Bo, encR, encRow, encM, encG, encN, XX, reduceIte, ↓reduceIte, Nat.reduceAdd, Nat.reduceLeDiff, Nat.reduceEqDiff, Nat.reduceLT, Nat.reduceSub, Nat.reduceBEq, forall_const, reduceCtorEq, implies_true, exists_eq_left', exists_eq_left, if_true, if_false, undef]
    try rfl

theorem sgL_wf (v : List Bool) : tapeF 0 (sgL v) = wf v.length (wordN v) := by
  funext x
  unfold tapeF wf
  by_cases h0 : 0 ≤ x
  · rw [if_pos h0, show (x - 0).toNat = x.toNat by omega, wordN_bit]
    by_cases hx : x.toNat < v.length
    · have e1 : (sgL v)[x.toNat]? = some (bif v[x.toNat] then 1 else 0) := by simp [sgL, hx]
      rw [e1, List.getD_eq_getElem?_getD, List.getElem?_eq_getElem hx]
      simp only [Option.getD_some]
      cases hb : v[x.toNat]
      · rw [if_neg (by simp)]; rfl
      · rw [if_pos ⟨h0, by omega, rfl⟩]; rfl
    · rw [if_neg (by omega), List.getElem?_eq_none (by simp [sgL]; omega)]; rfl
  · rw [if_neg h0, if_neg (by omega)]

theorem unrollAskP_spec (M : Mach) (cells steps : Int) (v : List Bool) (hv : (v.length : Int) < 2 ^ 63) : CallsA Try.prog 19 [encM M, I cells, I steps, .ro 1 (v.map Bo)] (askAns M cells steps v) [] := by
  have hvv : ((v.map Bo).length : Int) = v.length := by simp
  refine fn_of0 comp19 (by simp) ?_
  unfold code19
  simp (maxSteps := 1000000) only [encM, encR, encRow, encM, encG, encN, XX, reduceIte, ↓reduceIte, Nat.reduceAdd, Nat.reduceLeDiff, Nat.reduceEqDiff, Nat.reduceLT, Nat.reduceSub, Nat.reduceBEq, forall_const, reduceCtorEq, implies_true, exists_eq_left', exists_eq_left, if_true, if_false, undef]
  refine callF (CallsA.args (ucheck_spec M cells steps ) (by simp [ encM,encR, encRow, encM, encG, encN, XX, undef])) rfl (by simp [flat, encR, encRow, encM, encG, encN, XX, undef]) ?_
  unfold askAns
  by_cases h0 : unrollErr M cells steps = 0
  rotate_left
  · have f0 : (unrollErr M cells steps != 0) = true := by simpa using h0
    rw [if_pos h0]
    simp (maxSteps := 1000000) only [f0, Bo, encR, encRow, encM, encG, encN, XX, reduceIte, ↓reduceIte, Nat.reduceAdd, Nat.reduceLeDiff, Nat.reduceEqDiff, Nat.reduceLT, Nat.reduceSub, Nat.reduceBEq, forall_const, reduceCtorEq, implies_true, exists_eq_left', exists_eq_left, if_true, if_false, undef]
  have f0 : (unrollErr M cells steps != 0) = false := by simpa using h0
  rw [if_neg (by simpa using h0)]
  obtain ⟨hM, h2, hs2, hc, hst⟩ := unroll_ok h0
  have hme : machErr M = 0 := by
    by_cases hh : machErr M = 0
    · exact hh
    · rw [unrollErr, if_pos hh] at h0; exact (hh h0).elim
  by_cases h1 : (v.length : Int) = cells
  rotate_left
  · have f1 : ((v.length : Int) != cells) = true := by simpa using h1
    rw [if_pos h1]
    simp (maxSteps := 1000000) only [f0, f1, hvv, Bo, encR, encRow, encM, encG, encN, XX, reduceIte, ↓reduceIte, Nat.reduceAdd, Nat.reduceLeDiff, Nat.reduceEqDiff, Nat.reduceLT, Nat.reduceSub, Nat.reduceBEq, forall_const, reduceCtorEq, implies_true, exists_eq_left', exists_eq_left, if_true, if_false, undef]
  have f1 : ((v.length : Int) != cells) = false := by simpa using h1
  rw [if_neg (by simpa using h1)]
  obtain ⟨s, rfl⟩ : ∃ s : Nat, steps = s := ⟨steps.toNat, by omega⟩
  have hcn : cells = (v.length : Int) := h1.symm
  subst hcn
  have hn1 : 1 ≤ v.length := by omega
  have hn5 : v.length ≤ 5 := by omega
  rw [Int.toNat_natCast, Int.toNat_natCast]
  have hlen : (sgL v).length = v.length := by simp [sgL]
  have h01 : ∀ i ∈ sgL v, 0 ≤ i ∧ i < 2 := fun i hi => by
    simp only [sgL, List.mem_map] at hi
    obtain ⟨b, _, rfl⟩ := hi
    cases b <;> simp
  have U := un_all hme h2 hn1 hn5 (wordN_lt v) hlen h01 (sgL_wf v)
  have UO := urun_ok (w := wordN v) hM h2 hn1 hn5
  have hn0 : nowS M v.length (sgL v) 0 = ⟨0, 0, 0, sgL v⟩ := rfl
  simp (maxSteps := 1000000) only [f0, f1, hvv, encR, encRow, encM, encG, encN, XX, reduceIte, ↓reduceIte, Nat.reduceAdd, Nat.reduceLeDiff, Nat.reduceEqDiff, Nat.reduceLT, Nat.reduceSub, Nat.reduceBEq, forall_const, reduceCtorEq, implies_true, exists_eq_left', exists_eq_left, if_true, if_false, undef]
  refine FzVC.no ?_
  simp (maxSteps := 1000000) only [encR, encRow, encM, encG, encN, XX, reduceIte, ↓reduceIte, Nat.reduceAdd, Nat.reduceLeDiff, Nat.reduceEqDiff, Nat.reduceLT, Nat.reduceSub, Nat.reduceBEq, forall_const, reduceCtorEq, implies_true, exists_eq_left', exists_eq_left, if_true, if_false, undef]
  refine callA (CallsA.args (usigns_spec v (by omega)) (by simp [encR, encRow, encM, encG, encN, XX, undef])) rfl ?_
  simp (maxSteps := 1000000) only [encR, encRow, encM, encG, encN, XX, reduceIte, ↓reduceIte, Nat.reduceAdd, Nat.reduceLeDiff, Nat.reduceEqDiff, Nat.reduceLT, Nat.reduceSub, Nat.reduceBEq, forall_const, reduceCtorEq, implies_true, exists_eq_left', exists_eq_left, if_true, if_false, undef]

  refine loopO Nat [27] (fun k => [IN k]) (fun k => [(17, some (.box [I (nowS M v.length (sgL v) k).st, I (nowS M v.length (sgL v) k).head, I (nowS M v.length (sgL v) k).first, .ro 1 ((nowS M v.length (sgL v) k).tape.map I)]))]) (fun k => k ≤ s) (fun k => s - k) (by decide) 0 (by simp) (by simp [Back, BackF, fzT, fzM, fzU, fz, fzL, fzO, kin, SubT, Sub, SubL, SubM, SubO, keepM, srcOk, look, lookM, ev, evs, putT, argT, encR, encRow, encM, encG, encN, XX, undef, nowS]) ?_
  intro k hk
  have Uk := U k
  have UOk' := UO k
  by_cases c1 : k < s
  · have g1 : decide ((k : Int) < (s : Int)) = true := by simp [c1]
    have hwk : IntKind.i64.wrap ((k : Int) + 1) = ((k + 1 : Nat) : Int) := by rw [wrap_id] <;> omega
    obtain ⟨hge, hhd, _⟩ := un_step hme h2 hn1 hn5 UOk' Uk
    have hgo := go_spec M (nowS M v.length (sgL v) k) 1 (by have := Uk.len; omega)
    rw [goAns, if_pos hge, show (1 : Int).toNat = 1 from rfl] at hgo
    have hnx : nowS M v.length (sgL v) (k + 1) = { tell (runC M (startC (nowS M v.length (sgL v) k)) 1) with head := (clampN v.length (tell (runC M (startC (nowS M v.length (sgL v) k)) 1)).head : Nat) } := rfl
    have hwi := uwithin_spec (tell (runC M (startC (nowS M v.length (sgL v) k)) 1)).head v.length hn1 (by omega)
    generalize tell (runC M (startC (nowS M v.length (sgL v) k)) 1) = d at *
    generalize nowS M v.length (sgL v) k = n at *
    simp (maxSteps := 1000000) only [g1, encR, encRow, encM, encG, encN, XX, reduceIte, ↓reduceIte, Nat.reduceAdd, Nat.reduceLeDiff, Nat.reduceEqDiff, Nat.reduceLT, Nat.reduceSub, Nat.reduceBEq, forall_const, reduceCtorEq, implies_true, exists_eq_left', exists_eq_left, if_true, if_false, undef]
    refine callA (CallsA.args (hgo ) (by simp [ encM, encN,encR, encRow, encM, encG, encN, XX, undef])) rfl ?_
    simp (maxSteps := 1000000) only [encN, encR, encRow, encM, encG, encN, XX, reduceIte, ↓reduceIte, Nat.reduceAdd, Nat.reduceLeDiff, Nat.reduceEqDiff, Nat.reduceLT, Nat.reduceSub, Nat.reduceBEq, forall_const, reduceCtorEq, implies_true, exists_eq_left', exists_eq_left, if_true, if_false, undef]
    refine callF (CallsA.args (hwi) (by simp [encR, encRow, encM, encG, encN, XX, undef])) rfl (by simp [flat, encR, encRow, encM, encG, encN, XX, undef]) ?_
    simp (maxSteps := 1000000) only [hwk, encR, encRow, encM, encG, encN, XX, reduceIte, ↓reduceIte, Nat.reduceAdd, Nat.reduceLeDiff, Nat.reduceEqDiff, Nat.reduceLT, Nat.reduceSub, Nat.reduceBEq, forall_const, reduceCtorEq, implies_true, exists_eq_left', exists_eq_left, if_true, if_false, undef]
    exact ⟨k + 1, by omega, by omega, by simp [Back, BackF, fzT, fzM, fzU, fz, fzL, fzO, kin, SubT, Sub, SubL, SubM, SubO, keepM, srcOk, look, lookM, ev, evs, putT, argT, encR, encRow, encM, encG, encN, XX, undef, hnx]⟩
  have g1 : decide ((k : Int) < (s : Int)) = false := by simp; omega
  obtain rfl : k = s := by omega
  have hfs := Uk.fs
  have hu := uone_spec (nowS M v.length (sgL v) k) (by have := Uk.len; omega) (by omega) (by rw [Uk.hd]; have := UOk'.head; omega)
  have hone : (tapeF (nowS M v.length (sgL v) k).first (nowS M v.length (sgL v) k).tape (nowS M v.length (sgL v) k).head == 1) = (urun M v.length (wordN v) k).w.testBit (urun M v.length (wordN v) k).head := by
    rw [Uk.f, Uk.hd, wf_at UOk'.head]
    cases (urun M v.length (wordN v) k).w.testBit (urun M v.length (wordN v) k).head <;> rfl
  rw [hone] at hu
  have hs1 := Uk.st
  unfold asked
  generalize nowS M v.length (sgL v) k = n at *
  generalize (urun M v.length (wordN v) k).w.testBit (urun M v.length (wordN v) k).head = bb at *
  cases hq : decide ((urun M v.length (wordN v) k).st = M.states) with
  | true =>
    have g2 : (n.st == M.states) = true := by simp at hq ⊢; omega
    simp (maxSteps := 1000000) only [g1, g2, encR, encRow, encM, encG, encN, XX, reduceIte, ↓reduceIte, Nat.reduceAdd, Nat.reduceLeDiff, Nat.reduceEqDiff, Nat.reduceLT, Nat.reduceSub, Nat.reduceBEq, forall_const, reduceCtorEq, implies_true, exists_eq_left', exists_eq_left, if_true, if_false, undef]
    refine callF (CallsA.args (hu ) (by simp [ encN,encR, encRow, encM, encG, encN, XX, undef])) rfl (by simp [flat, encR, encRow, encM, encG, encN, XX, undef]) ?_
    simp (maxSteps := 1000000) only [Bo, Bool.true_and, encR, encRow, encM, encG, encN, XX, reduceIte, ↓reduceIte, Nat.reduceAdd, Nat.reduceLeDiff, Nat.reduceEqDiff, Nat.reduceLT, Nat.reduceSub, Nat.reduceBEq, forall_const, reduceCtorEq, implies_true, exists_eq_left', exists_eq_left, if_true, if_false, undef]
  | false =>
    have g2 : (n.st == M.states) = false := by simp at hq ⊢; omega
    simp (maxSteps := 1000000) only [g1, g2, Bo, Bool.false_and, encR, encRow, encM, encG, encN, XX, reduceIte, ↓reduceIte, Nat.reduceAdd, Nat.reduceLeDiff, Nat.reduceEqDiff, Nat.reduceLT, Nat.reduceSub, Nat.reduceBEq, forall_const, reduceCtorEq, implies_true, exists_eq_left', exists_eq_left, if_true, if_false, undef]

end Go.Av
