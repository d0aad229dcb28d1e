/- Circuits: the document's check, and the values of all gates. -/
import Derived.Test.YtblakcgmngdhmaaCell
set_option linter.unusedSimpArgs false
set_option linter.unusedVariables false
set_option maxRecDepth 100000
namespace Go.Av
open Go.Proofs

structure Gt where
  kind : Int
  a : Int
  b : Int
def encG (g : Gt) : AV := .agg [I g.kind, I g.a, I g.b]

def gErr (inn : Int) (i : Nat) (g : Gt) : Int :=
  if ¬(1 ≤ g.kind ∧ g.kind ≤ 4) then 6 else if g.kind = 1 ∧ ¬(0 ≤ g.a ∧ g.a < inn) then 4 else if (g.kind ≠ 1 ∧ ¬(0 ≤ g.a ∧ g.a < i)) ∨ (3 ≤ g.kind ∧ ¬(0 ≤ g.b ∧ g.b < i)) then 2 else 0
def gAt (l : List Gt) (i : Nat) : Gt := (l[i]?).getD ⟨0, 0, 0⟩
def gsErr (inn : Int) (l : List Gt) : Nat → Int
  | 0 => 0
  | k + 1 => if gsErr inn l k ≠ 0 then gsErr inn l k else gErr inn k (gAt l k)
theorem gsErr_stay {inn : Int} {l : List Gt} {k : Nat} (h : gsErr inn l k ≠ 0) : ∀ {n : Nat}, k ≤ n → gsErr inn l n = gsErr inn l k
  | 0, hn => by obtain rfl : k = 0 := by omega
                rfl
  | n + 1, hn => by
    by_cases hk : k = n + 1
    · rw [hk]
    · have := gsErr_stay h (n := n) (by omega)
      rw [gsErr, this, if_pos h]
theorem gsErr_zero {inn : Int} {l : List Gt} : ∀ {n : Nat}, gsErr inn l n = 0 → ∀ k, k < n → gErr inn k (gAt l k) = 0
  | n + 1, h, k, hk => by
    rw [gsErr] at h
    split at h
    · rename_i h1; exact (h1 h).elim
    · rename_i h1
      by_cases hkn : k = n
      · subst hkn; exact h
      · exact gsErr_zero (n := n) (by omega) k (by omega)
theorem gsErr_all {inn : Int} {l : List Gt} : ∀ {n : Nat}, (∀ k, k < n → gErr inn k (gAt l k) = 0) → gsErr inn l n = 0
  | 0, _ => rfl
  | n + 1, h => by
    rw [gsErr, gsErr_all (fun k hk => h k (by omega)), if_neg (by decide)]
    exact h n (by omega)
structure GtOk (inn : Int) (i : Nat) (g : Gt) : Prop where
  kind : 1 ≤ g.kind ∧ g.kind ≤ 4
  input : g.kind = 1 → 0 ≤ g.a ∧ g.a < inn
  first : g.kind ≠ 1 → 0 ≤ g.a ∧ g.a < i
  second : 3 ≤ g.kind → 0 ≤ g.b ∧ g.b < i
theorem g_ok {inn : Int} {i : Nat} {g : Gt} : gErr inn i g = 0 ↔ GtOk inn i g := by
  constructor
  · intro h
    simp only [gErr] at h
    split at h
    · omega
    · split at h
      · omega
      · split at h
        · omega
        · exact ⟨by omega, by omega, by omega, by omega⟩
  · rintro ⟨h1, h2, h3, h4⟩
    simp only [gErr]
    rw [if_neg (by omega), if_neg (by omega), if_neg (by omega)]
def GsOk (inn : Int) (l : List Gt) : Prop := ∀ (i : Nat) (h : i < l.length), GtOk inn i l[i]
theorem gs_ok {inn : Int} {l : List Gt} : gsErr inn l l.length = 0 ↔ GsOk inn l := by
  constructor
  · intro h i hi
    have := g_ok.1 (gsErr_zero h i hi)
    rwa [gAt, List.getElem?_eq_getElem hi] at this
  · intro h
    refine gsErr_all (fun k hk => g_ok.2 ?_)
    rw [gAt, List.getElem?_eq_getElem hk]
    exact h k hk
def gateErr (inn : Int) (l : List Gt) : Int := if ¬(0 ≤ inn ∧ inn ≤ 5) ∨ ¬(1 ≤ (l.length : Int) ∧ (l.length : Int) ≤ 40) then 1 else gsErr inn l l.length

theorem gatesCheck_spec (inn : Int) (l : List Gt) (hl : (l.length : Int) < 2 ^ 63) : CallsA Try.prog 26 [I inn, .ro 3 (l.map encG)] (I (gsErr inn l l.length)) [] := by
  refine fn_of0 comp26 (by simp) ?_
  unfold code26
  have hll : ((l.map encG).length : Int) = l.length := by simp
  simp (maxSteps := 1000000) only [hll, encG, XX, reduceIte, ↓reduceIte, Nat.reduceAdd, Nat.reduceLeDiff, Nat.reduceEqDiff, Nat.reduceLT, Nat.reduceSub, Nat.reduceBEq, forall_const, reduceCtorEq, implies_true, exists_eq_left', exists_eq_left, if_true, if_false, undef]
  refine loop0 Nat [9] (fun k => [IN k]) (fun k => k ≤ l.length ∧ gsErr inn l k = 0) (fun k => l.length - k) (by decide) 0 (by simp [gsErr]) (by simp [Back, BackF, fzT, fzM, fzU, fz, fzL, fzO, kin, SubT, Sub, SubL, SubM, SubO, keepM, srcOk, look, lookM, ev, evs, putT, argT, encG, XX, undef]) ?_
  rintro k ⟨hk, hz⟩
  by_cases c1 : k < l.length
  rotate_left
  · have g1 : decide ((k : Int) < (l.length : Int)) = false := by simp; omega
    obtain rfl : k = l.length := by omega
    simp (maxSteps := 1000000) only [hll, g1, hz, encG, XX, reduceIte, ↓reduceIte, Nat.reduceAdd, Nat.reduceLeDiff, Nat.reduceEqDiff, Nat.reduceLT, Nat.reduceSub, Nat.reduceBEq, forall_const, reduceCtorEq, implies_true, exists_eq_left', exists_eq_left, if_true, if_false, undef]
  have g1 : decide ((k : Int) < (l.length : Int)) = true := by simp [c1]
  have hw : IntKind.i64.wrap ((k : Int) + 1) = ((k + 1 : Nat) : Int) := by rw [wrap_id] <;> omega
  have hnx : gsErr inn l (k + 1) = gErr inn k l[k] := by rw [gsErr, if_neg (by simp [hz]), gAt, List.getElem?_eq_getElem c1]; rfl
  have hbad : gErr inn k l[k] ≠ 0 → gsErr inn l l.length = gErr inn k l[k] := fun h => by
    rw [← hnx]; exact gsErr_stay (by rw [hnx]; exact h) (by omega)
  simp (maxSteps := 1000000) only [hll, g1, encG, XX, reduceIte, ↓reduceIte, Nat.reduceAdd, Nat.reduceLeDiff, Nat.reduceEqDiff, Nat.reduceLT, Nat.reduceSub, Nat.reduceBEq, forall_const, reduceCtorEq, implies_true, exists_eq_left', exists_eq_left, if_true, if_false, undef]
  refine ⟨by omega, pickM c1 ?_⟩
  generalize l[k] = g at *
  obtain ⟨kd, a, b⟩ := g
  simp (maxSteps := 1000000) only [encG, splice, AV.cells, encG, XX, reduceIte, ↓reduceIte, Nat.reduceAdd, Nat.reduceLeDiff, Nat.reduceEqDiff, Nat.reduceLT, Nat.reduceSub, Nat.reduceBEq, forall_const, reduceCtorEq, implies_true, exists_eq_left', exists_eq_left, if_true, if_false, undef]
  refine callF (CallsA.args (within_spec 1 kd 4) (by simp [encG, XX, undef])) rfl (by simp [flat, encG, XX, undef]) ?_
  by_cases h1 : 1 ≤ kd ∧ kd ≤ 4
  rotate_left
  · have f2 : decide (1 ≤ kd ∧ kd ≤ 4) = false := by rw [decide_eq_false_iff_not]; exact h1
    have he : gErr inn k ⟨kd, a, b⟩ = 6 := by rw [gErr, if_pos h1]
    rw [hbad (by rw [he]; decide), he]
    simp (maxSteps := 1000000) only [f2, Bo, encG, XX, reduceIte, ↓reduceIte, Nat.reduceAdd, Nat.reduceLeDiff, Nat.reduceEqDiff, Nat.reduceLT, Nat.reduceSub, Nat.reduceBEq, forall_const, reduceCtorEq, implies_true, exists_eq_left', exists_eq_left, if_true, if_false, undef]
  have f2 : decide (1 ≤ kd ∧ kd ≤ 4) = true := by rw [decide_eq_true_iff]; exact h1
  have one : ∀ (n x : Int), CallsA Try.prog 16 [I n, .ro 1 [I x]] (Bo (decide (0 ≤ x ∧ x < n))) [] := fun n x => by
    have := inside_spec n [x] (by simp)
    simpa using this
  simp (maxSteps := 1000000) only [f2, Bo, encG, XX, reduceIte, ↓reduceIte, Nat.reduceAdd, Nat.reduceLeDiff, Nat.reduceEqDiff, Nat.reduceLT, Nat.reduceSub, Nat.reduceBEq, forall_const, reduceCtorEq, implies_true, exists_eq_left', exists_eq_left, if_true, if_false, undef]
  by_cases h3 : kd = 1
  · have e3 : (kd == 1) = true := by simpa using h3
    have e4 : (kd != 1) = false := by simp [h3]
    have e5 : decide (kd ≥ 3) = false := by simp; omega
    simp (maxSteps := 1000000) only [e3, encG, XX, reduceIte, ↓reduceIte, Nat.reduceAdd, Nat.reduceLeDiff, Nat.reduceEqDiff, Nat.reduceLT, Nat.reduceSub, Nat.reduceBEq, forall_const, reduceCtorEq, implies_true, exists_eq_left', exists_eq_left, if_true, if_false, undef]
    refine callF (CallsA.args (one inn a) (by simp [encG, XX, undef])) rfl (by simp [flat, encG, XX, undef]) ?_
    by_cases h2 : 0 ≤ a ∧ a < inn
    · have f3 : decide (0 ≤ a ∧ a < inn) = true := by rw [decide_eq_true_iff]; exact h2
      have he : gErr inn k ⟨kd, a, b⟩ = 0 := g_ok.2 ⟨h1, fun _ => h2, fun h => (h h3).elim, fun h => by simp only at h; omega⟩
      simp (maxSteps := 1000000) only [f3, e4, e5, hw, Bo, encG, XX, reduceIte, ↓reduceIte, Nat.reduceAdd, Nat.reduceLeDiff, Nat.reduceEqDiff, Nat.reduceLT, Nat.reduceSub, Nat.reduceBEq, forall_const, reduceCtorEq, implies_true, exists_eq_left', exists_eq_left, if_true, if_false, undef]
      exact ⟨k + 1, ⟨by omega, by rw [hnx, he]⟩, by omega, by simp [Back, BackF, fzT, fzM, fzU, fz, fzL, fzO, kin, SubT, Sub, SubL, SubM, SubO, keepM, srcOk, look, lookM, ev, evs, putT, argT, encG, XX, undef]⟩
    · have f3 : decide (0 ≤ a ∧ a < inn) = false := by rw [decide_eq_false_iff_not]; exact h2
      have he : gErr inn k ⟨kd, a, b⟩ = 4 := by simp only [gErr]; rw [if_neg (by omega), if_pos ⟨h3, h2⟩]
      rw [hbad (by rw [he]; decide), he]
      simp (maxSteps := 1000000) only [f3, Bo, encG, XX, reduceIte, ↓reduceIte, Nat.reduceAdd, Nat.reduceLeDiff, Nat.reduceEqDiff, Nat.reduceLT, Nat.reduceSub, Nat.reduceBEq, forall_const, reduceCtorEq, implies_true, exists_eq_left', exists_eq_left, if_true, if_false, undef]
  have e3 : (kd == 1) = false := by simpa using h3
  have e4 : (kd != 1) = true := by simp [h3]
  simp (maxSteps := 1000000) only [e3, e4, encG, XX, reduceIte, ↓reduceIte, Nat.reduceAdd, Nat.reduceLeDiff, Nat.reduceEqDiff, Nat.reduceLT, Nat.reduceSub, Nat.reduceBEq, forall_const, reduceCtorEq, implies_true, exists_eq_left', exists_eq_left, if_true, if_false, undef]
  refine callF (CallsA.args (one (k : Int) a) (by simp [encG, XX, undef])) rfl (by simp [flat, encG, XX, undef]) ?_
  by_cases h2 : 0 ≤ a ∧ a < (k : Int)
  rotate_left
  · have f3 : decide (0 ≤ a ∧ a < (k : Int)) = false := by rw [decide_eq_false_iff_not]; exact h2
    have he : gErr inn k ⟨kd, a, b⟩ = 2 := by simp only [gErr]; rw [if_neg (by omega), if_neg (by omega), if_pos (.inl ⟨h3, h2⟩)]
    rw [hbad (by rw [he]; decide), he]
    simp (maxSteps := 1000000) only [f3, Bo, encG, XX, reduceIte, ↓reduceIte, Nat.reduceAdd, Nat.reduceLeDiff, Nat.reduceEqDiff, Nat.reduceLT, Nat.reduceSub, Nat.reduceBEq, forall_const, reduceCtorEq, implies_true, exists_eq_left', exists_eq_left, if_true, if_false, undef]
  have f3 : decide (0 ≤ a ∧ a < (k : Int)) = true := by rw [decide_eq_true_iff]; exact h2
  by_cases h5 : kd ≥ 3
  rotate_left
  · have e5 : decide (kd ≥ 3) = false := by simpa using h5
    have he : gErr inn k ⟨kd, a, b⟩ = 0 := g_ok.2 ⟨h1, fun h => (h3 h).elim, fun _ => h2, fun h => (h5 h).elim⟩
    simp (maxSteps := 1000000) only [f3, e5, hw, Bo, encG, XX, reduceIte, ↓reduceIte, Nat.reduceAdd, Nat.reduceLeDiff, Nat.reduceEqDiff, Nat.reduceLT, Nat.reduceSub, Nat.reduceBEq, forall_const, reduceCtorEq, implies_true, exists_eq_left', exists_eq_left, if_true, if_false, undef]
    exact ⟨k + 1, ⟨by omega, by rw [hnx, he]⟩, by omega, by simp [Back, BackF, fzT, fzM, fzU, fz, fzL, fzO, kin, SubT, Sub, SubL, SubM, SubO, keepM, srcOk, look, lookM, ev, evs, putT, argT, encG, XX, undef]⟩
  have e5 : decide (kd ≥ 3) = true := by simpa using h5
  simp (maxSteps := 1000000) only [f3, e5, Bo, encG, XX, reduceIte, ↓reduceIte, Nat.reduceAdd, Nat.reduceLeDiff, Nat.reduceEqDiff, Nat.reduceLT, Nat.reduceSub, Nat.reduceBEq, forall_const, reduceCtorEq, implies_true, exists_eq_left', exists_eq_left, if_true, if_false, undef]
  refine callF (CallsA.args (one (k : Int) b) (by simp [encG, XX, undef])) rfl (by simp [flat, encG, XX, undef]) ?_
  by_cases h6 : 0 ≤ b ∧ b < (k : Int)
  · have f4 : decide (0 ≤ b ∧ b < (k : Int)) = true := by rw [decide_eq_true_iff]; exact h6
    have he : gErr inn k ⟨kd, a, b⟩ = 0 := g_ok.2 ⟨h1, fun h => (h3 h).elim, fun _ => h2, fun _ => h6⟩
    simp (maxSteps := 1000000) only [f4, hw, Bo, encG, XX, reduceIte, ↓reduceIte, Nat.reduceAdd, Nat.reduceLeDiff, Nat.reduceEqDiff, Nat.reduceLT, Nat.reduceSub, Nat.reduceBEq, forall_const, reduceCtorEq, implies_true, exists_eq_left', exists_eq_left, if_true, if_false, undef]
    exact ⟨k + 1, ⟨by omega, by rw [hnx, he]⟩, by omega, by simp [Back, BackF, fzT, fzM, fzU, fz, fzL, fzO, kin, SubT, Sub, SubL, SubM, SubO, keepM, srcOk, look, lookM, ev, evs, putT, argT, encG, XX, undef]⟩
  · have f4 : decide (0 ≤ b ∧ b < (k : Int)) = false := by rw [decide_eq_false_iff_not]; exact h6
    have he : gErr inn k ⟨kd, a, b⟩ = 2 := by simp only [gErr]; rw [if_neg (by omega), if_neg (by omega), if_pos (.inr ⟨h5, h6⟩)]
    rw [hbad (by rw [he]; decide), he]
    simp (maxSteps := 1000000) only [f4, Bo, encG, XX, reduceIte, ↓reduceIte, Nat.reduceAdd, Nat.reduceLeDiff, Nat.reduceEqDiff, Nat.reduceLT, Nat.reduceSub, Nat.reduceBEq, forall_const, reduceCtorEq, implies_true, exists_eq_left', exists_eq_left, if_true, if_false, undef]

theorem gateCheck_spec (inn : Int) (l : List Gt) (hl : (l.length : Int) < 2 ^ 63) : CallsA Try.prog 14 [I inn, .ro 3 (l.map encG)] (I (gateErr inn l)) [] := by
  refine fn_of0 comp14 (by simp) ?_
  unfold code14
  have hll : ((l.map encG).length : Int) = l.length := by simp
  simp (maxSteps := 1000000) only [encG, XX, reduceIte, ↓reduceIte, Nat.reduceAdd, Nat.reduceLeDiff, Nat.reduceEqDiff, Nat.reduceLT, Nat.reduceSub, Nat.reduceBEq, forall_const, reduceCtorEq, implies_true, exists_eq_left', exists_eq_left, if_true, if_false, undef]
  refine callF (CallsA.args (within_spec 0 inn 5) (by simp [encG, XX, undef])) rfl (by simp [flat, encG, XX, undef]) ?_
  by_cases h1 : 0 ≤ inn ∧ inn ≤ 5
  rotate_left
  · have f1 : decide (0 ≤ inn ∧ inn ≤ 5) = false := by rw [decide_eq_false_iff_not]; exact h1
    rw [gateErr, if_pos (.inl h1)]
    simp (maxSteps := 1000000) only [f1, Bo, encG, XX, reduceIte, ↓reduceIte, Nat.reduceAdd, Nat.reduceLeDiff, Nat.reduceEqDiff, Nat.reduceLT, Nat.reduceSub, Nat.reduceBEq, forall_const, reduceCtorEq, implies_true, exists_eq_left', exists_eq_left, if_true, if_false, undef]
  have f1 : decide (0 ≤ inn ∧ inn ≤ 5) = true := by rw [decide_eq_true_iff]; exact h1
  simp (maxSteps := 1000000) only [f1, hll, Bo, encG, XX, reduceIte, ↓reduceIte, Nat.reduceAdd, Nat.reduceLeDiff, Nat.reduceEqDiff, Nat.reduceLT, Nat.reduceSub, Nat.reduceBEq, forall_const, reduceCtorEq, implies_true, exists_eq_left', exists_eq_left, if_true, if_false, undef]
  refine callF (CallsA.args (within_spec 1 (l.length : Int) 40 ) (by simp [ hll,encG, XX, undef])) rfl (by simp [flat, encG, XX, undef]) ?_
  by_cases h2 : 1 ≤ (l.length : Int) ∧ (l.length : Int) ≤ 40
  rotate_left
  · have f2 : decide (1 ≤ (l.length : Int) ∧ (l.length : Int) ≤ 40) = false := by rw [decide_eq_false_iff_not]; exact h2
    rw [gateErr, if_pos (.inr h2)]
    simp (maxSteps := 1000000) only [f2, Bo, encG, XX, reduceIte, ↓reduceIte, Nat.reduceAdd, Nat.reduceLeDiff, Nat.reduceEqDiff, Nat.reduceLT, Nat.reduceSub, Nat.reduceBEq, forall_const, reduceCtorEq, implies_true, exists_eq_left', exists_eq_left, if_true, if_false, undef]
  have f2 : decide (1 ≤ (l.length : Int) ∧ (l.length : Int) ≤ 40) = true := by rw [decide_eq_true_iff]; exact h2
  rw [gateErr, if_neg (by omega)]
  simp (maxSteps := 1000000) only [f2, Bo, encG, XX, reduceIte, ↓reduceIte, Nat.reduceAdd, Nat.reduceLeDiff, Nat.reduceEqDiff, Nat.reduceLT, Nat.reduceSub, Nat.reduceBEq, forall_const, reduceCtorEq, implies_true, exists_eq_left', exists_eq_left, if_true, if_false, undef]
  refine callF (CallsA.args (gatesCheck_spec inn l hl) (by simp [encG, XX, undef])) rfl (by simp [flat, encG, XX, undef]) ?_
  simp (maxSteps := 1000000) only [encG, XX, reduceIte, ↓reduceIte, Nat.reduceAdd, Nat.reduceLeDiff, Nat.reduceEqDiff, Nat.reduceLT, Nat.reduceSub, Nat.reduceBEq, forall_const, reduceCtorEq, implies_true, exists_eq_left', exists_eq_left, if_true, if_false, undef]

end Go.Av
