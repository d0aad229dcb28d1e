/- Cells, without programs: no ring becomes one that has a word which has none ahead. -/
import Derived.Test.YtlemkfgipbfjhaaCellG
set_option linter.unusedSimpArgs false
set_option linter.unusedVariables false
set_option maxRecDepth 100000
namespace Go.Av
open Go.Proofs

theorem getD_set {l : List Bool} {i j : Nat} {b : Bool} : (l.set i b).getD j false = if i = j ∧ i < l.length then b else l.getD j false := by
  rw [List.getD_eq_getElem?_getD, List.getD_eq_getElem?_getD, List.getElem?_set]
  by_cases h : i = j
  · subst h
    by_cases h2 : i < l.length
    · simp [h2]
    · rw [if_pos rfl, if_neg h2, if_neg (by simp [h2]), List.getElem?_eq_none (by omega)]
  · simp [h]
theorem rf_mono {rule : Nat} {can : List Bool} {x : Bool} {j k p : Nat} (hjk : j ≤ k) (h : (rf rule can x j).getD p false = true) : (rf rule can x k).getD p false = true := by
  induction k with
  | zero => obtain rfl : j = 0 := by omega
            exact h
  | succ k ih =>
    by_cases hk : j = k + 1
    · subst hk; exact h
    · have := ih (by omega)
      simp only [rf, rput]
      split
      · rw [getD_set]; split
        · rfl
        · exact this
      · exact this
theorem rf_hit {rule : Nat} {can : List Bool} {x : Bool} {two c : Nat} (ht : two < 4) (hc : c < 2) (h1 : can.getD two false = true) (h2 : tru rule (decide (two ≥ 2)) (two % 2 == 1) (c == 1) = x) : (rf rule can x 8).getD (two % 2 * 2 + c) false = true := by
  refine rf_mono (j := 2 * two + c + 1) (by omega) ?_
  have e1 : (2 * two + c) / 2 = two := by omega
  have e2 : (2 * two + c) % 2 = c := by omega
  rw [rf, e1, e2, rput, if_pos (by rw [h1, h2]; simp), getD_set, if_pos ⟨rfl, by rw [rf_length]; omega⟩]
def tw (a b : Bool) : Nat := 2 * a.toNat + b.toNat
theorem rf_next {rule : Nat} {can : List Bool} {a b c x : Bool} (h1 : can.getD (tw a b) false = true) (h2 : tru rule a b c = x) : (rf rule can x 8).getD (tw b c) false = true := by
  have h := rf_hit (rule := rule) (can := can) (x := x) (two := tw a b) (c := c.toNat) (by cases a <;> cases b <;> decide) (by cases c <;> decide) h1 (by rw [← h2]; cases a <;> cases b <;> cases c <;> rfl)
  rw [← h]; cases a <;> cases b <;> cases c <;> rfl
/-- where there are cells ahead of a word, it is reached -/
theorem rset_hit {rule : Nat} : ∀ (word : List Bool) (can : List Bool) (u : Nat → Bool), can.getD (tw (u 0) (u 1)) false = true → (∀ j, j < word.length → tru rule (u j) (u (j + 1)) (u (j + 2)) = word.getD j false) →
    ∃ p, (rset rule can word).getD p false = true
  | [], can, u, h, _ => ⟨_, h⟩
  | x :: r, can, u, h, hw => by
    have h0 := hw 0 (by simp)
    exact rset_hit r (rf rule can x 8) (fun j => u (j + 1)) (rf_next h h0) (fun j hj => hw (j + 1) (by simp; omega))
theorem reached_hit {rule : Nat} {word : List Bool} {u : Nat → Bool} (hw : ∀ j, j < word.length → tru rule (u j) (u (j + 1)) (u (j + 2)) = word.getD j false) : reachedB rule word = true := by
  obtain ⟨p, hp⟩ := rset_hit (rule := rule) word canT u (by cases u 0 <;> cases u 1 <;> rfl) hw
  rw [reachedB, List.any_eq_true]
  rw [List.getD_eq_getElem?_getD] at hp
  cases h : (rset rule canT word)[p]? with
  | none => rw [h] at hp; cases hp
  | some b => rw [h] at hp; exact ⟨b, List.mem_of_getElem? h, hp⟩

theorem findSome_of {α β : Type} {f : α → Option β} {l : List α} {b : β} (h : l.findSome? f = some b) : ∃ a ∈ l, f a = some b := by
  rw [List.findSome?_eq_some_iff] at h
  obtain ⟨l1, a, l2, rfl, h, _⟩ := h
  exact ⟨a, by simp, h⟩
theorem orph_not {rule n : Nat} {w : List Bool} (h : orph rule n = some w) : reachedB rule w = false := by
  obtain ⟨k, _, h⟩ := findSome_of h
  obtain ⟨v, _, h⟩ := findSome_of h
  rw [orphW] at h
  split at h
  · cases h
  · rename_i hh
    cases h
    simpa using hh

/-- does a word stand at a place of a ring? -/
def stand (l w : List Bool) (i j : Nat) : Bool := (List.range j).all fun t => l.getD ((i + t) % l.length) false == w.getD t false
theorem stand_succ (l w : List Bool) (i j : Nat) : stand l w i (j + 1) = (stand l w i j && (l.getD ((i + j) % l.length) false == w.getD j false)) := by
  simp [stand, List.range_succ]
theorem no_stand {rule : Nat} {ring w : List Bool} {i : Nat} (h1 : 1 ≤ ring.length) (h : reachedB rule w = false) : stand (stepL rule ring) w i w.length = false := by
  cases hs : stand (stepL rule ring) w i w.length with
  | false => rfl
  | true =>
    exfalso
    have hl := stepL_length rule ring
    simp only [stand, List.all_eq_true, List.mem_range, beq_iff_eq, hl] at hs
    have : reachedB rule w = true := reached_hit (u := fun j => ring.getD ((i + j + ring.length - 1) % ring.length) false) (fun j hj => by
      have hlt : (i + j) % ring.length < ring.length := Nat.mod_lt _ (by omega)
      rw [← hs j hj, List.getD_eq_getElem?_getD (l := stepL rule ring), stepL_get hlt]
      have e1 : (i + j + ring.length - 1) % ring.length = ((i + j) % ring.length + ring.length - 1) % ring.length := by
        rw [Nat.add_sub_assoc h1, Nat.add_sub_assoc h1, Nat.mod_add_mod]
      have e2 : (i + (j + 1) + ring.length - 1) % ring.length = (i + j) % ring.length := by
        rw [show i + (j + 1) + ring.length - 1 = i + j + ring.length by omega, Nat.add_mod_right]
      have e3 : (i + (j + 2) + ring.length - 1) % ring.length = ((i + j) % ring.length + 1) % ring.length := by
        rw [show i + (j + 2) + ring.length - 1 = i + j + 1 + ring.length by omega, Nat.add_mod_right, Nat.mod_add_mod]
      simp only [e1, e2, e3]; rfl)
    rw [h] at this; cases this

def wZero (r : Nat) : Bool := match orphF r 9 with
  | some w => decide ((mvec r w [1, 1, 1, 1]).sum = 0)
  | none => true
theorem wZero_all : ((List.range 256).all wZero) = true := by kernel_rfl
theorem orph_zero {rule : Nat} (hr : rule < 256) {w : List Bool} (h : orphF rule 9 = some w) : (mvec rule w [1, 1, 1, 1]).sum = 0 := by
  have := (List.all_eq_true.1 wZero_all) rule (by simpa using hr)
  unfold wZero at this
  rw [h] at this
  simpa using this

end Go.Av
