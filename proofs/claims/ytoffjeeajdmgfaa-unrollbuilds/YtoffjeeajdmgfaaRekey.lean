/- An object that comes back under its own key may be told as a new one. -/
import Derived.Test.YtoffjeeajdmgfaaLib
set_option linter.unusedSimpArgs false
set_option linter.unusedVariables false
namespace Go.Av
open Go.Proofs

def swp (j L k : Nat) : Nat := if k = j then L else k
theorem CallsM.rekey {P : Program} {f : FuncId} {args : List AV} {r r' : AV} {m0 : List MObj} {m1 m2 : List (Option MObj)} {o : MObj} (j : Nat) (h : CallsM P f args m0 r m1) (hj : m1[j]? = some (some o))
    (hr : reG (swp j m1.length) r = r') (h2 : ((m1.map (Option.map (reO (swp j m1.length)))).set j none) ++ [some (reO (swp j m1.length) o)] = m2) : CallsM P f args m0 r' m2 := by
  subst hr h2
  obtain ⟨h0, hlen, hh⟩ := h
  have hjl : j < m1.length := (List.getElem?_eq_some_iff.1 hj).1
  refine ⟨h0, by simp; omega, fun w S κ0 vals hent hl hR => (hh w S κ0 vals hent hl hR).mono ?_⟩
  rintro e w' ⟨v, S', κ', rfl, hv, he, hk, hS, hown, hkept⟩
  generalize hL : m1.length = L at *
  have hnone : ∀ k, L ≤ k → κ' k = none := fun k hk => (he.fresh k hk).2
  have hlt : ∀ k l, κ' k = some l → k < L := fun k l h => Nat.lt_of_not_le fun hh => by rw [hnone k hh] at h; cases h
  obtain ⟨κ2, hκ2⟩ : ∃ κ2 : Nat → Option Loc, κ2 = fun k => if k = L then κ' j else if k < L then κ' k else none := ⟨_, rfl⟩
  have hκ : ∀ k l, κ' k = some l → κ2 (swp j L k) = some l := fun k l h => by
    have := hlt k l h
    rw [hκ2]; unfold swp
    by_cases hkj : k = j
    · subst hkj; simp only [if_true]; exact h
    · simp only [if_neg hkj]; rw [if_neg (by omega), if_pos this]; exact h
  have hback : ∀ k o2, lookM (memO 0 (((m1.map (Option.map (reO (swp j L)))).set j none) ++ [some (reO (swp j L) o)])) k = some o2 →
      ∃ k0 ok, k = swp j L k0 ∧ lookM (memO 0 m1) k0 = some ok ∧ o2 = reO (swp j L) ok ∧ κ2 k = κ' k0 := fun k o2 h => by
    have h := lookM_memO0.1 h
    by_cases hkL : k < L
    · rw [List.getElem?_append_left (by simp [hL]; exact hkL), List.getElem?_set] at h
      by_cases hjk : j = k
      · rw [if_pos hjk] at h; split at h <;> simp at h
      · rw [if_neg hjk, List.getElem?_map, Option.map_eq_some_iff] at h
        obtain ⟨x, hx, hx2⟩ := h
        cases x with
        | none => simp at hx2
        | some ok =>
          simp only [Option.map_some, Option.some.injEq] at hx2
          exact ⟨k, ok, by unfold swp; rw [if_neg (Ne.symm hjk)], lookM_memO0.2 hx, hx2.symm, by rw [hκ2]; simp only; rw [if_neg (by omega), if_pos hkL]⟩
    · rw [List.getElem?_append_right (by simp [hL]; omega)] at h
      simp only [List.length_set, List.length_map, hL] at h
      have : k = L := by
        have := (List.getElem?_eq_some_iff.1 h).1
        simp at this; omega
      subst this
      simp at h
      exact ⟨j, o, by unfold swp; rw [if_pos rfl], lookM_memO0.2 hj, h.symm, by rw [hκ2]; simp⟩
  refine ⟨v, S', κ2, rfl, reG_R hv (fun _ h => h) hκ, ⟨fun k o2 h => ?_, fun k k' o2 o2' l l' b h h' hl hl' hb hb' => ?_, fun k o2 l b h hl hb => ?_, fun k hk => ?_, he.sb⟩, fun i l hi hl => ?_, hS, fun k o2 l b h hl hb => ?_, hkept⟩
  · obtain ⟨k0, ok, rfl, q1, rfl, _⟩ := hback k o2 h
    exact reG_ObjR (he.mm k0 ok q1) (fun _ h => h) hκ
  · obtain ⟨k0, ok, rfl, q1, rfl, q2⟩ := hback k o2 h
    obtain ⟨k0', ok', rfl, q1', rfl, q2'⟩ := hback k' o2' h'
    rw [q2] at hl
    rw [q2'] at hl'
    rw [he.inj k0 k0' ok ok' l l' b q1 q1' hl hl' hb hb']
  · obtain ⟨k0, ok, rfl, q1, rfl, q2⟩ := hback k o2 h
    rw [q2] at hl
    exact he.own k0 ok l b q1 hl hb
  · have hk' : L + 1 ≤ k := by simpa [hL] using hk
    refine ⟨?_, by rw [hκ2]; simp only; rw [if_neg (by omega), if_neg (by omega)]⟩
    rw [lookM_memO, if_neg (by simp [hL]; omega)]
  · obtain ⟨l', h1, h2⟩ := hk i l hi hl
    refine ⟨l', ?_, h2⟩
    rw [hκ2]; simp only
    rw [if_neg (by omega), if_pos (by omega)]; exact h1
  · obtain ⟨k0, ok, rfl, q1, rfl, q2⟩ := hback k o2 h
    rw [q2] at hl
    exact hown k0 ok l b q1 hl hb

end Go.Av
