/- What is only read may be lent. -/
import Derived.Test.YtblakcgmngdhmaaLib
set_option linter.unusedSimpArgs false
set_option linter.unusedVariables false
namespace Go.Av
open Go.Proofs

theorem CallsM.ofA {P : Program} {f : FuncId} {args args' : List AV} {r : AV} {m0 : List MObj} {m1 : List (Option MObj)} (h : CallsA P f args' r []) (ha : frzL [] (memOf m0) args = args')
    (hm1 : m1 = m0.map fun _ => none) : CallsM P f args m0 r m1 := by
  subst hm1
  refine ⟨h.1, by simp, fun w S κ0 vals hent hl hR => ?_⟩
  have hargs : ∀ (i : Nat) x y, args'[i]? = some x → vals[i]? = some y → R0 w (fun b => S b ∨ blocksOf (memOf m0) κ0 (kysL args) b) x y := fun i x y h1 h2 => by
    rw [← ha, frzL_get, Option.map_eq_some_iff] at h1
    obtain ⟨x', h1, rfl⟩ := h1
    exact frz_R0 hent (hR i x' y h1 h2) (fun k hk => kysL_mem h1 hk)
  have hlent : ∀ b, blocksOf (memOf m0) κ0 (kysL args) b → lentB κ0 m0.length b ∧ b < w.heap.size := by
    rintro b ⟨k, o, l, _, h1, h2, h3⟩
    refine ⟨⟨k, l, ?_, h2, h3⟩, (hent.own k o l b h1 h2 h3).2⟩
    rw [lookM_memOf] at h1
    exact (List.getElem?_eq_some_iff.1 h1).1
  refine (h.2 w _ vals (hent.sb.mono (fun _ _ => rfl) (fun _ h => .inl h) (fun b hb => ?_)) (by rw [← ha, frzL_length, hl]) hargs).mono ?_
  · rcases hb with hb | hb
    · exact hent.sb.lt b hb
    · exact (hlent b hb).2
  · rintro e w' ⟨v, S', κ', rfl, hv, he, hS', _, hb⟩
    have hv0 : R0 w' S' r v := hv.noKeys (fun k => (he.fresh k (Nat.zero_le _)).2)
    have hno : ∀ k o, lookM (memO 0 (m0.map fun _ => (none : Option MObj))) k = some o → False := fun k o hk => by
      have := lookM_memO0.1 hk
      simp at this
    refine ⟨v, S', (fun k => if k < m0.length then κ0 k else none), rfl, .base hv0, ⟨fun k o hk => (hno k o hk).elim, fun k k' o o' l l' b hk => (hno k o hk).elim, fun k o l b hk => (hno k o hk).elim, fun k hk => ?_, he.sb⟩, fun i l hi hl => ⟨l, by simp [hi, hl], Loc.same_refl l⟩, fun b hb' => ?_, fun k o l b hk => (hno k o hk).elim, ⟨hb.os, hb.tape, hb.output, hb.size, fun b h1 _ => hb.block b h1⟩⟩
    · have hk' : m0.length ≤ k := by simpa using hk
      refine ⟨?_, by simp [show ¬ k < m0.length by omega]⟩
      cases hx : lookM (memO 0 (m0.map fun _ => (none : Option MObj))) k with
      | none => rfl
      | some o => exact (hno k o hx).elim
    · rcases hS' b hb' with (h | h) | h
      · exact .inl h
      · exact .inr (.inr (hlent b h).1)
      · exact .inr (.inl h)

end Go.Av
