/- Circuits: one more gate; nots of inputs alone (pure). -/
import Derived.Test.YtblakcgmngdhmaaGateD
set_option linter.unusedSimpArgs false
set_option linter.unusedVariables false
namespace Go.Av
open Go.Proofs

theorem gAt_app {l r : List Gt} {i : Nat} (h : i < l.length) : gAt (l ++ r) i = gAt l i := by rw [gAt, gAt, List.getElem?_append_left h]
theorem gvk_app {w : Nat} {l r : List Gt} : ∀ {k : Nat}, k ≤ l.length → gvk w (l ++ r) k = gvk w l k
  | 0, _ => rfl
  | k + 1, h => by rw [gvk, gvk, gvk_app (by omega), gAt_app (by omega)]
theorem gAt_snoc {l : List Gt} {g : Gt} : gAt (l ++ [g]) l.length = g := by simp [gAt]
theorem gval_snoc {w : Nat} {l : List Gt} {g : Gt} : gval w (l ++ [g]) = gev w (gvk w l l.length) g := by
  have hl := gvk_length w l l.length
  have e : (l ++ [g]).length = l.length + 1 := by simp
  rw [gval, e, gvk, gvk_app (Nat.le_refl _), gAt_snoc, Nat.add_sub_cancel, List.getD_eq_getElem?_getD, List.getElem?_append_right (by omega)]
  simp [hl]
theorem gsOk_snoc {inn : Int} {l : List Gt} {g : Gt} (h : GsOk inn l) (hg : GtOk inn l.length g) : GsOk inn (l ++ [g]) := fun i hi => by
  rw [List.length_append, List.length_singleton] at hi
  by_cases c : i < l.length
  · rw [List.getElem_append_left c]; exact h i c
  · obtain rfl : i = l.length := by omega
    simpa using hg
/-- one gate more, that is what the circuit is not -/
def notG (l : List Gt) : Gt := ⟨2, ((l.length - 1 : Nat) : Int), 0⟩
theorem notG_ok {inn : Int} {l : List Gt} (h : GsOk inn l) (hl : 1 ≤ l.length) : GsOk inn (l ++ [notG l]) :=
  gsOk_snoc h ⟨by simp [notG], fun h => by simp [notG] at h, fun _ => by simp only [notG]; omega, fun h => by simp [notG] at h⟩
theorem gval_not {w : Nat} {l : List Gt} (hl : 1 ≤ l.length) : gval w (l ++ [notG l]) = !gval w l := by
  rw [gval_snoc, gev, gval]
  simp [notG]
theorem gateErr_not {inn : Int} {l : List Gt} (h : gateErr inn l = 0) : gateErr inn (l ++ [notG l]) = if l.length = 40 then 1 else 0 := by
  obtain ⟨h1, h2, h3⟩ := gate_ok h
  rw [gateErr, List.length_append, List.length_singleton]
  by_cases c : l.length = 40
  · rw [if_pos (by omega), if_pos c]
  · rw [if_neg (by omega), if_neg c]
    have := gs_ok.2 (notG_ok h3 h2.1)
    rwa [List.length_append, List.length_singleton] at this

/-- what is not is an input -/
def NotIn (m : List Gt) : Prop := ∀ (i : Nat) (h : i < m.length), m[i].kind = 2 → (gAt m m[i].a.toNat).kind = 1

/-- values of words that agree on the inputs -/
theorem gvk_bits {inn : Int} {w w' : Nat} {l : List Gt} (h : GsOk inn l) (hw : ∀ i : Nat, (i : Int) < inn → w.testBit i = w'.testBit i) : ∀ {k : Nat}, k ≤ l.length → gvk w l k = gvk w' l k
  | 0, _ => rfl
  | k + 1, hk => by
    rw [gvk, gvk, gvk_bits h hw (by omega)]
    have hok := h k (by omega)
    have e : gAt l k = l[k] := by rw [gAt, List.getElem?_eq_getElem (by omega)]; rfl
    rw [e]
    congr 2
    rw [gev, gev]
    split
    · rename_i h1
      have := hok.input h1
      exact hw _ (by omega)
    · rfl
theorem gval_bits {inn : Int} {w w' : Nat} {l : List Gt} (h : GsOk inn l) (hw : ∀ i : Nat, (i : Int) < inn → w.testBit i = w'.testBit i) : gval w l = gval w' l := by
  rw [gval, gval, gvk_bits h hw (Nat.le_refl _)]
theorem wordN_bits {n w i : Nat} (h : i < n) : (wordN (bitsL n w)).testBit i = w.testBit i := by
  rw [wordN_bit, bitsL, List.getD_eq_getElem?_getD]
  simp [h]

end Go.Av
