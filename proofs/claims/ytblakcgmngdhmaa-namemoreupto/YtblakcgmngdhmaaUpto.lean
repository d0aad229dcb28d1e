/- What a small bulk of the arguments says of their lengths. -/
import Derived.Test.YtblakcgmngdhmaaHas
import Derived.Test.YtblakcgmngdhmaaRows
import Derived.ProofKit
import Derived.JoinedCond
set_option linter.unusedSimpArgs false
set_option linter.unusedVariables false
namespace Go.Av
open Go.Proofs

theorem bulk_pos {H : Type} (d : DataW H) : 1 ≤ Go.Proofs.Ytblakcgmngdhmaa.Rows.uptoBulk d := by
  cases d with
  | lit l => cases l <;> simp [Go.Proofs.Ytblakcgmngdhmaa.Rows.uptoBulk]
  | nil => simp [Go.Proofs.Ytblakcgmngdhmaa.Rows.uptoBulk]
  | ptr d => simp [Go.Proofs.Ytblakcgmngdhmaa.Rows.uptoBulk]
  | slice elems spare => simp [Go.Proofs.Ytblakcgmngdhmaa.Rows.uptoBulk]
  | agg parts => simp [Go.Proofs.Ytblakcgmngdhmaa.Rows.uptoBulk]
  | iface t d => simp [Go.Proofs.Ytblakcgmngdhmaa.Rows.uptoBulk]
  | map entries => simp [Go.Proofs.Ytblakcgmngdhmaa.Rows.uptoBulk]
  | held h => simp [Go.Proofs.Ytblakcgmngdhmaa.Rows.uptoBulk]

theorem bulk_mem {H : Type} {d : DataW H} {l : List (DataW H)} (h : d ∈ l) : Go.Proofs.Ytblakcgmngdhmaa.Rows.uptoBulk d ≤ Go.Proofs.Ytblakcgmngdhmaa.Rows.uptoBulkAll l := by
  induction l with
  | nil => cases h
  | cons x r ih =>
    simp only [Go.Proofs.Ytblakcgmngdhmaa.Rows.uptoBulkAll]
    cases List.mem_cons.1 h with
    | inl e => subst e; omega
    | inr e => have := ih e; omega

theorem bulk_len {H : Type} (l : List (DataW H)) : l.length ≤ Go.Proofs.Ytblakcgmngdhmaa.Rows.uptoBulkAll l := by
  induction l with
  | nil => simp
  | cons x r ih => have := bulk_pos x; simp only [Go.Proofs.Ytblakcgmngdhmaa.Rows.uptoBulkAll, List.length_cons]; omega

theorem bulk_bound {H : Type} {l : List (DataW H)} (hk : Go.Proofs.Ytblakcgmngdhmaa.Rows.uptoSmall H l = true) {d : DataW H} (h : d ∈ l) : Go.Proofs.Ytblakcgmngdhmaa.Rows.uptoBulk d ≤ 1048576 :=
  Nat.le_trans (bulk_mem h) (of_decide_eq_true hk)

def isSl (P : Program) (t : TypeId) : Bool := match P.underlying t with
  | some (.slice _) => true
  | _ => false

theorem mapM_len {α β : Type} {f : α → Option β} : ∀ {l : List α} {r : List β}, l.mapM f = some r → r.length = l.length := by
  intro l
  induction l with
  | nil => intro r h; simp at h; subst h; rfl
  | cons a l ih =>
    intro r h
    simp only [List.mapM_cons, Option.bind_eq_bind, Option.bind_eq_some_iff, Option.pure_def, Option.some.injEq] at h
    obtain ⟨b, _, bs, hb, rfl⟩ := h
    simp [ih hb]

/-- a slice among the arguments is no longer than the bulk of its reading -/
theorem top_len {H : Type} {enc : TypeId × Value → H} {P : Program} {W : World} {sp : Nat → Bool} {held : Bool} {t : TypeId} {v : Value} {d : DataW H} {ps : List MemPlace} {S : Nat → Prop} {x : AV}
    (ht : isSl P t = true) (h : DataW.Trod enc P W 0 sp held t v d ps) (hR : R0 W S x v) : ∀ sz xs, x = .ro sz xs → xs.length ≤ Go.Proofs.Ytblakcgmngdhmaa.Rows.uptoBulk d := by
  rintro sz xs rfl
  obtain ⟨fuel, hf⟩ := h
  cases fuel with
  | zero => simp [DataW.trod] at hf
  | succ fuel =>
    unfold isSl at ht
    split at ht
    · rename_i e hu
      cases hR with
      | roNil => simp
      | ro hb hcap hs hc h =>
        simp only [DataW.trod, hu, Value.cells] at hf
        split at hf
        · simp only [Option.bind_eq_some_iff, Option.map_eq_some_iff] at hf
          obtain ⟨elems, he, rest, _, h3⟩ := hf
          have hl := mapM_len he
          rw [List.length_range] at hl
          cases h3
          have := bulk_len (elems.map (·.1))
          simp only [Go.Proofs.Ytblakcgmngdhmaa.Rows.uptoBulk, List.length_map] at this ⊢
          omega
        · cases hf
    · cases ht

end Go.Av
