/- What a statement's arguments are: numbers, lists. -/
import Derived.Test.YtblakcgmngdhmaaLib
set_option linter.unusedSimpArgs false
set_option linter.unusedVariables false
namespace Go.Av

abbrev IN (n : Nat) : AV := I (n : Int)
theorem hasInt {k : IntKind} {x : AV} (h : Has (.int k) x) : ∃ n, x = .v (.int k n) ∧ (Lit.int k n).wf = true := by cases h with | int h => exact ⟨_, rfl, h⟩

theorem listOf {α : Type} {enc : α → AV} : ∀ {xs : List AV}, (∀ (i : Nat) x, xs[i]? = some x → ∃ a, x = enc a) → ∃ l : List α, xs = l.map enc
  | [], _ => ⟨[], rfl⟩
  | x :: xs, h => by
    obtain ⟨a, rfl⟩ := h 0 x rfl
    obtain ⟨l, rfl⟩ := listOf (fun i x hx => h (i + 1) x (by simpa using hx))
    exact ⟨a :: l, rfl⟩

theorem hasAgg3 {a b c : Sh} {x : AV} (h : Has (.agg [a, b, c]) x) : ∃ y z w, Has a y ∧ Has b z ∧ Has c w ∧ x = .agg (y.cells ++ (z.cells ++ w.cells)) := by
  cases h with
  | agg hl hh =>
    rename_i ys
    match ys, hl, hh with
    | [y, z, w], _, hh => exact ⟨y, z, w, hh 0 _ _ rfl rfl, hh 1 _ _ rfl rfl, hh 2 _ _ rfl rfl, by simp⟩

theorem hasAgg4 {a b c d : Sh} {x : AV} (h : Has (.agg [a, b, c, d]) x) : ∃ y z w v, Has a y ∧ Has b z ∧ Has c w ∧ Has d v ∧ x = .agg (y.cells ++ (z.cells ++ (w.cells ++ v.cells))) := by
  cases h with
  | agg hl hh =>
    rename_i ys
    match ys, hl, hh with
    | [y, z, w, v], _, hh => exact ⟨y, z, w, v, hh 0 _ _ rfl rfl, hh 1 _ _ rfl rfl, hh 2 _ _ rfl rfl, hh 3 _ _ rfl rfl, by simp⟩

theorem hasInts {x : AV} (h : Has (.slice 1 (.int .i64)) x) : ∃ l : List Int, x = .ro 1 (l.map I) ∧ (l.length : Int) < 2 ^ 63 := by
  cases h with
  | slice hl hh =>
    obtain ⟨l, rfl⟩ := listOf (enc := I) (fun i x hx => by obtain ⟨n, rfl, _⟩ := hasInt (hh i x hx); exact ⟨n, rfl⟩)
    refine ⟨l, rfl, ?_⟩
    simp only [List.length_map] at hl
    have : maxLen < 2 ^ 63 := by decide
    omega

theorem i8_range {n : Int} (h : (Lit.int .i8 n).wf = true) : -128 ≤ n ∧ n ≤ 127 := by
  simp [Lit.wf, IntKind.min, IntKind.max, IntKind.bits, IntKind.signed] at h; omega
theorem u8_range {n : Int} (h : (Lit.int .u8 n).wf = true) : 0 ≤ n ∧ n ≤ 255 := by
  simp [Lit.wf, IntKind.min, IntKind.max, IntKind.bits, IntKind.signed] at h; omega

end Go.Av
