/- Functions: what the statements' arguments are. -/
import Derived.Test.YtpkgddjmhgcjjaaFunG
set_option linter.unusedSimpArgs false
set_option linter.unusedVariables false
set_option maxRecDepth 100000
namespace Go.Av
open Go.Proofs

def shFn : Sh := .agg [.int .i64, .int .i64, .int .i64, .int .i64, .int .i64, .slice 1 (.int .i64)]
def shFns : Sh := .slice 6 shFn
theorem hasAgg6 {a b c d e g : Sh} {x : AV} (h : Has (.agg [a, b, c, d, e, g]) x) : ∃ y z w v u t, Has a y ∧ Has b z ∧ Has c w ∧ Has d v ∧ Has e u ∧ Has g t ∧ x = .agg (y.cells ++ (z.cells ++ (w.cells ++ (v.cells ++ (u.cells ++ t.cells))))) := by
  cases h with
  | agg hl hh =>
    rename_i ys
    match ys, hl, hh with
    | [y, z, w, v, u, t], _, hh => exact ⟨y, z, w, v, u, t, hh 0 _ _ rfl rfl, hh 1 _ _ rfl rfl, hh 2 _ _ rfl rfl, hh 3 _ _ rfl rfl, hh 4 _ _ rfl rfl, hh 5 _ _ rfl rfl, by simp⟩
theorem hasFn {x : AV} (h : Has shFn x) : ∃ f : Fn, x = encF f ∧ (f.into.length : Int) < 2 ^ 63 := by
  obtain ⟨y, z, w, v, u, t, h1, h2, h3, h4, h5, h6, rfl⟩ := hasAgg6 h
  obtain ⟨n1, rfl, _⟩ := hasInt h1
  obtain ⟨n2, rfl, _⟩ := hasInt h2
  obtain ⟨n3, rfl, _⟩ := hasInt h3
  obtain ⟨n4, rfl, _⟩ := hasInt h4
  obtain ⟨n5, rfl, _⟩ := hasInt h5
  obtain ⟨l, rfl, hl⟩ := hasInts h6
  exact ⟨⟨n1, n2, n3, n4, n5, l⟩, rfl, hl⟩
theorem listOfP {α : Type} {enc : α → AV} {p : α → Prop} : ∀ {xs : List AV}, (∀ (i : Nat) x, xs[i]? = some x → ∃ a, x = enc a ∧ p a) → ∃ l : List α, xs = l.map enc ∧ ∀ a ∈ l, p a
  | [], _ => ⟨[], rfl, by simp⟩
  | x :: xs, h => by
    obtain ⟨a, rfl, ha⟩ := h 0 x rfl
    obtain ⟨l, rfl, hl⟩ := listOfP (fun i x hx => h (i + 1) x (by simpa using hx))
    exact ⟨a :: l, rfl, by simpa using ⟨ha, hl⟩⟩
theorem hasFns {x : AV} (h : Has shFns x) : ∃ l : List Fn, x = .ro 6 (l.map encF) ∧ (l.length : Int) < 2 ^ 63 ∧ ∀ f ∈ l, (f.into.length : Int) < 2 ^ 63 := by
  cases h with
  | slice hl hh =>
    obtain ⟨l, rfl, hp⟩ := listOfP (enc := encF) (p := fun f => (f.into.length : Int) < 2 ^ 63) (fun i x hx => hasFn (hh i x hx))
    refine ⟨l, rfl, ?_, hp⟩
    simp only [List.length_map] at hl
    have : maxLen < 2 ^ 63 := by decide
    omega

end Go.Av
