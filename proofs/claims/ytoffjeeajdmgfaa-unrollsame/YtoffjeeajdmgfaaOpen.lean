/- What a statement's arguments are. -/
import Derived.Test.YtoffjeeajdmgfaaTapeM
import Derived.Test.YtoffjeeajdmgfaaHas
set_option linter.unusedSimpArgs false
set_option linter.unusedVariables false
namespace Go.Av

def shRule : Sh := .agg [.int .i64, .int .i64, .int .i64]
def shMach : Sh := .agg [.int .i64, .int .i64, .slice 1 (.slice 3 (.agg [.int .i64, .int .i64, .int .i64]))]
def shNow : Sh := .agg [.int .i64, .int .i64, .int .i64, .slice 1 (.int .i64)]

theorem hasRule {x : AV} (h : Has (.agg [.int .i64, .int .i64, .int .i64]) x) : ∃ r, x = encR r := by
  obtain ⟨y, z, w, h1, h2, h3, rfl⟩ := hasAgg3 h
  obtain ⟨a, rfl, _⟩ := hasInt h1
  obtain ⟨b, rfl, _⟩ := hasInt h2
  obtain ⟨c, rfl, _⟩ := hasInt h3
  exact ⟨⟨a, b, c⟩, rfl⟩

theorem hasRow {x : AV} (h : Has (.slice 3 (.agg [.int .i64, .int .i64, .int .i64])) x) : ∃ l, x = encRow l := by
  cases h with
  | slice hl hh =>
    obtain ⟨l, rfl⟩ := listOf (enc := encR) (fun i x hx => hasRule (hh i x hx))
    exact ⟨l, rfl⟩

theorem hasMach {x : AV} (h : Has shMach x) : ∃ m, x = encM m := by
  obtain ⟨y, z, w, h1, h2, h3, rfl⟩ := hasAgg3 h
  obtain ⟨a, rfl, _⟩ := hasInt h1
  obtain ⟨b, rfl, _⟩ := hasInt h2
  cases h3 with
  | slice hl hh =>
    obtain ⟨l, rfl⟩ := listOf (enc := encRow) (fun i x hx => hasRow (hh i x hx))
    exact ⟨⟨a, b, l⟩, rfl⟩

theorem hasNow {x : AV} (h : Has shNow x) : ∃ n : Now, x = encN n ∧ (n.tape.length : Int) < 2 ^ 63 := by
  obtain ⟨y, z, w, v, h1, h2, h3, h4, rfl⟩ := hasAgg4 h
  obtain ⟨a, rfl, _⟩ := hasInt h1
  obtain ⟨b, rfl, _⟩ := hasInt h2
  obtain ⟨c, rfl, _⟩ := hasInt h3
  obtain ⟨l, rfl, hl⟩ := hasInts h4
  exact ⟨⟨a, b, c, l⟩, rfl, hl⟩

end Go.Av
