/- What the arguments of the laws of tag systems are. -/
import Derived.Test.YtgpdiifihleldaaTagR
set_option linter.unusedSimpArgs false
set_option linter.unusedVariables false
namespace Go.Av
open Go.Proofs

theorem hasAgg2 {a b : Sh} {x : AV} (h : Has (.agg [a, b]) x) : ∃ y z, Has a y ∧ Has b z ∧ x = .agg (y.cells ++ z.cells) := by
  cases h with
  | agg hl hh =>
    rename_i ys
    match ys, hl, hh with
    | [y, z], _, hh => exact ⟨y, z, hh 0 _ _ rfl rfl, hh 1 _ _ rfl rfl, by simp⟩

def shTag : Sh := .agg [.int .i64, .slice 1 (.slice 1 (.int .i64))]

theorem hasTag {x y : AV} (h : Has shTag x) (hy : Has (.slice 1 (.int .i64)) y) : ∃ (g : TagS) (w : List Int), x = encG g ∧ y = .ro 1 (w.map I) ∧ TagLen g w := by
  obtain ⟨a, b, ha, hb, rfl⟩ := hasAgg2 h
  obtain ⟨d, rfl, _⟩ := hasInt ha
  obtain ⟨w, rfl, hw⟩ := hasInts hy
  cases hb with
  | slice hl hh =>
    obtain ⟨l, rfl⟩ := listOf (enc := encL) (fun i x hx => by obtain ⟨l, rfl, _⟩ := hasInts (hh i x hx); exact ⟨l, rfl⟩)
    refine ⟨⟨d, l⟩, w, rfl, rfl, ⟨?_, fun x hx => ?_, hw⟩⟩
    · simp only [List.length_map] at hl
      have : maxLen < 2 ^ 63 := by decide
      simp only
      omega
    · obtain ⟨i, hi, rfl⟩ := List.getElem_of_mem hx
      obtain ⟨l', h1, h2⟩ := hasInts (hh i (encL l[i]) (by simp only at hi; simp [hi]))
      simp only [encL, AV.ro.injEq, true_and] at h1
      have := congrArg List.length h1
      simp only [List.length_map] at this
      simp only
      omega

end Go.Av
