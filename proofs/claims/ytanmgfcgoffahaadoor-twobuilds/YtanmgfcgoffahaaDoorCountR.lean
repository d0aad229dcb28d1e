/- Counter machines: the program's run. -/
import Derived.Test.YtanmgfcgoffahaaDoorCountP
set_option linter.unusedSimpArgs false
set_option linter.unusedVariables false
set_option maxRecDepth 100000
namespace Go.Av
open Go.Proofs

theorem firstErr_all {α : Type} {f : α → Int} : ∀ {l : List α}, firstErr f l = 0 → ∀ x ∈ l, f x = 0
  | [], _, x, hx => by simp at hx
  | y :: l, h, x, hx => by
    simp only [firstErr] at h
    split at h
    · rename_i hy; exact (hy h).elim
    · rename_i hy
      rcases List.mem_cons.1 hx with rfl | hx
      · exact Decidable.byContradiction fun hh => hy hh
      · exact firstErr_all h x hx

theorem countErr_ok {counters : Int} {l : List Ord} (h : countErr counters l = 0) : (1 ≤ counters ∧ counters ≤ 4) ∧ (1 ≤ l.length ∧ l.length ≤ 12) ∧ ∀ o ∈ l, OrdOk counters.toNat l.length o := by
  simp only [countErr] at h
  split at h
  · cases h
  · rename_i hb
    refine ⟨by omega, by omega, fun o ho => ?_⟩
    have := firstErr_all h o ho
    simp only [ordErr] at this
    split at this
    · cases this
    · split at this
      · cases this
      · split at this
        · cases this
        · exact ⟨by omega, by omega, by omega, by omega⟩

theorem haveErr_ok {counters turns : Int} {l : List Int} (h : haveErr counters l turns = 0) : (l.length : Int) = counters ∧ (∀ x ∈ l, 0 ≤ x ∧ x ≤ 20) ∧ (0 ≤ turns ∧ turns ≤ 400) := by
  simp only [haveErr] at h
  split at h
  · cases h
  · split at h
    · cases h
    · split at h
      · cases h
      · rename_i h1 h2 h3
        refine ⟨by omega, fun x hx => ?_, by omega⟩
        simp only [Decidable.not_not] at h2
        have := (List.all_eq_true.1 h2) x hx
        simpa using this

def cntErr (counters : Int) (l : List Ord) (c : List Int) (turns : Int) : Int := if countErr counters l ≠ 0 then countErr counters l else haveErr counters c turns
theorem cntErr_ok {counters turns : Int} {l : List Ord} {c : List Int} (h : cntErr counters l c turns = 0) : countErr counters l = 0 ∧ haveErr counters c turns = 0 := by
  simp only [cntErr] at h
  split at h
  · rename_i h1; exact (h1 h).elim
  · rename_i h1; exact ⟨Decidable.byContradiction h1, h⟩

structure CntOk (counters : Int) (l : List Ord) (c : List Int) (turns : Int) : Prop where
  n : 1 ≤ counters ∧ counters ≤ 4
  len : 1 ≤ l.length ∧ l.length ≤ 12
  ord : ∀ o ∈ l, OrdOk counters.toNat l.length o
  c0 : CSOk counters.toNat l.length 20 (c, 0)
  turns : 0 ≤ turns ∧ turns ≤ 400

theorem cnt_ok {counters turns : Int} {l : List Ord} {c : List Int} (h : cntErr counters l c turns = 0) : CntOk counters l c turns := by
  obtain ⟨h1, h2⟩ := cntErr_ok h
  obtain ⟨a1, a2, a3⟩ := countErr_ok h1
  obtain ⟨b1, b2, b3⟩ := haveErr_ok h2
  exact ⟨a1, a2, a3, ⟨by simp; omega, b2, by simp, by simp⟩, b3⟩

def runAns (counters : Int) (l : List Ord) (c : List Int) (turns : Int) : AV :=
  if cntErr counters l c turns = 0 then .tup [.ro 1 ((crun l (c, 0) turns.toNat).1.map I), I (crun l (c, 0) turns.toNat).2, I (cdone l (c, 0) turns.toNat : Nat), I 0]
  else .tup [.ro 1 [], I 0, I 0, I (cntErr counters l c turns)]

theorem hasOrd {x : AV} (h : Has (.agg [.int .i64, .int .i64, .int .i64, .int .i64]) x) : ∃ r, x = encO r := by
  obtain ⟨y, z, w, v, h1, h2, h3, h4, rfl⟩ := hasAgg4 h
  obtain ⟨a, rfl, _⟩ := hasInt h1
  obtain ⟨b, rfl, _⟩ := hasInt h2
  obtain ⟨c, rfl, _⟩ := hasInt h3
  obtain ⟨d, rfl, _⟩ := hasInt h4
  exact ⟨⟨a, b, c, d⟩, rfl⟩

theorem hasOrds {x : AV} (h : Has (.slice 4 (.agg [.int .i64, .int .i64, .int .i64, .int .i64])) x) : ∃ l : List Ord, x = .ro 4 (l.map encO) ∧ (l.length : Int) < 2 ^ 63 := by
  cases h with
  | slice hl hh =>
    obtain ⟨l, rfl⟩ := listOf (enc := encO) (fun i x hx => hasOrd (hh i x hx))
    refine ⟨l, rfl, ?_⟩
    simp only [List.length_map] at hl
    have : maxLen < 2 ^ 63 := by decide
    omega

def shOrds : Sh := .slice 4 (.agg [.int .i64, .int .i64, .int .i64, .int .i64])

end Go.Av
