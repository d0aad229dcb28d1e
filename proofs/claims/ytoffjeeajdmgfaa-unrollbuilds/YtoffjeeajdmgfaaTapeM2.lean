/- A machine's way: in two parts; moved. -/
import Derived.Test.YtoffjeeajdmgfaaTapeM
set_option linter.unusedSimpArgs false
set_option linter.unusedVariables false
namespace Go.Av

theorem run_add (M : Mach) (c : Cfg) (i : Nat) : ∀ j, runC M c (i + j) = runC M (runC M c i) j ∧ doneC M c (i + j) = doneC M c i + doneC M (runC M c i) j
  | 0 => ⟨rfl, rfl⟩
  | j + 1 => by
    obtain ⟨h1, h2⟩ := run_add M c i j
    rw [← Nat.add_assoc]
    simp only [runC, doneC, h1, h2]
    refine ⟨trivial, ?_⟩
    split <;> omega

theorem tapeF_cells {f : Int → Int} {lo : Int} {n : Nat} (h : ∀ x, f x ≠ 0 → lo ≤ x ∧ x < lo + n) : tapeF lo (cellsF f lo n) = f := by
  funext x
  unfold tapeF
  have out : (¬ (lo ≤ x ∧ x < lo + n)) → f x = 0 := fun hn => Classical.byContradiction fun h0 => hn (h x h0)
  split
  · rename_i h1
    by_cases h2 : (x - lo).toNat < n
    · simp only [cellsF, List.getElem?_map, List.getElem?_range h2, Option.map_some, Option.getD_some]
      congr 1; omega
    · rw [List.getElem?_eq_none (by simp [cellsF]; omega)]
      exact (out (by omega)).symm
  · exact (out (by omega)).symm

theorem start_tell {c : Cfg} {lo hi : Int} (h : IsSpan c.f c.head lo hi) : startC (tell c) = c := by
  rw [tell_eq h]
  simp only [startC]
  have : tapeF lo (cellsF c.f lo (hi - lo + 1).toNat) = c.f := tapeF_cells (fun x hx => by have := h.2.2.1 x hx; omega)
  rw [this]

/-- how far to the left -/
theorem low_run {M : Mach} {c : Cfg} (hm : MOk M) (hc : COk M 120 c) (h0 : 0 ≤ c.head) (hf : ∀ x, c.f x ≠ 0 → 0 ≤ x) :
    ∀ k : Nat, (-(k : Int) ≤ (runC M c k).head ∧ (runC M c k).head ≤ c.head + k) ∧ ∀ x, (runC M c k).f x ≠ 0 → -(k : Int) ≤ x
  | 0 => ⟨by simp only [runC]; omega, fun x hx => by have := hf x hx; omega⟩
  | k + 1 => by
    obtain ⟨h1, h2⟩ := low_run hm hc h0 hf k
    have hk := runC_ok hm hc k
    simp only [runC]
    split
    · rename_i hl
      have hr := hm.ruleAt hk.st0 hl (hk.sg (runC M c k).head).1 (hk.sg (runC M c k).head).2
      refine ⟨by simp only [stepC]; omega, fun x hx => ?_⟩
      simp only [stepC] at hx
      split at hx
      · omega
      · have := h2 x hx; omega
    · exact ⟨by omega, fun x hx => by have := h2 x hx; omega⟩

def shiftC (b : Int) (c : Cfg) : Cfg := ⟨c.st, c.head + b, fun x => c.f (x - b)⟩

theorem shift_step (M : Mach) (b : Int) (c : Cfg) : stepC M (shiftC b c) = shiftC b (stepC M c) := by
  simp only [stepC, shiftC, Int.add_sub_cancel]
  congr 1
  · omega
  · funext x
    by_cases h : x = c.head + b
    · rw [if_pos h, if_pos (by omega)]
    · rw [if_neg h, if_neg (by omega)]

theorem shift_run (M : Mach) (b : Int) (c : Cfg) : ∀ k, runC M (shiftC b c) k = shiftC b (runC M c k) ∧ doneC M (shiftC b c) k = doneC M c k
  | 0 => ⟨rfl, rfl⟩
  | k + 1 => by
    obtain ⟨h1, h2⟩ := shift_run M b c k
    simp only [runC, doneC, h1, h2]
    have e : (shiftC b (runC M c k)).st = (runC M c k).st := rfl
    rw [e]
    split
    · exact ⟨shift_step M b _, rfl⟩
    · exact ⟨rfl, rfl⟩

theorem shift_span {f : Int → Int} {head lo hi b : Int} (h : IsSpan f head lo hi) : IsSpan (fun x => f (x - b)) (head + b) (lo + b) (hi + b) := by
  obtain ⟨h1, h2, h3, h4, h5⟩ := h
  refine ⟨by omega, by omega, fun x hx => ?_, ?_, ?_⟩
  · have := h3 _ hx; omega
  · rcases h4 with h | h
    · left; omega
    · right; simpa using h
  · rcases h5 with h | h
    · left; omega
    · right; simpa using h

theorem shift_tell {c : Cfg} {lo hi b : Int} (h : IsSpan c.f c.head lo hi) : tell (shiftC b c) = ⟨c.st, c.head + b, lo + b, cellsF c.f lo (hi - lo + 1).toNat⟩ := by
  rw [tell_eq (c := shiftC b c) (shift_span h)]
  simp only [shiftC, Now.mk.injEq, true_and]
  rw [show hi + b - (lo + b) + 1 = hi - lo + 1 by omega]
  simp only [cellsF, List.map_inj_left]
  intro i _
  congr 1; omega

theorem shift_start (b : Int) (n : Now) : startC ⟨n.st, n.head + b, n.first + b, n.tape⟩ = shiftC b (startC n) := by
  simp only [startC, shiftC, Cfg.mk.injEq, true_and]
  funext x
  unfold tapeF
  by_cases h : n.first + b ≤ x
  · rw [if_pos h, if_pos (by omega)]; congr 2; omega
  · rw [if_neg h, if_neg (by omega)]

end Go.Av
