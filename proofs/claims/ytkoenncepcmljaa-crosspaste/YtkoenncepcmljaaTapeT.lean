/- What the document tells of a run. -/
import Derived.Test.YtkoenncepcmljaaTapeS
import Derived.Test.YtkoenncepcmljaaTapeD
set_option linter.unusedSimpArgs false
set_option linter.unusedVariables false
namespace Go.Av

theorem sgn_spots (first : Int) (l : List Int) (x : Int) : ∀ k, k ≤ l.length → sgn (spots first l k) x = tapeF first (l.take k) x
  | 0, _ => by simp [spots, sgn, tapeF]
  | k + 1, h => by
    rw [spots_succ, sgn_append, sgn_spots first l x k (by omega)]
    unfold tapeF
    by_cases h1 : first ≤ x
    · rw [if_pos h1, if_pos h1]
      by_cases h2 : first + k = x
      · subst h2
        rw [if_pos rfl, List.getElem?_take_of_lt (by omega), show (first + (k : Int) - first).toNat = k by omega]
      · rw [if_neg h2]
        by_cases h3 : (x - first).toNat < k
        · rw [List.getElem?_take_of_lt h3, List.getElem?_take_of_lt (by omega)]
        · rw [List.getElem?_take_eq_none (by omega), List.getElem?_take_eq_none (by omega)]
    · rw [if_neg h1, if_neg (by omega), if_neg h1]

theorem spots_mem {first : Int} {l : List Int} {k : Nat} {p : Int × Int} (h : p ∈ spots first l k) : first ≤ p.1 ∧ p.1 < first + k := by
  simp only [spots, List.mem_map, List.mem_range] at h
  obtain ⟨i, hi, rfl⟩ := h
  simp; omega

theorem runR_tell {M : Mach} {n : Now} {steps : Int} (h : GOk M n steps) : ∃ lo hi, IsSpan (sgn (runR M (startC n) (spots n.first n.tape n.tape.length) steps.toNat).tape) (runC M (startC n) steps.toNat).head lo hi ∧ (-1000 ≤ lo ∧ hi ≤ 1000) ∧
    tell (runC M (startC n) steps.toNat) = ⟨(runC M (startC n) steps.toNat).st, (runC M (startC n) steps.toNat).head, lo, cellsF (sgn (runR M (startC n) (spots n.first n.tape n.tape.length) steps.toNat).tape) lo (hi - lo + 1).toNat⟩ := by
  have hc := runC_ok h.mach h.cfg steps.toNat
  obtain ⟨lo, hi, hs, ht, hlo, hhi⟩ := hc.tell
  have h0 : ∀ x, sgn (spots n.first n.tape n.tape.length) x = (startC n).f x := fun x => by rw [sgn_spots _ _ _ _ (Nat.le_refl _), List.take_length]; rfl
  have hst := h.steps
  have hdd : doneC M (startC n) (doneC M (startC n) steps.toNat) = doneC M (startC n) steps.toNat ∧ runC M (startC n) (doneC M (startC n) steps.toNat) = runC M (startC n) steps.toNat := by
    have gen : ∀ N, doneC M (startC n) (doneC M (startC n) N) = doneC M (startC n) N ∧ runC M (startC n) (doneC M (startC n) N) = runC M (startC n) N := by
      intro N
      induction N with
      | zero => exact ⟨rfl, rfl⟩
      | succ N ih =>
        by_cases hl : (runC M (startC n) N).st < M.states
        · have e : doneC M (startC n) (N + 1) = N + 1 := by simp only [doneC]; rw [if_pos hl, live_done hl]
          rw [e]; exact ⟨e, rfl⟩
        · have e1 : doneC M (startC n) (N + 1) = doneC M (startC n) N := by simp only [doneC]; rw [if_neg hl]
          have e2 : runC M (startC n) (N + 1) = runC M (startC n) N := by simp only [runC]; rw [if_neg hl]
          rw [e1, e2]; exact ih
    exact gen _
  have hf : sgn (runR M (startC n) (spots n.first n.tape n.tape.length) steps.toNat).tape = (runC M (startC n) steps.toNat).f := by
    funext x
    show sgn (spots n.first n.tape n.tape.length ++ wrs M (startC n) (doneC M (startC n) steps.toNat)) x = _
    rw [sgn_run h0 hdd.1, hdd.2]
  refine ⟨lo, hi, by rw [hf]; exact hs, by omega, by rw [hf]; exact ht⟩

theorem runR_far {M : Mach} {n : Now} {steps : Int} (h : GOk M n steps) : ∀ p ∈ (runR M (startC n) (spots n.first n.tape n.tape.length) steps.toNat).tape, -1000 ≤ p.1 ∧ p.1 ≤ 1000 := by
  intro p hp
  have hst := h.steps
  have hfs := h.fs
  have hln := h.len
  have hd := done_le M (startC n) steps.toNat
  rcases List.mem_append.1 hp with hp | hp
  · have := spots_mem hp; omega
  · simp only [wrs, List.mem_map, List.mem_range] at hp
    obtain ⟨i, hi, rfl⟩ := hp
    have := (runC_ok h.mach h.cfg i).hd
    simp only; omega

theorem runR_len {M : Mach} {n : Now} {steps : Int} (h : GOk M n steps) : ((runR M (startC n) (spots n.first n.tape n.tape.length) steps.toNat).tape.length : Int) < 2 ^ 62 := by
  have hst := h.steps
  have hln := h.len
  have hd := done_le M (startC n) steps.toNat
  simp only [runR, List.length_append, spots_length, wrs_length]; omega

theorem runOk {M : Mach} {l : List Int} {steps : Int} (h : runErr M l steps = 0) : GOk M ⟨0, 0, 0, l⟩ steps ∧ l.length ≤ 8 := by
  have h0 : machErr M = 0 := Classical.byContradiction fun hn => by rw [runErr, if_pos hn] at h; exact hn h
  have h1 : ¬ (l.length : Int) > 8 := fun hn => by rw [runErr, if_neg (by omega), if_pos hn] at h; omega
  exact ⟨go_ok ((run_go h0 h1).trans h), by omega⟩

theorem runErr_steps {M : Mach} {l : List Int} {steps i : Int} (h : runErr M l steps = 0) (hi : 0 ≤ i ∧ i ≤ 60) : runErr M l i = 0 := by
  unfold runErr at h ⊢
  split at h
  · contradiction
  · split at h
    · contradiction
    · split at h
      · contradiction
      · rename_i h1 h2 h3
        rw [if_neg h1, if_neg h2, if_neg h3, if_neg (by omega)]

end Go.Av
