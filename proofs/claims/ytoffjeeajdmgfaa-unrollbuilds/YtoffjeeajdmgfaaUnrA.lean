/- Machines on few cells, step by step as the program does it. -/
import Derived.Test.YtoffjeeajdmgfaaUnrU
import Derived.Test.YtoffjeeajdmgfaaTapeD
import Derived.Test.YtoffjeeajdmgfaaTapeM2
set_option linter.unusedSimpArgs false
set_option linter.unusedVariables false
set_option maxRecDepth 100000
namespace Go.Av
open Go.Proofs

def bitsOk : Bool := (List.range 6).all fun n => (List.range 32).all fun w => (List.range 5).all fun h =>
  !(decide (w < 2 ^ n) && decide (h < n)) || (bif w.testBit h then decide (2 ^ h ≤ w) && (List.range 5).all fun x => (w - 2 ^ h).testBit x == (x != h && w.testBit x)
    else decide (w + 2 ^ h < 2 ^ n) && (List.range 5).all fun x => (w + 2 ^ h).testBit x == (x == h || w.testBit x))
theorem bits_ok : bitsOk = true := by kernel_rfl
theorem bit_case {n w h : Nat} (hn : n ≤ 5) (hw : w < 2 ^ n) (hh : h < n) : if w.testBit h then 2 ^ h ≤ w ∧ ∀ x, x < 5 → (w - 2 ^ h).testBit x = (x != h && w.testBit x) else w + 2 ^ h < 2 ^ n ∧ ∀ x, x < 5 → (w + 2 ^ h).testBit x = (x == h || w.testBit x) := by
  have h32 : w < 32 := by
    have : (2 : Nat) ^ n ≤ 2 ^ 5 := Nat.pow_le_pow_right (by decide) hn
    omega
  have h0 := bits_ok
  simp only [bitsOk, List.all_eq_true, List.mem_range] at h0
  have h1 := h0 n (by omega) w h32 h (by omega)
  rw [decide_eq_true hw, decide_eq_true hh] at h1
  simp only [Bool.and_self, Bool.not_true, Bool.false_or] at h1
  cases hb : w.testBit h with
  | true =>
    rw [hb] at h1
    simp only [cond_true, Bool.and_eq_true, decide_eq_true_eq, List.all_eq_true, List.mem_range, beq_iff_eq] at h1
    simpa using h1
  | false =>
    rw [hb] at h1
    simp only [cond_false, Bool.and_eq_true, decide_eq_true_eq, List.all_eq_true, List.mem_range, beq_iff_eq] at h1
    simpa using h1

/-- what stands on the tape -/
def wf (cells w : Nat) (x : Int) : Int := if 0 ≤ x ∧ x < cells ∧ w.testBit x.toNat = true then 1 else 0
theorem wf_at {cells w h : Nat} (hh : h < cells) : wf cells w h = if w.testBit h then 1 else 0 := by
  unfold wf; simp only [Int.toNat_natCast]
  by_cases hb : w.testBit h = true
  · rw [if_pos hb, if_pos ⟨by omega, by omega, hb⟩]
  · rw [if_neg hb, if_neg (fun hh => hb hh.2.2)]
theorem wf_out {cells w : Nat} {x : Int} (h : wf cells w x ≠ 0) : 0 ≤ x ∧ x < cells := by
  unfold wf at h
  split at h
  · rename_i hh; exact ⟨hh.1, hh.2.1⟩
  · exact (h rfl).elim
theorem wf_01 (cells w : Nat) (x : Int) : wf cells w x = 0 ∨ wf cells w x = 1 := by
  unfold wf; split <;> simp

/-- a step on the word -/
theorem word_step {cells : Nat} {c : Uc} (h5 : cells ≤ 5) (hw : c.w < 2 ^ cells) (hh : c.head < cells) {r : Int} (hr : r = 0 ∨ r = 1) :
    ((c.w : Int) - usign c * 2 ^ c.head + r * 2 ^ c.head).toNat < 2 ^ cells ∧ ∀ x : Int, wf cells ((c.w : Int) - usign c * 2 ^ c.head + r * 2 ^ c.head).toNat x = if x = c.head then r else wf cells c.w x := by
  have key : ∀ w' : Nat, w' < 2 ^ cells → (∀ x, x < 5 → w'.testBit x = if x = c.head then decide (r = 1) else c.w.testBit x) → ((c.w : Int) - usign c * 2 ^ c.head + r * 2 ^ c.head).toNat = w' → ((c.w : Int) - usign c * 2 ^ c.head + r * 2 ^ c.head).toNat < 2 ^ cells ∧ ∀ x : Int, wf cells ((c.w : Int) - usign c * 2 ^ c.head + r * 2 ^ c.head).toNat x = if x = c.head then r else wf cells c.w x := fun w' h1 h2 h3 => by
    rw [h3]
    refine ⟨h1, fun x => ?_⟩
    by_cases hx : 0 ≤ x ∧ x < cells
    · obtain ⟨n, rfl⟩ : ∃ n : Nat, x = n := ⟨x.toNat, by omega⟩
      have hn : n < cells := by omega
      rw [wf_at hn, wf_at hn, h2 n (by omega)]
      by_cases hnh : n = c.head
      · rw [if_pos (show ((n : Nat) : Int) = ((c.head : Nat) : Int) by omega), if_pos hnh]
        rcases hr with rfl | rfl <;> simp
      · rw [if_neg (show ¬ ((n : Nat) : Int) = ((c.head : Nat) : Int) by omega), if_neg hnh]
    · have hz : ∀ w, wf cells w x = 0 := fun w => Classical.byContradiction fun h => hx (wf_out h)
      rw [hz, hz, if_neg (show ¬ x = ((c.head : Nat) : Int) by omega)]
  have B := bit_case h5 hw hh
  unfold usign at key ⊢
  have hp : (2 : Int) ^ c.head = ((2 ^ c.head : Nat) : Int) := by simp
  rw [hp] at key ⊢
  generalize 2 ^ c.head = p at *
  cases hb : c.w.testBit c.head with
  | true =>
    rw [hb] at B key
    simp only [if_true] at B key ⊢
    rcases hr with rfl | rfl
    · refine key (c.w - p) (by omega) (fun x hx => ?_) ?_
      · rw [B.2 x hx]; by_cases hxh : x = c.head <;> simp [hxh]
      · have := B.1; omega
    · refine key c.w hw (fun x hx => ?_) (by omega)
      by_cases hxh : x = c.head
      · rw [if_pos hxh, hxh, hb]; rfl
      · rw [if_neg hxh]
  | false =>
    rw [hb] at B key
    simp only [Bool.false_eq_true, if_false] at B key ⊢
    rcases hr with rfl | rfl
    · refine key c.w hw (fun x hx => ?_) (by omega)
      by_cases hxh : x = c.head
      · rw [if_pos hxh, hxh, hb]; rfl
      · rw [if_neg hxh]
    · refine key (c.w + p) B.1 (fun x hx => ?_) ?_
      · rw [B.2 x hx]; by_cases hxh : x = c.head <;> simp [hxh]
      · omega

/-- the program's configurations -/
noncomputable def nowS (M : Mach) (cells : Nat) (l : List Int) : Nat → Now
  | 0 => ⟨0, 0, 0, l⟩
  | k + 1 => { tell (runC M (startC (nowS M cells l k)) 1) with head := (clampN cells (tell (runC M (startC (nowS M cells l k)) 1)).head : Nat) }
structure UN (M : Mach) (cells : Nat) (c : Uc) (n : Now) : Prop where
  st : n.st = c.st
  hd : n.head = (c.head : Int)
  w : c.w < 2 ^ cells
  f : tapeF n.first n.tape = wf cells c.w
  len : n.tape.length ≤ 10
  fs : -1 ≤ n.first ∧ n.first ≤ 6
  sg : ∀ i ∈ n.tape, 0 ≤ i ∧ i < 2

theorem un_step {M : Mach} {cells B : Nat} {c : Uc} {n : Now} (hme : machErr M = 0) (h2 : M.signs = 2) (h1 : 1 ≤ cells) (h5 : cells ≤ 5) (hc : UOk M cells B c) (U : UN M cells c n) :
    goErr M n 1 = 0 ∧ (-2 ≤ (tell (runC M (startC n) 1)).head ∧ (tell (runC M (startC n) 1)).head ≤ 6) ∧ UN M cells (if c.st < M.states then ustep M cells c else c) { tell (runC M (startC n) 1) with head := (clampN cells (tell (runC M (startC n) 1)).head : Nat) } := by
  have hM := mach_ok hme
  have hlen := U.len
  have hfs := U.fs
  have hst := hc.st
  have hhd := hc.head
  have hw := U.w
  have hg : GOk M n 1 := ⟨hM, by omega, by rw [U.st]; exact hst, by rw [U.hd]; omega, by omega, fun i hi => by rw [h2]; exact U.sg i hi, by omega⟩
  have hge : goErr M n 1 = 0 := by
    rw [goErr, if_neg (by simp [hme]), if_neg (by omega), if_neg (by have := hg.st; have := hg.hd; omega), if_neg ?_, if_neg (by omega)]
    simp only [Bool.not_eq_false, List.all_eq_true, decide_eq_true_eq]
    exact hg.sg
  have hcok : COk M 120 (startC n) := hg.cfg
  have hsc : startC n = ⟨c.st, (c.head : Int), wf cells c.w⟩ := by
    rw [startC, U.st, U.hd, U.f]
  -- the next configuration, as it is told
  have tellU : ∀ (d : Cfg) (c' : Uc), COk M 121 d → d.st = c'.st → -1 ≤ d.head ∧ d.head ≤ cells → c'.head = clampN cells d.head → c'.w < 2 ^ cells → d.f = wf cells c'.w → (-2 ≤ (tell d).head ∧ (tell d).head ≤ 6) ∧ UN M cells c' { tell d with head := (clampN cells (tell d).head : Nat) } := fun d c' hd e1 e2 e3 e4 e5 => by
    obtain ⟨lo, hi, hs, ht, _, _⟩ := hd.tell
    obtain ⟨s1, s2, s3, s4, s5⟩ := hs
    have b1 : -1 ≤ lo ∧ lo ≤ d.head := by
      refine ⟨?_, s1⟩
      rcases s4 with h | h
      · omega
      · rw [e5] at h; have := wf_out h; omega
    have b2 : hi ≤ cells := by
      rcases s5 with h | h
      · omega
      · rw [e5] at h; have := wf_out h; omega
    rw [ht]
    refine ⟨by simp only; omega, ⟨e1, by simp only; rw [← e3], e4, ?_, by simp only [cellsF, List.length_map, List.length_range]; omega, by simp only; omega, fun i hi' => ?_⟩⟩
    · simp only
      rw [tapeF_cells (fun x hx => by have := s3 x hx; omega)]; exact e5
    · simp only [cellsF, List.mem_map] at hi'
      obtain ⟨j, _, rfl⟩ := hi'
      rw [e5]; rcases wf_01 cells c'.w (lo + j) with h | h <;> omega
  refine ⟨hge, ?_⟩
  have hr1 : runC M (startC n) 1 = if c.st < M.states then stepC M (startC n) else startC n := by
    show (if (runC M (startC n) 0).st < M.states then _ else _) = _
    simp only [runC]
    rw [hsc]
    rfl
  rw [hr1]
  by_cases hl : c.st < M.states
  · rw [if_pos hl, if_pos hl]
    have hok := stepC_ok hM hcok (by rw [hsc]; exact hl)
    have hsg : (startC n).f (startC n).head = usign c := by rw [hsc]; simp only; rw [wf_at hhd]; rfl
    have h01 := usign_01 c
    obtain ⟨⟨r1, r2⟩, ⟨r3, r4⟩, r5, r6⟩ := hM.ruleAt hst.1 hl h01.1 (by omega)
    have ws := word_step h5 hw hhd (r := (urule M c).w) (by unfold urule; omega)
    have hstep : stepC M (startC n) = ⟨(urule M c).n, (c.head : Int) + (urule M c).m, fun x => if x = c.head then (urule M c).w else wf cells c.w x⟩ := by
      unfold stepC
      rw [hsg, hsc]
      rfl
    refine tellU _ (ustep M cells c) hok ?_ ?_ ?_ ws.1 ?_
    · rw [hstep]; rfl
    · rw [hstep]; simp only [urule]; omega
    · rw [hstep]; rfl
    · rw [hstep]; funext x; exact (ws.2 x).symm
  · rw [if_neg hl, if_neg hl]
    refine tellU _ c (hcok.more (by omega)) ?_ ?_ ?_ hw ?_
    · rw [hsc]
    · rw [hsc]; simp only; omega
    · rw [hsc]; simp only [clampN]; rw [if_neg (by omega), if_neg (by omega)]; omega
    · rw [hsc]

theorem un_all {M : Mach} {cells w : Nat} {l : List Int} (hme : machErr M = 0) (h2 : M.signs = 2) (h1 : 1 ≤ cells) (h5 : cells ≤ 5) (hw : w < 2 ^ cells) (hl : l.length = cells) (h01 : ∀ i ∈ l, 0 ≤ i ∧ i < 2) (hf : tapeF 0 l = wf cells w) :
    ∀ k, UN M cells (urun M cells w k) (nowS M cells l k)
  | 0 => ⟨rfl, rfl, hw, hf, by simp only [nowS]; omega, by simp only [nowS]; omega, h01⟩
  | k + 1 => by
    have U := un_all hme h2 h1 h5 hw hl h01 hf k
    have := (un_step hme h2 h1 h5 (urun_ok (w := w) (mach_ok hme) h2 h1 h5 k) U).2.2
    rw [urun]; exact this

end Go.Av
