/- A machine's steps as gates: all steps, and the circuit (pure). -/
import Derived.Test.YtoffjeeajdmgfaaUnrE
set_option linter.unusedSimpArgs false
set_option linter.unusedVariables false
namespace Go.Av
open Go.Proofs

structure UI (M : Mach) (cells k : Nat) (s : Ust) : Prop where
  ok : GsOk cells s.gs
  ne : s.gs ≠ []
  len : s.gs.length ≤ 5 + 100 * k
  onl : s.ones.length = cells
  onp : PL s.gs s.ones
  hs : HS s.gs s.heads cells (M.states.toNat + 1)
  ap : Part s.gs s.acc
  vo : ∀ w, w < 2 ^ cells → ∀ x, x < cells → pv w s.gs (s.ones.getD x 0) = (urun M cells w k).w.testBit x
  vb : ∀ w, w < 2 ^ cells → ∀ t n, t < cells → n < M.states.toNat → pv w s.gs (hAt s.heads t n) = decide ((urun M cells w k).head = t ∧ (urun M cells w k).st = (n : Int))
  va : ∀ w, w < 2 ^ cells → pv w s.gs s.acc = asked M cells k w

theorem nwh_hs (M : Mach) (cells : Nat) (gs : List Gt) : HS gs (nwh M cells) cells (M.states.toNat + 1) := by
  refine ⟨by simp [nwh], fun r hr => ?_⟩
  have := List.eq_of_mem_replicate hr
  subst this
  exact ⟨by simp, fun x hx => .inl (List.eq_of_mem_replicate hx)⟩
theorem nwh_at (M : Mach) (cells t n : Nat) (ht : t < cells) (hn : n < M.states.toNat + 1) : hAt (nwh M cells) t n = -1 := by
  unfold hAt nwh
  rw [List.getD_eq_getElem?_getD, List.getD_eq_getElem?_getD, List.getElem?_replicate, if_pos ht, Option.getD_some, List.getElem?_replicate, if_pos hn]; rfl

structure AI (M : Mach) (cells k : Nat) (s0 : Ust) (i : Nat) (s : Ust) : Prop where
  ok : GsOk cells s.gs
  pre : ∃ x, s.gs = s0.gs ++ x
  len : s.gs.length ≤ s0.gs.length + 2 * i
  on : s.ones = s0.ones
  hd : s.heads = s0.heads
  ap : Part s.gs s.acc
  va : ∀ w, w < 2 ^ cells → pv w s.gs s.acc = (asked M cells k w || decide (live M (urun M cells w k) ∧ (ustep M cells (urun M cells w k)).st = M.states ∧ (ustep M cells (urun M cells w k)).head < i ∧ (ustep M cells (urun M cells w k)).w.testBit (ustep M cells (urun M cells w k)).head = true))

theorem acc_ok {M : Mach} {cells k : Nat} {s0 : Ust} (hM : MOk M) (h0 : GsOk cells s0.gs) (hon : s0.ones.length = cells) (hop : PL s0.gs s0.ones) (hh : HS s0.gs s0.heads cells (M.states.toNat + 1)) (hap : Part s0.gs s0.acc)
    (hva : ∀ w, w < 2 ^ cells → pv w s0.gs s0.acc = asked M cells k w)
    (hvo : ∀ w, w < 2 ^ cells → live M (urun M cells w k) → ∀ x, x < cells → pv w s0.gs (s0.ones.getD x 0) = (ustep M cells (urun M cells w k)).w.testBit x)
    (hvh : ∀ w, w < 2 ^ cells → ∀ t, t < cells → pv w s0.gs (hAt s0.heads t M.states.toNat) = decide (live M (urun M cells w k) ∧ (ustep M cells (urun M cells w k)).head = t ∧ (ustep M cells (urun M cells w k)).st = M.states)) :
    ∀ i, i ≤ cells → AI M cells k s0 i (accS M s0 i)
  | 0, _ => ⟨h0, ⟨[], by simp [accS]⟩, by simp [accS], rfl, rfl, hap, fun w hw => by
    rw [decide_eq_false (by omega), Bool.or_false]; exact hva w hw⟩
  | i + 1, hi => by
    have I := acc_ok hM h0 hon hop hh hap hva hvo hvh i (by omega)
    rw [accS]
    generalize accS M s0 i = s at *
    have hon' := I.on
    have hhd' := I.hd
    have ph : Part s.gs (hAt s.heads i M.states.toNat) := by rw [hhd']; exact (hh.at (by omega) (by omega)).up I.pre
    have po : Part s.gs (s.ones.getD i 0) := by rw [hon']; exact (hop.get (by omega)).up I.pre
    have A := and_rs I.ok ph po
    have A' : Rs cells _ (a1R M s i) _ := A
    have O := or_rs A'.ok (I.ap.up A'.pre) A'.part
    have O' : Rs cells _ (a2R M s i) _ := O
    have l1 := I.len
    have l2 := A'.len
    have l3 := O'.len
    obtain ⟨x1, e1⟩ := I.pre
    obtain ⟨x2, e2⟩ := A'.pre
    obtain ⟨x3, e3⟩ := O'.pre
    refine ⟨O'.ok, ⟨x1 ++ x2 ++ x3, by simp only; rw [e3, e2, e1]; simp⟩, by simp only; omega, hon', hhd', O'.part, fun w hw => ?_⟩
    simp only
    rw [O'.val w, A'.val w, pv_pre A'.pre I.ap, I.va w hw, hon', hhd', pv_pre I.pre (hh.at (show i < cells by omega) (by omega)), pv_pre I.pre (hop.get (by omega)), hvh w hw i (by omega)]
    by_cases hl : live M (urun M cells w k)
    · rw [hvo w hw hl i (by omega)]
      generalize ustep M cells (urun M cells w k) = c at *
      rw [Bool.eq_iff_iff]
      simp only [Bool.or_eq_true, Bool.and_eq_true, decide_eq_true_eq]
      constructor
      · rintro ((a | ⟨a, b, d, e⟩) | ⟨⟨a, b, d⟩, e⟩)
        · exact .inl a
        · exact .inr ⟨a, b, by omega, e⟩
        · subst b; exact .inr ⟨a, d, by omega, e⟩
      · rintro (a | ⟨a, b, d, e⟩)
        · exact .inl (.inl a)
        · by_cases hci : c.head = i
          · right; subst hci; exact ⟨⟨a, rfl, b⟩, e⟩
          · left; right; exact ⟨a, b, by omega, e⟩
    · rw [decide_eq_false (fun h => hl h.1), decide_eq_false (fun h => hl h.1), decide_eq_false (fun h => hl h.1)]
      simp

theorem step_ok {M : Mach} {cells k : Nat} {s : Ust} (hM : MOk M) (h2 : M.signs = 2) (hs2 : M.states ≤ 2) (h1 : 1 ≤ cells) (h5 : cells ≤ 5) (U : UI M cells k s) : UI M cells (k + 1) (stepS M cells s) := by
  have s1 := hM.s1
  have uok := fun w => urun_ok (w := w) hM h2 h1 h5 k
  have C := leave_ok (k := k) (s0 := ⟨s.gs, s.ones, nwh M cells, s.acc⟩) (before := s.heads) hM h2 hs2 h1 h5 U.ok U.onl U.onp (nwh_hs M cells s.gs) U.hs U.vo (fun w hw t n ht hn => by simp only; rw [nwh_at M cells t n ht hn]; rfl) U.vb cells (Nat.le_refl _)
  unfold stepS
  generalize lvC M cells ⟨s.gs, s.ones, nwh M cells, s.acc⟩ s.heads cells = c at *
  have hbits : ∀ w, w < 2 ^ cells → (urun M cells w k).w < 2 ^ cells := fun w hw => by
    suffices h : ∀ j, (urun M cells w j).w < 2 ^ cells from h k
    intro j
    induction j with
    | zero => exact hw
    | succ j ih =>
      rw [urun]
      split
      · rename_i hl
        have uj := urun_ok (w := w) hM h2 h1 h5 j
        have h01 := usign_01 (urun M cells w j)
        obtain ⟨⟨r1, r2⟩, _⟩ := hM.ruleAt uj.st.1 hl h01.1 (by omega)
        exact (word_step h5 ih uj.head (r := (urule M (urun M cells w j)).w) (by unfold urule; omega)).1
      · exact ih
  have ustep_bit : ∀ w, w < 2 ^ cells → live M (urun M cells w k) → ∀ x, x < cells → (ustep M cells (urun M cells w k)).w.testBit x = if (urun M cells w k).head = x then decide ((urule M (urun M cells w k)).w = 1) else (urun M cells w k).w.testBit x := fun w hw hl x hx => by
    have uj := uok w
    have h01 := usign_01 (urun M cells w k)
    obtain ⟨⟨r1, r2⟩, _⟩ := hM.ruleAt uj.st.1 (show (urun M cells w k).st < M.states from hl) h01.1 (by omega)
    have hr : (urule M (urun M cells w k)).w = 0 ∨ (urule M (urun M cells w k)).w = 1 := by unfold urule; omega
    have ws := (word_step h5 (hbits w hw) uj.head (r := (urule M (urun M cells w k)).w) hr).2 (x : Int)
    have e : ((((urun M cells w k).w : Nat) : Int) - usign (urun M cells w k) * 2 ^ (urun M cells w k).head + (urule M (urun M cells w k)).w * 2 ^ (urun M cells w k).head).toNat = (ustep M cells (urun M cells w k)).w := rfl
    rw [e, wf_at hx, wf_at hx] at ws
    by_cases hxh : (urun M cells w k).head = x
    · rw [if_pos (show ((x : Nat) : Int) = (((urun M cells w k).head : Nat) : Int) by omega)] at ws
      rw [if_pos hxh]
      rcases hr with h | h <;> rw [h] at ws ⊢ <;> cases hb : (ustep M cells (urun M cells w k)).w.testBit x <;> rw [hb] at ws <;> simp at ws ⊢
    · rw [if_neg (show ¬ ((x : Nat) : Int) = (((urun M cells w k).head : Nat) : Int) by omega)] at ws
      rw [if_neg hxh]
      cases hb : (ustep M cells (urun M cells w k)).w.testBit x <;> cases hb2 : (urun M cells w k).w.testBit x <;> rw [hb, hb2] at ws <;> simp at ws ⊢
  have rn : ∀ w, live M (urun M cells w k) → 0 ≤ (urule M (urun M cells w k)).n ∧ (urule M (urun M cells w k)).n ≤ M.states := fun w hl => by
    have uj := uok w
    have h01 := usign_01 (urun M cells w k)
    obtain ⟨_, _, r⟩ := hM.ruleAt uj.st.1 (show (urun M cells w k).st < M.states from hl) h01.1 (by omega)
    unfold urule; exact r
  have cap : Part c.gs c.acc := by rw [C.acc]; exact U.ap.up C.pre
  have cva : ∀ w, w < 2 ^ cells → pv w c.gs c.acc = asked M cells k w := fun w hw => by rw [C.acc, pv_pre C.pre U.ap]; exact U.va w hw
  have A := acc_ok (k := k) hM C.ok C.onl C.onp C.hs cap cva
    (fun w hw hl x hx => by
      rw [C.vo w hw x hx, ustep_bit w hw hl x hx]
      by_cases hxh : (urun M cells w k).head = x
      · rw [if_pos hxh, if_pos ⟨hx, hl, hxh⟩]
      · rw [if_neg hxh, if_neg (fun h => hxh h.2.2)])
    (fun w hw t ht => by
      rw [C.vh w hw t M.states.toNat ht (by omega)]
      have hhd := (uok w).head
      apply decide_eq_decide.2
      constructor
      · rintro ⟨a, b, d, e⟩
        have := rn w a
        exact ⟨a, d, show (urule M (urun M cells w k)).n = M.states by omega⟩
      · rintro ⟨a, d, e⟩
        have e : (urule M (urun M cells w k)).n = M.states := e
        exact ⟨a, hhd, d, by omega⟩)
    cells (Nat.le_refl _)
  generalize accS M c cells = d at *
  have hl1 := C.len
  have hl2 := A.len
  have hl3 := U.len
  simp only at hl1
  have PP : ∃ x, d.gs = s.gs ++ x := by
    obtain ⟨x1, e1⟩ := C.pre
    obtain ⟨x2, e2⟩ := A.pre
    exact ⟨x1 ++ x2, by rw [e2, e1]; simp⟩
  have urs : ∀ w, urun M cells w (k + 1) = if live M (urun M cells w k) then ustep M cells (urun M cells w k) else urun M cells w k := fun w => rfl
  refine ⟨A.ok, ?_, by omega, by rw [A.on]; exact C.onl, by rw [A.on]; exact C.onp.up A.pre, by rw [A.hd]; exact C.hs.up A.pre, A.ap, fun w hw x hx => ?_, fun w hw t n ht hn => ?_, fun w hw => ?_⟩
  · obtain ⟨x, e⟩ := PP
    rw [e]; have := U.ne; simp [this]
  · rw [A.on, pv_pre A.pre (C.onp.get (by have := C.onl; omega)), C.vo w hw x hx, urs]
    by_cases hl : live M (urun M cells w k)
    · rw [if_pos hl, ustep_bit w hw hl x hx]
      by_cases hxh : (urun M cells w k).head = x
      · rw [if_pos hxh, if_pos ⟨hx, hl, hxh⟩]
      · rw [if_neg hxh, if_neg (fun h => hxh h.2.2)]
    · rw [if_neg hl, if_neg (fun h => hl h.2.1)]
  · rw [A.hd, pv_pre A.pre (C.hs.at ht (by omega)), C.vh w hw t n ht (by omega), urs]
    have hhd := (uok w).head
    have hst := (uok w).st
    apply decide_eq_decide.2
    by_cases hl : live M (urun M cells w k)
    · rw [if_pos hl]
      have := rn w hl
      constructor
      · rintro ⟨a, b, d, e⟩
        exact ⟨d, show (urule M (urun M cells w k)).n = (n : Int) by omega⟩
      · rintro ⟨d, e⟩
        have e : (urule M (urun M cells w k)).n = (n : Int) := e
        exact ⟨hl, hhd, d, by omega⟩
    · rw [if_neg hl]
      constructor
      · rintro ⟨a, _⟩; exact (hl a).elim
      · rintro ⟨_, e⟩
        exact (hl (show (urun M cells w k).st < M.states by omega)).elim
  · rw [A.va w hw]
    have hhd := (uok w).head
    have hst := (uok w).st
    by_cases hl : live M (urun M cells w k)
    · have hu : urun M cells w (k + 1) = ustep M cells (urun M cells w k) := by rw [urs, if_pos hl]
      have hn : asked M cells k w = false := by
        have hl' : (urun M cells w k).st < M.states := hl
        rw [asked, decide_eq_false (by omega), Bool.false_and]
      have hch : (ustep M cells (urun M cells w k)).head < cells := clampN_lt h1
      rw [hn, Bool.false_or, asked, hu, Bool.eq_iff_iff]
      simp only [Bool.and_eq_true, decide_eq_true_eq]
      constructor
      · rintro ⟨a, b, d, e⟩; exact ⟨b, e⟩
      · rintro ⟨b, e⟩; exact ⟨hl, b, hch, e⟩
    · have hu : urun M cells w (k + 1) = urun M cells w k := by rw [urs, if_neg hl]
      rw [decide_eq_false (fun h => hl h.1), Bool.or_false, asked, asked, hu]

/-- the inputs -/
def inS (cells : Nat) : Nat → List Gt × List Int
  | 0 => ([], List.replicate cells 0)
  | i + 1 => ((inR (inS cells i).1 (i : Int)).1, (inS cells i).2.set i (inR (inS cells i).1 (i : Int)).2)
structure InI (cells i : Nat) (s : List Gt × List Int) : Prop where
  ok : GsOk cells s.1
  len : s.1.length ≤ i
  ne : 0 < i → s.1 ≠ []
  onl : s.2.length = cells
  onp : ∀ x, x < i → Part s.1 (s.2.getD x 0)
  vo : ∀ w x, x < i → pv w s.1 (s.2.getD x 0) = w.testBit x
theorem in_ok {cells : Nat} : ∀ i, i ≤ cells → InI cells i (inS cells i)
  | 0, _ => ⟨fun i h => by simp [inS] at h, by simp [inS], fun h => by omega, by simp [inS], fun x hx => by omega, fun w x hx => by omega⟩
  | i + 1, hi => by
    have I := in_ok (cells := cells) i (by omega)
    rw [inS]
    generalize inS cells i = s at *
    have R := in_rs I.ok (show 0 ≤ (i : Int) ∧ (i : Int) < cells by omega)
    have l1 := I.len
    have l2 := R.len
    have hl := I.onl
    refine ⟨R.ok, by simp only; omega, fun _ h => ?_, by simp only [List.length_set]; exact hl, fun x hx => ?_, fun w x hx => ?_⟩
    · have := addN_lt s.1 ⟨1, (i : Int), 0⟩
      rw [show addG s.1 ⟨1, (i : Int), 0⟩ = [] from h] at this; simp at this
    · simp only
      rw [getI (by omega)]
      by_cases hx2 : i = x
      · rw [if_pos hx2]; exact R.part
      · rw [if_neg hx2]; exact (I.onp x (by omega)).up R.pre
    · simp only
      rw [getI (by omega)]
      by_cases hx2 : i = x
      · rw [if_pos hx2, R.val w, Int.toNat_natCast, hx2]
      · rw [if_neg hx2, pv_pre R.pre (I.onp x (by omega))]; exact I.vo w x (by omega)
def uS0 (M : Mach) (cells : Nat) : Ust := ⟨(inS cells cells).1, (inS cells cells).2, hSet (nwh M cells) 0 0 (-2), -1⟩
def uSk (M : Mach) (cells : Nat) : Nat → Ust
  | 0 => uS0 M cells
  | k + 1 => stepS M cells (uSk M cells k)
theorem uS0_ok {M : Mach} {cells : Nat} (hM : MOk M) (h1 : 1 ≤ cells) (h5 : cells ≤ 5) : UI M cells 0 (uS0 M cells) := by
  have I := in_ok (cells := cells) cells (Nat.le_refl _)
  have s1 := hM.s1
  unfold uS0
  generalize inS cells cells = s at *
  have hl := I.onl
  have H := nwh_hs M cells s.1
  refine ⟨I.ok, I.ne (by omega), by have := I.len; simp only; omega, hl, fun x hx => ?_, H.set (by omega) (.inr (.inl rfl)), .inl rfl, fun w _ x hx => I.vo w x hx, fun w hw t n ht hn => ?_, fun w hw => ?_⟩
  · obtain ⟨j, hj, rfl⟩ := List.getElem_of_mem hx
    have := I.onp j (by simp only at hj; omega)
    rwa [List.getD_eq_getElem?_getD, List.getElem?_eq_getElem hj] at this
  · simp only
    rw [hAt_set H (by omega) (by omega)]
    by_cases hh : 0 = t ∧ 0 = n
    · obtain ⟨rfl, rfl⟩ := hh
      rw [if_pos ⟨rfl, rfl⟩, pv_m2]
      exact (decide_eq_true ⟨rfl, rfl⟩).symm
    · rw [if_neg hh, nwh_at M cells t n ht (by omega), pv_m1]
      refine (decide_eq_false (fun h => hh ⟨h.1, ?_⟩)).symm
      have : ((0 : Int)) = (n : Int) := h.2
      omega
  · simp only
    rw [pv_m1, asked, urun, decide_eq_false (by simp only; omega)]; rfl
theorem uSk_ok {M : Mach} {cells : Nat} (hM : MOk M) (h2 : M.signs = 2) (hs2 : M.states ≤ 2) (h1 : 1 ≤ cells) (h5 : cells ≤ 5) : ∀ k, UI M cells k (uSk M cells k)
  | 0 => uS0_ok hM h1 h5
  | k + 1 => step_ok hM h2 hs2 h1 h5 (uSk_ok hM h2 hs2 h1 h5 k)
def unrR (M : Mach) (cells steps : Nat) : List Gt := prune (setS (uSk M cells steps).gs (uSk M cells steps).acc).1 (setS (uSk M cells steps).gs (uSk M cells steps).acc).2.toNat
theorem unrR_ok {M : Mach} {cells steps : Nat} (hM : MOk M) (h2 : M.signs = 2) (hs2 : M.states ≤ 2) (h1 : 1 ≤ cells) (h5 : cells ≤ 5) (h6 : steps ≤ 6) :
    1 ≤ (unrR M cells steps).length ∧ (unrR M cells steps).length ≤ 100000 ∧ GsOk cells (unrR M cells steps) ∧ ∀ w, w < 2 ^ cells → gval w (unrR M cells steps) = asked M cells steps w := by
  have U := uSk_ok hM h2 hs2 h1 h5 steps
  unfold unrR
  generalize uSk M cells steps = s at *
  obtain ⟨q1, _, q3, q4, q5, q6⟩ := set_ok U.ok (show (1 : Int) ≤ cells by omega) U.ap
  generalize setS s.gs s.acc = r at *
  obtain ⟨p1, p2, p3, p4, _⟩ := prune_ok q1 (show r.2.toNat < r.1.length by omega)
  have hl := U.len
  exact ⟨p1, by omega, p3, fun w hw => by rw [p4, q6, U.va w hw]⟩

end Go.Av
