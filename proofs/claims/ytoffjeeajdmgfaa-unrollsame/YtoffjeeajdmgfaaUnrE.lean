/- A machine's steps as gates: a whole step, all steps (pure). -/
import Derived.Test.YtoffjeeajdmgfaaUnrC
set_option linter.unusedSimpArgs false
set_option linter.unusedVariables false
namespace Go.Av
open Go.Proofs

structure Ust where
  gs : List Gt
  ones : List Int
  heads : List (List Int)
  acc : Int
def nwh (M : Mach) (cells : Nat) : List (List Int) := List.replicate cells (List.replicate (M.states.toNat + 1) (-1))
def lvOf (M : Mach) (cells : Nat) (s : Ust) (cell : Nat) (row : List Int) : Lst :=
  lvQ M cells cell (s.ones.getD cell 0) (notR s.gs (s.ones.getD cell 0)).2 row ⟨(notR s.gs (s.ones.getD cell 0)).1, s.heads, -1, -1⟩ (2 * M.states.toNat)
def l1R (M : Mach) (cells : Nat) (s : Ust) (cell : Nat) (row : List Int) : Rst := notR (lvOf M cells s cell row).gs (lvOf M cells s cell row).er
def l2R (M : Mach) (cells : Nat) (s : Ust) (cell : Nat) (row : List Int) : Rst := andR (l1R M cells s cell row).1 (s.ones.getD cell 0) (l1R M cells s cell row).2
def l3R (M : Mach) (cells : Nat) (s : Ust) (cell : Nat) (row : List Int) : Rst := orR (l2R M cells s cell row).1 (l2R M cells s cell row).2 (lvOf M cells s cell row).wr
def leaveS (M : Mach) (cells : Nat) (s : Ust) (cell : Nat) (row : List Int) : Ust :=
  ⟨(l3R M cells s cell row).1, s.ones.set cell (l3R M cells s cell row).2, (lvOf M cells s cell row).heads, s.acc⟩
def lvC (M : Mach) (cells : Nat) (s : Ust) (before : List (List Int)) : Nat → Ust
  | 0 => s
  | i + 1 => leaveS M cells (lvC M cells s before i) i (before.getD i [])
def a1R (M : Mach) (s : Ust) (i : Nat) : Rst := andR s.gs (hAt s.heads i M.states.toNat) (s.ones.getD i 0)
def a2R (M : Mach) (s : Ust) (i : Nat) : Rst := orR (a1R M s i).1 s.acc (a1R M s i).2
def accS (M : Mach) (s : Ust) : Nat → Ust
  | 0 => s
  | i + 1 => ⟨(a2R M (accS M s i) i).1, (accS M s i).ones, (accS M s i).heads, (a2R M (accS M s i) i).2⟩
def stepS (M : Mach) (cells : Nat) (s : Ust) : Ust := accS M (lvC M cells ⟨s.gs, s.ones, nwh M cells, s.acc⟩ s.heads cells) cells

def live (M : Mach) (c : Uc) : Prop := c.st < M.states
instance (M : Mach) (c : Uc) : Decidable (live M c) := inferInstanceAs (Decidable (c.st < M.states))

theorem any_one {n p0 : Nat} {C : Prop} [Decidable C] {P : Nat → Bool} (h : C → p0 < n) : ((List.range n).any fun p => decide (C ∧ p = p0) && P p) = (decide C && P p0) := by
  by_cases hC : C
  · rw [decide_eq_true hC, Bool.true_and]
    cases hp : P p0 with
    | true => exact List.any_eq_true.2 ⟨p0, by simpa using h hC, by simp [hC, hp]⟩
    | false =>
      rw [Bool.eq_false_iff]
      intro hh
      obtain ⟨p, _, h2⟩ := List.any_eq_true.1 hh
      simp only [Bool.and_eq_true, decide_eq_true_eq] at h2
      obtain ⟨⟨_, rfl⟩, h3⟩ := h2
      rw [hp] at h3; cases h3
  · rw [decide_eq_false hC, Bool.false_and, Bool.eq_false_iff]
    intro hh
    obtain ⟨p, _, h2⟩ := List.any_eq_true.1 hh
    simp only [Bool.and_eq_true, decide_eq_true_eq] at h2
    exact hC h2.1.1

structure CI (M : Mach) (cells k : Nat) (s0 : Ust) (i : Nat) (s : Ust) : Prop where
  ok : GsOk cells s.gs
  pre : ∃ x, s.gs = s0.gs ++ x
  len : s.gs.length ≤ s0.gs.length + 16 * i
  onl : s.ones.length = cells
  onp : PL s.gs s.ones
  hs : HS s.gs s.heads cells (M.states.toNat + 1)
  acc : s.acc = s0.acc
  vo : ∀ w, w < 2 ^ cells → ∀ x, x < cells → pv w s.gs (s.ones.getD x 0) = if x < i ∧ live M (urun M cells w k) ∧ (urun M cells w k).head = x then decide ((urule M (urun M cells w k)).w = 1) else (urun M cells w k).w.testBit x
  vh : ∀ w, w < 2 ^ cells → ∀ t n, t < cells → n < M.states.toNat + 1 → pv w s.gs (hAt s.heads t n) = decide (live M (urun M cells w k) ∧ (urun M cells w k).head < i ∧ clampN cells ((urun M cells w k).head + (urule M (urun M cells w k)).m) = t ∧ (urule M (urun M cells w k)).n.toNat = n)

theorem urule_rq {M : Mach} {c : Uc} (h : 0 ≤ c.st) : rq M (2 * c.st.toNat + (usign c).toNat) = urule M c := by
  have h01 := usign_01 c
  unfold rq urule
  rw [show (((2 * c.st.toNat + (usign c).toNat) / 2 : Nat) : Int) = c.st by omega, show (((2 * c.st.toNat + (usign c).toNat) % 2 : Nat) : Int) = usign c by omega]

theorem leave_ok {M : Mach} {cells k : Nat} {s0 : Ust} {before : List (List Int)} (hM : MOk M) (h2 : M.signs = 2) (hs2 : M.states ≤ 2) (h1 : 1 ≤ cells) (h5 : cells ≤ 5)
    (h0 : GsOk cells s0.gs) (hon : s0.ones.length = cells) (hop : PL s0.gs s0.ones) (hh : HS s0.gs s0.heads cells (M.states.toNat + 1)) (hb : HS s0.gs before cells (M.states.toNat + 1))
    (hvo : ∀ w, w < 2 ^ cells → ∀ x, x < cells → pv w s0.gs (s0.ones.getD x 0) = (urun M cells w k).w.testBit x)
    (hvh : ∀ w, w < 2 ^ cells → ∀ t n, t < cells → n < M.states.toNat + 1 → pv w s0.gs (hAt s0.heads t n) = false)
    (hvb : ∀ w, w < 2 ^ cells → ∀ t n, t < cells → n < M.states.toNat → pv w s0.gs (hAt before t n) = decide ((urun M cells w k).head = t ∧ (urun M cells w k).st = (n : Int))) :
    ∀ i, i ≤ cells → CI M cells k s0 i (lvC M cells s0 before i)
  | 0, _ => ⟨h0, ⟨[], by simp [lvC]⟩, by simp [lvC], hon, hop, hh, rfl, fun w hw x hx => by rw [if_neg (by omega)]; exact hvo w hw x hx, fun w hw t n ht hn => by rw [decide_eq_false (by omega)]; exact hvh w hw t n ht hn⟩
  | i + 1, hi => by
    have I := leave_ok hM h2 hs2 h1 h5 h0 hon hop hh hb hvo hvh hvb i (by omega)
    rw [lvC]
    generalize lvC M cells s0 before i = s at *
    have s1 := hM.s1
    have uok := fun w => urun_ok (w := w) hM h2 h1 h5 k
    have hone : Part s.gs (s.ones.getD i 0) := I.onp.get (by have := I.onl; omega)
    have N := not_rs I.ok hone
    have one_v : ∀ w, w < 2 ^ cells → pv w s.gs (s.ones.getD i 0) = (urun M cells w k).w.testBit i := fun w hw => by rw [I.vo w hw i (by omega), if_neg (by omega)]
    obtain ⟨hrl, hrp⟩ := hb.get (t := i) (by omega)
    have hrow := (hrp.up I.pre).up N.pre
    have L := lvQ_ok (cell := i) (fi := fun w p => decide ((live M (urun M cells w k) ∧ (urun M cells w k).head = i) ∧ p = 2 * (urun M cells w k).st.toNat + (usign (urun M cells w k)).toNat)) hM h2 h1
      (s0 := ⟨(notR s.gs (s.ones.getD i 0)).1, s.heads, -1, -1⟩) (one := s.ones.getD i 0) (n1 := (notR s.gs (s.ones.getD i 0)).2) (row := before.getD i []) N.ok (I.hs.up N.pre) (hone.up N.pre) N.part hrow (by omega) rfl rfl
      (fun w hw q hq => by
        have hst := (uok w).st
        have e1 : pv w (notR s.gs (s.ones.getD i 0)).1 ((before.getD i []).getD (q / 2) 0) = decide ((urun M cells w k).head = i ∧ (urun M cells w k).st = ((q / 2 : Nat) : Int)) := by
          rw [pv_pre N.pre ((hrp.up I.pre).get (by omega)), pv_pre I.pre (hrp.get (by omega))]
          exact hvb w hw i (q / 2) (by omega) (by omega)
        have e2 : pv w (notR s.gs (s.ones.getD i 0)).1 (if q % 2 = 0 then (notR s.gs (s.ones.getD i 0)).2 else s.ones.getD i 0) = decide ((q % 2 = 1) ↔ (urun M cells w k).w.testBit i = true) := by
          by_cases hq2 : q % 2 = 0
          · rw [if_pos hq2, N.val w, one_v w hw]
            cases (urun M cells w k).w.testBit i <;> simp [hq2]
          · rw [if_neg hq2, pv_pre N.pre hone, one_v w hw]
            cases (urun M cells w k).w.testBit i <;> simp [show q % 2 = 1 by omega]
        simp only
        rw [e1, e2]
        generalize urun M cells w k = c at *
        rw [Bool.eq_iff_iff]
        simp only [Bool.and_eq_true, decide_eq_true_eq]
        have hus : usign c = if c.w.testBit c.head then 1 else 0 := rfl
        unfold live
        constructor
        · rintro ⟨⟨a1, a2⟩, a3⟩
          rw [a1] at hus
          refine ⟨⟨by omega, a1⟩, ?_⟩
          by_cases hbit : c.w.testBit i = true
          · rw [if_pos hbit] at hus; have := a3.2 hbit; omega
          · rw [if_neg hbit] at hus
            have : ¬ q % 2 = 1 := fun h => hbit (a3.1 h)
            omega
        · rintro ⟨⟨a1, a2⟩, a3⟩
          rw [a2] at hus
          by_cases hbit : c.w.testBit i = true
          · rw [if_pos hbit] at hus
            exact ⟨⟨a2, by omega⟩, ⟨fun _ => hbit, fun _ => by omega⟩⟩
          · rw [if_neg hbit] at hus
            exact ⟨⟨a2, by omega⟩, ⟨fun h => by omega, fun h => (hbit h).elim⟩⟩)
      (2 * M.states.toNat) (Nat.le_refl _)
    have hL : lvQ M cells i (s.ones.getD i 0) (notR s.gs (s.ones.getD i 0)).2 (before.getD i []) ⟨(notR s.gs (s.ones.getD i 0)).1, s.heads, -1, -1⟩ (2 * M.states.toNat) = lvOf M cells s i (before.getD i []) := rfl
    rw [hL] at L
    have D1 := not_rs L.ok L.ep
    have D1' : Rs cells _ (l1R M cells s i (before.getD i [])) _ := D1
    have hone2 : Part (lvOf M cells s i (before.getD i [])).gs (s.ones.getD i 0) := (hone.up N.pre).up L.pre
    have D2 := and_rs D1'.ok (hone2.up D1'.pre) D1'.part
    have D2' : Rs cells _ (l2R M cells s i (before.getD i [])) _ := D2
    have D3 := or_rs D2'.ok D2'.part ((L.wp.up D1'.pre).up D2'.pre)
    have D3' : Rs cells _ (l3R M cells s i (before.getD i [])) _ := D3
    have hlt : ∀ w, live M (urun M cells w k) ∧ (urun M cells w k).head = i → 2 * (urun M cells w k).st.toNat + (usign (urun M cells w k)).toNat < 2 * M.states.toNat := fun w hC => by
      have := (uok w).st; have := usign_01 (urun M cells w k); have hl : (urun M cells w k).st < M.states := hC.1; omega
    have vw : ∀ w, w < 2 ^ cells → pv w (lvOf M cells s i (before.getD i [])).gs (lvOf M cells s i (before.getD i [])).wr = (decide (live M (urun M cells w k) ∧ (urun M cells w k).head = i) && decide ((urule M (urun M cells w k)).w > usign (urun M cells w k))) := fun w hw => by
      rw [L.vw w hw, any_one (hlt w), urule_rq (uok w).st.1]
      have := usign_01 (urun M cells w k)
      rw [show (((2 * (urun M cells w k).st.toNat + (usign (urun M cells w k)).toNat) % 2 : Nat) : Int) = usign (urun M cells w k) by omega]
    have ve : ∀ w, w < 2 ^ cells → pv w (lvOf M cells s i (before.getD i [])).gs (lvOf M cells s i (before.getD i [])).er = (decide (live M (urun M cells w k) ∧ (urun M cells w k).head = i) && decide ((urule M (urun M cells w k)).w < usign (urun M cells w k))) := fun w hw => by
      rw [L.ve w hw, any_one (hlt w), urule_rq (uok w).st.1]
      have := usign_01 (urun M cells w k)
      rw [show (((2 * (urun M cells w k).st.toNat + (usign (urun M cells w k)).toNat) % 2 : Nat) : Int) = usign (urun M cells w k) by omega]
    have vh : ∀ w, w < 2 ^ cells → ∀ t n, t < cells → n < M.states.toNat + 1 → pv w (lvOf M cells s i (before.getD i [])).gs (hAt (lvOf M cells s i (before.getD i [])).heads t n) = (pv w s.gs (hAt s.heads t n) || (decide (live M (urun M cells w k) ∧ (urun M cells w k).head = i) && (clampN cells ((i : Int) + (urule M (urun M cells w k)).m) == t && (urule M (urun M cells w k)).n.toNat == n))) := fun w hw t n ht hn => by
      rw [L.vh w hw t n ht hn, any_one (hlt w), urule_rq (uok w).st.1]
      simp only
      rw [pv_pre N.pre (I.hs.at ht hn)]
    have D3v : ∀ w, w < 2 ^ cells → pv w (l3R M cells s i (before.getD i [])).1 (l3R M cells s i (before.getD i [])).2 = if live M (urun M cells w k) ∧ (urun M cells w k).head = i then decide ((urule M (urun M cells w k)).w = 1) else (urun M cells w k).w.testBit i := fun w hw => by
      rw [D3'.val w, D2'.val w, D1'.val w, pv_pre D2'.pre (L.wp.up D1'.pre), pv_pre D1'.pre L.wp, pv_pre D1'.pre hone2, pv_pre L.pre (hone.up N.pre), pv_pre N.pre hone, one_v w hw, vw w hw, ve w hw]
      have hst := (uok w).st
      generalize urun M cells w k = c at *
      have hus : usign c = if c.w.testBit c.head then 1 else 0 := rfl
      by_cases hC : live M c ∧ c.head = i
      · rw [if_pos hC, decide_eq_true hC]
        rw [hC.2] at hus
        have hl : c.st < M.states := hC.1
        have h01 := usign_01 c
        obtain ⟨⟨r1, r2⟩, _⟩ := hM.ruleAt hst.1 hl h01.1 (by omega)
        have hr : (urule M c).w = 0 ∨ (urule M c).w = 1 := by unfold urule; omega
        cases hbit : c.w.testBit i
        · rw [hbit] at hus; simp only [Bool.false_eq_true, if_false] at hus
          rcases hr with h | h <;> rw [h, hus] <;> decide
        · rw [hbit] at hus; simp only [if_true] at hus
          rcases hr with h | h <;> rw [h, hus] <;> decide
      · rw [if_neg hC, decide_eq_false hC]; simp
    have l1 := I.len
    have l2 := N.len
    have l3 := L.len
    have l4 := D1'.len
    have l5 := D2'.len
    have l6 := D3'.len
    simp only at l3
    obtain ⟨x1, e1⟩ := I.pre
    obtain ⟨x2, e2⟩ := N.pre
    obtain ⟨x3, e3⟩ := L.pre
    obtain ⟨x4, e4⟩ := D1'.pre
    obtain ⟨x5, e5⟩ := D2'.pre
    obtain ⟨x6, e6⟩ := D3'.pre
    simp only at e3
    have P6 : ∃ x, (l3R M cells s i (before.getD i [])).1 = s.gs ++ x := ⟨x2 ++ x3 ++ x4 ++ x5 ++ x6, by rw [e6, e5, e4, e3, e2]; simp⟩
    have P3 : ∃ x, (l3R M cells s i (before.getD i [])).1 = (lvOf M cells s i (before.getD i [])).gs ++ x := ⟨x4 ++ x5 ++ x6, by rw [e6, e5, e4]; simp⟩
    unfold leaveS
    refine ⟨D3'.ok, ⟨x1 ++ x2 ++ x3 ++ x4 ++ x5 ++ x6, by simp only; rw [e6, e5, e4, e3, e2, e1]; simp⟩, by simp only; omega, by simp only [List.length_set]; exact I.onl, (I.onp.up P6).set D3'.part, L.hs.up P3, I.acc, fun w hw x hx => ?_, fun w hw t n ht hn => ?_⟩
    · simp only
      rw [getI (by have := I.onl; omega)]
      by_cases hxi : i = x
      · subst hxi
        rw [if_pos rfl, D3v w hw]
        by_cases hC : live M (urun M cells w k) ∧ (urun M cells w k).head = i
        · rw [if_pos hC, if_pos ⟨by omega, hC.1, hC.2⟩]
        · rw [if_neg hC, if_neg (fun h => hC ⟨h.2.1, h.2.2⟩)]
      · rw [if_neg hxi, pv_pre P6 (I.onp.get (by have := I.onl; omega)), I.vo w hw x hx]
        by_cases hC : x < i ∧ live M (urun M cells w k) ∧ (urun M cells w k).head = x
        · rw [if_pos hC, if_pos ⟨by omega, hC.2.1, hC.2.2⟩]
        · rw [if_neg hC, if_neg (fun h => hC ⟨by omega, h.2.1, h.2.2⟩)]
    · simp only
      rw [pv_pre P3 (L.hs.at ht hn), vh w hw t n ht hn, I.vh w hw t n ht hn]
      generalize urun M cells w k = c at *
      rw [Bool.eq_iff_iff]
      simp only [Bool.or_eq_true, Bool.and_eq_true, decide_eq_true_eq, beq_iff_eq]
      constructor
      · rintro (⟨a, b, d, e⟩ | ⟨⟨a, b⟩, d, e⟩)
        · exact ⟨a, by omega, d, e⟩
        · subst b; exact ⟨a, by omega, d, e⟩
      · rintro ⟨a, b, d, e⟩
        by_cases hci : c.head = i
        · right; subst hci; exact ⟨⟨a, rfl⟩, d, e⟩
        · left; exact ⟨a, by omega, d, e⟩

end Go.Av
