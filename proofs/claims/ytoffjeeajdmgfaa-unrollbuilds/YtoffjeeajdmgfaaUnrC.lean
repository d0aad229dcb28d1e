/- A machine's steps as gates (pure). -/
import Derived.Test.YtoffjeeajdmgfaaUnrA
import Derived.Test.YtoffjeeajdmgfaaCirA
set_option linter.unusedSimpArgs false
set_option linter.unusedVariables false
namespace Go.Av
open Go.Proofs

def hAt (h : List (List Int)) (t n : Nat) : Int := (h.getD t []).getD n 0
def hSet (h : List (List Int)) (t n : Nat) (x : Int) : List (List Int) := h.set t ((h.getD t []).set n x)
def PL (gs : List Gt) (l : List Int) : Prop := ∀ x ∈ l, Part gs x
theorem PL.up {gs gs' : List Gt} {l : List Int} (h : PL gs l) (hp : ∃ x, gs' = gs ++ x) : PL gs' l := fun x hx => (h x hx).up hp
theorem PL.get {gs : List Gt} {l : List Int} (h : PL gs l) {i : Nat} (hi : i < l.length) : Part gs (l.getD i 0) := h _ (by rw [List.getD_eq_getElem?_getD, List.getElem?_eq_getElem hi]; exact List.getElem_mem hi)
theorem PL.set {gs : List Gt} {l : List Int} (h : PL gs l) {i : Nat} {x : Int} (hx : Part gs x) : PL gs (l.set i x) := fun y hy => by
  rcases List.mem_or_eq_of_mem_set hy with h1 | h1
  · exact h y h1
  · rw [h1]; exact hx
theorem getI {l : List Int} {i j : Nat} {x : Int} (hi : i < l.length) : (l.set i x).getD j 0 = if i = j then x else l.getD j 0 := by
  rw [List.getD_eq_getElem?_getD, List.getElem?_set]
  by_cases h : i = j
  · subst h; rw [if_pos rfl, if_pos hi, if_pos rfl]; rfl
  · rw [if_neg h, if_neg h, List.getD_eq_getElem?_getD]
/-- so many rows of so many numbers -/
structure HS (gs : List Gt) (h : List (List Int)) (c m : Nat) : Prop where
  len : h.length = c
  row : ∀ r ∈ h, r.length = m ∧ PL gs r
theorem HS.up {gs gs' : List Gt} {h : List (List Int)} {c m : Nat} (H : HS gs h c m) (hp : ∃ x, gs' = gs ++ x) : HS gs' h c m := ⟨H.len, fun r hr => ⟨(H.row r hr).1, (H.row r hr).2.up hp⟩⟩
theorem HS.get {gs : List Gt} {h : List (List Int)} {c m t : Nat} (H : HS gs h c m) (ht : t < c) : (h.getD t []).length = m ∧ PL gs (h.getD t []) := by
  have hl := H.len
  refine H.row _ ?_
  rw [List.getD_eq_getElem?_getD, List.getElem?_eq_getElem (by omega)]; exact List.getElem_mem _
theorem HS.at {gs : List Gt} {h : List (List Int)} {c m t n : Nat} (H : HS gs h c m) (ht : t < c) (hn : n < m) : Part gs (hAt h t n) := by
  obtain ⟨h1, h2⟩ := H.get ht
  exact h2.get (by omega)
theorem HS.set {gs : List Gt} {h : List (List Int)} {c m t n : Nat} {x : Int} (H : HS gs h c m) (ht : t < c) (hx : Part gs x) : HS gs (hSet h t n x) c m := by
  obtain ⟨h1, h2⟩ := H.get ht
  refine ⟨by rw [hSet, List.length_set]; exact H.len, fun r hr => ?_⟩
  rcases List.mem_or_eq_of_mem_set hr with hh | hh
  · exact H.row r hh
  · rw [hh]; exact ⟨by rw [List.length_set]; exact h1, h2.set hx⟩
theorem hAt_set {gs : List Gt} {h : List (List Int)} {c m t n t' n' : Nat} {x : Int} (H : HS gs h c m) (ht : t < c) (hn : n < m) : hAt (hSet h t n x) t' n' = if t = t' ∧ n = n' then x else hAt h t' n' := by
  have hl := H.len
  obtain ⟨h1, _⟩ := H.get ht
  unfold hAt hSet
  have e : (h.set t ((h.getD t []).set n x)).getD t' [] = if t = t' then (h.getD t []).set n x else h.getD t' [] := by
    rw [List.getD_eq_getElem?_getD, List.getElem?_set]
    by_cases hh : t = t'
    · subst hh; rw [if_pos rfl, if_pos (by omega), if_pos rfl]; rfl
    · rw [if_neg hh, if_neg hh, List.getD_eq_getElem?_getD]
  rw [e]
  by_cases hh : t = t'
  · subst hh
    rw [if_pos rfl, getI (by omega)]
    by_cases hnn : n = n'
    · rw [if_pos hnn, if_pos ⟨rfl, hnn⟩]
    · rw [if_neg hnn, if_neg (fun h => hnn h.2)]
  · rw [if_neg hh, if_neg (fun h => hh h.1)]

def rq (M : Mach) (q : Nat) : Rule := ruleAt M ((q / 2 : Nat) : Int) ((q % 2 : Nat) : Int)
structure Lst where
  gs : List Gt
  heads : List (List Int)
  wr : Int
  er : Int
def apR (one n1 : Int) (row : List Int) (s : Lst) (q : Nat) : Rst := andR s.gs (row.getD (q / 2) 0) (if q % 2 = 0 then n1 else one)
def nxR (M : Mach) (cells cell : Nat) (one n1 : Int) (row : List Int) (s : Lst) (q : Nat) : Rst :=
  orR (apR one n1 row s q).1 (hAt s.heads (clampN cells ((cell : Int) + (rq M q).m)) (rq M q).n.toNat) (apR one n1 row s q).2
/-- one rule's gates -/
def ruS (M : Mach) (cells cell : Nat) (one n1 : Int) (row : List Int) (s : Lst) (q : Nat) : Lst :=
  if (rq M q).w > ((q % 2 : Nat) : Int) then
    ⟨(orR (nxR M cells cell one n1 row s q).1 s.wr (apR one n1 row s q).2).1, hSet s.heads (clampN cells ((cell : Int) + (rq M q).m)) (rq M q).n.toNat (nxR M cells cell one n1 row s q).2, (orR (nxR M cells cell one n1 row s q).1 s.wr (apR one n1 row s q).2).2, s.er⟩
  else if (rq M q).w < ((q % 2 : Nat) : Int) then
    ⟨(orR (nxR M cells cell one n1 row s q).1 s.er (apR one n1 row s q).2).1, hSet s.heads (clampN cells ((cell : Int) + (rq M q).m)) (rq M q).n.toNat (nxR M cells cell one n1 row s q).2, s.wr, (orR (nxR M cells cell one n1 row s q).1 s.er (apR one n1 row s q).2).2⟩
  else ⟨(nxR M cells cell one n1 row s q).1, hSet s.heads (clampN cells ((cell : Int) + (rq M q).m)) (rq M q).n.toNat (nxR M cells cell one n1 row s q).2, s.wr, s.er⟩
def lvQ (M : Mach) (cells cell : Nat) (one n1 : Int) (row : List Int) (s0 : Lst) : Nat → Lst
  | 0 => s0
  | q + 1 => ruS M cells cell one n1 row (lvQ M cells cell one n1 row s0 q) q

structure LI (M : Mach) (cells cell : Nat) (s0 : Lst) (fi : Nat → Nat → Bool) (q : Nat) (s : Lst) : Prop where
  ok : GsOk cells s.gs
  pre : ∃ x, s.gs = s0.gs ++ x
  len : s.gs.length ≤ s0.gs.length + 3 * q
  hs : HS s.gs s.heads cells (M.states.toNat + 1)
  wp : Part s.gs s.wr
  ep : Part s.gs s.er
  vh : ∀ w, w < 2 ^ cells → ∀ t n, t < cells → n < M.states.toNat + 1 → pv w s.gs (hAt s.heads t n) = (pv w s0.gs (hAt s0.heads t n) || (List.range q).any fun p => fi w p && (clampN cells ((cell : Int) + (rq M p).m) == t && (rq M p).n.toNat == n))
  vw : ∀ w, w < 2 ^ cells → pv w s.gs s.wr = (List.range q).any fun p => fi w p && decide ((rq M p).w > ((p % 2 : Nat) : Int))
  ve : ∀ w, w < 2 ^ cells → pv w s.gs s.er = (List.range q).any fun p => fi w p && decide ((rq M p).w < ((p % 2 : Nat) : Int))

theorem clampN_lt {cells : Nat} {h : Int} (h1 : 1 ≤ cells) : clampN cells h < cells := by
  unfold clampN; split
  · omega
  · split <;> omega
theorem rq_ok {M : Mach} (hM : MOk M) (h2 : M.signs = 2) {q : Nat} (hq : q < 2 * M.states.toNat) : (0 ≤ (rq M q).w ∧ (rq M q).w ≤ 1) ∧ (-1 ≤ (rq M q).m ∧ (rq M q).m ≤ 1) ∧ 0 ≤ (rq M q).n ∧ (rq M q).n.toNat < M.states.toNat + 1 := by
  have := hM.s1
  obtain ⟨⟨a, b⟩, ⟨c, d⟩, e, f⟩ := hM.ruleAt (s := ((q / 2 : Nat) : Int)) (g := ((q % 2 : Nat) : Int)) (by omega) (by omega) (by omega) (by omega)
  unfold rq
  exact ⟨⟨a, by omega⟩, ⟨c, d⟩, e, by omega⟩

theorem lvQ_ok {M : Mach} {cells cell : Nat} {one n1 : Int} {row : List Int} {s0 : Lst} {fi : Nat → Nat → Bool} (hM : MOk M) (h2 : M.signs = 2) (h1 : 1 ≤ cells)
    (h0 : GsOk cells s0.gs) (hs : HS s0.gs s0.heads cells (M.states.toNat + 1)) (ho : Part s0.gs one) (hn : Part s0.gs n1) (hr : PL s0.gs row) (hrl : M.states.toNat ≤ row.length) (hw : s0.wr = -1) (he : s0.er = -1)
    (hf : ∀ w, w < 2 ^ cells → ∀ q, q < 2 * M.states.toNat → (pv w s0.gs (row.getD (q / 2) 0) && pv w s0.gs (if q % 2 = 0 then n1 else one)) = fi w q) :
    ∀ q, q ≤ 2 * M.states.toNat → LI M cells cell s0 fi q (lvQ M cells cell one n1 row s0 q)
  | 0, _ => ⟨h0, ⟨[], by simp [lvQ]⟩, by simp [lvQ], hs, by rw [lvQ, hw]; exact .inl rfl, by rw [lvQ, he]; exact .inl rfl, fun w _ t n _ _ => by simp [lvQ], fun w _ => by rw [lvQ, hw]; rfl, fun w _ => by rw [lvQ, he]; rfl⟩
  | q + 1, hq => by
    have I := lvQ_ok (cell := cell) hM h2 h1 h0 hs ho hn hr hrl hw he hf q (by omega)
    rw [lvQ]
    generalize lvQ M cells cell one n1 row s0 q = s at *
    obtain ⟨⟨w0, w1⟩, ⟨m0, m1⟩, n0, n1'⟩ := rq_ok hM h2 (q := q) (by omega)
    have hrow : Part s0.gs (row.getD (q / 2) 0) := hr.get (by omega)
    have hrd : Part s0.gs (if q % 2 = 0 then n1 else one) := by split <;> assumption
    have A := and_rs I.ok (hrow.up I.pre) (hrd.up I.pre)
    have ht := clampN_lt (cells := cells) (h := (cell : Int) + (rq M q).m) h1
    have av : ∀ w, w < 2 ^ cells → pv w (apR one n1 row s q).1 (apR one n1 row s q).2 = fi w q := fun w hw => by
      rw [← hf w hw q (by omega)]
      unfold apR
      rw [A.val, pv_pre I.pre hrow, pv_pre I.pre hrd]
    have A' : Rs cells s.gs (apR one n1 row s q) _ := A
    have hr1 : ∀ (f : Nat → Bool), (List.range (q + 1)).any f = ((List.range q).any f || f q) := fun f => by rw [List.range_succ, List.any_append]; simp
    obtain ⟨x1, e1⟩ := I.pre
    obtain ⟨x2, e2⟩ := A'.pre
    have hat := I.hs.at ht n1'
    have O := or_rs A'.ok (hat.up A'.pre) A'.part
    have O' : Rs cells (apR one n1 row s q).1 (nxR M cells cell one n1 row s q) _ := O
    obtain ⟨x3, e3⟩ := O'.pre
    have hH2 : HS (nxR M cells cell one n1 row s q).1 s.heads cells (M.states.toNat + 1) := (I.hs.up A'.pre).up O'.pre
    have hH := hH2.set (n := (rq M q).n.toNat) ht O'.part
    have ov : ∀ w, w < 2 ^ cells → ∀ t n, t < cells → n < M.states.toNat + 1 → pv w (nxR M cells cell one n1 row s q).1 (hAt (hSet s.heads (clampN cells ((cell : Int) + (rq M q).m)) (rq M q).n.toNat (nxR M cells cell one n1 row s q).2) t n) =
        (pv w s0.gs (hAt s0.heads t n) || (List.range (q + 1)).any fun p => fi w p && (clampN cells ((cell : Int) + (rq M p).m) == t && (rq M p).n.toNat == n)) := fun w hw t n htl hnl => by
      rw [hAt_set hH2 ht n1', hr1]
      by_cases hh : clampN cells ((cell : Int) + (rq M q).m) = t ∧ (rq M q).n.toNat = n
      · rw [if_pos hh]
        obtain ⟨rfl, rfl⟩ := hh
        rw [O'.val w, av w hw, pv_pre A'.pre hat, I.vh w hw _ _ ht n1']
        simp [Bool.or_assoc]
      · rw [if_neg hh, pv_pre O'.pre ((I.hs.at htl hnl).up A'.pre), pv_pre A'.pre (I.hs.at htl hnl), I.vh w hw t n htl hnl]
        have : (clampN cells ((cell : Int) + (rq M q).m) == t && (rq M q).n.toNat == n) = false := by
          rw [Bool.eq_false_iff]; intro hc; simp at hc; exact hh hc
        rw [this]; simp
    have l1 := I.len
    have l2 := A'.len
    have l3 := O'.len
    have apU := A'.part.up O'.pre
    have wU := (I.wp.up A'.pre).up O'.pre
    have eU := (I.ep.up A'.pre).up O'.pre
    have pvw : ∀ w, pv w (nxR M cells cell one n1 row s q).1 s.wr = pv w s.gs s.wr := fun w => by rw [pv_pre O'.pre (I.wp.up A'.pre), pv_pre A'.pre I.wp]
    have pve : ∀ w, pv w (nxR M cells cell one n1 row s q).1 s.er = pv w s.gs s.er := fun w => by rw [pv_pre O'.pre (I.ep.up A'.pre), pv_pre A'.pre I.ep]
    have pva : ∀ w, w < 2 ^ cells → pv w (nxR M cells cell one n1 row s q).1 (apR one n1 row s q).2 = fi w q := fun w hw => by rw [pv_pre O'.pre A'.part]; exact av w hw
    unfold ruS
    generalize nxR M cells cell one n1 row s q = o at *
    generalize apR one n1 row s q = a at *
    by_cases c1 : (rq M q).w > ((q % 2 : Nat) : Int)
    · rw [if_pos c1]
      have W := or_rs O'.ok wU apU
      have l4 := W.len
      generalize orR o.1 s.wr a.2 = r at *
      obtain ⟨x4, e4⟩ := W.pre
      refine ⟨W.ok, ⟨x1 ++ x2 ++ x3 ++ x4, by simp only; rw [e4, e3, e2, e1]; simp⟩, by simp only; omega, hH.up W.pre, W.part, eU.up W.pre, fun w hw t n htl hnl => ?_, fun w hw => ?_, fun w hw => ?_⟩
      · simp only; rw [pv_pre W.pre (hH.at htl hnl)]; exact ov w hw t n htl hnl
      · simp only; rw [W.val w, pvw, pva w hw, I.vw w hw, hr1, decide_eq_true c1]; simp
      · simp only; rw [pv_pre W.pre eU, pve, I.ve w hw, hr1, decide_eq_false (show ¬ (rq M q).w < ((q % 2 : Nat) : Int) by omega)]; simp
    rw [if_neg c1]
    by_cases c2 : (rq M q).w < ((q % 2 : Nat) : Int)
    · rw [if_pos c2]
      have W := or_rs O'.ok eU apU
      have l4 := W.len
      generalize orR o.1 s.er a.2 = r at *
      obtain ⟨x4, e4⟩ := W.pre
      refine ⟨W.ok, ⟨x1 ++ x2 ++ x3 ++ x4, by simp only; rw [e4, e3, e2, e1]; simp⟩, by simp only; omega, hH.up W.pre, wU.up W.pre, W.part, fun w hw t n htl hnl => ?_, fun w hw => ?_, fun w hw => ?_⟩
      · simp only; rw [pv_pre W.pre (hH.at htl hnl)]; exact ov w hw t n htl hnl
      · simp only; rw [pv_pre W.pre wU, pvw, I.vw w hw, hr1, decide_eq_false c1]; simp
      · simp only; rw [W.val w, pve, pva w hw, I.ve w hw, hr1, decide_eq_true c2]; simp
    · rw [if_neg c2]
      refine ⟨O'.ok, ⟨x1 ++ x2 ++ x3, by simp only; rw [e3, e2, e1]; simp⟩, by simp only; omega, hH, wU, eU, ov, fun w hw => ?_, fun w hw => ?_⟩
      · simp only; rw [pvw, I.vw w hw, hr1, decide_eq_false c1]; simp
      · simp only; rw [pve, I.ve w hw, hr1, decide_eq_false c2]; simp

end Go.Av
