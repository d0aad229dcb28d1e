/- Circuits for truth tables: one choice (pure). -/
import Derived.Test.YtoffjeeajdmgfaaGateF
set_option linter.unusedSimpArgs false
set_option linter.unusedVariables false
namespace Go.Av
open Go.Proofs

def pG (d : Nat) : Gt := ⟨1, d, 0⟩
def nG (p : Nat) : Gt := ⟨2, p, 0⟩
def aG (a : Nat) (b : Int) : Gt := ⟨3, a, b⟩
def oG (a : Nat) (b : Int) : Gt := ⟨4, a, b⟩
abbrev Bst := List Gt × Nat
def stp (gs : List Gt) (g : Gt) : Bst := (addG gs g, addN gs g)
def posS (gs : List Gt) (d : Nat) : Bst := stp gs (pG d)
def negS (gs : List Gt) (d : Nat) : Bst := stp (posS gs d).1 (nG (posS gs d).2)
def c7a (gs : List Gt) (d : Nat) (yes : Int) : Bst := stp (posS gs d).1 (aG (posS gs d).2 yes)
def c7b (gs : List Gt) (d : Nat) (no yes : Int) : Bst := stp (negS (c7a gs d yes).1 d).1 (aG (negS (c7a gs d yes).1 d).2 no)
/-- one choice -/
def chB (gs : List Gt) (d : Nat) (no yes : Int) : Bst :=
  if no = -1 ∧ yes = -2 then posS gs d
  else if no = -2 ∧ yes = -1 then negS gs d
  else if no = -1 then stp (posS gs d).1 (aG (posS gs d).2 yes)
  else if no = -2 then stp (negS gs d).1 (oG (negS gs d).2 yes)
  else if yes = -1 then stp (negS gs d).1 (aG (negS gs d).2 no)
  else if yes = -2 then stp (posS gs d).1 (oG (posS gs d).2 no)
  else stp (c7b gs d no yes).1 (oG (c7a gs d yes).2 (c7b gs d no yes).2)
def chS (gs : List Gt) (d : Nat) (no yes : Int) : List Gt × Int := if no = yes then (gs, no) else ((chB gs d no yes).1, ((chB gs d no yes).2 : Int))

/-- the value of a part -/
def pv (w : Nat) (gs : List Gt) (p : Int) : Bool := if p = -1 then false else if p = -2 then true else gvn w gs p.toNat
def Part (gs : List Gt) (p : Int) : Prop := p = -1 ∨ p = -2 ∨ (0 ≤ p ∧ p < gs.length)
theorem pv_pre {w : Nat} {l l' : List Gt} {p : Int} (hp : ∃ r, l' = l ++ r) (h : Part l p) : pv w l' p = pv w l p := by
  unfold pv
  by_cases h1 : p = -1
  · rw [if_pos h1, if_pos h1]
  by_cases h2 : p = -2
  · rw [if_neg h1, if_neg h1, if_pos h2, if_pos h2]
  · rw [if_neg h1, if_neg h1, if_neg h2, if_neg h2]
    have : 0 ≤ p ∧ p < l.length := by rcases h with h | h | h <;> omega
    exact gvn_pre hp (by omega)

/-- how many of the two gates of an input there are -/
def hasN (gs : List Gt) (d : Nat) : Bool := match gpos (pG d) gs with | some p => (gpos (nG p) gs).isSome | none => false
def phi (gs : List Gt) (d : Nat) : Nat := (gpos (pG d) gs).isSome.toNat + (hasN gs d).toNat
theorem phi_le (gs : List Gt) (d : Nat) : phi gs d ≤ 2 := by
  unfold phi
  cases (gpos (pG d) gs).isSome <;> cases hasN gs d <;> simp
theorem phi_app {gs r : List Gt} {d : Nat} : phi gs d ≤ phi (gs ++ r) d := by
  unfold phi hasN
  cases hp : gpos (pG d) gs with
  | none => simp
  | some p =>
    rw [gpos_app hp]
    simp only [Option.isSome_some]
    cases hn : gpos (nG p) gs with
    | none => simp
    | some q => rw [gpos_app hn]; simp
theorem phi_pre {gs gs' : List Gt} {d : Nat} (h : ∃ r, gs' = gs ++ r) : phi gs d ≤ phi gs' d := by
  obtain ⟨r, rfl⟩ := h; exact phi_app

/-- what a step does -/
structure Bs (inn : Int) (d : Nat) (gs : List Gt) (r : Bst) (c : Nat) (V : Nat → Bool) : Prop where
  ok : GsOk inn r.1
  pre : ∃ x, r.1 = gs ++ x
  lt : r.2 < r.1.length
  val : ∀ w, gvn w r.1 r.2 = V w
  cnt : r.1.length + phi gs d ≤ gs.length + c + phi r.1 d
  mem : ∀ x ∈ r.1, x ∈ gs ∨ (x.kind = 1 → x.a = d)
  has : pG d ∈ r.1

theorem pos_bs {inn : Int} {gs : List Gt} {d : Nat} (h : GsOk inn gs) (hd : (d : Int) < inn) : Bs inn d gs (posS gs d) 0 (fun w => w.testBit d) := by
  have hg : GtOk inn gs.length (pG d) := ⟨by simp [pG], fun _ => ⟨by simp [pG], by simpa [pG] using hd⟩, fun h => by simp [pG] at h, fun h => by simp [pG] at h⟩
  refine ⟨gsOk_add h hg, addG_pre _ _, addN_lt _ _, fun w => ?_, ?_, fun x hx => (addG_mem hx).imp id (fun h => by subst h; intro _; rfl), addG_in _ _⟩
  · show gvn w (addG gs (pG d)) (addN gs (pG d)) = _
    rw [gvn_add h hg]; simp [gop, pG]
  · show (addG gs (pG d)).length + phi gs d ≤ gs.length + 0 + phi (addG gs (pG d)) d
    cases hp : gpos (pG d) gs with
    | some n => unfold addG; rw [hp]; simp
    | none =>
      have h1 : phi gs d = 0 := by unfold phi hasN; rw [hp]; rfl
      have h2 : 1 ≤ phi (addG gs (pG d)) d := by unfold phi; rw [gpos_add]; simp
      have := (addG_len gs (pG d)).2
      omega
theorem neg_bs {inn : Int} {gs : List Gt} {d : Nat} (h : GsOk inn gs) (hd : (d : Int) < inn) : Bs inn d gs (negS gs d) 0 (fun w => !w.testBit d) := by
  have b := pos_bs h hd
  have hpp : gpos (pG d) (posS gs d).1 = some (posS gs d).2 := gpos_add gs (pG d)
  unfold negS
  generalize posS gs d = r at *
  have hg : GtOk inn r.1.length (nG r.2) := ⟨by simp [nG], fun h => by simp [nG] at h, fun _ => ⟨by simp [nG], by have := b.lt; simp [nG]; omega⟩, fun h => by simp [nG] at h⟩
  obtain ⟨x, hx⟩ := b.pre
  obtain ⟨y, hy⟩ := addG_pre r.1 (nG r.2)
  refine ⟨gsOk_add b.ok hg, ⟨x ++ y, by show addG r.1 (nG r.2) = _; rw [hy, hx]; simp⟩, addN_lt _ _, fun w => ?_, ?_, fun z hz => ?_, mem_addG b.has⟩
  · show gvn w (addG r.1 (nG r.2)) (addN r.1 (nG r.2)) = _
    rw [gvn_add b.ok hg]
    simp [gop, nG, b.val]
  · show (addG r.1 (nG r.2)).length + phi gs d ≤ gs.length + 0 + phi (addG r.1 (nG r.2)) d
    have hc := b.cnt
    have hup : phi r.1 d ≤ phi (addG r.1 (nG r.2)) d := phi_pre (addG_pre _ _)
    cases hn : gpos (nG r.2) r.1 with
    | some n => unfold addG at hup ⊢; rw [hn] at hup ⊢; simp only at hup ⊢; omega
    | none =>
      have h1 : phi r.1 d = 1 := by unfold phi hasN; rw [hpp]; simp [hn]
      have h2 : phi (addG r.1 (nG r.2)) d = 2 := by
        unfold phi hasN
        have hp2 : gpos (pG d) (addG r.1 (nG r.2)) = some r.2 := by obtain ⟨z, hz⟩ := addG_pre r.1 (nG r.2); rw [hz]; exact gpos_app hpp
        rw [hp2]
        simp [gpos_add]
      have := (addG_len r.1 (nG r.2)).2
      omega
  · rcases addG_mem hz with hz | hz
    · exact b.mem z hz
    · subst hz; exact .inr (fun h => by simp [nG] at h)
/-- a gate more -/
theorem bs_stp {inn : Int} {gs : List Gt} {d c : Nat} {r : Bst} {V : Nat → Bool} {g : Gt} {V' : Nat → Bool} (b : Bs inn d gs r c V) (hg : GtOk inn r.1.length g) (hk : g.kind ≠ 1) (hv : ∀ w, gop w (gvn w r.1) g = V' w) : Bs inn d gs (stp r.1 g) (c + 1) V' := by
  obtain ⟨x, hx⟩ := b.pre
  obtain ⟨y, hy⟩ := addG_pre r.1 g
  refine ⟨gsOk_add b.ok hg, ⟨x ++ y, by show addG r.1 g = _; rw [hy, hx]; simp⟩, addN_lt _ _, fun w => ?_, ?_, fun z hz => ?_, mem_addG b.has⟩
  · show gvn w (addG r.1 g) (addN r.1 g) = _
    rw [gvn_add b.ok hg]; exact hv w
  · show (addG r.1 g).length + phi gs d ≤ gs.length + (c + 1) + phi (addG r.1 g) d
    have hc := b.cnt
    have hup : phi r.1 d ≤ phi (addG r.1 g) d := phi_pre (addG_pre _ _)
    have := (addG_len r.1 g).2
    omega
  · rcases addG_mem hz with hz | hz
    · exact b.mem z hz
    · subst hz; exact .inr (fun h => (hk h).elim)

theorem aG_ok {inn : Int} {n a : Nat} {b : Int} (ha : a < n) (hb : 0 ≤ b ∧ b < n) : GtOk inn n (aG a b) := ⟨by simp [aG], fun h => by simp [aG] at h, fun _ => ⟨by simp [aG], by simp [aG]; omega⟩, fun _ => hb⟩
theorem oG_ok {inn : Int} {n a : Nat} {b : Int} (ha : a < n) (hb : 0 ≤ b ∧ b < n) : GtOk inn n (oG a b) := ⟨by simp [oG], fun h => by simp [oG] at h, fun _ => ⟨by simp [oG], by simp [oG]; omega⟩, fun _ => hb⟩
theorem gop_a (w : Nat) (v : Nat → Bool) (a : Nat) (b : Int) : gop w v (aG a b) = (v a && v b.toNat) := by simp [gop, aG]
theorem gop_o (w : Nat) (v : Nat → Bool) (a : Nat) (b : Int) : gop w v (oG a b) = (v a || v b.toNat) := by simp [gop, oG]
theorem pv_gate {w : Nat} {gs : List Gt} {p : Int} (h : 0 ≤ p) : pv w gs p = gvn w gs p.toNat := by
  unfold pv; rw [if_neg (by omega), if_neg (by omega)]

theorem chB_spec {inn : Int} {gs : List Gt} {d : Nat} {no yes : Int} (h : GsOk inn gs) (hd : (d : Int) < inn) (hn : Part gs no) (hy : Part gs yes) (hne : no ≠ yes) :
    Bs inn d gs (chB gs d no yes) 3 (fun w => bif w.testBit d then pv w gs yes else pv w gs no) ∧ Ext gs (chB gs d no yes).1 (chB gs d no yes).2 := by
  have bp := pos_bs h hd
  have bn := neg_bs h hd
  have ep : Ext gs (posS gs d).1 (posS gs d).2 := Ext.add _ _
  have en : Ext gs (negS gs d).1 (negS gs d).2 := ep.one bp.ok (by simp [nG]) (by simp [nG])
  have up : ∀ {c V r}, Bs inn d gs r c V → ∀ p : Int, 0 ≤ p → p < gs.length → 0 ≤ p ∧ p < (r.1.length : Int) := fun {c V r} b p h1 h2 => by
    obtain ⟨x, hx⟩ := b.pre
    rw [hx, List.length_append]; omega
  have old : ∀ {c V r}, Bs inn d gs r c V → ∀ w (p : Int), 0 ≤ p → p < gs.length → gvn w r.1 p.toNat = pv w gs p := fun {c V r} b w p h1 h2 => by
    rw [pv_gate h1]; exact gvn_pre b.pre (by omega)
  have weak : ∀ {c V r}, c ≤ 3 → Bs inn d gs r c V → Bs inn d gs r 3 V := fun {c V r} hc b => ⟨b.ok, b.pre, b.lt, b.val, by have := b.cnt; omega, b.mem, b.has⟩
  have cong : ∀ {c V V' r}, (∀ w, V w = V' w) → Bs inn d gs r c V → Bs inn d gs r c V' := fun {c V V' r} hv b => ⟨b.ok, b.pre, b.lt, fun w => (b.val w).trans (hv w), b.cnt, b.mem, b.has⟩
  have m1 : ∀ w, pv w gs (-1) = false := fun w => rfl
  have m2 : ∀ w, pv w gs (-2) = true := fun w => rfl
  unfold chB
  by_cases c1 : no = -1 ∧ yes = -2
  · rw [if_pos c1]
    obtain ⟨rfl, rfl⟩ := c1
    exact ⟨weak (by omega) (cong (fun w => by rw [m1, m2]; cases w.testBit d <;> rfl) bp), ep⟩
  rw [if_neg c1]
  by_cases c2 : no = -2 ∧ yes = -1
  · rw [if_pos c2]
    obtain ⟨rfl, rfl⟩ := c2
    exact ⟨weak (by omega) (cong (fun w => by rw [m1, m2]; cases w.testBit d <;> rfl) bn), en⟩
  rw [if_neg c2]
  by_cases c3 : no = -1
  · rw [if_pos c3]
    subst c3
    have hyy : 0 ≤ yes ∧ yes < gs.length := by rcases hy with h | h | h <;> omega
    refine ⟨weak (by omega) (bs_stp bp (aG_ok bp.lt (up bp yes hyy.1 hyy.2)) (by simp [aG]) (fun w => ?_)), ?_⟩
    · rw [gop_a, bp.val, old bp w yes hyy.1 hyy.2, m1]; cases w.testBit d <;> rfl
    · have h0 := up bp yes hyy.1 hyy.2
      exact Ext.two (b := yes.toNat) ep (Ext.self (by omega)) bp.ok (by simp [aG]) rfl (by simp [aG]; omega)
  rw [if_neg c3]
  by_cases c4 : no = -2
  · rw [if_pos c4]
    subst c4
    have hyy : 0 ≤ yes ∧ yes < gs.length := by rcases hy with h | h | h <;> omega
    refine ⟨weak (by omega) (bs_stp bn (oG_ok bn.lt (up bn yes hyy.1 hyy.2)) (by simp [oG]) (fun w => ?_)), ?_⟩
    · rw [gop_o, bn.val, old bn w yes hyy.1 hyy.2, m2]; cases w.testBit d <;> simp
    · have h0 := up bn yes hyy.1 hyy.2
      exact Ext.two (b := yes.toNat) en (Ext.self (by omega)) bn.ok (by simp [oG]) rfl (by simp [oG]; omega)
  rw [if_neg c4]
  have hnn : 0 ≤ no ∧ no < gs.length := by rcases hn with h | h | h <;> omega
  by_cases c5 : yes = -1
  · rw [if_pos c5]
    subst c5
    refine ⟨weak (by omega) (bs_stp bn (aG_ok bn.lt (up bn no hnn.1 hnn.2)) (by simp [aG]) (fun w => ?_)), ?_⟩
    · rw [gop_a, bn.val, old bn w no hnn.1 hnn.2, m1]; cases w.testBit d <;> simp
    · have h0 := up bn no hnn.1 hnn.2
      exact Ext.two (b := no.toNat) en (Ext.self (by omega)) bn.ok (by simp [aG]) rfl (by simp [aG]; omega)
  rw [if_neg c5]
  by_cases c6 : yes = -2
  · rw [if_pos c6]
    subst c6
    refine ⟨weak (by omega) (bs_stp bp (oG_ok bp.lt (up bp no hnn.1 hnn.2)) (by simp [oG]) (fun w => ?_)), ?_⟩
    · rw [gop_o, bp.val, old bp w no hnn.1 hnn.2, m2]; cases w.testBit d <;> simp
    · have h0 := up bp no hnn.1 hnn.2
      exact Ext.two (b := no.toNat) ep (Ext.self (by omega)) bp.ok (by simp [oG]) rfl (by simp [oG]; omega)
  rw [if_neg c6]
  have hyy : 0 ≤ yes ∧ yes < gs.length := by rcases hy with h | h | h <;> omega
  -- both are gates
  have ba : Bs inn d gs (c7a gs d yes) 1 (fun w => w.testBit d && pv w gs yes) :=
    bs_stp bp (aG_ok bp.lt (up bp yes hyy.1 hyy.2)) (by simp [aG]) (fun w => by rw [gop_a, bp.val, old bp w yes hyy.1 hyy.2])
  have h0 := up bp yes hyy.1 hyy.2
  have ea : Ext gs (c7a gs d yes).1 (c7a gs d yes).2 := Ext.two (b := yes.toNat) ep (Ext.self (by omega)) bp.ok (by simp [aG]) rfl (by simp [aG]; omega)
  have hmid : ∀ r, r = c7a gs d yes → Bs inn d gs (c7b gs d no yes) 2 (fun w => !w.testBit d && pv w gs no) ∧ Ext r.1 (c7b gs d no yes).1 (c7b gs d no yes).2 := by
    intro r hr
    rw [← hr] at ba ea
    unfold c7b
    rw [← hr]
    have bn2 := neg_bs ba.ok hd
    have bp2 := pos_bs ba.ok hd
    have e2 : Ext r.1 (negS r.1 d).1 (negS r.1 d).2 := Ext.one (Ext.add r.1 (pG d)) bp2.ok (by simp [nG]) (by simp [nG, posS, stp])
    obtain ⟨x, hx⟩ := ba.pre
    obtain ⟨y, hy'⟩ := bn2.pre
    have bq : Bs inn d gs (negS r.1 d) 1 (fun w => !w.testBit d) := by
      refine ⟨bn2.ok, ⟨x ++ y, by rw [hy', hx]; simp⟩, bn2.lt, bn2.val, ?_, fun z hz => ?_, bn2.has⟩
      · have h1 := ba.cnt
        have h2 := bn2.cnt
        omega
      · rcases bn2.mem z hz with hz | hz
        · exact ba.mem z hz
        · exact .inr hz
    have h3 := up bq no hnn.1 hnn.2
    refine ⟨bs_stp bq (aG_ok bq.lt h3) (by simp [aG]) (fun w => by rw [gop_a, bq.val, old bq w no hnn.1 hnn.2]), ?_⟩
    exact Ext.two (b := no.toNat) e2 (Ext.self (by omega)) bn2.ok (by simp [aG]) rfl (by simp [aG]; omega)
  obtain ⟨bb, eb⟩ := hmid _ rfl
  have hlt : (c7a gs d yes).2 < (c7b gs d no yes).1.length := by have h1 := ba.lt; have h2 := eb.len; omega
  refine ⟨bs_stp bb (oG_ok hlt ⟨by omega, by have := bb.lt; omega⟩) (by simp [oG]) (fun w => ?_), ?_⟩
  · rw [gop_o, Int.toNat_natCast, bb.val, gvn_pre eb.pre ba.lt, ba.val]
    cases w.testBit d <;> simp
  · exact Ext.two ea eb bb.ok (by simp [oG]) rfl rfl

end Go.Av
