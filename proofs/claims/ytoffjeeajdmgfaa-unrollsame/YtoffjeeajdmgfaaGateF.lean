/- Circuits that are built gate by gate, where a known gate is not added again (pure). -/
import Derived.Test.YtoffjeeajdmgfaaGateE
set_option linter.unusedSimpArgs false
set_option linter.unusedVariables false
namespace Go.Av
open Go.Proofs

def gpos (g : Gt) : List Gt → Option Nat
  | [] => none
  | h :: r => if h.kind = g.kind ∧ h.a = g.a ∧ h.b = g.b then some 0 else (gpos g r).map (· + 1)
def addG (gs : List Gt) (g : Gt) : List Gt := match gpos g gs with | some _ => gs | none => gs ++ [g]
def addN (gs : List Gt) (g : Gt) : Nat := (gpos g gs).getD gs.length

theorem gt_ext {g h : Gt} (h1 : h.kind = g.kind) (h2 : h.a = g.a) (h3 : h.b = g.b) : h = g := by
  cases g; cases h; simp_all
theorem gpos_get {g : Gt} : ∀ {gs : List Gt} {n : Nat}, gpos g gs = some n → gs[n]? = some g
  | h :: r, n, hn => by
    simp only [gpos] at hn
    split at hn
    · rename_i hc
      cases hn
      simp [gt_ext hc.1 hc.2.1 hc.2.2]
    · rw [Option.map_eq_some_iff] at hn
      obtain ⟨m, hm, rfl⟩ := hn
      simpa using gpos_get hm
theorem gpos_lt {g : Gt} {gs : List Gt} {n : Nat} (h : gpos g gs = some n) : n < gs.length := (List.getElem?_eq_some_iff.1 (gpos_get h)).1
theorem gpos_some {g : Gt} : ∀ {gs : List Gt}, g ∈ gs → ∃ n, gpos g gs = some n
  | h :: r, hm => by
    simp only [gpos]
    by_cases hc : h.kind = g.kind ∧ h.a = g.a ∧ h.b = g.b
    · exact ⟨0, by rw [if_pos hc]⟩
    · rw [if_neg hc]
      rcases List.mem_cons.1 hm with rfl | hm
      · exact (hc ⟨rfl, rfl, rfl⟩).elim
      · obtain ⟨n, hn⟩ := gpos_some hm
        exact ⟨n + 1, by rw [hn]; rfl⟩
theorem gpos_none {g : Gt} {gs : List Gt} (h : gpos g gs = none) : g ∉ gs := fun hm => by
  obtain ⟨n, hn⟩ := gpos_some hm
  rw [h] at hn; cases hn
theorem gpos_app {g : Gt} {r : List Gt} : ∀ {gs : List Gt} {n : Nat}, gpos g gs = some n → gpos g (gs ++ r) = some n
  | h :: gs, n, hn => by
    simp only [gpos, List.cons_append] at hn ⊢
    split at hn
    · rename_i hc; rw [if_pos hc]; exact hn
    · rename_i hc
      rw [if_neg hc]
      rw [Option.map_eq_some_iff] at hn ⊢
      obtain ⟨m, hm, rfl⟩ := hn
      exact ⟨m, gpos_app hm, rfl⟩
theorem gpos_snoc {g : Gt} : ∀ {gs : List Gt}, gpos g gs = none → gpos g (gs ++ [g]) = some gs.length
  | [], _ => by simp [gpos]
  | h :: gs, hn => by
    simp only [gpos, List.cons_append] at hn ⊢
    split at hn
    · cases hn
    · rename_i hc
      rw [if_neg hc, gpos_snoc (by simpa using hn)]; rfl
theorem gpos_add (gs : List Gt) (g : Gt) : gpos g (addG gs g) = some (addN gs g) := by
  unfold addG addN
  cases h : gpos g gs with
  | some n => exact h
  | none => exact gpos_snoc h
theorem addG_pre (gs : List Gt) (g : Gt) : ∃ r, addG gs g = gs ++ r := by
  unfold addG
  cases h : gpos g gs with
  | some n => exact ⟨[], by simp⟩
  | none => exact ⟨[g], rfl⟩
theorem addG_len (gs : List Gt) (g : Gt) : gs.length ≤ (addG gs g).length ∧ (addG gs g).length ≤ gs.length + 1 := by
  unfold addG
  cases h : gpos g gs with
  | some n => simp
  | none => simp
theorem addG_mem {gs : List Gt} {g x : Gt} (h : x ∈ addG gs g) : x ∈ gs ∨ x = g := by
  unfold addG at h
  cases hp : gpos g gs with
  | some n => rw [hp] at h; exact .inl h
  | none => rw [hp] at h; simpa using h
theorem addG_in (gs : List Gt) (g : Gt) : g ∈ addG gs g := List.mem_of_getElem? (gpos_get (gpos_add gs g))
theorem mem_addG {gs : List Gt} {g x : Gt} (h : x ∈ gs) : x ∈ addG gs g := by
  obtain ⟨r, hr⟩ := addG_pre gs g
  rw [hr]; exact List.mem_append.2 (.inl h)
theorem addN_lt (gs : List Gt) (g : Gt) : addN gs g < (addG gs g).length := gpos_lt (gpos_add gs g)

theorem GtOk.up {inn : Int} {i j : Nat} {g : Gt} (h : GtOk inn i g) (hij : i ≤ j) : GtOk inn j g :=
  ⟨h.kind, h.input, fun hk => ⟨(h.first hk).1, by have := (h.first hk).2; omega⟩, fun hk => ⟨(h.second hk).1, by have := (h.second hk).2; omega⟩⟩
theorem gsOk_add {inn : Int} {gs : List Gt} {g : Gt} (h : GsOk inn gs) (hg : GtOk inn gs.length g) : GsOk inn (addG gs g) := by
  unfold addG
  cases gpos g gs with
  | some n => exact h
  | none => exact gsOk_snoc h hg
theorem gsOk_get {inn : Int} {gs : List Gt} {g : Gt} {n : Nat} (h : GsOk inn gs) (hn : gs[n]? = some g) : GtOk inn n g := by
  obtain ⟨hl, rfl⟩ := List.getElem?_eq_some_iff.1 hn
  exact h n hl

/-- the value of a gate -/
def gvn (w : Nat) (gs : List Gt) (n : Nat) : Bool := (gvk w gs gs.length).getD n false
def gop (w : Nat) (v : Nat → Bool) (g : Gt) : Bool :=
  if g.kind = 1 then w.testBit g.a.toNat else if g.kind = 2 then !(v g.a.toNat) else if g.kind = 3 then v g.a.toNat && v g.b.toNat else v g.a.toNat || v g.b.toNat
theorem gev_gop (w : Nat) (v : List Bool) (g : Gt) : gev w v g = gop w (fun i => v.getD i false) g := rfl
theorem gop_congr {inn : Int} {w : Nat} {v v' : Nat → Bool} {g : Gt} {n : Nat} (hg : GtOk inn n g) (h : ∀ i, i < n → v i = v' i) : gop w v g = gop w v' g := by
  unfold gop
  have h1 := hg.kind
  by_cases k1 : g.kind = 1
  · rw [if_pos k1, if_pos k1]
  have h2 := hg.first k1
  rw [if_neg k1, if_neg k1, h g.a.toNat (by omega)]
  by_cases k2 : g.kind = 2
  · rw [if_pos k2, if_pos k2]
  have h3 := hg.second (by omega)
  rw [if_neg k2, if_neg k2, h g.b.toNat (by omega)]
theorem gvk_old (w : Nat) (l : List Gt) {i k n : Nat} (hi : n < i) (hk : i ≤ k) : (gvk w l k).getD n false = (gvk w l i).getD n false := by
  induction k with
  | zero => omega
  | succ k ih =>
    by_cases h : i = k + 1
    · subst h; rfl
    · rw [gvk, List.getD_eq_getElem?_getD, List.getElem?_append_left (by rw [gvk_length]; omega), ← List.getD_eq_getElem?_getD, ih (by omega)]
theorem gvn_app {w : Nat} {l r : List Gt} {n : Nat} (h : n < l.length) : gvn w (l ++ r) n = gvn w l n := by
  unfold gvn
  rw [gvk_old w (l ++ r) h (by simp), gvk_app (Nat.le_refl _)]
theorem gvn_pre {w : Nat} {l l' : List Gt} {n : Nat} (hp : ∃ r, l' = l ++ r) (h : n < l.length) : gvn w l' n = gvn w l n := by
  obtain ⟨r, rfl⟩ := hp; exact gvn_app h
theorem gvn_get {inn : Int} {w : Nat} {l : List Gt} {g : Gt} {n : Nat} (h : GsOk inn l) (hn : l[n]? = some g) : gvn w l n = gop w (gvn w l) g := by
  have hl := (List.getElem?_eq_some_iff.1 hn).1
  have hk := gvk_length w l n
  have h1 : gvn w l n = gev w (gvk w l n) g := by
    unfold gvn
    rw [gvk_old w l (i := n + 1) (by omega) (by omega), gvk, List.getD_eq_getElem?_getD, List.getElem?_append_right (by omega), hk, gAt, hn]
    simp
  rw [h1, gev_gop]
  exact gop_congr (gsOk_get h hn) (fun i hi => (gvk_old w l hi (by omega)).symm)
theorem gvn_add {inn : Int} {w : Nat} {gs : List Gt} {g : Gt} (h : GsOk inn gs) (hg : GtOk inn gs.length g) : gvn w (addG gs g) (addN gs g) = gop w (gvn w gs) g := by
  rw [gvn_get (gsOk_add h hg) (gpos_get (gpos_add gs g))]
  exact gop_congr hg (fun i hi => gvn_pre (addG_pre gs g) hi)
theorem gval_gvn {w : Nat} {l : List Gt} : gval w l = gvn w l (l.length - 1) := rfl

/-- what has been added ends with the gate n, or nothing has been added -/
def Ext (gs gs' : List Gt) (n : Nat) : Prop := (gs' = gs ∧ n < gs.length) ∨ ∃ r, r ≠ [] ∧ gs' = gs ++ r ∧ n + 1 = gs'.length
theorem Ext.pre {gs gs' : List Gt} {n : Nat} (h : Ext gs gs' n) : ∃ r, gs' = gs ++ r := by
  rcases h with ⟨rfl, _⟩ | ⟨r, _, h, _⟩
  · exact ⟨[], by simp⟩
  · exact ⟨r, h⟩
theorem Ext.lt {gs gs' : List Gt} {n : Nat} (h : Ext gs gs' n) : n < gs'.length := by
  rcases h with ⟨rfl, h⟩ | ⟨r, _, _, h⟩
  · exact h
  · omega
theorem Ext.len {gs gs' : List Gt} {n : Nat} (h : Ext gs gs' n) : gs.length ≤ gs'.length := by
  obtain ⟨r, rfl⟩ := h.pre; simp
theorem Ext.self {gs : List Gt} {n : Nat} (h : n < gs.length) : Ext gs gs n := .inl ⟨rfl, h⟩
theorem Ext.add (gs : List Gt) (g : Gt) : Ext gs (addG gs g) (addN gs g) := by
  unfold addG addN
  cases h : gpos g gs with
  | some n => exact .inl ⟨rfl, gpos_lt h⟩
  | none => exact .inr ⟨[g], by simp, rfl, by simp⟩
theorem Ext.one {inn : Int} {gs gs1 : List Gt} {a : Nat} {g : Gt} (h : Ext gs gs1 a) (ho : GsOk inn gs1) (hk : g.kind ≠ 1) (ha : g.a = a) : Ext gs (addG gs1 g) (addN gs1 g) := by
  rcases h with ⟨rfl, h⟩ | ⟨r, hr, he, hn⟩
  · exact Ext.add _ _
  · unfold addG addN
    cases h : gpos g gs1 with
    | some q =>
      exfalso
      have h1 := (gsOk_get ho (gpos_get h)).first hk
      have h2 := gpos_lt h
      omega
    | none => exact .inr ⟨r ++ [g], by simp, by simp [he], by simp⟩
theorem Ext.two {inn : Int} {gs gs1 gs2 : List Gt} {a b : Nat} {g : Gt} (h : Ext gs gs1 a) (h' : Ext gs1 gs2 b) (ho : GsOk inn gs2) (hk : 3 ≤ g.kind) (ha : g.a = a) (hb : g.b = b) : Ext gs (addG gs2 g) (addN gs2 g) := by
  rcases h' with ⟨rfl, h'⟩ | ⟨r, hr, he, hn⟩
  · exact h.one ho (by omega) ha
  · unfold addG addN
    cases hg : gpos g gs2 with
    | some q =>
      exfalso
      have h1 := (gsOk_get ho (gpos_get hg)).second hk
      have h2 := gpos_lt hg
      omega
    | none =>
      obtain ⟨r0, h0⟩ := h.pre
      exact .inr ⟨r0 ++ r ++ [g], by simp, by simp [he, h0], by simp⟩

end Go.Av
