/- Circuits with constants that are reckoned with; circuits of which only the gates that are needed are kept (pure). -/
import Derived.Test.YtoffjeeajdmgfaaGateG
set_option linter.unusedSimpArgs false
set_option linter.unusedVariables false
namespace Go.Av
open Go.Proofs

abbrev Rst := List Gt × Int
def addR (gs : List Gt) (g : Gt) : Rst := (addG gs g, (addN gs g : Int))
def inR (gs : List Gt) (i : Int) : Rst := addR gs ⟨1, i, 0⟩
def notR (gs : List Gt) (a : Int) : Rst := if a = -1 then (gs, -2) else if a = -2 then (gs, -1) else addR gs ⟨2, a, 0⟩
def andR (gs : List Gt) (a b : Int) : Rst := if a = -1 ∨ b = -1 then (gs, -1) else if a = -2 then (gs, b) else if b = -2 then (gs, a) else addR gs ⟨3, a, b⟩
def orR (gs : List Gt) (a b : Int) : Rst := if a = -2 ∨ b = -2 then (gs, -2) else if a = -1 then (gs, b) else if b = -1 then (gs, a) else addR gs ⟨4, a, b⟩

/-- what an operation comes to -/
structure Rs (inn : Int) (gs : List Gt) (r : Rst) (V : Nat → Bool) : Prop where
  ok : GsOk inn r.1
  pre : ∃ x, r.1 = gs ++ x
  len : r.1.length ≤ gs.length + 1
  part : Part r.1 r.2
  val : ∀ w, pv w r.1 r.2 = V w

theorem Part.gate {gs : List Gt} {p : Int} (h : Part gs p) (h1 : p ≠ -1) (h2 : p ≠ -2) : 0 ≤ p ∧ p < gs.length := by rcases h with h | h | h <;> omega
theorem Part.up {gs gs' : List Gt} {p : Int} (h : Part gs p) (hp : ∃ r, gs' = gs ++ r) : Part gs' p := by
  obtain ⟨r, rfl⟩ := hp
  unfold Part at h ⊢
  rw [List.length_append]
  omega
theorem Part.nat {gs : List Gt} {n : Nat} (h : n < gs.length) : Part gs (n : Int) := .inr (.inr ⟨by omega, by omega⟩)
theorem pv_nat {w : Nat} {gs : List Gt} {n : Nat} : pv w gs (n : Int) = gvn w gs n := by rw [pv_gate (by omega)]; rfl
theorem pv_m1 {w : Nat} {gs : List Gt} : pv w gs (-1) = false := rfl
theorem pv_m2 {w : Nat} {gs : List Gt} : pv w gs (-2) = true := rfl

theorem addR_rs {inn : Int} {gs : List Gt} {g : Gt} {V : Nat → Bool} (h : GsOk inn gs) (hg : GtOk inn gs.length g) (hv : ∀ w, gop w (gvn w gs) g = V w) : Rs inn gs (addR gs g) V :=
  ⟨gsOk_add h hg, addG_pre _ _, (addG_len _ _).2, Part.nat (addN_lt _ _), fun w => by show pv w (addG gs g) ((addN gs g : Nat) : Int) = V w; rw [pv_nat, gvn_add h hg]; exact hv w⟩
theorem Rs.same {inn : Int} {gs : List Gt} {p : Int} {V : Nat → Bool} (h : GsOk inn gs) (hp : Part gs p) (hv : ∀ w, pv w gs p = V w) : Rs inn gs (gs, p) V :=
  ⟨h, ⟨[], by simp⟩, by simp, hp, hv⟩
theorem in_rs {inn : Int} {gs : List Gt} {i : Int} (h : GsOk inn gs) (hi : 0 ≤ i ∧ i < inn) : Rs inn gs (inR gs i) (fun w => w.testBit i.toNat) :=
  addR_rs h ⟨by simp, fun _ => hi, fun h => by simp at h, fun h => by simp at h⟩ (fun w => by simp [gop])
theorem not_rs {inn : Int} {gs : List Gt} {a : Int} (h : GsOk inn gs) (ha : Part gs a) : Rs inn gs (notR gs a) (fun w => !pv w gs a) := by
  unfold notR
  by_cases c1 : a = -1
  · rw [if_pos c1]; subst c1; exact .same h (.inr (.inl rfl)) (fun w => rfl)
  by_cases c2 : a = -2
  · rw [if_neg c1, if_pos c2]; subst c2; exact .same h (.inl rfl) (fun w => rfl)
  rw [if_neg c1, if_neg c2]
  have := ha.gate c1 c2
  exact addR_rs h ⟨by simp, fun h => by simp at h, fun _ => ⟨by simp; omega, by simp; omega⟩, fun h => by simp at h⟩ (fun w => by rw [pv_gate (by omega)]; simp [gop])
theorem and_rs {inn : Int} {gs : List Gt} {a b : Int} (h : GsOk inn gs) (ha : Part gs a) (hb : Part gs b) : Rs inn gs (andR gs a b) (fun w => pv w gs a && pv w gs b) := by
  unfold andR
  by_cases c1 : a = -1 ∨ b = -1
  · rw [if_pos c1]; exact .same h (.inl rfl) (fun w => by rcases c1 with c | c <;> subst c <;> simp [pv_m1])
  by_cases c2 : a = -2
  · rw [if_neg c1, if_pos c2]; subst c2; exact .same h hb (fun w => by simp [pv_m2])
  by_cases c3 : b = -2
  · rw [if_neg c1, if_neg c2, if_pos c3]; subst c3; exact .same h ha (fun w => by simp [pv_m2])
  rw [if_neg c1, if_neg c2, if_neg c3]
  have h1 := ha.gate (by omega) c2
  have h2 := hb.gate (by omega) c3
  exact addR_rs h ⟨by simp, fun h => by simp at h, fun _ => ⟨by simp; omega, by simp; omega⟩, fun _ => ⟨by simp; omega, by simp; omega⟩⟩ (fun w => by rw [pv_gate h1.1, pv_gate h2.1]; simp [gop])
theorem or_rs {inn : Int} {gs : List Gt} {a b : Int} (h : GsOk inn gs) (ha : Part gs a) (hb : Part gs b) : Rs inn gs (orR gs a b) (fun w => pv w gs a || pv w gs b) := by
  unfold orR
  by_cases c1 : a = -2 ∨ b = -2
  · rw [if_pos c1]; exact .same h (.inr (.inl rfl)) (fun w => by rcases c1 with c | c <;> subst c <;> simp [pv_m2])
  by_cases c2 : a = -1
  · rw [if_neg c1, if_pos c2]; subst c2; exact .same h hb (fun w => by simp [pv_m1])
  by_cases c3 : b = -1
  · rw [if_neg c1, if_neg c2, if_pos c3]; subst c3; exact .same h ha (fun w => by simp [pv_m1])
  rw [if_neg c1, if_neg c2, if_neg c3]
  have h1 := ha.gate c2 (by omega)
  have h2 := hb.gate c3 (by omega)
  exact addR_rs h ⟨by simp, fun h => by simp at h, fun _ => ⟨by simp; omega, by simp; omega⟩, fun _ => ⟨by simp; omega, by simp; omega⟩⟩ (fun w => by rw [pv_gate h1.1, pv_gate h2.1]; simp [gop])

/-- a gate for a constant -/
def setS (gs : List Gt) (p : Int) : Rst :=
  if p ≠ -1 ∧ p ≠ -2 then (gs, p) else
    let f := inR gs 0; let n := notR f.1 f.2
    if p = -2 then orR n.1 f.2 n.2 else andR n.1 f.2 n.2
theorem inR_nn (gs : List Gt) (i : Int) : 0 ≤ (inR gs i).2 := by simp [inR, addR]
theorem set_ok {inn : Int} {gs : List Gt} {p : Int} (h : GsOk inn gs) (hi : 1 ≤ inn) (hp : Part gs p) :
    GsOk inn (setS gs p).1 ∧ (∃ x, (setS gs p).1 = gs ++ x) ∧ (setS gs p).1.length ≤ gs.length + 3 ∧ 0 ≤ (setS gs p).2 ∧ (setS gs p).2 < (setS gs p).1.length ∧ ∀ w, gvn w (setS gs p).1 (setS gs p).2.toNat = pv w gs p := by
  unfold setS
  by_cases c : p ≠ -1 ∧ p ≠ -2
  · rw [if_pos c]
    have := hp.gate c.1 c.2
    exact ⟨h, ⟨[], by simp⟩, by simp, this.1, this.2, fun w => (pv_gate this.1).symm⟩
  rw [if_neg c]
  simp only
  have f := in_rs h (show 0 ≤ (0 : Int) ∧ 0 < inn by omega)
  have f0 := inR_nn gs 0
  generalize inR gs 0 = rf at *
  have n := not_rs f.ok f.part
  have n0 : 0 ≤ (notR rf.1 rf.2).2 := by unfold notR; rw [if_neg (by omega), if_neg (by omega)]; simp [addR]
  generalize notR rf.1 rf.2 = rn at *
  have hf := f.part.up n.pre
  have hvf : ∀ w, pv w rn.1 rf.2 = w.testBit 0 := fun w => by rw [pv_pre n.pre f.part, f.val]; rfl
  have hvn : ∀ w, pv w rn.1 rn.2 = !w.testBit 0 := fun w => by rw [n.val, f.val]; rfl
  obtain ⟨x1, e1⟩ := f.pre
  obtain ⟨x2, e2⟩ := n.pre
  have fin : ∀ {r : Rst} {V : Nat → Bool}, Rs inn rn.1 r V → 0 ≤ r.2 → (∀ w, V w = pv w gs p) → GsOk inn r.1 ∧ (∃ x, r.1 = gs ++ x) ∧ r.1.length ≤ gs.length + 3 ∧ 0 ≤ r.2 ∧ r.2 < r.1.length ∧ ∀ w, gvn w r.1 r.2.toNat = pv w gs p := fun {r V} R h0 hV => by
    obtain ⟨x3, e3⟩ := R.pre
    have l1 := f.len
    have l2 := n.len
    have l3 := R.len
    have := R.part.gate (by omega) (by omega)
    exact ⟨R.ok, ⟨x1 ++ x2 ++ x3, by rw [e3, e2, e1]; simp⟩, by omega, h0, this.2, fun w => by rw [← pv_gate h0, R.val, hV]⟩
  by_cases c2 : p = -2
  · rw [if_pos c2]
    refine fin (or_rs n.ok hf n.part) ?_ (fun w => ?_)
    · unfold orR; rw [if_neg (by omega), if_neg (by omega), if_neg (by omega)]; simp [addR]
    · rw [hvf, hvn, c2, pv_m2]; cases w.testBit 0 <;> rfl
  · rw [if_neg c2]
    have c1 : p = -1 := by omega
    refine fin (and_rs n.ok hf n.part) ?_ (fun w => ?_)
    · unfold andR; rw [if_neg (by omega), if_neg (by omega), if_neg (by omega)]; simp [addR]
    · rw [hvf, hvn, c1, pv_m1]; cases w.testBit 0 <;> rfl

/-- which gates are needed: one gate's share -/
def ndS (gs : List Gt) (i : Nat) (L : List Bool) : List Bool :=
  if L.getD i false then
    if (gAt gs i).kind = 2 then L.set (gAt gs i).a.toNat true
    else if (gAt gs i).kind = 3 ∨ (gAt gs i).kind = 4 then (L.set (gAt gs i).a.toNat true).set (gAt gs i).b.toNat true else L
  else L
/-- k gates, from the last one down, have been looked at -/
def ndL (gs : List Gt) (last : Nat) : Nat → List Bool
  | 0 => (List.replicate (last + 1) false).set last true
  | k + 1 => ndS gs (last - k) (ndL gs last k)
theorem ndS_length (gs : List Gt) (i : Nat) (L : List Bool) : (ndS gs i L).length = L.length := by
  unfold ndS; split <;> (try split) <;> (try split) <;> simp
theorem ndL_length (gs : List Gt) (last : Nat) : ∀ k, (ndL gs last k).length = last + 1
  | 0 => by simp [ndL]
  | k + 1 => by rw [ndL, ndS_length, ndL_length gs last k]
theorem setD {L : List Bool} {i j : Nat} (hi : i < L.length) : (L.set i true).getD j false = if i = j then true else L.getD j false := by
  rw [List.getD_eq_getElem?_getD, List.getElem?_set]
  by_cases h : i = j
  · subst h; rw [if_pos rfl, if_pos hi, if_pos rfl]; rfl
  · rw [if_neg h, if_neg h, List.getD_eq_getElem?_getD]
/-- what gate i needs is marked -/
def Ndd (gs : List Gt) (L : List Bool) (i : Nat) : Prop :=
  L.getD i false = true → ((gAt gs i).kind ≠ 1 → L.getD (gAt gs i).a.toNat false = true) ∧ (3 ≤ (gAt gs i).kind → L.getD (gAt gs i).b.toNat false = true)
structure NdI (gs : List Gt) (last k : Nat) (L : List Bool) : Prop where
  len : L.length = last + 1
  top : L.getD last false = true
  done : ∀ i, last < i + k → i ≤ last → Ndd gs L i
theorem gtOk_at {inn : Int} {gs : List Gt} {i : Nat} (h : GsOk inn gs) (hi : i < gs.length) : GtOk inn i (gAt gs i) := by
  have : gs[i]? = some (gAt gs i) := by rw [gAt, List.getElem?_eq_getElem hi]; rfl
  exact gsOk_get h this
theorem ndL_ok {inn : Int} {gs : List Gt} {last : Nat} (h : GsOk inn gs) (hl : last < gs.length) : ∀ k, k ≤ last + 1 → NdI gs last k (ndL gs last k)
  | 0, _ => ⟨by simp [ndL], by rw [ndL, setD (by simp)]; simp, fun i h1 h2 => by omega⟩
  | k + 1, hk => by
    have I := ndL_ok h hl k (by omega)
    have hlen := ndL_length gs last (k + 1)
    rw [ndL] at hlen ⊢
    generalize ndL gs last k = L at *
    obtain ⟨i, hi⟩ : ∃ i, i = last - k := ⟨_, rfl⟩
    rw [← hi] at hlen ⊢
    have hil : i ≤ last := by omega
    have hg := gtOk_at h (show i < gs.length by omega)
    have hLl := I.len
    -- marks only grow, and only below i
    have up : ∀ j, L.getD j false = true → (ndS gs i L).getD j false = true := fun j hj => by
      unfold ndS
      split
      · split
        · have := hg.first (by omega)
          rw [setD (by omega)]; split
          · rfl
          · exact hj
        · split
          · have h1 := hg.first (by omega)
            have h2 := hg.second (by omega)
            rw [setD (by rw [List.length_set]; omega), setD (by omega)]; split
            · rfl
            · split
              · rfl
              · exact hj
          · exact hj
      · exact hj
    have high : ∀ j, i ≤ j → (ndS gs i L).getD j false = L.getD j false := fun j hj => by
      unfold ndS
      split
      · split
        · have := hg.first (by omega)
          rw [setD (by omega), if_neg (by omega)]
        · split
          · have h1 := hg.first (by omega)
            have h2 := hg.second (by omega)
            rw [setD (by rw [List.length_set]; omega), setD (by omega), if_neg (by omega), if_neg (by omega)]
          · rfl
      · rfl
    refine ⟨by omega, up _ I.top, fun j h1 h2 => ?_⟩
    by_cases hj : j = i
    · subst hj
      intro hm
      rw [high j (Nat.le_refl _)] at hm
      unfold ndS
      rw [if_pos hm]
      have hk4 := hg.kind
      refine ⟨fun h1 => ?_, fun h3 => ?_⟩
      · have hf := hg.first h1
        by_cases c2 : (gAt gs j).kind = 2
        · rw [if_pos c2, setD (by omega), if_pos rfl]
        · have hs := hg.second (by omega)
          rw [if_neg c2, if_pos (by omega), setD (by rw [List.length_set]; omega), setD (by omega), if_pos rfl]
          split <;> rfl
      · have hs := hg.second h3
        rw [if_neg (by omega), if_pos (by omega), setD (by rw [List.length_set]; omega), if_pos rfl]
    · intro hm
      rw [high j (by omega)] at hm
      obtain ⟨d1, d2⟩ := I.done j (by omega) h2 hm
      exact ⟨fun h1 => up _ (d1 h1), fun h3 => up _ (d2 h3)⟩

/-- the gates that are kept: where each one stands, and the gates -/
def reGt (pl : List Int) (g : Gt) : Gt := if g.kind = 2 then { g with a := pl.getD g.a.toNat 0 } else if g.kind = 3 ∨ g.kind = 4 then { g with a := pl.getD g.a.toNat 0, b := pl.getD g.b.toNat 0 } else g
def prS (gs : List Gt) (L : List Bool) (n : Nat) : Nat → List Int × List Gt
  | 0 => (List.replicate n 0, [])
  | k + 1 => if L.getD k false then ((prS gs L n k).1.set k ((prS gs L n k).2.length : Int), (prS gs L n k).2 ++ [reGt ((prS gs L n k).1.set k ((prS gs L n k).2.length : Int)) (gAt gs k)]) else prS gs L n k
def prune (gs : List Gt) (last : Nat) : List Gt := (prS gs (ndL gs last (last + 1)) (last + 1) (last + 1)).2

structure PrI (inn : Int) (gs : List Gt) (L : List Bool) (n k : Nat) (s : List Int × List Gt) : Prop where
  pl : s.1.length = n
  ok : GsOk inn s.2
  len : s.2.length ≤ k
  at_ : ∀ j, j < k → L.getD j false = true → 0 ≤ s.1.getD j 0 ∧ s.1.getD j 0 < s.2.length ∧ (∀ w, gvn w s.2 (s.1.getD j 0).toNat = gvn w gs j) ∧ (gAt s.2 (s.1.getD j 0).toNat).kind = (gAt gs j).kind
  top : 0 < k → L.getD (k - 1) false = true → 1 ≤ s.2.length ∧ s.1.getD (k - 1) 0 = (s.2.length : Int) - 1
  nots : (∀ (i : Nat) g, gs[i]? = some g → g.kind = 2 → (gAt gs g.a.toNat).kind = 1) → ∀ (i : Nat) g, s.2[i]? = some g → g.kind = 2 → (gAt s.2 g.a.toNat).kind = 1

theorem setI {l : List Int} {i j : Nat} {x : Int} (hi : i < l.length) : (l.set i x).getD j 0 = if i = j then x else l.getD j 0 := by
  rw [List.getD_eq_getElem?_getD, List.getElem?_set]
  by_cases h : i = j
  · subst h; rw [if_pos rfl, if_pos hi, if_pos rfl]; rfl
  · rw [if_neg h, if_neg h, List.getD_eq_getElem?_getD]

theorem prS_ok {inn : Int} {gs : List Gt} {L : List Bool} {n : Nat} (h : GsOk inn gs) (hn : n ≤ gs.length) (hL : ∀ i, i < n → Ndd gs L i) : ∀ k, k ≤ n → PrI inn gs L n k (prS gs L n k)
  | 0, _ => ⟨by simp [prS], fun i hi => by simp [prS] at hi, by simp [prS], fun j hj => by omega, fun h => by omega, fun _ i g hg => by simp [prS] at hg⟩
  | k + 1, hk => by
    have I := prS_ok h hn hL k (by omega)
    rw [prS]
    generalize prS gs L n k = s at *
    obtain ⟨pl, out⟩ := s
    have hpl := I.pl
    have hat := I.at_
    simp only at hpl hat
    cases hm : L.getD k false with
    | false =>
      simp only [Bool.false_eq_true, if_false]
      refine ⟨I.pl, I.ok, by have := I.len; simp only at this ⊢; omega, fun j hj hjm => I.at_ j ?_ hjm, fun _ hh => (by rw [show k + 1 - 1 = k by omega, hm] at hh; cases hh), I.nots⟩
      have : j ≠ k := fun hh => by subst hh; rw [hm] at hjm; cases hjm
      omega
    | true =>
      simp only [if_true]
      have hg := gtOk_at h (show k < gs.length by omega)
      have hgk : gs[k]? = some (gAt gs k) := by rw [gAt, List.getElem?_eq_getElem (show k < gs.length by omega)]; rfl
      obtain ⟨n1, n2⟩ := hL k (by omega) hm
      have hval := fun w => gvn_get (w := w) h hgk
      generalize hgg : gAt gs k = g at *
      obtain ⟨kd, a, b⟩ := g
      simp only at n1 n2
      have hkd := hg.kind
      have hol := I.len
      simp only at hkd hol
      have old : ∀ j : Nat, j < k → (pl.set k (out.length : Int)).getD j 0 = pl.getD j 0 := fun j hj => by rw [setI (by omega), if_neg (by omega)]
      have ha : kd ≠ 1 → 0 ≤ a ∧ a < k := fun h1 => hg.first h1
      have hb : 3 ≤ kd → 0 ≤ b ∧ b < k := fun h3 => hg.second h3
      have qa : kd ≠ 1 → 0 ≤ pl.getD a.toNat 0 ∧ pl.getD a.toNat 0 < out.length ∧ (∀ w, gvn w out (pl.getD a.toNat 0).toNat = gvn w gs a.toNat) ∧ (gAt out (pl.getD a.toNat 0).toNat).kind = (gAt gs a.toNat).kind := fun h1 => hat _ (by have := ha h1; omega) (n1 h1)
      have qb : 3 ≤ kd → 0 ≤ pl.getD b.toNat 0 ∧ pl.getD b.toNat 0 < out.length ∧ (∀ w, gvn w out (pl.getD b.toNat 0).toNat = gvn w gs b.toNat) ∧ (gAt out (pl.getD b.toNat 0).toNat).kind = (gAt gs b.toNat).kind := fun h1 => hat _ (by have := hb h1; omega) (n2 h1)
      -- the new gate
      obtain ⟨g', hg'⟩ : ∃ g', g' = reGt (pl.set k (out.length : Int)) ⟨kd, a, b⟩ := ⟨_, rfl⟩
      have hk' : g'.kind = kd := by rw [hg']; unfold reGt; split <;> (try split) <;> rfl
      have hok' : GtOk inn out.length g' := by
        rw [hg']; unfold reGt
        split
        · rename_i h2
          have h2 : kd = 2 := h2
          have := qa (by omega)
          have h3 := ha (by omega)
          refine ⟨hkd, fun h => by simp only at h; omega, fun _ => ?_, fun h => by simp only at h; omega⟩
          simp only; rw [old _ (by omega)]; exact ⟨this.1, this.2.1⟩
        · split
          · rename_i h2 h3
            have h3 : kd = 3 ∨ kd = 4 := h3
            have t1 := qa (by omega)
            have t2 := qb (by omega)
            have u1 := ha (by omega)
            have u2 := hb (by omega)
            refine ⟨hkd, fun h => by simp only at h; omega, fun _ => ?_, fun _ => ?_⟩
            · simp only; rw [old _ (by omega)]; exact ⟨t1.1, t1.2.1⟩
            · simp only; rw [old _ (by omega)]; exact ⟨t2.1, t2.2.1⟩
          · rename_i h2 h3
            have h2 : ¬ kd = 2 := h2
            have h3 : ¬ (kd = 3 ∨ kd = 4) := h3
            exact ⟨hkd, hg.input, fun h => by simp only at h; omega, fun h => by simp only at h; omega⟩
      have hv' : ∀ w, gop w (gvn w out) g' = gvn w gs k := fun w => by
        rw [hval w, hg']; unfold reGt
        split
        · rename_i h2
          have h2 : kd = 2 := h2
          have h3 := ha (by omega)
          simp only [gop, h2]; rw [old _ (by omega), (qa (by omega)).2.2.1]; simp
        · split
          · rename_i h2 h3
            have h3 : kd = 3 ∨ kd = 4 := h3
            have u1 := ha (by omega)
            have u2 := hb (by omega)
            rcases h3 with h3 | h3
            · simp only [gop, h3]; rw [old _ (by omega), old _ (by omega), (qa (by omega)).2.2.1, (qb (by omega)).2.2.1]; simp
            · simp only [gop, h3]; rw [old _ (by omega), old _ (by omega), (qa (by omega)).2.2.1, (qb (by omega)).2.2.1]; simp
          · rename_i h2 h3
            have h2 : ¬ kd = 2 := h2
            have h3 : ¬ (kd = 3 ∨ kd = 4) := h3
            have h1 : kd = 1 := by omega
            simp [gop, h1]
      rw [← hg']
      have hsn := gsOk_snoc I.ok hok'
      have hnew : (out ++ [g'])[out.length]? = some g' := by simp
      have hself : ∀ w, gvn w (out ++ [g']) out.length = gvn w gs k := fun w => by
        rw [gvn_get hsn hnew, ← hv' w]
        exact gop_congr hok' (fun i hi => gvn_app hi)
      refine ⟨by rw [List.length_set]; exact hpl, hsn, by simp; omega, fun j hj hjm => ?_, fun _ _ => ?_, fun hno i x hx hxk => ?_⟩
      · simp only
        by_cases hjk : j = k
        · subst hjk
          rw [setI (by omega), if_pos rfl]
          refine ⟨by omega, by rw [List.length_append, List.length_singleton]; omega, fun w => ?_, ?_⟩
          · rw [Int.toNat_natCast]; exact hself w
          · rw [Int.toNat_natCast, gAt, hnew]; simp [hgg, hk']
        · rw [old j (by omega)]
          obtain ⟨t1, t2, t3, t4⟩ := hat j (by omega) hjm
          exact ⟨t1, by rw [List.length_append, List.length_singleton]; omega, fun w => by rw [gvn_app (by omega)]; exact t3 w, by rw [gAt_app (by omega)]; exact t4⟩
      · simp only
        rw [show k + 1 - 1 = k by omega, setI (by omega), if_pos rfl, List.length_append, List.length_singleton]
        omega
      · by_cases hi : i < out.length
        · rw [List.getElem?_append_left hi] at hx
          have := (gsOk_get I.ok hx).first (by omega)
          rw [gAt_app (by omega)]
          exact I.nots hno i x hx hxk
        · rw [List.getElem?_append_right (by omega)] at hx
          have hxg : x = g' := by
            cases hq : i - out.length with
            | zero => rw [hq] at hx; simpa using hx.symm
            | succ q => rw [hq] at hx; simp at hx
          subst hxg
          rw [hk'] at hxk
          have hxk : kd = 2 := hxk
          have h3 := ha (by omega)
          have t := qa (by omega)
          have hxa : x.a = pl.getD a.toNat 0 := by
            rw [hg']; unfold reGt; rw [if_pos (show (⟨kd, a, b⟩ : Gt).kind = 2 from hxk)]
            exact old a.toNat (by omega)
          rw [hxa, gAt_app (by omega), t.2.2.2]
          have := hno k ⟨kd, a, b⟩ hgk hxk
          simpa using this

theorem prune_ok {inn : Int} {gs : List Gt} {last : Nat} (h : GsOk inn gs) (hl : last < gs.length) : 1 ≤ (prune gs last).length ∧ (prune gs last).length ≤ last + 1 ∧ GsOk inn (prune gs last) ∧ (∀ w, gval w (prune gs last) = gvn w gs last) ∧
    ((∀ (i : Nat) g, gs[i]? = some g → g.kind = 2 → (gAt gs g.a.toNat).kind = 1) → ∀ (i : Nat) g, (prune gs last)[i]? = some g → g.kind = 2 → (gAt (prune gs last) g.a.toNat).kind = 1) := by
  have N := ndL_ok h hl (last + 1) (Nat.le_refl _)
  unfold prune
  generalize ndL gs last (last + 1) = L at *
  have P := prS_ok (n := last + 1) h (by omega) (fun i hi => N.done i (by omega) (by omega)) (last + 1) (Nat.le_refl _)
  generalize prS gs L (last + 1) (last + 1) = s at *
  obtain ⟨t1, t2⟩ := P.top (by omega) (by simpa using N.top)
  simp only [Nat.add_sub_cancel] at t2
  obtain ⟨_, _, u3, _⟩ := P.at_ last (by omega) N.top
  refine ⟨t1, P.len, P.ok, fun w => ?_, P.nots⟩
  rw [gval_gvn, ← u3 w, t2, show ((s.2.length : Int) - 1).toNat = s.2.length - 1 by omega]

end Go.Av
