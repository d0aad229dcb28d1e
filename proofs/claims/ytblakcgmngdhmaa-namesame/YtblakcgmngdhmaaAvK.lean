/- All operations but calls. -/
import Derived.Test.YtblakcgmngdhmaaAvMk
namespace Go.Av

variable {P : Program} {w w' : World} {S S' : Nat → Prop} {κ κ' : Nat → Option Loc} {m : Mem} {n N : Nat} {F : Nat → Prop} {t : Tmps} {a : Act} {X : Ctx}
  {K : AV → Mem → Prop} {Q : Exit → Act → World → Prop} {o : Oper} {mo : MOp}

theorem c1_inv {f : Opd → MOp} {x : Operand} (h : c1 f x = some mo) : ∃ x', cOpd x = some x' ∧ mo = f x' := by
  simp only [c1, Option.map_eq_some_iff] at h
  obtain ⟨x', h1, h2⟩ := h
  exact ⟨x', h1, h2.symm⟩

theorem c2_inv {f : Opd → Opd → MOp} {x y : Operand} (h : c2 f x y = some mo) : ∃ x' y', cOpd x = some x' ∧ cOpd y = some y' ∧ mo = f x' y' := by
  unfold c2 at h
  split at h
  · rename_i x' y' h1 h2
    exact ⟨x', y', h1, h2, by simpa using h.symm⟩
  · simp at h

theorem c3_inv {f : Opd → Opd → Opd → MOp} {x y z : Operand} (h : c3 f x y z = some mo) : ∃ x' y' z', cOpd x = some x' ∧ cOpd y = some y' ∧ cOpd z = some z' ∧ mo = f x' y' z' := by
  unfold c3 at h
  split at h
  · rename_i x' y' z' h1 h2 h3
    exact ⟨x', y', z', h1, h2, h3, by simpa using h.symm⟩
  · simp at h

theorem op_ok (hc : cop P o = some mo) (hd : ∀ d, o.dst = some d → d < N) (r : Rel X N w S κ t m F a) (hF : F n) (h : vop mo t m n K) :
    o.wp P a w (Post K X N o.dst t m F n) Q := by
  unfold cop at hc
  split at hc
  · rename_i x ho
    obtain ⟨x', hx, rfl⟩ := c1_inv hc
    exact mov_ok (.inl ho) hx hd r h
  · rename_i x ho
    obtain ⟨x', hx, rfl⟩ := c1_inv hc
    exact mov_ok (.inr ho) hx hd r h
  · rename_i c x y ho
    split at hc
    · rename_i c' x' y' h1 h2 h3
      simp at hc; subst hc
      exact pick_ok ho h1 h2 h3 hd r h
    · simp at hc
  · rename_i op T x y T' ho
    unfold cBin at hc
    split at hc
    · obtain ⟨x', y', hx, hy, rfl⟩ := c2_inv hc
      exact bin_ok ho hx hy hd r h
    · rename_i hT
      obtain ⟨x', y', hx, hy, rfl⟩ := c2_inv hc
      exact eqb_ok (ng := false) ho hT hx hy hd r h
    · rename_i hT
      obtain ⟨x', y', hx, hy, rfl⟩ := c2_inv hc
      exact eqb_ok (ng := true) ho hT hx hy hd r h
    · rename_i e hT
      split at hc
      · rename_i hy
        obtain ⟨x', hx, rfl⟩ := c1_inv hc
        exact isnil_ok (ng := false) ho hT hy hx hd r h
      · simp at hc
    · rename_i e hT
      split at hc
      · rename_i hy
        obtain ⟨x', hx, rfl⟩ := c1_inv hc
        exact isnil_ok (ng := true) ho hT hy hx hd r h
      · simp at hc
    · rename_i e hT
      split at hc
      · rename_i hy
        obtain ⟨x', hx, rfl⟩ := c1_inv hc
        exact nilm_ok (ng := false) ho hT hy hx hd r h
      · simp at hc
    · rename_i e hT
      split at hc
      · rename_i hy
        obtain ⟨x', hx, rfl⟩ := c1_inv hc
        exact nilm_ok (ng := true) ho hT hy hx hd r h
      · simp at hc
    · split at hc
      · rename_i k hk
        obtain ⟨x', y', hx, hy, rfl⟩ := c2_inv hc
        exact eqa_ok (ng := false) ho hk hx hy hd r h
      · simp at hc
    · split at hc
      · rename_i k hk
        obtain ⟨x', y', hx, hy, rfl⟩ := c2_inv hc
        exact eqa_ok (ng := true) ho hk hx hy hd r h
      · simp at hc
    · simp at hc
  · rename_i T x ho
    obtain ⟨x', hx, rfl⟩ := c1_inv hc
    exact not_ok ho hx hd r h
  · rename_i T x ho
    obtain ⟨x', hx, rfl⟩ := c1_inv hc
    exact neg_ok ho hx hd r h
  · rename_i T T' x ho
    split at hc
    · rename_i d k h1 h2
      obtain ⟨x', hx, rfl⟩ := c1_inv hc
      exact conv_ok ho h1 h2 hx hd r h
    · rename_i e h1 h2
      split at hc
      · rename_i he
        obtain ⟨x', hx, rfl⟩ := c1_inv hc
        exact b2s_ok ho h1 h2 he hx hd r h
      · simp at hc
    · simp at hc
  · rename_i T ho
    split at hc
    · rename_i z hi
      simp at hc; subst hc
      exact alloc_ok ho hi rfl hd r hF h
    · simp at hc
  · rename_i T x ho
    obtain ⟨x', hx, rfl⟩ := c1_inv hc
    exact box_ok ho hx hd r hF h
  · rename_i T parts ho
    split at hc
    · rename_i z fs hi hT
      split at hc
      · rename_i hfs
        split at hc
        · rename_i ps hp
          simp at hc; subst hc
          exact build_ok ho hi rfl hT hfs hp hd r h
        · simp at hc
      · simp at hc
    · rename_i z _ e hi hT
      split at hc
      · rename_i k hk
        split at hc
        · rename_i ps hp
          simp at hc; subst hc
          exact buildA_ok ho hi rfl hT hk hp hd r h
        · simp at hc
      · simp at hc
    · simp at hc
  · rename_i T x ho
    split at hc
    · rename_i c hT
      obtain ⟨x', hx, rfl⟩ := c1_inv hc
      exact load_ok ho hT hx hd r hF h
    · simp at hc
  · rename_i T x y ho
    split at hc
    · rename_i c hT
      obtain ⟨x', y', hx, hy, rfl⟩ := c2_inv hc
      exact store_ok ho hT hx hy hd r h
    · simp at hc
  · rename_i s x f ho
    split at hc
    · rename_i fs hs
      split at hc
      · rename_i fd hf
        split at hc
        · rename_i c hz
          obtain ⟨x', hx, rfl⟩ := c1_inv hc
          exact faddr_ok ho hs hf hz hx hd r h
        · simp at hc
      · simp at hc
    · simp at hc
  · rename_i s x f ho
    split at hc
    · rename_i fs hs
      split at hc
      · rename_i fd hf
        split at hc
        · rename_i c hz
          obtain ⟨x', hx, rfl⟩ := c1_inv hc
          exact fld_ok ho hs hf hz hx hd r h
        · simp at hc
      · simp at hc
    · simp at hc
  · rename_i T x i ho
    split at hc
    · rename_i L e hT
      split at hc
      · rename_i hz
        obtain ⟨x', i', hx, hi, rfl⟩ := c2_inv hc
        exact idx_ok ho hT hz hx hi hd r h
      · simp at hc
    · simp at hc
  · rename_i T x i ho
    split at hc
    · rename_i e hT
      split at hc
      · rename_i c hz
        obtain ⟨x', i', hx, hi, rfl⟩ := c2_inv hc
        exact iaddr_ok ho hT hz hx hi hd r h
      · simp at hc
    · rename_i L e hT
      split at hc
      · rename_i c hz
        obtain ⟨x', i', hx, hi, rfl⟩ := c2_inv hc
        exact aaddr_ok ho hT hz hx hi hd r h
      · simp at hc
    · simp at hc
  · rename_i x ho
    obtain ⟨x', hx, rfl⟩ := c1_inv hc
    exact nchk_ok ho hx hd r h
  · rename_i T x lo hi ho
    split at hc
    · rename_i e hT
      split at hc
      · rename_i c x' lo' hi' hz hx hl hh
        simp at hc; subst hc
        exact slc_ok ho hT hz hx hl hh hd r h
      · simp at hc
    · simp at hc
  · rename_i x i ho
    obtain ⟨x', hx, rfl⟩ := c1_inv hc
    exact ext_ok ho hx hd r h
  · rename_i T ho
    split at hc
    · simp at hc; subst hc
      exact mnew_ok ho hd r hF h
    · simp at hc
  · rename_i T x i ok ho
    split at hc
    · rename_i kk z hT
      obtain ⟨x', i', hx, hi, rfl⟩ := c2_inv hc
      exact mget_ok ho hT hx hi hd r h
    · split at hc
      · rename_i z hT
        obtain ⟨x', i', hx, hi, rfl⟩ := c2_inv hc
        exact sget_ok ho hT hx hi hd r h
      · split at hc
        · rename_i ks z hT
          obtain ⟨x', i', hx, hi, rfl⟩ := c2_inv hc
          exact aget_ok ho hT hx hi hd r h
        · simp at hc
  · rename_i T x i y ho
    split at hc
    · rename_i kk z hT
      obtain ⟨x', i', y', hx, hi, hy, rfl⟩ := c3_inv hc
      exact mset_ok ho hT hx hi hy hd r h
    · split at hc
      · rename_i z hT
        obtain ⟨x', i', y', hx, hi, hy, rfl⟩ := c3_inv hc
        exact sset_ok ho hT hx hi hy hd r h
      · split at hc
        · rename_i ks z hT
          obtain ⟨x', i', y', hx, hi, hy, rfl⟩ := c3_inv hc
          exact aset_ok ho hT hx hi hy hd r h
        · simp at hc
  · rename_i T x ho
    split at hc
    · rename_i hT
      obtain ⟨x', hx, rfl⟩ := c1_inv hc
      exact mrng_ok ho hT hx hd r hF h
    · simp at hc
  · rename_i x ho
    obtain ⟨x', hx, rfl⟩ := c1_inv hc
    exact next_ok ho hx hd r h
  · rename_i x ho
    obtain ⟨x', hx, rfl⟩ := c1_inv hc
    exact entry_ok ho hx hd r h
  · rename_i f first caps ho
    split at hc
    · rename_i hf
      simp only [Option.map_eq_some_iff] at hc
      obtain ⟨caps', hx, rfl⟩ := hc
      exact mkfn_ok ho hf hx hd r h
    · simp at hc
  · rename_i args argTypes ho
    split at hc
    · rename_i x e h1 h2
      obtain ⟨x', hx, rfl⟩ := c1_inv hc
      simp only [Option.bind_eq_some_iff] at h2
      obtain ⟨T, hT, hu⟩ := h2
      exact len_ok ho rfl h1 hT hu hx hd r h
    · rename_i x k e h1 h2
      obtain ⟨x', hx, rfl⟩ := c1_inv hc
      simp only [Option.bind_eq_some_iff] at h2
      obtain ⟨T, hT, hu⟩ := h2
      exact mlen_ok ho rfl h1 hT hu hx hd r h
    · simp at hc
  · rename_i args argTypes ho
    split at hc
    · rename_i x e h1 h2
      obtain ⟨x', hx, rfl⟩ := c1_inv hc
      simp only [Option.bind_eq_some_iff] at h2
      obtain ⟨T, hT, hu⟩ := h2
      exact cap_ok ho rfl h1 hT hu hx hd r h
    · simp at hc
  · rename_i args argTypes ho
    split at hc
    · rename_i x y k h1 h2
      obtain ⟨x', y', hx, hy, rfl⟩ := c2_inv hc
      simp only [Option.bind_eq_some_iff] at h2
      obtain ⟨T, hT, hu⟩ := h2
      exact mm_ok (mn := true) ho rfl h1 hT hu hx hy hd r h
    · simp at hc
  · rename_i args argTypes ho
    split at hc
    · rename_i x y k h1 h2
      obtain ⟨x', y', hx, hy, rfl⟩ := c2_inv hc
      simp only [Option.bind_eq_some_iff] at h2
      obtain ⟨T, hT, hu⟩ := h2
      exact mm_ok (mn := false) ho rfl h1 hT hu hx hy hd r h
    · simp at hc
  · rename_i args argTypes ho
    split at hc
    · rename_i x y e e' h1 h2
      split at hc
      · rename_i sz z he
        obtain ⟨x', y', hx, hy, rfl⟩ := c2_inv hc
        unfold two at h2
        split at h2
        · rename_i T T' hat
          split at h2
          · rename_i d d' g1 g2
            simp only [Option.some.injEq, Prod.mk.injEq] at h2
            obtain ⟨rfl, rfl⟩ := h2
            exact app_ok ho rfl h1 (Array.toList_inj.1 hat) g1 g2 he hx hy hd r hF h
          · cases h2
        · cases h2
      · simp at hc
    · rename_i x y e k h1 h2
      split at hc
      · rename_i sz z he
        obtain ⟨x', y', hx, hy, rfl⟩ := c2_inv hc
        unfold two at h2
        split at h2
        · rename_i T T' hat
          split at h2
          · rename_i d d' g1 g2
            simp only [Option.some.injEq, Prod.mk.injEq] at h2
            obtain ⟨rfl, rfl⟩ := h2
            exact appz_ok ho rfl h1 (Array.toList_inj.1 hat) g1 g2 he hx hy hd r hF h
          · cases h2
        · cases h2
      · simp at hc
    · simp at hc
  · rename_i T l c ho
    split at hc
    · rename_i e hT
      split at hc
      · rename_i sz z he
        split at hc
        · rename_i hz
          split at hc
          · split at hc
            · obtain ⟨l', c', hl, hcc, rfl⟩ := c2_inv hc
              exact mkm_ok ho hT he hz hl hcc hd r hF h
            · obtain ⟨l', c', hl, hcc, rfl⟩ := c2_inv hc
              exact mks_ok ho hT he hl hcc hd r hF h
          · obtain ⟨l', c', hl, hcc, rfl⟩ := c2_inv hc
            exact mks_ok ho hT he hl hcc hd r hF h
        · obtain ⟨l', c', hl, hcc, rfl⟩ := c2_inv hc
          exact mks_ok ho hT he hl hcc hd r hF h
      · simp at hc
    · simp at hc
  · rename_i T len parts ho
    split at hc
    · rename_i e hT
      split at hc
      · rename_i sz z he
        split at hc
        · rename_i hh
          simp only [Option.map_eq_some_iff] at hc
          obtain ⟨xs, hx, rfl⟩ := hc
          exact blds_ok ho hT he hh.1 hh.2 hx hd r hF h
        · simp at hc
      · simp at hc
    · simp at hc
  · simp at hc; subst hc; exact h.elim
  · simp at hc; subst hc; exact h.elim
  · simp at hc

end Go.Av
/- Calls: what is handed on, what comes back. -/
namespace Go.Av
open Go.RowKit (Below)

variable {P : Program} {w w' : World} {S S' Sc : Nat → Prop} {κ κ' : Nat → Option Loc} {m : Mem} {n N : Nat} {F : Nat → Prop} {t : Tmps} {a : Act} {X : Ctx}

theorem frzL_get (rho : List Nat) (m : Mem) (xs : List AV) (i : Nat) : (frzL rho m xs)[i]? = xs[i]?.map (frz rho m) := by
  induction xs generalizing i with
  | nil => simp [frzL]
  | cons x xs ih => cases i <;> simp [frzL, ih]
theorem frzL_length (rho : List Nat) (m : Mem) (xs : List AV) : (frzL rho m xs).length = xs.length := by
  induction xs with
  | nil => simp [frzL]
  | cons x xs ih => simp [frzL, ih]

theorem frz_R0_self {rho : List Nat} {x : AV} {v : Value} (h : R0 w S x v) : frz rho m x = x := by
  induction h with
  | agg hl _ ih =>
    rename_i xs vs _
    simp only [frz]
    congr 1
    apply List.ext_getElem?
    intro i
    rw [frzL_get]
    cases hx : xs[i]? with
    | none => rfl
    | some x =>
      have hi : i < vs.size := by rw [← hl]; exact (List.getElem?_eq_some_iff.1 hx).1
      simp [ih i x vs[i] hx (by simp [hi])]
  | tup hl _ ih =>
    rename_i xs vs _
    simp only [frz]
    congr 1
    apply List.ext_getElem?
    intro i
    rw [frzL_get]
    cases hx : xs[i]? with
    | none => rfl
    | some x =>
      have hi : i < vs.size := by rw [← hl]; exact (List.getElem?_eq_some_iff.1 hx).1
      simp [ih i x vs[i] hx (by simp [hi])]
  | fn hl _ ih =>
    rename_i f xs vs _
    simp only [frz]
    congr 1
    apply List.ext_getElem?
    intro i
    rw [frzL_get]
    cases hx : xs[i]? with
    | none => rfl
    | some x =>
      have hi : i < vs.size := by rw [← hl]; exact (List.getElem?_eq_some_iff.1 hx).1
      simp [ih i x vs[i] hx (by simp [hi])]
  | _ => simp [frz]

theorem kysL_mem {xs : List AV} {i : Nat} {x : AV} (h : xs[i]? = some x) {k : Nat} (hk : k ∈ kys x) : k ∈ kysL xs := by
  induction xs generalizing i with
  | nil => simp at h
  | cons y xs ih =>
    simp only [kysL, List.mem_append]
    cases i with
    | zero => simp at h; subst h; exact .inl hk
    | succ i => exact .inr (ih (by simpa using h))

/-- the blocks of keys -/
def blocksOf (m : Mem) (κ : Nat → Option Loc) (ks : List Nat) (b : Nat) : Prop :=
  ∃ k o l, k ∈ ks ∧ lookM m k = some o ∧ κ k = some l ∧ l.has b

theorem rowsOk_get {rows : List MRow} (h : rowsOk rows = true) {i : Nat} {r : MRow} (hi : rows[i]? = some r) : rowOk r = true := by
  induction rows generalizing i with
  | nil => simp at hi
  | cons q rows ih =>
    simp only [rowsOk, Bool.and_eq_true] at h
    cases i with
    | zero => simp at hi; subst hi; exact h.1
    | succ i => exact ih h.2 (by simpa using hi)

/-- a row that is only read from now on -/
theorem row_R0 {sz : Nat} {sub : Option Nat} {c : Value} {r : MRow} (h : RowR w S sz sub c r) (hS : ∀ b, S b → S' b) (hb : ∀ b, sub = some b → S' b) (hok : rowOk r = true) :
    R0 w S' (rowRO sz r) c ∧ (rowRO sz r).cells = [rowRO sz r] ∧ (rowRO sz r).isCell = true := by
  cases r with
  | own xs =>
    rcases h with ⟨rfl, _, a, rfl⟩ | ⟨b, base, cap, h1, rfl, h3, vs, T, h4, h5, h6, h7⟩
    · exact ⟨.roNil, rfl, rfl⟩
    refine ⟨.ro (c := fun q => (vs[base + q]?).getD undef) (hb b h1) h3 h6 (fun q hq => ?_) (fun i x j y hx hy => ?_), rfl, rfl⟩
    · have : xs.length * sz ≤ cap * sz := Nat.mul_le_mul_right _ h3
      rw [cell_of h4, Array.getElem?_eq_getElem (by omega)]; rfl
    · obtain ⟨c, hc, hR⟩ := h7 i x j y hx hy
      rw [← Nat.add_assoc, hc]
      exact hR.mono (fun _ _ => rfl) hS
  | cell x => exact ⟨h.2.2.2.mono (fun _ _ => rfl) hS, h.2.2.1, h.2.1⟩
  | gone => cases hok

theorem mat_R0 {k sz off len cap : Nat} {rows : List MRow} {l : Loc} (h : ObjR w S κ k (.mat sz rows)) (hk : κ k = some l) (hS : ∀ b, S b → S' b) (hb : ∀ b, l.has b → S' b)
    (hok : rowsOk rows = true) (hlen : len ≤ cap) (hcap : off + cap ≤ l.cap) (hu : off + len ≤ l.used) :
    R0 w S' (.ro 1 (((rows.map (rowRO sz)).drop off).take len)) (.slice (some ⟨l.b, l.base + off * l.sz, none⟩) len cap) := by
  obtain ⟨l', hk', hn, h1, h2, h3, h4, h5, vs, T, h6, h7, h8⟩ := h
  rw [hk] at hk'; cases hk'
  have hlen' : (((rows.map (rowRO sz)).drop off).take len).length = len := by simp; omega
  have hget : ∀ (i : Nat) x, (((rows.map (rowRO sz)).drop off).take len)[i]? = some x → i < len ∧ ∃ r, rows[off + i]? = some r ∧ x = rowRO sz r := fun i x h => by
    have hi : i < len := by have := (List.getElem?_eq_some_iff.1 h).1; omega
    rw [List.getElem?_take_of_lt hi, List.getElem?_drop, List.getElem?_map, Option.map_eq_some_iff] at h
    obtain ⟨r, hr, rfl⟩ := h
    exact ⟨hi, r, hr, rfl⟩
  have key : ∀ (i : Nat) r, rows[i]? = some r → ∃ c, vs[l.base + i]? = some c ∧ R0 w S' (rowRO sz r) c ∧ (rowRO sz r).cells = [rowRO sz r] ∧ (rowRO sz r).isCell = true := fun i r hr => by
    obtain ⟨c, hc, hR⟩ := h8 i r hr
    exact ⟨c, hc, row_R0 hR hS (fun b hb' => hb b (.inr ⟨i, hb'⟩)) (rowsOk_get hok hr)⟩
  have := R0.ro (w := w) (S := S') (sz := 1) (xs := ((rows.map (rowRO sz)).drop off).take len) (b := l.b) (off := l.base + off * l.sz) (cap := cap)
    (c := fun q => (vs[l.base + off * l.sz + q]?).getD undef) (hb _ (.inl ⟨hn, rfl⟩)) (by omega)
    (fun i x hx => by
      obtain ⟨hi, r, hr, rfl⟩ := hget i x hx
      obtain ⟨c, _, _, g1, g2⟩ := key _ r hr
      rw [g1]; exact ⟨rfl, by simp [allCell, g2]⟩)
    (fun q hq => by
      rw [hlen', Nat.mul_one] at hq
      rw [cell_of h6, Array.getElem?_eq_getElem (by rw [h1]; omega)]; rfl)
    (fun i x j y hx hy => by
      obtain ⟨hi, r, hr, rfl⟩ := hget i x hx
      obtain ⟨c, hc, hR, g1, _⟩ := key _ r hr
      rw [g1] at hy
      cases j with
      | zero =>
        simp at hy; subst hy
        rw [show l.base + off * l.sz + (i * 1 + 0) = l.base + (off + i) from by rw [h1]; omega, hc]
        exact hR
      | succ j => simp at hy)
  rwa [hlen'] at this

theorem frz_R0 {x : AV} {v : Value} {ks : List Nat} (e : Ent w S κ m F) (h : R w S κ x v) (hks : ∀ k ∈ kys x, k ∈ ks) :
    R0 w (fun b => S b ∨ blocksOf m κ ks b) (frz [] m x) v := by
  induction h with
  | base h => rw [frz_R0_self h]; exact h.mono (fun _ _ => rfl) (fun _ h => .inl h)
  | agg hl _ ih =>
    simp only [frz]
    refine .agg (by rw [frzL_length, hl]) (fun i x y h1 h2 => ?_)
    rw [frzL_get, Option.map_eq_some_iff] at h1
    obtain ⟨x', h1, rfl⟩ := h1
    exact ih i x' y h1 h2 (fun k hk => hks k (kysL_mem h1 hk))
  | tup hl _ ih =>
    simp only [frz]
    refine .tup (by rw [frzL_length, hl]) (fun i x y h1 h2 => ?_)
    rw [frzL_get, Option.map_eq_some_iff] at h1
    obtain ⟨x', h1, rfl⟩ := h1
    exact ih i x' y h1 h2 (fun k hk => hks k (kysL_mem h1 hk))
  | fn hl _ ih =>
    simp only [frz]
    refine .fn (by rw [frzL_length, hl]) (fun i x y h1 h2 => ?_)
    rw [frzL_get, Option.map_eq_some_iff] at h1
    obtain ⟨x', h1, rfl⟩ := h1
    exact ih i x' y h1 h2 (fun k hk => hks k (kysL_mem h1 hk))
  | elt hk hn => simp only [frz]; exact .dead _
  | ptr hk =>
    rename_i k off l
    simp only [frz, pos]
    split
    · rename_i cs hm
      split
      · rename_i hkf
        obtain ⟨l', hk', hn, vs, T, h1, h2, h3⟩ := e.mm _ _ hm
        rw [hk] at hk'; cases hk'
        refine .rp (c := fun j => (vs[l.base + (off + j)]?).getD undef) (.inr ⟨k, _, l, hks k (by simp [kys]), hm, hk, .inl ⟨hn, rfl⟩⟩) (fun j hj => ?_) (fun j y hj => ?_)
        · rw [cell_of h1, Nat.add_assoc, Array.getElem?_eq_getElem (by simp at hj; omega)]; rfl
        · rw [List.getElem?_drop] at hj
          obtain ⟨c, hc, hR⟩ := h3 _ y hj
          rw [hc]
          exact (kf_R0 hR (kfs_get hkf hj)).mono (fun _ _ => rfl) (fun _ h => .inl h)
      · exact .dead _
    · exact .dead _
  | arrNil hk hn =>
    rename_i k l
    simp only [frz, pos]
    split
    · simp only [List.take_zero]; exact .roNil
    · rename_i sz rows _
      cases rowsOk rows
      · exact .dead _
      · simp only [cond_true, List.take_zero]; exact .roNil
    · exact .dead _
  | arr0 hk =>
    simp only [frz, pos]
    split
    · simp only [List.take_zero]; exact .roNil
    · rename_i sz rows _
      cases rowsOk rows
      · exact .dead _
      · simp only [cond_true, List.take_zero]; exact .roNil
    · exact .dead _
  | arr hk hn hlen hcap hu =>
    rename_i k off len cap l
    simp only [frz, pos]
    split
    · rename_i sz xs hm
      obtain ⟨l', hk', h0⟩ := e.mm _ _ hm
      rw [hk] at hk'; cases hk'
      rcases h0 with ⟨h0, _⟩ | ⟨_, rfl, h1, h1', vs, T', h2, h3, h4, h5⟩
      · rw [hn] at h0; cases h0
      · have hlen' : ((xs.drop off).take len).length = len := by simp; omega
        have hget : ∀ (i : Nat) x, ((xs.drop off).take len)[i]? = some x → i < len ∧ xs[off + i]? = some x := fun i x h => by
          have hi : i < len := by have := (List.getElem?_eq_some_iff.1 h).1; omega
          rw [List.getElem?_take_of_lt hi, List.getElem?_drop] at h
          exact ⟨hi, h⟩
        have := R0.ro (w := w) (S := fun b => S b ∨ blocksOf m κ ks b) (sz := l.sz) (xs := (xs.drop off).take len) (b := l.b) (off := l.base + off * l.sz) (cap := cap)
          (c := fun q => (vs[l.base + off * l.sz + q]?).getD undef) (.inr ⟨k, _, l, hks k (by simp [kys]), hm, hk, .inl ⟨hn, rfl⟩⟩) (by omega)
          (fun i x hx => h4 _ _ (hget i x hx).2)
          (fun q hq => by
            rw [hlen'] at hq
            have : (off + len) * l.sz ≤ l.cap * l.sz := Nat.mul_le_mul_right _ (by omega)
            rw [Nat.add_mul] at this
            rw [cell_of h2, Array.getElem?_eq_getElem (by omega)]; rfl)
          (fun i x j y hx hy => by
            obtain ⟨c, hc, hR⟩ := h5 _ x j y (hget i x hx).2 hy
            rw [show l.base + off * l.sz + (i * l.sz + j) = l.base + (off + i) * l.sz + j from by rw [Nat.add_mul]; omega, hc]
            exact hR.mono (fun _ _ => rfl) (fun _ h => .inl h))
        rwa [hlen'] at this
    · rename_i sz rows hm
      cases hok : rowsOk rows
      · exact .dead _
      · exact mat_R0 (e.mm _ _ hm) hk (fun _ h => .inl h) (fun b hb => .inr ⟨k, _, l, hks k (by simp [kys]), hm, hk, hb⟩) hok hlen hcap hu
    · exact .dead _
  | mp hk hn =>
    rename_i k l
    simp only [frz, pos]
    split
    · rename_i es hm
      obtain ⟨l', hk', hn', ents, clock, h1, h2, h3, h4, h5⟩ := e.mm _ _ hm
      rw [hk] at hk'; cases hk'
      exact .rm (.inr ⟨k, _, l, hks k (by simp [kys]), hm, hk, .inl ⟨hn, rfl⟩⟩) h1 h2 (fun i p e hp he => (h5 i p e hp he).1) h3 h4
        (fun i p e hp he => (h5 i p e hp he).2.mono (fun _ _ => rfl) (fun _ h => .inl h))
    · exact .dead _

/-- a world in which all that was there is as it was -/
theorem Ent.below (e : Ent w S κ m F) (hb : Below w.heap.size w w') : Ent w' S κ m F := by
  refine ⟨fun k o h => (e.mm k o h).mono (fun b hb' => hb.block b (e.sb.lt b hb')) (fun _ h => h) (fun _ _ h => h) (fun l b hl hn => hb.block _ (e.own k o l b h hl hn).2), e.inj, fun k o l b h1 h2 h3 => ?_, e.fresh, e.sb.mono (fun b hb' => hb.block b (e.sb.lt b hb')) (fun _ h => h) (fun b hb' => Nat.lt_of_lt_of_le (e.sb.lt b hb') hb.size)⟩
  exact ⟨(e.own k o l b h1 h2 h3).1, Nat.lt_of_lt_of_le (e.own k o l b h1 h2 h3).2 hb.size⟩

theorem Since.below (s : Since X w S κ m) (hb : Below w.heap.size w w') : Since X w' S κ m :=
  ⟨s.own, s.s0, hb.os.trans s.os, hb.tape.trans s.tape, hb.output.trans s.output, Nat.le_trans s.ge hb.size, fun b h1 h2 => (hb.block b (Nat.lt_of_lt_of_le h1 s.ge)).trans (s.keep b h1 h2), s.kp⟩

theorem Rel.below (r : Rel X N w S κ t m F a) (hb : Below w.heap.size w w') : Rel X N w' S κ t m F a :=
  ⟨r.size, r.defers, fun i => (r.tm i).mono (fun b hb' => hb.block b (r.ent.sb.lt b hb')) (fun _ h => h) (fun _ _ h => h), r.ent.below hb, r.since.below hb⟩

mutual
/-- it leads to no memory -/
def flat : AV → Bool
  | .v _ => true
  | .agg xs => flatL xs
  | .tup xs => flatL xs
  | _ => false
def flatL : List AV → Bool
  | [] => true
  | x :: r => flat x && flatL r
end

theorem flatL_get {xs : List AV} (h : flatL xs = true) {i : Nat} {x : AV} (hi : xs[i]? = some x) : flat x = true := by
  induction xs generalizing i with
  | nil => simp at hi
  | cons y xs ih =>
    simp only [flatL, Bool.and_eq_true] at h
    cases i with
    | zero => simp at hi; subst hi; exact h.1
    | succ i => exact ih h.2 (by simpa using hi)

theorem flat_R0 {x : AV} {v : Value} (h : R0 w S x v) (hx : flat x = true) : R0 w' S' x v := by
  induction h with
  | v x => exact .v x
  | agg hl _ ih => exact .agg hl (fun i x y h1 h2 => ih i x y h1 h2 (flatL_get hx h1))
  | tup hl _ ih => exact .tup hl (fun i x y h1 h2 => ih i x y h1 h2 (flatL_get hx h1))
  | _ => simp [flat] at hx

theorem flat_R {x : AV} {v : Value} (h : R w S κ x v) (hx : flat x = true) : R0 w' S' x v := by
  induction h with
  | base h => exact flat_R0 h hx
  | agg hl _ ih => exact .agg hl (fun i x y h1 h2 => ih i x y h1 h2 (flatL_get hx h1))
  | tup hl _ ih => exact .tup hl (fun i x y h1 h2 => ih i x y h1 h2 (flatL_get hx h1))
  | _ => simp [flat] at hx

/-- a call that hands back what leads to no memory -/
theorem callF {f : FuncId} {args args' : List AV} {r : AV} {K : AV → Mem → Nat → Prop} (h : CallsA P f args' r []) (ha : frzL [] m args = args') (hr : flat r = true)
    (hK : K r m (n + 1)) : CallVC P f args m n K := by
  refine ⟨h.1, fun X N w S κ t a vals rel hl hR => ?_⟩
  have hargs : ∀ (i : Nat) x y, args'[i]? = some x → vals[i]? = some y → R0 w (fun b => S b ∨ blocksOf m κ (kysL args) b) x y := fun i x y h1 h2 => by
    rw [← ha, frzL_get, Option.map_eq_some_iff] at h1
    obtain ⟨x', h1, rfl⟩ := h1
    exact frz_R0 rel.ent (hR i x' y h1 h2) (fun k hk => kysL_mem h1 hk)
  refine (h.2 w _ vals (rel.ent.sb.mono (fun _ _ => rfl) (fun _ h => .inl h) (fun b hb => ?_)) (by rw [← ha, frzL_length, hl]) hargs).mono ?_
  · rcases hb with hb | ⟨k, o, l, _, h1, h2, h3⟩
    · exact rel.ent.sb.lt b hb
    · exact (rel.ent.own k o l b h1 h2 h3).2
  · rintro e w' ⟨v, S', κ', rfl, hv, _, _, _, hb⟩
    exact ⟨v, r, m, n + 1, S, κ, rfl, hK, .base (flat_R hv hr), (rel.below hb).free fun k hk => by have : n + 1 ≤ k := hk; show n ≤ k; omega⟩

end Go.Av
/- Calls that hand back memory. -/
namespace Go.Av
open Go.RowKit (Below)

variable {P : Program} {w w' : World} {S S' Sc : Nat → Prop} {κ κ' : Nat → Option Loc} {m : Mem} {n N : Nat} {F : Nat → Prop} {t : Tmps} {a : Act} {X : Ctx}

mutual
/-- the callee's keys, as the caller counts them -/
def ren (n : Nat) : AV → AV
  | .agg xs => .agg (renL n xs)
  | .tup xs => .tup (renL n xs)
  | .fn f xs => .fn f (renL n xs)
  | .ptr k off => .ptr (n + k) off
  | .arr k off len => .arr (n + k) off len
  | .elt k i j => .elt (n + k) i j
  | .mp k => .mp (n + k)
  | x => x
def renL (n : Nat) : List AV → List AV
  | [] => []
  | x :: r => ren n x :: renL n r
end

def renO (n : Nat) : MObj → MObj
  | .box cs => .box (renL n cs)
  | .lent sz rows _ _ => .mat sz rows
  | o => o

def renOs (n : Nat) : List MObj → List MObj
  | [] => []
  | o :: r => renO n o :: renOs n r

theorem renL_get (n : Nat) (xs : List AV) (i : Nat) : (renL n xs)[i]? = xs[i]?.map (ren n) := by
  induction xs generalizing i with
  | nil => simp [renL]
  | cons x xs ih => cases i <;> simp [renL, ih]
theorem renL_length (n : Nat) (xs : List AV) : (renL n xs).length = xs.length := by
  induction xs with
  | nil => simp [renL]
  | cons x xs ih => simp [renL, ih]
theorem renOs_get (n : Nat) (xs : List MObj) (i : Nat) : (renOs n xs)[i]? = xs[i]?.map (renO n) := by
  induction xs generalizing i with
  | nil => simp [renOs]
  | cons x xs ih => cases i <;> simp [renOs, ih]
theorem renOs_length (n : Nat) (xs : List MObj) : (renOs n xs).length = xs.length := by
  induction xs with
  | nil => simp [renOs]
  | cons x xs ih => simp [renOs, ih]

theorem lookM_memFrom (l : List MObj) (m : Mem) (n k : Nat) : lookM (memFrom n l ++ m) k = if n ≤ k ∧ k < n + l.length then l[k - n]? else lookM m k := by
  induction l generalizing n with
  | nil => simp [memFrom]; intro h1 h2; omega
  | cons o l ih =>
    simp only [memFrom, List.cons_append]
    by_cases h : n = k
    · subst h; rw [lookM_cons_eq, if_pos (by simp)]; simp
    · rw [lookM_cons_ne _ _ h, ih]
      by_cases h2 : n + 1 ≤ k ∧ k < n + 1 + l.length
      · rw [if_pos h2, if_pos (by simp; omega), show k - n = (k - (n + 1)) + 1 by omega, List.getElem?_cons_succ]
      · rw [if_neg h2, if_neg (by simp; omega)]

theorem lookM_memOf (l : List MObj) (k : Nat) : lookM (memOf l) k = l[k]? := by
  have := lookM_memFrom l [] 0 k
  simp only [List.append_nil] at this
  rw [this]
  by_cases h : k < l.length
  · rw [if_pos (by omega)]; simp
  · rw [if_neg (by omega)]; simp [lookM, List.getElem?_eq_none (Nat.le_of_not_lt h)]

theorem lookM_kills (ks : List Nat) (m : Mem) (k : Nat) : lookM (kills ks ++ m) k = if k ∈ ks then none else lookM m k := by
  induction ks with
  | nil => simp [kills]
  | cons k' ks ih =>
    simp only [kills, List.cons_append]
    by_cases h : k' = k
    · subst h; rw [lookM_cons_eq]; simp
    · rw [lookM_cons_ne _ _ h, ih]; simp [show k ≠ k' from fun e => h e.symm]

theorem ren_R0 {x : AV} {v : Value} (h : R0 w S x v) : ren n x = x := by
  have aux : ∀ (xs : List AV) (vs : Array Value), xs.length = vs.size → (∀ (i : Nat) x y, xs[i]? = some x → vs[i]? = some y → ren n x = x) → renL n xs = xs := by
    intro xs vs hl ih
    apply List.ext_getElem?
    intro i
    rw [renL_get]
    cases hx : xs[i]? with
    | none => rfl
    | some x =>
      have hi : i < vs.size := by rw [← hl]; exact (List.getElem?_eq_some_iff.1 hx).1
      simp [ih i x vs[i] hx (by simp [hi])]
  induction h with
  | agg hl _ ih => simp only [ren]; rw [aux _ _ hl ih]
  | tup hl _ ih => simp only [ren]; rw [aux _ _ hl ih]
  | fn hl _ ih => simp only [ren]; rw [aux _ _ hl ih]
  | _ => simp [ren]

theorem ren_R {x : AV} {v : Value} (h : R w S κ x v) (hS : ∀ b, S b → S' b) (hκ : ∀ k l, κ k = some l → κ' (n + k) = some l) : R w S' κ' (ren n x) v := by
  have aux : ∀ (xs : List AV) (vs : Array Value), (∀ (i : Nat) x y, xs[i]? = some x → vs[i]? = some y → R w S' κ' (ren n x) y) →
      ∀ (i : Nat) x y, (renL n xs)[i]? = some x → vs[i]? = some y → R w S' κ' x y := by
    intro xs vs ih i x y h1 h2
    rw [renL_get, Option.map_eq_some_iff] at h1
    obtain ⟨x', h1, rfl⟩ := h1
    exact ih i x' y h1 h2
  induction h with
  | base h => rw [ren_R0 h]; exact .base (h.mono (fun _ _ => rfl) hS)
  | agg hl _ ih => exact .agg (by rw [renL_length, hl]) (aux _ _ ih)
  | tup hl _ ih => exact .tup (by rw [renL_length, hl]) (aux _ _ ih)
  | fn hl _ ih => exact .fn (by rw [renL_length, hl]) (aux _ _ ih)
  | ptr hk => exact .ptr (hκ _ _ hk)
  | elt hk hn => exact .elt (hκ _ _ hk) hn
  | arrNil hk hn => exact .arrNil (hκ _ _ hk) hn
  | arr hk hn h1 h2 h3 => exact .arr (hκ _ _ hk) hn h1 h2 h3
  | arr0 hk => exact .arr0 (hκ _ _ hk)
  | mp hk hn => exact .mp (hκ _ _ hk) hn

theorem ren_ObjR {k : Nat} {o : MObj} (h : ObjR w S κ k o) (hS : ∀ b, S b → S' b) (hκ : ∀ k l, κ k = some l → κ' (n + k) = some l) : ObjR w S' κ' (n + k) (renO n o) := by
  cases o with
  | box cs =>
    obtain ⟨l, hk, hn, vs, T, h1, h2, h3⟩ := h
    refine ⟨l, hκ _ _ hk, hn, vs, T, h1, by rw [renL_length]; exact h2, fun j y hj => ?_⟩
    rw [renL_get, Option.map_eq_some_iff] at hj
    obtain ⟨y', hj, rfl⟩ := hj
    obtain ⟨c, hc, hr⟩ := h3 j y' hj
    exact ⟨c, hc, ren_R hr hS hκ⟩
  | arr sz xs =>
    obtain ⟨l, hk, h⟩ := h
    refine ⟨l, hκ _ _ hk, ?_⟩
    rcases h with h | ⟨hn, h1, h2, h2', vs, T, h3, h4, h5, h6⟩
    · exact .inl h
    · refine .inr ⟨hn, h1, h2, h2', vs, T, h3, h4, h5, fun i x j y hx hy => ?_⟩
      obtain ⟨c, hc, hr⟩ := h6 i x j y hx hy
      exact ⟨c, hc, hr.mono (fun _ _ => rfl) hS⟩
  | mat sz rows =>
    obtain ⟨l, hk, hn, h1, h2, h3, h4, h5, vs, T, h6, h7, h8⟩ := h
    refine ⟨l, hκ _ _ hk, hn, h1, h2, h3, h4, h5, vs, T, h6, h7, fun i r hr => ?_⟩
    obtain ⟨c, hc, hR⟩ := h8 i r hr
    exact ⟨c, hc, hR.mono (fun _ _ => rfl) hS (fun _ _ => rfl)⟩
  | lent sz rows i0 q0 =>
    obtain ⟨l, hk, hn, h1, h2, h3, h4, h5, vs, T, h6, h7, h8⟩ := h.unlent
    refine ⟨l, hκ _ _ hk, hn, h1, h2, h3, h4, h5, vs, T, h6, h7, fun i r hr => ?_⟩
    obtain ⟨c, hc, hR⟩ := h8 i r hr
    exact ⟨c, hc, hR.mono (fun _ _ => rfl) hS (fun _ _ => rfl)⟩
  | map es =>
    obtain ⟨l, hk, hn, ents, clock, h1, h2, h3, h4, h5⟩ := h
    exact ⟨l, hκ _ _ hk, hn, ents, clock, h1, h2, h3, h4, fun i p e hp he => ⟨(h5 i p e hp he).1, (h5 i p e hp he).2.mono (fun _ _ => rfl) hS⟩⟩
  | iter rest cur =>
    obtain ⟨l, hk, hn, h0, h1⟩ := h
    exact ⟨l, hκ _ _ hk, hn, h0, h1.mono (fun _ _ => rfl) hS rfl⟩

/-- a call that hands back memory; what was handed on is only read from now on -/
theorem callA {f : FuncId} {args args' : List AV} {r : AV} {rm : List MObj} {K : AV → Mem → Nat → Prop} (h : CallsA P f args' r rm) (ha : frzL [] m args = args')
    (hK : K (ren n r) (memFrom n (renOs n rm) ++ (kills (kysL args) ++ m)) (n + 1 + rm.length)) : CallVC P f args m n K := by
  refine ⟨h.1, fun X N w S κ t a vals rel hl hR => ?_⟩
  have hargs : ∀ (i : Nat) x y, args'[i]? = some x → vals[i]? = some y → R0 w (fun b => S b ∨ blocksOf m κ (kysL args) b) x y := fun i x y h1 h2 => by
    rw [← ha, frzL_get, Option.map_eq_some_iff] at h1
    obtain ⟨x', h1, rfl⟩ := h1
    exact frz_R0 rel.ent (hR i x' y h1 h2) (fun k hk => kysL_mem h1 hk)
  refine (h.2 w _ vals (rel.ent.sb.mono (fun _ _ => rfl) (fun _ h => .inl h) (fun b hb => ?_)) (by rw [← ha, frzL_length, hl]) hargs).mono ?_
  · rcases hb with hb | ⟨k, o, l, _, h1, h2, h3⟩
    · exact rel.ent.sb.lt b hb
    · exact (rel.ent.own k o l b h1 h2 h3).2
  · rintro e w' ⟨v, S', κ', rfl, hv, hent, hS', hnew, hb⟩
    have e := rel.ent
    have hlt : ∀ k l, κ k = some l → k < n := fun k l hk => by
      apply Nat.lt_of_not_le; intro hh; rw [(e.fresh k hh).2] at hk; cases hk
    have hext : ∀ k l, κ k = some l → (fun k => if k < n then κ k else κ' (k - n)) k = some l := fun k l hk => by simp [hlt k l hk, hk]
    have hext' : ∀ k l, κ' k = some l → (fun k => if k < n then κ k else κ' (k - n)) (n + k) = some l := fun k l hk => by
      show (if n + k < n then κ (n + k) else κ' (n + k - n)) = some l
      rw [if_neg (by omega), show n + k - n = k by omega]; exact hk
    have hlook : ∀ k, lookM (memFrom n (renOs n rm) ++ (kills (kysL args) ++ m)) k = if n ≤ k ∧ k < n + rm.length then (renOs n rm)[k - n]? else if k ∈ kysL args then none else lookM m k := fun k => by
      rw [lookM_memFrom, lookM_kills, renOs_length]
    have hold : ∀ k o, lookM (memFrom n (renOs n rm) ++ (kills (kysL args) ++ m)) k = some o → k < n → lookM m k = some o ∧ k ∉ kysL args := fun k o h hk => by
      rw [hlook, if_neg (by omega)] at h
      split at h
      · cases h
      · rename_i hh; exact ⟨h, hh⟩
    have hnew' : ∀ k o, lookM (memFrom n (renOs n rm) ++ (kills (kysL args) ++ m)) k = some o → ¬ k < n → ∃ o', lookM (memOf rm) (k - n) = some o' ∧ o = renO n o' := fun k o h hk => by
      rw [hlook] at h
      split at h
      · rw [renOs_get, Option.map_eq_some_iff] at h
        obtain ⟨o', h1, rfl⟩ := h
        exact ⟨o', by rw [lookM_memOf]; exact h1, rfl⟩
      · split at h
        · cases h
        · rw [(e.fresh k (by show n ≤ k; omega)).1] at h; cases h
    have hS2 : ∀ b, S' b → S b ∨ blocksOf m κ (kysL args) b ∨ w.heap.size ≤ b := fun b hb' => by
      rcases hS' b hb' with (h | h) | h
      · exact .inl h
      · exact .inr (.inl h)
      · exact .inr (.inr h)
    have hnotS : ∀ k o l b, lookM m k = some o → k ∉ kysL args → κ k = some l → l.has b → ¬ S' b := fun k o l b h1 h2 h3 h4 hh => by
      rcases hS2 _ hh with h | ⟨k2, o2, l2, h5, h6, h7, h8⟩ | h
      · exact (e.own k o l b h1 h3 h4).1 h
      · have := e.inj k2 k o2 o l2 l b h6 h1 h7 h3 h8 h4
        subst this; exact h2 h5
      · have := (e.own k o l b h1 h3 h4).2; omega
    refine ⟨v, ren n r, _, _, (fun b => S b ∨ S' b), (fun k => if k < n then κ k else κ' (k - n)), rfl, hK, ren_R hv (fun _ h => .inr h) hext', rel.size, rel.defers, fun i => ?_, ⟨?_, ?_, ?_, ?_, ?_⟩, ?_⟩
    · exact (rel.tm i).mono (fun b hb' => hb.block b (e.sb.lt b hb')) (fun _ h => .inl h) hext
    · intro k o hk
      by_cases c : k < n
      · obtain ⟨h1, h2⟩ := hold k o hk c
        exact (e.mm k o h1).mono (fun b hb' => hb.block b (e.sb.lt b hb')) (fun _ h => .inl h) hext (fun l b hl hn => hb.block _ (e.own k o l b h1 hl hn).2)
      · obtain ⟨o', h1, rfl⟩ := hnew' k o hk c
        have := ren_ObjR (n := n) (hent.mm _ _ h1) (S' := fun b => S b ∨ S' b) (κ' := fun k => if k < n then κ k else κ' (k - n)) (fun _ h => .inr h) hext'
        rwa [show n + (k - n) = k by omega] at this
    · intro k k' o o' l l' b h1 h2 hk hk' hn hn'
      by_cases c : k < n <;> by_cases c' : k' < n
      · obtain ⟨h1, _⟩ := hold k o h1 c
        obtain ⟨h2, _⟩ := hold k' o' h2 c'
        simp only [c, c', if_true] at hk hk'
        exact e.inj k k' o o' l l' b h1 h2 hk hk' hn hn'
      · obtain ⟨h1, _⟩ := hold k o h1 c
        obtain ⟨o2, h2, _⟩ := hnew' k' o' h2 c'
        simp only [c, c', if_true, if_false] at hk hk'
        have := (e.own k o l b h1 hk hn).2
        have := hnew _ _ _ b h2 hk' hn'
        omega
      · obtain ⟨h2, _⟩ := hold k' o' h2 c'
        obtain ⟨o1, h1, _⟩ := hnew' k o h1 c
        simp only [c, c', if_true, if_false] at hk hk'
        have := (e.own k' o' l' b h2 hk' hn').2
        have := hnew _ _ _ b h1 hk hn
        omega
      · obtain ⟨o1, h1, _⟩ := hnew' k o h1 c
        obtain ⟨o2, h2, _⟩ := hnew' k' o' h2 c'
        simp only [c, c', if_false] at hk hk'
        have := hent.inj _ _ _ _ l l' b h1 h2 hk hk' hn hn'
        omega
    · intro k o l b h1 hk hn
      by_cases c : k < n
      · obtain ⟨h1, h2⟩ := hold k o h1 c
        simp only [c, if_true] at hk
        have := e.own k o l b h1 hk hn
        exact ⟨fun hh => hh.elim this.1 (hnotS k o l b h1 h2 hk hn), Nat.lt_of_lt_of_le this.2 hb.size⟩
      · obtain ⟨o1, h1, _⟩ := hnew' k o h1 c
        simp only [c, if_false] at hk
        have h3 := hent.own _ _ _ b h1 hk hn
        have h4 := hnew _ _ _ b h1 hk hn
        exact ⟨fun hh => hh.elim (fun hS => by have := e.sb.lt _ hS; omega) h3.1, h3.2⟩
    · intro k hk
      have hk' : n + 1 + rm.length ≤ k := hk
      refine ⟨?_, ?_⟩
      · rw [hlook, if_neg (by omega)]
        split
        · rfl
        · exact (e.fresh k (by show n ≤ k; omega)).1
      · simp only [show ¬ k < n by omega, if_false]
        exact (hent.fresh (k - n) (by show rm.length ≤ k - n; omega)).2
    · exact hent.sb.mono (fun _ _ => rfl) (fun _ h => .inr h) (fun b hh => hh.elim (fun h => Nat.lt_of_lt_of_le (e.sb.lt b h) hb.size) (hent.sb.lt b))
    · have s := rel.since
      refine ⟨?_, ?_, hb.os.trans s.os, hb.tape.trans s.tape, hb.output.trans s.output, Nat.le_trans s.ge hb.size, fun b h1 h2 => (hb.block b (Nat.lt_of_lt_of_le h1 s.ge)).trans (s.keep b h1 h2), fun k l hk => by
        obtain ⟨l2, g1, g2⟩ := s.kp k l hk
        exact ⟨l2, hext k l2 g1, g2⟩⟩
      · intro k o l b h1 hk hn
        by_cases c : k < n
        · obtain ⟨h1, _⟩ := hold k o h1 c
          simp only [c, if_true] at hk
          exact s.own k o l b h1 hk hn
        · obtain ⟨o1, h1, _⟩ := hnew' k o h1 c
          simp only [c, if_false] at hk
          have := hnew _ _ _ b h1 hk hn
          exact .inl (Nat.le_trans s.ge this)
      · intro b hh
        rcases hh with hh | hh
        · exact s.s0 b hh
        · rcases hS2 b hh with h | ⟨k2, o2, l2, h5, h6, h7, h8⟩ | h
          · exact s.s0 b h
          · exact .inr (s.own k2 o2 l2 b h6 h7 h8)
          · exact .inr (.inl (Nat.le_trans s.ge h))

end Go.Av
