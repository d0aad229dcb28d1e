/- All operations but calls. -/
import Derived.Test.YtelcipdpfoipiaaAvMk
namespace Go.Av

variable {P : Program} {w w' : World} {S S' : Nat → Prop} {κ κ' : Nat → Option Loc} {m : Mem} {n N : Nat} {F : Nat → Prop} {t : Tmps} {a : Act} {X : Ctx}
  {K : AV → Mem → Prop} {Q : Exit → Act → World → Prop} {o : Oper} {mo : MOp}

theorem c1_inv {f : Opd → MOp} {x : Operand} (h : c1 f x = some mo) : ∃ x', cOpd x = some x' ∧ mo = f x' := by
  simp only [c1, Option.map_eq_some_iff] at h
  obtain ⟨x', h1, h2⟩ := h
  exact ⟨x', h1, h2.symm⟩

theorem c2_inv {f : Opd → Opd → MOp} {x y : Operand} (h : c2 f x y = some mo) : ∃ x' y', cOpd x = some x' ∧ cOpd y = some y' ∧ mo = f x' y' := by
  unfold c2 at h
  split at h
  · rename_i x' y' h1 h2
    exact ⟨x', y', h1, h2, by simpa using h.symm⟩
  · simp at h

theorem c3_inv {f : Opd → Opd → Opd → MOp} {x y z : Operand} (h : c3 f x y z = some mo) : ∃ x' y' z', cOpd x = some x' ∧ cOpd y = some y' ∧ cOpd z = some z' ∧ mo = f x' y' z' := by
  unfold c3 at h
  split at h
  · rename_i x' y' z' h1 h2 h3
    exact ⟨x', y', z', h1, h2, h3, by simpa using h.symm⟩
  · simp at h

theorem op_ok (hc : cop P o = some mo) (hd : ∀ d, o.dst = some d → d < N) (r : Rel X N w S κ t m F a) (hF : F n) (h : vop mo t m n K) :
    o.wp P a w (Post K X N o.dst t m F n) Q := by
  unfold cop at hc
  split at hc
  · rename_i x ho
    obtain ⟨x', hx, rfl⟩ := c1_inv hc
    exact mov_ok (.inl ho) hx hd r h
  · rename_i x ho
    obtain ⟨x', hx, rfl⟩ := c1_inv hc
    exact mov_ok (.inr ho) hx hd r h
  · rename_i c x y ho
    split at hc
    · rename_i c' x' y' h1 h2 h3
      simp at hc; subst hc
      exact pick_ok ho h1 h2 h3 hd r h
    · simp at hc
  · rename_i op T x y T' ho
    unfold cBin at hc
    split at hc
    · obtain ⟨x', y', hx, hy, rfl⟩ := c2_inv hc
      exact bin_ok ho hx hy hd r h
    · rename_i hT
      obtain ⟨x', y', hx, hy, rfl⟩ := c2_inv hc
      exact eqb_ok (ng := false) ho hT hx hy hd r h
    · rename_i hT
      obtain ⟨x', y', hx, hy, rfl⟩ := c2_inv hc
      exact eqb_ok (ng := true) ho hT hx hy hd r h
    · rename_i e hT
      split at hc
      · rename_i hy
        obtain ⟨x', hx, rfl⟩ := c1_inv hc
        exact isnil_ok (ng := false) ho hT hy hx hd r h
      · simp at hc
    · rename_i e hT
      split at hc
      · rename_i hy
        obtain ⟨x', hx, rfl⟩ := c1_inv hc
        exact isnil_ok (ng := true) ho hT hy hx hd r h
      · simp at hc
    · split at hc
      · rename_i k hk
        obtain ⟨x', y', hx, hy, rfl⟩ := c2_inv hc
        exact eqa_ok (ng := false) ho hk hx hy hd r h
      · simp at hc
    · split at hc
      · rename_i k hk
        obtain ⟨x', y', hx, hy, rfl⟩ := c2_inv hc
        exact eqa_ok (ng := true) ho hk hx hy hd r h
      · simp at hc
    · simp at hc
  · rename_i T x ho
    obtain ⟨x', hx, rfl⟩ := c1_inv hc
    exact not_ok ho hx hd r h
  · rename_i T x ho
    obtain ⟨x', hx, rfl⟩ := c1_inv hc
    exact neg_ok ho hx hd r h
  · rename_i T T' x ho
    split at hc
    · rename_i d k h1 h2
      obtain ⟨x', hx, rfl⟩ := c1_inv hc
      exact conv_ok ho h1 h2 hx hd r h
    · rename_i e h1 h2
      split at hc
      · rename_i he
        obtain ⟨x', hx, rfl⟩ := c1_inv hc
        exact b2s_ok ho h1 h2 he hx hd r h
      · simp at hc
    · simp at hc
  · rename_i T ho
    split at hc
    · rename_i z hi
      simp at hc; subst hc
      exact alloc_ok ho hi rfl hd r hF h
    · simp at hc
  · rename_i T x ho
    obtain ⟨x', hx, rfl⟩ := c1_inv hc
    exact box_ok ho hx hd r hF h
  · rename_i T parts ho
    split at hc
    · rename_i z fs hi hT
      split at hc
      · rename_i hfs
        split at hc
        · rename_i ps hp
          simp at hc; subst hc
          exact build_ok ho hi rfl hT hfs hp hd r h
        · simp at hc
      · simp at hc
    · rename_i z _ e hi hT
      split at hc
      · rename_i k hk
        split at hc
        · rename_i ps hp
          simp at hc; subst hc
          exact buildA_ok ho hi rfl hT hk hp hd r h
        · simp at hc
      · simp at hc
    · simp at hc
  · rename_i T x ho
    split at hc
    · rename_i c hT
      obtain ⟨x', hx, rfl⟩ := c1_inv hc
      exact load_ok ho hT hx hd r hF h
    · simp at hc
  · rename_i T x y ho
    split at hc
    · rename_i c hT
      obtain ⟨x', y', hx, hy, rfl⟩ := c2_inv hc
      exact store_ok ho hT hx hy hd r h
    · simp at hc
  · rename_i s x f ho
    split at hc
    · rename_i fs hs
      split at hc
      · rename_i fd hf
        split at hc
        · rename_i c hz
          obtain ⟨x', hx, rfl⟩ := c1_inv hc
          exact faddr_ok ho hs hf hz hx hd r h
        · simp at hc
      · simp at hc
    · simp at hc
  · rename_i s x f ho
    split at hc
    · rename_i fs hs
      split at hc
      · rename_i fd hf
        split at hc
        · rename_i c hz
          obtain ⟨x', hx, rfl⟩ := c1_inv hc
          exact fld_ok ho hs hf hz hx hd r h
        · simp at hc
      · simp at hc
    · simp at hc
  · rename_i T x i ho
    split at hc
    · rename_i L e hT
      split at hc
      · rename_i hz
        obtain ⟨x', i', hx, hi, rfl⟩ := c2_inv hc
        exact idx_ok ho hT hz hx hi hd r h
      · simp at hc
    · simp at hc
  · rename_i T x i ho
    split at hc
    · rename_i e hT
      split at hc
      · rename_i c hz
        obtain ⟨x', i', hx, hi, rfl⟩ := c2_inv hc
        exact iaddr_ok ho hT hz hx hi hd r h
      · simp at hc
    · rename_i L e hT
      split at hc
      · rename_i c hz
        obtain ⟨x', i', hx, hi, rfl⟩ := c2_inv hc
        exact aaddr_ok ho hT hz hx hi hd r h
      · simp at hc
    · simp at hc
  · rename_i x ho
    obtain ⟨x', hx, rfl⟩ := c1_inv hc
    exact nchk_ok ho hx hd r h
  · rename_i T x lo hi ho
    split at hc
    · rename_i e hT
      split at hc
      · rename_i c x' lo' hi' hz hx hl hh
        simp at hc; subst hc
        exact slc_ok ho hT hz hx hl hh hd r h
      · simp at hc
    · simp at hc
  · rename_i x i ho
    obtain ⟨x', hx, rfl⟩ := c1_inv hc
    exact ext_ok ho hx hd r h
  · rename_i T ho
    split at hc
    · simp at hc; subst hc
      exact mnew_ok ho hd r hF h
    · simp at hc
  · rename_i T x i ok ho
    split at hc
    · rename_i kk z hT
      obtain ⟨x', i', hx, hi, rfl⟩ := c2_inv hc
      exact mget_ok ho hT hx hi hd r h
    · split at hc
      · rename_i z hT
        obtain ⟨x', i', hx, hi, rfl⟩ := c2_inv hc
        exact sget_ok ho hT hx hi hd r h
      · split at hc
        · rename_i ks z hT
          obtain ⟨x', i', hx, hi, rfl⟩ := c2_inv hc
          exact aget_ok ho hT hx hi hd r h
        · simp at hc
  · rename_i T x i y ho
    split at hc
    · rename_i kk z hT
      obtain ⟨x', i', y', hx, hi, hy, rfl⟩ := c3_inv hc
      exact mset_ok ho hT hx hi hy hd r h
    · split at hc
      · rename_i z hT
        obtain ⟨x', i', y', hx, hi, hy, rfl⟩ := c3_inv hc
        exact sset_ok ho hT hx hi hy hd r h
      · split at hc
        · rename_i ks z hT
          obtain ⟨x', i', y', hx, hi, hy, rfl⟩ := c3_inv hc
          exact aset_ok ho hT hx hi hy hd r h
        · simp at hc
  · rename_i T x ho
    split at hc
    · rename_i hT
      obtain ⟨x', hx, rfl⟩ := c1_inv hc
      exact mrng_ok ho hT hx hd r hF h
    · simp at hc
  · rename_i x ho
    obtain ⟨x', hx, rfl⟩ := c1_inv hc
    exact next_ok ho hx hd r h
  · rename_i x ho
    obtain ⟨x', hx, rfl⟩ := c1_inv hc
    exact entry_ok ho hx hd r h
  · rename_i f first caps ho
    split at hc
    · rename_i hf
      simp only [Option.map_eq_some_iff] at hc
      obtain ⟨caps', hx, rfl⟩ := hc
      exact mkfn_ok ho hf hx hd r h
    · simp at hc
  · rename_i args argTypes ho
    split at hc
    · rename_i x e h1 h2
      obtain ⟨x', hx, rfl⟩ := c1_inv hc
      simp only [Option.bind_eq_some_iff] at h2
      obtain ⟨T, hT, hu⟩ := h2
      exact len_ok ho rfl h1 hT hu hx hd r h
    · rename_i x k e h1 h2
      obtain ⟨x', hx, rfl⟩ := c1_inv hc
      simp only [Option.bind_eq_some_iff] at h2
      obtain ⟨T, hT, hu⟩ := h2
      exact mlen_ok ho rfl h1 hT hu hx hd r h
    · simp at hc
  · rename_i args argTypes ho
    split at hc
    · rename_i x e h1 h2
      obtain ⟨x', hx, rfl⟩ := c1_inv hc
      simp only [Option.bind_eq_some_iff] at h2
      obtain ⟨T, hT, hu⟩ := h2
      exact cap_ok ho rfl h1 hT hu hx hd r h
    · simp at hc
  · rename_i args argTypes ho
    split at hc
    · rename_i x y k h1 h2
      obtain ⟨x', y', hx, hy, rfl⟩ := c2_inv hc
      simp only [Option.bind_eq_some_iff] at h2
      obtain ⟨T, hT, hu⟩ := h2
      exact mm_ok (mn := true) ho rfl h1 hT hu hx hy hd r h
    · simp at hc
  · rename_i args argTypes ho
    split at hc
    · rename_i x y k h1 h2
      obtain ⟨x', y', hx, hy, rfl⟩ := c2_inv hc
      simp only [Option.bind_eq_some_iff] at h2
      obtain ⟨T, hT, hu⟩ := h2
      exact mm_ok (mn := false) ho rfl h1 hT hu hx hy hd r h
    · simp at hc
  · rename_i args argTypes ho
    split at hc
    · rename_i x y e e' h1 h2
      split at hc
      · rename_i sz z he
        obtain ⟨x', y', hx, hy, rfl⟩ := c2_inv hc
        unfold two at h2
        split at h2
        · rename_i T T' hat
          split at h2
          · rename_i d d' g1 g2
            simp only [Option.some.injEq, Prod.mk.injEq] at h2
            obtain ⟨rfl, rfl⟩ := h2
            exact app_ok ho rfl h1 (Array.toList_inj.1 hat) g1 g2 he hx hy hd r hF h
          · cases h2
        · cases h2
      · simp at hc
    · rename_i x y e k h1 h2
      split at hc
      · rename_i sz z he
        obtain ⟨x', y', hx, hy, rfl⟩ := c2_inv hc
        unfold two at h2
        split at h2
        · rename_i T T' hat
          split at h2
          · rename_i d d' g1 g2
            simp only [Option.some.injEq, Prod.mk.injEq] at h2
            obtain ⟨rfl, rfl⟩ := h2
            exact appz_ok ho rfl h1 (Array.toList_inj.1 hat) g1 g2 he hx hy hd r hF h
          · cases h2
        · cases h2
      · simp at hc
    · simp at hc
  · rename_i T l c ho
    split at hc
    · rename_i e hT
      split at hc
      · rename_i sz z he
        split at hc
        · rename_i hz
          split at hc
          · split at hc
            · obtain ⟨l', c', hl, hcc, rfl⟩ := c2_inv hc
              exact mkm_ok ho hT he hz hl hcc hd r hF h
            · obtain ⟨l', c', hl, hcc, rfl⟩ := c2_inv hc
              exact mks_ok ho hT he hl hcc hd r hF h
          · obtain ⟨l', c', hl, hcc, rfl⟩ := c2_inv hc
            exact mks_ok ho hT he hl hcc hd r hF h
        · obtain ⟨l', c', hl, hcc, rfl⟩ := c2_inv hc
          exact mks_ok ho hT he hl hcc hd r hF h
      · simp at hc
    · simp at hc
  · rename_i T len parts ho
    split at hc
    · rename_i e hT
      split at hc
      · rename_i sz z he
        split at hc
        · rename_i hh
          simp only [Option.map_eq_some_iff] at hc
          obtain ⟨xs, hx, rfl⟩ := hc
          exact blds_ok ho hT he hh.1 hh.2 hx hd r hF h
        · simp at hc
      · simp at hc
    · simp at hc
  · simp at hc; subst hc; exact h.elim
  · simp at hc; subst hc; exact h.elim
  · simp at hc

end Go.Av
