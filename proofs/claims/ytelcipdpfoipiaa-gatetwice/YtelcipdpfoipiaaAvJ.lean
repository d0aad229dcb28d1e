/- Calls: what is handed on, what comes back. -/
import Derived.Test.YtelcipdpfoipiaaAvI
namespace Go.Av
open Go.RowKit (Below)

variable {P : Program} {w w' : World} {S S' Sc : Nat → Prop} {κ κ' : Nat → Option Loc} {m : Mem} {n N : Nat} {F : Nat → Prop} {t : Tmps} {a : Act} {X : Ctx}

theorem frzL_get (rho : List Nat) (m : Mem) (xs : List AV) (i : Nat) : (frzL rho m xs)[i]? = xs[i]?.map (frz rho m) := by
  induction xs generalizing i with
  | nil => simp [frzL]
  | cons x xs ih => cases i <;> simp [frzL, ih]
theorem frzL_length (rho : List Nat) (m : Mem) (xs : List AV) : (frzL rho m xs).length = xs.length := by
  induction xs with
  | nil => simp [frzL]
  | cons x xs ih => simp [frzL, ih]

theorem frz_R0_self {rho : List Nat} {x : AV} {v : Value} (h : R0 w S x v) : frz rho m x = x := by
  induction h with
  | agg hl _ ih =>
    rename_i xs vs _
    simp only [frz]
    congr 1
    apply List.ext_getElem?
    intro i
    rw [frzL_get]
    cases hx : xs[i]? with
    | none => rfl
    | some x =>
      have hi : i < vs.size := by rw [← hl]; exact (List.getElem?_eq_some_iff.1 hx).1
      simp [ih i x vs[i] hx (by simp [hi])]
  | tup hl _ ih =>
    rename_i xs vs _
    simp only [frz]
    congr 1
    apply List.ext_getElem?
    intro i
    rw [frzL_get]
    cases hx : xs[i]? with
    | none => rfl
    | some x =>
      have hi : i < vs.size := by rw [← hl]; exact (List.getElem?_eq_some_iff.1 hx).1
      simp [ih i x vs[i] hx (by simp [hi])]
  | fn hl _ ih =>
    rename_i f xs vs _
    simp only [frz]
    congr 1
    apply List.ext_getElem?
    intro i
    rw [frzL_get]
    cases hx : xs[i]? with
    | none => rfl
    | some x =>
      have hi : i < vs.size := by rw [← hl]; exact (List.getElem?_eq_some_iff.1 hx).1
      simp [ih i x vs[i] hx (by simp [hi])]
  | _ => simp [frz]

theorem kysL_mem {xs : List AV} {i : Nat} {x : AV} (h : xs[i]? = some x) {k : Nat} (hk : k ∈ kys x) : k ∈ kysL xs := by
  induction xs generalizing i with
  | nil => simp at h
  | cons y xs ih =>
    simp only [kysL, List.mem_append]
    cases i with
    | zero => simp at h; subst h; exact .inl hk
    | succ i => exact .inr (ih (by simpa using h))

/-- the blocks of keys -/
def blocksOf (m : Mem) (κ : Nat → Option Loc) (ks : List Nat) (b : Nat) : Prop :=
  ∃ k o l, k ∈ ks ∧ lookM m k = some o ∧ κ k = some l ∧ l.has b

theorem rowsOk_get {rows : List MRow} (h : rowsOk rows = true) {i : Nat} {r : MRow} (hi : rows[i]? = some r) : rowOk r = true := by
  induction rows generalizing i with
  | nil => simp at hi
  | cons q rows ih =>
    simp only [rowsOk, Bool.and_eq_true] at h
    cases i with
    | zero => simp at hi; subst hi; exact h.1
    | succ i => exact ih h.2 (by simpa using hi)

/-- a row that is only read from now on -/
theorem row_R0 {sz : Nat} {sub : Option Nat} {c : Value} {r : MRow} (h : RowR w S sz sub c r) (hS : ∀ b, S b → S' b) (hb : ∀ b, sub = some b → S' b) (hok : rowOk r = true) :
    R0 w S' (rowRO sz r) c ∧ (rowRO sz r).cells = [rowRO sz r] ∧ (rowRO sz r).isCell = true := by
  cases r with
  | own xs =>
    rcases h with ⟨rfl, _, a, rfl⟩ | ⟨b, base, cap, h1, rfl, h3, vs, T, h4, h5, h6, h7⟩
    · exact ⟨.roNil, rfl, rfl⟩
    refine ⟨.ro (c := fun q => (vs[base + q]?).getD undef) (hb b h1) h3 h6 (fun q hq => ?_) (fun i x j y hx hy => ?_), rfl, rfl⟩
    · have : xs.length * sz ≤ cap * sz := Nat.mul_le_mul_right _ h3
      rw [cell_of h4, Array.getElem?_eq_getElem (by omega)]; rfl
    · obtain ⟨c, hc, hR⟩ := h7 i x j y hx hy
      rw [← Nat.add_assoc, hc]
      exact hR.mono (fun _ _ => rfl) hS
  | cell x => exact ⟨h.2.2.2.mono (fun _ _ => rfl) hS, h.2.2.1, h.2.1⟩
  | gone => cases hok

theorem mat_R0 {k sz off len cap : Nat} {rows : List MRow} {l : Loc} (h : ObjR w S κ k (.mat sz rows)) (hk : κ k = some l) (hS : ∀ b, S b → S' b) (hb : ∀ b, l.has b → S' b)
    (hok : rowsOk rows = true) (hlen : len ≤ cap) (hcap : off + cap ≤ l.cap) (hu : off + len ≤ l.used) :
    R0 w S' (.ro 1 (((rows.map (rowRO sz)).drop off).take len)) (.slice (some ⟨l.b, l.base + off * l.sz, none⟩) len cap) := by
  obtain ⟨l', hk', hn, h1, h2, h3, h4, h5, vs, T, h6, h7, h8⟩ := h
  rw [hk] at hk'; cases hk'
  have hlen' : (((rows.map (rowRO sz)).drop off).take len).length = len := by simp; omega
  have hget : ∀ (i : Nat) x, (((rows.map (rowRO sz)).drop off).take len)[i]? = some x → i < len ∧ ∃ r, rows[off + i]? = some r ∧ x = rowRO sz r := fun i x h => by
    have hi : i < len := by have := (List.getElem?_eq_some_iff.1 h).1; omega
    rw [List.getElem?_take_of_lt hi, List.getElem?_drop, List.getElem?_map, Option.map_eq_some_iff] at h
    obtain ⟨r, hr, rfl⟩ := h
    exact ⟨hi, r, hr, rfl⟩
  have key : ∀ (i : Nat) r, rows[i]? = some r → ∃ c, vs[l.base + i]? = some c ∧ R0 w S' (rowRO sz r) c ∧ (rowRO sz r).cells = [rowRO sz r] ∧ (rowRO sz r).isCell = true := fun i r hr => by
    obtain ⟨c, hc, hR⟩ := h8 i r hr
    exact ⟨c, hc, row_R0 hR hS (fun b hb' => hb b (.inr ⟨i, hb'⟩)) (rowsOk_get hok hr)⟩
  have := R0.ro (w := w) (S := S') (sz := 1) (xs := ((rows.map (rowRO sz)).drop off).take len) (b := l.b) (off := l.base + off * l.sz) (cap := cap)
    (c := fun q => (vs[l.base + off * l.sz + q]?).getD undef) (hb _ (.inl ⟨hn, rfl⟩)) (by omega)
    (fun i x hx => by
      obtain ⟨hi, r, hr, rfl⟩ := hget i x hx
      obtain ⟨c, _, _, g1, g2⟩ := key _ r hr
      rw [g1]; exact ⟨rfl, by simp [allCell, g2]⟩)
    (fun q hq => by
      rw [hlen', Nat.mul_one] at hq
      rw [cell_of h6, Array.getElem?_eq_getElem (by rw [h1]; omega)]; rfl)
    (fun i x j y hx hy => by
      obtain ⟨hi, r, hr, rfl⟩ := hget i x hx
      obtain ⟨c, hc, hR, g1, _⟩ := key _ r hr
      rw [g1] at hy
      cases j with
      | zero =>
        simp at hy; subst hy
        rw [show l.base + off * l.sz + (i * 1 + 0) = l.base + (off + i) from by rw [h1]; omega, hc]
        exact hR
      | succ j => simp at hy)
  rwa [hlen'] at this

theorem frz_R0 {x : AV} {v : Value} {ks : List Nat} (e : Ent w S κ m F) (h : R w S κ x v) (hks : ∀ k ∈ kys x, k ∈ ks) :
    R0 w (fun b => S b ∨ blocksOf m κ ks b) (frz [] m x) v := by
  induction h with
  | base h => rw [frz_R0_self h]; exact h.mono (fun _ _ => rfl) (fun _ h => .inl h)
  | agg hl _ ih =>
    simp only [frz]
    refine .agg (by rw [frzL_length, hl]) (fun i x y h1 h2 => ?_)
    rw [frzL_get, Option.map_eq_some_iff] at h1
    obtain ⟨x', h1, rfl⟩ := h1
    exact ih i x' y h1 h2 (fun k hk => hks k (kysL_mem h1 hk))
  | tup hl _ ih =>
    simp only [frz]
    refine .tup (by rw [frzL_length, hl]) (fun i x y h1 h2 => ?_)
    rw [frzL_get, Option.map_eq_some_iff] at h1
    obtain ⟨x', h1, rfl⟩ := h1
    exact ih i x' y h1 h2 (fun k hk => hks k (kysL_mem h1 hk))
  | fn hl _ ih =>
    simp only [frz]
    refine .fn (by rw [frzL_length, hl]) (fun i x y h1 h2 => ?_)
    rw [frzL_get, Option.map_eq_some_iff] at h1
    obtain ⟨x', h1, rfl⟩ := h1
    exact ih i x' y h1 h2 (fun k hk => hks k (kysL_mem h1 hk))
  | elt hk hn => simp only [frz]; exact .dead _
  | ptr hk =>
    rename_i k off l
    simp only [frz, pos]
    split
    · rename_i cs hm
      split
      · rename_i hkf
        obtain ⟨l', hk', hn, vs, T, h1, h2, h3⟩ := e.mm _ _ hm
        rw [hk] at hk'; cases hk'
        refine .rp (c := fun j => (vs[l.base + (off + j)]?).getD undef) (.inr ⟨k, _, l, hks k (by simp [kys]), hm, hk, .inl ⟨hn, rfl⟩⟩) (fun j hj => ?_) (fun j y hj => ?_)
        · rw [cell_of h1, Nat.add_assoc, Array.getElem?_eq_getElem (by simp at hj; omega)]; rfl
        · rw [List.getElem?_drop] at hj
          obtain ⟨c, hc, hR⟩ := h3 _ y hj
          rw [hc]
          exact (kf_R0 hR (kfs_get hkf hj)).mono (fun _ _ => rfl) (fun _ h => .inl h)
      · exact .dead _
    · exact .dead _
  | arrNil hk hn =>
    rename_i k l
    simp only [frz, pos]
    split
    · simp only [List.take_zero]; exact .roNil
    · rename_i sz rows _
      cases rowsOk rows
      · exact .dead _
      · simp only [cond_true, List.take_zero]; exact .roNil
    · exact .dead _
  | arr0 hk =>
    simp only [frz, pos]
    split
    · simp only [List.take_zero]; exact .roNil
    · rename_i sz rows _
      cases rowsOk rows
      · exact .dead _
      · simp only [cond_true, List.take_zero]; exact .roNil
    · exact .dead _
  | arr hk hn hlen hcap hu =>
    rename_i k off len cap l
    simp only [frz, pos]
    split
    · rename_i sz xs hm
      obtain ⟨l', hk', h0⟩ := e.mm _ _ hm
      rw [hk] at hk'; cases hk'
      rcases h0 with ⟨h0, _⟩ | ⟨_, rfl, h1, h1', vs, T', h2, h3, h4, h5⟩
      · rw [hn] at h0; cases h0
      · have hlen' : ((xs.drop off).take len).length = len := by simp; omega
        have hget : ∀ (i : Nat) x, ((xs.drop off).take len)[i]? = some x → i < len ∧ xs[off + i]? = some x := fun i x h => by
          have hi : i < len := by have := (List.getElem?_eq_some_iff.1 h).1; omega
          rw [List.getElem?_take_of_lt hi, List.getElem?_drop] at h
          exact ⟨hi, h⟩
        have := R0.ro (w := w) (S := fun b => S b ∨ blocksOf m κ ks b) (sz := l.sz) (xs := (xs.drop off).take len) (b := l.b) (off := l.base + off * l.sz) (cap := cap)
          (c := fun q => (vs[l.base + off * l.sz + q]?).getD undef) (.inr ⟨k, _, l, hks k (by simp [kys]), hm, hk, .inl ⟨hn, rfl⟩⟩) (by omega)
          (fun i x hx => h4 _ _ (hget i x hx).2)
          (fun q hq => by
            rw [hlen'] at hq
            have : (off + len) * l.sz ≤ l.cap * l.sz := Nat.mul_le_mul_right _ (by omega)
            rw [Nat.add_mul] at this
            rw [cell_of h2, Array.getElem?_eq_getElem (by omega)]; rfl)
          (fun i x j y hx hy => by
            obtain ⟨c, hc, hR⟩ := h5 _ x j y (hget i x hx).2 hy
            rw [show l.base + off * l.sz + (i * l.sz + j) = l.base + (off + i) * l.sz + j from by rw [Nat.add_mul]; omega, hc]
            exact hR.mono (fun _ _ => rfl) (fun _ h => .inl h))
        rwa [hlen'] at this
    · rename_i sz rows hm
      cases hok : rowsOk rows
      · exact .dead _
      · exact mat_R0 (e.mm _ _ hm) hk (fun _ h => .inl h) (fun b hb => .inr ⟨k, _, l, hks k (by simp [kys]), hm, hk, hb⟩) hok hlen hcap hu
    · exact .dead _
  | mp hk hn =>
    rename_i k l
    simp only [frz, pos]
    split
    · rename_i es hm
      obtain ⟨l', hk', hn', ents, clock, h1, h2, h3, h4, h5⟩ := e.mm _ _ hm
      rw [hk] at hk'; cases hk'
      exact .rm (.inr ⟨k, _, l, hks k (by simp [kys]), hm, hk, .inl ⟨hn, rfl⟩⟩) h1 h2 (fun i p e hp he => (h5 i p e hp he).1) h3 h4
        (fun i p e hp he => (h5 i p e hp he).2.mono (fun _ _ => rfl) (fun _ h => .inl h))
    · exact .dead _

/-- a world in which all that was there is as it was -/
theorem Ent.below (e : Ent w S κ m F) (hb : Below w.heap.size w w') : Ent w' S κ m F := by
  refine ⟨fun k o h => (e.mm k o h).mono (fun b hb' => hb.block b (e.sb.lt b hb')) (fun _ h => h) (fun _ _ h => h) (fun l b hl hn => hb.block _ (e.own k o l b h hl hn).2), e.inj, fun k o l b h1 h2 h3 => ?_, e.fresh, e.sb.mono (fun b hb' => hb.block b (e.sb.lt b hb')) (fun _ h => h) (fun b hb' => Nat.lt_of_lt_of_le (e.sb.lt b hb') hb.size)⟩
  exact ⟨(e.own k o l b h1 h2 h3).1, Nat.lt_of_lt_of_le (e.own k o l b h1 h2 h3).2 hb.size⟩

theorem Since.below (s : Since X w S κ m) (hb : Below w.heap.size w w') : Since X w' S κ m :=
  ⟨s.own, s.s0, hb.os.trans s.os, hb.tape.trans s.tape, hb.output.trans s.output, Nat.le_trans s.ge hb.size, fun b h1 h2 => (hb.block b (Nat.lt_of_lt_of_le h1 s.ge)).trans (s.keep b h1 h2), s.kp⟩

theorem Rel.below (r : Rel X N w S κ t m F a) (hb : Below w.heap.size w w') : Rel X N w' S κ t m F a :=
  ⟨r.size, r.defers, fun i => (r.tm i).mono (fun b hb' => hb.block b (r.ent.sb.lt b hb')) (fun _ h => h) (fun _ _ h => h), r.ent.below hb, r.since.below hb⟩

mutual
/-- it leads to no memory -/
def flat : AV → Bool
  | .v _ => true
  | .agg xs => flatL xs
  | .tup xs => flatL xs
  | _ => false
def flatL : List AV → Bool
  | [] => true
  | x :: r => flat x && flatL r
end

theorem flatL_get {xs : List AV} (h : flatL xs = true) {i : Nat} {x : AV} (hi : xs[i]? = some x) : flat x = true := by
  induction xs generalizing i with
  | nil => simp at hi
  | cons y xs ih =>
    simp only [flatL, Bool.and_eq_true] at h
    cases i with
    | zero => simp at hi; subst hi; exact h.1
    | succ i => exact ih h.2 (by simpa using hi)

theorem flat_R0 {x : AV} {v : Value} (h : R0 w S x v) (hx : flat x = true) : R0 w' S' x v := by
  induction h with
  | v x => exact .v x
  | agg hl _ ih => exact .agg hl (fun i x y h1 h2 => ih i x y h1 h2 (flatL_get hx h1))
  | tup hl _ ih => exact .tup hl (fun i x y h1 h2 => ih i x y h1 h2 (flatL_get hx h1))
  | _ => simp [flat] at hx

theorem flat_R {x : AV} {v : Value} (h : R w S κ x v) (hx : flat x = true) : R0 w' S' x v := by
  induction h with
  | base h => exact flat_R0 h hx
  | agg hl _ ih => exact .agg hl (fun i x y h1 h2 => ih i x y h1 h2 (flatL_get hx h1))
  | tup hl _ ih => exact .tup hl (fun i x y h1 h2 => ih i x y h1 h2 (flatL_get hx h1))
  | _ => simp [flat] at hx

/-- a call that hands back what leads to no memory -/
theorem callF {f : FuncId} {args args' : List AV} {r : AV} {K : AV → Mem → Nat → Prop} (h : CallsA P f args' r []) (ha : frzL [] m args = args') (hr : flat r = true)
    (hK : K r m (n + 1)) : CallVC P f args m n K := by
  refine ⟨h.1, fun X N w S κ t a vals rel hl hR => ?_⟩
  have hargs : ∀ (i : Nat) x y, args'[i]? = some x → vals[i]? = some y → R0 w (fun b => S b ∨ blocksOf m κ (kysL args) b) x y := fun i x y h1 h2 => by
    rw [← ha, frzL_get, Option.map_eq_some_iff] at h1
    obtain ⟨x', h1, rfl⟩ := h1
    exact frz_R0 rel.ent (hR i x' y h1 h2) (fun k hk => kysL_mem h1 hk)
  refine (h.2 w _ vals (rel.ent.sb.mono (fun _ _ => rfl) (fun _ h => .inl h) (fun b hb => ?_)) (by rw [← ha, frzL_length, hl]) hargs).mono ?_
  · rcases hb with hb | ⟨k, o, l, _, h1, h2, h3⟩
    · exact rel.ent.sb.lt b hb
    · exact (rel.ent.own k o l b h1 h2 h3).2
  · rintro e w' ⟨v, S', κ', rfl, hv, _, _, _, hb⟩
    exact ⟨v, r, m, n + 1, S, κ, rfl, hK, .base (flat_R hv hr), (rel.below hb).free fun k hk => by have : n + 1 ≤ k := hk; show n ≤ k; omega⟩

end Go.Av
