/- Calls that hand back memory. -/
import Derived.Test.YtelcipdpfoipiaaAvJ
namespace Go.Av
open Go.RowKit (Below)

variable {P : Program} {w w' : World} {S S' Sc : Nat → Prop} {κ κ' : Nat → Option Loc} {m : Mem} {n N : Nat} {F : Nat → Prop} {t : Tmps} {a : Act} {X : Ctx}

mutual
/-- the callee's keys, as the caller counts them -/
def ren (n : Nat) : AV → AV
  | .agg xs => .agg (renL n xs)
  | .tup xs => .tup (renL n xs)
  | .fn f xs => .fn f (renL n xs)
  | .ptr k off => .ptr (n + k) off
  | .arr k off len => .arr (n + k) off len
  | .elt k i j => .elt (n + k) i j
  | .mp k => .mp (n + k)
  | x => x
def renL (n : Nat) : List AV → List AV
  | [] => []
  | x :: r => ren n x :: renL n r
end

def renO (n : Nat) : MObj → MObj
  | .box cs => .box (renL n cs)
  | .lent sz rows _ _ => .mat sz rows
  | o => o

def renOs (n : Nat) : List MObj → List MObj
  | [] => []
  | o :: r => renO n o :: renOs n r

theorem renL_get (n : Nat) (xs : List AV) (i : Nat) : (renL n xs)[i]? = xs[i]?.map (ren n) := by
  induction xs generalizing i with
  | nil => simp [renL]
  | cons x xs ih => cases i <;> simp [renL, ih]
theorem renL_length (n : Nat) (xs : List AV) : (renL n xs).length = xs.length := by
  induction xs with
  | nil => simp [renL]
  | cons x xs ih => simp [renL, ih]
theorem renOs_get (n : Nat) (xs : List MObj) (i : Nat) : (renOs n xs)[i]? = xs[i]?.map (renO n) := by
  induction xs generalizing i with
  | nil => simp [renOs]
  | cons x xs ih => cases i <;> simp [renOs, ih]
theorem renOs_length (n : Nat) (xs : List MObj) : (renOs n xs).length = xs.length := by
  induction xs with
  | nil => simp [renOs]
  | cons x xs ih => simp [renOs, ih]

theorem lookM_memFrom (l : List MObj) (m : Mem) (n k : Nat) : lookM (memFrom n l ++ m) k = if n ≤ k ∧ k < n + l.length then l[k - n]? else lookM m k := by
  induction l generalizing n with
  | nil => simp [memFrom]; intro h1 h2; omega
  | cons o l ih =>
    simp only [memFrom, List.cons_append]
    by_cases h : n = k
    · subst h; rw [lookM_cons_eq, if_pos (by simp)]; simp
    · rw [lookM_cons_ne _ _ h, ih]
      by_cases h2 : n + 1 ≤ k ∧ k < n + 1 + l.length
      · rw [if_pos h2, if_pos (by simp; omega), show k - n = (k - (n + 1)) + 1 by omega, List.getElem?_cons_succ]
      · rw [if_neg h2, if_neg (by simp; omega)]

theorem lookM_memOf (l : List MObj) (k : Nat) : lookM (memOf l) k = l[k]? := by
  have := lookM_memFrom l [] 0 k
  simp only [List.append_nil] at this
  rw [this]
  by_cases h : k < l.length
  · rw [if_pos (by omega)]; simp
  · rw [if_neg (by omega)]; simp [lookM, List.getElem?_eq_none (Nat.le_of_not_lt h)]

theorem lookM_kills (ks : List Nat) (m : Mem) (k : Nat) : lookM (kills ks ++ m) k = if k ∈ ks then none else lookM m k := by
  induction ks with
  | nil => simp [kills]
  | cons k' ks ih =>
    simp only [kills, List.cons_append]
    by_cases h : k' = k
    · subst h; rw [lookM_cons_eq]; simp
    · rw [lookM_cons_ne _ _ h, ih]; simp [show k ≠ k' from fun e => h e.symm]

theorem ren_R0 {x : AV} {v : Value} (h : R0 w S x v) : ren n x = x := by
  have aux : ∀ (xs : List AV) (vs : Array Value), xs.length = vs.size → (∀ (i : Nat) x y, xs[i]? = some x → vs[i]? = some y → ren n x = x) → renL n xs = xs := by
    intro xs vs hl ih
    apply List.ext_getElem?
    intro i
    rw [renL_get]
    cases hx : xs[i]? with
    | none => rfl
    | some x =>
      have hi : i < vs.size := by rw [← hl]; exact (List.getElem?_eq_some_iff.1 hx).1
      simp [ih i x vs[i] hx (by simp [hi])]
  induction h with
  | agg hl _ ih => simp only [ren]; rw [aux _ _ hl ih]
  | tup hl _ ih => simp only [ren]; rw [aux _ _ hl ih]
  | fn hl _ ih => simp only [ren]; rw [aux _ _ hl ih]
  | _ => simp [ren]

theorem ren_R {x : AV} {v : Value} (h : R w S κ x v) (hS : ∀ b, S b → S' b) (hκ : ∀ k l, κ k = some l → κ' (n + k) = some l) : R w S' κ' (ren n x) v := by
  have aux : ∀ (xs : List AV) (vs : Array Value), (∀ (i : Nat) x y, xs[i]? = some x → vs[i]? = some y → R w S' κ' (ren n x) y) →
      ∀ (i : Nat) x y, (renL n xs)[i]? = some x → vs[i]? = some y → R w S' κ' x y := by
    intro xs vs ih i x y h1 h2
    rw [renL_get, Option.map_eq_some_iff] at h1
    obtain ⟨x', h1, rfl⟩ := h1
    exact ih i x' y h1 h2
  induction h with
  | base h => rw [ren_R0 h]; exact .base (h.mono (fun _ _ => rfl) hS)
  | agg hl _ ih => exact .agg (by rw [renL_length, hl]) (aux _ _ ih)
  | tup hl _ ih => exact .tup (by rw [renL_length, hl]) (aux _ _ ih)
  | fn hl _ ih => exact .fn (by rw [renL_length, hl]) (aux _ _ ih)
  | ptr hk => exact .ptr (hκ _ _ hk)
  | elt hk hn => exact .elt (hκ _ _ hk) hn
  | arrNil hk hn => exact .arrNil (hκ _ _ hk) hn
  | arr hk hn h1 h2 h3 => exact .arr (hκ _ _ hk) hn h1 h2 h3
  | arr0 hk => exact .arr0 (hκ _ _ hk)
  | mp hk hn => exact .mp (hκ _ _ hk) hn

theorem ren_ObjR {k : Nat} {o : MObj} (h : ObjR w S κ k o) (hS : ∀ b, S b → S' b) (hκ : ∀ k l, κ k = some l → κ' (n + k) = some l) : ObjR w S' κ' (n + k) (renO n o) := by
  cases o with
  | box cs =>
    obtain ⟨l, hk, hn, vs, T, h1, h2, h3⟩ := h
    refine ⟨l, hκ _ _ hk, hn, vs, T, h1, by rw [renL_length]; exact h2, fun j y hj => ?_⟩
    rw [renL_get, Option.map_eq_some_iff] at hj
    obtain ⟨y', hj, rfl⟩ := hj
    obtain ⟨c, hc, hr⟩ := h3 j y' hj
    exact ⟨c, hc, ren_R hr hS hκ⟩
  | arr sz xs =>
    obtain ⟨l, hk, h⟩ := h
    refine ⟨l, hκ _ _ hk, ?_⟩
    rcases h with h | ⟨hn, h1, h2, h2', vs, T, h3, h4, h5, h6⟩
    · exact .inl h
    · refine .inr ⟨hn, h1, h2, h2', vs, T, h3, h4, h5, fun i x j y hx hy => ?_⟩
      obtain ⟨c, hc, hr⟩ := h6 i x j y hx hy
      exact ⟨c, hc, hr.mono (fun _ _ => rfl) hS⟩
  | mat sz rows =>
    obtain ⟨l, hk, hn, h1, h2, h3, h4, h5, vs, T, h6, h7, h8⟩ := h
    refine ⟨l, hκ _ _ hk, hn, h1, h2, h3, h4, h5, vs, T, h6, h7, fun i r hr => ?_⟩
    obtain ⟨c, hc, hR⟩ := h8 i r hr
    exact ⟨c, hc, hR.mono (fun _ _ => rfl) hS (fun _ _ => rfl)⟩
  | lent sz rows i0 q0 =>
    obtain ⟨l, hk, hn, h1, h2, h3, h4, h5, vs, T, h6, h7, h8⟩ := h.unlent
    refine ⟨l, hκ _ _ hk, hn, h1, h2, h3, h4, h5, vs, T, h6, h7, fun i r hr => ?_⟩
    obtain ⟨c, hc, hR⟩ := h8 i r hr
    exact ⟨c, hc, hR.mono (fun _ _ => rfl) hS (fun _ _ => rfl)⟩
  | map es =>
    obtain ⟨l, hk, hn, ents, clock, h1, h2, h3, h4, h5⟩ := h
    exact ⟨l, hκ _ _ hk, hn, ents, clock, h1, h2, h3, h4, fun i p e hp he => ⟨(h5 i p e hp he).1, (h5 i p e hp he).2.mono (fun _ _ => rfl) hS⟩⟩
  | iter rest cur =>
    obtain ⟨l, hk, hn, h0, h1⟩ := h
    exact ⟨l, hκ _ _ hk, hn, h0, h1.mono (fun _ _ => rfl) hS rfl⟩

/-- a call that hands back memory; what was handed on is only read from now on -/
theorem callA {f : FuncId} {args args' : List AV} {r : AV} {rm : List MObj} {K : AV → Mem → Nat → Prop} (h : CallsA P f args' r rm) (ha : frzL [] m args = args')
    (hK : K (ren n r) (memFrom n (renOs n rm) ++ (kills (kysL args) ++ m)) (n + 1 + rm.length)) : CallVC P f args m n K := by
  refine ⟨h.1, fun X N w S κ t a vals rel hl hR => ?_⟩
  have hargs : ∀ (i : Nat) x y, args'[i]? = some x → vals[i]? = some y → R0 w (fun b => S b ∨ blocksOf m κ (kysL args) b) x y := fun i x y h1 h2 => by
    rw [← ha, frzL_get, Option.map_eq_some_iff] at h1
    obtain ⟨x', h1, rfl⟩ := h1
    exact frz_R0 rel.ent (hR i x' y h1 h2) (fun k hk => kysL_mem h1 hk)
  refine (h.2 w _ vals (rel.ent.sb.mono (fun _ _ => rfl) (fun _ h => .inl h) (fun b hb => ?_)) (by rw [← ha, frzL_length, hl]) hargs).mono ?_
  · rcases hb with hb | ⟨k, o, l, _, h1, h2, h3⟩
    · exact rel.ent.sb.lt b hb
    · exact (rel.ent.own k o l b h1 h2 h3).2
  · rintro e w' ⟨v, S', κ', rfl, hv, hent, hS', hnew, hb⟩
    have e := rel.ent
    have hlt : ∀ k l, κ k = some l → k < n := fun k l hk => by
      apply Nat.lt_of_not_le; intro hh; rw [(e.fresh k hh).2] at hk; cases hk
    have hext : ∀ k l, κ k = some l → (fun k => if k < n then κ k else κ' (k - n)) k = some l := fun k l hk => by simp [hlt k l hk, hk]
    have hext' : ∀ k l, κ' k = some l → (fun k => if k < n then κ k else κ' (k - n)) (n + k) = some l := fun k l hk => by
      show (if n + k < n then κ (n + k) else κ' (n + k - n)) = some l
      rw [if_neg (by omega), show n + k - n = k by omega]; exact hk
    have hlook : ∀ k, lookM (memFrom n (renOs n rm) ++ (kills (kysL args) ++ m)) k = if n ≤ k ∧ k < n + rm.length then (renOs n rm)[k - n]? else if k ∈ kysL args then none else lookM m k := fun k => by
      rw [lookM_memFrom, lookM_kills, renOs_length]
    have hold : ∀ k o, lookM (memFrom n (renOs n rm) ++ (kills (kysL args) ++ m)) k = some o → k < n → lookM m k = some o ∧ k ∉ kysL args := fun k o h hk => by
      rw [hlook, if_neg (by omega)] at h
      split at h
      · cases h
      · rename_i hh; exact ⟨h, hh⟩
    have hnew' : ∀ k o, lookM (memFrom n (renOs n rm) ++ (kills (kysL args) ++ m)) k = some o → ¬ k < n → ∃ o', lookM (memOf rm) (k - n) = some o' ∧ o = renO n o' := fun k o h hk => by
      rw [hlook] at h
      split at h
      · rw [renOs_get, Option.map_eq_some_iff] at h
        obtain ⟨o', h1, rfl⟩ := h
        exact ⟨o', by rw [lookM_memOf]; exact h1, rfl⟩
      · split at h
        · cases h
        · rw [(e.fresh k (by show n ≤ k; omega)).1] at h; cases h
    have hS2 : ∀ b, S' b → S b ∨ blocksOf m κ (kysL args) b ∨ w.heap.size ≤ b := fun b hb' => by
      rcases hS' b hb' with (h | h) | h
      · exact .inl h
      · exact .inr (.inl h)
      · exact .inr (.inr h)
    have hnotS : ∀ k o l b, lookM m k = some o → k ∉ kysL args → κ k = some l → l.has b → ¬ S' b := fun k o l b h1 h2 h3 h4 hh => by
      rcases hS2 _ hh with h | ⟨k2, o2, l2, h5, h6, h7, h8⟩ | h
      · exact (e.own k o l b h1 h3 h4).1 h
      · have := e.inj k2 k o2 o l2 l b h6 h1 h7 h3 h8 h4
        subst this; exact h2 h5
      · have := (e.own k o l b h1 h3 h4).2; omega
    refine ⟨v, ren n r, _, _, (fun b => S b ∨ S' b), (fun k => if k < n then κ k else κ' (k - n)), rfl, hK, ren_R hv (fun _ h => .inr h) hext', rel.size, rel.defers, fun i => ?_, ⟨?_, ?_, ?_, ?_, ?_⟩, ?_⟩
    · exact (rel.tm i).mono (fun b hb' => hb.block b (e.sb.lt b hb')) (fun _ h => .inl h) hext
    · intro k o hk
      by_cases c : k < n
      · obtain ⟨h1, h2⟩ := hold k o hk c
        exact (e.mm k o h1).mono (fun b hb' => hb.block b (e.sb.lt b hb')) (fun _ h => .inl h) hext (fun l b hl hn => hb.block _ (e.own k o l b h1 hl hn).2)
      · obtain ⟨o', h1, rfl⟩ := hnew' k o hk c
        have := ren_ObjR (n := n) (hent.mm _ _ h1) (S' := fun b => S b ∨ S' b) (κ' := fun k => if k < n then κ k else κ' (k - n)) (fun _ h => .inr h) hext'
        rwa [show n + (k - n) = k by omega] at this
    · intro k k' o o' l l' b h1 h2 hk hk' hn hn'
      by_cases c : k < n <;> by_cases c' : k' < n
      · obtain ⟨h1, _⟩ := hold k o h1 c
        obtain ⟨h2, _⟩ := hold k' o' h2 c'
        simp only [c, c', if_true] at hk hk'
        exact e.inj k k' o o' l l' b h1 h2 hk hk' hn hn'
      · obtain ⟨h1, _⟩ := hold k o h1 c
        obtain ⟨o2, h2, _⟩ := hnew' k' o' h2 c'
        simp only [c, c', if_true, if_false] at hk hk'
        have := (e.own k o l b h1 hk hn).2
        have := hnew _ _ _ b h2 hk' hn'
        omega
      · obtain ⟨h2, _⟩ := hold k' o' h2 c'
        obtain ⟨o1, h1, _⟩ := hnew' k o h1 c
        simp only [c, c', if_true, if_false] at hk hk'
        have := (e.own k' o' l' b h2 hk' hn').2
        have := hnew _ _ _ b h1 hk hn
        omega
      · obtain ⟨o1, h1, _⟩ := hnew' k o h1 c
        obtain ⟨o2, h2, _⟩ := hnew' k' o' h2 c'
        simp only [c, c', if_false] at hk hk'
        have := hent.inj _ _ _ _ l l' b h1 h2 hk hk' hn hn'
        omega
    · intro k o l b h1 hk hn
      by_cases c : k < n
      · obtain ⟨h1, h2⟩ := hold k o h1 c
        simp only [c, if_true] at hk
        have := e.own k o l b h1 hk hn
        exact ⟨fun hh => hh.elim this.1 (hnotS k o l b h1 h2 hk hn), Nat.lt_of_lt_of_le this.2 hb.size⟩
      · obtain ⟨o1, h1, _⟩ := hnew' k o h1 c
        simp only [c, if_false] at hk
        have h3 := hent.own _ _ _ b h1 hk hn
        have h4 := hnew _ _ _ b h1 hk hn
        exact ⟨fun hh => hh.elim (fun hS => by have := e.sb.lt _ hS; omega) h3.1, h3.2⟩
    · intro k hk
      have hk' : n + 1 + rm.length ≤ k := hk
      refine ⟨?_, ?_⟩
      · rw [hlook, if_neg (by omega)]
        split
        · rfl
        · exact (e.fresh k (by show n ≤ k; omega)).1
      · simp only [show ¬ k < n by omega, if_false]
        exact (hent.fresh (k - n) (by show rm.length ≤ k - n; omega)).2
    · exact hent.sb.mono (fun _ _ => rfl) (fun _ h => .inr h) (fun b hh => hh.elim (fun h => Nat.lt_of_lt_of_le (e.sb.lt b h) hb.size) (hent.sb.lt b))
    · have s := rel.since
      refine ⟨?_, ?_, hb.os.trans s.os, hb.tape.trans s.tape, hb.output.trans s.output, Nat.le_trans s.ge hb.size, fun b h1 h2 => (hb.block b (Nat.lt_of_lt_of_le h1 s.ge)).trans (s.keep b h1 h2), fun k l hk => by
        obtain ⟨l2, g1, g2⟩ := s.kp k l hk
        exact ⟨l2, hext k l2 g1, g2⟩⟩
      · intro k o l b h1 hk hn
        by_cases c : k < n
        · obtain ⟨h1, _⟩ := hold k o h1 c
          simp only [c, if_true] at hk
          exact s.own k o l b h1 hk hn
        · obtain ⟨o1, h1, _⟩ := hnew' k o h1 c
          simp only [c, if_false] at hk
          have := hnew _ _ _ b h1 hk hn
          exact .inl (Nat.le_trans s.ge this)
      · intro b hh
        rcases hh with hh | hh
        · exact s.s0 b hh
        · rcases hS2 b hh with h | ⟨k2, o2, l2, h5, h6, h7, h8⟩ | h
          · exact s.s0 b h
          · exact .inr (s.own k2 o2 l2 b h6 h7 h8)
          · exact .inr (.inl (Nat.le_trans s.ge h))

end Go.Av
