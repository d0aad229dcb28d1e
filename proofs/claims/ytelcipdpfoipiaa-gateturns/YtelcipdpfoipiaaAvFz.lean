/- Own objects that are only read from then on: freezing. -/
import Derived.Test.YtelcipdpfoipiaaAvQ
namespace Go.Av

variable {P : Program} {w w' : World} {S S' : Nat → Prop} {κ κ' : Nat → Option Loc} {m : Mem} {n N : Nat} {F : Nat → Prop} {t : Tmps} {a : Act} {X : Ctx}

def kin : List Nat → Nat → Bool
  | [], _ => false
  | q :: r, k => if q = k then true else kin r k

theorem kin_mem {ks : List Nat} {k : Nat} : kin ks k = true ↔ k ∈ ks := by
  induction ks with
  | nil => simp [kin]
  | cons q ks ih =>
    simp only [kin, List.mem_cons]
    split
    · rename_i h; simp [h]
    · rename_i h; rw [ih]; exact ⟨.inr, fun hh => hh.resolve_left (fun e => h e.symm)⟩

mutual
/-- the keys of ks are only read from then on -/
def fz (ks : List Nat) (m : Mem) : AV → AV
  | .agg xs => .agg (fzL ks m xs)
  | .tup xs => .tup (fzL ks m xs)
  | .fn f xs => .fn f (fzL ks m xs)
  | .arr k off len => bif kin ks k then frz [] m (.arr k off len) else .arr k off len
  | .ptr k off => bif kin ks k then frz [] m (.ptr k off) else .ptr k off
  | .mp k => bif kin ks k then frz [] m (.mp k) else .mp k
  | .elt k i j => bif kin ks k then .dead else .elt k i j
  | x => x
def fzL (ks : List Nat) (m : Mem) : List AV → List AV
  | [] => []
  | x :: r => fz ks m x :: fzL ks m r
end

def fzO (ks : List Nat) (m : Mem) : MObj → MObj
  | .box cs => .box (fzL ks m cs)
  | o => o

def fzT (ks : List Nat) (m : Mem) : Tmps → Tmps
  | [] => []
  | (i, x) :: r => (i, fz ks m x) :: fzT ks m r

def fzU (ks : List Nat) (m : Mem) (k : Nat) (o : Option MObj) : Option MObj := bif kin ks k then none else match o with
  | some o => some (fzO ks m o)
  | none => none

def fzM (ks : List Nat) (m0 : Mem) : Mem → Mem
  | [] => []
  | (k, o) :: r => (k, fzU ks m0 k o) :: fzM ks m0 r

theorem fzL_get (ks : List Nat) (m : Mem) (xs : List AV) (i : Nat) : (fzL ks m xs)[i]? = xs[i]?.map (fz ks m) := by
  induction xs generalizing i with
  | nil => simp [fzL]
  | cons x xs ih => cases i <;> simp [fzL, ih]
theorem fzL_length (ks : List Nat) (m : Mem) (xs : List AV) : (fzL ks m xs).length = xs.length := by
  induction xs with
  | nil => simp [fzL]
  | cons x xs ih => simp [fzL, ih]

theorem look_fzT (ks : List Nat) (m : Mem) (t : Tmps) (i : Nat) : look (fzT ks m t) i = fz ks m (look t i) := by
  induction t with
  | nil => simp [fzT, look, fz]
  | cons p t ih =>
    obtain ⟨j, x⟩ := p
    simp only [fzT, look]
    split
    · rfl
    · exact ih

theorem lookM_fzM (ks : List Nat) (m0 m : Mem) (k : Nat) : lookM (fzM ks m0 m) k = fzU ks m0 k (lookM m k) := by
  induction m with
  | nil => simp [fzM, lookM, fzU]
  | cons p m ih =>
    obtain ⟨j, x⟩ := p
    simp only [fzM, lookM]
    split
    · rename_i h; subst h; rfl
    · exact ih

theorem fz_R0_self {ks : List Nat} {x : AV} {v : Value} (h : R0 w S x v) : fz ks m x = x := by
  have all : ∀ (xs : List AV) (vs : Array Value), xs.length = vs.size → (∀ (i : Nat) x y, xs[i]? = some x → vs[i]? = some y → fz ks m x = x) → fzL ks m xs = xs := fun xs vs hl ih => by
    apply List.ext_getElem?
    intro i
    rw [fzL_get]
    cases hx : xs[i]? with
    | none => rfl
    | some x =>
      have hi : i < vs.size := by rw [← hl]; exact (List.getElem?_eq_some_iff.1 hx).1
      simp [ih i x vs[i] hx (by simp [hi])]
  induction h with
  | agg hl _ ih => simp only [fz]; rw [all _ _ hl ih]
  | tup hl _ ih => simp only [fz]; rw [all _ _ hl ih]
  | fn hl _ ih => simp only [fz]; rw [all _ _ hl ih]
  | _ => simp [fz]

theorem fz_id {ks : List Nat} : (∀ x, (∀ k ∈ keysIn x, k ∉ ks) → fz ks m x = x) := by
  intro x
  have no : ∀ k, k ∉ ks → kin ks k = false := fun k h => by
    cases hk : kin ks k with
    | false => rfl
    | true => exact (h (kin_mem.1 hk)).elim
  refine AV.rec (motive_1 := fun x => (∀ k ∈ keysIn x, k ∉ ks) → fz ks m x = x) (motive_2 := fun xs => (∀ k ∈ keysInL xs, k ∉ ks) → fzL ks m xs = xs) (motive_3 := fun _ => True) (motive_4 := fun _ => True)
    ?_ ?_ ?_ ?_ ?_ ?_ ?_ ?_ ?_ ?_ ?_ ?_ ?_ ?_ ?_ ?_ ?_ x
  case refine_13 => intro _; rfl
  case refine_14 =>
    intro x xs h1 h2 h
    simp only [keysInL, List.mem_append] at h
    simp only [fzL]
    rw [h1 (fun k hk => h k (.inl hk)), h2 (fun k hk => h k (.inr hk))]
  all_goals (intros; first | trivial | simp_all [fz, keysIn])

theorem fz_R {ks : List Nat} {x : AV} {v : Value} (e : Ent w S κ m F) (h : R w S κ x v) : R w (fun b => S b ∨ blocksOf m κ ks b) κ (fz ks m x) v := by
  have leaf : ∀ {x : AV} {v : Value} {k : Nat}, R w S κ x v → kin ks k = true → (∀ q ∈ kys x, q = k) → R w (fun b => S b ∨ blocksOf m κ ks b) κ (frz [] m x) v := fun {x v k} h hk hq =>
    .base (frz_R0 e h (fun q hh => (hq q hh) ▸ kin_mem.1 hk))
  have up : ∀ {x : AV} {v : Value}, R w S κ x v → R w (fun b => S b ∨ blocksOf m κ ks b) κ x v := fun h => h.mono (fun _ _ => rfl) (fun _ h => .inl h) (fun _ _ h => h)
  induction h with
  | base h => rw [fz_R0_self h]; exact .base (h.mono (fun _ _ => rfl) (fun _ h => .inl h))
  | agg hl _ ih =>
    simp only [fz]
    refine .agg (by rw [fzL_length, hl]) (fun i x y h1 h2 => ?_)
    rw [fzL_get, Option.map_eq_some_iff] at h1
    obtain ⟨x', h1, rfl⟩ := h1
    exact ih i x' y h1 h2
  | tup hl _ ih =>
    simp only [fz]
    refine .tup (by rw [fzL_length, hl]) (fun i x y h1 h2 => ?_)
    rw [fzL_get, Option.map_eq_some_iff] at h1
    obtain ⟨x', h1, rfl⟩ := h1
    exact ih i x' y h1 h2
  | fn hl _ ih =>
    simp only [fz]
    refine .fn (by rw [fzL_length, hl]) (fun i x y h1 h2 => ?_)
    rw [fzL_get, Option.map_eq_some_iff] at h1
    obtain ⟨x', h1, rfl⟩ := h1
    exact ih i x' y h1 h2
  | ptr hk =>
    rename_i k off l
    simp only [fz]
    cases hc : kin ks k with
    | true => exact leaf (.ptr hk) hc (by simp [kys])
    | false => exact up (.ptr hk)
  | elt hk hn =>
    rename_i k i j l
    simp only [fz]
    cases hc : kin ks k with
    | true => exact .base (.dead _)
    | false => exact up (.elt hk hn)
  | arrNil hk hn =>
    rename_i k l
    simp only [fz]
    cases hc : kin ks k with
    | true => exact leaf (.arrNil hk hn) hc (by simp [kys])
    | false => exact up (.arrNil hk hn)
  | arr hk hn h1 h2 h3 =>
    rename_i k off len cap l
    simp only [fz]
    cases hc : kin ks k with
    | true => exact leaf (.arr hk hn h1 h2 h3) hc (by simp [kys])
    | false => exact up (.arr hk hn h1 h2 h3)
  | arr0 hk =>
    rename_i k off ad l
    simp only [fz]
    cases hc : kin ks k with
    | true => exact leaf (.arr0 (a := ad) hk) hc (by simp [kys])
    | false => exact up (.arr0 hk)
  | mp hk hn =>
    rename_i k l
    simp only [fz]
    cases hc : kin ks k with
    | true => exact leaf (.mp hk hn) hc (by simp [kys])
    | false => exact up (.mp hk hn)

/-- what is own may be only read from then on -/
theorem Rel.fz (ks : List Nat) (r : Rel X N w S κ t m F a) : Rel X N w (fun b => S b ∨ blocksOf m κ ks b) κ (fzT ks m t) (fzM ks m m) F a := by
  have live : ∀ k o, lookM (fzM ks m m) k = some o → kin ks k = false ∧ ∃ o', lookM m k = some o' ∧ o = fzO ks m o' := fun k o h => by
    rw [lookM_fzM] at h
    unfold fzU at h
    cases hc : kin ks k with
    | true => rw [hc] at h; cases h
    | false =>
      rw [hc] at h
      simp only [cond_false] at h
      split at h
      · rename_i o' ho
        simp only [Option.some.injEq] at h
        exact ⟨rfl, o', ho, h.symm⟩
      · cases h
  refine ⟨r.size, r.defers, fun i => ?_, ⟨fun k o h => ?_, fun k k' o o' l l' b h1 h2 => ?_, fun k o l b h1 h2 h3 => ?_, fun k hk => ?_, ?_⟩,
    ⟨fun k o l b h1 => ?_, fun b hb => ?_, r.since.os, r.since.tape, r.since.output, r.since.ge, r.since.keep, r.since.kp⟩⟩
  · rw [look_fzT]; exact fz_R r.ent (r.tm i)
  · obtain ⟨_, o', ho, rfl⟩ := live k o h
    cases o' with
    | box cs =>
      obtain ⟨l, g1, g2, vs, T, g3, g4, g5⟩ := r.ent.mm k _ ho
      refine ⟨l, g1, g2, vs, T, g3, by rw [fzL_length]; exact g4, fun j y hy => ?_⟩
      rw [fzL_get, Option.map_eq_some_iff] at hy
      obtain ⟨y', hy', rfl⟩ := hy
      obtain ⟨c, hc, hr⟩ := g5 j y' hy'
      exact ⟨c, hc, fz_R r.ent hr⟩
    | _ => exact (r.ent.mm k _ ho).mono (fun _ _ => rfl) (fun _ h => .inl h) (fun _ _ h => h) (fun _ _ _ _ => rfl)
  · obtain ⟨_, o1, g1, _⟩ := live k o h1
    obtain ⟨_, o2, g2, _⟩ := live k' o' h2
    exact r.ent.inj k k' o1 o2 l l' b g1 g2
  · obtain ⟨hk, o1, g1, _⟩ := live k o h1
    obtain ⟨q1, q2⟩ := r.ent.own k o1 l b g1 h2 h3
    refine ⟨fun hb => ?_, q2⟩
    rcases hb with hb | ⟨k', o', l', p1, p2, p3, p4⟩
    · exact q1 hb
    · have := r.ent.inj k k' o1 o' l l' b g1 p2 h2 p3 h3 p4
      subst this
      rw [kin_mem.2 p1] at hk; cases hk
  · obtain ⟨h1, h2⟩ := r.ent.fresh k hk
    refine ⟨?_, h2⟩
    rw [lookM_fzM, h1]; simp [fzU]
  · refine r.ent.sb.mono (fun _ _ => rfl) (fun _ h => .inl h) (fun b hb => ?_)
    rcases hb with hb | ⟨k', o', l', p1, p2, p3, p4⟩
    · exact r.ent.sb.lt b hb
    · exact (r.ent.own k' o' l' b p2 p3 p4).2
  · obtain ⟨hk, o1, g1, _⟩ := live k o h1
    exact r.since.own k o1 l b g1
  · rcases hb with hb | ⟨k', o', l', p1, p2, p3, p4⟩
    · exact r.since.s0 b hb
    · exact .inr (r.since.own k' o' l' b p2 p3 p4)

theorem fzT_nil (m : Mem) : ∀ t : Tmps, fzT [] m t = t
  | [] => rfl
  | (i, x) :: r => by simp only [fzT]; rw [fz_id x (by simp), fzT_nil m r]
theorem fzL_nil (m : Mem) : ∀ xs : List AV, fzL [] m xs = xs
  | [] => rfl
  | x :: r => by simp only [fzL]; rw [fz_id x (by simp), fzL_nil m r]
theorem fzM_nil (m0 : Mem) : ∀ m : Mem, fzM [] m0 m = m
  | [] => rfl
  | (k, o) :: r => by
    simp only [fzM]
    rw [fzM_nil m0 r]
    cases o with
    | none => rfl
    | some o => cases o <;> simp [fzU, kin, fzO, fzL_nil]

end Go.Av
