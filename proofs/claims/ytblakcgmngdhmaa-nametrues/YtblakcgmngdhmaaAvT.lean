/- Own objects that are only read from then on: freezing. -/
import Derived.Test.YtblakcgmngdhmaaAvQ
namespace Go.Av

variable {P : Program} {w w' : World} {S S' : Nat → Prop} {κ κ' : Nat → Option Loc} {m : Mem} {n N : Nat} {F : Nat → Prop} {t : Tmps} {a : Act} {X : Ctx}

def kin : List Nat → Nat → Bool
  | [], _ => false
  | q :: r, k => if q = k then true else kin r k

theorem kin_mem {ks : List Nat} {k : Nat} : kin ks k = true ↔ k ∈ ks := by
  induction ks with
  | nil => simp [kin]
  | cons q ks ih =>
    simp only [kin, List.mem_cons]
    split
    · rename_i h; simp [h]
    · rename_i h; rw [ih]; exact ⟨.inr, fun hh => hh.resolve_left (fun e => h e.symm)⟩

mutual
/-- the keys of ks are only read from then on -/
def fz (ks : List Nat) (m : Mem) : AV → AV
  | .agg xs => .agg (fzL ks m xs)
  | .tup xs => .tup (fzL ks m xs)
  | .fn f xs => .fn f (fzL ks m xs)
  | .arr k off len => bif kin ks k then frz [] m (.arr k off len) else .arr k off len
  | .ptr k off => bif kin ks k then frz [] m (.ptr k off) else .ptr k off
  | .mp k => bif kin ks k then frz [] m (.mp k) else .mp k
  | .elt k i j => bif kin ks k then .dead else .elt k i j
  | x => x
def fzL (ks : List Nat) (m : Mem) : List AV → List AV
  | [] => []
  | x :: r => fz ks m x :: fzL ks m r
end

def fzO (ks : List Nat) (m : Mem) : MObj → MObj
  | .box cs => .box (fzL ks m cs)
  | o => o

def fzT (ks : List Nat) (m : Mem) : Tmps → Tmps
  | [] => []
  | (i, x) :: r => (i, fz ks m x) :: fzT ks m r

def fzU (ks : List Nat) (m : Mem) (k : Nat) (o : Option MObj) : Option MObj := bif kin ks k then none else match o with
  | some o => some (fzO ks m o)
  | none => none

def fzM (ks : List Nat) (m0 : Mem) : Mem → Mem
  | [] => []
  | (k, o) :: r => (k, fzU ks m0 k o) :: fzM ks m0 r

theorem fzL_get (ks : List Nat) (m : Mem) (xs : List AV) (i : Nat) : (fzL ks m xs)[i]? = xs[i]?.map (fz ks m) := by
  induction xs generalizing i with
  | nil => simp [fzL]
  | cons x xs ih => cases i <;> simp [fzL, ih]
theorem fzL_length (ks : List Nat) (m : Mem) (xs : List AV) : (fzL ks m xs).length = xs.length := by
  induction xs with
  | nil => simp [fzL]
  | cons x xs ih => simp [fzL, ih]

theorem look_fzT (ks : List Nat) (m : Mem) (t : Tmps) (i : Nat) : look (fzT ks m t) i = fz ks m (look t i) := by
  induction t with
  | nil => simp [fzT, look, fz]
  | cons p t ih =>
    obtain ⟨j, x⟩ := p
    simp only [fzT, look]
    split
    · rfl
    · exact ih

theorem lookM_fzM (ks : List Nat) (m0 m : Mem) (k : Nat) : lookM (fzM ks m0 m) k = fzU ks m0 k (lookM m k) := by
  induction m with
  | nil => simp [fzM, lookM, fzU]
  | cons p m ih =>
    obtain ⟨j, x⟩ := p
    simp only [fzM, lookM]
    split
    · rename_i h; subst h; rfl
    · exact ih

theorem fz_R0_self {ks : List Nat} {x : AV} {v : Value} (h : R0 w S x v) : fz ks m x = x := by
  have all : ∀ (xs : List AV) (vs : Array Value), xs.length = vs.size → (∀ (i : Nat) x y, xs[i]? = some x → vs[i]? = some y → fz ks m x = x) → fzL ks m xs = xs := fun xs vs hl ih => by
    apply List.ext_getElem?
    intro i
    rw [fzL_get]
    cases hx : xs[i]? with
    | none => rfl
    | some x =>
      have hi : i < vs.size := by rw [← hl]; exact (List.getElem?_eq_some_iff.1 hx).1
      simp [ih i x vs[i] hx (by simp [hi])]
  induction h with
  | agg hl _ ih => simp only [fz]; rw [all _ _ hl ih]
  | tup hl _ ih => simp only [fz]; rw [all _ _ hl ih]
  | fn hl _ ih => simp only [fz]; rw [all _ _ hl ih]
  | _ => simp [fz]

theorem fz_id {ks : List Nat} : (∀ x, (∀ k ∈ keysIn x, k ∉ ks) → fz ks m x = x) := by
  intro x
  have no : ∀ k, k ∉ ks → kin ks k = false := fun k h => by
    cases hk : kin ks k with
    | false => rfl
    | true => exact (h (kin_mem.1 hk)).elim
  refine AV.rec (motive_1 := fun x => (∀ k ∈ keysIn x, k ∉ ks) → fz ks m x = x) (motive_2 := fun xs => (∀ k ∈ keysInL xs, k ∉ ks) → fzL ks m xs = xs) (motive_3 := fun _ => True) (motive_4 := fun _ => True)
    ?_ ?_ ?_ ?_ ?_ ?_ ?_ ?_ ?_ ?_ ?_ ?_ ?_ ?_ ?_ ?_ ?_ x
  case refine_13 => intro _; rfl
  case refine_14 =>
    intro x xs h1 h2 h
    simp only [keysInL, List.mem_append] at h
    simp only [fzL]
    rw [h1 (fun k hk => h k (.inl hk)), h2 (fun k hk => h k (.inr hk))]
  all_goals (intros; first | trivial | simp_all [fz, keysIn])

theorem fz_R {ks : List Nat} {x : AV} {v : Value} (e : Ent w S κ m F) (h : R w S κ x v) : R w (fun b => S b ∨ blocksOf m κ ks b) κ (fz ks m x) v := by
  have leaf : ∀ {x : AV} {v : Value} {k : Nat}, R w S κ x v → kin ks k = true → (∀ q ∈ kys x, q = k) → R w (fun b => S b ∨ blocksOf m κ ks b) κ (frz [] m x) v := fun {x v k} h hk hq =>
    .base (frz_R0 e h (fun q hh => (hq q hh) ▸ kin_mem.1 hk))
  have up : ∀ {x : AV} {v : Value}, R w S κ x v → R w (fun b => S b ∨ blocksOf m κ ks b) κ x v := fun h => h.mono (fun _ _ => rfl) (fun _ h => .inl h) (fun _ _ h => h)
  induction h with
  | base h => rw [fz_R0_self h]; exact .base (h.mono (fun _ _ => rfl) (fun _ h => .inl h))
  | agg hl _ ih =>
    simp only [fz]
    refine .agg (by rw [fzL_length, hl]) (fun i x y h1 h2 => ?_)
    rw [fzL_get, Option.map_eq_some_iff] at h1
    obtain ⟨x', h1, rfl⟩ := h1
    exact ih i x' y h1 h2
  | tup hl _ ih =>
    simp only [fz]
    refine .tup (by rw [fzL_length, hl]) (fun i x y h1 h2 => ?_)
    rw [fzL_get, Option.map_eq_some_iff] at h1
    obtain ⟨x', h1, rfl⟩ := h1
    exact ih i x' y h1 h2
  | fn hl _ ih =>
    simp only [fz]
    refine .fn (by rw [fzL_length, hl]) (fun i x y h1 h2 => ?_)
    rw [fzL_get, Option.map_eq_some_iff] at h1
    obtain ⟨x', h1, rfl⟩ := h1
    exact ih i x' y h1 h2
  | ptr hk =>
    rename_i k off l
    simp only [fz]
    cases hc : kin ks k with
    | true => exact leaf (.ptr hk) hc (by simp [kys])
    | false => exact up (.ptr hk)
  | elt hk hn =>
    rename_i k i j l
    simp only [fz]
    cases hc : kin ks k with
    | true => exact .base (.dead _)
    | false => exact up (.elt hk hn)
  | arrNil hk hn =>
    rename_i k l
    simp only [fz]
    cases hc : kin ks k with
    | true => exact leaf (.arrNil hk hn) hc (by simp [kys])
    | false => exact up (.arrNil hk hn)
  | arr hk hn h1 h2 h3 =>
    rename_i k off len cap l
    simp only [fz]
    cases hc : kin ks k with
    | true => exact leaf (.arr hk hn h1 h2 h3) hc (by simp [kys])
    | false => exact up (.arr hk hn h1 h2 h3)
  | arr0 hk =>
    rename_i k off ad l
    simp only [fz]
    cases hc : kin ks k with
    | true => exact leaf (.arr0 (a := ad) hk) hc (by simp [kys])
    | false => exact up (.arr0 hk)
  | mp hk hn =>
    rename_i k l
    simp only [fz]
    cases hc : kin ks k with
    | true => exact leaf (.mp hk hn) hc (by simp [kys])
    | false => exact up (.mp hk hn)

/-- what is own may be only read from then on -/
theorem Rel.fz (ks : List Nat) (r : Rel X N w S κ t m F a) : Rel X N w (fun b => S b ∨ blocksOf m κ ks b) κ (fzT ks m t) (fzM ks m m) F a := by
  have live : ∀ k o, lookM (fzM ks m m) k = some o → kin ks k = false ∧ ∃ o', lookM m k = some o' ∧ o = fzO ks m o' := fun k o h => by
    rw [lookM_fzM] at h
    unfold fzU at h
    cases hc : kin ks k with
    | true => rw [hc] at h; cases h
    | false =>
      rw [hc] at h
      simp only [cond_false] at h
      split at h
      · rename_i o' ho
        simp only [Option.some.injEq] at h
        exact ⟨rfl, o', ho, h.symm⟩
      · cases h
  refine ⟨r.size, r.defers, fun i => ?_, ⟨fun k o h => ?_, fun k k' o o' l l' b h1 h2 => ?_, fun k o l b h1 h2 h3 => ?_, fun k hk => ?_, ?_⟩,
    ⟨fun k o l b h1 => ?_, fun b hb => ?_, r.since.os, r.since.tape, r.since.output, r.since.ge, r.since.keep, r.since.kp⟩⟩
  · rw [look_fzT]; exact fz_R r.ent (r.tm i)
  · obtain ⟨_, o', ho, rfl⟩ := live k o h
    cases o' with
    | box cs =>
      obtain ⟨l, g1, g2, vs, T, g3, g4, g5⟩ := r.ent.mm k _ ho
      refine ⟨l, g1, g2, vs, T, g3, by rw [fzL_length]; exact g4, fun j y hy => ?_⟩
      rw [fzL_get, Option.map_eq_some_iff] at hy
      obtain ⟨y', hy', rfl⟩ := hy
      obtain ⟨c, hc, hr⟩ := g5 j y' hy'
      exact ⟨c, hc, fz_R r.ent hr⟩
    | _ => exact (r.ent.mm k _ ho).mono (fun _ _ => rfl) (fun _ h => .inl h) (fun _ _ h => h) (fun _ _ _ _ => rfl)
  · obtain ⟨_, o1, g1, _⟩ := live k o h1
    obtain ⟨_, o2, g2, _⟩ := live k' o' h2
    exact r.ent.inj k k' o1 o2 l l' b g1 g2
  · obtain ⟨hk, o1, g1, _⟩ := live k o h1
    obtain ⟨q1, q2⟩ := r.ent.own k o1 l b g1 h2 h3
    refine ⟨fun hb => ?_, q2⟩
    rcases hb with hb | ⟨k', o', l', p1, p2, p3, p4⟩
    · exact q1 hb
    · have := r.ent.inj k k' o1 o' l l' b g1 p2 h2 p3 h3 p4
      subst this
      rw [kin_mem.2 p1] at hk; cases hk
  · obtain ⟨h1, h2⟩ := r.ent.fresh k hk
    refine ⟨?_, h2⟩
    rw [lookM_fzM, h1]; simp [fzU]
  · refine r.ent.sb.mono (fun _ _ => rfl) (fun _ h => .inl h) (fun b hb => ?_)
    rcases hb with hb | ⟨k', o', l', p1, p2, p3, p4⟩
    · exact r.ent.sb.lt b hb
    · exact (r.ent.own k' o' l' b p2 p3 p4).2
  · obtain ⟨hk, o1, g1, _⟩ := live k o h1
    exact r.since.own k o1 l b g1
  · rcases hb with hb | ⟨k', o', l', p1, p2, p3, p4⟩
    · exact r.since.s0 b hb
    · exact .inr (r.since.own k' o' l' b p2 p3 p4)

theorem fzT_nil (m : Mem) : ∀ t : Tmps, fzT [] m t = t
  | [] => rfl
  | (i, x) :: r => by simp only [fzT]; rw [fz_id x (by simp), fzT_nil m r]
theorem fzL_nil (m : Mem) : ∀ xs : List AV, fzL [] m xs = xs
  | [] => rfl
  | x :: r => by simp only [fzL]; rw [fz_id x (by simp), fzL_nil m r]
theorem fzM_nil (m0 : Mem) : ∀ m : Mem, fzM [] m0 m = m
  | [] => rfl
  | (k, o) :: r => by
    simp only [fzM]
    rw [fzM_nil m0 r]
    cases o with
    | none => rfl
    | some o => cases o <;> simp [fzU, kin, fzO, fzL_nil]

end Go.Av
/- Code: what is asked of it; loops. -/
namespace Go.Av
open Go.RowKit (Below)

inductive MCode where
  | skip
  | reg (is : List MI)
  | draw (is : List MI)
  | drawc (is : List MI) (cs : List (Nat × Nat))
  | drawy (is : List MI) (cs : List (Nat × Nat)) (zs : List Nat)
  | seq (a b : MCode)
  | cond (c : Opd) (a b : MCode)
  | block (id : Nat) (b : MCode)
  | loop (b : MCode)
  | fz (L : List Nat) (b : MCode)
  | gv (L : List Opd) (b : MCode)
  | exit (id : Nat)
  | ret

inductive Way where
  | norm
  | ex (id : Nat)
  | ret

abbrev WP := (Way → Tmps → Mem → Nat → Prop)

def zipT : List Nat → List AV → Tmps
  | [], _ => []
  | i :: r, xs => match xs with
    | [] => []
    | x :: xs => (i, x) :: zipT r xs

def deads : List Nat → Tmps
  | [] => []
  | i :: r => (i, .dead) :: deads r

mutual
/-- how what is told at a loop's head is what there is -/
def Sub (n : Nat) (rho : List (Option Nat)) : AV → AV → Prop
  | .dead, _ => True
  | .arr k off len, s => if k < n then s = .arr k off len else match rho[k - n]? with
    | some (some k') => s = .arr k' off len
    | some none => s = .v (.slice none 0 0) ∧ off = 0 ∧ len = 0
    | none => False
  | .ptr k off, s => if k < n then s = .ptr k off else match rho[k - n]? with
    | some (some k') => s = .ptr k' off
    | _ => False
  | .mp k, s => if k < n then s = .mp k else match rho[k - n]? with
    | some (some k') => s = .mp k'
    | _ => False
  | .elt _ _ _, _ => False
  | .agg xs, s => match s with
    | .agg ys => SubL n rho xs ys
    | _ => False
  | .tup xs, s => match s with
    | .tup ys => SubL n rho xs ys
    | _ => False
  | .fn f xs, s => match s with
    | .fn g ys => f = g ∧ SubL n rho xs ys
    | _ => False
  | .v x, s => s = .v x
  | .ro sz xs, s => s = .ro sz xs
  | .rp xs, s => s = .rp xs
  | .rm es, s => s = .rm es
def SubL (n : Nat) (rho : List (Option Nat)) : List AV → List AV → Prop
  | [], ys => ys = []
  | x :: xs, ys => match ys with
    | [] => False
    | y :: ys => Sub n rho x y ∧ SubL n rho xs ys
end

def SubO (n : Nat) (rho : List (Option Nat)) : MObj → MObj → Prop
  | .box xs, .box ys => SubL n rho xs ys
  | .arr sz xs, o => o = .arr sz xs
  | .mat sz rows, o => o = .mat sz rows
  | .map es, o => o = .map es
  | .iter l c, o => o = .iter l c
  | _, _ => False

def SubT (n : Nat) (rho : List (Option Nat)) (t : Tmps) : List Nat → List AV → Prop
  | [], xs => xs = []
  | i :: r, xs => match xs with
    | [] => False
    | x :: xs => Sub n rho x (look t i) ∧ SubT n rho t r xs

/-- the objects that are told -/
def SubM (n : Nat) (rho : List (Option Nat)) (m : Mem) : Mem → Prop
  | [] => True
  | (_, none) :: r => SubM n rho m r
  | (k, some o) :: r => (if k < n then (match lookM m k with | some o' => SubO n rho o o' | none => False)
      else match rho[k - n]? with
        | some (some k') => (match lookM m k' with | some o' => SubO n rho o o' | none => False)
        | some none => ∃ sz, o = .arr sz []
        | none => False) ∧ SubM n rho m r

/-- the objects that are not told are as they were -/
def keepM (ks : List Nat) (m' : Mem) : Mem → Prop
  | [] => True
  | (k, o) :: r => (ks.contains k = true ∨ lookM m' k = o) ∧ keepM (k :: ks) m' r

def srcOk (n : Nat) (h : Mem) : List (Option Nat) → Prop
  | [] => True
  | none :: r => srcOk n h r
  | some k :: r => (k < n → lookM h k = none) ∧ (r.contains (some k) = false) ∧ srcOk n h r

def Back (n : Nat) (ss : List Nat) (vs : List AV) (ob m : Mem) (rho : List (Option Nat)) (t' : Tmps) (m' : Mem) : Prop :=
  SubT n rho t' ss vs ∧ SubM n rho m' ob ∧ keepM (ob.map (·.1)) m' m ∧ srcOk n (ob ++ m) rho

/-- on the way back some objects may be only read from then on -/
def BackF (ks : List Nat) (n : Nat) (ss : List Nat) (vs : List AV) (ob m : Mem) (rho : List (Option Nat)) (t' : Tmps) (m' : Mem) : Prop :=
  (∀ k ∈ ks, n ≤ k) ∧ Back n ss vs ob m rho (fzT ks m' t') (fzM ks m' m')

def LoopVC (V : WP → Tmps → Mem → Nat → Prop) (D : List Nat) (Q : WP) (t : Tmps) (m : Mem) (n : Nat) : Prop :=
  ∃ (ι : Type) (ss : List Nat) (vs : ι → List AV) (ob : ι → Mem) (r : Nat) (inv : ι → Prop) (μ : ι → Nat),
    (ss.all fun i => D.contains i) = true ∧
    (∃ (x : ι) (rho : List (Option Nat)), rho.length = r ∧ inv x ∧ Back n ss (vs x) (ob x) m rho t m) ∧
    ∀ x, inv x → V (fun e t' m' n' => match e with
      | .norm => ∃ (x' : ι) (rho : List (Option Nat)) (ks : List Nat), rho.length = r ∧ inv x' ∧ μ x' < μ x ∧ BackF ks n ss (vs x') (ob x') m rho t' m'
      | e => Q e t' m' n') (zipT ss (vs x) ++ (deads D ++ t)) (ob x ++ m) (n + r)

theorem Back.f {n : Nat} {ss : List Nat} {vs : List AV} {ob m : Mem} {rho : List (Option Nat)} {t' : Tmps} {m' : Mem} (h : Back n ss vs ob m rho t' m') : BackF [] n ss vs ob m rho t' m' :=
  ⟨by simp, by rw [fzT_nil, fzM_nil]; exact h⟩

@[congr] theorem LoopVC_congr {V : WP → Tmps → Mem → Nat → Prop} {D : List Nat} {Q : WP} {t : Tmps} {m : Mem} {n : Nat} {p : Prop} (_ : (True ∧ True) = p) :
    LoopVC V D Q t m n = LoopVC V D Q t m n := rfl

/-- no key of ks in it -/
def kno (ks : List Nat) (x : AV) : Bool := (keysIn x).all fun k => !kin ks k

/-- what is frozen stands only in the temporaries of L -/
def fzKeep (L ks : List Nat) : Tmps → Bool
  | [] => true
  | (i, x) :: r => (L.contains i || kno ks x) && fzKeep L ks r

theorem fzKeep_look {L ks : List Nat} {m : Mem} : ∀ {t : Tmps} {i : Nat}, fzKeep L ks t = true → i ∉ L → fz ks m (look t i) = look t i := by
  intro t
  induction t with
  | nil => intro i _ _; simp [look, fz]
  | cons p t ih =>
    intro i h hi
    obtain ⟨j, x⟩ := p
    simp only [fzKeep, Bool.and_eq_true, Bool.or_eq_true] at h
    simp only [look]
    split
    · rename_i e
      subst e
      refine fz_id _ (fun k hk hh => ?_)
      rcases h.1 with h1 | h1
      · exact hi (by simpa using h1)
      · have := (List.all_eq_true.1 h1) k hk
        rw [kin_mem.2 hh] at this; cases this
    · exact ih h.2 hi

/-- some own objects may be only read from here on -/
def FzVC (V : Tmps → Mem → Nat → Prop) (L : List Nat) (t : Tmps) (m : Mem) (n : Nat) : Prop := ∃ ks, fzKeep L ks t = true ∧ V (fzT ks m t) (fzM ks m m) n
@[congr] theorem FzVC_congr {V : Tmps → Mem → Nat → Prop} {L : List Nat} {t : Tmps} {m : Mem} {n : Nat} {p : Prop} (_ : (True ∧ True) = p) : FzVC V L t m n = FzVC V L t m n := rfl
theorem FzVC.mk {V : Tmps → Mem → Nat → Prop} {L : List Nat} {t : Tmps} {m : Mem} {n : Nat} (ks : List Nat) (h : fzKeep L ks t = true) (hV : V (fzT ks m t) (fzM ks m m) n) : FzVC V L t m n := ⟨ks, h, hV⟩
theorem FzVC.no {V : Tmps → Mem → Nat → Prop} {L : List Nat} {t : Tmps} {m : Mem} {n : Nat} (hV : V t m n) : FzVC V L t m n := by
  refine ⟨[], ?_, by rw [fzT_nil, fzM_nil]; exact hV⟩
  clear hV
  induction t with
  | nil => rfl
  | cons p t ih => obtain ⟨i, x⟩ := p; simp [fzKeep, kno, kin, ih]

/-- a row that was taken out through this address is laid back -/
def gvRow (x : AV) (m : Mem) (K : Mem → Prop) : Prop :=
  match x with
  | .elt k _ _ => match lookM m k with
    | some (.lent sz rows i q) => match lookM m q with
      | some (.arr s xs) => s = sz ∧ K ((k, some (.mat sz (rows.set i (.own xs)))) :: (q, none) :: m)
      | _ => K m
    | _ => K m
  | _ => K m
def gvVC : List Opd → Tmps → Mem → (Mem → Prop) → Prop
  | [], _, m, K => K m
  | a :: r, t, m, K => gvRow (ev t a) m fun m' => gvVC r t m' K
def gvQ (L : List Opd) (Q : WP) : WP := fun e t m n => match e with
  | .norm => gvVC L t m fun m' => Q .norm t m' n
  | e => Q e t m n

theorem gvRow_mono {x : AV} {m : Mem} {K K' : Mem → Prop} (h : gvRow x m K) (hK : ∀ m, K m → K' m) : gvRow x m K' := by
  unfold gvRow at h ⊢
  split at h
  · split at h
    · split at h
      · exact ⟨h.1, hK _ h.2⟩
      · exact hK _ h
    · exact hK _ h
  · exact hK _ h
theorem gvVC_mono {t : Tmps} : ∀ {L : List Opd} {m : Mem} {K K' : Mem → Prop}, gvVC L t m K → (∀ m, K m → K' m) → gvVC L t m K' := by
  intro L
  induction L with
  | nil => intro m K K' h hK; exact hK _ h
  | cons a L ih => intro m K K' h hK; exact gvRow_mono h (fun m h => ih h hK)
theorem gvQ_mono {L : List Opd} {Q Q' : WP} (hQ : ∀ e t m n, Q e t m n → Q' e t m n) : ∀ e t m n, gvQ L Q e t m n → gvQ L Q' e t m n := by
  intro e t m n h
  cases e with
  | norm => exact gvVC_mono h (fun m h => hQ _ _ _ _ h)
  | ex id => exact hQ _ _ _ _ h
  | ret => exact hQ _ _ _ _ h

def asgI : List MI → List Nat
  | [] => []
  | ⟨some d, _, _⟩ :: r => d :: asgI r
  | ⟨none, _, _⟩ :: r => asgI r

def asg : MCode → List Nat
  | .reg is => asgI is
  | .draw is => asgI is
  | .drawc is _ => asgI is
  | .drawy is _ _ => asgI is
  | .seq a b => asg a ++ asg b
  | .cond _ a b => asg a ++ asg b
  | .block _ b => asg b
  | .loop b => asg b
  | .fz L b => L ++ asg b
  | .gv _ b => asg b
  | _ => []

def vcg (P : Program) : MCode → WP → Tmps → Mem → Nat → Prop
  | .skip, Q, t, m, n => Q .norm t m n
  | .reg is, Q, t, m, n => vregs P is (Q .norm) t m n
  | .draw is, Q, t, m, n => vregsD P is (Q .norm) t m n
  | .drawc is cs, Q, t, m, n => vregsD P is (fun t' m' n' => apart t' m' m.length is cs ∧ Q .norm t' m' n') t m n
  | .drawy is cs zs, Q, t, m, n => vregsD P is (fun t' m' n' => apartY t' m' m.length is zs cs ∧ Q .norm t' m' (n' + 1)) t m n
  | .seq a b, Q, t, m, n => vcg P a (fun e t m n => match e with
    | .norm => vcg P b Q t m n
    | e => Q e t m n) t m n
  | .cond c a b, Q, t, m, n => match ev t c with
    | .v (.bool x) => Fork x (vcg P a Q t m n) (vcg P b Q t m n)
    | _ => False
  | .block id b, Q, t, m, n => vcg P b (fun e t m n => match e with
    | .ex id' => if id' = id then Q .norm t m n else Q (.ex id') t m n
    | e => Q e t m n) t m n
  | .loop b, Q, t, m, n => LoopVC (vcg P b) (asg b) Q t m n
  | .fz L b, Q, t, m, n => FzVC (vcg P b Q) L t m n
  | .gv L b, Q, t, m, n => vcg P b (gvQ L Q) t m n
  | .exit id, Q, t, m, n => Q (.ex id) t m n
  | .ret, Q, t, m, n => Q .ret t m n

/-- the slices that are assigned -/
def asgS (P : Program) : Code → List Nat
  | .region _ ops _ => ops.toList.filterMap fun o => match P.underlying o.type with
    | some (.slice _) => o.dst
    | _ => none
  | .seq a b => asgS P a ++ asgS P b
  | .cond _ a b => asgS P a ++ asgS P b
  | .block _ b => asgS P b
  | .loop b => asgS P b
  | _ => []

/-- a slice is laid into a struct -/
def needFz (P : Program) (ops : Array Oper) : Bool := ops.toList.any fun o => match o.op with
  | .build t parts => match P.underlying t with
    | some (.struct fs) => parts.toList.any fun p => match p.2, fs[p.1]? with
      | .tmp _, some f => match P.underlying f.type with
        | some (.slice _) => true
        | _ => false
      | _, _ => false
    | _ => false
  | _ => false

def fzW (P : Program) (A : List Nat) (ops : Array Oper) (b : MCode) : MCode := if needFz P ops then .fz A b else b

/-- the mark of a function that makes slices of slices -/
def sentN : Nat := 999999999
def hasMk (P : Program) : Code → Bool
  | .region _ ops _ => ops.toList.any fun o => match o.op with
    | .makeSlice T _ _ => (match P.underlying T with
      | some (.slice e) => (match P.underlying e with
        | some (.slice _) => true
        | _ => false)
      | _ => false)
    | _ => false
  | .seq a b => hasMk P a || hasMk P b
  | .cond _ a b => hasMk P a || hasMk P b
  | .block _ b => hasMk P b
  | .loop b => hasMk P b
  | _ => false
/-- the addresses of the rows that this region takes out and goes into -/
def goesInto (d : Nat) (i : MI) : Bool := match i.op with
  | .iaddr _ (.t q) _ => Nat.beq q d
  | _ => false
/-- where the address of an element of the row d is kept -/
def keptAt (is : List MI) (d : Nat) : List Nat := (is.filter (goesInto d)).flatMap fun i => match i.d with
  | some e => is.filterMap fun j => match j.op with
    | .mov (.t q) => bif Nat.beq q e then j.d else none
    | _ => none
  | none => []
/-- where the row d is kept -/
def keptRow (is : List MI) (d : Nat) : List Nat := is.filterMap fun j => match j.op with
  | .mov (.t q) => bif Nat.beq q d then j.d else none
  | _ => none
def gvOf (P : Program) (ops : Array Oper) (is : List MI) (j : Nat) : Option MI → Option Opd
  | some ⟨some d, .ld none (.t s), _⟩ => bif rowLd P ops is j && (is.any (goesInto d) && (keptAt is d).isEmpty) then some (.t s) else none
  | _ => none
def gvs (P : Program) (ops : Array Oper) (is : List MI) : List Opd := (List.range is.length).filterMap fun j => gvOf P ops is j is[j]?
/-- variables that keep the address of an element of a row, with the place where the row was found -/
def keptOf (P : Program) (ops : Array Oper) (is : List MI) (j : Nat) : Option MI → List (Nat × Nat)
  | some ⟨some d, .ld none (.t s), _⟩ => bif rowLd P ops is j then (keptAt is d ++ keptRow is d).map fun v => (v, s) else []
  | _ => []
def kepts (P : Program) (N : Nat) (ops : Array Oper) : List (Nat × Nat) :=
  match cMIs P N ops ops.toList with
  | some is => (List.range is.length).flatMap fun j => keptOf P ops is j is[j]?
  | none => []
/-- a row is taken out and kept -/
def keptHere (P : Program) (ops : Array Oper) (is : List MI) : Bool := (List.range is.length).any fun j => !(keptOf P ops is j is[j]?).isEmpty
def keptC (P : Program) (N : Nat) : Code → List Nat
  | .region _ ops _ => (kepts P N ops).map fun p => sentN + 1 + p.1 * 4096 + p.2
  | .seq a b => keptC P N a ++ keptC P N b
  | .cond _ a b => keptC P N a ++ keptC P N b
  | .block _ b => keptC P N b
  | .loop b => keptC P N b
  | _ => []
/-- in how many regions a variable is read -/
def rdC (P : Program) (N : Nat) (v : Nat) : Code → Nat
  | .region _ ops _ => match cMIs P N ops ops.toList with
    | some is => bif is.any (fun i => (slotsOf i).contains v) then 1 else 0
    | none => 0
  | .seq a b => rdC P N v a + rdC P N v b
  | .cond c a b => (match cOpd c with
    | some (.t q) => bif Nat.beq q v then 2 else 0
    | _ => 0) + (rdC P N v a + rdC P N v b)
  | .block _ b => rdC P N v b
  | .loop b => rdC P N v b
  | _ => 0
/-- only what is read in one region is laid back -/
def topA (P : Program) (N : Nat) (c : Code) : List Nat := asgS P c ++ ((bif hasMk P c then [sentN] else []) ++ (keptC P N c).filter fun k => Nat.beq (rdC P N ((k - sentN - 1) / 4096) c) 1)
def mkA (A : List Nat) : List Nat := A.filter fun k => Nat.ble sentN k
def isSt (i : MI) : Bool := match i.op with
  | .st _ _ _ => true
  | _ => false
/-- it stores into a row that it has taken out -/
def stRowIn (P : Program) (ops : Array Oper) (is : List MI) : Bool := is.any isSt && (is.any fun i => match i.op with
  | .st _ (.t e) _ => is.any fun j => match j.op with
    | .iaddr _ (.t d) _ => j.d == some e && (List.range is.length).any fun q => rowLd P ops is q && dOf is q == some d
    | _ => false
  | _ => false)
def gvA (P : Program) (A : List Nat) (ops : Array Oper) (is : List MI) : List Opd := bif (mkA A).isEmpty && !(stRowIn P ops is) then [] else gvs P ops is
/-- rows that were taken out before, and are looked at here for the last time -/
def gvB (A : List Nat) (is : List MI) : List Opd := A.filterMap fun k => bif Nat.blt sentN k && (is.any fun i => (slotsOf i).contains ((k - sentN - 1) / 4096)) then some (.t ((k - sentN - 1) % 4096)) else none
def gvWB (A : List Nat) (is : List MI) (b : MCode) : MCode := if (gvB A is).isEmpty then b else .gv (gvB A is) b
def gvW (P : Program) (A : List Nat) (ops : Array Oper) (is : List MI) (b : MCode) : MCode := if (gvA P A ops is).isEmpty then b else .gv (gvA P A ops is) b

def cCode (P : Program) (N : Nat) (A : List Nat) : Code → Option MCode
  | .skip => some .skip
  | .region _ ops false => match cMIs P N ops ops.toList with
    | some is => some (fzW P A ops (gvWB A is (gvW P A ops is (.reg is))))
    | none => none
  | .region _ ops true => match cMIs P N ops ops.toList with
    | some is => if is.any (deepCall P) then
        (if drawOkC ops (markY P ops is) (flags ops (markY P ops is)) && ((stableC (markY P ops is) (flags ops (markY P ops is)) && okY ((firstDeep P 0 is).getD 0) (markY P ops is)) && P.follows .mixedOrders) then some (fzW P A ops (gvWB A is (gvW P A ops is (.drawy (markY P ops is) (flags ops (markY P ops is)) (zsOf ops (markY P ops is)))))) else none)
      else if (((gvA P A ops is).isEmpty && !keptHere P ops is) && (drawOk ops (markX P ops is) && noY (markX P ops is))) && P.follows .mixedOrders then some (fzW P A ops (gvWB A is (.draw (markX P ops is))))
      else if drawOkC ops (markM P ops is) (flags ops (markM P ops is)) && ((stableC (markM P ops is) (flags ops (markM P ops is)) && noY (markM P ops is)) && P.follows .mixedOrders) then some (fzW P A ops (gvWB A is (gvW P A ops is (.drawc (markM P ops is) (flags ops (markM P ops is)))))) else none
    | none => none
  | .seq a b => match cCode P N A a, cCode P N A b with
    | some a', some b' => some (.seq a' b')
    | _, _ => none
  | .cond c a b => match cOpd c, cCode P N A a, cCode P N A b with
    | some c', some a', some b' => some (.cond c' a' b')
    | _, _, _ => none
  | .block id b => match cCode P N A b with
    | some b' => some (.block id b')
    | none => none
  | .loop b => match cCode P N (asgS P b ++ mkA A) b with
    | some b' => some (.loop b')
    | none => none
  | .exit id => some (.exit id)
  | .ret => some .ret
  | _ => none

end Go.Av
/- Code: monotone; temporaries that are not assigned stand. -/
namespace Go.Av
open Go.RowKit (Below)

variable {P : Program} {t : Tmps} {m : Mem} {n : Nat}

theorem vbin_mono {op : BinOp} {k : IntKind} {c d : Int} {G G' : Value → Prop} (h : vbin op k c d G) (hG : ∀ v, G v → G' v) : vbin op k c d G' := by
  obtain ⟨v, h1, h2⟩ := vbin_exact h
  exact h2 _ (hG v h1)
theorem ldc_mono {c : Option Nat} {cs : List AV} {off : Nat} {G G' : AV → Prop} (h : ldc c cs off G) (hG : ∀ v, G v → G' v) : ldc c cs off G' := by
  obtain ⟨v, h1, h2⟩ := ldc_exact h
  exact h2 _ (hG v h1)
theorem fillL_mono {ps : List (Nat × Nat × Opd)} {cs : List AV} {G G' : List AV → Prop} (h : fillL t cs ps G) (hG : ∀ v, G v → G' v) : fillL t cs ps G' := by
  obtain ⟨v, h1, h2⟩ := fillL_exact h
  exact h2 _ (hG v h1)

theorem vld_mono {c : Option Nat} {x : AV} {K K' : AV → Mem → Prop} (h : vld c m n x K) (hK : ∀ x u, K x u → K' x u) : vld c m n x K' := by
  unfold vld at h ⊢
  split at h
  · split at h
    · exact ldc_mono h (fun v hv => hK _ _ hv)
    · exact h.elim
  · exact ldc_mono h (fun v hv => hK _ _ hv)
  · split at h
    · obtain ⟨z, hz, h⟩ := h
      exact Pick.mk z hz (ldc_mono h (fun v hv => hK _ _ hv))
    · obtain ⟨h1, h2, rr, h3, h4⟩ := h
      refine ⟨h1, h2, PickR.mk rr h3 ?_⟩
      split at h4
      · exact hK _ _ h4
      · exact hK _ _ h4
      · exact h4.elim
    · obtain ⟨h1, h2, rr, h3, h4⟩ := h
      refine ⟨h1, h2, PickR.mk rr h3 ?_⟩
      split at h4
      · exact hK _ _ h4
      · exact hK _ _ h4
      · exact h4.elim
    · exact h.elim
  · exact h.elim

theorem vop_mono {op : MOp} {K K' : AV → Mem → Prop} (h : vop op t m n K) (hK : ∀ x u, K x u → K' x u) : vop op t m n K' := by
  cases op with
  | mov x => exact hK _ _ h
  | pick c x y =>
    simp only [vop] at h ⊢
    split at h
    · exact ⟨fun hc => hK _ _ (h.1 hc), fun hc => hK _ _ (h.2 hc)⟩
    · exact h.elim
  | bin op x y =>
    simp only [vop] at h ⊢
    split at h
    · split at h
      · exact ⟨h.1, hK _ _ h.2⟩
      · exact ⟨h.1, hK _ _ h.2⟩
      · exact ⟨h.1, vbin_mono h.2 (fun v hv => hK _ _ hv)⟩
    · exact h.elim
  | eqb ng x y => simp only [vop] at h ⊢; split at h <;> first | exact hK _ _ h | exact h.elim
  | not x => simp only [vop] at h ⊢; split at h <;> first | exact hK _ _ h | exact h.elim
  | neg x => simp only [vop] at h ⊢; split at h <;> first | exact hK _ _ h | exact h.elim
  | conv k x => simp only [vop] at h ⊢; split at h <;> first | exact hK _ _ h | exact h.elim
  | new zs => exact hK _ _ h
  | box x => exact ⟨h.1, hK _ _ h.2⟩
  | build zs ps => exact ⟨h.1, fillL_mono h.2 (fun v hv => hK _ _ hv)⟩
  | ld c x => exact vld_mono h hK
  | ldm x => exact vld_mono h hK
  | st c x y =>
    simp only [vop] at h ⊢
    split at h
    · split at h
      · exact ⟨h.1, h.2.1, h.2.2.1, hK _ _ h.2.2.2⟩
      · exact h.elim
    · split at h
      · exact ⟨h.1, h.2.1, h.2.2.1, h.2.2.2.1, h.2.2.2.2.1, hK _ _ h.2.2.2.2.2⟩
      · obtain ⟨rr, u, h1, h2, _⟩ := stRow_exact h.2.2
        exact ⟨h.1, h.2.1, h2 _ (hK _ _ h1)⟩
      · obtain ⟨rr, u, h1, h2, _⟩ := stRow_exact h.2.2
        exact ⟨h.1, h.2.1, h2 _ (hK _ _ h1)⟩
      · exact h.elim
    · split at h
      · obtain ⟨h1, h2, h3, h4, e, h5, h6⟩ := h
        exact ⟨h1, h2, h3, h4, Pick.mk e h5 (hK _ _ h6)⟩
      · exact h.elim
    · exact h.elim
  | faddr off x =>
    simp only [vop] at h ⊢
    split at h
    · exact hK _ _ h
    · exact ⟨h.1, hK _ _ h.2⟩
    · exact hK _ _ h
    · exact h.elim
  | fld c off x =>
    simp only [vop] at h ⊢
    split at h
    · exact ldc_mono h (fun v hv => hK _ _ hv)
    · exact h.elim
  | iaddr sz x i =>
    simp only [vop] at h ⊢
    split at h
    · obtain ⟨h1, h2, y, h3, h4⟩ := h
      exact ⟨h1, h2, Pick.mk y h3 (hK _ _ h4)⟩
    · split at h
      · exact ⟨h.1, h.2.1, h.2.2.1, hK _ _ h.2.2.2⟩
      · exact ⟨h.1, h.2.1, h.2.2.1, hK _ _ h.2.2.2⟩
      · exact ⟨h.1, h.2.1, h.2.2.1, hK _ _ h.2.2.2⟩
      · exact h.elim
    · exact h.elim
  | nchk x =>
    simp only [vop] at h ⊢
    split at h
    · exact hK _ _ h
    · exact hK _ _ h
    · exact hK _ _ h
    · exact h.elim
  | idx L x i =>
    simp only [vop] at h ⊢
    split at h
    · obtain ⟨h1, h2, y, h5, h6⟩ := h
      exact ⟨h1, h2, y, h5, hK _ _ h6⟩
    · exact h.elim
  | aaddr c L x i =>
    simp only [vop] at h ⊢
    split at h
    · exact ⟨h.1, h.2.1, hK _ _ h.2.2⟩
    · exact ⟨h.1, h.2.1, h.2.2.mono fun ys h => hK _ _ h⟩
    · exact h.elim
  | ext i x =>
    simp only [vop] at h ⊢
    split at h
    · obtain ⟨y, h1, h2⟩ := h
      exact ⟨y, h1, hK _ _ h2⟩
    · exact h.elim
  | len x => simp only [vop] at h ⊢; split at h <;> first | exact hK _ _ h | exact h.elim
  | mkfn f l => exact hK _ _ h
  | blds sz l => exact ⟨h.1, hK _ _ h.2⟩
  | bldo sz l => exact ⟨h.1, h.2.1, hK _ _ h.2.2⟩
  | bldr sz l => exact ⟨h.1, hK _ _ h.2⟩
  | mm b x y => simp only [vop] at h ⊢; split at h <;> first | exact ⟨h.1, hK _ _ h.2⟩ | exact h.elim
  | mks z l c => simp only [vop] at h ⊢; split at h <;> first | exact ⟨h.1, h.2.1, h.2.2.1, hK _ _ h.2.2.2⟩ | exact h.elim
  | mkm z l c =>
    simp only [vop] at h ⊢
    split at h
    · exact ⟨h.1, h.2.1, h.2.2.1, h.2.2.2.imp (hK _ _) (hK _ _)⟩
    · exact h.elim
  | app sz s x =>
    simp only [vop, vapp] at h ⊢
    split at h
    · obtain ⟨ys, ⟨h1, h2⟩, h3⟩ := srcE_exact h
      exact h3 _ ⟨h1, hK _ _ h2⟩
    · split at h
      · obtain ⟨ys, ⟨h1, h2⟩, h3⟩ := srcE_exact h.2.2
        exact ⟨h.1, h.2.1, h3 _ ⟨h1, hK _ _ h2⟩⟩
      · exact h.elim
    · exact h.elim
  | mnew => exact hK _ _ h
  | mget kk z ok x i =>
    simp only [vop] at h ⊢
    split at h
    · obtain ⟨es, h1, h2⟩ := mapE_exact h.2
      exact ⟨h.1, h2 _ ⟨h1.1, hK _ _ h1.2⟩⟩
    · exact h.elim
  | mset kk x i y =>
    simp only [vop] at h ⊢
    split at h
    · split at h
      · exact ⟨h.1, h.2.1, h.2.2.1, hK _ _ h.2.2.2⟩
      · exact h.elim
    · exact h.elim
  | cap x => simp only [vop] at h ⊢; split at h <;> first | exact hK _ _ h | exact h.elim
  | appz z s x => simp only [vop] at h ⊢; split at h <;> first | exact ⟨h.1, h.2.1, hK _ _ h.2.2⟩ | exact h.elim
  | b2s x =>
    simp only [vop] at h ⊢
    obtain ⟨ys, ⟨bs, h1, h2⟩, h3⟩ := srcE_exact h
    exact h3 _ ⟨bs, h1, hK _ _ h2⟩
  | never => exact h.elim
  | sget z ok x i =>
    simp only [vop] at h ⊢
    split at h
    · obtain ⟨es, h1, h2⟩ := mapE_exact h
      exact h2 _ ⟨h1.1, hK _ _ h1.2⟩
    · exact h.elim
  | aget ks z ok x i =>
    simp only [vop] at h ⊢
    split at h
    · obtain ⟨es, ⟨c, h1, h2, h3, h4⟩, h5⟩ := mapE_exact h
      exact h5 _ ⟨c, h1, h2, h3, hK _ _ h4⟩
    · exact h.elim
  | aset ks x i y =>
    simp only [vop] at h ⊢
    split at h
    · split at h
      · obtain ⟨c, h1, h2, h3, h4, h5⟩ := h
        exact ⟨c, h1, h2, h3, h4, hK _ _ h5⟩
      · exact h.elim
    · exact h.elim
  | sset x i y =>
    simp only [vop] at h ⊢
    split at h
    · split at h
      · exact ⟨h.1, h.2.1, hK _ _ h.2.2⟩
      · exact h.elim
    · exact h.elim
  | mlen x =>
    simp only [vop] at h ⊢
    obtain ⟨es, h1, h2⟩ := mapE_exact h
    exact h2 _ (hK _ _ h1)
  | mrng x =>
    simp only [vop] at h ⊢
    split at h
    · exact hK _ _ h
    · exact hK _ _ h
    · exact h.elim
  | next x =>
    simp only [vop] at h ⊢
    split at h
    · split at h
      · exact ⟨fun hr => hK _ _ (h.1 hr), fun j p hp => hK _ _ (h.2 j p hp)⟩
      · exact h.elim
    · exact h.elim
  | entry x =>
    simp only [vop] at h ⊢
    split at h
    · split at h
      · exact hK _ _ h
      · exact h.elim
    · exact h.elim
  | eqa sz ng x y =>
    simp only [vop] at h ⊢
    split at h
    · exact EqVC.mono h fun b hb => hK _ _ hb
    · exact h.elim
  | isnil ng x =>
    simp only [vop] at h ⊢
    generalize ev t x = y at h ⊢
    unfold NilVC at h ⊢
    split at h
    · exact hK _ _ h
    · exact hK _ _ h
    · exact ⟨hK _ _ h.1, fun h' => hK _ _ (h.2 h')⟩
    · exact ⟨hK _ _ h.1, fun h' => hK _ _ (h.2 h')⟩
    · exact h.elim
  | nilm ng x =>
    simp only [vop] at h ⊢
    split at h
    · exact hK _ _ h
    · exact hK _ _ h
    · exact hK _ _ h
    · exact h.elim
  | slc sz x lo hi =>
    simp only [vop] at h ⊢
    split at h
    · exact bnd_mono h fun l h => bnd_mono h fun r h => ⟨h.1, h.2.1, h.2.2.1, h.2.2.2.1, hK _ _ h.2.2.2.2⟩
    · split at h
      · exact bnd_mono h fun l h => bnd_mono h fun r h => ⟨h.1, h.2.1, h.2.2.1, h.2.2.2.1, hK _ _ h.2.2.2.2⟩
      · exact h.elim
    · exact bnd_mono h fun l h => bnd_mono h fun r h => ⟨h.1, h.2.1, hK _ _ h.2.2⟩
    · exact h.elim
  | call f l => exact h.elim
  | callv g l => exact h.elim
  | callx f l => exact h.elim
  | cally k f l => exact h.elim
  | callvx g l => exact h.elim

theorem CallVC.mono {f : FuncId} {args : List AV} {K K' : AV → Mem → Nat → Prop} (h : CallVC P f args m n K) (hK : ∀ x m' n', K x m' n' → K' x m' n') : CallVC P f args m n K' := by
  refine ⟨h.1, fun X N w S κ t a vals r hl hR => (h.2 X N w S κ t a vals r hl hR).mono ?_⟩
  rintro e w' ⟨v, x, m', n', S', κ', h1, h2, h3, h4⟩
  exact ⟨v, x, m', n', S', κ', h1, hK _ _ _ h2, h3, h4⟩

theorem CallXr.mono {f : FuncId} {args : List AV} {rho : List Nat} {K K' : AV → Mem → Prop} (h : CallXr P f args m n rho K) (hK : ∀ x u, K x u → K' x u) : CallXr P f args m n rho K' := by
  obtain ⟨args', m0, r, gv, rm, fl, h1, h2, h3, h4, h5, h6, h7, h8, h9, h10, h11⟩ := h
  exact ⟨args', m0, r, gv, rm, fl, h1, h2, h3, h4, h5, h6, h7, h8, h9, h10, hK _ _ h11⟩

theorem CallD.mono {f : FuncId} {args : List AV} {K K' : AV → Mem → Prop} (h : CallD P f args m n K) (hK : ∀ x u, K x u → K' x u) : CallD P f args m n K' := by
  rcases h with ⟨r, h1, h2, h3, h4⟩ | h
  · exact .inl ⟨r, h1, h2, h3, hK _ _ h4⟩
  · exact .inr (h.mono hK)

theorem CallXq.mono {f : FuncId} {args : List AV} {e lim : Nat} {K K' : AV → Mem → Prop} (h : CallXq P f args m n e lim K) (hK : ∀ x u, K x u → K' x u) : CallXq P f args m n e lim K' := by
  obtain ⟨k0, rho, cs, c0, c1, args', ms0, r, g1, rm, fl, h1, h0, h2, h3, h4, h5, h5', h6, h7, h8, h9, h10, h11⟩ := h
  exact ⟨k0, rho, cs, c0, c1, args', ms0, r, g1, rm, fl, h1, h0, h2, h3, h4, h5, h5', h6, h7, h8, h9, h10, hK _ _ h11⟩
theorem CallX.mono {f : FuncId} {args : List AV} {K K' : AV → Mem → Prop} (h : CallX P f args m n K) (hK : ∀ x u, K x u → K' x u) : CallX P f args m n K' := by
  rcases h with h | ⟨rho, h⟩ | h
  · exact .inl (CallD.mono h hK)
  · exact .inr (.inl ⟨rho, h.mono hK⟩)
  · exact .inr (.inr (h.mono hK))
theorem CallY.mono {f : FuncId} {args : List AV} {e : Nat} {K K' : AV → Mem → Prop} (h : CallY P f args m n e K) (hK : ∀ x u, K x u → K' x u) : CallY P f args m n e K' := h.imp (fun h => CallX.mono h hK) (fun h => h.mono hK)

theorem vrun_mono {d : Option Nat} {op : MOp} {K K' : Tmps → Mem → Nat → Prop} (h : vrun P d op K t m n) (hK : ∀ x m' n', K (putT d x t) m' n' → K' (putT d x t) m' n') : vrun P d op K' t m n := by
  cases op with
  | call f l => exact CallVC.mono h (fun x m' n' hh => hK x m' n' hh)
  | callv g l =>
    simp only [vrun] at h ⊢
    split at h
    · exact CallVC.mono h (fun x m' n' hh => hK x m' n' hh)
    · exact h.elim
  | _ => simp only [vrun] at h ⊢; exact vop_mono h (fun x u hh => hK _ _ _ hh)

theorem vins_mono {i : MI} {K K' : Tmps → Mem → Nat → Prop} (h : vins P i K t m n) (hK : ∀ t2 x m' n', (∀ s, look t2 s = look t s) → K (putT i.d x t2) m' n' → K' (putT i.d x t2) m' n') : vins P i K' t m n := by
  obtain ⟨d, op, g⟩ := i
  cases g with
  | none => exact vrun_mono h (fun x m' n' => hK t x m' n' (fun _ => rfl))
  | some sw =>
    obtain ⟨s, want⟩ := sw
    simp only [vins] at h ⊢
    split at h
    · rename_i b e
      exact ⟨fun hb => vrun_mono (h.1 hb) (fun x m' n' => hK _ x m' n' (look_same (by rw [e, hb]))), fun hb => hK _ _ _ _ (look_same (by rw [e, hb])) (h.2 hb)⟩
    · exact hK t _ _ _ (fun _ => rfl) h
    · exact h.elim

theorem vrunD_mono {op : MOp} {K K' : AV → Mem → Prop} (h : vrunD P op t m n K) (hK : ∀ x u, K x u → K' x u) : vrunD P op t m n K' := by
  cases op with
  | call f l => exact CallD.mono h hK
  | callv g l =>
    simp only [vrunD] at h ⊢
    split at h
    · exact CallD.mono h hK
    · exact h.elim
  | callx f l => exact CallX.mono h hK
  | cally k f l => exact CallY.mono h hK
  | callvx g l =>
    simp only [vrunD] at h ⊢
    split at h
    · exact CallX.mono h hK
    · exact h.elim
  | next x => exact h.elim
  | isnil ng x => exact ⟨h.1, vop_mono h.2 hK⟩
  | ld c x => exact ⟨h.1, vop_mono h.2 hK⟩
  | _ => simp only [vrunD] at h ⊢; exact vop_mono h hK

theorem vstepD_mono {i : MI} {K K' : AV → Mem → Tmps → Prop} (h : vstepD P i K t m n) (hK : ∀ x u t2, (∀ s, look t2 s = look t s) → K x u t2 → K' x u t2) : vstepD P i K' t m n := by
  obtain ⟨d, op, g⟩ := i
  cases g with
  | none => exact vrunD_mono h (fun x u => hK x u t (fun _ => rfl))
  | some sw =>
    obtain ⟨s, want⟩ := sw
    simp only [vstepD] at h ⊢
    split at h
    · rename_i b e
      exact ⟨fun hb => vrunD_mono (h.1 hb) (fun x u => hK x u _ (look_same (by rw [e, hb]))), fun hb => hK _ _ _ (look_same (by rw [e, hb])) (h.2 hb)⟩
    · exact hK _ _ _ (fun _ => rfl) h
    · exact h.elim

theorem putT_other {d : Option Nat} {x : AV} {t : Tmps} {i : Nat} (h : d ≠ some i) : look (putT d x t) i = look t i := by rw [look_putT, if_neg h]

theorem asgI_cons {i : MI} {is : List MI} {k : Nat} (h : k ∉ asgI (i :: is)) : i.d ≠ some k ∧ k ∉ asgI is := by
  obtain ⟨d, op, g⟩ := i
  cases d with
  | none => exact ⟨by simp, h⟩
  | some d => simp only [asgI, List.mem_cons, not_or] at h; exact ⟨by simpa using Ne.symm h.1, h.2⟩

theorem vregs_mono {K K' : Tmps → Mem → Nat → Prop} (hK : ∀ t m n, K t m n → K' t m n) : ∀ (is : List MI) (t : Tmps) (m : Mem) (n : Nat), vregs P is K t m n → vregs P is K' t m n := by
  intro is
  induction is with
  | nil => intro t m n h; exact hK _ _ _ h
  | cons i is ih => intro t m n h; exact vins_mono h (fun t2 x m' n' _ hh => ih _ _ _ hh)

theorem vregs_frame {K : Tmps → Mem → Nat → Prop} : ∀ (is : List MI) (t : Tmps) (m : Mem) (n : Nat), vregs P is K t m n →
    vregs P is (fun t' m' n' => K t' m' n' ∧ ∀ i, i ∉ asgI is → look t' i = look t i) t m n := by
  intro is
  induction is with
  | nil => intro t m n h; exact ⟨h, fun _ _ => rfl⟩
  | cons i is ih =>
    intro t m n h
    refine vins_mono h (fun t2 x m' n' ht2 hh => ?_)
    refine vregs_mono (fun t' m'' n'' hh2 => ⟨hh2.1, fun k hk => ?_⟩) is _ _ _ (ih _ _ _ hh)
    rw [hh2.2 k (asgI_cons hk).2, putT_other (asgI_cons hk).1, ht2]

theorem vregsD_mono {K K' : Tmps → Mem → Nat → Prop} (hK : ∀ t m n, K t m n → K' t m n) : ∀ (is : List MI) (t : Tmps) (m : Mem) (n : Nat), vregsD P is K t m n → vregsD P is K' t m n := by
  intro is
  induction is with
  | nil => intro t m n h; exact hK _ _ _ h
  | cons i is ih => intro t m n h; exact vstepD_mono h (fun x u t2 _ hh => ih _ _ _ hh)

theorem vregsD_frame {K : Tmps → Mem → Nat → Prop} : ∀ (is : List MI) (t : Tmps) (m : Mem) (n : Nat), vregsD P is K t m n →
    vregsD P is (fun t' m' n' => K t' m' n' ∧ ∀ i, i ∉ asgI is → look t' i = look t i) t m n := by
  intro is
  induction is with
  | nil => intro t m n h; exact ⟨h, fun _ _ => rfl⟩
  | cons i is ih =>
    intro t m n h
    refine vstepD_mono h (fun x u t2 ht2 hh => ?_)
    refine vregsD_mono (fun t' m'' n'' hh2 => ⟨hh2.1, fun k hk => ?_⟩) is _ _ _ (ih _ _ _ hh)
    rw [hh2.2 k (asgI_cons hk).2, putT_other (asgI_cons hk).1, ht2]

theorem vcg_mono : ∀ (c : MCode) (Q Q' : WP) (t : Tmps) (m : Mem) (n : Nat), (∀ e t m n, Q e t m n → Q' e t m n) → vcg P c Q t m n → vcg P c Q' t m n := by
  intro c
  induction c with
  | skip => intro Q Q' t m n hQ h; exact hQ _ _ _ _ h
  | reg is => intro Q Q' t m n hQ h; exact vregs_mono (hQ .norm) is _ _ _ h
  | draw is => intro Q Q' t m n hQ h; exact vregsD_mono (hQ .norm) is _ _ _ h
  | drawc is cs => intro Q Q' t m n hQ h; exact vregsD_mono (fun t m n hh => ⟨hh.1, hQ .norm t m n hh.2⟩) is _ _ _ h
  | drawy is cs zs => intro Q Q' t m n hQ h; exact vregsD_mono (fun t m n hh => ⟨hh.1, hQ .norm t m _ hh.2⟩) is _ _ _ h
  | seq a b iha ihb =>
    intro Q Q' t m n hQ h
    refine iha _ _ _ _ _ (fun e t m n hh => ?_) h
    cases e with
    | norm => exact ihb _ _ _ _ _ hQ hh
    | _ => exact hQ _ _ _ _ hh
  | cond c a b iha ihb =>
    intro Q Q' t m n hQ h
    simp only [vcg] at h ⊢
    split at h
    · exact ⟨fun hc => iha _ _ _ _ _ hQ (h.1 hc), fun hc => ihb _ _ _ _ _ hQ (h.2 hc)⟩
    · exact h.elim
  | block id b ih =>
    intro Q Q' t m n hQ h
    refine ih _ _ _ _ _ (fun e t m n hh => ?_) h
    cases e with
    | ex id' =>
      simp only at hh ⊢
      by_cases hid : id' = id
      · rw [if_pos hid] at hh ⊢; exact hQ _ _ _ _ hh
      · rw [if_neg hid] at hh ⊢; exact hQ _ _ _ _ hh
    | _ => exact hQ _ _ _ _ hh
  | loop b ih =>
    intro Q Q' t m n hQ h
    obtain ⟨ι, ss, vs, ob, r, inv, μ, h0, h1, h2⟩ := h
    refine ⟨ι, ss, vs, ob, r, inv, μ, h0, h1, fun x hx => ih _ _ _ _ _ (fun e t m n hh => ?_) (h2 x hx)⟩
    cases e with
    | norm => exact hh
    | _ => exact hQ _ _ _ _ hh
  | fz L b ih => intro Q Q' t m n hQ h; obtain ⟨ks, h1, h2⟩ := h; exact ⟨ks, h1, ih _ _ _ _ _ hQ h2⟩
  | gv L b ih => intro Q Q' t m n hQ h; exact ih _ _ _ _ _ (gvQ_mono hQ) h
  | exit id => intro Q Q' t m n hQ h; exact hQ _ _ _ _ h
  | ret => intro Q Q' t m n hQ h; exact hQ _ _ _ _ h

end Go.Av
/- Code: what is asked is enough. -/
namespace Go.Av
open Go.RowKit (Below)

variable {P : Program} {X : Ctx} {N : Nat}

theorem look_append (u t : Tmps) (i : Nat) (h : ∀ p ∈ u, p.1 ≠ i) : look (u ++ t) i = look t i := by
  induction u with
  | nil => rfl
  | cons p u ih =>
    obtain ⟨k, x⟩ := p
    rw [List.cons_append, look_cons_ne _ _ (h (k, x) (by simp))]
    exact ih (fun q hq => h q (by simp [hq]))

theorem zipT_mem {ss : List Nat} {vs : List AV} {p : Nat × AV} (h : p ∈ zipT ss vs) : p.1 ∈ ss := by
  induction ss generalizing vs with
  | nil => simp [zipT] at h
  | cons i ss ih =>
    cases vs with
    | nil => simp [zipT] at h
    | cons x vs =>
      simp only [zipT, List.mem_cons] at h
      rcases h with rfl | h
      · simp
      · exact List.mem_cons_of_mem _ (ih h)

theorem deads_mem {D : List Nat} {p : Nat × AV} (h : p ∈ deads D) : p.1 ∈ D := by
  induction D with
  | nil => simp [deads] at h
  | cons i D ih =>
    simp only [deads, List.mem_cons] at h
    rcases h with rfl | h
    · simp
    · exact List.mem_cons_of_mem _ (ih h)

theorem look_deads {D : List Nat} {t : Tmps} {i : Nat} (h : i ∈ D) : look (deads D ++ t) i = .dead := by
  induction D with
  | nil => simp at h
  | cons k D ih =>
    simp only [deads, List.cons_append]
    by_cases hk : k = i
    · subst hk; rw [look_cons_eq]
    · rw [look_cons_ne _ _ hk]
      exact ih ((List.mem_cons.1 h).resolve_left (fun e => hk e.symm))

/-- the temporaries at a loop's head -/
theorem head_other {ss D : List Nat} {vs : List AV} {t : Tmps} {i : Nat} (hs : (ss.all fun i => D.contains i) = true) (h : i ∉ D) : look (zipT ss vs ++ (deads D ++ t)) i = look t i := by
  have hss : i ∉ ss := fun hi => h (by simpa using (List.all_eq_true.1 hs) i hi)
  have h1 : look (zipT ss vs ++ (deads D ++ t)) i = look (deads D ++ t) i := look_append _ _ i (fun p hp e => hss (e ▸ zipT_mem hp))
  have h2 : look (deads D ++ t) i = look t i := look_append _ _ i (fun p hp e => h (e ▸ deads_mem hp))
  rw [h1, h2]

theorem vcg_frame : ∀ (c : MCode) (Q : WP) (t : Tmps) (m : Mem) (n : Nat), vcg P c Q t m n → vcg P c (fun e t' m' n' => Q e t' m' n' ∧ ∀ i, i ∉ asg c → look t' i = look t i) t m n := by
  intro c
  induction c with
  | skip => intro Q t m n h; exact ⟨h, fun _ _ => rfl⟩
  | reg is => intro Q t m n h; exact vregs_frame is _ _ _ h
  | draw is => intro Q t m n h; exact vregsD_frame is _ _ _ h
  | drawc is cs =>
    intro Q t m n h
    exact vregsD_mono (fun t' m' n' hh => ⟨hh.1.1, hh.1.2, hh.2⟩) is _ _ _ (vregsD_frame is _ _ _ h)
  | drawy is cs zs =>
    intro Q t m n h
    exact vregsD_mono (fun t' m' n' hh => ⟨hh.1.1, hh.1.2, hh.2⟩) is _ _ _ (vregsD_frame is _ _ _ h)
  | seq a b iha ihb =>
    intro Q t m n h
    refine vcg_mono a _ _ _ _ _ (fun e t' m' n' hh => ?_) (iha _ _ _ _ h)
    cases e with
    | norm =>
      refine vcg_mono _ _ _ _ _ _ (fun e' t2 m2 n2 h2 => ⟨h2.1, fun i hi => ?_⟩) (ihb _ _ _ _ hh.1)
      simp only [asg, List.mem_append, not_or] at hi
      rw [h2.2 i hi.2, hh.2 i hi.1]
    | ex id => exact ⟨hh.1, fun i hi => hh.2 i (fun h => hi (by simp [asg, h]))⟩
    | ret => exact ⟨hh.1, fun i hi => hh.2 i (fun h => hi (by simp [asg, h]))⟩
  | cond c a b iha ihb =>
    intro Q t m n h
    simp only [vcg] at h ⊢
    split at h
    · exact ⟨fun hc => vcg_mono _ _ _ _ _ _ (fun e t' m' n' hh => ⟨hh.1, fun i hi => hh.2 i (fun h => hi (by simp [asg, h]))⟩) (iha _ _ _ _ (h.1 hc)),
        fun hc => vcg_mono _ _ _ _ _ _ (fun e t' m' n' hh => ⟨hh.1, fun i hi => hh.2 i (fun h => hi (by simp [asg, h]))⟩) (ihb _ _ _ _ (h.2 hc))⟩
    · exact h.elim
  | block id b ih =>
    intro Q t m n h
    refine vcg_mono b _ _ _ _ _ (fun e t' m' n' hh => ?_) (ih _ _ _ _ h)
    cases e with
    | ex id' =>
      obtain ⟨h1, h2⟩ := hh
      simp only at h1 ⊢
      by_cases hid : id' = id
      · rw [if_pos hid] at h1 ⊢; exact ⟨h1, h2⟩
      · rw [if_neg hid] at h1 ⊢; exact ⟨h1, h2⟩
    | norm => exact hh
    | ret => exact hh
  | loop b ih =>
    intro Q t m n h
    obtain ⟨ι, ss, vs, ob, r, inv, μ, h0, h1, h2⟩ := h
    refine ⟨ι, ss, vs, ob, r, inv, μ, h0, h1, fun x hx => vcg_mono _ _ _ _ _ _ (fun e t' m' n' hh => ?_) (ih _ _ _ _ (h2 x hx))⟩
    cases e with
    | norm => exact hh.1
    | ex id => exact ⟨hh.1, fun i hi => by rw [hh.2 i hi]; exact head_other h0 hi⟩
    | ret => exact ⟨hh.1, fun i hi => by rw [hh.2 i hi]; exact head_other h0 hi⟩
  | fz L b ih =>
    intro Q t m n h
    obtain ⟨ks, h1, h2⟩ := h
    refine ⟨ks, h1, vcg_mono _ _ _ _ _ _ (fun e t' m' n' hh => ⟨hh.1, fun i hi => ?_⟩) (ih _ _ _ _ h2)⟩
    simp only [asg, List.mem_append, not_or] at hi
    rw [hh.2 i hi.2, look_fzT]
    exact fzKeep_look h1 hi.1
  | gv L b ih =>
    intro Q t m n h
    refine vcg_mono b _ _ _ _ _ (fun e t' m' n' hh => ?_) (ih _ _ _ _ h)
    cases e with
    | norm => exact gvVC_mono hh.1 (fun m h => ⟨h, hh.2⟩)
    | ex id => exact hh
    | ret => exact hh
  | exit id => intro Q t m n h; exact ⟨h, fun _ _ => rfl⟩
  | ret => intro Q t m n h; exact ⟨h, fun _ _ => rfl⟩

/-- the places at a loop's head -/
def headκ (n : Nat) (rho : List (Option Nat)) (κ : Nat → Option Loc) (k : Nat) : Option Loc :=
  if k < n then κ k else match rho[k - n]? with
    | some (some k') => κ k'
    | some none => some ⟨0, 0, 0, 0, 0, true, fun _ => none⟩
    | none => none

variable {w : World} {S : Nat → Prop} {κ : Nat → Option Loc} {n : Nat} {rho : List (Option Nat)}

theorem Sub_R : (∀ (h s : AV) (v : Value), Sub n rho h s → R w S κ s v → R w S (headκ n rho κ) h v) ∧
    (∀ (xs ys : List AV), SubL n rho xs ys → xs.length = ys.length ∧ ∀ (i : Nat) x, xs[i]? = some x → ∃ y, ys[i]? = some y ∧ ∀ v, R w S κ y v → R w S (headκ n rho κ) x v) := by
  have r0 : ∀ {s : AV} {v : Value}, R0 w S s v → R w S (headκ n rho κ) s v := fun h => .base h
  have key : ∀ h : AV, ∀ (s : AV) (v : Value), Sub n rho h s → R w S κ s v → R w S (headκ n rho κ) h v := by
    intro h
    refine AV.rec (motive_1 := fun h => ∀ (s : AV) (v : Value), Sub n rho h s → R w S κ s v → R w S (headκ n rho κ) h v)
      (motive_2 := fun xs => ∀ ys : List AV, SubL n rho xs ys → xs.length = ys.length ∧ ∀ (i : Nat) x, xs[i]? = some x → ∃ y, ys[i]? = some y ∧ ∀ v, R w S κ y v → R w S (headκ n rho κ) x v)
      (motive_3 := fun _ => True) (motive_4 := fun _ => True) ?_ ?_ ?_ ?_ ?_ ?_ ?_ ?_ ?_ ?_ ?_ ?_ ?_ ?_ ?_ ?_ ?_ h
    · intro x s v hs hr; simp only [Sub] at hs; subst hs; cases hr with | base h => exact .base h
    · intro xs ih s v hs hr
      simp only [Sub] at hs
      split at hs
      · rename_i ys
        obtain ⟨vs, rfl, hl, h2⟩ := hr.agg_inv
        obtain ⟨g1, g2⟩ := ih ys hs
        refine .agg (by omega) (fun i x y hx hy => ?_)
        obtain ⟨y', hy', g3⟩ := g2 i x hx
        exact g3 y (h2 i y' y hy' hy)
      · exact hs.elim
    · intro xs ih s v hs hr
      simp only [Sub] at hs
      split at hs
      · rename_i ys
        obtain ⟨vs, rfl, hl, h2⟩ := hr.tup_inv
        obtain ⟨g1, g2⟩ := ih ys hs
        refine .tup (by omega) (fun i x y hx hy => ?_)
        obtain ⟨y', hy', g3⟩ := g2 i x hx
        exact g3 y (h2 i y' y hy' hy)
      · exact hs.elim
    · intro sz xs _ s v hs hr; simp only [Sub] at hs; subst hs; cases hr with | base h => exact .base h
    · intro xs _ s v hs hr; simp only [Sub] at hs; subst hs; cases hr with | base h => exact .base h
    · intro f xs ih s v hs hr
      simp only [Sub] at hs
      split at hs
      · rename_i g ys
        obtain ⟨rfl, hs⟩ := hs
        obtain ⟨vs, rfl, hl, h2⟩ := hr.fn_inv
        obtain ⟨g1, g2⟩ := ih ys hs
        refine .fn (by omega) (fun i x y hx hy => ?_)
        obtain ⟨y', hy', g3⟩ := g2 i x hx
        exact g3 y (h2 i y' y hy' hy)
      · exact hs.elim
    · intro k off s v hs hr
      simp only [Sub] at hs
      split at hs
      · rename_i hk
        subst hs
        obtain ⟨l, hl, rfl⟩ := hr.ptr_inv
        exact .ptr (by simp [headκ, hk, hl])
      · rename_i hk
        split at hs
        · rename_i k' hrho
          subst hs
          obtain ⟨l, hl, rfl⟩ := hr.ptr_inv
          exact .ptr (by simp [headκ, hk, hrho, hl])
        · exact hs.elim
    · intro k off len s v hs hr
      simp only [Sub] at hs
      have go : ∀ k', s = .arr k' off len → headκ n rho κ k = κ k' → R w S (headκ n rho κ) (.arr k off len) v := fun k' he hκ => by
        subst he
        cases hr with
        | base h => cases h
        | arrNil hk hn => exact .arrNil (hκ.trans hk) hn
        | arr hk hn h1 h2 h3 => exact .arr (hκ.trans hk) hn h1 h2 h3
        | arr0 hk => exact .arr0 (hκ.trans hk)
      split at hs
      · rename_i hk; exact go k hs (by simp [headκ, hk])
      · rename_i hk
        split at hs
        · rename_i k' hrho; exact go k' hs (by simp [headκ, hk, hrho])
        · rename_i hrho
          obtain ⟨rfl, rfl, rfl⟩ := hs
          rw [hr.v_inv]
          exact .arrNil (l := ⟨0, 0, 0, 0, 0, true, fun _ => none⟩) (by simp [headκ, hk, hrho]) rfl
        · exact hs.elim
    · intro k i j s v hs hr; simp only [Sub] at hs
    · intro k s v hs hr
      simp only [Sub] at hs
      have go : ∀ k', s = .mp k' → headκ n rho κ k = κ k' → R w S (headκ n rho κ) (.mp k) v := fun k' he hκ => by
        subst he
        cases hr with
        | base h => cases h
        | mp hk hn => exact .mp (hκ.trans hk) hn
      split at hs
      · rename_i hk; exact go k hs (by simp [headκ, hk])
      · rename_i hk
        split at hs
        · rename_i k' hrho; exact go k' hs (by simp [headκ, hk, hrho])
        · exact hs.elim
    · intro es _ s v hs hr; simp only [Sub] at hs; subst hs; cases hr with | base h => exact .base h
    · intro s v hs hr; exact .base (.dead _)
    · intro ys hs; simp only [SubL] at hs; subst hs; simp
    · intro x xs ihx ihxs ys hs
      cases ys with
      | nil => simp [SubL] at hs
      | cons y ys =>
        simp only [SubL] at hs
        obtain ⟨g1, g2⟩ := ihxs ys hs.2
        refine ⟨by simp [g1], fun i z hz => ?_⟩
        cases i with
        | zero => simp at hz; subst hz; exact ⟨y, by simp, fun v hv => ihx y v hs.1 hv⟩
        | succ i => simpa using g2 i z (by simpa using hz)
    all_goals (intros; trivial)
  refine ⟨key, fun xs => ?_⟩
  induction xs with
  | nil => intro ys hs; simp only [SubL] at hs; subst hs; simp
  | cons x xs ih =>
    intro ys hs
    cases ys with
    | nil => simp [SubL] at hs
    | cons y ys =>
      simp only [SubL] at hs
      obtain ⟨g1, g2⟩ := ih ys hs.2
      refine ⟨by simp [g1], fun i z hz => ?_⟩
      cases i with
      | zero => simp at hz; subst hz; exact ⟨y, by simp, fun v hv => key x y v hs.1 hv⟩
      | succ i => simpa using g2 i z (by simpa using hz)

end Go.Av
