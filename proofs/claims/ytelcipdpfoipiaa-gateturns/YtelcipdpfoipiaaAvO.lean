/- Regions that draw their order: the theorem. -/
import Derived.Test.YtelcipdpfoipiaaAvN
namespace Go.Av

variable {P : Program} {w w' : World} {S S' Sc : Nat → Prop} {κ κ' : Nat → Option Loc} {m m' : Mem} {n N : Nat} {F : Nat → Prop} {t t' : Tmps} {a : Act} {X : Ctx}
  {Q : Exit → Act → World → Prop} {K : AV → Mem → Prop}

def slotOf : Opd → Option Nat
  | .t s => some s
  | .c _ => none

def slotsOf (i : MI) : List Nat := (opnds i.op).filterMap slotOf ++ (match i.g with | some (s, _) => [s] | none => [])

def rdI (i : MI) : Bool := rdM i.op
def wrI (i : MI) : Bool := wrM i.op

/-- two operations whose order matters: by the temporaries; by the objects -/
def slotConf (i j : MI) : Bool :=
  (match i.d with | some d => (slotsOf j).contains d || j.d == some d | none => false) ||
  (match j.d with | some d => (slotsOf i).contains d | none => false)
def memConf (i j : MI) : Bool := (wrI i && (rdI j || wrI j)) || (rdI i && wrI j)

def direct (ops : Array Oper) (j : Nat) : List Nat :=
  match ops[j]? with
  | some o => (o.after.toList.filter (Region.binds .any)).map (·.on)
  | none => []

/-- all that comes before those of a list, each looked at once -/
def preW (ops : Array Oper) : Nat → List Nat → List Nat → List Nat
  | 0, acc, _ => acc
  | f + 1, acc, todo => match todo with
    | [] => acc
    | j :: r => bif acc.contains j then preW ops f acc r else preW ops f (j :: acc) (direct ops j ++ r)
def pre (ops : Array Oper) (f j : Nat) : List Nat := preW ops (f * f + f) [] (direct ops j)

def constOk (i : MI) : Bool := (opnds i.op).all fun | .c v => (keysIn v).isEmpty | .t _ => true

/-- all that matters is ordered by the text's own edges, but the objects of the pairs cs -/
def drawOkC (ops : Array Oper) (is : List MI) (cs : List (Nat × Nat)) : Bool :=
  is.all constOk && (List.range is.length).all fun j => ((direct ops j).all fun e => e < j) &&
    (let p := pre ops is.length j
     (List.range j).all fun i => match is[i]?, is[j]? with
      | some a, some b => (!slotConf a b || p.contains i) && (!memConf a b || p.contains i || cs.contains (i, j))
      | _, _ => true)

def drawOk (ops : Array Oper) (is : List MI) : Bool := drawOkC ops is []

def dOf (is : List MI) (j : Nat) : Option Nat := (is[j]?).bind (·.d)

/-- what an operation looks at stands from then on -/
def stableI (is : List MI) (i : Nat) : Bool :=
  (List.range is.length).all fun q => q < i || (match is[i]?, dOf is q with
    | some a, some d => !(slotsOf a).contains d
    | _, _ => true)
def stableC (is : List MI) (cs : List (Nat × Nat)) : Bool := cs.all fun p => stableI is p.1 && stableI is p.2

def flags (ops : Array Oper) (is : List MI) : List (Nat × Nat) :=
  (List.range is.length).flatMap fun j => (List.range j).filterMap fun i => match is[i]?, is[j]? with
    | some a, some b => bif memConf a b && !(pre ops is.length j).contains i then some (i, j) else none
    | _, _ => none

/-- the keys that an operation is given -/
def opKeys (t : Tmps) (is : List MI) (i : Nat) : List Nat :=
  match is[i]? with
  | some a => keysInL (evs t (opnds a.op))
  | none => []
def deepAt (is : List MI) (i : Nat) : Bool :=
  match is[i]? with
  | some a => deepM a.op
  | none => false
/-- what leads to what, now or before -/
def shp : Mem → List (Nat × List Nat)
  | [] => []
  | (k, o) :: r => (k, bk o) :: shp r
def hstep (ks : List Nat) : List (Nat × List Nat) → List Nat
  | [] => []
  | (k, l) :: r => bif ks.contains k then l ++ hstep ks r else hstep ks r
def hch (s : List (Nat × List Nat)) : Nat → List Nat → List Nat
  | 0, ks => ks
  | f + 1, ks => ks ++ hch s f (hstep ks s)
def led (b : Bool) (s : List (Nat × List Nat)) (ks : List Nat) : List Nat := bif b then hch s 3 ks else ks
/-- the keys of the two, as far as the region has written them, are apart (L: how long the memory was before) -/
def pairOk (b1 b2 : Bool) (s : List (Nat × List Nat)) (L : Nat) (k1 k2 : List Nat) : Bool :=
  (led b1 s k1).all fun k => !(led b2 s k2).contains k || !((s.take (s.length - L)).map (·.1)).contains k
def apart (t : Tmps) (m : Mem) (L : Nat) (is : List MI) : List (Nat × Nat) → Prop
  | [] => True
  | (i, j) :: r => (bif deepAt is i || deepAt is j then pairOk (deepAt is i) (deepAt is j) (shp m) L (opKeys t is i) (opKeys t is j) = true
      else ((opKeys t is i).all fun k => !(opKeys t is j).contains k) = true) ∧ apart t m L is r

def toM : MOp → MOp
  | .ld none a => .ldm a
  | o => o

/-- a slice that is read out of a slice, at a place that the region itself has found -/
def rowLd (P : Program) (ops : Array Oper) (is : List MI) (j : Nat) : Bool :=
  match is[j]?, ops[j]? with
  | some ⟨_, .ld none (.t s), _⟩, some o => (match o.op with
    | .load T _ => (match P.underlying T with
      | some (.slice _) => is.any fun i => (match i.op with | .iaddr _ _ _ => i.d == some s | _ => false)
      | _ => false)
    | _ => false)
  | _, _ => false

def toX : MOp → MOp
  | .call f l => .callx f l
  | .callv g l => .callvx g l
  | o => o

/-- a call that is ordered with all else that touches memory -/
def alone (ops : Array Oper) (is : List MI) (j : Nat) : Bool :=
  (List.range is.length).all fun q => Nat.beq q j || (match is[q]? with
    | some i => !(rdI i || wrI i) || (pre ops is.length j).contains q || (pre ops is.length q).contains j
    | none => true)

/-- a call that is given an object which the region itself has made -/
def boxArg (is : List MI) (i : MI) : Bool :=
  (opnds i.op).any fun
    | .t s => is.any fun q => (match q.op with | .box _ => q.d == some s | _ => false)
    | _ => false

/-- a pointer to a struct that has a slice or a map in it -/
def deepT (P : Program) (t : TypeId) : Bool :=
  match P.underlying t with
  | some (.pointer e) => match P.underlying e with
    | some (.struct fs) => fs.any fun f => match P.underlying f.type with
      | some (.slice _) => true
      | some (.map _ _) => true
      | _ => false
    | _ => false
  | _ => false
/-- a call of a function that is given such a pointer -/
def deepCall (P : Program) (i : MI) : Bool :=
  match i.op with
  | .call f _ => match P.funcs[f]? with
    | some fn => fn.params.any (deepT P)
    | none => false
  | _ => false

def markXs (d : Bool) (ops : Array Oper) (is : List MI) : Nat → List MI → List MI
  | _, [] => []
  | j, i :: r => (bif isCall i.op && (d || alone ops is j || boxArg is i) then ⟨i.d, toX i.op, i.g⟩ else i) :: markXs d ops is (j + 1) r

def markX (P : Program) (ops : Array Oper) (is : List MI) : List MI := markXs (is.any (deepCall P)) ops is 0 is

def IsX (i0 i : MI) : Prop := i = i0 ∨ i = ⟨i0.d, toX i0.op, i0.g⟩ ∨ i = ⟨i0.d, toM i0.op, i0.g⟩

def markRs (P : Program) (ops : Array Oper) (is : List MI) : Nat → List MI → List MI
  | _, [] => []
  | j, i :: r => (bif rowLd P ops is j then ⟨i.d, toM i.op, i.g⟩ else i) :: markRs P ops is (j + 1) r

theorem markXs_get (d : Bool) (ops : Array Oper) (is : List MI) : ∀ (l : List MI) (j : Nat), (markXs d ops is j l).length = l.length ∧ ∀ (q : Nat) i0, l[q]? = some i0 → ∃ i, (markXs d ops is j l)[q]? = some i ∧ (i = i0 ∨ i = ⟨i0.d, toX i0.op, i0.g⟩) := by
  intro l
  induction l with
  | nil => intro j; simp [markXs]
  | cons i0 l ih =>
    intro j
    obtain ⟨h1, h2⟩ := ih (j + 1)
    refine ⟨by simp [markXs, h1], fun q i hq => ?_⟩
    cases q with
    | zero =>
      simp at hq; subst hq
      refine ⟨_, rfl, ?_⟩
      cases isCall i0.op && (d || alone ops is j || boxArg is i0) with
      | true => exact .inr rfl
      | false => exact .inl rfl
    | succ q => simpa [markXs] using h2 q i (by simpa using hq)

/-- calls that are ordered with all else, rows that are taken out -/
def markM (P : Program) (ops : Array Oper) (is : List MI) : List MI := markRs P ops is 0 (markX P ops is)

theorem toM_toX (i0 : MI) : (⟨i0.d, toM (toX i0.op), i0.g⟩ : MI) = ⟨i0.d, toX i0.op, i0.g⟩ ∨ (⟨i0.d, toM (toX i0.op), i0.g⟩ : MI) = ⟨i0.d, toM i0.op, i0.g⟩ := by
  obtain ⟨d, op, g⟩ := i0
  cases op <;> first | exact .inr rfl | exact .inl rfl

theorem markRs_get (ops : Array Oper) (is : List MI) : ∀ (l l0 : List MI) (j : Nat), l.length = l0.length → (∀ (q : Nat) i0, l0[q]? = some i0 → ∃ i, l[q]? = some i ∧ (i = i0 ∨ i = ⟨i0.d, toX i0.op, i0.g⟩)) →
    (markRs P ops is j l).length = l0.length ∧ ∀ (q : Nat) i0, l0[q]? = some i0 → ∃ i, (markRs P ops is j l)[q]? = some i ∧ IsX i0 i := by
  intro l
  induction l with
  | nil => intro l0 j hl _; cases l0 <;> simp at hl ⊢; simp [markRs]
  | cons i l ih =>
    intro l0 j hl hh
    cases l0 with
    | nil => simp at hl
    | cons i0 l0 =>
      obtain ⟨h1, h2⟩ := ih l0 (j + 1) (by simpa using hl) (fun q i1 hq => by
        have := hh (q + 1) i1 (by simpa using hq)
        simpa using this)
      refine ⟨by simp [markRs, h1], fun q i1 hq => ?_⟩
      cases q with
      | zero =>
        simp at hq; subst hq
        obtain ⟨i2, h3, h4⟩ := hh 0 i0 rfl
        simp at h3; subst h3
        refine ⟨_, rfl, ?_⟩
        cases rowLd P ops is j with
        | true =>
          rcases h4 with rfl | rfl
          · exact .inr (.inr rfl)
          · rcases toM_toX i0 with hx | hx
            · exact .inr (.inl hx)
            · exact .inr (.inr hx)
        | false =>
          rcases h4 with rfl | rfl
          · exact .inl rfl
          · exact .inr (.inl rfl)
      | succ q => simpa [markRs] using h2 q i1 (by simpa using hq)

def tT (is : List MI) (x : Nat → AV) (t0 : Tmps) : Nat → Tmps
  | 0 => t0
  | j + 1 => putT (dOf is j) (x j) (tT is x t0 j)

def mT (u : Nat → Mem) (m0 : Mem) : Nat → Mem
  | 0 => m0
  | j + 1 => u j ++ mT u m0 j

/-- an operation with its guard, exactly -/
def StepD (P : Program) (i : MI) (t : Tmps) (m : Mem) (n : Nat) (x : AV) (u : Mem) : Prop :=
  vinsD P i (Ex x u) t m n ∧ Wr i.op t m n u

theorem vinsD_local {i : MI} (hs : ∀ s ∈ slotsOf i, look t' s = look t s) (hm : rdI i = true → ∀ k, TK i.op t m k → ∀ o, lookM m k = some o → lookM m' k = some o)
    (h : vinsD P i K t m n) : vinsD P i K t' m' n := by
  obtain ⟨d, op, g⟩ := i
  have hop : ∀ x ∈ opnds op, ev t' x = ev t x := fun x hx => by
    cases x with
    | t s => exact hs s (by simp only [slotsOf, List.mem_append, List.mem_filterMap]; exact .inl ⟨.t s, hx, rfl⟩)
    | c v => rfl
  cases g with
  | none => exact vrunD_local hop hm h
  | some sw =>
    obtain ⟨s, want⟩ := sw
    simp only [vinsD] at h ⊢
    rw [hs s (by simp [slotsOf])]
    split at h
    · exact ⟨fun hb => vrunD_local hop hm (h.1 hb), h.2⟩
    · exact h
    · exact h.elim

theorem TK_same {op : MOp} {k : Nat} (ht : ∀ y ∈ opnds op, ev t' y = ev t y) (h : TK op t' m k) : TK op t m k := by
  rcases h with ⟨y, hy, hk⟩ | ⟨h, hk⟩
  · exact .inl ⟨y, hy, by rwa [ht y hy] at hk⟩
  · exact .inr ⟨h, by rwa [evs_congr ht] at hk⟩

theorem Wr_same {op : MOp} {u : Mem} (ht : ∀ s, look t' s = look t s) (h : Wr op t' m n u) : Wr op t m n u := by
  intro p hp
  rcases h p hp with h1 | ⟨h1, hk, h3⟩
  · exact .inl h1
  · exact .inr ⟨h1, TK_same (fun y _ => by cases y with
      | t s => exact ht s
      | c v => rfl) hk, h3⟩

theorem StepD_same {i : MI} {x : AV} {u : Mem} (ht : ∀ s, look t' s = look t s) (h : StepD P i t' m n x u) : StepD P i t m n x u :=
  ⟨vinsD_local (fun s _ => (ht s).symm) (fun _ _ _ _ ho => ho) h.1, Wr_same ht h.2⟩

theorem vstepD_exact {i : MI} {K : AV → Mem → Tmps → Prop} (h : vstepD P i K t m n) : ∃ x u t2, K x u t2 ∧ (∀ s, look t2 s = look t s) ∧ StepD P i t m n x u := by
  obtain ⟨d, op, g⟩ := i
  cases g with
  | none =>
    obtain ⟨x, u, h1, h2, h3⟩ := vrunD_exact h
    exact ⟨x, u, t, h1, fun _ => rfl, h2, h3⟩
  | some sw =>
    obtain ⟨s, want⟩ := sw
    simp only [vstepD] at h
    split at h
    · rename_i b e
      by_cases hb : b = want
      · obtain ⟨x, u, h1, h2, h3⟩ := vrunD_exact (h.1 hb)
        have hs := look_same (t := t) (s := s) (x := .v (.bool want)) (by rw [e, hb])
        refine ⟨x, u, _, h1, hs, ?_, Wr_same hs h3⟩
        simp only [vinsD, e]
        refine ⟨fun _ => vrunD_local (fun y _ => ?_) (fun _ _ _ _ ho => ho) h2, fun hn => by subst hb; cases b <;> cases hn⟩
        cases y with
        | t q => exact (hs q).symm
        | c v => rfl
      · have hb' := bool_ne hb
        refine ⟨_, _, _, h.2 hb', look_same (by rw [e, hb']), ?_, Wr_nil⟩
        simp only [vinsD, e]
        exact ⟨fun hh => (hb hh).elim, fun _ => ⟨rfl, rfl⟩⟩
    · rename_i vs e
      refine ⟨_, _, _, h, fun _ => rfl, ?_, Wr_nil⟩
      simp only [vinsD, e]
      exact ⟨rfl, rfl⟩
    · exact h.elim

theorem tT_cons (i : MI) (is : List MI) (x0 : AV) (x : Nat → AV) (t0 : Tmps) : ∀ j, tT (i :: is) (fun | 0 => x0 | j + 1 => x j) t0 (j + 1) = tT is x (putT i.d x0 t0) j
  | 0 => rfl
  | j + 1 => by
    have := tT_cons i is x0 x t0 j
    rw [tT, this]
    simp [tT, dOf]

theorem mT_cons (u0 : Mem) (u : Nat → Mem) (m0 : Mem) : ∀ j, mT (fun | 0 => u0 | j + 1 => u j) m0 (j + 1) = mT u (u0 ++ m0) j
  | 0 => rfl
  | j + 1 => by
    have := mT_cons u0 u m0 j
    rw [mT, this]
    simp [mT]

theorem table {K : Tmps → Mem → Nat → Prop} : ∀ (is : List MI) (t t' : Tmps) (m : Mem) (n : Nat), (∀ s, look t' s = look t s) → vregsD P is K t' m n →
    ∃ (x : Nat → AV) (u : Nat → Mem) (t'' : Tmps), (∀ (j : Nat) i, is[j]? = some i → StepD P i (tT is x t j) (mT u m j) (n + j) (x j) (u j)) ∧
      (∀ s, look t'' s = look (tT is x t is.length) s) ∧ K t'' (mT u m is.length) (n + is.length) := by
  intro is
  induction is with
  | nil => intro t t' m n ht h; exact ⟨fun _ => .dead, fun _ => [], t', fun j i hj => by simp at hj, ht, h⟩
  | cons i is ih =>
    intro t t' m n ht h
    obtain ⟨x0, u0, t2, h1, ht2, h2⟩ := vstepD_exact h
    obtain ⟨x, u, t'', h3, ht3, h4⟩ := ih (putT i.d x0 t) (putT i.d x0 t2) _ _ (fun s => by
      cases i.d with
      | none => simp only [putT]; rw [ht2, ht]
      | some d =>
        simp only [putT]
        by_cases hd : d = s
        · subst hd; rw [look_cons_eq, look_cons_eq]
        · rw [look_cons_ne _ _ hd, look_cons_ne _ _ hd, ht2, ht]) h1
    refine ⟨fun | 0 => x0 | j + 1 => x j, fun | 0 => u0 | j + 1 => u j, t'', fun j i' hj => ?_, ?_, ?_⟩
    · cases j with
      | zero => simp at hj; subst hj; exact StepD_same ht h2
      | succ j =>
        rw [tT_cons, mT_cons]
        have := h3 j i' (by simpa using hj)
        rwa [show n + 1 + j = n + (j + 1) by omega] at this
    · simp only [List.length_cons]
      rw [tT_cons]; exact ht3
    · simp only [List.length_cons]
      rw [mT_cons]
      rwa [show n + 1 + is.length = n + (is.length + 1) by omega] at h4

/-- what a temporary holds when the operations E have been carried out -/
def valT (is : List MI) (x : Nat → AV) (t0 : Tmps) (E : Nat → Bool) : Nat → Nat → AV
  | 0, s => look t0 s
  | j + 1, s => if E j = true ∧ dOf is j = some s then x j else valT is x t0 E j s

def lookU : Mem → Nat → Option (Option MObj)
  | [], _ => none
  | (k', v) :: r, k => if k' = k then some v else lookU r k

def valM (u : Nat → Mem) (m0 : Mem) (E : Nat → Bool) : Nat → Nat → Option MObj
  | 0, k => lookM m0 k
  | j + 1, k => if E j = true then (lookU (u j) k).getD (valM u m0 E j k) else valM u m0 E j k

theorem look_putT (d : Option Nat) (x : AV) (t : Tmps) (s : Nat) : look (putT d x t) s = if d = some s then x else look t s := by
  cases d with
  | none => simp [putT]
  | some d =>
    simp only [putT, Option.some.injEq]
    by_cases h : d = s
    · subst h; rw [look_cons_eq, if_pos rfl]
    · rw [look_cons_ne _ _ h, if_neg h]

theorem lookM_append (u m : Mem) (k : Nat) : lookM (u ++ m) k = (lookU u k).getD (lookM m k) := by
  induction u with
  | nil => simp [lookU]
  | cons p u ih =>
    obtain ⟨k', v⟩ := p
    simp only [List.cons_append, lookU]
    by_cases h : k' = k
    · subst h; rw [lookM_cons_eq, if_pos rfl]; rfl
    · rw [lookM_cons_ne _ _ h, if_neg h]; exact ih

theorem lookU_mem {u : Mem} {k : Nat} (h : lookU u k ≠ none) : ∃ p ∈ u, p.1 = k := by
  induction u with
  | nil => simp [lookU] at h
  | cons p u ih =>
    obtain ⟨k', v⟩ := p
    simp only [lookU] at h
    by_cases hk : k' = k
    · exact ⟨(k', v), by simp, hk⟩
    · rw [if_neg hk] at h
      obtain ⟨q, hq, h⟩ := ih h
      exact ⟨q, by simp [hq], h⟩

theorem tT_val (is : List MI) (x : Nat → AV) (t0 : Tmps) (s : Nat) : ∀ j, look (tT is x t0 j) s = valT is x t0 (fun _ => true) j s
  | 0 => rfl
  | j + 1 => by simp only [tT, valT, look_putT, tT_val is x t0 s j]; simp

theorem mT_val (u : Nat → Mem) (m0 : Mem) (k : Nat) : ∀ j, lookM (mT u m0 j) k = valM u m0 (fun _ => true) j k
  | 0 => rfl
  | j + 1 => by simp only [mT, valM, lookM_append, mT_val u m0 k j]; simp

theorem valT_congr {is : List MI} {x : Nat → AV} {t0 : Tmps} {E E' : Nat → Bool} {s : Nat} : ∀ j, (∀ i, i < j → dOf is i = some s → E i = E' i) → valT is x t0 E j s = valT is x t0 E' j s
  | 0, _ => rfl
  | j + 1, h => by
    simp only [valT]
    rw [valT_congr j (fun i hi => h i (by omega))]
    by_cases hd : dOf is j = some s
    · rw [h j (by omega) hd]
    · simp [hd]

theorem valM_congr {u : Nat → Mem} {m0 : Mem} {E E' : Nat → Bool} {k : Nat} : ∀ j, (∀ i, i < j → lookU (u i) k ≠ none → E i = E' i) → valM u m0 E j k = valM u m0 E' j k
  | 0, _ => rfl
  | j + 1, h => by
    simp only [valM]
    rw [valM_congr j (fun i hi => h i (by omega))]
    by_cases hd : lookU (u j) k = none
    · simp [hd]
    · rw [h j (by omega) hd]

/-- nothing above j counts -/
theorem valT_above {is : List MI} {x : Nat → AV} {t0 : Tmps} {E : Nat → Bool} {s j : Nat} : ∀ l, j ≤ l → (∀ i, j ≤ i → i < l → dOf is i = some s → E i = false) → valT is x t0 E l s = valT is x t0 E j s
  | 0, h, _ => by have : j = 0 := by omega
                  subst this; rfl
  | l + 1, h, hE => by
    by_cases hj : j = l + 1
    · subst hj; rfl
    · simp only [valT]
      rw [if_neg (fun hh => by have := hE l (by omega) (by omega) hh.2; rw [this] at hh; cases hh.1)]
      exact valT_above l (by omega) (fun i h1 h2 => hE i h1 (by omega))

theorem valM_above {u : Nat → Mem} {m0 : Mem} {E : Nat → Bool} {k j : Nat} : ∀ l, j ≤ l → (∀ i, j ≤ i → i < l → lookU (u i) k ≠ none → E i = false) → valM u m0 E l k = valM u m0 E j k
  | 0, h, _ => by have : j = 0 := by omega
                  subst this; rfl
  | l + 1, h, hE => by
    by_cases hj : j = l + 1
    · subst hj; rfl
    · simp only [valM]
      rw [valM_above l (by omega) (fun i h1 h2 => hE i h1 (by omega))]
      by_cases hd : lookU (u l) k = none
      · simp [hd]
      · rw [hE l (by omega) (by omega) hd]; simp

end Go.Av
