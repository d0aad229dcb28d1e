/- Regions that draw their order: the theorem. -/
import Derived.Test.YtblakcgmngdhmaaAvN
namespace Go.Av

variable {P : Program} {w w' : World} {S S' Sc : Nat → Prop} {κ κ' : Nat → Option Loc} {m m' : Mem} {n N : Nat} {F : Nat → Prop} {t t' : Tmps} {a : Act} {X : Ctx}
  {Q : Exit → Act → World → Prop} {K : AV → Mem → Prop}

def slotOf : Opd → Option Nat
  | .t s => some s
  | .c _ => none

def slotsOf (i : MI) : List Nat := (opnds i.op).filterMap slotOf ++ (match i.g with | some (s, _) => [s] | none => [])

def rdI (i : MI) : Bool := rdM i.op
def wrI (i : MI) : Bool := wrM i.op

/-- two operations whose order matters: by the temporaries; by the objects -/
def slotConf (i j : MI) : Bool :=
  (match i.d with | some d => (slotsOf j).contains d || j.d == some d | none => false) ||
  (match j.d with | some d => (slotsOf i).contains d | none => false)
def memConf (i j : MI) : Bool := (wrI i && (rdI j || wrI j)) || (rdI i && wrI j)

def direct (ops : Array Oper) (j : Nat) : List Nat :=
  match ops[j]? with
  | some o => (o.after.toList.filter (Region.binds .any)).map (·.on)
  | none => []

/-- all that comes before those of a list, each looked at once -/
def preW (ops : Array Oper) : Nat → List Nat → List Nat → List Nat
  | 0, acc, _ => acc
  | f + 1, acc, todo => match todo with
    | [] => acc
    | j :: r => bif acc.contains j then preW ops f acc r else preW ops f (j :: acc) (direct ops j ++ r)
def pre (ops : Array Oper) (f j : Nat) : List Nat := preW ops (f * f + f) [] (direct ops j)

def constOk (i : MI) : Bool := (opnds i.op).all fun | .c v => (keysIn v).isEmpty | .t _ => true

/-- all that matters is ordered by the text's own edges, but the objects of the pairs cs -/
def drawOkC (ops : Array Oper) (is : List MI) (cs : List (Nat × Nat)) : Bool :=
  is.all constOk && (List.range is.length).all fun j => ((direct ops j).all fun e => e < j) &&
    (let p := pre ops is.length j
     (List.range j).all fun i => match is[i]?, is[j]? with
      | some a, some b => (!slotConf a b || p.contains i) && (!memConf a b || p.contains i || cs.contains (i, j))
      | _, _ => true)

def drawOk (ops : Array Oper) (is : List MI) : Bool := drawOkC ops is []

def dOf (is : List MI) (j : Nat) : Option Nat := (is[j]?).bind (·.d)

/-- what an operation looks at stands from then on -/
def stableI (is : List MI) (i : Nat) : Bool :=
  (List.range is.length).all fun q => q < i || (match is[i]?, dOf is q with
    | some a, some d => !(slotsOf a).contains d
    | _, _ => true)
def stableC (is : List MI) (cs : List (Nat × Nat)) : Bool := cs.all fun p => stableI is p.1 && stableI is p.2

def flags (ops : Array Oper) (is : List MI) : List (Nat × Nat) :=
  (List.range is.length).flatMap fun j => (List.range j).filterMap fun i => match is[i]?, is[j]? with
    | some a, some b => bif memConf a b && !(pre ops is.length j).contains i then some (i, j) else none
    | _, _ => none

/-- the keys that an operation is given -/
def opKeys (t : Tmps) (is : List MI) (i : Nat) : List Nat :=
  match is[i]? with
  | some a => keysInL (evs t (opnds a.op))
  | none => []
def deepAt (is : List MI) (i : Nat) : Bool :=
  match is[i]? with
  | some a => deepM a.op
  | none => false
/-- what leads to what, now or before -/
def shp : Mem → List (Nat × List Nat)
  | [] => []
  | (k, o) :: r => (k, bk o) :: shp r
def hstep (ks : List Nat) : List (Nat × List Nat) → List Nat
  | [] => []
  | (k, l) :: r => bif ks.contains k then l ++ hstep ks r else hstep ks r
def hch (s : List (Nat × List Nat)) : Nat → List Nat → List Nat
  | 0, ks => ks
  | f + 1, ks => ks ++ hch s f (hstep ks s)
def led (b : Bool) (s : List (Nat × List Nat)) (ks : List Nat) : List Nat := bif b then hch s 3 ks else ks
/-- the keys of the two, as far as the region has written them, are apart (L: how long the memory was before) -/
def pairOk (b1 b2 : Bool) (s : List (Nat × List Nat)) (L : Nat) (k1 k2 : List Nat) : Bool :=
  (led b1 s k1).all fun k => !(led b2 s k2).contains k || !((s.take (s.length - L)).map (·.1)).contains k
def apart (t : Tmps) (m : Mem) (L : Nat) (is : List MI) : List (Nat × Nat) → Prop
  | [] => True
  | (i, j) :: r => (bif deepAt is i then pairOk true (deepAt is j) (shp m) L (opKeys t is i) (opKeys t is j) = true
      else bif deepAt is j then pairOk false true (shp m) L (opKeys t is i) (opKeys t is j) = true
      else ((opKeys t is i).all fun k => !(opKeys t is j).contains k) = true) ∧ apart t m L is r

def toM : MOp → MOp
  | .ld none a => .ldm a
  | o => o

/-- a slice that is read out of a slice, at a place that the region itself has found -/
def rowLd (P : Program) (ops : Array Oper) (is : List MI) (j : Nat) : Bool :=
  match is[j]?, ops[j]? with
  | some ⟨_, .ld none (.t s), _⟩, some o => (match o.op with
    | .load T _ => (match P.underlying T with
      | some (.slice _) => is.any fun i => (match i.op with | .iaddr _ _ _ => i.d == some s | _ => false)
      | _ => false)
    | _ => false)
  | _, _ => false

def toX : MOp → MOp
  | .call f l => .callx f l
  | .callv g l => .callvx g l
  | o => o

/-- a call that is ordered with all else that touches memory -/
def alone (ops : Array Oper) (is : List MI) (j : Nat) : Bool :=
  (List.range is.length).all fun q => Nat.beq q j || (match is[q]? with
    | some i => !(rdI i || wrI i) || (pre ops is.length j).contains q || (pre ops is.length q).contains j
    | none => true)

/-- a call that is given an object which the region itself has made -/
def boxArg (is : List MI) (i : MI) : Bool :=
  (opnds i.op).any fun
    | .t s => is.any fun q => (match q.op with | .box _ => q.d == some s | _ => false)
    | _ => false

/-- a pointer to a struct that has a slice or a map in it -/
def deepT (P : Program) (t : TypeId) : Bool :=
  match P.underlying t with
  | some (.pointer e) => match P.underlying e with
    | some (.struct fs) => fs.any fun f => match P.underlying f.type with
      | some (.slice _) => true
      | some (.map _ _) => true
      | _ => false
    | _ => false
  | _ => false
/-- a call of a function that is given such a pointer -/
def deepCall (P : Program) (i : MI) : Bool :=
  match i.op with
  | .call f _ => match P.funcs[f]? with
    | some fn => fn.params.any (deepT P)
    | none => false
  | _ => false

def markXs (d : Bool) (ops : Array Oper) (is : List MI) : Nat → List MI → List MI
  | _, [] => []
  | j, i :: r => (bif isCall i.op && (d || alone ops is j || boxArg is i) then ⟨i.d, toX i.op, i.g⟩ else i) :: markXs d ops is (j + 1) r

def markX (P : Program) (ops : Array Oper) (is : List MI) : List MI := markXs (is.any (deepCall P)) ops is 0 is

/-- a call from which two new objects may come back -/
def toY (k : Nat) : MOp → MOp
  | .call f l => .cally k f l
  | o => o

def IsX (i0 i : MI) : Prop := i = i0 ∨ i = ⟨i0.d, toX i0.op, i0.g⟩ ∨ i = ⟨i0.d, toM i0.op, i0.g⟩ ∨ ∃ k, i = ⟨i0.d, toY k i0.op, i0.g⟩

def markRs (P : Program) (ops : Array Oper) (is : List MI) : Nat → List MI → List MI
  | _, [] => []
  | j, i :: r => (bif rowLd P ops is j then ⟨i.d, toM i.op, i.g⟩ else i) :: markRs P ops is (j + 1) r

theorem markXs_get (d : Bool) (ops : Array Oper) (is : List MI) : ∀ (l : List MI) (j : Nat), (markXs d ops is j l).length = l.length ∧ ∀ (q : Nat) i0, l[q]? = some i0 → ∃ i, (markXs d ops is j l)[q]? = some i ∧ (i = i0 ∨ i = ⟨i0.d, toX i0.op, i0.g⟩) := by
  intro l
  induction l with
  | nil => intro j; simp [markXs]
  | cons i0 l ih =>
    intro j
    obtain ⟨h1, h2⟩ := ih (j + 1)
    refine ⟨by simp [markXs, h1], fun q i hq => ?_⟩
    cases q with
    | zero =>
      simp at hq; subst hq
      refine ⟨_, rfl, ?_⟩
      cases isCall i0.op && (d || alone ops is j || boxArg is i0) with
      | true => exact .inr rfl
      | false => exact .inl rfl
    | succ q => simpa [markXs] using h2 q i (by simpa using hq)

/-- calls that are ordered with all else, rows that are taken out -/
def markM (P : Program) (ops : Array Oper) (is : List MI) : List MI := markRs P ops is 0 (markX P ops is)

theorem toM_toX (i0 : MI) : (⟨i0.d, toM (toX i0.op), i0.g⟩ : MI) = ⟨i0.d, toX i0.op, i0.g⟩ ∨ (⟨i0.d, toM (toX i0.op), i0.g⟩ : MI) = ⟨i0.d, toM i0.op, i0.g⟩ := by
  obtain ⟨d, op, g⟩ := i0
  cases op <;> first | exact .inr rfl | exact .inl rfl

theorem markRs_get (ops : Array Oper) (is : List MI) : ∀ (l l0 : List MI) (j : Nat), l.length = l0.length → (∀ (q : Nat) i0, l0[q]? = some i0 → ∃ i, l[q]? = some i ∧ (i = i0 ∨ i = ⟨i0.d, toX i0.op, i0.g⟩)) →
    (markRs P ops is j l).length = l0.length ∧ ∀ (q : Nat) i0, l0[q]? = some i0 → ∃ i, (markRs P ops is j l)[q]? = some i ∧ IsX i0 i := by
  intro l
  induction l with
  | nil => intro l0 j hl _; cases l0 <;> simp at hl ⊢; simp [markRs]
  | cons i l ih =>
    intro l0 j hl hh
    cases l0 with
    | nil => simp at hl
    | cons i0 l0 =>
      obtain ⟨h1, h2⟩ := ih l0 (j + 1) (by simpa using hl) (fun q i1 hq => by
        have := hh (q + 1) i1 (by simpa using hq)
        simpa using this)
      refine ⟨by simp [markRs, h1], fun q i1 hq => ?_⟩
      cases q with
      | zero =>
        simp at hq; subst hq
        obtain ⟨i2, h3, h4⟩ := hh 0 i0 rfl
        simp at h3; subst h3
        refine ⟨_, rfl, ?_⟩
        cases rowLd P ops is j with
        | true =>
          rcases h4 with rfl | rfl
          · exact .inr (.inr (.inl rfl))
          · rcases toM_toX i0 with hx | hx
            · exact .inr (.inl hx)
            · exact .inr (.inr (.inl hx))
        | false =>
          rcases h4 with rfl | rfl
          · exact .inl rfl
          · exact .inr (.inl rfl)
      | succ q => simpa [markRs] using h2 q i1 (by simpa using hq)

/-- the first call that is given a pointer to a struct with a slice or a map in it -/
def firstDeep (P : Program) : Nat → List MI → Option Nat
  | _, [] => none
  | j, i :: r => bif deepCall P i then some j else firstDeep P (j + 1) r
def markY (P : Program) (ops : Array Oper) (is : List MI) : List MI :=
  match firstDeep P 0 is with
  | none => markM P ops is
  | some j => match is[j]? with
    | some i => (markM P ops is).set j ⟨i.d, toY (is.length - j) i.op, i.g⟩
    | none => markM P ops is
/-- no operation has a second new key -/
def noY (is : List MI) : Bool := is.all fun i => (yk i.op).isNone
/-- at most one operation has a second new key, and it is the one behind the region's -/
def okY (y : Nat) (is : List MI) : Bool := (List.range is.length).all fun j => match is[j]? with
  | some i => match yk i.op with
    | none => true
    | some k => Nat.beq j y && Nat.beq (j + k) is.length
  | none => true
theorem noY_get {is : List MI} (h : noY is = true) {j : Nat} {i : MI} {k : Nat} (hi : is[j]? = some i) (hk : yk i.op = some k) : False := by
  have := (List.all_eq_true.1 h) i (List.mem_of_getElem? hi)
  rw [hk] at this; cases this
theorem okY_get {y : Nat} {is : List MI} (h : okY y is = true) {j : Nat} {i : MI} {k : Nat} (hi : is[j]? = some i) (hk : yk i.op = some k) : j = y ∧ j + k = is.length := by
  have hj := (List.getElem?_eq_some_iff.1 hi).1
  have := (List.all_eq_true.1 h) j (by simpa using hj)
  rw [hi] at this
  simp only [hk, Bool.and_eq_true] at this
  exact ⟨Nat.eq_of_beq_eq_true this.1, Nat.eq_of_beq_eq_true this.2⟩

/-- the cell off of the struct k is c all along -/
def sameC : Nat → Mem → Nat → Nat → AV → Prop
  | 0, m, k, off, c => match lookM m k with
    | some (.box cs) => cs[off]? = some c
    | _ => False
  | f + 1, m, k, off, c => match m with
    | [] => False
    | (k', v) :: m => (k' = k → match v with
      | some (.box cs) => cs[off]? = some c
      | _ => False) ∧ sameC f m k off c
/-- what this operation reads is a cell of a struct that is the same all along (zs: but for the last write, before which these come) -/
def cellAp (t : Tmps) (m : Mem) (L : Nat) (is : List MI) (zs : List Nat) (i : Nat) : Prop :=
  match is[i]? with
  | some ⟨_, .ld none x, _⟩ => match ev t x with
    | .ptr k off => ∃ c, bif zs.contains i then sameC (m.tail.length - L) m.tail k off c else sameC (m.length - L) m k off c
    | _ => False
  | _ => False
/-- as apart, or by single cells -/
def apartY (t : Tmps) (m : Mem) (L : Nat) (is : List MI) (zs : List Nat) : List (Nat × Nat) → Prop
  | [] => True
  | (i, j) :: r => (apart t m L is [(i, j)] ∨ cellAp t m L is zs i ∨ cellAp t m L is zs j) ∧ apartY t m L is zs r
/-- the last operation, if it writes one cell -/
def lastSt (is : List MI) : Bool := match is.getLast? with
  | some ⟨_, .st _ _ _, none⟩ => true
  | _ => false
/-- what comes before it -/
def zsOf (ops : Array Oper) (is : List MI) : List Nat := bif lastSt is then pre ops is.length (is.length - 1) else []

def tT (is : List MI) (x : Nat → AV) (t0 : Tmps) : Nat → Tmps
  | 0 => t0
  | j + 1 => putT (dOf is j) (x j) (tT is x t0 j)

def mT (u : Nat → Mem) (m0 : Mem) : Nat → Mem
  | 0 => m0
  | j + 1 => u j ++ mT u m0 j

/-- an operation with its guard, exactly -/
def StepD (P : Program) (i : MI) (t : Tmps) (m : Mem) (n : Nat) (x : AV) (u : Mem) : Prop :=
  vinsD P i (Ex x u) t m n ∧ Wr i.op t m n u

theorem vinsD_local {i : MI} (hs : ∀ s ∈ slotsOf i, look t' s = look t s) (hm : rdI i = true → ∀ k, TK i.op t m k → ∀ o, lookM m k = some o → lookM m' k = some o)
    (h : vinsD P i K t m n) : vinsD P i K t' m' n := by
  obtain ⟨d, op, g⟩ := i
  have hop : ∀ x ∈ opnds op, ev t' x = ev t x := fun x hx => by
    cases x with
    | t s => exact hs s (by simp only [slotsOf, List.mem_append, List.mem_filterMap]; exact .inl ⟨.t s, hx, rfl⟩)
    | c v => rfl
  cases g with
  | none => exact vrunD_local hop hm h
  | some sw =>
    obtain ⟨s, want⟩ := sw
    simp only [vinsD] at h ⊢
    rw [hs s (by simp [slotsOf])]
    split at h
    · exact ⟨fun hb => vrunD_local hop hm (h.1 hb), h.2⟩
    · exact h
    · exact h.elim

theorem TK_same {op : MOp} {k : Nat} (ht : ∀ y ∈ opnds op, ev t' y = ev t y) (h : TK op t' m k) : TK op t m k := by
  rcases h with ⟨y, hy, hk⟩ | ⟨h, hk⟩
  · exact .inl ⟨y, hy, by rwa [ht y hy] at hk⟩
  · exact .inr ⟨h, by rwa [evs_congr ht] at hk⟩

theorem Wr_same {op : MOp} {u : Mem} (ht : ∀ s, look t' s = look t s) (h : Wr op t' m n u) : Wr op t m n u := by
  intro p hp
  rcases h p hp with h1 | ⟨h1, hk, h3⟩
  · exact .inl h1
  · exact .inr ⟨h1, TK_same (fun y _ => by cases y with
      | t s => exact ht s
      | c v => rfl) hk, h3⟩

theorem StepD_same {i : MI} {x : AV} {u : Mem} (ht : ∀ s, look t' s = look t s) (h : StepD P i t' m n x u) : StepD P i t m n x u :=
  ⟨vinsD_local (fun s _ => (ht s).symm) (fun _ _ _ _ ho => ho) h.1, Wr_same ht h.2⟩

theorem vstepD_exact {i : MI} {K : AV → Mem → Tmps → Prop} (h : vstepD P i K t m n) : ∃ x u t2, K x u t2 ∧ (∀ s, look t2 s = look t s) ∧ StepD P i t m n x u := by
  obtain ⟨d, op, g⟩ := i
  cases g with
  | none =>
    obtain ⟨x, u, h1, h2, h3⟩ := vrunD_exact h
    exact ⟨x, u, t, h1, fun _ => rfl, h2, h3⟩
  | some sw =>
    obtain ⟨s, want⟩ := sw
    simp only [vstepD] at h
    split at h
    · rename_i b e
      by_cases hb : b = want
      · obtain ⟨x, u, h1, h2, h3⟩ := vrunD_exact (h.1 hb)
        have hs := look_same (t := t) (s := s) (x := .v (.bool want)) (by rw [e, hb])
        refine ⟨x, u, _, h1, hs, ?_, Wr_same hs h3⟩
        simp only [vinsD, e]
        refine ⟨fun _ => vrunD_local (fun y _ => ?_) (fun _ _ _ _ ho => ho) h2, fun hn => by subst hb; cases b <;> cases hn⟩
        cases y with
        | t q => exact (hs q).symm
        | c v => rfl
      · have hb' := bool_ne hb
        refine ⟨_, _, _, h.2 hb', look_same (by rw [e, hb']), ?_, Wr_nil⟩
        simp only [vinsD, e]
        exact ⟨fun hh => (hb hh).elim, fun _ => ⟨rfl, rfl⟩⟩
    · rename_i vs e
      refine ⟨_, _, _, h, fun _ => rfl, ?_, Wr_nil⟩
      simp only [vinsD, e]
      exact ⟨rfl, rfl⟩
    · exact h.elim

theorem tT_cons (i : MI) (is : List MI) (x0 : AV) (x : Nat → AV) (t0 : Tmps) : ∀ j, tT (i :: is) (fun | 0 => x0 | j + 1 => x j) t0 (j + 1) = tT is x (putT i.d x0 t0) j
  | 0 => rfl
  | j + 1 => by
    have := tT_cons i is x0 x t0 j
    rw [tT, this]
    simp [tT, dOf]

theorem mT_cons (u0 : Mem) (u : Nat → Mem) (m0 : Mem) : ∀ j, mT (fun | 0 => u0 | j + 1 => u j) m0 (j + 1) = mT u (u0 ++ m0) j
  | 0 => rfl
  | j + 1 => by
    have := mT_cons u0 u m0 j
    rw [mT, this]
    simp [mT]

theorem table {K : Tmps → Mem → Nat → Prop} : ∀ (is : List MI) (t t' : Tmps) (m : Mem) (n : Nat), (∀ s, look t' s = look t s) → vregsD P is K t' m n →
    ∃ (x : Nat → AV) (u : Nat → Mem) (t'' : Tmps), (∀ (j : Nat) i, is[j]? = some i → StepD P i (tT is x t j) (mT u m j) (n + j) (x j) (u j)) ∧
      (∀ s, look t'' s = look (tT is x t is.length) s) ∧ K t'' (mT u m is.length) (n + is.length) := by
  intro is
  induction is with
  | nil => intro t t' m n ht h; exact ⟨fun _ => .dead, fun _ => [], t', fun j i hj => by simp at hj, ht, h⟩
  | cons i is ih =>
    intro t t' m n ht h
    obtain ⟨x0, u0, t2, h1, ht2, h2⟩ := vstepD_exact h
    obtain ⟨x, u, t'', h3, ht3, h4⟩ := ih (putT i.d x0 t) (putT i.d x0 t2) _ _ (fun s => by
      cases i.d with
      | none => simp only [putT]; rw [ht2, ht]
      | some d =>
        simp only [putT]
        by_cases hd : d = s
        · subst hd; rw [look_cons_eq, look_cons_eq]
        · rw [look_cons_ne _ _ hd, look_cons_ne _ _ hd, ht2, ht]) h1
    refine ⟨fun | 0 => x0 | j + 1 => x j, fun | 0 => u0 | j + 1 => u j, t'', fun j i' hj => ?_, ?_, ?_⟩
    · cases j with
      | zero => simp at hj; subst hj; exact StepD_same ht h2
      | succ j =>
        rw [tT_cons, mT_cons]
        have := h3 j i' (by simpa using hj)
        rwa [show n + 1 + j = n + (j + 1) by omega] at this
    · simp only [List.length_cons]
      rw [tT_cons]; exact ht3
    · simp only [List.length_cons]
      rw [mT_cons]
      rwa [show n + 1 + is.length = n + (is.length + 1) by omega] at h4

/-- what a temporary holds when the operations E have been carried out -/
def valT (is : List MI) (x : Nat → AV) (t0 : Tmps) (E : Nat → Bool) : Nat → Nat → AV
  | 0, s => look t0 s
  | j + 1, s => if E j = true ∧ dOf is j = some s then x j else valT is x t0 E j s

def lookU : Mem → Nat → Option (Option MObj)
  | [], _ => none
  | (k', v) :: r, k => if k' = k then some v else lookU r k

def valM (u : Nat → Mem) (m0 : Mem) (E : Nat → Bool) : Nat → Nat → Option MObj
  | 0, k => lookM m0 k
  | j + 1, k => if E j = true then (lookU (u j) k).getD (valM u m0 E j k) else valM u m0 E j k

theorem look_putT (d : Option Nat) (x : AV) (t : Tmps) (s : Nat) : look (putT d x t) s = if d = some s then x else look t s := by
  cases d with
  | none => simp [putT]
  | some d =>
    simp only [putT, Option.some.injEq]
    by_cases h : d = s
    · subst h; rw [look_cons_eq, if_pos rfl]
    · rw [look_cons_ne _ _ h, if_neg h]

theorem lookM_append (u m : Mem) (k : Nat) : lookM (u ++ m) k = (lookU u k).getD (lookM m k) := by
  induction u with
  | nil => simp [lookU]
  | cons p u ih =>
    obtain ⟨k', v⟩ := p
    simp only [List.cons_append, lookU]
    by_cases h : k' = k
    · subst h; rw [lookM_cons_eq, if_pos rfl]; rfl
    · rw [lookM_cons_ne _ _ h, if_neg h]; exact ih

theorem lookU_mem {u : Mem} {k : Nat} (h : lookU u k ≠ none) : ∃ p ∈ u, p.1 = k := by
  induction u with
  | nil => simp [lookU] at h
  | cons p u ih =>
    obtain ⟨k', v⟩ := p
    simp only [lookU] at h
    by_cases hk : k' = k
    · exact ⟨(k', v), by simp, hk⟩
    · rw [if_neg hk] at h
      obtain ⟨q, hq, h⟩ := ih h
      exact ⟨q, by simp [hq], h⟩

theorem tT_val (is : List MI) (x : Nat → AV) (t0 : Tmps) (s : Nat) : ∀ j, look (tT is x t0 j) s = valT is x t0 (fun _ => true) j s
  | 0 => rfl
  | j + 1 => by simp only [tT, valT, look_putT, tT_val is x t0 s j]; simp

theorem mT_val (u : Nat → Mem) (m0 : Mem) (k : Nat) : ∀ j, lookM (mT u m0 j) k = valM u m0 (fun _ => true) j k
  | 0 => rfl
  | j + 1 => by simp only [mT, valM, lookM_append, mT_val u m0 k j]; simp

theorem valT_congr {is : List MI} {x : Nat → AV} {t0 : Tmps} {E E' : Nat → Bool} {s : Nat} : ∀ j, (∀ i, i < j → dOf is i = some s → E i = E' i) → valT is x t0 E j s = valT is x t0 E' j s
  | 0, _ => rfl
  | j + 1, h => by
    simp only [valT]
    rw [valT_congr j (fun i hi => h i (by omega))]
    by_cases hd : dOf is j = some s
    · rw [h j (by omega) hd]
    · simp [hd]

theorem valM_congr {u : Nat → Mem} {m0 : Mem} {E E' : Nat → Bool} {k : Nat} : ∀ j, (∀ i, i < j → lookU (u i) k ≠ none → E i = E' i) → valM u m0 E j k = valM u m0 E' j k
  | 0, _ => rfl
  | j + 1, h => by
    simp only [valM]
    rw [valM_congr j (fun i hi => h i (by omega))]
    by_cases hd : lookU (u j) k = none
    · simp [hd]
    · rw [h j (by omega) hd]

/-- nothing above j counts -/
theorem valT_above {is : List MI} {x : Nat → AV} {t0 : Tmps} {E : Nat → Bool} {s j : Nat} : ∀ l, j ≤ l → (∀ i, j ≤ i → i < l → dOf is i = some s → E i = false) → valT is x t0 E l s = valT is x t0 E j s
  | 0, h, _ => by have : j = 0 := by omega
                  subst this; rfl
  | l + 1, h, hE => by
    by_cases hj : j = l + 1
    · subst hj; rfl
    · simp only [valT]
      rw [if_neg (fun hh => by have := hE l (by omega) (by omega) hh.2; rw [this] at hh; cases hh.1)]
      exact valT_above l (by omega) (fun i h1 h2 => hE i h1 (by omega))

theorem valM_above {u : Nat → Mem} {m0 : Mem} {E : Nat → Bool} {k j : Nat} : ∀ l, j ≤ l → (∀ i, j ≤ i → i < l → lookU (u i) k ≠ none → E i = false) → valM u m0 E l k = valM u m0 E j k
  | 0, h, _ => by have : j = 0 := by omega
                  subst this; rfl
  | l + 1, h, hE => by
    by_cases hj : j = l + 1
    · subst hj; rfl
    · simp only [valM]
      rw [valM_above l (by omega) (fun i h1 h2 => hE i h1 (by omega))]
      by_cases hd : lookU (u l) k = none
      · simp [hd]
      · rw [hE l (by omega) (by omega) hd]; simp

end Go.Av
/- Regions that draw their order: the theorem. -/
namespace Go.Av
open Go.RowKit (Below)

variable {P : Program} {w w' : World} {S S' Sc : Nat → Prop} {κ κ' : Nat → Option Loc} {m m' : Mem} {n N : Nat} {F : Nat → Prop} {t t' : Tmps} {a : Act} {X : Ctx}
  {Q : Exit → Act → World → Prop} {K : AV → Mem → Prop}

/-- more is only read: new blocks -/
theorem Rel.more (r : Rel X N w S κ t m F a) (hb : Below w.heap.size w w') (h1 : ∀ b, S b → S' b) (h2 : ∀ b, S' b → S b ∨ w.heap.size ≤ b) (h3 : ∀ b, S' b → b < w'.heap.size) : Rel X N w' S' κ t m F a := by
  have r' := r.below hb
  refine ⟨r'.size, r'.defers, fun i => (r'.tm i).mono (fun _ _ => rfl) h1 (fun _ _ h => h), ⟨fun k o h => (r'.ent.mm k o h).mono (fun _ _ => rfl) h1 (fun _ _ h => h) (fun _ _ _ _ => rfl), r'.ent.inj, fun k o l b e1 e2 e3 => ?_, r'.ent.fresh, r'.ent.sb.mono (fun _ _ => rfl) h1 h3⟩,
    r'.since.own, fun b hb' => ?_, r'.since.os, r'.since.tape, r'.since.output, r'.since.ge, r'.since.keep, r'.since.kp⟩
  · have := r.ent.own k o l b e1 e2 e3
    exact ⟨fun hS => (h2 _ hS).elim this.1 (fun h => by omega), (r'.ent.own k o l b e1 e2 e3).2⟩
  · exact (h2 b hb').elim (r.since.s0 b) (fun h => .inr (.inl (Nat.le_trans r.since.ge h)))

theorem R.noKeys {x : AV} {v : Value} (h : R w S κ x v) (hκ : ∀ k, κ k = none) : R0 w S x v := by
  induction h with
  | base h => exact h
  | agg hl _ ih => exact .agg hl ih
  | tup hl _ ih => exact .tup hl ih
  | fn hl _ ih => exact .fn hl ih
  | ptr hk => rw [hκ] at hk; cases hk
  | elt hk => rw [hκ] at hk; cases hk
  | arrNil hk => rw [hκ] at hk; cases hk
  | arr hk => rw [hκ] at hk; cases hk
  | arr0 hk => rw [hκ] at hk; cases hk
  | mp hk => rw [hκ] at hk; cases hk

theorem somes_get (rho : List Nat) (i : Nat) : (somes rho)[i]? = (rho[i]?).map some := by
  induction rho generalizing i with
  | nil => simp [somes]
  | cons k rho ih => cases i <;> simp [somes, ih]
theorem somes_lentK (rho : List Nat) : lentK (somes rho) = rho := by
  induction rho with
  | nil => rfl
  | cons k rho ih => simp [somes, lentK, ih]
theorem somes_zs (rho : List Nat) (i : Nat) : zs i (somes rho) = [] := by
  induction rho generalizing i with
  | nil => rfl
  | cons k rho ih => simp [somes, zs, ih]
theorem boxK_shut {rho l : List Nat} (h : (l.all fun k => shutO rho (lookM m k)) = true) : ∀ q ∈ boxK m (somes l), q ∈ rho := by
  induction l with
  | nil => intro q hq; simp [somes, boxK] at hq
  | cons k l ih =>
    simp only [List.all_cons, Bool.and_eq_true] at h
    intro q hq
    simp only [somes, boxK, List.mem_append] at hq
    rcases hq with hq | hq
    · split at hq
      · rename_i cs hk
        rw [hk] at h
        simp only [shutO, List.all_eq_true] at h
        have := h.1 q hq
        rw [List.contains_eq_mem] at this
        simpa using this
      · simp at hq
    · exact ih h.2 q hq
theorem notIn_nil {ks l : List Nat} (h : ∀ k ∈ l, pos ks k ≠ none) : notIn ks l = [] := by
  induction l with
  | nil => rfl
  | cons k l ih => simp only [notIn]; rw [if_neg (h k (by simp))]; exact ih (fun q hq => h q (by simp [hq]))

theorem callX_run {f : FuncId} {args : List AV} {vals : Array Value} {x : AV} {u : Mem} {rho : List Nat} (hF : F n) (h : CallXr P f args m n rho (Ex x u)) (r : Rel X N w S κ t m F a) (hl : args.length = vals.size)
    (hR : ∀ (i : Nat) x y, args[i]? = some x → vals[i]? = some y → R w S κ x y) :
    Calls P f vals w fun e w' => ∃ v S' κ', e = .returned v ∧ R w' S' κ' x v ∧ Rel X N w' S' κ' t (u ++ m) (fun k => F k ∧ k ≠ n) a := by
  obtain ⟨args', m0, r0, gv, rm, fl, ⟨h1, hgl⟩, h2, h3, h4, h5, h6, h7, h8, h9, h10, rfl, rfl⟩ := h
  have hall : ∀ k ∈ kysL args, pos rho k ≠ none := fun k hk => by
    have := (List.all_eq_true.1 h7) k hk
    rw [List.contains_eq_mem] at this
    exact pos_of_mem (by simpa using this)
  have hnot : notIn rho (kysL args ++ boxK m (somes rho)) = [] := notIn_nil fun k hk => by
    rcases List.mem_append.1 hk with hk | hk
    · exact hall k hk
    · exact pos_of_mem (boxK_shut h5 k hk)
  have hlive : ∀ k ∈ rho, ¬ F k := fun k hk hFk => by
    have := (List.all_eq_true.1 h5) k hk
    rw [(r.ent.fresh k hFk).1] at this; simp [shutO] at this
  have nl : ∀ i : Nat, (∀ k, (somes rho)[i]? ≠ some (some k)) → rho.length ≤ i := fun i hi => by
    apply Nat.le_of_not_lt; intro hh
    exact hi rho[i] (by rw [somes_get]; simp [hh])
  have gn : ∀ i, rho.length ≤ i → gx n rho i = n := fun i hi => by simp [gx, List.getElem?_eq_none hi]
  have := lend_core (F' := fun k => F k ∧ k ≠ n) (somes rho) rho (gx n rho) h1 r (fun i => by rw [somes_get]; cases rho[i]? <;> simp) (by rw [somes_zs]; exact h2) (by rw [somes_lentK]; exact h3) (by rw [somes_zs]; exact h4)
    (fun i k hi => by
      rw [somes_get, Option.map_eq_some_iff] at hi
      obtain ⟨k', hk', e⟩ := hi
      cases e; simp [gx, hk'])
    (fun i _ hi => by rw [gn i (nl i hi)]; exact hF)
    (fun i j hi hj hi' hj' _ => by
      have a1 := nl i hi'
      have a2 := nl j hj'
      simp only [List.length_append, hgl] at hi hj
      omega)
    (fun k hk => ⟨hk.1, fun i _ hgi => by
      by_cases hir : i < rho.length
      · have : k = rho[i] := by rw [← hgi]; simp [gx, hir]
        exact hlive k (this ▸ List.getElem_mem hir) hk.1
      · rw [gn i (by omega)] at hgi; exact hk.2 hgi.symm⟩) hl hR
  refine this.mono ?_
  rintro e w' ⟨v, S2, κ2, rfl, q1, q2⟩
  rw [hnot] at q2
  exact ⟨v, S2, κ2, rfl, q1, q2.congr (fun _ => rfl) (fun k => by simp only [filtM_look h10]; rfl)⟩

theorem callD_run {f : FuncId} {args : List AV} {vals : Array Value} {x : AV} {u : Mem} (hF : F n) (h : CallD P f args m n (Ex x u)) (r : Rel X N w S κ t m F a) (hl : args.length = vals.size)
    (hR : ∀ (i : Nat) x y, args[i]? = some x → vals[i]? = some y → R w S κ x y) :
    Calls P f vals w fun e w' => ∃ v S' κ', e = .returned v ∧ R w' S' κ' x v ∧ Rel X N w' S' κ' t (u ++ m) (fun k => F k ∧ k ≠ n) a := by
  rcases h with ⟨r0, h1, h2, _, rfl, rfl⟩ | h
  · have hargs : ∀ (i : Nat) x y, (frzL [] m args)[i]? = some x → vals[i]? = some y → R0 w (fun b => S b ∨ blocksOf m κ (kysL args) b) x y := fun i x y g1 g2 => by
      rw [frzL_get, Option.map_eq_some_iff] at g1
      obtain ⟨x', g1, rfl⟩ := g1
      exact frz_R0 r.ent (hR i x' y g1 g2) (fun k hk => kysL_mem g1 hk)
    refine (h1.2 w _ vals (r.ent.sb.mono (fun _ _ => rfl) (fun _ h => .inl h) (fun b hb => ?_)) (by rw [frzL_length, hl]) hargs).mono ?_
    · rcases hb with hb | ⟨k, o, l, _, h1, h2, h3⟩
      · exact r.ent.sb.lt b hb
      · exact (r.ent.own k o l b h1 h2 h3).2
    · rintro e w' ⟨v, S', κ', rfl, hv, hent, hS', _, hb⟩
      have hv0 : R0 w' S' r0 v := hv.noKeys (fun k => (hent.fresh k (Nat.zero_le _)).2)
      rcases h2 with h2 | h2
      · exact ⟨v, S, κ, rfl, .base (flat_R hv h2), (r.below hb).free fun _ h => h.1⟩
      · refine ⟨v, fun b => S b ∨ S' b, κ, rfl, .base (hv0.mono (fun _ _ => rfl) (fun _ h => .inr h)), (r.more hb (fun _ h => .inl h) (fun b hb' => ?_) (fun b hb' => ?_)).free fun _ h => h.1⟩
        · rcases hb' with hb' | hb'
          · exact .inl hb'
          · rcases hS' b hb' with (h | ⟨k, _, _, hk, _⟩) | h
            · exact .inl h
            · rw [h2] at hk; simp at hk
            · exact .inr h
        · rcases hb' with hb' | hb'
          · exact Nat.lt_of_lt_of_le (r.ent.sb.lt b hb') hb.size
          · exact hent.sb.lt b hb'
  · exact callX_run hF h r hl hR

theorem CallD_callable {f : FuncId} {args : List AV} (h : CallD P f args m n K) : callable P f = true := by
  rcases h with ⟨r, h1, _⟩ | ⟨args', m0, r, gv, rm, _, ⟨h1, _⟩, _⟩
  · exact h1.1
  · exact h1.1

theorem CallXq_callable {f : FuncId} {args : List AV} {e lim : Nat} (h : CallXq P f args m n e lim K) : callable P f = true := by
  obtain ⟨k0, rho, cs, c0, c1, args', ms0, r0, g1, rm, fl, ⟨h1, _⟩, ⟨_, hd⟩, _⟩ := h
  exact (h1 (List.replicate (cs.length - c0.length) undef) (by simp; omega)).1

theorem CallX_callable {f : FuncId} {args : List AV} (h : CallX P f args m n K) : callable P f = true := by
  rcases h with h | ⟨rho, args', m0, r, gv, rm, _, ⟨h1, _⟩, _⟩ | h
  · exact CallD_callable h
  · exact h1.1
  · exact CallXq_callable h
theorem CallY_callable {f : FuncId} {args : List AV} {e : Nat} (h : CallY P f args m n e K) : callable P f = true := h.elim CallX_callable CallXq_callable

theorem WnL_app {xs xs' ys ys' : List AV} : ∀ (h : WnL [] xs ys) (h' : WnL [] xs' ys'), WnL [] (xs ++ xs') (ys ++ ys') := by
  induction xs generalizing ys with
  | nil => intro h h'; simp only [WnL] at h; subst h; exact h'
  | cons x xs ih =>
    intro h h'
    cases ys with
    | nil => simp [WnL] at h
    | cons y ys =>
      simp only [WnL] at h
      simp only [List.cons_append, WnL]
      exact ⟨h.1, ih h.2 h'⟩
theorem frzL_app {rho : List Nat} (xs ys : List AV) : frzL rho m (xs ++ ys) = frzL rho m xs ++ frzL rho m ys := by
  induction xs with
  | nil => rfl
  | cons x xs ih => simp [frzL, ih]
theorem frzL_vs {rho : List Nat} (vs : List Value) : frzL rho m (vs.map .v) = vs.map .v := by
  induction vs with
  | nil => rfl
  | cons x xs ih => simp [frzL, ih, frz]
theorem kysL_app (xs ys : List AV) : kysL (xs ++ ys) = kysL xs ++ kysL ys := by
  induction xs with
  | nil => rfl
  | cons x xs ih => simp [kysL, ih]
theorem kysL_vs (vs : List Value) : kysL (vs.map .v) = [] := by
  induction vs with
  | nil => rfl
  | cons x xs ih => simp [kysL, ih, kys]
theorem reGL_app (g : Nat → Nat) (xs ys : List AV) : reGL g (xs ++ ys) = reGL g xs ++ reGL g ys := by
  induction xs with
  | nil => rfl
  | cons x xs ih => simp [reGL, ih]
theorem reGL_vs (g : Nat → Nat) (vs : List Value) : reGL g (vs.map .v) = vs.map .v := by
  induction vs with
  | nil => rfl
  | cons x xs ih => simp [reGL, ih, reG]

theorem callXq_run {f : FuncId} {args : List AV} {vals : Array Value} {x : AV} {u : Mem} {e lim : Nat} (hF : F n) (hlim : lim ≤ 2) (hE : 2 ≤ lim → F e ∧ e ≠ n) (h : CallXq P f args m n e lim (Ex x u)) (r : Rel X N w S κ t m F a) (hl : args.length = vals.size)
    (hR : ∀ (i : Nat) x y, args[i]? = some x → vals[i]? = some y → R w S κ x y) :
    Calls P f vals w fun e' w' => ∃ v S' κ', e' = .returned v ∧ R w' S' κ' x v ∧ Rel X N w' S' κ' t (u ++ m) (fun k => F k ∧ k ≠ n ∧ (2 ≤ lim → k ≠ e)) a := by
  obtain ⟨k0, rho, cs, c0, c1, args', ms0, r0, g1, rm, fl, ⟨h1, hgl⟩, ⟨h0, hd⟩, h2, h3, h4, h5, h5', h6, h7, h8, h9, h10, rfl, rfl⟩ := h
  obtain ⟨rest, M, q1, q2, q3, q4⟩ := r.passive h0 hd
  obtain ⟨g, hg⟩ : ∃ g, g = gy n e (k0 :: rho) := ⟨_, rfl⟩
  rw [← hg]
  rw [← hg] at h10
  have hnd := List.nodup_cons.1 h3
  obtain ⟨mt, hmt⟩ : ∃ mt, mt = (k0, some (.box (cs.take c0.length ++ rest.map .v))) :: m := ⟨_, rfl⟩
  rw [← hmt] at q4
  have hmt0 : lookM mt k0 = some (.box (cs.take c0.length ++ rest.map .v)) := by rw [hmt, lookM_cons_eq]
  have hmtn : ∀ k, k ≠ k0 → lookM mt k = lookM m k := fun k hk => by rw [hmt, lookM_cons_ne _ _ (Ne.symm hk)]
  have hall : ∀ k ∈ kysL args, pos (k0 :: rho) k ≠ none := fun k hk => by
    have := (List.all_eq_true.1 h7) k hk
    rw [List.contains_eq_mem] at this
    exact pos_of_mem (by simpa using this)
  have hshut : ((k0 :: rho).all fun k => shutO (k0 :: rho) (lookM mt k)) = true := by
    rw [hmt]
    refine cons_shut h3 ?_ h5'
    rw [kysL_app, kysL_vs, List.append_nil]; exact h5
  have hnot : notIn (k0 :: rho) (kysL args ++ boxK mt (somes (k0 :: rho))) = [] := notIn_nil fun k hk => by
    rcases List.mem_append.1 hk with hk | hk
    · exact hall k hk
    · exact pos_of_mem (boxK_shut hshut k hk)
  have hlive : ∀ k ∈ k0 :: rho, ¬ F k := fun k hk hFk => by
    have := (List.all_eq_true.1 hshut) k hk
    rw [(q4.ent.fresh k hFk).1] at this; simp [shutO] at this
  have gn : ∀ i, i = (k0 :: rho).length → g i = n := fun i hi => by rw [hg]; simp only [gy]; rw [List.getElem?_eq_none (by omega), if_pos hi]; rfl
  have ge : ∀ i, (k0 :: rho).length < i → g i = e := fun i hi => by rw [hg]; simp only [gy]; rw [List.getElem?_eq_none (by omega), if_neg (by omega)]; rfl
  have gin : ∀ i (hi : i < (k0 :: rho).length), g i = (k0 :: rho)[i] := fun i hi => by rw [hg]; simp only [gy]; rw [List.getElem?_eq_getElem hi]; rfl
  have nl : ∀ i : Nat, (∀ k, (somes (k0 :: rho))[i]? ≠ some (some k)) → (k0 :: rho).length ≤ i := fun i hi => by
    apply Nat.le_of_not_lt; intro hh
    exact hi (k0 :: rho)[i] (by rw [somes_get]; simp [hh])
  have hm1l : (some (MObj.box (c1 ++ rest.map .v)) :: (g1 ++ rm)).length = (k0 :: rho).length + rm.length := by simp [hgl]; omega
  have := lend_core (F' := fun k => F k ∧ k ≠ n ∧ (2 ≤ lim → k ≠ e)) (somes (k0 :: rho)) (k0 :: rho) g (h1 rest (by omega)) q4 (fun i => by rw [somes_get]; cases (k0 :: rho)[i]? <;> simp)
    (by
      rw [somes_zs]
      simp only [somes, lendOk] at h2 ⊢
      refine ⟨?_, ?_⟩
      · have h21 := h2.1
        rw [lookM_cons_eq] at h21
        rw [hmt0]
        simp only [frzO, WnO] at h21 ⊢
        rw [frzL_app, frzL_vs]
        refine WnL_app ?_ ((Wn_both []).2 _)
        rw [(frz_all (m' := mt) (m := (k0, some (.box (cs.take c0.length))) :: m)).2 _ (fun k hk => ?_)]
        · exact h21
        · have := (List.all_eq_true.1 h5) k hk
          rw [List.contains_eq_mem] at this
          exact pos_of_mem (by simpa using this)
      · refine lendOk_shut (m := (k0, some (.box (cs.take c0.length))) :: m) ?_ (fun k hk o ho => ?_) h2.2
        · have := cons_shut h3 h5 h5'
          simp only [List.all_cons, Bool.and_eq_true] at this
          exact this.2
        · have hne : k ≠ k0 := fun hh => hnd.1 (hh ▸ hk)
          rw [lookM_cons_ne _ _ (Ne.symm hne)] at ho
          rw [hmtn k hne]; exact ho)
    (by rw [somes_lentK]; exact h3) (by rw [somes_zs, (frz_all (m' := mt) (m := m)).2 args hall]; exact h4)
    (fun i k hi => by
      rw [somes_get, Option.map_eq_some_iff] at hi
      obtain ⟨k', hk', hkk⟩ := hi
      cases hkk
      have := List.getElem?_eq_some_iff.1 hk'
      rw [gin i this.1]; exact this.2)
    (fun i hi1 hi => by
      have := nl i hi
      by_cases hin : i = (k0 :: rho).length
      · rw [gn i hin]; exact hF
      · rw [ge i (by omega)]; exact (hE (by omega)).1)
    (fun i j hi hj hi' hj' hij => by
      have a1 := nl i hi'
      have a2 := nl j hj'
      rw [hm1l] at hi hj
      by_cases b1 : i = (k0 :: rho).length <;> by_cases b2 : j = (k0 :: rho).length
      · omega
      · rw [gn i b1, ge j (by omega)] at hij; exact ((hE (by omega)).2 hij.symm).elim
      · rw [ge i (by omega), gn j b2] at hij; exact ((hE (by omega)).2 hij).elim
      · omega)
    (fun k hk => ⟨hk.1, fun i hi hgi => by
      by_cases hir : i < (k0 :: rho).length
      · rw [gin i hir] at hgi
        exact hlive k (hgi ▸ List.getElem_mem hir) hk.1
      · by_cases hin : i = (k0 :: rho).length
        · rw [gn i hin] at hgi; exact hk.2.1 hgi.symm
        · rw [ge i (by omega)] at hgi
          rw [hm1l] at hi
          exact hk.2.2 (by omega) hgi.symm⟩) hl hR
  refine this.mono ?_
  rintro e' w' ⟨v, S2, κ2, rfl, p1, p2⟩
  rw [hnot] at p2
  have hg0 : g 0 = k0 := by rw [gin 0 (by simp)]; rfl
  have hcell : lookM (outM g 0 (some (.box (c1 ++ rest.map .v)) :: (g1 ++ rm)) ++ (kills [] ++ mt)) k0 = some (.box (reGL g c1 ++ rest.map .v)) := by
    simp only [outM, reO, reGL_app, reGL_vs, hg0, List.cons_append]
    exact lookM_cons_eq _ _ _
  refine ⟨v, S2, κ2, rfl, p1, (p2.unpassive r.size q1 q2 q3 hcell).congr (fun _ => rfl) (fun k => ?_)⟩
  by_cases hk : k0 = k
  · subst hk; rw [List.cons_append, lookM_cons_eq, lookM_cons_eq]
  · rw [List.cons_append, lookM_cons_ne _ _ hk, lookM_cons_ne _ _ hk, filtM_look h10]
    simp only [outM, hg0, List.cons_append]
    rw [lookM_cons_ne _ _ hk, lookM_append, lookM_append]
    rw [show kills [] ++ mt = mt from rfl, hmtn k (Ne.symm hk)]

theorem callXX_run {f : FuncId} {args : List AV} {vals : Array Value} {x : AV} {u : Mem} (hF : F n) (h : CallX P f args m n (Ex x u)) (r : Rel X N w S κ t m F a) (hl : args.length = vals.size)
    (hR : ∀ (i : Nat) x y, args[i]? = some x → vals[i]? = some y → R w S κ x y) :
    Calls P f vals w fun e w' => ∃ v S' κ', e = .returned v ∧ R w' S' κ' x v ∧ Rel X N w' S' κ' t (u ++ m) (fun k => F k ∧ k ≠ n) a := by
  rcases h with h | ⟨rho, h⟩ | h
  · exact callD_run hF h r hl hR
  · exact callX_run hF h r hl hR
  · refine (callXq_run hF (by omega) (fun hh => by omega) h r hl hR).mono ?_
    rintro e w' ⟨v, S', κ', rfl, h2, h3⟩
    exact ⟨v, S', κ', rfl, h2, h3.free fun k hk => ⟨hk.1, hk.2, fun hh => by omega⟩⟩
theorem callYY_run {f : FuncId} {args : List AV} {vals : Array Value} {x : AV} {u : Mem} {e : Nat} (hF : F n) (hE : F e ∧ e ≠ n) (h : CallY P f args m n e (Ex x u)) (r : Rel X N w S κ t m F a) (hl : args.length = vals.size)
    (hR : ∀ (i : Nat) x y, args[i]? = some x → vals[i]? = some y → R w S κ x y) :
    Calls P f vals w fun e' w' => ∃ v S' κ', e' = .returned v ∧ R w' S' κ' x v ∧ Rel X N w' S' κ' t (u ++ m) (fun k => F k ∧ k ≠ n ∧ k ≠ e) a := by
  rcases h with h | h
  · refine (callXX_run hF h r hl hR).mono ?_
    rintro e' w' ⟨v, S', κ', rfl, h2, h3⟩
    exact ⟨v, S', κ', rfl, h2, h3.free fun k hk => ⟨hk.1, hk.2.1⟩⟩
  · refine (callXq_run hF (by omega) (fun _ => hE) h r hl hR).mono ?_
    rintro e' w' ⟨v, S', κ', rfl, h2, h3⟩
    exact ⟨v, S', κ', rfl, h2, h3.free fun k hk => ⟨hk.1, hk.2.1, fun _ => hk.2.2⟩⟩

def AfterD (X : Ctx) (N : Nat) (t : Tmps) (m : Mem) (F : Nat → Prop) (n : Nat) (d : Option Nat) (x : AV) (u : Mem) (a : Act) (w : World) : Prop :=
  ∃ S κ, Rel X N w S κ (putT d x t) (u ++ m) (fun k => F k ∧ k ≠ n) a

theorem runD_ok {o : Oper} {op : MOp} {ops : Array Oper} {x : AV} {u : Mem} (hc : cOp' P ops o = some op) (hd : ∀ d, o.dst = some d → d < N) (r : Rel X N w S κ t m F a) (hF : F n)
    (h : vrunD P op t m n (Ex x u)) : o.wp P a w (AfterD X N t m F n o.dst x u) Q := by
  unfold cOp' at hc
  split at hc
  · rename_i op' hcall
    simp at hc; subst hc
    unfold cCall at hcall
    split at hcall
    · rename_i f args _ ho
      simp only [Option.map_eq_some_iff] at hcall
      obtain ⟨xs, h1, rfl⟩ := hcall
      have hev := evs_ok h1 r
      refine wp_enter (f := f) (vals := args.map a.eval) ?_ ((callD_run hF h r (by simpa using hev.1) (fun i x y g1 g2 => hev.2 i x y g1 ?_)).mono ?_)
      · simp [execOp, ho, resolve, Act.eval, Deferred.ofValue, invoke, callFunc_run (CallD_callable h)]
      · simpa [List.getElem?_map, Array.getElem?_map] using g2
      · rintro e w' ⟨v, S', κ', rfl, h2, h3⟩
        exact ⟨v, rfl, S', κ', h3.put h2 hd⟩
    · rename_i g args _ ho
      simp only [Option.map_eq_some_iff] at hcall
      obtain ⟨xs, h1, rfl⟩ := hcall
      have hev := evs_ok h1 r
      have hg := ev_ok (x := .tmp g) (x' := .t g) rfl r
      simp only [vrunD] at h
      split at h
      · rename_i f caps e1
        rw [e1] at hg
        obtain ⟨vs, hv, hl, g2⟩ := hg.fn_inv
        refine wp_enter (f := f) (vals := args.map a.eval ++ vs) ?_ ((callD_run hF h r (by simp [hl, hev.1]) (fun i x y q1 q3 => ?_)).mono ?_)
        · simp only [execOp, ho, resolve]
          rw [show (a.eval (Operand.tmp g)) = _ from hv]
          simp [Deferred.ofValue, invoke, callFunc_run (CallD_callable h)]
        · by_cases hi : i < (evs t xs).length
          · rw [List.getElem?_append_left hi] at q1
            rw [Array.getElem?_append_left (by simpa [hev.1] using hi)] at q3
            exact hev.2 i x y q1 (by simpa [List.getElem?_map, Array.getElem?_map] using q3)
          · rw [List.getElem?_append_right (by omega)] at q1
            rw [Array.getElem?_append_right (by simp [hev.1] at hi ⊢; omega)] at q3
            exact g2 _ x y q1 (by simpa [hev.1] using q3)
        · rintro e w' ⟨v, S', κ', rfl, h2, h3⟩
          exact ⟨v, rfl, S', κ', h3.put h2 hd⟩
      · exact h.elim
    · cases hcall
  · split at hc
    · rename_i op' hop
      split at hc
      · cases hc
      · rename_i hnc
        simp at hc; subst hc
        have h' : vop op' t m n (Ex x u) := by
          cases op' <;> first | exact h | exact h.2 | exact h.elim | simp [isCall] at hnc
        refine Oper.wp_mono ?_ (op_okR hop hd r hF h')
        rintro a' w' ⟨x', u', S', κ', ⟨rfl, rfl⟩, h3⟩
        exact ⟨S', κ', h3⟩
    · cases hc

theorem runX_ok {o : Oper} {op : MOp} {ops : Array Oper} {x : AV} {u : Mem} (hc : cOp' P ops o = some op) (hd : ∀ d, o.dst = some d → d < N) (r : Rel X N w S κ t m F a) (hF : F n)
    (h : vrunD P (toX op) t m n (Ex x u)) : o.wp P a w (AfterD X N t m F n o.dst x u) Q := by
  by_cases hcall : isCall op = true
  · unfold cOp' at hc
    split at hc
    · rename_i op' hcc
      simp at hc; subst hc
      unfold cCall at hcc
      split at hcc
      · rename_i f args _ ho
        simp only [Option.map_eq_some_iff] at hcc
        obtain ⟨xs, h1, rfl⟩ := hcc
        have hev := evs_ok h1 r
        refine wp_enter (f := f) (vals := args.map a.eval) ?_ ((callXX_run hF h r (by simpa using hev.1) (fun i x y g1 g2 => hev.2 i x y g1 ?_)).mono ?_)
        · simp [execOp, ho, resolve, Act.eval, Deferred.ofValue, invoke, callFunc_run (CallX_callable h)]
        · simpa [List.getElem?_map, Array.getElem?_map] using g2
        · rintro e w' ⟨v, S', κ', rfl, h2, h3⟩
          exact ⟨v, rfl, S', κ', h3.put h2 hd⟩
      · rename_i g args _ ho
        simp only [Option.map_eq_some_iff] at hcc
        obtain ⟨xs, h1, rfl⟩ := hcc
        have hev := evs_ok h1 r
        have hg := ev_ok (x := .tmp g) (x' := .t g) rfl r
        simp only [toX, vrunD] at h
        split at h
        · rename_i f caps e1
          rw [e1] at hg
          obtain ⟨vs, hv, hl, g2⟩ := hg.fn_inv
          refine wp_enter (f := f) (vals := args.map a.eval ++ vs) ?_ ((callXX_run hF h r (by simp [hl, hev.1]) (fun i x y q1 q3 => ?_)).mono ?_)
          · simp only [execOp, ho, resolve]
            rw [show (a.eval (Operand.tmp g)) = _ from hv]
            simp [Deferred.ofValue, invoke, callFunc_run (CallX_callable h)]
          · by_cases hi : i < (evs t xs).length
            · rw [List.getElem?_append_left hi] at q1
              rw [Array.getElem?_append_left (by simpa [hev.1] using hi)] at q3
              exact hev.2 i x y q1 (by simpa [List.getElem?_map, Array.getElem?_map] using q3)
            · rw [List.getElem?_append_right (by omega)] at q1
              rw [Array.getElem?_append_right (by simp [hev.1] at hi ⊢; omega)] at q3
              exact g2 _ x y q1 (by simpa [hev.1] using q3)
          · rintro e w' ⟨v, S', κ', rfl, h2, h3⟩
            exact ⟨v, rfl, S', κ', h3.put h2 hd⟩
        · exact h.elim
      · cases hcc
    · split at hc
      · rename_i op' hop
        split at hc
        · cases hc
        · rename_i hnc; simp at hc; subst hc; exact (hnc hcall).elim
      · cases hc
  · have : toX op = op := by cases op <;> first | rfl | (simp [isCall] at hcall)
    rw [this] at h
    exact runD_ok hc hd r hF h

theorem runM_ok {o : Oper} {op : MOp} {ops : Array Oper} {x : AV} {u : Mem} (hc : cOp' P ops o = some op) (hd : ∀ d, o.dst = some d → d < N) (r : Rel X N w S κ t m F a) (hF : F n)
    (h : vrunD P (toM op) t m n (Ex x u)) : o.wp P a w (AfterD X N t m F n o.dst x u) Q := by
  by_cases hop : ∃ y, op = .ld none y
  · obtain ⟨y, rfl⟩ := hop
    unfold cOp' at hc
    split at hc
    · rename_i op' hcc
      simp at hc; subst hc
      unfold cCall at hcc
      split at hcc
      · simp only [Option.map_eq_some_iff] at hcc
        obtain ⟨_, _, hh⟩ := hcc; cases hh
      · simp only [Option.map_eq_some_iff] at hcc
        obtain ⟨_, _, hh⟩ := hcc; cases hh
      · cases hcc
    · split at hc
      · rename_i op' hop
        split at hc
        · cases hc
        · simp at hc; subst hc
          refine Oper.wp_mono ?_ (op_okR (K := Ex x u) hop hd r hF h)
          rintro a' w' ⟨x', u', S', κ', ⟨rfl, rfl⟩, h3⟩
          exact ⟨S', κ', h3⟩
      · cases hc
  · have : toM op = op := by
      cases op <;> first | rfl | (rename_i c y; cases c <;> first | rfl | exact (hop ⟨_, rfl⟩).elim)
    rw [this] at h
    exact runD_ok hc hd r hF h

/-- the same, where a second key may have been taken -/
def AfterE (X : Ctx) (N : Nat) (t : Tmps) (m : Mem) (F : Nat → Prop) (n : Nat) (yo : Option Nat) (d : Option Nat) (x : AV) (u : Mem) (a : Act) (w : World) : Prop :=
  ∃ S κ, Rel X N w S κ (putT d x t) (u ++ m) (fun k => F k ∧ k ≠ n ∧ ∀ q, yo = some q → k ≠ n + q) a
theorem AfterD.e {d : Option Nat} {x : AV} {u : Mem} {yo : Option Nat} (h : AfterD X N t m F n d x u a w) : AfterE X N t m F n yo d x u a w := by
  obtain ⟨S, κ, r⟩ := h
  exact ⟨S, κ, r.free fun k hk => ⟨hk.1, hk.2.1⟩⟩

theorem runY_ok {o : Oper} {op : MOp} {ops : Array Oper} {x : AV} {u : Mem} {k : Nat} (hc : cOp' P ops o = some op) (hd : ∀ d, o.dst = some d → d < N) (r : Rel X N w S κ t m F a) (hF : F n)
    (hE : ∀ q, yk (toY k op) = some q → F (n + q) ∧ n + q ≠ n) (h : vrunD P (toY k op) t m n (Ex x u)) : o.wp P a w (AfterE X N t m F n (yk (toY k op)) o.dst x u) Q := by
  by_cases hcall : ∃ f l, op = .call f l
  · obtain ⟨f, l, rfl⟩ := hcall
    unfold cOp' at hc
    split at hc
    · rename_i op' hcc
      simp at hc; subst hc
      unfold cCall at hcc
      split at hcc
      · rename_i f args _ ho
        simp only [Option.map_eq_some_iff] at hcc
        obtain ⟨xs, h1, hh⟩ := hcc
        cases hh
        have hev := evs_ok h1 r
        refine wp_enter (f := f) (vals := args.map a.eval) ?_ ((callYY_run hF (hE k rfl) h r (by simpa using hev.1) (fun i x y g1 g2 => hev.2 i x y g1 ?_)).mono ?_)
        · simp [execOp, ho, resolve, Act.eval, Deferred.ofValue, invoke, callFunc_run (CallY_callable h)]
        · simpa [List.getElem?_map, Array.getElem?_map] using g2
        · rintro e w' ⟨v, S', κ', rfl, h2, h3⟩
          refine ⟨v, rfl, S', κ', (h3.put h2 hd).free fun q hq => ⟨hq.1, hq.2.1, hq.2.2 k rfl⟩⟩
      · rename_i g args _ ho
        simp only [Option.map_eq_some_iff] at hcc
        obtain ⟨xs, h1, hh⟩ := hcc
        cases hh
      · cases hcc
    · split at hc
      · rename_i op' hop
        split at hc
        · cases hc
        · rename_i hnc; simp at hc; subst hc; simp [isCall] at hnc
      · cases hc
  · have : toY k op = op := by cases op <;> first | rfl | exact (hcall ⟨_, _, rfl⟩).elim
    rw [this] at h ⊢
    exact Oper.wp_mono (fun a w h => h.e) (runD_ok hc hd r hF h)

theorem insD_ok {o : Oper} {i0 i : MI} {ops : Array Oper} {x : AV} {u : Mem} {K' : Act → World → Prop} (hc : cMI P N ops o = some i0) (hi : IsX i0 i) (r : Rel X N w S κ t m F a) (hF : F n) (hE : ∀ q, yk i.op = some q → F (n + q) ∧ n + q ≠ n)
    (h : vinsD P i (Ex x u) t m n) (hK : ∀ a w, AfterE X N t m F n (yk i.op) i.d x u a w → K' a w) :
    if Region.wanted o (yielded ops a.tmps) then o.wp P a w K' Q ∨ (o.asks P a w ∧ LetsOut Q) else K' (a.put o.dst undef) w := by
  unfold cMI at hc
  split at hc
  · rename_i op g hop hg
    split at hc
    · rename_i hdst
      simp at hc; subst hc
      have hd : ∀ d, o.dst = some d → d < N := fun d hd => by rw [hd] at hdst; simpa [dstOk] using hdst
      have hid : i.d = o.dst ∧ i.g = g := by rcases hi with rfl | rfl | rfl | ⟨_, rfl⟩ <;> exact ⟨rfl, rfl⟩
      have hK : ∀ a w, AfterE X N t m F n (yk i.op) o.dst x u a w → K' a w := fun a w h => hK a w (hid.1 ▸ h)
      have skip : (Ex x u) (.v undef) [] → K' (a.put o.dst undef) w := fun hk => by
        obtain ⟨rfl, rfl⟩ := hk
        exact hK _ _ ⟨S, κ, (r.put (.base (.v undef)) hd).free fun k hk => hk.1⟩
      have go : vrunD P i.op t m n (Ex x u) → o.wp P a w K' Q ∨ (o.asks P a w ∧ LetsOut Q) := fun hk => .inl (Oper.wp_mono hK (by
        rcases hi with rfl | rfl | rfl | ⟨_, rfl⟩
        · exact Oper.wp_mono (fun a w h => h.e) (runD_ok hop hd r hF hk)
        · exact Oper.wp_mono (fun a w h => h.e) (runX_ok hop hd r hF hk)
        · exact Oper.wp_mono (fun a w h => h.e) (runM_ok hop hd r hF hk)
        · exact runY_ok hop hd r hF hE hk))
      obtain ⟨d', op', g'⟩ := i
      obtain ⟨rfl, rfl⟩ := hid
      cases hgd : o.guard with
      | none =>
        rw [hgd] at hg
        simp [cGuard] at hg; subst hg
        simp only [vinsD] at h
        simp only [Region.wanted, hgd, if_true]
        exact go h
      | some jw =>
        obtain ⟨j, want⟩ := jw
        rw [hgd] at hg
        simp only [cGuard] at hg
        split at hg
        · rename_i s hs
          split at hg
          · rename_i hsN
            simp at hg; subst hg
            simp only [vinsD] at h
            have hR := r.tm s
            have hval : a.tmps[s]? = some (a.tmps.getD s undef) := getD_of_lt (by rw [r.size]; exact hsN)
            split at h
            · rename_i b e
              rw [e] at hR
              have hy : yielded ops a.tmps j = some b := by
                simp only [yielded, hs, Option.bind_some, hval, hR.v_inv]
              by_cases hb : b = want
              · simp only [Region.wanted, hgd, hy, hb, beq_self_eq_true, if_true]
                exact go (h.1 hb)
              · have hne : (some b == some want) = false := some_ne hb
                simp only [Region.wanted, hgd, hy, hne]
                exact skip (h.2 (bool_ne hb))
            · rename_i vs e
              rw [e] at hR
              have hy : yielded ops a.tmps j = none := by
                simp only [yielded, hs, Option.bind_some, hval, hR.v_inv]
              have hne : ((none : Option Bool) == some want) = false := rfl
              simp only [Region.wanted, hgd, hy, hne]
              exact skip h
            · exact h.elim
          · cases hg
        · cases hg
    · cases hc
  · cases hc

end Go.Av
