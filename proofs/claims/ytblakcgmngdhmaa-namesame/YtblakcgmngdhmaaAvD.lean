/- What an operation asks (vop), how the model's operations are read (cop). -/
import Derived.Test.YtblakcgmngdhmaaAvC
import Derived.Laws.Cells
import Derived.Laws.CopyRow
namespace Go.Av

def memFrom : Nat → List MObj → Mem
  | _, [] => []
  | i, o :: r => (i, some o) :: memFrom (i + 1) r

abbrev memOf (rm : List MObj) : Mem := memFrom 0 rm

def callable (P : Program) (f : FuncId) : Bool :=
  match P.funcs[f]? with
  | some fn => !(fn.name == "runtime.NumGoroutine") && fn.body.isSome
  | none => false

/-- what is told of a function: what it gives for what is only read: a value, and objects that are the caller's from then on -/
def CallsA (P : Program) (f : FuncId) (args : List AV) (r : AV) (rm : List MObj) : Prop :=
  callable P f = true ∧
  ∀ (w : World) (S : Nat → Prop) (vals : Array Value), SB w S → args.length = vals.size →
    (∀ (i : Nat) x y, args[i]? = some x → vals[i]? = some y → R0 w S x y) →
    Calls P f vals w fun e w' => ∃ v S' κ', e = .returned v ∧ R w' S' κ' r v ∧ Ent w' S' κ' (memOf rm) (rm.length ≤ ·) ∧
      (∀ b, S' b → S b ∨ w.heap.size ≤ b) ∧
      (∀ k o l b, lookM (memOf rm) k = some o → κ' k = some l → l.has b → w.heap.size ≤ b) ∧ Go.RowKit.Below w.heap.size w w'

theorem CallsA.args {P : Program} {f : FuncId} {args args' : List AV} {r : AV} {rm : List MObj} (h : CallsA P f args' r rm) (hw : WkL args args') : CallsA P f args r rm := by
  obtain ⟨h1, h2⟩ := WkL_get hw
  refine ⟨h.1, fun w S vals hS hl hR => h.2 w S vals hS (by omega) (fun i x y hx hy => ?_)⟩
  have hi : i < args.length := by have := (List.getElem?_eq_some_iff.1 hx).1; omega
  exact Wk_R0 (hR i args[i] y (by simp [hi]) hy) (h2 i _ x (by simp [hi]) hx)

theorem CallsA.res {P : Program} {f : FuncId} {args : List AV} {r r' : AV} {rm : List MObj} (h : CallsA P f args r rm) (hw : Wk r r') : CallsA P f args r' rm := by
  refine ⟨h.1, fun w S vals hS hl hR => (h.2 w S vals hS hl hR).mono ?_⟩
  rintro e w' ⟨v, S', κ', h1, h2, h3⟩
  exact ⟨v, S', κ', h1, Wk_R h2 hw, h3⟩

/-- a call as the caller sees it -/
def CallVC (P : Program) (f : FuncId) (args : List AV) (m : Mem) (n : Nat) (K : AV → Mem → Nat → Prop) : Prop :=
  callable P f = true ∧
  ∀ (X : Ctx) (N : Nat) (w : World) (S : Nat → Prop) (κ : Nat → Option Loc) (t : Tmps) (a : Act) (vals : Array Value),
    Rel X N w S κ t m (n ≤ ·) a → args.length = vals.size → (∀ (i : Nat) x y, args[i]? = some x → vals[i]? = some y → R w S κ x y) →
    Calls P f vals w fun e w' => ∃ v x m' n' S' κ', e = .returned v ∧ K x m' n' ∧ R w' S' κ' x v ∧ Rel X N w' S' κ' t m' (n' ≤ ·) a

@[congr] theorem CallVC_congr {P : Program} {f : FuncId} {args : List AV} {m : Mem} {n : Nat} {K : AV → Mem → Nat → Prop} {p : Prop} (_ : (True ∧ True) = p) :
    CallVC P f args m n K = CallVC P f args m n K := rfl

/-- what is appended -/
def srcE (sz : Nat) (m : Mem) (x : AV) (K : List AV → Prop) : Prop :=
  match x with
  | .ro s ys => s = sz ∧ K ys
  | .v (.slice none 0 0) => K []
  | .arr k off len => match lookM m k with
    | some (.arr s ys) => s = sz ∧ K ((ys.drop off).take len)
    | _ => False
  | _ => False

def vapp (sz : Nat) (m : Mem) (n : Nat) (s x : AV) (K : AV → Mem → Prop) : Prop :=
  match s with
  | .v (.slice none 0 0) => srcE sz m x fun ys => ys.length ≤ 4294967296 ∧ K (.arr n 0 ys.length) [(n, some (.arr sz ys))]
  | .arr k off len => match lookM m k with
    | some (.arr s' xs) => s' = sz ∧ off + len = xs.length ∧ srcE sz m x fun ys => len + ys.length ≤ 4294967296 ∧
        K (.arr n 0 (len + ys.length)) [(n, some (.arr sz (xs.drop off ++ ys))), (k, none)]
    | _ => False
  | _ => False

/-- a row that is laid down -/
def stRow (m : Mem) (sz : Nat) (x : AV) (K : MRow → Mem → Prop) : Prop :=
  match x with
  | .arr q off len => match lookM m q with
    | some (.arr s xs) => s = sz ∧ off = 0 ∧ len = xs.length ∧ K (.own xs) [(q, none)]
    | _ => False
  | x => x.kf = true ∧ x.isCell = true ∧ K (.cell x) []

/-- cells out of the middle, which the reader names if there is one -/
def Chunk (cs : List AV) (i c : Nat) (K : List AV → Prop) : Prop :=
  match c with
  | 1 => Pick cs i fun y => K [y]
  | c => i + c ≤ cs.length ∧ K ((cs.drop i).take c)

@[congr] theorem Chunk_congr {cs : List AV} {i i' c : Nat} {K : List AV → Prop} {p : Prop} (_ : (True ∧ True) = p) (hi : i = i') : Chunk cs i c K = Chunk cs i' c K := by rw [hi]
theorem Chunk_one {cs : List AV} {i : Nat} {K : List AV → Prop} : Chunk cs i 1 K = Pick cs i fun y => K [y] := rfl
theorem Chunk.exact {cs : List AV} {i c : Nat} {G : List AV → Prop} (h : Chunk cs i c G) : ∃ ys, G ys ∧ ∀ G' : List AV → Prop, G' ys → Chunk cs i c G' := by
  unfold Chunk at h ⊢
  split at h
  · obtain ⟨y, hy, hG⟩ := h
    exact ⟨[y], hG, fun G' h => ⟨y, hy, h⟩⟩
  · exact ⟨_, h.2, fun G' h' => ⟨h.1, h'⟩⟩
theorem Chunk.mono {cs : List AV} {i c : Nat} {G G' : List AV → Prop} (h : Chunk cs i c G) (hG : ∀ ys, G ys → G' ys) : Chunk cs i c G' := by
  obtain ⟨ys, h1, h2⟩ := h.exact
  exact h2 _ (hG _ h1)

/-- a load -/
def vld (c : Option Nat) (m : Mem) (n : Nat) (a : AV) (K : AV → Mem → Prop) : Prop :=
  match a with
  | .ptr k off => match lookM m k with
    | some (.box cs) => ldc c cs off fun y => K y []
    | _ => False
  | .rp cs => ldc c cs 0 fun y => K y []
  | .elt k i j => match lookM m k with
    | some (.arr _ xs) => Pick xs i fun x => ldc c x.cells j fun y => K y []
    | some (.mat sz rows) => c = none ∧ j = 0 ∧ PickR rows i fun r => match r with
      | .own xs => K (.arr n 0 xs.length) [(n, some (.arr sz xs)), (k, some (.lent sz (rows.set i .gone) i n))]
      | .cell x => K x []
      | .gone => False
    | some (.lent sz rows _ _) => c = none ∧ j = 0 ∧ PickR rows i fun r => match r with
      | .own xs => K (.arr n 0 xs.length) [(n, some (.arr sz xs)), (k, some (.lent sz (rows.set i .gone) i n))]
      | .cell x => K x []
      | .gone => False
    | _ => False
  | _ => False

/-- of all but calls: K: the value, and what of the own objects turns -/
def vop (o : MOp) (t : Tmps) (m : Mem) (n : Nat) (K : AV → Mem → Prop) : Prop :=
  match o with
  | .mov x => K (ev t x) []
  | .pick c a b => match ev t c with
    | .v (.bool c) => Fork c (K (ev t a) []) (K (ev t b) [])
    | _ => False
  | .bin op x y => match ev t x, ev t y with
    | .v (.int k a), .v (.int k' b) => match op with
      | .shl => vshift .shl k a b fun r => K (.v r) []
      | .shr => vshift .shr k a b fun r => K (.v r) []
      | op => k = k' ∧ vbin op k a b fun r => K (.v r) []
    | _, _ => False
  | .eqb neg x y => match ev t x, ev t y with
    | .v (.bool a), .v (.bool b) => K (.v (.bool (bif neg then a != b else a == b))) []
    | _, _ => False
  | .not x => match ev t x with
    | .v (.bool a) => K (.v (.bool !a)) []
    | _ => False
  | .neg x => match ev t x with
    | .v (.int k a) => K (.v (.int k (k.wrap (0 - a)))) []
    | _ => False
  | .conv k x => match ev t x with
    | .v (.int _ a) => K (.v (.int k (k.wrap a))) []
    | _ => False
  | .new zs => K (.ptr n 0) [(n, some (.box (zs.map .v)))]
  | .box x => okVal (ev t x) = true ∧ K (.ptr n 0) [(n, some (.box (ev t x).cells))]
  | .build zs parts => (parts.all fun p => okVal (ev t p.2.2)) = true ∧ fillL t (zs.map .v) parts fun cs => K (.agg cs) []
  | .ld c a => vld c m n (ev t a) K
  | .ldm a => vld none m n (ev t a) K
  | .st c a x => match ev t a with
    | .ptr k off => match lookM m k with
      | some (.box cs) => (ev t x).cells.length = c ∧ off + c ≤ cs.length ∧ allCell (ev t x).cells = true ∧
          K (.v undef) [(k, some (.box (splice cs off (ev t x).cells)))]
      | _ => False
    | .elt k i 0 => match lookM m k with
      | some (.arr sz xs) => (ev t x).cells.length = c ∧ c = sz ∧ i < xs.length ∧ allCell (ev t x).cells = true ∧ kfs (ev t x).cells = true ∧
          K (.v undef) [(k, some (.arr sz (xs.set i (ev t x))))]
      | some (.mat sz rows) => c = 1 ∧ i < rows.length ∧ stRow m sz (ev t x) fun r u => K (.v undef) ((k, some (.mat sz (rows.set i r))) :: u)
      | some (.lent sz rows _ _) => c = 1 ∧ i < rows.length ∧ stRow m sz (ev t x) fun r u => K (.v undef) ((k, some (.mat sz (rows.set i r))) :: u)
      | _ => False
    | .elt k i j => match lookM m k with
      | some (.arr sz xs) => (ev t x).cells.length = c ∧ j + c ≤ sz ∧ allCell (ev t x).cells = true ∧ kfs (ev t x).cells = true ∧ Pick xs i fun e =>
          K (.v undef) [(k, some (.arr sz (xs.set i (.agg (splice e.cells j (ev t x).cells)))))]
      | _ => False
    | _ => False
  | .faddr off x => match ev t x with
    | .ptr k o => K (.ptr k (o + off)) []
    | .rp cs => off ≤ cs.length ∧ K (.rp (cs.drop off)) []
    | .elt k i j => K (.elt k i (j + off)) []
    | _ => False
  | .fld c off x => match ev t x with
    | .agg cs => ldc c cs off fun y => K y []
    | _ => False
  | .iaddr sz x i => match ev t x, ev t i with
    | .ro s xs, .v (.int _ i) => s = sz ∧ 0 ≤ i ∧ Pick xs i.toNat fun y => K (.rp y.cells) []
    | .arr k off len, .v (.int _ i) => match lookM m k with
      | some (.arr s _) => s = sz ∧ 0 ≤ i ∧ i < len ∧ K (.elt k (off + i.toNat) 0) []
      | some (.mat _ _) => 1 = sz ∧ 0 ≤ i ∧ i < len ∧ K (.elt k (off + i.toNat) 0) []
      | some (.lent _ _ _ _) => 1 = sz ∧ 0 ≤ i ∧ i < len ∧ K (.elt k (off + i.toNat) 0) []
      | _ => False
    | _, _ => False
  | .nchk x => match ev t x with
    | .ptr k o => K (.ptr k o) []
    | .rp cs => K (.rp cs) []
    | .elt k i j => K (.elt k i j) []
    | _ => False
  | .aaddr c L x i => match ev t x, ev t i with
    | .ptr k off, .v (.int _ i) => 0 ≤ i ∧ i < L ∧ K (.ptr k (off + i.toNat * c)) []
    | .rp cs, .v (.int _ i) => 0 ≤ i ∧ i < L ∧ Chunk cs (i.toNat * c) c fun ys => K (.rp ys) []
    | _, _ => False
  | .idx L x i => match ev t x, ev t i with
    | .agg cs, .v (.int _ i) => 0 ≤ i ∧ i < L ∧ Pick cs i.toNat fun y => K y []
    | _, _ => False
  | .ext i x => match ev t x with
    | .tup xs => ∃ y, xs[i]? = some y ∧ K y []
    | _ => False
  | .len x => match ev t x with
    | .ro _ xs => K (.v (.int .i64 xs.length)) []
    | .arr _ _ len => K (.v (.int .i64 len)) []
    | .v (.slice _ len _) => K (.v (.int .i64 len)) []
    | _ => False
  | .mkfn f caps => K (.fn f (evs t caps)) []
  | .blds sz xs => okElems sz (evs t xs) = true ∧ K (.arr n 0 xs.length) [(n, some (.arr sz (evs t xs)))]
  | .bldo sz xs => okElems sz (frzL [] m (evs t xs)) = true ∧ ((kysL (evs t xs)).all fun k => (lookM m k).isSome) = true ∧
      K (.arr n 0 xs.length) ((n, some (.arr sz (frzL [] m (evs t xs)))) :: kills (kysL (evs t xs)))
  | .bldr sz xs => okElems sz (evs t xs) = true ∧ K (.ro sz (evs t xs)) []
  | .mm isMin x y => match ev t x, ev t y with
    | .v (.int k a), .v (.int k' b) => k = k' ∧ K (.v (.int k (bif isMin then (if b < a then b else a) else (if b > a then b else a)))) []
    | _, _ => False
  | .app sz s x => vapp sz m n (ev t s) (ev t x) K
  | .mks z l c => match ev t l, ev t c with
    | .v (.int _ a), .v (.int _ b) => 0 ≤ a ∧ a ≤ b ∧ b ≤ 4294967296 ∧ K (.arr n 0 a.toNat) [(n, some (.arr z.cells.length (List.replicate a.toNat z)))]
    | _, _ => False
  | .mkm sz l c => match ev t l, ev t c with
    | .v (.int _ a), .v (.int _ b) => 0 ≤ a ∧ a ≤ b ∧ b ≤ 4294967296 ∧ Either (K (.arr n 0 a.toNat) [(n, some (.arr 1 (List.replicate a.toNat (.v (.slice none 0 0)))))])
        (K (.arr n 0 a.toNat) [(n, some (.mat sz (List.replicate a.toNat (.own []))))])
    | _, _ => False
  | .mnew => K (.mp n) [(n, some (.map []))]
  | .mget kk z ok x i => match ev t i with
    | .v (.int k a) => k = kk ∧ mapE m (ev t x) fun es => MKeys kk es ∧ K (bif ok then .tup [(mfind a es).getD z, .v (.bool (mfind a es).isSome)] else (mfind a es).getD z) []
    | _ => False
  | .mset kk x i y => match ev t x, ev t i with
    | .mp k', .v (.int k a) => match lookM m k' with
      | some (.map es) => k = kk ∧ MKeys kk es ∧ (ev t y).kd = true ∧ K (.v undef) [(k', some (.map (mput kk a (ev t y) es)))]
      | _ => False
    | _, _ => False
  | .mlen x => mapE m (ev t x) fun es => K (.v (.int .i64 es.length)) []
  | .mrng x => match ev t x with
    | .rm es => K (.ptr n 0) [(n, some (.iter es none))]
    | .v (.map none) => K (.ptr n 0) [(n, some (.iter [] none))]
    | _ => False
  | .next x => match ev t x with
    | .ptr k 0 => match lookM m k with
      | some (.iter rest _) => NextVC rest (K (.tup [.v (.bool false)]) []) fun p l => K (.tup [.v (.bool true), .v p.1, p.2]) [(k, some (.iter l (some p)))]
      | _ => False
    | _ => False
  | .entry x => match ev t x with
    | .ptr k 0 => match lookM m k with
      | some (.iter _ (some p)) => K (.tup [.v p.1, p.2]) []
      | _ => False
    | _ => False
  | .isnil ng x => NilVC (ev t x) fun b => K (.v (.bool (b != ng))) []
  | .nilm ng x => match ev t x with
    | .mp _ => K (.v (.bool (false != ng))) []
    | .rm _ => K (.v (.bool (false != ng))) []
    | .v (.map none) => K (.v (.bool (true != ng))) []
    | _ => False
  | .eqa sz ng x y => match ev t x, ev t y with
    | .agg xs, .agg ys => EqVC sz xs ys fun b => K (.v (.bool (b != ng))) []
    | _, _ => False
  | .cap x => match ev t x with
    | .v (.slice _ _ c) => K (.v (.int .i64 c)) []
    | _ => False
  | .appz z s x => match ev t s, ev t x with
    | .v (.slice none 0 0), .v (.int _ a) => 0 ≤ a ∧ a ≤ 4294967296 ∧ K (.arr n 0 a.toNat) [(n, some (.arr z.cells.length (List.replicate a.toNat z)))]
    | _, _ => False
  | .b2s x => srcE 1 m (ev t x) fun ys => Bytes ys fun s => K (.v (.string s)) []
  | .sget z ok x i => match ev t i with
    | .v (.string a) => mapE m (ev t x) fun es => SKeys es ∧ K (bif ok then .tup [(sfind a es).getD z, .v (.bool (sfind a es).isSome)] else (sfind a es).getD z) []
    | _ => False
  | .sset x i y => match ev t x, ev t i with
    | .mp k', .v (.string a) => match lookM m k' with
      | some (.map es) => SKeys es ∧ (ev t y).kd = true ∧ K (.v undef) [(k', some (.map (sput a (ev t y) es)))]
      | _ => False
    | _, _ => False
  | .aget ks z ok x i => match ev t i with
    | .agg xs => mapE m (ev t x) fun es => KeyVC ks xs fun c => AKeys ks es ∧ K (bif ok then .tup [(kfind c es).getD z, .v (.bool (kfind c es).isSome)] else (kfind c es).getD z) []
    | _ => False
  | .aset ks x i y => match ev t x, ev t i with
    | .mp k', .agg xs => match lookM m k' with
      | some (.map es) => KeyVC ks xs fun c => AKeys ks es ∧ (ev t y).kd = true ∧ K (.v undef) [(k', some (.map (kput c (ev t y) es)))]
      | _ => False
    | _, _ => False
  | .never => False
  | .slc sz x lo hi => match ev t x with
    | .ro s xs => bnd t 0 lo fun l => bnd t xs.length hi fun h => s = sz ∧ 0 ≤ l ∧ l ≤ h ∧ h ≤ xs.length ∧ K (.ro s ((xs.take h.toNat).drop l.toNat)) []
    | .arr k off len => match lookM m k with
      | some (.arr s _) => bnd t 0 lo fun l => bnd t len hi fun h => s = sz ∧ 0 ≤ l ∧ l ≤ h ∧ h ≤ len ∧ K (.arr k (off + l.toNat) (h.toNat - l.toNat)) []
      | _ => False
    | .v (.slice none 0 0) => bnd t 0 lo fun l => bnd t 0 hi fun h => l = 0 ∧ h = 0 ∧ K (.v (.slice none 0 0)) []
    | _ => False
  | .call _ _ => False
  | .callv _ _ => False
  | .callx _ _ => False
  | .callvx _ _ => False
  | .cally _ _ _ => False

def gfind (g : Nat) : List (Nat × List AV) → Option (List AV)
  | [] => none
  | (h, cs) :: r => bif Nat.beq h g then some cs else gfind g r

theorem gfind_mem {g : Nat} {cs : List AV} : ∀ {l : List (Nat × List AV)}, gfind g l = some cs → (g, cs) ∈ l := by
  intro l
  induction l with
  | nil => intro h; cases h
  | cons p l ih =>
    obtain ⟨h, ds⟩ := p
    intro e
    simp only [gfind] at e
    cases hb : Nat.beq h g with
    | true =>
      rw [hb] at e
      simp only [cond_true, Option.some.injEq] at e
      have := Nat.eq_of_beq_eq_true hb
      subst this e
      simp
    | false =>
      rw [hb] at e
      exact List.mem_cons_of_mem _ (ih e)

def cOpd : Operand → Option Opd
  | .tmp n => some (.t n)
  | .const v => some (.c (.v v))
  | .func f => some (.c (.fn f []))
  | .global g => (gfind g globs).map fun cs => .c (.rp cs)

def cOpds : List Operand → Option (List Opd)
  | [] => some []
  | x :: r => match cOpd x, cOpds r with
    | some x', some r' => some (x' :: r')
    | _, _ => none

def sizeT (P : Program) (t : TypeId) : Option Nat := (P.info? t).map (·.size)

def isRowT (P : Program) (t : TypeId) : Option Bool :=
  match P.underlying t with
  | some (.struct _) => some true
  | some (.array _ _) => some true
  | some _ => some false
  | none => none

/-- how a load of this type goes: one cell, or so many -/
def ldT (P : Program) (t : TypeId) : Option (Option Nat) :=
  match isRowT P t, sizeT P t with
  | some true, some n => some (some n)
  | some false, some 1 => some none
  | _, _ => none

/-- an element type: how many cells; its zero value -/
def elemT (P : Program) (e : TypeId) : Option (Nat × AV) :=
  match P.info? e, isRowT P e with
  | some i, some r => match i.zero with
    | some z => if i.size ≠ 0 ∧ i.bytes ≤ 4096 ∧ z.cells.size = i.size ∧ allCell (z.cells.toList.map .v) = true then
        (if r then some (i.size, .agg (z.cells.toList.map .v)) else if i.size = 1 ∧ (AV.v z).isCell = true then some (1, .v z) else none) else none
    | none => none
  | _, _ => none

def two (P : Program) (ts : Array TypeId) : Option (TypeDesc × TypeDesc) :=
  match ts.toList with
  | [t, t'] => match P.underlying t, P.underlying t' with
    | some d, some d' => some (d, d')
    | _, _ => none
  | _ => none

def c1 (f : Opd → MOp) (x : Operand) : Option MOp := (cOpd x).map f
def c2 (f : Opd → Opd → MOp) (x y : Operand) : Option MOp :=
  match cOpd x, cOpd y with
  | some x', some y' => some (f x' y')
  | _, _ => none

def isNilAV : AV → Bool
  | .v (.slice none 0 0) => true
  | _ => false

def isNilOp : Operand → Bool
  | .const (.slice none 0 0) => true
  | _ => false

def isNilMp : Operand → Bool
  | .const (.map none) => true
  | _ => false

def cOpt : Option Operand → Option (Option Opd)
  | none => some none
  | some x => (cOpd x).map some

def isIntT (P : Program) (t : TypeId) : Bool :=
  match P.underlying t with
  | some (.int _) => true
  | _ => false
def fldsEq (P : Program) : Nat → List Field → Bool
  | _, [] => true
  | i, f :: r => f.name != "_" && f.offset == i && isIntT P f.type && fldsEq P (i + 1) r
/-- how many numbers a value of this type is, if it is nothing else -/
def eqT (P : Program) (t : TypeId) : Option Nat :=
  match P.underlying t with
  | some (.struct fs) => if fldsEq P 0 fs.toList && !P.stoodInHeld t && !P.eqGuardType P.depth t then some fs.size else none
  | some (.array len e) => if isIntT P e && sizeT P e == some 1 && !P.eqGuardType P.depth t then some len else none
  | _ => none

def cBin (P : Program) (op : BinOp) (t : TypeId) (x y : Operand) : Option MOp :=
  match P.underlying t, op with
  | some (.int _), op => c2 (.bin op) x y
  | some .bool, .eql => c2 (.eqb false) x y
  | some .bool, .neq => c2 (.eqb true) x y
  | some (.slice _), .eql => if isNilOp y then c1 (.isnil false) x else none
  | some (.slice _), .neq => if isNilOp y then c1 (.isnil true) x else none
  | some (.map _ _), .eql => if isNilMp y then c1 (.nilm false) x else none
  | some (.map _ _), .neq => if isNilMp y then c1 (.nilm true) x else none
  | _, .eql => match eqT P t with
    | some n => c2 (.eqa n false) x y
    | none => none
  | _, .neq => match eqT P t with
    | some n => c2 (.eqa n true) x y
    | none => none
  | _, _ => none

def c3 (f : Opd → Opd → Opd → MOp) (x y z : Operand) : Option MOp :=
  match cOpd x, cOpd y, cOpd z with
  | some x', some y', some z' => some (f x' y' z')
  | _, _, _ => none

def zeroAV : Value → AV
  | .agg cs => .agg (cs.toList.map .v)
  | z => .v z

/-- a map whose keys are numbers: their kind; the elements' zero value -/
def mapT (P : Program) (t : TypeId) : Option (IntKind × AV) :=
  match P.underlying t with
  | some (.map k e) => match P.underlying k, (P.info? e).bind (·.zero) with
    | some (.int kk), some z => some (kk, zeroAV z)
    | _, _ => none
  | _ => none

/-- a map whose keys are strings: the elements' zero value -/
def mapS (P : Program) (t : TypeId) : Option AV :=
  match P.underlying t with
  | some (.map k e) => match P.underlying k, (P.info? e).bind (·.zero) with
    | some .string, some z => some (zeroAV z)
    | _, _ => none
  | _ => none

/-- the cells of a struct of numbers and truths -/
def ckT (P : Program) (t : TypeId) : Option CK :=
  match P.underlying t with
  | some (.int k) => some (.n k)
  | some .bool => some .b
  | _ => none
def cksF (P : Program) : Nat → List Field → Option (List CK)
  | _, [] => some []
  | i, f :: r => if f.name != "_" && f.offset == i then match ckT P f.type, cksF P (i + 1) r with
      | some k, some ks => some (k :: ks)
      | _, _ => none
    else none
/-- a map whose keys are such structs: their cells; the elements' zero value -/
def mapK (P : Program) (t : TypeId) : Option (List CK × AV) :=
  match P.underlying t with
  | some (.map k e) => match P.underlying k, (P.info? e).bind (·.zero) with
    | some (.struct fs), some z => if !P.stoodInHeld k then match cksF P 0 fs.toList with
        | some ks => some (ks, zeroAV z)
        | none => none
      else none
    | _, _ => none
  | _ => none

def cParts (fs : Array Field) (P : Program) : List (Nat × Operand) → Option (List (Nat × Nat × Opd))
  | [] => some []
  | (i, x) :: r => match fs[i]?, cOpd x, cParts fs P r with
    | some f, some x', some r' => match sizeT P f.type with
      | some n => some ((f.offset, n, x') :: r')
      | none => none
    | _, _, _ => none

def cPartsA (sz : Nat) : List (Nat × Operand) → Option (List (Nat × Nat × Opd))
  | [] => some []
  | (i, x) :: r => match cOpd x, cPartsA sz r with
    | some x', some r' => some ((i * sz, sz, x') :: r')
    | _, _ => none

def cop (P : Program) (o : Oper) : Option MOp :=
  match o.op with
  | .move x => c1 .mov x
  | .assign x => c1 .mov x
  | .pick c a b => match cOpd c, cOpd a, cOpd b with
    | some c', some a', some b' => some (.pick c' a' b')
    | _, _, _ => none
  | .binOp op t x y _ => cBin P op t x y
  | .unOp .not _ x => c1 .not x
  | .unOp .neg _ x => c1 .neg x
  | .convert s d x => match P.underlying s, P.underlying d with
    | some _, some (.int k) => c1 (.conv k) x
    | some (.slice e), some .string => match P.underlying e with
      | some (.int .u8) => c1 .b2s x
      | _ => none
    | _, _ => none
  | .alloc t => match P.info? t with
    | some { zero := some z, .. } => some (.new z.cells.toList)
    | _ => none
  | .box _ x => c1 .box x
  | .build t parts => match P.info? t, P.underlying t with
    | some { zero := some z, .. }, some (.struct fs) => if fs.all (fun f => (P.info? f.type).isSome) then match cParts fs P parts.toList with
        | some ps => some (.build z.cells.toList ps)
        | none => none
      else none
    | some { zero := some z, .. }, some (.array _ e) => match sizeT P e with
      | some k => match cPartsA k parts.toList with
        | some ps => some (.build z.cells.toList ps)
        | none => none
      | none => none
    | _, _ => none
  | .load t x => match ldT P t with
    | some n => c1 (.ld n) x
    | none => none
  | .store t x y => match sizeT P t with
    | some n => c2 (.st n) x y
    | none => none
  | .fieldAddr s x f => match P.underlying s with
    | some (.struct fs) => match fs[f]? with
      | some fd => match sizeT P fd.type with
        | some (_ + 1) => c1 (.faddr fd.offset) x
        | _ => none
      | none => none
    | _ => none
  | .field s x f => match P.underlying s with
    | some (.struct fs) => match fs[f]? with
      | some fd => match ldT P fd.type with
        | some n => c1 (.fld n fd.offset) x
        | none => none
      | none => none
    | _ => none
  | .index t x i => match P.underlying t with
    | some (.array L e) => match ldT P e with
      | some none => c2 (.idx L) x i
      | _ => none
    | _ => none
  | .indexAddr t x i => match P.underlying t with
    | some (.slice e) => match sizeT P e with
      | some n => c2 (.iaddr n) x i
      | none => none
    | some (.array L e) => match sizeT P e with
      | some n => c2 (.aaddr n L) x i
      | none => none
    | _ => none
  | .nilCheck x => c1 .nchk x
  | .slice t x lo hi none => match P.underlying t with
    | some (.slice e) => match sizeT P e, cOpd x, cOpt lo, cOpt hi with
      | some n, some x', some lo', some hi' => some (.slc n x' lo' hi')
      | _, _, _, _ => none
    | _ => none
  | .extract x i => c1 (.ext i) x
  | .makeMap t none => match P.underlying t with
    | some (.map _ _) => some .mnew
    | _ => none
  | .lookup t x i ok => match mapT P t with
    | some (kk, z) => c2 (.mget kk z ok) x i
    | none => match mapS P t with
      | some z => c2 (.sget z ok) x i
      | none => match mapK P t with
        | some (ks, z) => c2 (.aget ks z ok) x i
        | none => none
  | .mapUpdate t x i y => match mapT P t with
    | some (kk, _) => c3 (.mset kk) x i y
    | none => match mapS P t with
      | some _ => c3 .sset x i y
      | none => match mapK P t with
        | some (ks, _) => c3 (.aset ks) x i y
        | none => none
  | .range t x => match P.underlying t with
    | some (.map _ _) => c1 .mrng x
    | _ => none
  | .next x false => c1 .next x
  | .entry x => c1 .entry x
  | .makeFunc (.func f) first caps => if first.size = 0 then (cOpds caps.toList).map (.mkfn f) else none
  | .call { callee := .builtin .len, args, argTypes } => match args.toList, (argTypes[0]?).bind P.underlying with
    | [x], some (.slice _) => c1 .len x
    | [x], some (.map _ _) => c1 .mlen x
    | _, _ => none
  | .call { callee := .builtin .cap, args, argTypes } => match args.toList, (argTypes[0]?).bind P.underlying with
    | [x], some (.slice _) => c1 .cap x
    | _, _ => none
  | .call { callee := .builtin .min, args, argTypes } => match args.toList, (argTypes[0]?).bind P.underlying with
    | [x, y], some (.int _) => c2 (.mm true) x y
    | _, _ => none
  | .call { callee := .builtin .max, args, argTypes } => match args.toList, (argTypes[0]?).bind P.underlying with
    | [x, y], some (.int _) => c2 (.mm false) x y
    | _, _ => none
  | .call { callee := .builtin .append, args, argTypes } => match args.toList, two P argTypes with
    | [x, y], some (.slice e, .slice _) => match elemT P e with
      | some (sz, _) => c2 (.app sz) x y
      | none => none
    | [x, y], some (.slice e, .int _) => match elemT P e with
      | some (_, z) => c2 (.appz z) x y
      | none => none
    | _, _ => none
  | .makeSlice t l c => match P.underlying t with
    | some (.slice e) => match elemT P e with
      | some (_, z) => if isNilAV z then (match P.underlying e with
          | some (.slice e2) => match sizeT P e2 with
            | some n => c2 (.mkm n) l c
            | none => c2 (.mks z) l c
          | _ => c2 (.mks z) l c) else c2 (.mks z) l c
      | none => none
    | _ => none
  | .buildSlice t len parts => match P.underlying t with
    | some (.slice e) => match elemT P e with
      | some (sz, _) => if len * sz ≤ 2 ^ 24 ∧ parts.toList.map (·.1) = List.range len then (cOpds (parts.toList.map (·.2))).map (.blds sz) else none
      | none => none
    | _ => none
  | .panic _ => some .never
  | .makeInterface _ _ => some .never
  | _ => none

def cCall (o : Oper) : Option MOp :=
  match o.op with
  | .call { callee := .value (.func f), args, .. } => (cOpds args.toList).map (.call f)
  | .call { callee := .value (.tmp g), args, .. } => (cOpds args.toList).map (.callv (.t g))
  | _ => none

end Go.Av
