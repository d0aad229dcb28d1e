/- The small language of operations, how the model's operations are read into it, and what each asks. -/
import Derived.Test.YtelcipdpfoipiaaAvA
namespace Go.Av

/-- a cell of a key: a number of this kind, or a truth -/
inductive CK where
  | n (k : IntKind)
  | b

inductive Opd where
  | t (n : Nat)
  | c (x : AV)

inductive MOp where
  | mov (x : Opd)
  | pick (c a b : Opd)
  | bin (op : BinOp) (x y : Opd)
  | eqb (neg : Bool) (x y : Opd)
  | not (x : Opd)
  | neg (x : Opd)
  | conv (k : IntKind) (x : Opd)
  | new (zs : List Value)
  | box (x : Opd)
  | build (zs : List Value) (parts : List (Nat × Nat × Opd))
  | ld (n : Option Nat) (a : Opd)
  | ldm (a : Opd)
  | st (n : Nat) (a x : Opd)
  | faddr (off : Nat) (x : Opd)
  | fld (n : Option Nat) (off : Nat) (x : Opd)
  | iaddr (sz : Nat) (x i : Opd)
  | nchk (x : Opd)
  | aaddr (c L : Nat) (x i : Opd)
  | idx (L : Nat) (x i : Opd)
  | ext (i : Nat) (x : Opd)
  | len (x : Opd)
  | mkfn (f : FuncId) (caps : List Opd)
  | blds (sz : Nat) (xs : List Opd)
  | bldo (sz : Nat) (xs : List Opd)
  | bldr (sz : Nat) (xs : List Opd)
  | mm (isMin : Bool) (x y : Opd)
  | app (sz : Nat) (s x : Opd)
  | mks (z : AV) (l c : Opd)
  | mkm (sz : Nat) (l c : Opd)
  | mnew
  | mget (kk : IntKind) (z : AV) (ok : Bool) (x i : Opd)
  | mset (kk : IntKind) (x i y : Opd)
  | mlen (x : Opd)
  | mrng (x : Opd)
  | next (x : Opd)
  | entry (x : Opd)
  | isnil (ng : Bool) (x : Opd)
  | eqa (sz : Nat) (ng : Bool) (x y : Opd)
  | cap (x : Opd)
  | appz (z : AV) (s x : Opd)
  | b2s (x : Opd)
  | sget (z : AV) (ok : Bool) (x i : Opd)
  | sset (x i y : Opd)
  | aget (ks : List CK) (z : AV) (ok : Bool) (x i : Opd)
  | aset (ks : List CK) (x i y : Opd)
  | never
  | slc (sz : Nat) (x : Opd) (lo hi : Option Opd)
  | call (f : FuncId) (args : List Opd)
  | callv (g : Opd) (args : List Opd)
  | callx (f : FuncId) (args : List Opd)
  | callvx (g : Opd) (args : List Opd)

def ev (t : Tmps) : Opd → AV
  | .t n => look t n
  | .c x => x

def evs (t : Tmps) : List Opd → List AV
  | [] => []
  | x :: r => ev t x :: evs t r

/-- a bound of a part of a slice -/
def bnd (t : Tmps) (d : Nat) (x : Option Opd) (K : Int → Prop) : Prop :=
  match x with
  | none => K d
  | some x => match ev t x with
    | .v (.int _ a) => K a
    | _ => False

/-- is a slice nil: of an empty one it is not known -/
def NilVC (x : AV) (K : Bool → Prop) : Prop :=
  match x with
  | .v (.slice none _ _) => K true
  | .v (.slice (some _) _ _) => K false
  | .ro _ xs => K false ∧ (xs = [] → K true)
  | .arr _ _ len => K false ∧ (len = 0 → K true)
  | _ => False

def nilSure (x : AV) : Prop :=
  match x with
  | .ro _ xs => xs ≠ []
  | .arr _ _ len => len ≠ 0
  | _ => True

@[congr] theorem NilVC_congr {x x' : AV} {K : Bool → Prop} {p : Prop} (_ : (True ∧ True) = p) (hx : x = x') : NilVC x K = NilVC x' K := by rw [hx]
theorem NilVC_nil {a b : Nat} {K : Bool → Prop} : NilVC (.v (.slice none a b)) K = K true := rfl
theorem NilVC_cons {s : Nat} {x : AV} {xs : List AV} {K : Bool → Prop} : NilVC (.ro s (x :: xs)) K = K false := by simp [NilVC]
theorem NilVC_arr {k o l : Nat} {K : Bool → Prop} : NilVC (.arr k o (l + 1)) K = K false := by simp [NilVC]
theorem NilVC.ro {s : Nat} {xs : List AV} {K : Bool → Prop} (h : xs ≠ []) (hK : K false) : NilVC (.ro s xs) K := ⟨hK, fun h' => (h h').elim⟩
theorem NilVC.arr {k o l : Nat} {K : Bool → Prop} (h : l ≠ 0) (hK : K false) : NilVC (.arr k o l) K := ⟨hK, fun h' => (h h').elim⟩

/-- numbers compared, cell by cell -/
def eqc : List AV → List AV → Option Bool
  | [], [] => some true
  | .v (.int k a) :: r, .v (.int k' b) :: s => if k = k' then (eqc r s).map fun c => (a == b) && c else none
  | _, _ => none
/-- are two structs, or arrays, of so many numbers the same -/
def EqVC (sz : Nat) (xs ys : List AV) (K : Bool → Prop) : Prop := xs.length = sz ∧ ∃ b, eqc xs ys = some b ∧ K b
@[congr] theorem EqVC_congr {sz : Nat} {xs ys xs' ys' : List AV} {K : Bool → Prop} {p : Prop} (_ : (True ∧ True) = p) (hx : xs = xs') (hy : ys = ys') : EqVC sz xs ys K = EqVC sz xs' ys' K := by rw [hx, hy]
theorem EqVC.mk {sz : Nat} {xs ys : List AV} {K : Bool → Prop} {b : Bool} (hl : xs.length = sz) (h : eqc xs ys = some b) (hK : K b) : EqVC sz xs ys K := ⟨hl, b, h, hK⟩
theorem EqVC.mono {sz : Nat} {xs ys : List AV} {K K' : Bool → Prop} (h : EqVC sz xs ys K) (hK : ∀ b, K b → K' b) : EqVC sz xs ys K' := by
  obtain ⟨hl, b, h1, h2⟩ := h; exact ⟨hl, b, h1, hK b h2⟩
theorem eqc_ints {k : IntKind} : ∀ {l m : List Int}, l.length = m.length → eqc (l.map fun x => .v (.int k x)) (m.map fun x => .v (.int k x)) = some (decide (l = m))
  | [], [], _ => rfl
  | x :: l, y :: m, h => by
    simp only [List.map_cons, eqc, if_true, eqc_ints (l := l) (m := m) (by simpa using h), Option.map_some]
    by_cases hx : x = y <;> by_cases hl : l = m <;> simp [hx, hl]

/-- operations on numbers -/
def vbin (op : BinOp) (k : IntKind) (a b : Int) (K : Value → Prop) : Prop :=
  match op with
  | .add => K (.int k (k.wrap (a + b)))
  | .sub => K (.int k (k.wrap (a - b)))
  | .mul => K (.int k (k.wrap (a * b)))
  | .quo => b ≠ 0 ∧ K (.int k (k.wrap (a.tdiv b)))
  | .rem => b ≠ 0 ∧ K (.int k (a.tmod b))
  | .and => K (.int k (k.wrap (BitVec.ofInt k.bits a &&& BitVec.ofInt k.bits b).toNat))
  | .or => K (.int k (k.wrap (BitVec.ofInt k.bits a ||| BitVec.ofInt k.bits b).toNat))
  | .xor => K (.int k (k.wrap (BitVec.ofInt k.bits a ^^^ BitVec.ofInt k.bits b).toNat))
  | .andNot => K (.int k (k.wrap (BitVec.ofInt k.bits a &&& ~~~(BitVec.ofInt k.bits b)).toNat))
  | .eql => K (.bool (a == b))
  | .neq => K (.bool (a != b))
  | .lss => K (.bool (decide (a < b)))
  | .leq => K (.bool (decide (a ≤ b)))
  | .gtr => K (.bool (decide (a > b)))
  | .geq => K (.bool (decide (a ≥ b)))
  | _ => False

def vshift (op : BinOp) (k : IntKind) (a b : Int) (K : Value → Prop) : Prop :=
  match op with
  | .shl => 0 ≤ b ∧ K (.int k (k.wrap (a * 2 ^ (min b.toNat k.bits))))
  | .shr => 0 ≤ b ∧ K (.int k (a.fdiv (2 ^ (min b.toNat k.bits))))
  | _ => False

/-- an element of a list, which the reader names -/
def Pick (xs : List AV) (i : Nat) (K : AV → Prop) : Prop := ∃ y, xs[i]? = some y ∧ K y

@[congr] theorem Pick_congr {xs : List AV} {i : Nat} {K : AV → Prop} {p : Prop} (_ : (True ∧ True) = p) : Pick xs i K = Pick xs i K := rfl

/-- one way or the other -/
abbrev Split (b w : Bool) (A B : Prop) : Prop := (b = w → A) ∧ (b = (!w) → B)
abbrev Fork (b : Bool) (A B : Prop) : Prop := (b = true → A) ∧ (b = false → B)

@[congr] theorem Split_congr {b b' w : Bool} {A B p : Prop} (_ : (True ∧ True) = p) (hb : b = b') : Split b w A B = Split b' w A B := by rw [hb]
@[congr] theorem Fork_congr {b b' : Bool} {A B p : Prop} (_ : (True ∧ True) = p) (hb : b = b') : Fork b A B = Fork b' A B := by rw [hb]
theorem Split_tt {A B : Prop} : Split true true A B = A := by simp [Split]
theorem Split_ff {A B : Prop} : Split false false A B = A := by simp [Split]
theorem Split_tf {A B : Prop} : Split true false A B = B := by simp [Split]
theorem Split_ft {A B : Prop} : Split false true A B = B := by simp [Split]
theorem Fork_t {A B : Prop} : Fork true A B = A := by simp [Fork]
theorem Fork_f {A B : Prop} : Fork false A B = B := by simp [Fork]
theorem Split.mk {b w : Bool} {A B : Prop} (h1 : b = w → A) (h2 : b = (!w) → B) : Split b w A B := ⟨h1, h2⟩
theorem Fork.mk {b : Bool} {A B : Prop} (h1 : b = true → A) (h2 : b = false → B) : Fork b A B := ⟨h1, h2⟩

theorem Pick.mk {xs : List AV} {i : Nat} {K : AV → Prop} (y : AV) (h : xs[i]? = some y) (hK : K y) : Pick xs i K := ⟨y, h, hK⟩

/-- the cells of a load -/
def ldc (n : Option Nat) (cs : List AV) (off : Nat) (K : AV → Prop) : Prop :=
  match n with
  | none => ∃ y, cs[off]? = some y ∧ K y
  | some n => off + n ≤ cs.length ∧ K (.agg ((cs.drop off).take n))

def splice (cs : List AV) (off : Nat) (xs : List AV) : List AV :=
  match cs, off with
  | [], _ => []
  | c :: cs, 0 => match xs with
    | [] => c :: cs
    | x :: xs => x :: splice cs 0 xs
  | c :: cs, off + 1 => c :: splice cs off xs

def fillL (t : Tmps) (cs : List AV) : List (Nat × Nat × Opd) → (List AV → Prop) → Prop
  | [], K => K cs
  | (off, n, x) :: r, K => (ev t x).cells.length = n ∧ off + n ≤ cs.length ∧ fillL t (splice cs off (ev t x).cells) r K

/-- no key of the call's own in it (as far as is seen) -/
def AV.kf : AV → Bool
  | .v _ => true
  | .ro _ _ => true
  | .rp _ => true
  | .rm _ => true
  | _ => false

def kfs : List AV → Bool
  | [] => true
  | x :: r => x.kf && kfs r

/-- a value that can be laid into cells -/
def okVal : AV → Bool
  | .agg xs => xs.all AV.isCell
  | x => x.isCell

/-- elements of a slice of the call's own -/
def okElems (sz : Nat) : List AV → Bool
  | [] => true
  | x :: r => (x.cells.length == sz) && allCell x.cells && kfs x.cells && okElems sz r

/-- no key of the call's own in it -/
def AV.kd : AV → Bool
  | .agg xs => kfs xs
  | x => x.kf

/-- maps whose keys are numbers -/
def keyIs (a : Int) : Value → Bool
  | .int _ b => decide (b = a)
  | _ => false
def mfind (a : Int) : List (Value × AV) → Option AV
  | [] => none
  | (q, x) :: r => bif keyIs a q then some x else mfind a r
def mput (kk : IntKind) (a : Int) (y : AV) : List (Value × AV) → List (Value × AV)
  | [] => [(.int kk a, y)]
  | (q, x) :: r => bif keyIs a q then (.int kk a, y) :: r else (q, x) :: mput kk a y r
def MKeys (kk : IntKind) (es : List (Value × AV)) : Prop := ∀ p ∈ es, ∃ b, p.1 = .int kk b

/-- maps whose keys are strings -/
def skeyIs (a : ByteArray) : Value → Bool
  | .string b => decide (b = a)
  | _ => false
def sfind (a : ByteArray) : List (Value × AV) → Option AV
  | [] => none
  | (q, x) :: r => bif skeyIs a q then some x else sfind a r
def sput (a : ByteArray) (y : AV) : List (Value × AV) → List (Value × AV)
  | [] => [(.string a, y)]
  | (q, x) :: r => bif skeyIs a q then (.string a, y) :: r else (q, x) :: sput a y r
def SKeys (es : List (Value × AV)) : Prop := ∀ p ∈ es, ∃ b, p.1 = .string b

/-- maps whose keys are structs of numbers and truths -/
def ckOk : CK → Value → Bool
  | .n k, .int k' _ => decide (k' = k)
  | .b, .bool _ => true
  | _, _ => false
def cksOk : List CK → List Value → Bool
  | [], [] => true
  | k :: ks, c :: cs => ckOk k c && cksOk ks cs
  | _, _ => false
def cellEq : Value → Value → Bool
  | .int _ a, .int _ b => decide (a = b)
  | .bool a, .bool b => decide (a = b)
  | _, _ => false
def cellsEq : List Value → List Value → Bool
  | [], [] => true
  | a :: r, b :: s => cellEq a b && cellsEq r s
  | _, _ => false
def akeyIs (c : List Value) : Value → Bool
  | .agg d => cellsEq c d.toList
  | _ => false
def kfind (c : List Value) : List (Value × AV) → Option AV
  | [] => none
  | (q, x) :: r => bif akeyIs c q then some x else kfind c r
def kput (c : List Value) (y : AV) : List (Value × AV) → List (Value × AV)
  | [] => [(.agg c.toArray, y)]
  | (q, x) :: r => bif akeyIs c q then (.agg c.toArray, y) :: r else (q, x) :: kput c y r
def AKeys (ks : List CK) (es : List (Value × AV)) : Prop := ∀ p ∈ es, ∃ c, p.1 = .agg c ∧ cksOk ks c.toList = true
def valsL : List AV → Option (List Value)
  | [] => some []
  | .v x :: r => (valsL r).map (x :: ·)
  | _ => none
/-- the cells of a key, which the reader names -/
def KeyVC (ks : List CK) (xs : List AV) (K : List Value → Prop) : Prop := ∃ c, valsL xs = some c ∧ cksOk ks c = true ∧ K c
@[congr] theorem KeyVC_congr {ks : List CK} {xs : List AV} {K : List Value → Prop} {p : Prop} (_ : (True ∧ True) = p) : KeyVC ks xs K = KeyVC ks xs K := rfl
theorem KeyVC.mk {ks : List CK} {xs : List AV} {K : List Value → Prop} (c : List Value) (h1 : valsL xs = some c) (h2 : cksOk ks c = true) (hK : K c) : KeyVC ks xs K := ⟨c, h1, h2, hK⟩
theorem KeyVC.mono {ks : List CK} {xs : List AV} {K K' : List Value → Prop} (h : KeyVC ks xs K) (hK : ∀ c, K c → K' c) : KeyVC ks xs K' := by
  obtain ⟨c, h1, h2, h3⟩ := h; exact ⟨c, h1, h2, hK c h3⟩

/-- numbers as bytes -/
def bstr (bs : List Int) : ByteArray := ⟨(bs.map fun b => UInt8.ofNat b.toNat).toArray⟩
/-- bytes, which the reader names -/
def Bytes (ys : List AV) (K : ByteArray → Prop) : Prop := ∃ bs : List Int, ys = bs.map (fun b => .v (.int .u8 b)) ∧ K (bstr bs)
@[congr] theorem Bytes_congr {ys : List AV} {K : ByteArray → Prop} {p : Prop} (_ : (True ∧ True) = p) : Bytes ys K = Bytes ys K := rfl
theorem Bytes.mk {ys : List AV} {K : ByteArray → Prop} (bs : List Int) (h : ys = bs.map (fun b => .v (.int .u8 b))) (hK : K (bstr bs)) : Bytes ys K := ⟨bs, h, hK⟩

def mapE (m : Mem) (x : AV) (K : List (Value × AV) → Prop) : Prop :=
  match x with
  | .rm es => K es
  | .v (.map none) => K []
  | .mp k => match lookM m k with
    | some (.map es) => K es
    | _ => False
  | _ => False

/-- a step over a map, in whatever order -/
def NextVC (rest : List (Value × AV)) (A : Prop) (B : Value × AV → List (Value × AV) → Prop) : Prop :=
  (rest = [] → A) ∧ ∀ (j : Nat) p, rest[j]? = some p → B p (rest.eraseIdx j)

@[congr] theorem NextVC_congr {rest : List (Value × AV)} {A : Prop} {B : Value × AV → List (Value × AV) → Prop} {p : Prop} (_ : (True ∧ True) = p) : NextVC rest A B = NextVC rest A B := rfl

/-- at which place a key stands -/
def pos : List Nat → Nat → Option Nat
  | [], _ => none
  | x :: r, k => if x = k then some 0 else match pos r k with | some i => some (i + 1) | none => none

/-- a row as it is read -/
def rowRO (sz : Nat) : MRow → AV
  | .own xs => .ro sz xs
  | .cell x => x
  | .gone => .dead
def rowOk : MRow → Bool
  | .gone => false
  | _ => true
def rowsOk : List MRow → Bool
  | [] => true
  | r :: rs => rowOk r && rowsOk rs

/-- a row, which the reader names -/
def PickR (rows : List MRow) (i : Nat) (K : MRow → Prop) : Prop := ∃ r, rows[i]? = some r ∧ K r
@[congr] theorem PickR_congr {rows : List MRow} {i : Nat} {K : MRow → Prop} {p : Prop} (_ : (True ∧ True) = p) : PickR rows i K = PickR rows i K := rfl
theorem PickR.mk {rows : List MRow} {i : Nat} {K : MRow → Prop} (r : MRow) (h : rows[i]? = some r) (hK : K r) : PickR rows i K := ⟨r, h, hK⟩

/-- the one or the other, as the reader likes -/
def Either (A B : Prop) : Prop := A ∨ B
@[congr] theorem Either_congr {A B p : Prop} (_ : (True ∧ True) = p) : Either A B = Either A B := rfl

mutual
/-- as what a value is handed on: only to be read; rho: keys that are handed on as they are -/
def frz (rho : List Nat) (m : Mem) : AV → AV
  | .agg xs => .agg (frzL rho m xs)
  | .tup xs => .tup (frzL rho m xs)
  | .fn f xs => .fn f (frzL rho m xs)
  | .arr k off len => match pos rho k with
    | some i => .arr i off len
    | none => match lookM m k with
      | some (.arr sz xs) => .ro sz ((xs.drop off).take len)
      | some (.mat sz rows) => bif rowsOk rows then .ro 1 (((rows.map (rowRO sz)).drop off).take len) else .dead
      | _ => .dead
  | .ptr k off => match pos rho k with
    | some i => .ptr i off
    | none => match lookM m k with
      | some (.box cs) => if kfs cs then .rp (cs.drop off) else .dead
      | _ => .dead
  | .mp k => match pos rho k with
    | some i => .mp i
    | none => match lookM m k with
      | some (.map es) => .rm es
      | _ => .dead
  | .elt _ _ _ => .dead
  | x => x
def frzL (rho : List Nat) (m : Mem) : List AV → List AV
  | [] => []
  | x :: r => frz rho m x :: frzL rho m r
end

mutual
/-- the keys that are looked through -/
def kys : AV → List Nat
  | .agg xs => kysL xs
  | .tup xs => kysL xs
  | .fn _ xs => kysL xs
  | .arr k _ _ => [k]
  | .ptr k _ => [k]
  | .mp k => [k]
  | _ => []
def kysL : List AV → List Nat
  | [] => []
  | x :: r => kys x ++ kysL r
end

def kills : List Nat → Mem
  | [] => []
  | k :: r => (k, none) :: kills r

end Go.Av
