/- Abstract values: Go values with what they lead to in memory, and the relation between them and a world. -/
import Derived.Calls
import Derived.Orders
import Derived.Below
import Derived.Laws.World
import Derived.KernelRfl
namespace Go.Av

inductive AV where
  | v (x : Value)
  | agg (xs : List AV)
  | tup (xs : List AV)
  | ro (sz : Nat) (xs : List AV)
  | rp (cs : List AV)
  | fn (f : FuncId) (caps : List AV)
  | ptr (k off : Nat)
  | arr (k off len : Nat)
  | elt (k i j : Nat)
  | mp (k : Nat)
  | rm (es : List (Value × AV))
  | dead

def AV.cells : AV → List AV
  | .agg xs => xs
  | x => [x]

/-- the value of one cell -/
def AV.isCell : AV → Bool
  | .v (.agg _) => false
  | .v (.tuple _) => false
  | .agg _ => false
  | .tup _ => false
  | .dead => false
  | _ => true

def allCell : List AV → Bool
  | [] => true
  | x :: r => x.isCell && allCell r

structure Loc where
  b : Nat
  base : Nat
  sz : Nat
  cap : Nat
  used : Nat
  isNil : Bool
  subs : Nat → Option Nat := fun _ => none

/-- the blocks of a place -/
def Loc.has (l : Loc) (b : Nat) : Prop := (l.isNil = false ∧ l.b = b) ∨ ∃ i, l.subs i = some b
/-- the same place, whatever its rows are -/
structure Loc.same (l' l : Loc) : Prop where
  b : l'.b = l.b
  base : l'.base = l.base
  sz : l'.sz = l.sz
  cap : l'.cap = l.cap
  used : l'.used = l.used
  isNil : l'.isNil = l.isNil
theorem Loc.same_refl (l : Loc) : l.same l := ⟨rfl, rfl, rfl, rfl, rfl, rfl⟩
theorem Loc.same.trans {a b c : Loc} (h : a.same b) (h' : b.same c) : a.same c :=
  ⟨h.b.trans h'.b, h.base.trans h'.base, h.sz.trans h'.sz, h.cap.trans h'.cap, h.used.trans h'.used, h.isNil.trans h'.isNil⟩
theorem Loc.has_one {l : Loc} (hs : ∀ i, l.subs i = none) {b : Nat} (h : l.has b) : l.isNil = false ∧ l.b = b := by
  rcases h with h | ⟨i, h⟩
  · exact h
  · rw [hs] at h; cases h
theorem Loc.has_new {l : Loc} (hs : ∀ i, l.subs i = none) {p q : Nat} (h : l.isNil = false → p ≤ l.b ∧ l.b < q) : ∀ b, l.has b → p ≤ b ∧ b < q := fun b hb => by
  obtain ⟨h1, rfl⟩ := Loc.has_one hs hb
  exact h h1
theorem Loc.has1 {l : Loc} (h : l.isNil = false) : l.has l.b := .inl ⟨h, rfl⟩

/-- what is only read: a value, and what it leads to, in the blocks S -/
inductive R0 (w : World) (S : Nat → Prop) : AV → Value → Prop where
  | v (x : Value) : R0 w S (.v x) x
  | dead (x : Value) : R0 w S .dead x
  | agg {xs : List AV} {vs : Array Value} (hl : xs.length = vs.size)
      (h : ∀ (i : Nat) x y, xs[i]? = some x → vs[i]? = some y → R0 w S x y) : R0 w S (.agg xs) (.agg vs)
  | tup {xs : List AV} {vs : Array Value} (hl : xs.length = vs.size)
      (h : ∀ (i : Nat) x y, xs[i]? = some x → vs[i]? = some y → R0 w S x y) : R0 w S (.tup xs) (.tuple vs)
  | fn {f : FuncId} {xs : List AV} {vs : Array Value} (hl : xs.length = vs.size)
      (h : ∀ (i : Nat) x y, xs[i]? = some x → vs[i]? = some y → R0 w S x y) : R0 w S (.fn f xs) (.func (.func f) #[] vs)
  | roNil {sz : Nat} {a : Option Addr} {cap : Nat} : R0 w S (.ro sz []) (.slice a 0 cap)
  | ro {sz : Nat} {xs : List AV} {b off cap : Nat} {c : Nat → Value} (hb : S b) (hcap : xs.length ≤ cap)
      (hs : ∀ (i : Nat) x, xs[i]? = some x → x.cells.length = sz ∧ allCell x.cells = true)
      (hc : ∀ o, o < xs.length * sz → w.cell? ⟨b, off + o, none⟩ = some (c o))
      (h : ∀ (i : Nat) x (j : Nat) y, xs[i]? = some x → x.cells[j]? = some y → R0 w S y (c (i * sz + j))) :
      R0 w S (.ro sz xs) (.slice (some ⟨b, off, none⟩) xs.length cap)
  | rp {cs : List AV} {b off : Nat} {c : Nat → Value} (hb : S b)
      (hc : ∀ j, j < cs.length → w.cell? ⟨b, off + j, none⟩ = some (c j))
      (h : ∀ (j : Nat) y, cs[j]? = some y → R0 w S y (c j)) : R0 w S (.rp cs) (.pointer (some ⟨b, off, none⟩))
  | rm {es : List (Value × AV)} {b clock : Nat} {ents : Array MapEntry} (hb : S b) (hw : w.heap[b]? = some (.map ents clock))
      (hl : es.length = ents.size) (hk : ∀ (i : Nat) p e, es[i]? = some p → ents[i]? = some e → e.key = p.1)
      (hbn : ∀ (i : Nat) e, ents[i]? = some e → e.born < clock)
      (hbi : ∀ (i j : Nat) e e', ents[i]? = some e → ents[j]? = some e' → e.born = e'.born → i = j)
      (h : ∀ (i : Nat) p e, es[i]? = some p → ents[i]? = some e → R0 w S p.2 e.val) : R0 w S (.rm es) (.map (some b))

/-- the same, and keys of the call's own objects -/
inductive R (w : World) (S : Nat → Prop) (κ : Nat → Option Loc) : AV → Value → Prop where
  | base {x : AV} {v : Value} (h : R0 w S x v) : R w S κ x v
  | agg {xs : List AV} {vs : Array Value} (hl : xs.length = vs.size)
      (h : ∀ (i : Nat) x y, xs[i]? = some x → vs[i]? = some y → R w S κ x y) : R w S κ (.agg xs) (.agg vs)
  | tup {xs : List AV} {vs : Array Value} (hl : xs.length = vs.size)
      (h : ∀ (i : Nat) x y, xs[i]? = some x → vs[i]? = some y → R w S κ x y) : R w S κ (.tup xs) (.tuple vs)
  | fn {f : FuncId} {xs : List AV} {vs : Array Value} (hl : xs.length = vs.size)
      (h : ∀ (i : Nat) x y, xs[i]? = some x → vs[i]? = some y → R w S κ x y) : R w S κ (.fn f xs) (.func (.func f) #[] vs)
  | ptr {k off : Nat} {l : Loc} (hk : κ k = some l) : R w S κ (.ptr k off) (.pointer (some ⟨l.b, l.base + off, none⟩))
  | elt {k i j : Nat} {l : Loc} (hk : κ k = some l) (hn : l.isNil = false) : R w S κ (.elt k i j) (.pointer (some ⟨l.b, l.base + i * l.sz + j, none⟩))
  | arrNil {k : Nat} {l : Loc} (hk : κ k = some l) (hn : l.isNil = true) : R w S κ (.arr k 0 0) (.slice none 0 0)
  | arr {k off len cap : Nat} {l : Loc} (hk : κ k = some l) (hn : l.isNil = false) (hlen : len ≤ cap) (hc : off + cap ≤ l.cap) (hu : off + len ≤ l.used) :
      R w S κ (.arr k off len) (.slice (some ⟨l.b, l.base + off * l.sz, none⟩) len cap)
  | arr0 {k off : Nat} {a : Addr} {l : Loc} (hk : κ k = some l) : R w S κ (.arr k off 0) (.slice (some a) 0 0)
  | mp {k : Nat} {l : Loc} (hk : κ k = some l) (hn : l.isNil = false) : R w S κ (.mp k) (.map (some l.b))

theorem R0.mono {w w' : World} {S S' : Nat → Prop} {x : AV} {v : Value} (h : R0 w S x v)
    (hw : ∀ b, S b → w'.heap[b]? = w.heap[b]?) (hS : ∀ b, S b → S' b) : R0 w' S' x v := by
  have hcell : ∀ b, S b → ∀ o, w'.cell? ⟨b, o, none⟩ = w.cell? ⟨b, o, none⟩ := fun b hb o => by
    unfold World.cell?; rw [hw b hb]
  induction h with
  | v x => exact .v x
  | dead x => exact .dead x
  | agg hl _ ih => exact .agg hl ih
  | tup hl _ ih => exact .tup hl ih
  | fn hl _ ih => exact .fn hl ih
  | roNil => exact .roNil
  | ro hb hcap hs hc _ ih => exact .ro (hS _ hb) hcap hs (fun o ho => (hcell _ hb _).trans (hc o ho)) ih
  | rp hb hc _ ih => exact .rp (hS _ hb) (fun o ho => (hcell _ hb _).trans (hc o ho)) ih
  | rm hb hw' hl hk hn hi _ ih => exact .rm (hS _ hb) ((hw _ hb).trans hw') hl hk hn hi ih

theorem R.mono {w w' : World} {S S' : Nat → Prop} {κ κ' : Nat → Option Loc} {x : AV} {v : Value} (h : R w S κ x v)
    (hw : ∀ b, S b → w'.heap[b]? = w.heap[b]?) (hS : ∀ b, S b → S' b) (hκ : ∀ k l, κ k = some l → κ' k = some l) : R w' S' κ' x v := by
  induction h with
  | base h => exact .base (h.mono hw hS)
  | agg hl _ ih => exact .agg hl ih
  | tup hl _ ih => exact .tup hl ih
  | fn hl _ ih => exact .fn hl ih
  | ptr hk => exact .ptr (hκ _ _ hk)
  | elt hk hn => exact .elt (hκ _ _ hk) hn
  | arrNil hk hn => exact .arrNil (hκ _ _ hk) hn
  | arr hk hn h1 h2 h3 => exact .arr (hκ _ _ hk) hn h1 h2 h3
  | arr0 hk => exact .arr0 (hκ _ _ hk)
  | mp hk hn => exact .mp (hκ _ _ hk) hn

theorem R0.notAgg {w : World} {S : Nat → Prop} {x : AV} {v : Value} (h : R0 w S x v) (hx : x.isCell = true) :
    (∀ c, v ≠ .agg c) ∧ (∀ c, v ≠ .tuple c) := by
  cases h <;> (try (simp_all [AV.isCell]; done))
  cases v <;> simp_all [AV.isCell]

theorem R.notAgg {w : World} {S : Nat → Prop} {κ : Nat → Option Loc} {x : AV} {v : Value} (h : R w S κ x v) (hx : x.isCell = true) :
    (∀ c, v ≠ .agg c) ∧ (∀ c, v ≠ .tuple c) := by
  cases h with
  | base h => exact h.notAgg hx
  | _ => simp_all [AV.isCell]

/-- only temporaries and boxes look at a place, never at its rows -/
theorem R.core {w : World} {S : Nat → Prop} {κ κ' : Nat → Option Loc} {x : AV} {v : Value} (h : R w S κ x v)
    (hκ : ∀ k l, κ k = some l → ∃ l', κ' k = some l' ∧ l'.same l) : R w S κ' x v := by
  induction h with
  | base h => exact .base h
  | agg hl _ ih => exact .agg hl ih
  | tup hl _ ih => exact .tup hl ih
  | fn hl _ ih => exact .fn hl ih
  | ptr hk =>
    rename_i k off l
    obtain ⟨l', h1, h2⟩ := hκ _ _ hk
    have e1 : l'.b = l.b := h2.b
    have e2 : l'.base = l.base := h2.base
    rw [← e1, ← e2]; exact .ptr h1
  | elt hk hn =>
    rename_i k i j l
    obtain ⟨l', h1, h2⟩ := hκ _ _ hk
    have e1 : l'.b = l.b := h2.b
    have e2 : l'.base = l.base := h2.base
    have e3 : l'.sz = l.sz := h2.sz
    have e4 : l'.isNil = l.isNil := h2.isNil
    rw [← e1, ← e2, ← e3]; exact .elt h1 (e4.trans hn)
  | arrNil hk hn =>
    obtain ⟨l', h1, h2⟩ := hκ _ _ hk
    exact .arrNil h1 ((h2.isNil).trans hn)
  | arr hk hn h1 h2 h3 =>
    rename_i k off len cap l
    obtain ⟨l', g1, g2⟩ := hκ _ _ hk
    have e1 : l'.b = l.b := g2.b
    have e2 : l'.base = l.base := g2.base
    have e3 : l'.sz = l.sz := g2.sz
    have e4 : l'.isNil = l.isNil := g2.isNil
    have e5 : l'.cap = l.cap := g2.cap
    have e6 : l'.used = l.used := g2.used
    rw [← e1, ← e2, ← e3]; exact .arr g1 (e4.trans hn) h1 (by omega) (by omega)
  | arr0 hk => obtain ⟨l', h1, _⟩ := hκ _ _ hk; exact .arr0 h1
  | mp hk hn =>
    rename_i k l
    obtain ⟨l', h1, h2⟩ := hκ _ _ hk
    have e1 : l'.b = l.b := h2.b
    rw [← e1]; exact .mp h1 ((h2.isNil).trans hn)

/-- a row of a slice of slices: the call's own; a value that is only read; one that has been taken out -/
inductive MRow where
  | own (xs : List AV)
  | cell (x : AV)
  | gone

inductive MObj where
  | box (cs : List AV)
  | arr (sz : Nat) (xs : List AV)
  | mat (sz : Nat) (rows : List MRow)
  | lent (sz : Nat) (rows : List MRow) (i q : Nat)
  | map (es : List (Value × AV))
  | iter (rest : List (Value × AV)) (cur : Option (Value × AV))

abbrev Tmps := List (Nat × AV)
abbrev Mem := List (Nat × Option MObj)

def look : Tmps → Nat → AV
  | [], _ => .dead
  | (k, v) :: r, n => if k = n then v else look r n

def lookM : Mem → Nat → Option MObj
  | [], _ => none
  | (k, v) :: r, n => if k = n then v else lookM r n

/-- an iterator over a map that is only read: what is before it, and what it is at -/
def IterR (w : World) (S : Nat → Prop) (b : Nat) (rest : List (Value × AV)) (cur : Option (Value × AV)) : Prop :=
  (w.heap[b]? = some (.mapIter none 0 #[] 0) ∧ rest = [] ∧ cur = none) ∨
  ∃ (mb : Nat) (seen : Array Nat) (ents : Array MapEntry) (clock : Nat), S mb ∧ w.heap[b]? = some (.mapIter (some mb) clock seen clock) ∧ w.heap[mb]? = some (.map ents clock) ∧
    (∀ (i : Nat) e, ents[i]? = some e → e.born < clock) ∧
    (∀ (i j : Nat) e e', ents[i]? = some e → ents[j]? = some e' → e.born = e'.born → i = j) ∧
    (∃ idx : List Nat, idx.length = rest.length ∧ idx.Nodup ∧
      (∀ (j : Nat) p i, rest[j]? = some p → idx[j]? = some i → ∃ e, ents[i]? = some e ∧ e.key = p.1 ∧ R0 w S p.2 e.val) ∧
      (∀ (i : Nat) e, ents[i]? = some e → (e.born ∉ seen ↔ i ∈ idx))) ∧
    (∀ p, cur = some p → ∃ (i : Nat) (e : MapEntry), ents[i]? = some e ∧ seen.back? = some e.born ∧ e.key = p.1 ∧ R0 w S p.2 e.val)

theorem IterR.mono {w w' : World} {S S' : Nat → Prop} {b : Nat} {rest : List (Value × AV)} {cur : Option (Value × AV)} (h : IterR w S b rest cur)
    (hw : ∀ b, S b → w'.heap[b]? = w.heap[b]?) (hS : ∀ b, S b → S' b) (hb : w'.heap[b]? = w.heap[b]?) : IterR w' S' b rest cur := by
  rcases h with h | ⟨mb, seen, ents, clock, h1, h2, h3, h4, h5, ⟨idx, h6, h7, h8, h9⟩, h10⟩
  · exact .inl ⟨hb.trans h.1, h.2⟩
  · refine .inr ⟨mb, seen, ents, clock, hS _ h1, hb.trans h2, (hw _ h1).trans h3, h4, h5, ⟨idx, h6, h7, fun j p i hp hi => ?_, h9⟩, fun p hp => ?_⟩
    · obtain ⟨e, g1, g2, g3⟩ := h8 j p i hp hi
      exact ⟨e, g1, g2, g3.mono hw hS⟩
    · obtain ⟨i, e, g1, g2, g3, g4⟩ := h10 p hp
      exact ⟨i, e, g1, g2, g3, g4.mono hw hS⟩

/-- a row: its block (none: it owns none), what stands in its cell -/
def RowR (w : World) (S : Nat → Prop) (sz : Nat) (sub : Option Nat) (c : Value) : MRow → Prop
  | .own xs => (xs = [] ∧ sub = none ∧ ∃ a, c = .slice a 0 0) ∨ ∃ b base cap, sub = some b ∧ c = .slice (some ⟨b, base, none⟩) xs.length cap ∧ xs.length ≤ cap ∧
      ∃ (vs : Array Value) (T : TypeId), w.heap[b]? = some (.cells vs T (0, 0)) ∧ base + cap * sz ≤ vs.size ∧
      (∀ (i : Nat) x, xs[i]? = some x → x.cells.length = sz ∧ allCell x.cells = true) ∧
      ∀ (i : Nat) x (j : Nat) y, xs[i]? = some x → x.cells[j]? = some y → ∃ c, vs[base + i * sz + j]? = some c ∧ R0 w S y c
  | .cell x => sub = none ∧ x.isCell = true ∧ x.cells = [x] ∧ R0 w S x c
  | .gone => sub = none

theorem RowR.mono {w w' : World} {S S' : Nat → Prop} {sz : Nat} {sub : Option Nat} {c : Value} {r : MRow} (h : RowR w S sz sub c r)
    (hw : ∀ b, S b → w'.heap[b]? = w.heap[b]?) (hS : ∀ b, S b → S' b) (hb : ∀ b, sub = some b → w'.heap[b]? = w.heap[b]?) : RowR w' S' sz sub c r := by
  cases r with
  | own xs =>
    rcases h with h | ⟨b, base, cap, h1, h2, h3, vs, T, h4, h5, h6, h7⟩
    · exact .inl h
    refine .inr ⟨b, base, cap, h1, h2, h3, vs, T, (hb b h1).trans h4, h5, h6, fun i x j y hx hy => ?_⟩
    obtain ⟨c, hc, hr⟩ := h7 i x j y hx hy
    exact ⟨c, hc, hr.mono hw hS⟩
  | cell x => exact ⟨h.1, h.2.1, h.2.2.1, h.2.2.2.mono hw hS⟩
  | gone => exact h

/-- the package-level variables that hold what the statement's row lists: number, cells -/
def globs : List (Nat × List AV) := []

/-- the blocks that are only read; what the listed variables hold -/
structure SB (w : World) (S : Nat → Prop) : Prop where
  lt : ∀ b, S b → b < w.heap.size
  gl : ∀ g cs, (g, cs) ∈ globs → R0 w S (.rp cs) (.pointer (some ⟨g, 0, none⟩))

theorem SB.mono {w w' : World} {S S' : Nat → Prop} (h : SB w S) (hw : ∀ b, S b → w'.heap[b]? = w.heap[b]?) (hS : ∀ b, S b → S' b) (hl : ∀ b, S' b → b < w'.heap.size) : SB w' S' :=
  ⟨hl, fun g cs hg => (h.gl g cs hg).mono hw hS⟩

/-- what stands in the cell of a row that was taken out: the slice that the object q is -/
def OutR (κ : Nat → Option Loc) (sz : Nat) (c : Value) (q : Nat) : Prop :=
  ∃ l, κ q = some l ∧ ((l.isNil = true ∧ ∃ a, c = .slice a 0 0) ∨
    (l.isNil = false ∧ l.sz = sz ∧ ∃ cap, l.used ≤ cap ∧ cap ≤ l.cap ∧ c = .slice (some ⟨l.b, l.base, none⟩) l.used cap))

theorem OutR.core {κ κ' : Nat → Option Loc} {sz q : Nat} {c : Value} (h : OutR κ sz c q) (hκ : ∀ k l, κ k = some l → ∃ l', κ' k = some l' ∧ l'.same l) : OutR κ' sz c q := by
  obtain ⟨l, h1, h2⟩ := h
  obtain ⟨l', h3, h4⟩ := hκ _ _ h1
  refine ⟨l', h3, ?_⟩
  rcases h2 with ⟨h5, h6⟩ | ⟨h5, h6, cap, h7, h8, h9⟩
  · exact .inl ⟨h4.isNil.trans h5, h6⟩
  · exact .inr ⟨h4.isNil.trans h5, h4.sz.trans h6, cap, by rw [h4.used]; exact h7, by rw [h4.cap]; exact h8, by rw [h4.b, h4.base, h4.used]; exact h9⟩

/-- what an object of the call's own is in the world -/
def ObjR (w : World) (S : Nat → Prop) (κ : Nat → Option Loc) (k : Nat) : MObj → Prop
  | .box cs => ∃ l, κ k = some l ∧ l.isNil = false ∧ ∃ (vs : Array Value) (T : TypeId), w.heap[l.b]? = some (.cells vs T (0, 0)) ∧ l.base + cs.length ≤ vs.size ∧
      ∀ (j : Nat) y, cs[j]? = some y → ∃ c, vs[l.base + j]? = some c ∧ R w S κ y c
  | .arr sz xs => ∃ l, κ k = some l ∧ ((l.isNil = true ∧ xs = []) ∨ (l.isNil = false ∧ l.sz = sz ∧ xs.length = l.used ∧ l.used ≤ l.cap ∧
      ∃ (vs : Array Value) (T : TypeId), w.heap[l.b]? = some (.cells vs T (0, 0)) ∧ l.base + l.cap * sz ≤ vs.size ∧
      (∀ (i : Nat) x, xs[i]? = some x → x.cells.length = sz ∧ allCell x.cells = true) ∧
      ∀ (i : Nat) x (j : Nat) y, xs[i]? = some x → x.cells[j]? = some y → ∃ c, vs[l.base + i * sz + j]? = some c ∧ R0 w S y c))
  | .mat sz rows => ∃ l, κ k = some l ∧ l.isNil = false ∧ l.sz = 1 ∧ rows.length = l.used ∧ l.used ≤ l.cap ∧
      (∀ i j b, l.subs i = some b → l.subs j = some b → i = j) ∧ (∀ i b, l.subs i = some b → b ≠ l.b ∧ i < rows.length) ∧
      ∃ (vs : Array Value) (T : TypeId), w.heap[l.b]? = some (.cells vs T (0, 0)) ∧ l.base + l.cap ≤ vs.size ∧
      ∀ (i : Nat) r, rows[i]? = some r → ∃ c, vs[l.base + i]? = some c ∧ RowR w S sz (l.subs i) c r
  | .lent sz rows i0 q => ∃ l, κ k = some l ∧ l.isNil = false ∧ l.sz = 1 ∧ rows.length = l.used ∧ l.used ≤ l.cap ∧
      (∀ i j b, l.subs i = some b → l.subs j = some b → i = j) ∧ (∀ i b, l.subs i = some b → b ≠ l.b ∧ i < rows.length) ∧
      ∃ (vs : Array Value) (T : TypeId), w.heap[l.b]? = some (.cells vs T (0, 0)) ∧ l.base + l.cap ≤ vs.size ∧
      (∀ (i : Nat) r, rows[i]? = some r → ∃ c, vs[l.base + i]? = some c ∧ RowR w S sz (l.subs i) c r) ∧
      rows[i0]? = some .gone ∧ ∃ c, vs[l.base + i0]? = some c ∧ OutR κ sz c q
  | .map es => ∃ l, κ k = some l ∧ l.isNil = false ∧ ∃ (ents : Array MapEntry) (clock : Nat), w.heap[l.b]? = some (.map ents clock) ∧ es.length = ents.size ∧
      (∀ (i : Nat) e, ents[i]? = some e → e.born < clock) ∧
      (∀ (i j : Nat) e e', ents[i]? = some e → ents[j]? = some e' → e.born = e'.born → i = j) ∧
      (∀ (i : Nat) p e, es[i]? = some p → ents[i]? = some e → e.key = p.1 ∧ R0 w S p.2 e.val)
  | .iter rest cur => ∃ l, κ k = some l ∧ l.isNil = false ∧ l.base = 0 ∧ IterR w S l.b rest cur

/-- a slice of slices, one row of which was taken out -/
theorem ObjR.unlent {w : World} {S : Nat → Prop} {κ : Nat → Option Loc} {k sz i q : Nat} {rows : List MRow} (h : ObjR w S κ k (.lent sz rows i q)) : ObjR w S κ k (.mat sz rows) := by
  obtain ⟨l, hk, hn, h1, h2, h3, h4, h5, vs, T, h6, h7, h8, _⟩ := h
  exact ⟨l, hk, hn, h1, h2, h3, h4, h5, vs, T, h6, h7, h8⟩

/-- the call's own objects lie in blocks of their own, none of which is only read -/
structure Ent (w : World) (S : Nat → Prop) (κ : Nat → Option Loc) (m : Mem) (F : Nat → Prop) : Prop where
  mm : ∀ k o, lookM m k = some o → ObjR w S κ k o
  inj : ∀ k k' o o' l l' b, lookM m k = some o → lookM m k' = some o' → κ k = some l → κ k' = some l' → l.has b → l'.has b → k = k'
  own : ∀ k o l b, lookM m k = some o → κ k = some l → l.has b → ¬ S b ∧ b < w.heap.size
  fresh : ∀ k, F k → lookM m k = none ∧ κ k = none
  sb : SB w S

theorem Ent.own1 {w : World} {S : Nat → Prop} {κ : Nat → Option Loc} {m : Mem} {F : Nat → Prop} (e : Ent w S κ m F) (k : Nat) (o : MObj) (l : Loc) (h : lookM m k = some o) (hk : κ k = some l)
    (hn : l.isNil = false) : ¬ S l.b ∧ l.b < w.heap.size := e.own k o l l.b h hk (.inl ⟨hn, rfl⟩)

structure Ctx where
  w0 : World
  S0 : Nat → Prop
  L : Nat → Prop
  K0 : Nat → Option Loc

/-- what has become of the world since the call began -/
structure Since (X : Ctx) (w : World) (S : Nat → Prop) (κ : Nat → Option Loc) (m : Mem) : Prop where
  own : ∀ k o l b, lookM m k = some o → κ k = some l → l.has b → X.w0.heap.size ≤ b ∨ X.L b
  s0 : ∀ b, S b → X.S0 b ∨ X.w0.heap.size ≤ b ∨ X.L b
  os : w.os = X.w0.os
  tape : w.tape = X.w0.tape
  output : w.output = X.w0.output
  ge : X.w0.heap.size ≤ w.heap.size
  keep : ∀ b, b < X.w0.heap.size → ¬ X.L b → w.heap[b]? = X.w0.heap[b]?
  kp : ∀ k l, X.K0 k = some l → ∃ l', κ k = some l' ∧ l'.same l

structure Rel (X : Ctx) (N : Nat) (w : World) (S : Nat → Prop) (κ : Nat → Option Loc) (t : Tmps) (m : Mem) (F : Nat → Prop) (a : Act) : Prop where
  size : a.tmps.size = N
  defers : a.defers = []
  tm : ∀ i, R w S κ (look t i) (a.tmps.getD i undef)
  ent : Ent w S κ m F
  since : Since X w S κ m

end Go.Av
/- The small language of operations, how the model's operations are read into it, and what each asks. -/
namespace Go.Av

/-- a cell of a key: a number of this kind, or a truth -/
inductive CK where
  | n (k : IntKind)
  | b

inductive Opd where
  | t (n : Nat)
  | c (x : AV)

inductive MOp where
  | mov (x : Opd)
  | pick (c a b : Opd)
  | bin (op : BinOp) (x y : Opd)
  | eqb (neg : Bool) (x y : Opd)
  | not (x : Opd)
  | neg (x : Opd)
  | conv (k : IntKind) (x : Opd)
  | new (zs : List Value)
  | box (x : Opd)
  | build (zs : List Value) (parts : List (Nat × Nat × Opd))
  | ld (n : Option Nat) (a : Opd)
  | ldm (a : Opd)
  | st (n : Nat) (a x : Opd)
  | faddr (off : Nat) (x : Opd)
  | fld (n : Option Nat) (off : Nat) (x : Opd)
  | iaddr (sz : Nat) (x i : Opd)
  | nchk (x : Opd)
  | aaddr (c L : Nat) (x i : Opd)
  | idx (L : Nat) (x i : Opd)
  | ext (i : Nat) (x : Opd)
  | len (x : Opd)
  | mkfn (f : FuncId) (caps : List Opd)
  | blds (sz : Nat) (xs : List Opd)
  | bldo (sz : Nat) (xs : List Opd)
  | bldr (sz : Nat) (xs : List Opd)
  | mm (isMin : Bool) (x y : Opd)
  | app (sz : Nat) (s x : Opd)
  | mks (z : AV) (l c : Opd)
  | mkm (sz : Nat) (l c : Opd)
  | mnew
  | mget (kk : IntKind) (z : AV) (ok : Bool) (x i : Opd)
  | mset (kk : IntKind) (x i y : Opd)
  | mlen (x : Opd)
  | mrng (x : Opd)
  | next (x : Opd)
  | entry (x : Opd)
  | isnil (ng : Bool) (x : Opd)
  | nilm (ng : Bool) (x : Opd)
  | eqa (sz : Nat) (ng : Bool) (x y : Opd)
  | cap (x : Opd)
  | appz (z : AV) (s x : Opd)
  | b2s (x : Opd)
  | sget (z : AV) (ok : Bool) (x i : Opd)
  | sset (x i y : Opd)
  | aget (ks : List CK) (z : AV) (ok : Bool) (x i : Opd)
  | aset (ks : List CK) (x i y : Opd)
  | never
  | slc (sz : Nat) (x : Opd) (lo hi : Option Opd)
  | call (f : FuncId) (args : List Opd)
  | callv (g : Opd) (args : List Opd)
  | callx (f : FuncId) (args : List Opd)
  | callvx (g : Opd) (args : List Opd)
  | cally (k : Nat) (f : FuncId) (args : List Opd)

def ev (t : Tmps) : Opd → AV
  | .t n => look t n
  | .c x => x

def evs (t : Tmps) : List Opd → List AV
  | [] => []
  | x :: r => ev t x :: evs t r

/-- a bound of a part of a slice -/
def bnd (t : Tmps) (d : Nat) (x : Option Opd) (K : Int → Prop) : Prop :=
  match x with
  | none => K d
  | some x => match ev t x with
    | .v (.int _ a) => K a
    | _ => False

/-- is a slice nil: of an empty one it is not known -/
def NilVC (x : AV) (K : Bool → Prop) : Prop :=
  match x with
  | .v (.slice none _ _) => K true
  | .v (.slice (some _) _ _) => K false
  | .ro _ xs => K false ∧ (xs = [] → K true)
  | .arr _ _ len => K false ∧ (len = 0 → K true)
  | _ => False

def nilSure (x : AV) : Prop :=
  match x with
  | .ro _ xs => xs ≠ []
  | .arr _ _ len => len ≠ 0
  | _ => True

@[congr] theorem NilVC_congr {x x' : AV} {K : Bool → Prop} {p : Prop} (_ : (True ∧ True) = p) (hx : x = x') : NilVC x K = NilVC x' K := by rw [hx]
theorem NilVC_nil {a b : Nat} {K : Bool → Prop} : NilVC (.v (.slice none a b)) K = K true := rfl
theorem NilVC_cons {s : Nat} {x : AV} {xs : List AV} {K : Bool → Prop} : NilVC (.ro s (x :: xs)) K = K false := by simp [NilVC]
theorem NilVC_arr {k o l : Nat} {K : Bool → Prop} : NilVC (.arr k o (l + 1)) K = K false := by simp [NilVC]
theorem NilVC.ro {s : Nat} {xs : List AV} {K : Bool → Prop} (h : xs ≠ []) (hK : K false) : NilVC (.ro s xs) K := ⟨hK, fun h' => (h h').elim⟩
theorem NilVC.arr {k o l : Nat} {K : Bool → Prop} (h : l ≠ 0) (hK : K false) : NilVC (.arr k o l) K := ⟨hK, fun h' => (h h').elim⟩

/-- numbers compared, cell by cell -/
def eqc : List AV → List AV → Option Bool
  | [], [] => some true
  | .v (.int k a) :: r, .v (.int k' b) :: s => if k = k' then (eqc r s).map fun c => (a == b) && c else none
  | _, _ => none
/-- are two structs, or arrays, of so many numbers the same -/
def EqVC (sz : Nat) (xs ys : List AV) (K : Bool → Prop) : Prop := xs.length = sz ∧ ∃ b, eqc xs ys = some b ∧ K b
@[congr] theorem EqVC_congr {sz : Nat} {xs ys xs' ys' : List AV} {K : Bool → Prop} {p : Prop} (_ : (True ∧ True) = p) (hx : xs = xs') (hy : ys = ys') : EqVC sz xs ys K = EqVC sz xs' ys' K := by rw [hx, hy]
theorem EqVC.mk {sz : Nat} {xs ys : List AV} {K : Bool → Prop} {b : Bool} (hl : xs.length = sz) (h : eqc xs ys = some b) (hK : K b) : EqVC sz xs ys K := ⟨hl, b, h, hK⟩
theorem EqVC.mono {sz : Nat} {xs ys : List AV} {K K' : Bool → Prop} (h : EqVC sz xs ys K) (hK : ∀ b, K b → K' b) : EqVC sz xs ys K' := by
  obtain ⟨hl, b, h1, h2⟩ := h; exact ⟨hl, b, h1, hK b h2⟩
theorem eqc_ints {k : IntKind} : ∀ {l m : List Int}, l.length = m.length → eqc (l.map fun x => .v (.int k x)) (m.map fun x => .v (.int k x)) = some (decide (l = m))
  | [], [], _ => rfl
  | x :: l, y :: m, h => by
    simp only [List.map_cons, eqc, if_true, eqc_ints (l := l) (m := m) (by simpa using h), Option.map_some]
    by_cases hx : x = y <;> by_cases hl : l = m <;> simp [hx, hl]

/-- operations on numbers -/
def vbin (op : BinOp) (k : IntKind) (a b : Int) (K : Value → Prop) : Prop :=
  match op with
  | .add => K (.int k (k.wrap (a + b)))
  | .sub => K (.int k (k.wrap (a - b)))
  | .mul => K (.int k (k.wrap (a * b)))
  | .quo => b ≠ 0 ∧ K (.int k (k.wrap (a.tdiv b)))
  | .rem => b ≠ 0 ∧ K (.int k (a.tmod b))
  | .and => K (.int k (k.wrap (BitVec.ofInt k.bits a &&& BitVec.ofInt k.bits b).toNat))
  | .or => K (.int k (k.wrap (BitVec.ofInt k.bits a ||| BitVec.ofInt k.bits b).toNat))
  | .xor => K (.int k (k.wrap (BitVec.ofInt k.bits a ^^^ BitVec.ofInt k.bits b).toNat))
  | .andNot => K (.int k (k.wrap (BitVec.ofInt k.bits a &&& ~~~(BitVec.ofInt k.bits b)).toNat))
  | .eql => K (.bool (a == b))
  | .neq => K (.bool (a != b))
  | .lss => K (.bool (decide (a < b)))
  | .leq => K (.bool (decide (a ≤ b)))
  | .gtr => K (.bool (decide (a > b)))
  | .geq => K (.bool (decide (a ≥ b)))
  | _ => False

def vshift (op : BinOp) (k : IntKind) (a b : Int) (K : Value → Prop) : Prop :=
  match op with
  | .shl => 0 ≤ b ∧ K (.int k (k.wrap (a * 2 ^ (min b.toNat k.bits))))
  | .shr => 0 ≤ b ∧ K (.int k (a.fdiv (2 ^ (min b.toNat k.bits))))
  | _ => False

/-- an element of a list, which the reader names -/
def Pick (xs : List AV) (i : Nat) (K : AV → Prop) : Prop := ∃ y, xs[i]? = some y ∧ K y

@[congr] theorem Pick_congr {xs : List AV} {i : Nat} {K : AV → Prop} {p : Prop} (_ : (True ∧ True) = p) : Pick xs i K = Pick xs i K := rfl

/-- one way or the other -/
abbrev Split (b w : Bool) (A B : Prop) : Prop := (b = w → A) ∧ (b = (!w) → B)
abbrev Fork (b : Bool) (A B : Prop) : Prop := (b = true → A) ∧ (b = false → B)

@[congr] theorem Split_congr {b b' w : Bool} {A B p : Prop} (_ : (True ∧ True) = p) (hb : b = b') : Split b w A B = Split b' w A B := by rw [hb]
@[congr] theorem Fork_congr {b b' : Bool} {A B p : Prop} (_ : (True ∧ True) = p) (hb : b = b') : Fork b A B = Fork b' A B := by rw [hb]
theorem Split_tt {A B : Prop} : Split true true A B = A := by simp [Split]
theorem Split_ff {A B : Prop} : Split false false A B = A := by simp [Split]
theorem Split_tf {A B : Prop} : Split true false A B = B := by simp [Split]
theorem Split_ft {A B : Prop} : Split false true A B = B := by simp [Split]
theorem Fork_t {A B : Prop} : Fork true A B = A := by simp [Fork]
theorem Fork_f {A B : Prop} : Fork false A B = B := by simp [Fork]
theorem Split.mk {b w : Bool} {A B : Prop} (h1 : b = w → A) (h2 : b = (!w) → B) : Split b w A B := ⟨h1, h2⟩
theorem Fork.mk {b : Bool} {A B : Prop} (h1 : b = true → A) (h2 : b = false → B) : Fork b A B := ⟨h1, h2⟩

theorem Pick.mk {xs : List AV} {i : Nat} {K : AV → Prop} (y : AV) (h : xs[i]? = some y) (hK : K y) : Pick xs i K := ⟨y, h, hK⟩

/-- the cells of a load -/
def ldc (n : Option Nat) (cs : List AV) (off : Nat) (K : AV → Prop) : Prop :=
  match n with
  | none => ∃ y, cs[off]? = some y ∧ K y
  | some n => off + n ≤ cs.length ∧ K (.agg ((cs.drop off).take n))

def splice (cs : List AV) (off : Nat) (xs : List AV) : List AV :=
  match cs, off with
  | [], _ => []
  | c :: cs, 0 => match xs with
    | [] => c :: cs
    | x :: xs => x :: splice cs 0 xs
  | c :: cs, off + 1 => c :: splice cs off xs

def fillL (t : Tmps) (cs : List AV) : List (Nat × Nat × Opd) → (List AV → Prop) → Prop
  | [], K => K cs
  | (off, n, x) :: r, K => (ev t x).cells.length = n ∧ off + n ≤ cs.length ∧ fillL t (splice cs off (ev t x).cells) r K

/-- no key of the call's own in it (as far as is seen) -/
def AV.kf : AV → Bool
  | .v _ => true
  | .ro _ _ => true
  | .rp _ => true
  | .rm _ => true
  | _ => false

def kfs : List AV → Bool
  | [] => true
  | x :: r => x.kf && kfs r

/-- a value that can be laid into cells -/
def okVal : AV → Bool
  | .agg xs => xs.all AV.isCell
  | x => x.isCell

/-- elements of a slice of the call's own -/
def okElems (sz : Nat) : List AV → Bool
  | [] => true
  | x :: r => (x.cells.length == sz) && allCell x.cells && kfs x.cells && okElems sz r

/-- no key of the call's own in it -/
def AV.kd : AV → Bool
  | .agg xs => kfs xs
  | x => x.kf

/-- maps whose keys are numbers -/
def keyIs (a : Int) : Value → Bool
  | .int _ b => decide (b = a)
  | _ => false
def mfind (a : Int) : List (Value × AV) → Option AV
  | [] => none
  | (q, x) :: r => bif keyIs a q then some x else mfind a r
def mput (kk : IntKind) (a : Int) (y : AV) : List (Value × AV) → List (Value × AV)
  | [] => [(.int kk a, y)]
  | (q, x) :: r => bif keyIs a q then (.int kk a, y) :: r else (q, x) :: mput kk a y r
def MKeys (kk : IntKind) (es : List (Value × AV)) : Prop := ∀ p ∈ es, ∃ b, p.1 = .int kk b

/-- maps whose keys are strings -/
def skeyIs (a : ByteArray) : Value → Bool
  | .string b => decide (b = a)
  | _ => false
def sfind (a : ByteArray) : List (Value × AV) → Option AV
  | [] => none
  | (q, x) :: r => bif skeyIs a q then some x else sfind a r
def sput (a : ByteArray) (y : AV) : List (Value × AV) → List (Value × AV)
  | [] => [(.string a, y)]
  | (q, x) :: r => bif skeyIs a q then (.string a, y) :: r else (q, x) :: sput a y r
def SKeys (es : List (Value × AV)) : Prop := ∀ p ∈ es, ∃ b, p.1 = .string b

/-- maps whose keys are structs of numbers and truths -/
def ckOk : CK → Value → Bool
  | .n k, .int k' _ => decide (k' = k)
  | .b, .bool _ => true
  | _, _ => false
def cksOk : List CK → List Value → Bool
  | [], [] => true
  | k :: ks, c :: cs => ckOk k c && cksOk ks cs
  | _, _ => false
def cellEq : Value → Value → Bool
  | .int _ a, .int _ b => decide (a = b)
  | .bool a, .bool b => decide (a = b)
  | _, _ => false
def cellsEq : List Value → List Value → Bool
  | [], [] => true
  | a :: r, b :: s => cellEq a b && cellsEq r s
  | _, _ => false
def akeyIs (c : List Value) : Value → Bool
  | .agg d => cellsEq c d.toList
  | _ => false
def kfind (c : List Value) : List (Value × AV) → Option AV
  | [] => none
  | (q, x) :: r => bif akeyIs c q then some x else kfind c r
def kput (c : List Value) (y : AV) : List (Value × AV) → List (Value × AV)
  | [] => [(.agg c.toArray, y)]
  | (q, x) :: r => bif akeyIs c q then (.agg c.toArray, y) :: r else (q, x) :: kput c y r
def AKeys (ks : List CK) (es : List (Value × AV)) : Prop := ∀ p ∈ es, ∃ c, p.1 = .agg c ∧ cksOk ks c.toList = true
def valsL : List AV → Option (List Value)
  | [] => some []
  | .v x :: r => (valsL r).map (x :: ·)
  | _ => none
/-- the cells of a key, which the reader names -/
def KeyVC (ks : List CK) (xs : List AV) (K : List Value → Prop) : Prop := ∃ c, valsL xs = some c ∧ cksOk ks c = true ∧ K c
@[congr] theorem KeyVC_congr {ks : List CK} {xs : List AV} {K : List Value → Prop} {p : Prop} (_ : (True ∧ True) = p) : KeyVC ks xs K = KeyVC ks xs K := rfl
theorem KeyVC.mk {ks : List CK} {xs : List AV} {K : List Value → Prop} (c : List Value) (h1 : valsL xs = some c) (h2 : cksOk ks c = true) (hK : K c) : KeyVC ks xs K := ⟨c, h1, h2, hK⟩
theorem KeyVC.mono {ks : List CK} {xs : List AV} {K K' : List Value → Prop} (h : KeyVC ks xs K) (hK : ∀ c, K c → K' c) : KeyVC ks xs K' := by
  obtain ⟨c, h1, h2, h3⟩ := h; exact ⟨c, h1, h2, hK c h3⟩

/-- numbers as bytes -/
def bstr (bs : List Int) : ByteArray := ⟨(bs.map fun b => UInt8.ofNat b.toNat).toArray⟩
/-- bytes, which the reader names -/
def Bytes (ys : List AV) (K : ByteArray → Prop) : Prop := ∃ bs : List Int, ys = bs.map (fun b => .v (.int .u8 b)) ∧ K (bstr bs)
@[congr] theorem Bytes_congr {ys : List AV} {K : ByteArray → Prop} {p : Prop} (_ : (True ∧ True) = p) : Bytes ys K = Bytes ys K := rfl
theorem Bytes.mk {ys : List AV} {K : ByteArray → Prop} (bs : List Int) (h : ys = bs.map (fun b => .v (.int .u8 b))) (hK : K (bstr bs)) : Bytes ys K := ⟨bs, h, hK⟩

def mapE (m : Mem) (x : AV) (K : List (Value × AV) → Prop) : Prop :=
  match x with
  | .rm es => K es
  | .v (.map none) => K []
  | .mp k => match lookM m k with
    | some (.map es) => K es
    | _ => False
  | _ => False

/-- a step over a map, in whatever order -/
def NextVC (rest : List (Value × AV)) (A : Prop) (B : Value × AV → List (Value × AV) → Prop) : Prop :=
  (rest = [] → A) ∧ ∀ (j : Nat) p, rest[j]? = some p → B p (rest.eraseIdx j)

@[congr] theorem NextVC_congr {rest : List (Value × AV)} {A : Prop} {B : Value × AV → List (Value × AV) → Prop} {p : Prop} (_ : (True ∧ True) = p) : NextVC rest A B = NextVC rest A B := rfl

/-- at which place a key stands -/
def pos : List Nat → Nat → Option Nat
  | [], _ => none
  | x :: r, k => if x = k then some 0 else match pos r k with | some i => some (i + 1) | none => none

/-- a row as it is read -/
def rowRO (sz : Nat) : MRow → AV
  | .own xs => .ro sz xs
  | .cell x => x
  | .gone => .dead
def rowOk : MRow → Bool
  | .gone => false
  | _ => true
def rowsOk : List MRow → Bool
  | [] => true
  | r :: rs => rowOk r && rowsOk rs

/-- a row, which the reader names -/
def PickR (rows : List MRow) (i : Nat) (K : MRow → Prop) : Prop := ∃ r, rows[i]? = some r ∧ K r
@[congr] theorem PickR_congr {rows : List MRow} {i : Nat} {K : MRow → Prop} {p : Prop} (_ : (True ∧ True) = p) : PickR rows i K = PickR rows i K := rfl
theorem PickR.mk {rows : List MRow} {i : Nat} {K : MRow → Prop} (r : MRow) (h : rows[i]? = some r) (hK : K r) : PickR rows i K := ⟨r, h, hK⟩

/-- the one or the other, as the reader likes -/
def Either (A B : Prop) : Prop := A ∨ B
@[congr] theorem Either_congr {A B p : Prop} (_ : (True ∧ True) = p) : Either A B = Either A B := rfl

mutual
/-- as what a value is handed on: only to be read; rho: keys that are handed on as they are -/
def frz (rho : List Nat) (m : Mem) : AV → AV
  | .agg xs => .agg (frzL rho m xs)
  | .tup xs => .tup (frzL rho m xs)
  | .fn f xs => .fn f (frzL rho m xs)
  | .arr k off len => match pos rho k with
    | some i => .arr i off len
    | none => match lookM m k with
      | some (.arr sz xs) => .ro sz ((xs.drop off).take len)
      | some (.mat sz rows) => bif rowsOk rows then .ro 1 (((rows.map (rowRO sz)).drop off).take len) else .dead
      | _ => .dead
  | .ptr k off => match pos rho k with
    | some i => .ptr i off
    | none => match lookM m k with
      | some (.box cs) => if kfs cs then .rp (cs.drop off) else .dead
      | _ => .dead
  | .mp k => match pos rho k with
    | some i => .mp i
    | none => match lookM m k with
      | some (.map es) => .rm es
      | _ => .dead
  | .elt _ _ _ => .dead
  | x => x
def frzL (rho : List Nat) (m : Mem) : List AV → List AV
  | [] => []
  | x :: r => frz rho m x :: frzL rho m r
end

mutual
/-- the keys that are looked through -/
def kys : AV → List Nat
  | .agg xs => kysL xs
  | .tup xs => kysL xs
  | .fn _ xs => kysL xs
  | .arr k _ _ => [k]
  | .ptr k _ => [k]
  | .mp k => [k]
  | _ => []
def kysL : List AV → List Nat
  | [] => []
  | x :: r => kys x ++ kysL r
end

def kills : List Nat → Mem
  | [] => []
  | k :: r => (k, none) :: kills r

end Go.Av
