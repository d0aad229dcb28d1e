/- Abstract values: Go values with what they lead to in memory, and the relation between them and a world. -/
import Derived.Calls
import Derived.Orders
import Derived.Below
import Derived.Laws.World
import Derived.KernelRfl
namespace Go.Av

inductive AV where
  | v (x : Value)
  | agg (xs : List AV)
  | tup (xs : List AV)
  | ro (sz : Nat) (xs : List AV)
  | rp (cs : List AV)
  | fn (f : FuncId) (caps : List AV)
  | ptr (k off : Nat)
  | arr (k off len : Nat)
  | elt (k i j : Nat)
  | mp (k : Nat)
  | rm (es : List (Value × AV))
  | dead

def AV.cells : AV → List AV
  | .agg xs => xs
  | x => [x]

/-- the value of one cell -/
def AV.isCell : AV → Bool
  | .v (.agg _) => false
  | .v (.tuple _) => false
  | .agg _ => false
  | .tup _ => false
  | .dead => false
  | _ => true

def allCell : List AV → Bool
  | [] => true
  | x :: r => x.isCell && allCell r

structure Loc where
  b : Nat
  base : Nat
  sz : Nat
  cap : Nat
  used : Nat
  isNil : Bool
  subs : Nat → Option Nat := fun _ => none

/-- the blocks of a place -/
def Loc.has (l : Loc) (b : Nat) : Prop := (l.isNil = false ∧ l.b = b) ∨ ∃ i, l.subs i = some b
/-- the same place, whatever its rows are -/
structure Loc.same (l' l : Loc) : Prop where
  b : l'.b = l.b
  base : l'.base = l.base
  sz : l'.sz = l.sz
  cap : l'.cap = l.cap
  used : l'.used = l.used
  isNil : l'.isNil = l.isNil
theorem Loc.same_refl (l : Loc) : l.same l := ⟨rfl, rfl, rfl, rfl, rfl, rfl⟩
theorem Loc.same.trans {a b c : Loc} (h : a.same b) (h' : b.same c) : a.same c :=
  ⟨h.b.trans h'.b, h.base.trans h'.base, h.sz.trans h'.sz, h.cap.trans h'.cap, h.used.trans h'.used, h.isNil.trans h'.isNil⟩
theorem Loc.has_one {l : Loc} (hs : ∀ i, l.subs i = none) {b : Nat} (h : l.has b) : l.isNil = false ∧ l.b = b := by
  rcases h with h | ⟨i, h⟩
  · exact h
  · rw [hs] at h; cases h
theorem Loc.has_new {l : Loc} (hs : ∀ i, l.subs i = none) {p q : Nat} (h : l.isNil = false → p ≤ l.b ∧ l.b < q) : ∀ b, l.has b → p ≤ b ∧ b < q := fun b hb => by
  obtain ⟨h1, rfl⟩ := Loc.has_one hs hb
  exact h h1
theorem Loc.has1 {l : Loc} (h : l.isNil = false) : l.has l.b := .inl ⟨h, rfl⟩

/-- what is only read: a value, and what it leads to, in the blocks S -/
inductive R0 (w : World) (S : Nat → Prop) : AV → Value → Prop where
  | v (x : Value) : R0 w S (.v x) x
  | dead (x : Value) : R0 w S .dead x
  | agg {xs : List AV} {vs : Array Value} (hl : xs.length = vs.size)
      (h : ∀ (i : Nat) x y, xs[i]? = some x → vs[i]? = some y → R0 w S x y) : R0 w S (.agg xs) (.agg vs)
  | tup {xs : List AV} {vs : Array Value} (hl : xs.length = vs.size)
      (h : ∀ (i : Nat) x y, xs[i]? = some x → vs[i]? = some y → R0 w S x y) : R0 w S (.tup xs) (.tuple vs)
  | fn {f : FuncId} {xs : List AV} {vs : Array Value} (hl : xs.length = vs.size)
      (h : ∀ (i : Nat) x y, xs[i]? = some x → vs[i]? = some y → R0 w S x y) : R0 w S (.fn f xs) (.func (.func f) #[] vs)
  | roNil {sz : Nat} {a : Option Addr} {cap : Nat} : R0 w S (.ro sz []) (.slice a 0 cap)
  | ro {sz : Nat} {xs : List AV} {b off cap : Nat} {c : Nat → Value} (hb : S b) (hcap : xs.length ≤ cap)
      (hs : ∀ (i : Nat) x, xs[i]? = some x → x.cells.length = sz ∧ allCell x.cells = true)
      (hc : ∀ o, o < xs.length * sz → w.cell? ⟨b, off + o, none⟩ = some (c o))
      (h : ∀ (i : Nat) x (j : Nat) y, xs[i]? = some x → x.cells[j]? = some y → R0 w S y (c (i * sz + j))) :
      R0 w S (.ro sz xs) (.slice (some ⟨b, off, none⟩) xs.length cap)
  | rp {cs : List AV} {b off : Nat} {c : Nat → Value} (hb : S b)
      (hc : ∀ j, j < cs.length → w.cell? ⟨b, off + j, none⟩ = some (c j))
      (h : ∀ (j : Nat) y, cs[j]? = some y → R0 w S y (c j)) : R0 w S (.rp cs) (.pointer (some ⟨b, off, none⟩))
  | rm {es : List (Value × AV)} {b clock : Nat} {ents : Array MapEntry} (hb : S b) (hw : w.heap[b]? = some (.map ents clock))
      (hl : es.length = ents.size) (hk : ∀ (i : Nat) p e, es[i]? = some p → ents[i]? = some e → e.key = p.1)
      (hbn : ∀ (i : Nat) e, ents[i]? = some e → e.born < clock)
      (hbi : ∀ (i j : Nat) e e', ents[i]? = some e → ents[j]? = some e' → e.born = e'.born → i = j)
      (h : ∀ (i : Nat) p e, es[i]? = some p → ents[i]? = some e → R0 w S p.2 e.val) : R0 w S (.rm es) (.map (some b))

/-- the same, and keys of the call's own objects -/
inductive R (w : World) (S : Nat → Prop) (κ : Nat → Option Loc) : AV → Value → Prop where
  | base {x : AV} {v : Value} (h : R0 w S x v) : R w S κ x v
  | agg {xs : List AV} {vs : Array Value} (hl : xs.length = vs.size)
      (h : ∀ (i : Nat) x y, xs[i]? = some x → vs[i]? = some y → R w S κ x y) : R w S κ (.agg xs) (.agg vs)
  | tup {xs : List AV} {vs : Array Value} (hl : xs.length = vs.size)
      (h : ∀ (i : Nat) x y, xs[i]? = some x → vs[i]? = some y → R w S κ x y) : R w S κ (.tup xs) (.tuple vs)
  | fn {f : FuncId} {xs : List AV} {vs : Array Value} (hl : xs.length = vs.size)
      (h : ∀ (i : Nat) x y, xs[i]? = some x → vs[i]? = some y → R w S κ x y) : R w S κ (.fn f xs) (.func (.func f) #[] vs)
  | ptr {k off : Nat} {l : Loc} (hk : κ k = some l) : R w S κ (.ptr k off) (.pointer (some ⟨l.b, l.base + off, none⟩))
  | elt {k i j : Nat} {l : Loc} (hk : κ k = some l) (hn : l.isNil = false) : R w S κ (.elt k i j) (.pointer (some ⟨l.b, l.base + i * l.sz + j, none⟩))
  | arrNil {k : Nat} {l : Loc} (hk : κ k = some l) (hn : l.isNil = true) : R w S κ (.arr k 0 0) (.slice none 0 0)
  | arr {k off len cap : Nat} {l : Loc} (hk : κ k = some l) (hn : l.isNil = false) (hlen : len ≤ cap) (hc : off + cap ≤ l.cap) (hu : off + len ≤ l.used) :
      R w S κ (.arr k off len) (.slice (some ⟨l.b, l.base + off * l.sz, none⟩) len cap)
  | arr0 {k off : Nat} {a : Addr} {l : Loc} (hk : κ k = some l) : R w S κ (.arr k off 0) (.slice (some a) 0 0)
  | mp {k : Nat} {l : Loc} (hk : κ k = some l) (hn : l.isNil = false) : R w S κ (.mp k) (.map (some l.b))

theorem R0.mono {w w' : World} {S S' : Nat → Prop} {x : AV} {v : Value} (h : R0 w S x v)
    (hw : ∀ b, S b → w'.heap[b]? = w.heap[b]?) (hS : ∀ b, S b → S' b) : R0 w' S' x v := by
  have hcell : ∀ b, S b → ∀ o, w'.cell? ⟨b, o, none⟩ = w.cell? ⟨b, o, none⟩ := fun b hb o => by
    unfold World.cell?; rw [hw b hb]
  induction h with
  | v x => exact .v x
  | dead x => exact .dead x
  | agg hl _ ih => exact .agg hl ih
  | tup hl _ ih => exact .tup hl ih
  | fn hl _ ih => exact .fn hl ih
  | roNil => exact .roNil
  | ro hb hcap hs hc _ ih => exact .ro (hS _ hb) hcap hs (fun o ho => (hcell _ hb _).trans (hc o ho)) ih
  | rp hb hc _ ih => exact .rp (hS _ hb) (fun o ho => (hcell _ hb _).trans (hc o ho)) ih
  | rm hb hw' hl hk hn hi _ ih => exact .rm (hS _ hb) ((hw _ hb).trans hw') hl hk hn hi ih

theorem R.mono {w w' : World} {S S' : Nat → Prop} {κ κ' : Nat → Option Loc} {x : AV} {v : Value} (h : R w S κ x v)
    (hw : ∀ b, S b → w'.heap[b]? = w.heap[b]?) (hS : ∀ b, S b → S' b) (hκ : ∀ k l, κ k = some l → κ' k = some l) : R w' S' κ' x v := by
  induction h with
  | base h => exact .base (h.mono hw hS)
  | agg hl _ ih => exact .agg hl ih
  | tup hl _ ih => exact .tup hl ih
  | fn hl _ ih => exact .fn hl ih
  | ptr hk => exact .ptr (hκ _ _ hk)
  | elt hk hn => exact .elt (hκ _ _ hk) hn
  | arrNil hk hn => exact .arrNil (hκ _ _ hk) hn
  | arr hk hn h1 h2 h3 => exact .arr (hκ _ _ hk) hn h1 h2 h3
  | arr0 hk => exact .arr0 (hκ _ _ hk)
  | mp hk hn => exact .mp (hκ _ _ hk) hn

theorem R0.notAgg {w : World} {S : Nat → Prop} {x : AV} {v : Value} (h : R0 w S x v) (hx : x.isCell = true) :
    (∀ c, v ≠ .agg c) ∧ (∀ c, v ≠ .tuple c) := by
  cases h <;> (try (simp_all [AV.isCell]; done))
  cases v <;> simp_all [AV.isCell]

theorem R.notAgg {w : World} {S : Nat → Prop} {κ : Nat → Option Loc} {x : AV} {v : Value} (h : R w S κ x v) (hx : x.isCell = true) :
    (∀ c, v ≠ .agg c) ∧ (∀ c, v ≠ .tuple c) := by
  cases h with
  | base h => exact h.notAgg hx
  | _ => simp_all [AV.isCell]

/-- only temporaries and boxes look at a place, never at its rows -/
theorem R.core {w : World} {S : Nat → Prop} {κ κ' : Nat → Option Loc} {x : AV} {v : Value} (h : R w S κ x v)
    (hκ : ∀ k l, κ k = some l → ∃ l', κ' k = some l' ∧ l'.same l) : R w S κ' x v := by
  induction h with
  | base h => exact .base h
  | agg hl _ ih => exact .agg hl ih
  | tup hl _ ih => exact .tup hl ih
  | fn hl _ ih => exact .fn hl ih
  | ptr hk =>
    rename_i k off l
    obtain ⟨l', h1, h2⟩ := hκ _ _ hk
    have e1 : l'.b = l.b := h2.b
    have e2 : l'.base = l.base := h2.base
    rw [← e1, ← e2]; exact .ptr h1
  | elt hk hn =>
    rename_i k i j l
    obtain ⟨l', h1, h2⟩ := hκ _ _ hk
    have e1 : l'.b = l.b := h2.b
    have e2 : l'.base = l.base := h2.base
    have e3 : l'.sz = l.sz := h2.sz
    have e4 : l'.isNil = l.isNil := h2.isNil
    rw [← e1, ← e2, ← e3]; exact .elt h1 (e4.trans hn)
  | arrNil hk hn =>
    obtain ⟨l', h1, h2⟩ := hκ _ _ hk
    exact .arrNil h1 ((h2.isNil).trans hn)
  | arr hk hn h1 h2 h3 =>
    rename_i k off len cap l
    obtain ⟨l', g1, g2⟩ := hκ _ _ hk
    have e1 : l'.b = l.b := g2.b
    have e2 : l'.base = l.base := g2.base
    have e3 : l'.sz = l.sz := g2.sz
    have e4 : l'.isNil = l.isNil := g2.isNil
    have e5 : l'.cap = l.cap := g2.cap
    have e6 : l'.used = l.used := g2.used
    rw [← e1, ← e2, ← e3]; exact .arr g1 (e4.trans hn) h1 (by omega) (by omega)
  | arr0 hk => obtain ⟨l', h1, _⟩ := hκ _ _ hk; exact .arr0 h1
  | mp hk hn =>
    rename_i k l
    obtain ⟨l', h1, h2⟩ := hκ _ _ hk
    have e1 : l'.b = l.b := h2.b
    rw [← e1]; exact .mp h1 ((h2.isNil).trans hn)

/-- a row of a slice of slices: the call's own; a value that is only read; one that has been taken out -/
inductive MRow where
  | own (xs : List AV)
  | cell (x : AV)
  | gone

inductive MObj where
  | box (cs : List AV)
  | arr (sz : Nat) (xs : List AV)
  | mat (sz : Nat) (rows : List MRow)
  | lent (sz : Nat) (rows : List MRow) (i q : Nat)
  | map (es : List (Value × AV))
  | iter (rest : List (Value × AV)) (cur : Option (Value × AV))

abbrev Tmps := List (Nat × AV)
abbrev Mem := List (Nat × Option MObj)

def look : Tmps → Nat → AV
  | [], _ => .dead
  | (k, v) :: r, n => if k = n then v else look r n

def lookM : Mem → Nat → Option MObj
  | [], _ => none
  | (k, v) :: r, n => if k = n then v else lookM r n

/-- an iterator over a map that is only read: what is before it, and what it is at -/
def IterR (w : World) (S : Nat → Prop) (b : Nat) (rest : List (Value × AV)) (cur : Option (Value × AV)) : Prop :=
  (w.heap[b]? = some (.mapIter none 0 #[] 0) ∧ rest = [] ∧ cur = none) ∨
  ∃ (mb : Nat) (seen : Array Nat) (ents : Array MapEntry) (clock : Nat), S mb ∧ w.heap[b]? = some (.mapIter (some mb) clock seen clock) ∧ w.heap[mb]? = some (.map ents clock) ∧
    (∀ (i : Nat) e, ents[i]? = some e → e.born < clock) ∧
    (∀ (i j : Nat) e e', ents[i]? = some e → ents[j]? = some e' → e.born = e'.born → i = j) ∧
    (∃ idx : List Nat, idx.length = rest.length ∧ idx.Nodup ∧
      (∀ (j : Nat) p i, rest[j]? = some p → idx[j]? = some i → ∃ e, ents[i]? = some e ∧ e.key = p.1 ∧ R0 w S p.2 e.val) ∧
      (∀ (i : Nat) e, ents[i]? = some e → (e.born ∉ seen ↔ i ∈ idx))) ∧
    (∀ p, cur = some p → ∃ (i : Nat) (e : MapEntry), ents[i]? = some e ∧ seen.back? = some e.born ∧ e.key = p.1 ∧ R0 w S p.2 e.val)

theorem IterR.mono {w w' : World} {S S' : Nat → Prop} {b : Nat} {rest : List (Value × AV)} {cur : Option (Value × AV)} (h : IterR w S b rest cur)
    (hw : ∀ b, S b → w'.heap[b]? = w.heap[b]?) (hS : ∀ b, S b → S' b) (hb : w'.heap[b]? = w.heap[b]?) : IterR w' S' b rest cur := by
  rcases h with h | ⟨mb, seen, ents, clock, h1, h2, h3, h4, h5, ⟨idx, h6, h7, h8, h9⟩, h10⟩
  · exact .inl ⟨hb.trans h.1, h.2⟩
  · refine .inr ⟨mb, seen, ents, clock, hS _ h1, hb.trans h2, (hw _ h1).trans h3, h4, h5, ⟨idx, h6, h7, fun j p i hp hi => ?_, h9⟩, fun p hp => ?_⟩
    · obtain ⟨e, g1, g2, g3⟩ := h8 j p i hp hi
      exact ⟨e, g1, g2, g3.mono hw hS⟩
    · obtain ⟨i, e, g1, g2, g3, g4⟩ := h10 p hp
      exact ⟨i, e, g1, g2, g3, g4.mono hw hS⟩

/-- a row: its block (none: it owns none), what stands in its cell -/
def RowR (w : World) (S : Nat → Prop) (sz : Nat) (sub : Option Nat) (c : Value) : MRow → Prop
  | .own xs => (xs = [] ∧ sub = none ∧ ∃ a, c = .slice a 0 0) ∨ ∃ b base cap, sub = some b ∧ c = .slice (some ⟨b, base, none⟩) xs.length cap ∧ xs.length ≤ cap ∧
      ∃ (vs : Array Value) (T : TypeId), w.heap[b]? = some (.cells vs T (0, 0)) ∧ base + cap * sz ≤ vs.size ∧
      (∀ (i : Nat) x, xs[i]? = some x → x.cells.length = sz ∧ allCell x.cells = true) ∧
      ∀ (i : Nat) x (j : Nat) y, xs[i]? = some x → x.cells[j]? = some y → ∃ c, vs[base + i * sz + j]? = some c ∧ R0 w S y c
  | .cell x => sub = none ∧ x.isCell = true ∧ x.cells = [x] ∧ R0 w S x c
  | .gone => sub = none

theorem RowR.mono {w w' : World} {S S' : Nat → Prop} {sz : Nat} {sub : Option Nat} {c : Value} {r : MRow} (h : RowR w S sz sub c r)
    (hw : ∀ b, S b → w'.heap[b]? = w.heap[b]?) (hS : ∀ b, S b → S' b) (hb : ∀ b, sub = some b → w'.heap[b]? = w.heap[b]?) : RowR w' S' sz sub c r := by
  cases r with
  | own xs =>
    rcases h with h | ⟨b, base, cap, h1, h2, h3, vs, T, h4, h5, h6, h7⟩
    · exact .inl h
    refine .inr ⟨b, base, cap, h1, h2, h3, vs, T, (hb b h1).trans h4, h5, h6, fun i x j y hx hy => ?_⟩
    obtain ⟨c, hc, hr⟩ := h7 i x j y hx hy
    exact ⟨c, hc, hr.mono hw hS⟩
  | cell x => exact ⟨h.1, h.2.1, h.2.2.1, h.2.2.2.mono hw hS⟩
  | gone => exact h

/-- the package-level variables that hold what the statement's row lists: number, cells -/
def globs : List (Nat × List AV) := []

/-- the blocks that are only read; what the listed variables hold -/
structure SB (w : World) (S : Nat → Prop) : Prop where
  lt : ∀ b, S b → b < w.heap.size
  gl : ∀ g cs, (g, cs) ∈ globs → R0 w S (.rp cs) (.pointer (some ⟨g, 0, none⟩))

theorem SB.mono {w w' : World} {S S' : Nat → Prop} (h : SB w S) (hw : ∀ b, S b → w'.heap[b]? = w.heap[b]?) (hS : ∀ b, S b → S' b) (hl : ∀ b, S' b → b < w'.heap.size) : SB w' S' :=
  ⟨hl, fun g cs hg => (h.gl g cs hg).mono hw hS⟩

/-- what stands in the cell of a row that was taken out: the slice that the object q is -/
def OutR (κ : Nat → Option Loc) (sz : Nat) (c : Value) (q : Nat) : Prop :=
  ∃ l, κ q = some l ∧ ((l.isNil = true ∧ ∃ a, c = .slice a 0 0) ∨
    (l.isNil = false ∧ l.sz = sz ∧ ∃ cap, l.used ≤ cap ∧ cap ≤ l.cap ∧ c = .slice (some ⟨l.b, l.base, none⟩) l.used cap))

theorem OutR.core {κ κ' : Nat → Option Loc} {sz q : Nat} {c : Value} (h : OutR κ sz c q) (hκ : ∀ k l, κ k = some l → ∃ l', κ' k = some l' ∧ l'.same l) : OutR κ' sz c q := by
  obtain ⟨l, h1, h2⟩ := h
  obtain ⟨l', h3, h4⟩ := hκ _ _ h1
  refine ⟨l', h3, ?_⟩
  rcases h2 with ⟨h5, h6⟩ | ⟨h5, h6, cap, h7, h8, h9⟩
  · exact .inl ⟨h4.isNil.trans h5, h6⟩
  · exact .inr ⟨h4.isNil.trans h5, h4.sz.trans h6, cap, by rw [h4.used]; exact h7, by rw [h4.cap]; exact h8, by rw [h4.b, h4.base, h4.used]; exact h9⟩

/-- what an object of the call's own is in the world -/
def ObjR (w : World) (S : Nat → Prop) (κ : Nat → Option Loc) (k : Nat) : MObj → Prop
  | .box cs => ∃ l, κ k = some l ∧ l.isNil = false ∧ ∃ (vs : Array Value) (T : TypeId), w.heap[l.b]? = some (.cells vs T (0, 0)) ∧ l.base + cs.length ≤ vs.size ∧
      ∀ (j : Nat) y, cs[j]? = some y → ∃ c, vs[l.base + j]? = some c ∧ R w S κ y c
  | .arr sz xs => ∃ l, κ k = some l ∧ ((l.isNil = true ∧ xs = []) ∨ (l.isNil = false ∧ l.sz = sz ∧ xs.length = l.used ∧ l.used ≤ l.cap ∧
      ∃ (vs : Array Value) (T : TypeId), w.heap[l.b]? = some (.cells vs T (0, 0)) ∧ l.base + l.cap * sz ≤ vs.size ∧
      (∀ (i : Nat) x, xs[i]? = some x → x.cells.length = sz ∧ allCell x.cells = true) ∧
      ∀ (i : Nat) x (j : Nat) y, xs[i]? = some x → x.cells[j]? = some y → ∃ c, vs[l.base + i * sz + j]? = some c ∧ R0 w S y c))
  | .mat sz rows => ∃ l, κ k = some l ∧ l.isNil = false ∧ l.sz = 1 ∧ rows.length = l.used ∧ l.used ≤ l.cap ∧
      (∀ i j b, l.subs i = some b → l.subs j = some b → i = j) ∧ (∀ i b, l.subs i = some b → b ≠ l.b ∧ i < rows.length) ∧
      ∃ (vs : Array Value) (T : TypeId), w.heap[l.b]? = some (.cells vs T (0, 0)) ∧ l.base + l.cap ≤ vs.size ∧
      ∀ (i : Nat) r, rows[i]? = some r → ∃ c, vs[l.base + i]? = some c ∧ RowR w S sz (l.subs i) c r
  | .lent sz rows i0 q => ∃ l, κ k = some l ∧ l.isNil = false ∧ l.sz = 1 ∧ rows.length = l.used ∧ l.used ≤ l.cap ∧
      (∀ i j b, l.subs i = some b → l.subs j = some b → i = j) ∧ (∀ i b, l.subs i = some b → b ≠ l.b ∧ i < rows.length) ∧
      ∃ (vs : Array Value) (T : TypeId), w.heap[l.b]? = some (.cells vs T (0, 0)) ∧ l.base + l.cap ≤ vs.size ∧
      (∀ (i : Nat) r, rows[i]? = some r → ∃ c, vs[l.base + i]? = some c ∧ RowR w S sz (l.subs i) c r) ∧
      rows[i0]? = some .gone ∧ ∃ c, vs[l.base + i0]? = some c ∧ OutR κ sz c q
  | .map es => ∃ l, κ k = some l ∧ l.isNil = false ∧ ∃ (ents : Array MapEntry) (clock : Nat), w.heap[l.b]? = some (.map ents clock) ∧ es.length = ents.size ∧
      (∀ (i : Nat) e, ents[i]? = some e → e.born < clock) ∧
      (∀ (i j : Nat) e e', ents[i]? = some e → ents[j]? = some e' → e.born = e'.born → i = j) ∧
      (∀ (i : Nat) p e, es[i]? = some p → ents[i]? = some e → e.key = p.1 ∧ R0 w S p.2 e.val)
  | .iter rest cur => ∃ l, κ k = some l ∧ l.isNil = false ∧ l.base = 0 ∧ IterR w S l.b rest cur

/-- a slice of slices, one row of which was taken out -/
theorem ObjR.unlent {w : World} {S : Nat → Prop} {κ : Nat → Option Loc} {k sz i q : Nat} {rows : List MRow} (h : ObjR w S κ k (.lent sz rows i q)) : ObjR w S κ k (.mat sz rows) := by
  obtain ⟨l, hk, hn, h1, h2, h3, h4, h5, vs, T, h6, h7, h8, _⟩ := h
  exact ⟨l, hk, hn, h1, h2, h3, h4, h5, vs, T, h6, h7, h8⟩

/-- the call's own objects lie in blocks of their own, none of which is only read -/
structure Ent (w : World) (S : Nat → Prop) (κ : Nat → Option Loc) (m : Mem) (F : Nat → Prop) : Prop where
  mm : ∀ k o, lookM m k = some o → ObjR w S κ k o
  inj : ∀ k k' o o' l l' b, lookM m k = some o → lookM m k' = some o' → κ k = some l → κ k' = some l' → l.has b → l'.has b → k = k'
  own : ∀ k o l b, lookM m k = some o → κ k = some l → l.has b → ¬ S b ∧ b < w.heap.size
  fresh : ∀ k, F k → lookM m k = none ∧ κ k = none
  sb : SB w S

theorem Ent.own1 {w : World} {S : Nat → Prop} {κ : Nat → Option Loc} {m : Mem} {F : Nat → Prop} (e : Ent w S κ m F) (k : Nat) (o : MObj) (l : Loc) (h : lookM m k = some o) (hk : κ k = some l)
    (hn : l.isNil = false) : ¬ S l.b ∧ l.b < w.heap.size := e.own k o l l.b h hk (.inl ⟨hn, rfl⟩)

structure Ctx where
  w0 : World
  S0 : Nat → Prop
  L : Nat → Prop
  K0 : Nat → Option Loc

/-- what has become of the world since the call began -/
structure Since (X : Ctx) (w : World) (S : Nat → Prop) (κ : Nat → Option Loc) (m : Mem) : Prop where
  own : ∀ k o l b, lookM m k = some o → κ k = some l → l.has b → X.w0.heap.size ≤ b ∨ X.L b
  s0 : ∀ b, S b → X.S0 b ∨ X.w0.heap.size ≤ b ∨ X.L b
  os : w.os = X.w0.os
  tape : w.tape = X.w0.tape
  output : w.output = X.w0.output
  ge : X.w0.heap.size ≤ w.heap.size
  keep : ∀ b, b < X.w0.heap.size → ¬ X.L b → w.heap[b]? = X.w0.heap[b]?
  kp : ∀ k l, X.K0 k = some l → ∃ l', κ k = some l' ∧ l'.same l

structure Rel (X : Ctx) (N : Nat) (w : World) (S : Nat → Prop) (κ : Nat → Option Loc) (t : Tmps) (m : Mem) (F : Nat → Prop) (a : Act) : Prop where
  size : a.tmps.size = N
  defers : a.defers = []
  tm : ∀ i, R w S κ (look t i) (a.tmps.getD i undef)
  ent : Ent w S κ m F
  since : Since X w S κ m

end Go.Av
