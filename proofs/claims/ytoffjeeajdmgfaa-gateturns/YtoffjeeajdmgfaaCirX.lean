/- Circuits whose negations are moved down to the inputs: the program's functions. -/
import Derived.Test.YtoffjeeajdmgfaaGateT
import Derived.Test.YtoffjeeajdmgfaaCirC
import Derived.Test.YtoffjeeajdmgfaaGateP
set_option linter.unusedSimpArgs false
set_option linter.unusedVariables false
set_option maxRecDepth 100000
namespace Go.Av
open Go.Proofs

def scell (i : Nat) (b : Bool) : List Value := [.int .i64 i, .bool b]
def plE (es : PE) : List (Value × AV) := es.map fun p => (.agg (scell p.1.1 p.1.2).toArray, IN p.2)
def trM (l gs : List Gt) (es : PE) : List MObj := [.box [.arr 1 0 gs.length, .mp 2, .ro 3 (l.map encG), .mp 3], .arr 3 (gs.map encG), .map (knE 0 gs), .map (plE es)]
def trR (l gs : List Gt) (es : PE) : List (Option MObj) := [some (.box [.arr 4 0 gs.length, .mp 2, .ro 3 (l.map encG), .mp 3]), none, some (.map (knE 0 gs)), some (.map (plE es)), some (.arr 3 (gs.map encG))]
def trZ (l : List Gt) : List MObj := [.box [.v (.slice none 0 0), .v (.map none), .ro 3 (l.map encG), .mp 1], .map []]
def trN (l gs : List Gt) (es : PE) : List (Option MObj) := [some (.box [.arr 2 0 gs.length, .mp 3, .ro 3 (l.map encG), .mp 1]), some (.map (plE es)), some (.arr 3 (gs.map encG)), some (.map (knE 0 gs))]
theorem plE0 : plE [] = [] := rfl

theorem plE_keys (es : PE) : AKeys [.n .i64, .b] (plE es) := by
  intro p hp
  simp only [plE, List.mem_map] at hp
  obtain ⟨q, _, rfl⟩ := hp
  exact ⟨_, rfl, by simp [scell, cksOk, ckOk]⟩
theorem plE_T (es : PE) : AKeys [.n .i64, .b] (plE es) = True := eq_true (plE_keys es)
theorem skey (i j : Nat) (b c : Bool) : akeyIs (scell i b) (.agg (scell j c).toArray) = decide (j = i ∧ c = b) := by
  simp only [akeyIs, scell, cellsEq, cellEq, Bool.and_true]
  rw [Bool.eq_iff_iff]
  simp only [Bool.and_eq_true, decide_eq_true_eq]
  exact ⟨fun h => ⟨by omega, h.2.symm⟩, fun h => ⟨by omega, h.2.symm⟩⟩
theorem plE_find (i : Nat) (b : Bool) : ∀ es : PE, kfind (scell i b) (plE es) = (lookS es i b).map IN
  | [] => rfl
  | ((j, c), n) :: es => by
    have ih := plE_find i b es
    simp only [plE] at ih
    simp only [plE, List.map_cons, kfind, skey, lookS]
    by_cases h : j = i ∧ c = b
    · rw [if_pos h, decide_eq_true h]; rfl
    · rw [if_neg h, decide_eq_false h]; exact ih
theorem plE_put (i : Nat) (b : Bool) (n : Nat) : ∀ es : PE, kput (scell i b) (IN n) (plE es) = plE (putS es i b n)
  | [] => rfl
  | ((j, c), m) :: es => by
    have ih := plE_put i b n es
    simp only [plE] at ih
    simp only [plE, List.map_cons, kput, skey, putS]
    by_cases h : j = i ∧ c = b
    · rw [if_pos h, decide_eq_true h]; rfl
    · rw [if_neg h, decide_eq_false h]
      simp only [cond_false, List.map_cons]
      rw [ih]

theorem andR_nn {gs : List Gt} {a b : Nat} : andR gs (a : Int) (b : Int) = addR gs ⟨3, a, b⟩ := by
  unfold andR; rw [if_neg (by omega), if_neg (by omega), if_neg (by omega)]
theorem orR_nn {gs : List Gt} {a b : Nat} : orR gs (a : Int) (b : Int) = addR gs ⟨4, a, b⟩ := by
  unfold orR; rw [if_neg (by omega), if_neg (by omega), if_neg (by omega)]
theorem notR_nn {gs : List Gt} {a : Nat} : notR gs (a : Int) = addR gs ⟨2, a, 0⟩ := by
  unfold notR; rw [if_neg (by omega), if_neg (by omega)]
theorem stpR (gs : List Gt) (g : Gt) : addR gs g = ((stp gs g).1, ((stp gs g).2 : Int)) := rfl

/-- what is told of place, for gates before f -/
def PlaceT (inn : Int) (l : List Gt) (f : Nat) : Prop := ∀ (gs : List Gt) (es : PE) (i : Nat) (b : Bool), i < f → i < l.length → TI inn l (gs, es) →
  CallsM Try.prog 29 [.ptr 0 0, .agg [IN i, Bo b]] (trM l gs es) (IN (plS l f (gs, es) i b).2) (trR l (plS l f (gs, es) i b).1.1 (plS l f (gs, es) i b).1.2)
def PlaceZ (l : List Gt) (f : Nat) : Prop := ∀ (i : Nat) (b : Bool), i < f → i < l.length →
  CallsM Try.prog 29 [.ptr 0 0, .agg [IN i, Bo b]] (trZ l) (IN (plS l f ([], []) i b).2) (trN l (plS l f ([], []) i b).1.1 (plS l f ([], []) i b).1.2)

theorem tadd_spec {inn : Int} {l : List Gt} (hl : GsOk inn l) (hll : l.length ≤ 40) {f : Nat} (H : PlaceT inn l f) (HZ : PlaceZ l f) (gs : List Gt) (es : PE) (i : Nat) (b : Bool) (hi : i ≤ f) (hil : i < l.length) (T : TI inn l (gs, es)) :
    CallsM Try.prog 42 [.ptr 0 0, encG (gAt l i), Bo b] (trM l gs es) (IN (atS (plS l f) (gs, es) (gAt l i) b).2) (trR l (atS (plS l f) (gs, es) (gAt l i) b).1.1 (atS (plS l f) (gs, es) (gAt l i) b).1.2) := by
  have hgi : l[i]? = some (gAt l i) := by rw [gAt, List.getElem?_eq_getElem hil]; rfl
  have hgo := gsOk_get hl hgi
  have hsm := T.small
  simp only at hsm
  generalize gAt l i = g at *
  obtain ⟨kd, a, c⟩ := g
  have hkk := hgo.kind
  have hin := hgo.input
  have hfi := hgo.first
  have hse := hgo.second
  simp only at hkk hin hfi hse
  refine fnM_of comp42 (by simp) (by simp [trM, trR, trZ, trN]) ?_
  unfold code42
  simp (maxSteps := 1000000) only [memOf, encG, clM, clR, clZ, clN, trM, trR, trZ, trN, vrest, frzL_vs, kysL_vs, reGL_vs, keysInL_vs, fzL_vs, SubL_vs, nbT, nbF, spl0, List.contains_nil, List.contains_cons, Bool.false_or, Bool.true_or, Bool.or_false, XX, reduceIte, ↓reduceIte, Nat.reduceAdd, Nat.reduceLeDiff, Nat.reduceEqDiff, Nat.reduceLT, Nat.reduceSub, Nat.reduceBEq, forall_const, reduceCtorEq, implies_true, exists_eq_left', exists_eq_left, if_true, if_false, undef]
  by_cases k2 : kd = 2
  · have e2 : (kd == 2) = true := by simpa using k2
    obtain ⟨p1, p2⟩ := hfi (by omega)
    have hp := H gs es a.toNat (!b) (by omega) (by omega) T
    have hat : atS (plS l f) (gs, es) ⟨kd, a, c⟩ b = plS l f (gs, es) a.toNat (!b) := by rw [atS, if_pos k2]
    rw [hat]
    rw [show IN a.toNat = I a by simp only [IN]; rw [Int.toNat_of_nonneg p1]] at hp
    generalize plS l f (gs, es) a.toNat (!b) = r at *
    simp (maxSteps := 1000000) only [e2, Bo, encG, clM, clR, clZ, clN, trM, trR, trZ, trN, vrest, frzL_vs, kysL_vs, reGL_vs, keysInL_vs, fzL_vs, SubL_vs, nbT, nbF, spl0, List.contains_nil, List.contains_cons, Bool.false_or, Bool.true_or, Bool.or_false, XX, reduceIte, ↓reduceIte, Nat.reduceAdd, Nat.reduceLeDiff, Nat.reduceEqDiff, Nat.reduceLT, Nat.reduceSub, Nat.reduceBEq, forall_const, reduceCtorEq, implies_true, exists_eq_left', exists_eq_left, if_true, if_false, undef]
    simp only [Bo] at hp
    refine callM [some 0, some 1, some 2, some 3] (hp) (by simp [encG, clM, clR, clZ, clN, trM, trR, trZ, trN, vrest, frzL_vs, kysL_vs, reGL_vs, keysInL_vs, fzL_vs, SubL_vs, nbT, nbF, spl0, List.contains_nil, List.contains_cons, Bool.false_or, Bool.true_or, Bool.or_false, XX, undef]) (by simp [encG, clM, clR, clZ, clN, trM, trR, trZ, trN, vrest, frzL_vs, kysL_vs, reGL_vs, keysInL_vs, fzL_vs, SubL_vs, nbT, nbF, spl0, List.contains_nil, List.contains_cons, Bool.false_or, Bool.true_or, Bool.or_false, XX, undef]) (by simp [encG, clM, clR, clZ, clN, trM, trR, trZ, trN, vrest, frzL_vs, kysL_vs, reGL_vs, keysInL_vs, fzL_vs, SubL_vs, nbT, nbF, spl0, List.contains_nil, List.contains_cons, Bool.false_or, Bool.true_or, Bool.or_false, XX, undef]) ?_
    simp (maxSteps := 1000000) only [encG, clM, clR, clZ, clN, trM, trR, trZ, trN, vrest, frzL_vs, kysL_vs, reGL_vs, keysInL_vs, fzL_vs, SubL_vs, nbT, nbF, spl0, List.contains_nil, List.contains_cons, Bool.false_or, Bool.true_or, Bool.or_false, XX, reduceIte, ↓reduceIte, Nat.reduceAdd, Nat.reduceLeDiff, Nat.reduceEqDiff, Nat.reduceLT, Nat.reduceSub, Nat.reduceBEq, forall_const, reduceCtorEq, implies_true, exists_eq_left', exists_eq_left, if_true, if_false, undef]
    exact ⟨[20], by simp [encG, clM, clR, clZ, clN, trM, trR, trZ, trN, vrest, frzL_vs, kysL_vs, reGL_vs, keysInL_vs, fzL_vs, SubL_vs, nbT, nbF, spl0, List.contains_nil, List.contains_cons, Bool.false_or, Bool.true_or, Bool.or_false, XX, undef], by simp [encG, clM, clR, clZ, clN, trM, trR, trZ, trN, vrest, frzL_vs, kysL_vs, reGL_vs, keysInL_vs, fzL_vs, SubL_vs, nbT, nbF, spl0, List.contains_nil, List.contains_cons, Bool.false_or, Bool.true_or, Bool.or_false, XX, undef], by simp [encG, clM, clR, clZ, clN, trM, trR, trZ, trN, vrest, frzL_vs, kysL_vs, reGL_vs, keysInL_vs, fzL_vs, SubL_vs, nbT, nbF, spl0, List.contains_nil, List.contains_cons, Bool.false_or, Bool.true_or, Bool.or_false, XX, undef]⟩
  have e2 : (kd == 2) = false := by simpa using k2
  by_cases k1 : kd = 1
  · have e1 : (kd == 1) = true := by simpa using k1
    have h1 : ∀ rest, CallsM Try.prog 47 [.ptr 0 0, I a] (clM rest gs) (IN (stp gs ⟨1, a, 0⟩).2) (clR rest (stp gs ⟨1, a, 0⟩).1) := fun rest => cin_spec rest gs a (by omega)
    have l1 : (stp gs ⟨1, a, 0⟩).1.length ≤ (gs : List Gt).length + 1 := (addG_len gs _).2
    try simp only [List.length_nil] at l1
    have h2 : ∀ rest, CallsM Try.prog 52 [.ptr 0 0, IN (stp gs ⟨1, a, 0⟩).2] (clM rest (stp gs ⟨1, a, 0⟩).1) (IN (stp (stp gs ⟨1, a, 0⟩).1 (nG (stp gs ⟨1, a, 0⟩).2)).2) (clR rest (stp (stp gs ⟨1, a, 0⟩).1 (nG (stp gs ⟨1, a, 0⟩).2)).1) := fun rest => by
      have := cnot_spec rest (stp gs ⟨1, a, 0⟩).1 ((stp gs ⟨1, a, 0⟩).2 : Int) (by omega)
      rw [notR_nn] at this; exact this
    cases b with
    | false =>
      have hat : atS (plS l f) (gs, es) ⟨kd, a, c⟩ false = (((stp gs ⟨1, a, 0⟩).1, es), (stp gs ⟨1, a, 0⟩).2) := by rw [atS, if_neg k2, if_pos k1]; rfl
      rw [hat]
      generalize stp gs ⟨1, a, 0⟩ = r at *
      simp (maxSteps := 1000000) only [e1, e2, Bo, encG, clM, clR, clZ, clN, trM, trR, trZ, trN, vrest, frzL_vs, kysL_vs, reGL_vs, keysInL_vs, fzL_vs, SubL_vs, nbT, nbF, spl0, List.contains_nil, List.contains_cons, Bool.false_or, Bool.true_or, Bool.or_false, XX, reduceIte, ↓reduceIte, Nat.reduceAdd, Nat.reduceLeDiff, Nat.reduceEqDiff, Nat.reduceLT, Nat.reduceSub, Nat.reduceBEq, forall_const, reduceCtorEq, implies_true, exists_eq_left', exists_eq_left, if_true, if_false, undef]
      refine callYp 0 [1, 2] [] [.arr 1 0 gs.length, .mp 2] [.arr 3 0 r.1.length, .mp 2] [.arr 3 (gs.map encG), .map (knE 0 gs)] [none, some (.map (knE 0 r.1))] [some (.arr 3 (r.1.map encG))] (fun rest _ => h1 rest) rfl (by simp) rfl (by simp [encG, clM, clR, clZ, clN, trM, trR, trZ, trN, vrest, frzL_vs, kysL_vs, reGL_vs, keysInL_vs, fzL_vs, SubL_vs, nbT, nbF, spl0, List.contains_nil, List.contains_cons, Bool.false_or, Bool.true_or, Bool.or_false, XX, undef]) (by simp) (by simp [encG, clM, clR, clZ, clN, trM, trR, trZ, trN, vrest, frzL_vs, kysL_vs, reGL_vs, keysInL_vs, fzL_vs, SubL_vs, nbT, nbF, spl0, List.contains_nil, List.contains_cons, Bool.false_or, Bool.true_or, Bool.or_false, XX, undef]) (by simp [encG, clM, clR, clZ, clN, trM, trR, trZ, trN, vrest, frzL_vs, kysL_vs, reGL_vs, keysInL_vs, fzL_vs, SubL_vs, nbT, nbF, spl0, List.contains_nil, List.contains_cons, Bool.false_or, Bool.true_or, Bool.or_false, XX, undef]) (by simp [encG, clM, clR, clZ, clN, trM, trR, trZ, trN, vrest, frzL_vs, kysL_vs, reGL_vs, keysInL_vs, fzL_vs, SubL_vs, nbT, nbF, spl0, List.contains_nil, List.contains_cons, Bool.false_or, Bool.true_or, Bool.or_false, XX, undef]) (by simp [encG, clM, clR, clZ, clN, trM, trR, trZ, trN, vrest, frzL_vs, kysL_vs, reGL_vs, keysInL_vs, fzL_vs, SubL_vs, nbT, nbF, spl0, List.contains_nil, List.contains_cons, Bool.false_or, Bool.true_or, Bool.or_false, XX, undef]) (by simp [encG, clM, clR, clZ, clN, trM, trR, trZ, trN, vrest, frzL_vs, kysL_vs, reGL_vs, keysInL_vs, fzL_vs, SubL_vs, nbT, nbF, spl0, List.contains_nil, List.contains_cons, Bool.false_or, Bool.true_or, Bool.or_false, XX, undef]) (by simp) (by simp) (by simp [encG, clM, clR, clZ, clN, trM, trR, trZ, trN, vrest, frzL_vs, kysL_vs, reGL_vs, keysInL_vs, fzL_vs, SubL_vs, nbT, nbF, spl0, List.contains_nil, List.contains_cons, Bool.false_or, Bool.true_or, Bool.or_false, XX, undef]) ?_
      simp (maxSteps := 1000000) only [e1, e2, Bo, encG, clM, clR, clZ, clN, trM, trR, trZ, trN, vrest, frzL_vs, kysL_vs, reGL_vs, keysInL_vs, fzL_vs, SubL_vs, nbT, nbF, spl0, List.contains_nil, List.contains_cons, Bool.false_or, Bool.true_or, Bool.or_false, XX, reduceIte, ↓reduceIte, Nat.reduceAdd, Nat.reduceLeDiff, Nat.reduceEqDiff, Nat.reduceLT, Nat.reduceSub, Nat.reduceBEq, forall_const, reduceCtorEq, implies_true, exists_eq_left', exists_eq_left, if_true, if_false, undef]
      exact ⟨[17], by simp [encG, clM, clR, clZ, clN, trM, trR, trZ, trN, vrest, frzL_vs, kysL_vs, reGL_vs, keysInL_vs, fzL_vs, SubL_vs, nbT, nbF, spl0, List.contains_nil, List.contains_cons, Bool.false_or, Bool.true_or, Bool.or_false, XX, undef], by simp [encG, clM, clR, clZ, clN, trM, trR, trZ, trN, vrest, frzL_vs, kysL_vs, reGL_vs, keysInL_vs, fzL_vs, SubL_vs, nbT, nbF, spl0, List.contains_nil, List.contains_cons, Bool.false_or, Bool.true_or, Bool.or_false, XX, undef], by simp [plE0, encG, clM, clR, clZ, clN, trM, trR, trZ, trN, vrest, frzL_vs, kysL_vs, reGL_vs, keysInL_vs, fzL_vs, SubL_vs, nbT, nbF, spl0, List.contains_nil, List.contains_cons, Bool.false_or, Bool.true_or, Bool.or_false, XX, undef]⟩
    | true =>
      have hat : atS (plS l f) (gs, es) ⟨kd, a, c⟩ true = (((stp (stp gs ⟨1, a, 0⟩).1 (nG (stp gs ⟨1, a, 0⟩).2)).1, es), (stp (stp gs ⟨1, a, 0⟩).1 (nG (stp gs ⟨1, a, 0⟩).2)).2) := by rw [atS, if_neg k2, if_pos k1]; rfl
      rw [hat]
      generalize stp gs ⟨1, a, 0⟩ = r at *
      generalize stp r.1 (nG r.2) = s at *
      simp (maxSteps := 1000000) only [e1, e2, Bo, encG, clM, clR, clZ, clN, trM, trR, trZ, trN, vrest, frzL_vs, kysL_vs, reGL_vs, keysInL_vs, fzL_vs, SubL_vs, nbT, nbF, spl0, List.contains_nil, List.contains_cons, Bool.false_or, Bool.true_or, Bool.or_false, XX, reduceIte, ↓reduceIte, Nat.reduceAdd, Nat.reduceLeDiff, Nat.reduceEqDiff, Nat.reduceLT, Nat.reduceSub, Nat.reduceBEq, forall_const, reduceCtorEq, implies_true, exists_eq_left', exists_eq_left, if_true, if_false, undef]
      refine callYp 0 [1, 2] [] [.arr 1 0 gs.length, .mp 2] [.arr 3 0 r.1.length, .mp 2] [.arr 3 (gs.map encG), .map (knE 0 gs)] [none, some (.map (knE 0 r.1))] [some (.arr 3 (r.1.map encG))] (fun rest _ => h1 rest) rfl (by simp) rfl (by simp [encG, clM, clR, clZ, clN, trM, trR, trZ, trN, vrest, frzL_vs, kysL_vs, reGL_vs, keysInL_vs, fzL_vs, SubL_vs, nbT, nbF, spl0, List.contains_nil, List.contains_cons, Bool.false_or, Bool.true_or, Bool.or_false, XX, undef]) (by simp) (by simp [encG, clM, clR, clZ, clN, trM, trR, trZ, trN, vrest, frzL_vs, kysL_vs, reGL_vs, keysInL_vs, fzL_vs, SubL_vs, nbT, nbF, spl0, List.contains_nil, List.contains_cons, Bool.false_or, Bool.true_or, Bool.or_false, XX, undef]) (by simp [encG, clM, clR, clZ, clN, trM, trR, trZ, trN, vrest, frzL_vs, kysL_vs, reGL_vs, keysInL_vs, fzL_vs, SubL_vs, nbT, nbF, spl0, List.contains_nil, List.contains_cons, Bool.false_or, Bool.true_or, Bool.or_false, XX, undef]) (by simp [encG, clM, clR, clZ, clN, trM, trR, trZ, trN, vrest, frzL_vs, kysL_vs, reGL_vs, keysInL_vs, fzL_vs, SubL_vs, nbT, nbF, spl0, List.contains_nil, List.contains_cons, Bool.false_or, Bool.true_or, Bool.or_false, XX, undef]) (by simp [encG, clM, clR, clZ, clN, trM, trR, trZ, trN, vrest, frzL_vs, kysL_vs, reGL_vs, keysInL_vs, fzL_vs, SubL_vs, nbT, nbF, spl0, List.contains_nil, List.contains_cons, Bool.false_or, Bool.true_or, Bool.or_false, XX, undef]) (by simp [encG, clM, clR, clZ, clN, trM, trR, trZ, trN, vrest, frzL_vs, kysL_vs, reGL_vs, keysInL_vs, fzL_vs, SubL_vs, nbT, nbF, spl0, List.contains_nil, List.contains_cons, Bool.false_or, Bool.true_or, Bool.or_false, XX, undef]) (by simp) (by simp) (by simp [encG, clM, clR, clZ, clN, trM, trR, trZ, trN, vrest, frzL_vs, kysL_vs, reGL_vs, keysInL_vs, fzL_vs, SubL_vs, nbT, nbF, spl0, List.contains_nil, List.contains_cons, Bool.false_or, Bool.true_or, Bool.or_false, XX, undef]) ?_
      simp (maxSteps := 1000000) only [e1, e2, Bo, encG, clM, clR, clZ, clN, trM, trR, trZ, trN, vrest, frzL_vs, kysL_vs, reGL_vs, keysInL_vs, fzL_vs, SubL_vs, nbT, nbF, spl0, List.contains_nil, List.contains_cons, Bool.false_or, Bool.true_or, Bool.or_false, XX, reduceIte, ↓reduceIte, Nat.reduceAdd, Nat.reduceLeDiff, Nat.reduceEqDiff, Nat.reduceLT, Nat.reduceSub, Nat.reduceBEq, forall_const, reduceCtorEq, implies_true, exists_eq_left', exists_eq_left, if_true, if_false, undef]
      refine callP 0 2 rfl (by simp) (fun rest hrest => callM [some 0, some 17, some 2] (h2 rest) (by simp [encG, clM, clR, clZ, clN, trM, trR, trZ, trN, vrest, frzL_vs, kysL_vs, reGL_vs, keysInL_vs, fzL_vs, SubL_vs, nbT, nbF, spl0, List.contains_nil, List.contains_cons, Bool.false_or, Bool.true_or, Bool.or_false, XX, undef]) (by simp [encG, clM, clR, clZ, clN, trM, trR, trZ, trN, vrest, frzL_vs, kysL_vs, reGL_vs, keysInL_vs, fzL_vs, SubL_vs, nbT, nbF, spl0, List.contains_nil, List.contains_cons, Bool.false_or, Bool.true_or, Bool.or_false, XX, undef]) (by simp [encG, clM, clR, clZ, clN, trM, trR, trZ, trN, vrest, frzL_vs, kysL_vs, reGL_vs, keysInL_vs, fzL_vs, SubL_vs, nbT, nbF, spl0, List.contains_nil, List.contains_cons, Bool.false_or, Bool.true_or, Bool.or_false, XX, undef]) ⟨[.arr 28 0 s.1.length, .mp 2], by simp [encG, clM, clR, clZ, clN, trM, trR, trZ, trN, vrest, frzL_vs, kysL_vs, reGL_vs, keysInL_vs, fzL_vs, SubL_vs, nbT, nbF, spl0, List.contains_nil, List.contains_cons, Bool.false_or, Bool.true_or, Bool.or_false, XX, undef], ?_⟩)
      simp (maxSteps := 1000000) only [encG, clM, clR, clZ, clN, trM, trR, trZ, trN, vrest, frzL_vs, kysL_vs, reGL_vs, keysInL_vs, fzL_vs, SubL_vs, nbT, nbF, spl0, List.contains_nil, List.contains_cons, Bool.false_or, Bool.true_or, Bool.or_false, XX, reduceIte, ↓reduceIte, Nat.reduceAdd, Nat.reduceLeDiff, Nat.reduceEqDiff, Nat.reduceLT, Nat.reduceSub, Nat.reduceBEq, forall_const, reduceCtorEq, implies_true, exists_eq_left', exists_eq_left, if_true, if_false, undef]
      exact ⟨[28], by simp [encG, clM, clR, clZ, clN, trM, trR, trZ, trN, vrest, frzL_vs, kysL_vs, reGL_vs, keysInL_vs, fzL_vs, SubL_vs, nbT, nbF, spl0, List.contains_nil, List.contains_cons, Bool.false_or, Bool.true_or, Bool.or_false, XX, undef], by simp [encG, clM, clR, clZ, clN, trM, trR, trZ, trN, vrest, frzL_vs, kysL_vs, reGL_vs, keysInL_vs, fzL_vs, SubL_vs, nbT, nbF, spl0, List.contains_nil, List.contains_cons, Bool.false_or, Bool.true_or, Bool.or_false, XX, undef], by simp [plE0, encG, clM, clR, clZ, clN, trM, trR, trZ, trN, vrest, frzL_vs, kysL_vs, reGL_vs, keysInL_vs, fzL_vs, SubL_vs, nbT, nbF, spl0, List.contains_nil, List.contains_cons, Bool.false_or, Bool.true_or, Bool.or_false, XX, undef]⟩
  have e1 : (kd == 1) = false := by simpa using k1
  obtain ⟨p1, p2⟩ := hfi k1
  obtain ⟨q1, q2⟩ := hse (by omega)
  have hp := H gs es a.toNat b (by omega) (by omega) T
  have R := plS_ok hl f (gs, es) a.toNat b (by omega) (by omega) T
  have hat : atS (plS l f) (gs, es) ⟨kd, a, c⟩ b = (((stp (plS l f (plS l f (gs, es) a.toNat b).1 c.toNat b).1.1 ⟨turnK kd b, (plS l f (gs, es) a.toNat b).2, (plS l f (plS l f (gs, es) a.toNat b).1 c.toNat b).2⟩).1, (plS l f (plS l f (gs, es) a.toNat b).1 c.toNat b).1.2), (stp (plS l f (plS l f (gs, es) a.toNat b).1 c.toNat b).1.1 ⟨turnK kd b, (plS l f (gs, es) a.toNat b).2, (plS l f (plS l f (gs, es) a.toNat b).1 c.toNat b).2⟩).2) := by
    rw [atS, if_neg k2, if_neg k1]
  rw [hat]
  rw [show IN a.toNat = I a by simp only [IN]; rw [Int.toNat_of_nonneg p1]] at hp
  generalize plS l f (gs, es) a.toNat b = r at *
  have hp2 := H r.1.1 r.1.2 c.toNat b (by omega) (by omega) R.ti
  have Q := plS_ok hl f r.1 c.toNat b (by omega) (by omega) R.ti
  rw [show IN c.toNat = I c by simp only [IN]; rw [Int.toNat_of_nonneg q1]] at hp2
  have er : ((r.1.1, r.1.2) : TSt) = r.1 := rfl
  rw [er] at hp2
  generalize plS l f r.1 c.toNat b = s at *
  have hsm2 := Q.ti.small
  have hand := fun rest => cand_spec rest s.1.1 (r.2 : Int) (s.2 : Int) (by omega)
  have hor := fun rest => cor_spec rest s.1.1 (r.2 : Int) (s.2 : Int) (by omega)
  rw [andR_nn, stpR] at hand
  rw [orR_nn, stpR] at hor
  simp (maxSteps := 1000000) only [e1, e2, Bo, encG, clM, clR, clZ, clN, trM, trR, trZ, trN, vrest, frzL_vs, kysL_vs, reGL_vs, keysInL_vs, fzL_vs, SubL_vs, nbT, nbF, spl0, List.contains_nil, List.contains_cons, Bool.false_or, Bool.true_or, Bool.or_false, XX, reduceIte, ↓reduceIte, Nat.reduceAdd, Nat.reduceLeDiff, Nat.reduceEqDiff, Nat.reduceLT, Nat.reduceSub, Nat.reduceBEq, forall_const, reduceCtorEq, implies_true, exists_eq_left', exists_eq_left, if_true, if_false, undef]
  simp only [Bo] at hp hp2
  refine callYX ?_
  refine callXm [0, 1, 2, 3] [] [some (.box [.arr 4 0 r.1.1.length, .mp 2, .ro 3 (l.map encG), .mp 3]), none, some (.map (knE 0 r.1.1)), some (.map (plE r.1.2))] [some (.arr 3 (r.1.1.map encG))] (hp) (by simp [encG, clM, clR, clZ, clN, trM, trR, trZ, trN, vrest, frzL_vs, kysL_vs, reGL_vs, keysInL_vs, fzL_vs, SubL_vs, nbT, nbF, spl0, List.contains_nil, List.contains_cons, Bool.false_or, Bool.true_or, Bool.or_false, XX, undef]) rfl (by simp [encG, clM, clR, clZ, clN, trM, trR, trZ, trN, vrest, frzL_vs, kysL_vs, reGL_vs, keysInL_vs, fzL_vs, SubL_vs, nbT, nbF, spl0, List.contains_nil, List.contains_cons, Bool.false_or, Bool.true_or, Bool.or_false, XX, undef]) (by simp) (by simp [encG, clM, clR, clZ, clN, trM, trR, trZ, trN, vrest, frzL_vs, kysL_vs, reGL_vs, keysInL_vs, fzL_vs, SubL_vs, nbT, nbF, spl0, List.contains_nil, List.contains_cons, Bool.false_or, Bool.true_or, Bool.or_false, XX, undef]) (by simp [encG, clM, clR, clZ, clN, trM, trR, trZ, trN, vrest, frzL_vs, kysL_vs, reGL_vs, keysInL_vs, fzL_vs, SubL_vs, nbT, nbF, spl0, List.contains_nil, List.contains_cons, Bool.false_or, Bool.true_or, Bool.or_false, XX, undef]) (by simp [encG, clM, clR, clZ, clN, trM, trR, trZ, trN, vrest, frzL_vs, kysL_vs, reGL_vs, keysInL_vs, fzL_vs, SubL_vs, nbT, nbF, spl0, List.contains_nil, List.contains_cons, Bool.false_or, Bool.true_or, Bool.or_false, XX, undef]) (by simp [encG, clM, clR, clZ, clN, trM, trR, trZ, trN, vrest, frzL_vs, kysL_vs, reGL_vs, keysInL_vs, fzL_vs, SubL_vs, nbT, nbF, spl0, List.contains_nil, List.contains_cons, Bool.false_or, Bool.true_or, Bool.or_false, XX, undef]) (by simp) (by simp) (by simp [encG, clM, clR, clZ, clN, trM, trR, trZ, trN, vrest, frzL_vs, kysL_vs, reGL_vs, keysInL_vs, fzL_vs, SubL_vs, nbT, nbF, spl0, List.contains_nil, List.contains_cons, Bool.false_or, Bool.true_or, Bool.or_false, XX, undef]) ?_
  simp (maxSteps := 1000000) only [Bo, encG, clM, clR, clZ, clN, trM, trR, trZ, trN, vrest, frzL_vs, kysL_vs, reGL_vs, keysInL_vs, fzL_vs, SubL_vs, nbT, nbF, spl0, List.contains_nil, List.contains_cons, Bool.false_or, Bool.true_or, Bool.or_false, XX, reduceIte, ↓reduceIte, Nat.reduceAdd, Nat.reduceLeDiff, Nat.reduceEqDiff, Nat.reduceLT, Nat.reduceSub, Nat.reduceBEq, forall_const, reduceCtorEq, implies_true, exists_eq_left', exists_eq_left, if_true, if_false, undef]
  refine callXm [0, 17, 2, 3] [] [some (.box [.arr 4 0 s.1.1.length, .mp 2, .ro 3 (l.map encG), .mp 3]), none, some (.map (knE 0 s.1.1)), some (.map (plE s.1.2))] [some (.arr 3 (s.1.1.map encG))] (hp2) (by simp [encG, clM, clR, clZ, clN, trM, trR, trZ, trN, vrest, frzL_vs, kysL_vs, reGL_vs, keysInL_vs, fzL_vs, SubL_vs, nbT, nbF, spl0, List.contains_nil, List.contains_cons, Bool.false_or, Bool.true_or, Bool.or_false, XX, undef]) rfl (by simp [encG, clM, clR, clZ, clN, trM, trR, trZ, trN, vrest, frzL_vs, kysL_vs, reGL_vs, keysInL_vs, fzL_vs, SubL_vs, nbT, nbF, spl0, List.contains_nil, List.contains_cons, Bool.false_or, Bool.true_or, Bool.or_false, XX, undef]) (by simp) (by simp [encG, clM, clR, clZ, clN, trM, trR, trZ, trN, vrest, frzL_vs, kysL_vs, reGL_vs, keysInL_vs, fzL_vs, SubL_vs, nbT, nbF, spl0, List.contains_nil, List.contains_cons, Bool.false_or, Bool.true_or, Bool.or_false, XX, undef]) (by simp [encG, clM, clR, clZ, clN, trM, trR, trZ, trN, vrest, frzL_vs, kysL_vs, reGL_vs, keysInL_vs, fzL_vs, SubL_vs, nbT, nbF, spl0, List.contains_nil, List.contains_cons, Bool.false_or, Bool.true_or, Bool.or_false, XX, undef]) (by simp [encG, clM, clR, clZ, clN, trM, trR, trZ, trN, vrest, frzL_vs, kysL_vs, reGL_vs, keysInL_vs, fzL_vs, SubL_vs, nbT, nbF, spl0, List.contains_nil, List.contains_cons, Bool.false_or, Bool.true_or, Bool.or_false, XX, undef]) (by simp [encG, clM, clR, clZ, clN, trM, trR, trZ, trN, vrest, frzL_vs, kysL_vs, reGL_vs, keysInL_vs, fzL_vs, SubL_vs, nbT, nbF, spl0, List.contains_nil, List.contains_cons, Bool.false_or, Bool.true_or, Bool.or_false, XX, undef]) (by simp) (by simp) (by simp [encG, clM, clR, clZ, clN, trM, trR, trZ, trN, vrest, frzL_vs, kysL_vs, reGL_vs, keysInL_vs, fzL_vs, SubL_vs, nbT, nbF, spl0, List.contains_nil, List.contains_cons, Bool.false_or, Bool.true_or, Bool.or_false, XX, undef]) ?_
  simp (maxSteps := 1000000) only [Option.toList_some, Option.toList_none, Bo, encG, clM, clR, clZ, clN, trM, trR, trZ, trN, vrest, frzL_vs, kysL_vs, reGL_vs, keysInL_vs, fzL_vs, SubL_vs, nbT, nbF, spl0, List.contains_nil, List.contains_cons, Bool.false_or, Bool.true_or, Bool.or_false, XX, reduceIte, ↓reduceIte, Nat.reduceAdd, Nat.reduceLeDiff, Nat.reduceEqDiff, Nat.reduceLT, Nat.reduceSub, Nat.reduceBEq, forall_const, reduceCtorEq, implies_true, exists_eq_left', exists_eq_left, if_true, if_false, undef]
  refine ⟨.inl (by decide), ?_⟩
  cases hk : ((kd == 3) != b) with
  | true =>
    have ht : turnK kd b = 3 := by unfold turnK; rw [hk]; rfl
    rw [ht]
    generalize stp s.1.1 ⟨3, r.2, s.2⟩ = q at *
    simp (maxSteps := 1000000) only [hk, Bo, encG, clM, clR, clZ, clN, trM, trR, trZ, trN, vrest, frzL_vs, kysL_vs, reGL_vs, keysInL_vs, fzL_vs, SubL_vs, nbT, nbF, spl0, List.contains_nil, List.contains_cons, Bool.false_or, Bool.true_or, Bool.or_false, XX, reduceIte, ↓reduceIte, Nat.reduceAdd, Nat.reduceLeDiff, Nat.reduceEqDiff, Nat.reduceLT, Nat.reduceSub, Nat.reduceBEq, forall_const, reduceCtorEq, implies_true, exists_eq_left', exists_eq_left, if_true, if_false, undef]
    refine callP 0 2 rfl (by simp) (fun rest hrest => callM [some 0, some 23, some 2] (hand rest) (by simp [encG, clM, clR, clZ, clN, trM, trR, trZ, trN, vrest, frzL_vs, kysL_vs, reGL_vs, keysInL_vs, fzL_vs, SubL_vs, nbT, nbF, spl0, List.contains_nil, List.contains_cons, Bool.false_or, Bool.true_or, Bool.or_false, XX, undef]) (by simp [encG, clM, clR, clZ, clN, trM, trR, trZ, trN, vrest, frzL_vs, kysL_vs, reGL_vs, keysInL_vs, fzL_vs, SubL_vs, nbT, nbF, spl0, List.contains_nil, List.contains_cons, Bool.false_or, Bool.true_or, Bool.or_false, XX, undef]) (by simp [encG, clM, clR, clZ, clN, trM, trR, trZ, trN, vrest, frzL_vs, kysL_vs, reGL_vs, keysInL_vs, fzL_vs, SubL_vs, nbT, nbF, spl0, List.contains_nil, List.contains_cons, Bool.false_or, Bool.true_or, Bool.or_false, XX, undef]) ⟨[.arr 40 0 q.1.length, .mp 2], by simp [encG, clM, clR, clZ, clN, trM, trR, trZ, trN, vrest, frzL_vs, kysL_vs, reGL_vs, keysInL_vs, fzL_vs, SubL_vs, nbT, nbF, spl0, List.contains_nil, List.contains_cons, Bool.false_or, Bool.true_or, Bool.or_false, XX, undef], ?_⟩)
    simp (maxSteps := 1000000) only [encG, clM, clR, clZ, clN, trM, trR, trZ, trN, vrest, frzL_vs, kysL_vs, reGL_vs, keysInL_vs, fzL_vs, SubL_vs, nbT, nbF, spl0, List.contains_nil, List.contains_cons, Bool.false_or, Bool.true_or, Bool.or_false, XX, reduceIte, ↓reduceIte, Nat.reduceAdd, Nat.reduceLeDiff, Nat.reduceEqDiff, Nat.reduceLT, Nat.reduceSub, Nat.reduceBEq, forall_const, reduceCtorEq, implies_true, exists_eq_left', exists_eq_left, if_true, if_false, undef]
    exact ⟨[40], by simp [encG, clM, clR, clZ, clN, trM, trR, trZ, trN, vrest, frzL_vs, kysL_vs, reGL_vs, keysInL_vs, fzL_vs, SubL_vs, nbT, nbF, spl0, List.contains_nil, List.contains_cons, Bool.false_or, Bool.true_or, Bool.or_false, XX, undef], by simp [encG, clM, clR, clZ, clN, trM, trR, trZ, trN, vrest, frzL_vs, kysL_vs, reGL_vs, keysInL_vs, fzL_vs, SubL_vs, nbT, nbF, spl0, List.contains_nil, List.contains_cons, Bool.false_or, Bool.true_or, Bool.or_false, XX, undef], by simp [encG, clM, clR, clZ, clN, trM, trR, trZ, trN, vrest, frzL_vs, kysL_vs, reGL_vs, keysInL_vs, fzL_vs, SubL_vs, nbT, nbF, spl0, List.contains_nil, List.contains_cons, Bool.false_or, Bool.true_or, Bool.or_false, XX, undef]⟩
  | false =>
    have ht : turnK kd b = 4 := by unfold turnK; rw [hk]; rfl
    rw [ht]
    generalize stp s.1.1 ⟨4, r.2, s.2⟩ = q at *
    simp (maxSteps := 1000000) only [hk, Bo, encG, clM, clR, clZ, clN, trM, trR, trZ, trN, vrest, frzL_vs, kysL_vs, reGL_vs, keysInL_vs, fzL_vs, SubL_vs, nbT, nbF, spl0, List.contains_nil, List.contains_cons, Bool.false_or, Bool.true_or, Bool.or_false, XX, reduceIte, ↓reduceIte, Nat.reduceAdd, Nat.reduceLeDiff, Nat.reduceEqDiff, Nat.reduceLT, Nat.reduceSub, Nat.reduceBEq, forall_const, reduceCtorEq, implies_true, exists_eq_left', exists_eq_left, if_true, if_false, undef]
    refine callP 0 2 rfl (by simp) (fun rest hrest => callM [some 0, some 23, some 2] (hor rest) (by simp [encG, clM, clR, clZ, clN, trM, trR, trZ, trN, vrest, frzL_vs, kysL_vs, reGL_vs, keysInL_vs, fzL_vs, SubL_vs, nbT, nbF, spl0, List.contains_nil, List.contains_cons, Bool.false_or, Bool.true_or, Bool.or_false, XX, undef]) (by simp [encG, clM, clR, clZ, clN, trM, trR, trZ, trN, vrest, frzL_vs, kysL_vs, reGL_vs, keysInL_vs, fzL_vs, SubL_vs, nbT, nbF, spl0, List.contains_nil, List.contains_cons, Bool.false_or, Bool.true_or, Bool.or_false, XX, undef]) (by simp [encG, clM, clR, clZ, clN, trM, trR, trZ, trN, vrest, frzL_vs, kysL_vs, reGL_vs, keysInL_vs, fzL_vs, SubL_vs, nbT, nbF, spl0, List.contains_nil, List.contains_cons, Bool.false_or, Bool.true_or, Bool.or_false, XX, undef]) ⟨[.arr 40 0 q.1.length, .mp 2], by simp [encG, clM, clR, clZ, clN, trM, trR, trZ, trN, vrest, frzL_vs, kysL_vs, reGL_vs, keysInL_vs, fzL_vs, SubL_vs, nbT, nbF, spl0, List.contains_nil, List.contains_cons, Bool.false_or, Bool.true_or, Bool.or_false, XX, undef], ?_⟩)
    simp (maxSteps := 1000000) only [encG, clM, clR, clZ, clN, trM, trR, trZ, trN, vrest, frzL_vs, kysL_vs, reGL_vs, keysInL_vs, fzL_vs, SubL_vs, nbT, nbF, spl0, List.contains_nil, List.contains_cons, Bool.false_or, Bool.true_or, Bool.or_false, XX, reduceIte, ↓reduceIte, Nat.reduceAdd, Nat.reduceLeDiff, Nat.reduceEqDiff, Nat.reduceLT, Nat.reduceSub, Nat.reduceBEq, forall_const, reduceCtorEq, implies_true, exists_eq_left', exists_eq_left, if_true, if_false, undef]
    exact ⟨[40], by simp [encG, clM, clR, clZ, clN, trM, trR, trZ, trN, vrest, frzL_vs, kysL_vs, reGL_vs, keysInL_vs, fzL_vs, SubL_vs, nbT, nbF, spl0, List.contains_nil, List.contains_cons, Bool.false_or, Bool.true_or, Bool.or_false, XX, undef], by simp [encG, clM, clR, clZ, clN, trM, trR, trZ, trN, vrest, frzL_vs, kysL_vs, reGL_vs, keysInL_vs, fzL_vs, SubL_vs, nbT, nbF, spl0, List.contains_nil, List.contains_cons, Bool.false_or, Bool.true_or, Bool.or_false, XX, undef], by simp [encG, clM, clR, clZ, clN, trM, trR, trZ, trN, vrest, frzL_vs, kysL_vs, reGL_vs, keysInL_vs, fzL_vs, SubL_vs, nbT, nbF, spl0, List.contains_nil, List.contains_cons, Bool.false_or, Bool.true_or, Bool.or_false, XX, undef]⟩

theorem tadd0_spec {inn : Int} {l : List Gt} (hl : GsOk inn l) (hll : l.length ≤ 40) {f : Nat} (H : PlaceT inn l f) (HZ : PlaceZ l f) (i : Nat) (b : Bool) (hi : i ≤ f) (hil : i < l.length) (T : TI inn l ([], [])) :
    CallsM Try.prog 42 [.ptr 0 0, encG (gAt l i), Bo b] (trZ l) (IN (atS (plS l f) ([], []) (gAt l i) b).2) (trN l (atS (plS l f) ([], []) (gAt l i) b).1.1 (atS (plS l f) ([], []) (gAt l i) b).1.2) := by
  have hgi : l[i]? = some (gAt l i) := by rw [gAt, List.getElem?_eq_getElem hil]; rfl
  have hgo := gsOk_get hl hgi
  have hsm := T.small
  simp only at hsm
  generalize gAt l i = g at *
  obtain ⟨kd, a, c⟩ := g
  have hkk := hgo.kind
  have hin := hgo.input
  have hfi := hgo.first
  have hse := hgo.second
  simp only at hkk hin hfi hse
  refine fnM_of comp42 (by simp) (by simp [trM, trR, trZ, trN]) ?_
  unfold code42
  simp (maxSteps := 1000000) only [memOf, encG, clM, clR, clZ, clN, trM, trR, trZ, trN, vrest, frzL_vs, kysL_vs, reGL_vs, keysInL_vs, fzL_vs, SubL_vs, nbT, nbF, spl0, List.contains_nil, List.contains_cons, Bool.false_or, Bool.true_or, Bool.or_false, XX, reduceIte, ↓reduceIte, Nat.reduceAdd, Nat.reduceLeDiff, Nat.reduceEqDiff, Nat.reduceLT, Nat.reduceSub, Nat.reduceBEq, forall_const, reduceCtorEq, implies_true, exists_eq_left', exists_eq_left, if_true, if_false, undef]
  by_cases k2 : kd = 2
  · have e2 : (kd == 2) = true := by simpa using k2
    obtain ⟨p1, p2⟩ := hfi (by omega)
    have hp := HZ a.toNat (!b) (by omega) (by omega)
    have hat : atS (plS l f) ([], []) ⟨kd, a, c⟩ b = plS l f ([], []) a.toNat (!b) := by rw [atS, if_pos k2]
    rw [hat]
    rw [show IN a.toNat = I a by simp only [IN]; rw [Int.toNat_of_nonneg p1]] at hp
    generalize plS l f ([], []) a.toNat (!b) = r at *
    simp (maxSteps := 1000000) only [e2, Bo, encG, clM, clR, clZ, clN, trM, trR, trZ, trN, vrest, frzL_vs, kysL_vs, reGL_vs, keysInL_vs, fzL_vs, SubL_vs, nbT, nbF, spl0, List.contains_nil, List.contains_cons, Bool.false_or, Bool.true_or, Bool.or_false, XX, reduceIte, ↓reduceIte, Nat.reduceAdd, Nat.reduceLeDiff, Nat.reduceEqDiff, Nat.reduceLT, Nat.reduceSub, Nat.reduceBEq, forall_const, reduceCtorEq, implies_true, exists_eq_left', exists_eq_left, if_true, if_false, undef]
    simp only [Bo] at hp
    refine callM [some 0, some 1] (hp) (by simp [encG, clM, clR, clZ, clN, trM, trR, trZ, trN, vrest, frzL_vs, kysL_vs, reGL_vs, keysInL_vs, fzL_vs, SubL_vs, nbT, nbF, spl0, List.contains_nil, List.contains_cons, Bool.false_or, Bool.true_or, Bool.or_false, XX, undef]) (by simp [encG, clM, clR, clZ, clN, trM, trR, trZ, trN, vrest, frzL_vs, kysL_vs, reGL_vs, keysInL_vs, fzL_vs, SubL_vs, nbT, nbF, spl0, List.contains_nil, List.contains_cons, Bool.false_or, Bool.true_or, Bool.or_false, XX, undef]) (by simp [encG, clM, clR, clZ, clN, trM, trR, trZ, trN, vrest, frzL_vs, kysL_vs, reGL_vs, keysInL_vs, fzL_vs, SubL_vs, nbT, nbF, spl0, List.contains_nil, List.contains_cons, Bool.false_or, Bool.true_or, Bool.or_false, XX, undef]) ?_
    simp (maxSteps := 1000000) only [encG, clM, clR, clZ, clN, trM, trR, trZ, trN, vrest, frzL_vs, kysL_vs, reGL_vs, keysInL_vs, fzL_vs, SubL_vs, nbT, nbF, spl0, List.contains_nil, List.contains_cons, Bool.false_or, Bool.true_or, Bool.or_false, XX, reduceIte, ↓reduceIte, Nat.reduceAdd, Nat.reduceLeDiff, Nat.reduceEqDiff, Nat.reduceLT, Nat.reduceSub, Nat.reduceBEq, forall_const, reduceCtorEq, implies_true, exists_eq_left', exists_eq_left, if_true, if_false, undef]
    exact ⟨[16, 17], by simp [encG, clM, clR, clZ, clN, trM, trR, trZ, trN, vrest, frzL_vs, kysL_vs, reGL_vs, keysInL_vs, fzL_vs, SubL_vs, nbT, nbF, spl0, List.contains_nil, List.contains_cons, Bool.false_or, Bool.true_or, Bool.or_false, XX, undef], by simp [encG, clM, clR, clZ, clN, trM, trR, trZ, trN, vrest, frzL_vs, kysL_vs, reGL_vs, keysInL_vs, fzL_vs, SubL_vs, nbT, nbF, spl0, List.contains_nil, List.contains_cons, Bool.false_or, Bool.true_or, Bool.or_false, XX, undef], by simp [encG, clM, clR, clZ, clN, trM, trR, trZ, trN, vrest, frzL_vs, kysL_vs, reGL_vs, keysInL_vs, fzL_vs, SubL_vs, nbT, nbF, spl0, List.contains_nil, List.contains_cons, Bool.false_or, Bool.true_or, Bool.or_false, XX, undef]⟩
  have e2 : (kd == 2) = false := by simpa using k2
  by_cases k1 : kd = 1
  · have e1 : (kd == 1) = true := by simpa using k1
    have h1 : ∀ rest, CallsM Try.prog 47 [.ptr 0 0, I a] (clZ rest) (IN (stp [] ⟨1, a, 0⟩).2) (clN rest (stp [] ⟨1, a, 0⟩).1) := fun rest => cin0_spec rest a
    have l1 : (stp [] ⟨1, a, 0⟩).1.length ≤ ([] : List Gt).length + 1 := (addG_len [] ⟨1, a, 0⟩).2
    try simp only [List.length_nil] at l1
    have h2 : ∀ rest, CallsM Try.prog 52 [.ptr 0 0, IN (stp [] ⟨1, a, 0⟩).2] (clM rest (stp [] ⟨1, a, 0⟩).1) (IN (stp (stp [] ⟨1, a, 0⟩).1 (nG (stp [] ⟨1, a, 0⟩).2)).2) (clR rest (stp (stp [] ⟨1, a, 0⟩).1 (nG (stp [] ⟨1, a, 0⟩).2)).1) := fun rest => by
      have := cnot_spec rest (stp [] ⟨1, a, 0⟩).1 ((stp [] ⟨1, a, 0⟩).2 : Int) (by omega)
      rw [notR_nn] at this; exact this
    cases b with
    | false =>
      have hat : atS (plS l f) ([], []) ⟨kd, a, c⟩ false = (((stp [] ⟨1, a, 0⟩).1, []), (stp [] ⟨1, a, 0⟩).2) := by rw [atS, if_neg k2, if_pos k1]; rfl
      rw [hat]
      generalize stp [] ⟨1, a, 0⟩ = r at *
      simp (maxSteps := 1000000) only [e1, e2, Bo, encG, clM, clR, clZ, clN, trM, trR, trZ, trN, vrest, frzL_vs, kysL_vs, reGL_vs, keysInL_vs, fzL_vs, SubL_vs, nbT, nbF, spl0, List.contains_nil, List.contains_cons, Bool.false_or, Bool.true_or, Bool.or_false, XX, reduceIte, ↓reduceIte, Nat.reduceAdd, Nat.reduceLeDiff, Nat.reduceEqDiff, Nat.reduceLT, Nat.reduceSub, Nat.reduceBEq, forall_const, reduceCtorEq, implies_true, exists_eq_left', exists_eq_left, if_true, if_false, undef]
      refine callYp 0 [] [] [.v (.slice none 0 0), .v (.map none)] [.arr 1 0 r.1.length, .mp 2] [] [] [some (.arr 3 (r.1.map encG)), some (.map (knE 0 r.1))] (fun rest _ => h1 rest) rfl (by simp) rfl (by simp [encG, clM, clR, clZ, clN, trM, trR, trZ, trN, vrest, frzL_vs, kysL_vs, reGL_vs, keysInL_vs, fzL_vs, SubL_vs, nbT, nbF, spl0, List.contains_nil, List.contains_cons, Bool.false_or, Bool.true_or, Bool.or_false, XX, undef]) (by simp) (by simp [encG, clM, clR, clZ, clN, trM, trR, trZ, trN, vrest, frzL_vs, kysL_vs, reGL_vs, keysInL_vs, fzL_vs, SubL_vs, nbT, nbF, spl0, List.contains_nil, List.contains_cons, Bool.false_or, Bool.true_or, Bool.or_false, XX, undef]) (by simp [encG, clM, clR, clZ, clN, trM, trR, trZ, trN, vrest, frzL_vs, kysL_vs, reGL_vs, keysInL_vs, fzL_vs, SubL_vs, nbT, nbF, spl0, List.contains_nil, List.contains_cons, Bool.false_or, Bool.true_or, Bool.or_false, XX, undef]) (by simp [encG, clM, clR, clZ, clN, trM, trR, trZ, trN, vrest, frzL_vs, kysL_vs, reGL_vs, keysInL_vs, fzL_vs, SubL_vs, nbT, nbF, spl0, List.contains_nil, List.contains_cons, Bool.false_or, Bool.true_or, Bool.or_false, XX, undef]) (by simp [encG, clM, clR, clZ, clN, trM, trR, trZ, trN, vrest, frzL_vs, kysL_vs, reGL_vs, keysInL_vs, fzL_vs, SubL_vs, nbT, nbF, spl0, List.contains_nil, List.contains_cons, Bool.false_or, Bool.true_or, Bool.or_false, XX, undef]) (by simp [encG, clM, clR, clZ, clN, trM, trR, trZ, trN, vrest, frzL_vs, kysL_vs, reGL_vs, keysInL_vs, fzL_vs, SubL_vs, nbT, nbF, spl0, List.contains_nil, List.contains_cons, Bool.false_or, Bool.true_or, Bool.or_false, XX, undef]) (by simp) (by simp) (by simp [encG, clM, clR, clZ, clN, trM, trR, trZ, trN, vrest, frzL_vs, kysL_vs, reGL_vs, keysInL_vs, fzL_vs, SubL_vs, nbT, nbF, spl0, List.contains_nil, List.contains_cons, Bool.false_or, Bool.true_or, Bool.or_false, XX, undef]) ?_
      simp (maxSteps := 1000000) only [e1, e2, Bo, encG, clM, clR, clZ, clN, trM, trR, trZ, trN, vrest, frzL_vs, kysL_vs, reGL_vs, keysInL_vs, fzL_vs, SubL_vs, nbT, nbF, spl0, List.contains_nil, List.contains_cons, Bool.false_or, Bool.true_or, Bool.or_false, XX, reduceIte, ↓reduceIte, Nat.reduceAdd, Nat.reduceLeDiff, Nat.reduceEqDiff, Nat.reduceLT, Nat.reduceSub, Nat.reduceBEq, forall_const, reduceCtorEq, implies_true, exists_eq_left', exists_eq_left, if_true, if_false, undef]
      exact ⟨[15, 17], by simp [encG, clM, clR, clZ, clN, trM, trR, trZ, trN, vrest, frzL_vs, kysL_vs, reGL_vs, keysInL_vs, fzL_vs, SubL_vs, nbT, nbF, spl0, List.contains_nil, List.contains_cons, Bool.false_or, Bool.true_or, Bool.or_false, XX, undef], by simp [encG, clM, clR, clZ, clN, trM, trR, trZ, trN, vrest, frzL_vs, kysL_vs, reGL_vs, keysInL_vs, fzL_vs, SubL_vs, nbT, nbF, spl0, List.contains_nil, List.contains_cons, Bool.false_or, Bool.true_or, Bool.or_false, XX, undef], by simp [plE0, encG, clM, clR, clZ, clN, trM, trR, trZ, trN, vrest, frzL_vs, kysL_vs, reGL_vs, keysInL_vs, fzL_vs, SubL_vs, nbT, nbF, spl0, List.contains_nil, List.contains_cons, Bool.false_or, Bool.true_or, Bool.or_false, XX, undef]⟩
    | true =>
      have hat : atS (plS l f) ([], []) ⟨kd, a, c⟩ true = (((stp (stp [] ⟨1, a, 0⟩).1 (nG (stp [] ⟨1, a, 0⟩).2)).1, []), (stp (stp [] ⟨1, a, 0⟩).1 (nG (stp [] ⟨1, a, 0⟩).2)).2) := by rw [atS, if_neg k2, if_pos k1]; rfl
      rw [hat]
      generalize stp [] ⟨1, a, 0⟩ = r at *
      generalize stp r.1 (nG r.2) = s at *
      simp (maxSteps := 1000000) only [e1, e2, Bo, encG, clM, clR, clZ, clN, trM, trR, trZ, trN, vrest, frzL_vs, kysL_vs, reGL_vs, keysInL_vs, fzL_vs, SubL_vs, nbT, nbF, spl0, List.contains_nil, List.contains_cons, Bool.false_or, Bool.true_or, Bool.or_false, XX, reduceIte, ↓reduceIte, Nat.reduceAdd, Nat.reduceLeDiff, Nat.reduceEqDiff, Nat.reduceLT, Nat.reduceSub, Nat.reduceBEq, forall_const, reduceCtorEq, implies_true, exists_eq_left', exists_eq_left, if_true, if_false, undef]
      refine callYp 0 [] [] [.v (.slice none 0 0), .v (.map none)] [.arr 1 0 r.1.length, .mp 2] [] [] [some (.arr 3 (r.1.map encG)), some (.map (knE 0 r.1))] (fun rest _ => h1 rest) rfl (by simp) rfl (by simp [encG, clM, clR, clZ, clN, trM, trR, trZ, trN, vrest, frzL_vs, kysL_vs, reGL_vs, keysInL_vs, fzL_vs, SubL_vs, nbT, nbF, spl0, List.contains_nil, List.contains_cons, Bool.false_or, Bool.true_or, Bool.or_false, XX, undef]) (by simp) (by simp [encG, clM, clR, clZ, clN, trM, trR, trZ, trN, vrest, frzL_vs, kysL_vs, reGL_vs, keysInL_vs, fzL_vs, SubL_vs, nbT, nbF, spl0, List.contains_nil, List.contains_cons, Bool.false_or, Bool.true_or, Bool.or_false, XX, undef]) (by simp [encG, clM, clR, clZ, clN, trM, trR, trZ, trN, vrest, frzL_vs, kysL_vs, reGL_vs, keysInL_vs, fzL_vs, SubL_vs, nbT, nbF, spl0, List.contains_nil, List.contains_cons, Bool.false_or, Bool.true_or, Bool.or_false, XX, undef]) (by simp [encG, clM, clR, clZ, clN, trM, trR, trZ, trN, vrest, frzL_vs, kysL_vs, reGL_vs, keysInL_vs, fzL_vs, SubL_vs, nbT, nbF, spl0, List.contains_nil, List.contains_cons, Bool.false_or, Bool.true_or, Bool.or_false, XX, undef]) (by simp [encG, clM, clR, clZ, clN, trM, trR, trZ, trN, vrest, frzL_vs, kysL_vs, reGL_vs, keysInL_vs, fzL_vs, SubL_vs, nbT, nbF, spl0, List.contains_nil, List.contains_cons, Bool.false_or, Bool.true_or, Bool.or_false, XX, undef]) (by simp [encG, clM, clR, clZ, clN, trM, trR, trZ, trN, vrest, frzL_vs, kysL_vs, reGL_vs, keysInL_vs, fzL_vs, SubL_vs, nbT, nbF, spl0, List.contains_nil, List.contains_cons, Bool.false_or, Bool.true_or, Bool.or_false, XX, undef]) (by simp) (by simp) (by simp [encG, clM, clR, clZ, clN, trM, trR, trZ, trN, vrest, frzL_vs, kysL_vs, reGL_vs, keysInL_vs, fzL_vs, SubL_vs, nbT, nbF, spl0, List.contains_nil, List.contains_cons, Bool.false_or, Bool.true_or, Bool.or_false, XX, undef]) ?_
      simp (maxSteps := 1000000) only [e1, e2, Bo, encG, clM, clR, clZ, clN, trM, trR, trZ, trN, vrest, frzL_vs, kysL_vs, reGL_vs, keysInL_vs, fzL_vs, SubL_vs, nbT, nbF, spl0, List.contains_nil, List.contains_cons, Bool.false_or, Bool.true_or, Bool.or_false, XX, reduceIte, ↓reduceIte, Nat.reduceAdd, Nat.reduceLeDiff, Nat.reduceEqDiff, Nat.reduceLT, Nat.reduceSub, Nat.reduceBEq, forall_const, reduceCtorEq, implies_true, exists_eq_left', exists_eq_left, if_true, if_false, undef]
      refine callP 0 2 rfl (by simp) (fun rest hrest => callM [some 0, some 15, some 17] (h2 rest) (by simp [encG, clM, clR, clZ, clN, trM, trR, trZ, trN, vrest, frzL_vs, kysL_vs, reGL_vs, keysInL_vs, fzL_vs, SubL_vs, nbT, nbF, spl0, List.contains_nil, List.contains_cons, Bool.false_or, Bool.true_or, Bool.or_false, XX, undef]) (by simp [encG, clM, clR, clZ, clN, trM, trR, trZ, trN, vrest, frzL_vs, kysL_vs, reGL_vs, keysInL_vs, fzL_vs, SubL_vs, nbT, nbF, spl0, List.contains_nil, List.contains_cons, Bool.false_or, Bool.true_or, Bool.or_false, XX, undef]) (by simp [encG, clM, clR, clZ, clN, trM, trR, trZ, trN, vrest, frzL_vs, kysL_vs, reGL_vs, keysInL_vs, fzL_vs, SubL_vs, nbT, nbF, spl0, List.contains_nil, List.contains_cons, Bool.false_or, Bool.true_or, Bool.or_false, XX, undef]) ⟨[.arr 26 0 s.1.length, .mp 17], by simp [encG, clM, clR, clZ, clN, trM, trR, trZ, trN, vrest, frzL_vs, kysL_vs, reGL_vs, keysInL_vs, fzL_vs, SubL_vs, nbT, nbF, spl0, List.contains_nil, List.contains_cons, Bool.false_or, Bool.true_or, Bool.or_false, XX, undef], ?_⟩)
      simp (maxSteps := 1000000) only [encG, clM, clR, clZ, clN, trM, trR, trZ, trN, vrest, frzL_vs, kysL_vs, reGL_vs, keysInL_vs, fzL_vs, SubL_vs, nbT, nbF, spl0, List.contains_nil, List.contains_cons, Bool.false_or, Bool.true_or, Bool.or_false, XX, reduceIte, ↓reduceIte, Nat.reduceAdd, Nat.reduceLeDiff, Nat.reduceEqDiff, Nat.reduceLT, Nat.reduceSub, Nat.reduceBEq, forall_const, reduceCtorEq, implies_true, exists_eq_left', exists_eq_left, if_true, if_false, undef]
      exact ⟨[26, 17], by simp [encG, clM, clR, clZ, clN, trM, trR, trZ, trN, vrest, frzL_vs, kysL_vs, reGL_vs, keysInL_vs, fzL_vs, SubL_vs, nbT, nbF, spl0, List.contains_nil, List.contains_cons, Bool.false_or, Bool.true_or, Bool.or_false, XX, undef], by simp [encG, clM, clR, clZ, clN, trM, trR, trZ, trN, vrest, frzL_vs, kysL_vs, reGL_vs, keysInL_vs, fzL_vs, SubL_vs, nbT, nbF, spl0, List.contains_nil, List.contains_cons, Bool.false_or, Bool.true_or, Bool.or_false, XX, undef], by simp [plE0, encG, clM, clR, clZ, clN, trM, trR, trZ, trN, vrest, frzL_vs, kysL_vs, reGL_vs, keysInL_vs, fzL_vs, SubL_vs, nbT, nbF, spl0, List.contains_nil, List.contains_cons, Bool.false_or, Bool.true_or, Bool.or_false, XX, undef]⟩
  have e1 : (kd == 1) = false := by simpa using k1
  obtain ⟨p1, p2⟩ := hfi k1
  obtain ⟨q1, q2⟩ := hse (by omega)
  have hp := HZ a.toNat b (by omega) (by omega)
  have R := plS_ok hl f ([], []) a.toNat b (by omega) (by omega) T
  have hat : atS (plS l f) ([], []) ⟨kd, a, c⟩ b = (((stp (plS l f (plS l f ([], []) a.toNat b).1 c.toNat b).1.1 ⟨turnK kd b, (plS l f ([], []) a.toNat b).2, (plS l f (plS l f ([], []) a.toNat b).1 c.toNat b).2⟩).1, (plS l f (plS l f ([], []) a.toNat b).1 c.toNat b).1.2), (stp (plS l f (plS l f ([], []) a.toNat b).1 c.toNat b).1.1 ⟨turnK kd b, (plS l f ([], []) a.toNat b).2, (plS l f (plS l f ([], []) a.toNat b).1 c.toNat b).2⟩).2) := by
    rw [atS, if_neg k2, if_neg k1]
  rw [hat]
  rw [show IN a.toNat = I a by simp only [IN]; rw [Int.toNat_of_nonneg p1]] at hp
  generalize plS l f ([], []) a.toNat b = r at *
  have hp2 := H r.1.1 r.1.2 c.toNat b (by omega) (by omega) R.ti
  have Q := plS_ok hl f r.1 c.toNat b (by omega) (by omega) R.ti
  rw [show IN c.toNat = I c by simp only [IN]; rw [Int.toNat_of_nonneg q1]] at hp2
  have er : ((r.1.1, r.1.2) : TSt) = r.1 := rfl
  rw [er] at hp2
  generalize plS l f r.1 c.toNat b = s at *
  have hsm2 := Q.ti.small
  have hand := fun rest => cand_spec rest s.1.1 (r.2 : Int) (s.2 : Int) (by omega)
  have hor := fun rest => cor_spec rest s.1.1 (r.2 : Int) (s.2 : Int) (by omega)
  rw [andR_nn, stpR] at hand
  rw [orR_nn, stpR] at hor
  simp (maxSteps := 1000000) only [e1, e2, Bo, encG, clM, clR, clZ, clN, trM, trR, trZ, trN, vrest, frzL_vs, kysL_vs, reGL_vs, keysInL_vs, fzL_vs, SubL_vs, nbT, nbF, spl0, List.contains_nil, List.contains_cons, Bool.false_or, Bool.true_or, Bool.or_false, XX, reduceIte, ↓reduceIte, Nat.reduceAdd, Nat.reduceLeDiff, Nat.reduceEqDiff, Nat.reduceLT, Nat.reduceSub, Nat.reduceBEq, forall_const, reduceCtorEq, implies_true, exists_eq_left', exists_eq_left, if_true, if_false, undef]
  simp only [Bo] at hp hp2
  have hpr : ∀ rest : List Value, rest.length + 4 = 4 → CallsM Try.prog 29 [.ptr 0 0, .agg [I a, .v (.bool b)]] (.box ([.v (.slice none 0 0), .v (.map none), .ro 3 (l.map encG), .mp 1] ++ rest.map .v) :: [.map []]) (IN r.2) (some (.box ([.arr 2 0 r.1.1.length, .mp 3, .ro 3 (l.map encG), .mp 1] ++ rest.map .v)) :: ([some (.map (plE r.1.2))] ++ [some (.arr 3 (r.1.1.map encG)), some (.map (knE 0 r.1.1))])) := fun rest hr => by
    have : rest = [] := List.length_eq_zero_iff.1 (by omega)
    subst this
    simp only [List.map_nil, List.append_nil]; exact hp
  refine callYp (cs := [.v (.slice none 0 0), .v (.map none), .ro 3 (l.map encG), .mp 1]) 0 [1] [] [.v (.slice none 0 0), .v (.map none), .ro 3 (l.map encG), .mp 1] [.arr 2 0 r.1.1.length, .mp 3, .ro 3 (l.map encG), .mp 1] [.map []] [some (.map (plE r.1.2))] [some (.arr 3 (r.1.1.map encG)), some (.map (knE 0 r.1.1))] hpr rfl (by simp) rfl (by simp [encG, clM, clR, clZ, clN, trM, trR, trZ, trN, vrest, frzL_vs, kysL_vs, reGL_vs, keysInL_vs, fzL_vs, SubL_vs, nbT, nbF, spl0, List.contains_nil, List.contains_cons, Bool.false_or, Bool.true_or, Bool.or_false, XX, undef]) (by simp) (by simp [encG, clM, clR, clZ, clN, trM, trR, trZ, trN, vrest, frzL_vs, kysL_vs, reGL_vs, keysInL_vs, fzL_vs, SubL_vs, nbT, nbF, spl0, List.contains_nil, List.contains_cons, Bool.false_or, Bool.true_or, Bool.or_false, XX, undef]) (by simp [encG, clM, clR, clZ, clN, trM, trR, trZ, trN, vrest, frzL_vs, kysL_vs, reGL_vs, keysInL_vs, fzL_vs, SubL_vs, nbT, nbF, spl0, List.contains_nil, List.contains_cons, Bool.false_or, Bool.true_or, Bool.or_false, XX, undef]) (by simp [encG, clM, clR, clZ, clN, trM, trR, trZ, trN, vrest, frzL_vs, kysL_vs, reGL_vs, keysInL_vs, fzL_vs, SubL_vs, nbT, nbF, spl0, List.contains_nil, List.contains_cons, Bool.false_or, Bool.true_or, Bool.or_false, XX, undef]) (by simp [encG, clM, clR, clZ, clN, trM, trR, trZ, trN, vrest, frzL_vs, kysL_vs, reGL_vs, keysInL_vs, fzL_vs, SubL_vs, nbT, nbF, spl0, List.contains_nil, List.contains_cons, Bool.false_or, Bool.true_or, Bool.or_false, XX, undef]) (by simp [encG, clM, clR, clZ, clN, trM, trR, trZ, trN, vrest, frzL_vs, kysL_vs, reGL_vs, keysInL_vs, fzL_vs, SubL_vs, nbT, nbF, spl0, List.contains_nil, List.contains_cons, Bool.false_or, Bool.true_or, Bool.or_false, XX, undef]) (by simp) (by simp) (by simp [encG, clM, clR, clZ, clN, trM, trR, trZ, trN, vrest, frzL_vs, kysL_vs, reGL_vs, keysInL_vs, fzL_vs, SubL_vs, nbT, nbF, spl0, List.contains_nil, List.contains_cons, Bool.false_or, Bool.true_or, Bool.or_false, XX, undef]) ?_
  simp (maxSteps := 1000000) only [Bo, encG, clM, clR, clZ, clN, trM, trR, trZ, trN, vrest, frzL_vs, kysL_vs, reGL_vs, keysInL_vs, fzL_vs, SubL_vs, nbT, nbF, spl0, List.contains_nil, List.contains_cons, Bool.false_or, Bool.true_or, Bool.or_false, XX, reduceIte, ↓reduceIte, Nat.reduceAdd, Nat.reduceLeDiff, Nat.reduceEqDiff, Nat.reduceLT, Nat.reduceSub, Nat.reduceBEq, forall_const, reduceCtorEq, implies_true, exists_eq_left', exists_eq_left, if_true, if_false, undef]
  refine callXm [0, 15, 24, 1] [] [some (.box [.arr 4 0 s.1.1.length, .mp 2, .ro 3 (l.map encG), .mp 3]), none, some (.map (knE 0 s.1.1)), some (.map (plE s.1.2))] [some (.arr 3 (s.1.1.map encG))] (hp2) (by simp [encG, clM, clR, clZ, clN, trM, trR, trZ, trN, vrest, frzL_vs, kysL_vs, reGL_vs, keysInL_vs, fzL_vs, SubL_vs, nbT, nbF, spl0, List.contains_nil, List.contains_cons, Bool.false_or, Bool.true_or, Bool.or_false, XX, undef]) rfl (by simp [encG, clM, clR, clZ, clN, trM, trR, trZ, trN, vrest, frzL_vs, kysL_vs, reGL_vs, keysInL_vs, fzL_vs, SubL_vs, nbT, nbF, spl0, List.contains_nil, List.contains_cons, Bool.false_or, Bool.true_or, Bool.or_false, XX, undef]) (by simp) (by simp [encG, clM, clR, clZ, clN, trM, trR, trZ, trN, vrest, frzL_vs, kysL_vs, reGL_vs, keysInL_vs, fzL_vs, SubL_vs, nbT, nbF, spl0, List.contains_nil, List.contains_cons, Bool.false_or, Bool.true_or, Bool.or_false, XX, undef]) (by simp [encG, clM, clR, clZ, clN, trM, trR, trZ, trN, vrest, frzL_vs, kysL_vs, reGL_vs, keysInL_vs, fzL_vs, SubL_vs, nbT, nbF, spl0, List.contains_nil, List.contains_cons, Bool.false_or, Bool.true_or, Bool.or_false, XX, undef]) (by simp [encG, clM, clR, clZ, clN, trM, trR, trZ, trN, vrest, frzL_vs, kysL_vs, reGL_vs, keysInL_vs, fzL_vs, SubL_vs, nbT, nbF, spl0, List.contains_nil, List.contains_cons, Bool.false_or, Bool.true_or, Bool.or_false, XX, undef]) (by simp [encG, clM, clR, clZ, clN, trM, trR, trZ, trN, vrest, frzL_vs, kysL_vs, reGL_vs, keysInL_vs, fzL_vs, SubL_vs, nbT, nbF, spl0, List.contains_nil, List.contains_cons, Bool.false_or, Bool.true_or, Bool.or_false, XX, undef]) (by simp) (by simp) (by simp [encG, clM, clR, clZ, clN, trM, trR, trZ, trN, vrest, frzL_vs, kysL_vs, reGL_vs, keysInL_vs, fzL_vs, SubL_vs, nbT, nbF, spl0, List.contains_nil, List.contains_cons, Bool.false_or, Bool.true_or, Bool.or_false, XX, undef]) ?_
  simp (maxSteps := 1000000) only [Option.toList_some, Option.toList_none, Bo, encG, clM, clR, clZ, clN, trM, trR, trZ, trN, vrest, frzL_vs, kysL_vs, reGL_vs, keysInL_vs, fzL_vs, SubL_vs, nbT, nbF, spl0, List.contains_nil, List.contains_cons, Bool.false_or, Bool.true_or, Bool.or_false, XX, reduceIte, ↓reduceIte, Nat.reduceAdd, Nat.reduceLeDiff, Nat.reduceEqDiff, Nat.reduceLT, Nat.reduceSub, Nat.reduceBEq, forall_const, reduceCtorEq, implies_true, exists_eq_left', exists_eq_left, if_true, if_false, undef]
  refine ⟨.inl (by decide), ?_⟩
  cases hk : ((kd == 3) != b) with
  | true =>
    have ht : turnK kd b = 3 := by unfold turnK; rw [hk]; rfl
    rw [ht]
    generalize stp s.1.1 ⟨3, r.2, s.2⟩ = q at *
    simp (maxSteps := 1000000) only [hk, Bo, encG, clM, clR, clZ, clN, trM, trR, trZ, trN, vrest, frzL_vs, kysL_vs, reGL_vs, keysInL_vs, fzL_vs, SubL_vs, nbT, nbF, spl0, List.contains_nil, List.contains_cons, Bool.false_or, Bool.true_or, Bool.or_false, XX, reduceIte, ↓reduceIte, Nat.reduceAdd, Nat.reduceLeDiff, Nat.reduceEqDiff, Nat.reduceLT, Nat.reduceSub, Nat.reduceBEq, forall_const, reduceCtorEq, implies_true, exists_eq_left', exists_eq_left, if_true, if_false, undef]
    refine callP 0 2 rfl (by simp) (fun rest hrest => callM [some 0, some 21, some 24] (hand rest) (by simp [encG, clM, clR, clZ, clN, trM, trR, trZ, trN, vrest, frzL_vs, kysL_vs, reGL_vs, keysInL_vs, fzL_vs, SubL_vs, nbT, nbF, spl0, List.contains_nil, List.contains_cons, Bool.false_or, Bool.true_or, Bool.or_false, XX, undef]) (by simp [encG, clM, clR, clZ, clN, trM, trR, trZ, trN, vrest, frzL_vs, kysL_vs, reGL_vs, keysInL_vs, fzL_vs, SubL_vs, nbT, nbF, spl0, List.contains_nil, List.contains_cons, Bool.false_or, Bool.true_or, Bool.or_false, XX, undef]) (by simp [encG, clM, clR, clZ, clN, trM, trR, trZ, trN, vrest, frzL_vs, kysL_vs, reGL_vs, keysInL_vs, fzL_vs, SubL_vs, nbT, nbF, spl0, List.contains_nil, List.contains_cons, Bool.false_or, Bool.true_or, Bool.or_false, XX, undef]) ⟨[.arr 38 0 q.1.length, .mp 24], by simp [encG, clM, clR, clZ, clN, trM, trR, trZ, trN, vrest, frzL_vs, kysL_vs, reGL_vs, keysInL_vs, fzL_vs, SubL_vs, nbT, nbF, spl0, List.contains_nil, List.contains_cons, Bool.false_or, Bool.true_or, Bool.or_false, XX, undef], ?_⟩)
    simp (maxSteps := 1000000) only [encG, clM, clR, clZ, clN, trM, trR, trZ, trN, vrest, frzL_vs, kysL_vs, reGL_vs, keysInL_vs, fzL_vs, SubL_vs, nbT, nbF, spl0, List.contains_nil, List.contains_cons, Bool.false_or, Bool.true_or, Bool.or_false, XX, reduceIte, ↓reduceIte, Nat.reduceAdd, Nat.reduceLeDiff, Nat.reduceEqDiff, Nat.reduceLT, Nat.reduceSub, Nat.reduceBEq, forall_const, reduceCtorEq, implies_true, exists_eq_left', exists_eq_left, if_true, if_false, undef]
    exact ⟨[38, 24], by simp [encG, clM, clR, clZ, clN, trM, trR, trZ, trN, vrest, frzL_vs, kysL_vs, reGL_vs, keysInL_vs, fzL_vs, SubL_vs, nbT, nbF, spl0, List.contains_nil, List.contains_cons, Bool.false_or, Bool.true_or, Bool.or_false, XX, undef], by simp [encG, clM, clR, clZ, clN, trM, trR, trZ, trN, vrest, frzL_vs, kysL_vs, reGL_vs, keysInL_vs, fzL_vs, SubL_vs, nbT, nbF, spl0, List.contains_nil, List.contains_cons, Bool.false_or, Bool.true_or, Bool.or_false, XX, undef], by simp [encG, clM, clR, clZ, clN, trM, trR, trZ, trN, vrest, frzL_vs, kysL_vs, reGL_vs, keysInL_vs, fzL_vs, SubL_vs, nbT, nbF, spl0, List.contains_nil, List.contains_cons, Bool.false_or, Bool.true_or, Bool.or_false, XX, undef]⟩
  | false =>
    have ht : turnK kd b = 4 := by unfold turnK; rw [hk]; rfl
    rw [ht]
    generalize stp s.1.1 ⟨4, r.2, s.2⟩ = q at *
    simp (maxSteps := 1000000) only [hk, Bo, encG, clM, clR, clZ, clN, trM, trR, trZ, trN, vrest, frzL_vs, kysL_vs, reGL_vs, keysInL_vs, fzL_vs, SubL_vs, nbT, nbF, spl0, List.contains_nil, List.contains_cons, Bool.false_or, Bool.true_or, Bool.or_false, XX, reduceIte, ↓reduceIte, Nat.reduceAdd, Nat.reduceLeDiff, Nat.reduceEqDiff, Nat.reduceLT, Nat.reduceSub, Nat.reduceBEq, forall_const, reduceCtorEq, implies_true, exists_eq_left', exists_eq_left, if_true, if_false, undef]
    refine callP 0 2 rfl (by simp) (fun rest hrest => callM [some 0, some 21, some 24] (hor rest) (by simp [encG, clM, clR, clZ, clN, trM, trR, trZ, trN, vrest, frzL_vs, kysL_vs, reGL_vs, keysInL_vs, fzL_vs, SubL_vs, nbT, nbF, spl0, List.contains_nil, List.contains_cons, Bool.false_or, Bool.true_or, Bool.or_false, XX, undef]) (by simp [encG, clM, clR, clZ, clN, trM, trR, trZ, trN, vrest, frzL_vs, kysL_vs, reGL_vs, keysInL_vs, fzL_vs, SubL_vs, nbT, nbF, spl0, List.contains_nil, List.contains_cons, Bool.false_or, Bool.true_or, Bool.or_false, XX, undef]) (by simp [encG, clM, clR, clZ, clN, trM, trR, trZ, trN, vrest, frzL_vs, kysL_vs, reGL_vs, keysInL_vs, fzL_vs, SubL_vs, nbT, nbF, spl0, List.contains_nil, List.contains_cons, Bool.false_or, Bool.true_or, Bool.or_false, XX, undef]) ⟨[.arr 38 0 q.1.length, .mp 24], by simp [encG, clM, clR, clZ, clN, trM, trR, trZ, trN, vrest, frzL_vs, kysL_vs, reGL_vs, keysInL_vs, fzL_vs, SubL_vs, nbT, nbF, spl0, List.contains_nil, List.contains_cons, Bool.false_or, Bool.true_or, Bool.or_false, XX, undef], ?_⟩)
    simp (maxSteps := 1000000) only [encG, clM, clR, clZ, clN, trM, trR, trZ, trN, vrest, frzL_vs, kysL_vs, reGL_vs, keysInL_vs, fzL_vs, SubL_vs, nbT, nbF, spl0, List.contains_nil, List.contains_cons, Bool.false_or, Bool.true_or, Bool.or_false, XX, reduceIte, ↓reduceIte, Nat.reduceAdd, Nat.reduceLeDiff, Nat.reduceEqDiff, Nat.reduceLT, Nat.reduceSub, Nat.reduceBEq, forall_const, reduceCtorEq, implies_true, exists_eq_left', exists_eq_left, if_true, if_false, undef]
    exact ⟨[38, 24], by simp [encG, clM, clR, clZ, clN, trM, trR, trZ, trN, vrest, frzL_vs, kysL_vs, reGL_vs, keysInL_vs, fzL_vs, SubL_vs, nbT, nbF, spl0, List.contains_nil, List.contains_cons, Bool.false_or, Bool.true_or, Bool.or_false, XX, undef], by simp [encG, clM, clR, clZ, clN, trM, trR, trZ, trN, vrest, frzL_vs, kysL_vs, reGL_vs, keysInL_vs, fzL_vs, SubL_vs, nbT, nbF, spl0, List.contains_nil, List.contains_cons, Bool.false_or, Bool.true_or, Bool.or_false, XX, undef], by simp [encG, clM, clR, clZ, clN, trM, trR, trZ, trN, vrest, frzL_vs, kysL_vs, reGL_vs, keysInL_vs, fzL_vs, SubL_vs, nbT, nbF, spl0, List.contains_nil, List.contains_cons, Bool.false_or, Bool.true_or, Bool.or_false, XX, undef]⟩

theorem place_spec {inn : Int} {l : List Gt} (hl : GsOk inn l) (hll : l.length ≤ 40) : ∀ f, PlaceT inn l f ∧ PlaceZ l f
  | 0 => ⟨fun gs es i b hi _ _ => by omega, fun i b hi _ => by omega⟩
  | f + 1 => by
    obtain ⟨H, HZ⟩ := place_spec hl hll f
    refine ⟨fun gs es i b hi hil T => ?_, fun i b hi hil => ?_⟩
    · have hsm := T.small
      simp only at hsm
      have hv : valsL [IN i, Bo b] = some (scell i b) := rfl
      have hk : cksOk [.n .i64, .b] (scell i b) = true := by simp [scell, cksOk, ckOk]
      have hf := plE_find i b es
      cases hlk : lookS es i b with
      | some n =>
        rw [hlk] at hf
        simp only [Option.map_some] at hf
        have hpl : plS l (f + 1) (gs, es) i b = ((gs, es), n) := by simp only [plS]; rw [hlk]
        rw [hpl]
        have key : CallsM Try.prog 29 [.ptr 0 0, .agg [IN i, Bo b]] (trM l gs es) (IN n) [some (.box [.arr 1 0 gs.length, .mp 2, .ro 3 (l.map encG), .mp 3]), some (.arr 3 (gs.map encG)), some (.map (knE 0 gs)), some (.map (plE es))] := by
          refine fnM_of comp29 (by simp) (by simp [trM]) ?_
          unfold code29
          simp (maxSteps := 1000000) only [memOf, encG, clM, clR, clZ, clN, trM, trR, trZ, trN, vrest, frzL_vs, kysL_vs, reGL_vs, keysInL_vs, fzL_vs, SubL_vs, nbT, nbF, spl0, List.contains_nil, List.contains_cons, Bool.false_or, Bool.true_or, Bool.or_false, XX, reduceIte, ↓reduceIte, Nat.reduceAdd, Nat.reduceLeDiff, Nat.reduceEqDiff, Nat.reduceLT, Nat.reduceSub, Nat.reduceBEq, forall_const, reduceCtorEq, implies_true, exists_eq_left', exists_eq_left, if_true, if_false, undef]
          refine KeyVC.mk (scell i b) hv hk ?_
          simp (maxSteps := 1000000) only [plE_T, hf, Option.getD_some, Option.isSome_some, encG, clM, clR, clZ, clN, trM, trR, trZ, trN, vrest, frzL_vs, kysL_vs, reGL_vs, keysInL_vs, fzL_vs, SubL_vs, nbT, nbF, spl0, List.contains_nil, List.contains_cons, Bool.false_or, Bool.true_or, Bool.or_false, XX, reduceIte, ↓reduceIte, Nat.reduceAdd, Nat.reduceLeDiff, Nat.reduceEqDiff, Nat.reduceLT, Nat.reduceSub, Nat.reduceBEq, forall_const, reduceCtorEq, implies_true, exists_eq_left', exists_eq_left, if_true, if_false, undef]
          exact ⟨[], by simp, by simp [encG, clM, clR, clZ, clN, trM, trR, trZ, trN, vrest, frzL_vs, kysL_vs, reGL_vs, keysInL_vs, fzL_vs, SubL_vs, nbT, nbF, spl0, List.contains_nil, List.contains_cons, Bool.false_or, Bool.true_or, Bool.or_false, XX, undef]⟩
        exact key.rekey 1 rfl rfl rfl
      | none =>
        rw [hlk] at hf
        simp only [Option.map_none] at hf
        have hpl : plS l (f + 1) (gs, es) i b = (((atS (plS l f) (gs, es) (gAt l i) b).1.1, putS (atS (plS l f) (gs, es) (gAt l i) b).1.2 i b (atS (plS l f) (gs, es) (gAt l i) b).2), (atS (plS l f) (gs, es) (gAt l i) b).2) := by simp only [plS]; rw [hlk]
        rw [hpl]
        have ha := tadd_spec hl hll H HZ gs es i b (by omega) hil T
        have hgi : gAt l i = l[i] := by rw [gAt, List.getElem?_eq_getElem hil]; rfl
        generalize hr : atS (plS l f) (gs, es) (gAt l i) b = r at *
        rw [hgi] at ha
        have hput := plE_put i b r.2 r.1.2
        refine fnM_of comp29 (by simp) (by simp [trM, trR]) ?_
        unfold code29
        simp (maxSteps := 1000000) only [memOf, encG, clM, clR, clZ, clN, trM, trR, trZ, trN, vrest, frzL_vs, kysL_vs, reGL_vs, keysInL_vs, fzL_vs, SubL_vs, nbT, nbF, spl0, List.contains_nil, List.contains_cons, Bool.false_or, Bool.true_or, Bool.or_false, XX, reduceIte, ↓reduceIte, Nat.reduceAdd, Nat.reduceLeDiff, Nat.reduceEqDiff, Nat.reduceLT, Nat.reduceSub, Nat.reduceBEq, forall_const, reduceCtorEq, implies_true, exists_eq_left', exists_eq_left, if_true, if_false, undef]
        refine KeyVC.mk (scell i b) hv hk ?_
        simp (maxSteps := 1000000) only [plE_T, hf, Option.getD_none, Option.isSome_none, encG, clM, clR, clZ, clN, trM, trR, trZ, trN, vrest, frzL_vs, kysL_vs, reGL_vs, keysInL_vs, fzL_vs, SubL_vs, nbT, nbF, spl0, List.contains_nil, List.contains_cons, Bool.false_or, Bool.true_or, Bool.or_false, XX, reduceIte, ↓reduceIte, Nat.reduceAdd, Nat.reduceLeDiff, Nat.reduceEqDiff, Nat.reduceLT, Nat.reduceSub, Nat.reduceBEq, forall_const, reduceCtorEq, implies_true, exists_eq_left', exists_eq_left, if_true, if_false, undef]
        refine ⟨by omega, pickM hil ?_⟩
        simp (maxSteps := 1000000) only [encG, clM, clR, clZ, clN, trM, trR, trZ, trN, vrest, frzL_vs, kysL_vs, reGL_vs, keysInL_vs, fzL_vs, SubL_vs, nbT, nbF, spl0, List.contains_nil, List.contains_cons, Bool.false_or, Bool.true_or, Bool.or_false, XX, reduceIte, ↓reduceIte, Nat.reduceAdd, Nat.reduceLeDiff, Nat.reduceEqDiff, Nat.reduceLT, Nat.reduceSub, Nat.reduceBEq, forall_const, reduceCtorEq, implies_true, exists_eq_left', exists_eq_left, if_true, if_false, undef]
        refine callYX ?_
        refine callXm [0, 1, 2, 3] [] [some (.box [.arr 4 0 r.1.1.length, .mp 2, .ro 3 (l.map encG), .mp 3]), none, some (.map (knE 0 r.1.1)), some (.map (plE r.1.2))] [some (.arr 3 (r.1.1.map encG))] (ha) (by simp [encG, clM, clR, clZ, clN, trM, trR, trZ, trN, vrest, frzL_vs, kysL_vs, reGL_vs, keysInL_vs, fzL_vs, SubL_vs, nbT, nbF, spl0, List.contains_nil, List.contains_cons, Bool.false_or, Bool.true_or, Bool.or_false, XX, undef]) rfl (by simp [encG, clM, clR, clZ, clN, trM, trR, trZ, trN, vrest, frzL_vs, kysL_vs, reGL_vs, keysInL_vs, fzL_vs, SubL_vs, nbT, nbF, spl0, List.contains_nil, List.contains_cons, Bool.false_or, Bool.true_or, Bool.or_false, XX, undef]) (by simp) (by simp [encG, clM, clR, clZ, clN, trM, trR, trZ, trN, vrest, frzL_vs, kysL_vs, reGL_vs, keysInL_vs, fzL_vs, SubL_vs, nbT, nbF, spl0, List.contains_nil, List.contains_cons, Bool.false_or, Bool.true_or, Bool.or_false, XX, undef]) (by simp [encG, clM, clR, clZ, clN, trM, trR, trZ, trN, vrest, frzL_vs, kysL_vs, reGL_vs, keysInL_vs, fzL_vs, SubL_vs, nbT, nbF, spl0, List.contains_nil, List.contains_cons, Bool.false_or, Bool.true_or, Bool.or_false, XX, undef]) (by simp [encG, clM, clR, clZ, clN, trM, trR, trZ, trN, vrest, frzL_vs, kysL_vs, reGL_vs, keysInL_vs, fzL_vs, SubL_vs, nbT, nbF, spl0, List.contains_nil, List.contains_cons, Bool.false_or, Bool.true_or, Bool.or_false, XX, undef]) (by simp [encG, clM, clR, clZ, clN, trM, trR, trZ, trN, vrest, frzL_vs, kysL_vs, reGL_vs, keysInL_vs, fzL_vs, SubL_vs, nbT, nbF, spl0, List.contains_nil, List.contains_cons, Bool.false_or, Bool.true_or, Bool.or_false, XX, undef]) (by simp) (by simp) (by simp [encG, clM, clR, clZ, clN, trM, trR, trZ, trN, vrest, frzL_vs, kysL_vs, reGL_vs, keysInL_vs, fzL_vs, SubL_vs, nbT, nbF, spl0, List.contains_nil, List.contains_cons, Bool.false_or, Bool.true_or, Bool.or_false, XX, undef]) ?_
        simp (maxSteps := 1000000) only [encG, clM, clR, clZ, clN, trM, trR, trZ, trN, vrest, frzL_vs, kysL_vs, reGL_vs, keysInL_vs, fzL_vs, SubL_vs, nbT, nbF, spl0, List.contains_nil, List.contains_cons, Bool.false_or, Bool.true_or, Bool.or_false, XX, reduceIte, ↓reduceIte, Nat.reduceAdd, Nat.reduceLeDiff, Nat.reduceEqDiff, Nat.reduceLT, Nat.reduceSub, Nat.reduceBEq, forall_const, reduceCtorEq, implies_true, exists_eq_left', exists_eq_left, if_true, if_false, undef]
        refine KeyVC.mk (scell i b) hv hk ?_
        simp (maxSteps := 1000000) only [plE_T, hput, encG, clM, clR, clZ, clN, trM, trR, trZ, trN, vrest, frzL_vs, kysL_vs, reGL_vs, keysInL_vs, fzL_vs, SubL_vs, nbT, nbF, spl0, List.contains_nil, List.contains_cons, Bool.false_or, Bool.true_or, Bool.or_false, XX, reduceIte, ↓reduceIte, Nat.reduceAdd, Nat.reduceLeDiff, Nat.reduceEqDiff, Nat.reduceLT, Nat.reduceSub, Nat.reduceBEq, forall_const, reduceCtorEq, implies_true, exists_eq_left', exists_eq_left, if_true, if_false, undef]
        exact ⟨[30], by simp [encG, clM, clR, clZ, clN, trM, trR, trZ, trN, vrest, frzL_vs, kysL_vs, reGL_vs, keysInL_vs, fzL_vs, SubL_vs, nbT, nbF, spl0, List.contains_nil, List.contains_cons, Bool.false_or, Bool.true_or, Bool.or_false, XX, undef], by simp [encG, clM, clR, clZ, clN, trM, trR, trZ, trN, vrest, frzL_vs, kysL_vs, reGL_vs, keysInL_vs, fzL_vs, SubL_vs, nbT, nbF, spl0, List.contains_nil, List.contains_cons, Bool.false_or, Bool.true_or, Bool.or_false, XX, undef], by simp [encG, clM, clR, clZ, clN, trM, trR, trZ, trN, vrest, frzL_vs, kysL_vs, reGL_vs, keysInL_vs, fzL_vs, SubL_vs, nbT, nbF, spl0, List.contains_nil, List.contains_cons, Bool.false_or, Bool.true_or, Bool.or_false, XX, undef]⟩
    · have hv : valsL [IN i, Bo b] = some (scell i b) := rfl
      have hk : cksOk [.n .i64, .b] (scell i b) = true := by simp [scell, cksOk, ckOk]
      have hT0 : AKeys [.n .i64, .b] [] = True := eq_true (fun p hp => by simp at hp)
      have hf0 : kfind (scell i b) [] = none := rfl
      have hpl : plS l (f + 1) ([], []) i b = (((atS (plS l f) ([], []) (gAt l i) b).1.1, putS (atS (plS l f) ([], []) (gAt l i) b).1.2 i b (atS (plS l f) ([], []) (gAt l i) b).2), (atS (plS l f) ([], []) (gAt l i) b).2) := by simp only [plS, lookS]
      rw [hpl]
      have ha := tadd0_spec hl hll H HZ i b (by omega) hil TI.nil
      have hgi : gAt l i = l[i] := by rw [gAt, List.getElem?_eq_getElem hil]; rfl
      generalize hr : atS (plS l f) ([], []) (gAt l i) b = r at *
      rw [hgi] at ha
      have hput := plE_put i b r.2 r.1.2
      refine fnM_of comp29 (by simp) (by simp [trZ, trN]) ?_
      unfold code29
      simp (maxSteps := 1000000) only [memOf, encG, clM, clR, clZ, clN, trM, trR, trZ, trN, vrest, frzL_vs, kysL_vs, reGL_vs, keysInL_vs, fzL_vs, SubL_vs, nbT, nbF, spl0, List.contains_nil, List.contains_cons, Bool.false_or, Bool.true_or, Bool.or_false, XX, reduceIte, ↓reduceIte, Nat.reduceAdd, Nat.reduceLeDiff, Nat.reduceEqDiff, Nat.reduceLT, Nat.reduceSub, Nat.reduceBEq, forall_const, reduceCtorEq, implies_true, exists_eq_left', exists_eq_left, if_true, if_false, undef]
      refine KeyVC.mk (scell i b) hv hk ?_
      simp (maxSteps := 1000000) only [hT0, hf0, Option.getD_none, Option.isSome_none, encG, clM, clR, clZ, clN, trM, trR, trZ, trN, vrest, frzL_vs, kysL_vs, reGL_vs, keysInL_vs, fzL_vs, SubL_vs, nbT, nbF, spl0, List.contains_nil, List.contains_cons, Bool.false_or, Bool.true_or, Bool.or_false, XX, reduceIte, ↓reduceIte, Nat.reduceAdd, Nat.reduceLeDiff, Nat.reduceEqDiff, Nat.reduceLT, Nat.reduceSub, Nat.reduceBEq, forall_const, reduceCtorEq, implies_true, exists_eq_left', exists_eq_left, if_true, if_false, undef]
      refine ⟨by omega, pickM hil ?_⟩
      simp (maxSteps := 1000000) only [encG, clM, clR, clZ, clN, trM, trR, trZ, trN, vrest, frzL_vs, kysL_vs, reGL_vs, keysInL_vs, fzL_vs, SubL_vs, nbT, nbF, spl0, List.contains_nil, List.contains_cons, Bool.false_or, Bool.true_or, Bool.or_false, XX, reduceIte, ↓reduceIte, Nat.reduceAdd, Nat.reduceLeDiff, Nat.reduceEqDiff, Nat.reduceLT, Nat.reduceSub, Nat.reduceBEq, forall_const, reduceCtorEq, implies_true, exists_eq_left', exists_eq_left, if_true, if_false, undef]
      have hpr : ∀ rest : List Value, rest.length + 4 = 4 → CallsM Try.prog 42 [.ptr 0 0, encG l[i], Bo b] (.box ([.v (.slice none 0 0), .v (.map none), .ro 3 (l.map encG), .mp 1] ++ rest.map .v) :: [.map []]) (IN r.2) (some (.box ([.arr 2 0 r.1.1.length, .mp 3, .ro 3 (l.map encG), .mp 1] ++ rest.map .v)) :: ([some (.map (plE r.1.2))] ++ [some (.arr 3 (r.1.1.map encG)), some (.map (knE 0 r.1.1))])) := fun rest hr => by
        have : rest = [] := List.length_eq_zero_iff.1 (by omega)
        subst this
        simp only [List.map_nil, List.append_nil]; exact ha
      refine callYp (cs := [.v (.slice none 0 0), .v (.map none), .ro 3 (l.map encG), .mp 1]) 0 [1] [] [.v (.slice none 0 0), .v (.map none), .ro 3 (l.map encG), .mp 1] [.arr 2 0 r.1.1.length, .mp 3, .ro 3 (l.map encG), .mp 1] [.map []] [some (.map (plE r.1.2))] [some (.arr 3 (r.1.1.map encG)), some (.map (knE 0 r.1.1))] hpr rfl (by simp) rfl (by simp [encG, clM, clR, clZ, clN, trM, trR, trZ, trN, vrest, frzL_vs, kysL_vs, reGL_vs, keysInL_vs, fzL_vs, SubL_vs, nbT, nbF, spl0, List.contains_nil, List.contains_cons, Bool.false_or, Bool.true_or, Bool.or_false, XX, undef]) (by simp) (by simp [encG, clM, clR, clZ, clN, trM, trR, trZ, trN, vrest, frzL_vs, kysL_vs, reGL_vs, keysInL_vs, fzL_vs, SubL_vs, nbT, nbF, spl0, List.contains_nil, List.contains_cons, Bool.false_or, Bool.true_or, Bool.or_false, XX, undef]) (by simp [encG, clM, clR, clZ, clN, trM, trR, trZ, trN, vrest, frzL_vs, kysL_vs, reGL_vs, keysInL_vs, fzL_vs, SubL_vs, nbT, nbF, spl0, List.contains_nil, List.contains_cons, Bool.false_or, Bool.true_or, Bool.or_false, XX, undef]) (by simp [encG, clM, clR, clZ, clN, trM, trR, trZ, trN, vrest, frzL_vs, kysL_vs, reGL_vs, keysInL_vs, fzL_vs, SubL_vs, nbT, nbF, spl0, List.contains_nil, List.contains_cons, Bool.false_or, Bool.true_or, Bool.or_false, XX, undef]) (by simp [encG, clM, clR, clZ, clN, trM, trR, trZ, trN, vrest, frzL_vs, kysL_vs, reGL_vs, keysInL_vs, fzL_vs, SubL_vs, nbT, nbF, spl0, List.contains_nil, List.contains_cons, Bool.false_or, Bool.true_or, Bool.or_false, XX, undef]) (by simp [encG, clM, clR, clZ, clN, trM, trR, trZ, trN, vrest, frzL_vs, kysL_vs, reGL_vs, keysInL_vs, fzL_vs, SubL_vs, nbT, nbF, spl0, List.contains_nil, List.contains_cons, Bool.false_or, Bool.true_or, Bool.or_false, XX, undef]) (by simp) (by simp) (by simp [encG, clM, clR, clZ, clN, trM, trR, trZ, trN, vrest, frzL_vs, kysL_vs, reGL_vs, keysInL_vs, fzL_vs, SubL_vs, nbT, nbF, spl0, List.contains_nil, List.contains_cons, Bool.false_or, Bool.true_or, Bool.or_false, XX, undef]) ?_
      simp (maxSteps := 1000000) only [encG, clM, clR, clZ, clN, trM, trR, trZ, trN, vrest, frzL_vs, kysL_vs, reGL_vs, keysInL_vs, fzL_vs, SubL_vs, nbT, nbF, spl0, List.contains_nil, List.contains_cons, Bool.false_or, Bool.true_or, Bool.or_false, XX, reduceIte, ↓reduceIte, Nat.reduceAdd, Nat.reduceLeDiff, Nat.reduceEqDiff, Nat.reduceLT, Nat.reduceSub, Nat.reduceBEq, forall_const, reduceCtorEq, implies_true, exists_eq_left', exists_eq_left, if_true, if_false, undef]
      refine KeyVC.mk (scell i b) hv hk ?_
      simp (maxSteps := 1000000) only [plE_T, hput, encG, clM, clR, clZ, clN, trM, trR, trZ, trN, vrest, frzL_vs, kysL_vs, reGL_vs, keysInL_vs, fzL_vs, SubL_vs, nbT, nbF, spl0, List.contains_nil, List.contains_cons, Bool.false_or, Bool.true_or, Bool.or_false, XX, reduceIte, ↓reduceIte, Nat.reduceAdd, Nat.reduceLeDiff, Nat.reduceEqDiff, Nat.reduceLT, Nat.reduceSub, Nat.reduceBEq, forall_const, reduceCtorEq, implies_true, exists_eq_left', exists_eq_left, if_true, if_false, undef]
      exact ⟨[28, 30], by simp [encG, clM, clR, clZ, clN, trM, trR, trZ, trN, vrest, frzL_vs, kysL_vs, reGL_vs, keysInL_vs, fzL_vs, SubL_vs, nbT, nbF, spl0, List.contains_nil, List.contains_cons, Bool.false_or, Bool.true_or, Bool.or_false, XX, undef], by simp [encG, clM, clR, clZ, clN, trM, trR, trZ, trN, vrest, frzL_vs, kysL_vs, reGL_vs, keysInL_vs, fzL_vs, SubL_vs, nbT, nbF, spl0, List.contains_nil, List.contains_cons, Bool.false_or, Bool.true_or, Bool.or_false, XX, undef], by simp [encG, clM, clR, clZ, clN, trM, trR, trZ, trN, vrest, frzL_vs, kysL_vs, reGL_vs, keysInL_vs, fzL_vs, SubL_vs, nbT, nbF, spl0, List.contains_nil, List.contains_cons, Bool.false_or, Bool.true_or, Bool.or_false, XX, undef]⟩

def turnR (l : List Gt) : List Gt := prune (plS l l.length ([], []) (l.length - 1) false).1.1 (plS l l.length ([], []) (l.length - 1) false).2
theorem turnC_spec (inn : Int) (l : List Gt) (hll : (l.length : Int) < 2 ^ 63) : CallsA Try.prog 15 [I inn, .ro 3 (l.map encG)] (.tup [.ro 3 ((if gateErr inn l = 0 then turnR l else []).map encG), I (gateErr inn l)]) [] := by
  refine fn_of0 comp15 (by simp) ?_
  unfold code15
  have hln : ((l.map encG).length : Int) = l.length := by simp
  simp (maxSteps := 1000000) only [encG, clM, clR, clZ, clN, trM, trR, trZ, trN, vrest, frzL_vs, kysL_vs, reGL_vs, keysInL_vs, fzL_vs, SubL_vs, nbT, nbF, spl0, List.contains_nil, List.contains_cons, Bool.false_or, Bool.true_or, Bool.or_false, XX, reduceIte, ↓reduceIte, Nat.reduceAdd, Nat.reduceLeDiff, Nat.reduceEqDiff, Nat.reduceLT, Nat.reduceSub, Nat.reduceBEq, forall_const, reduceCtorEq, implies_true, exists_eq_left', exists_eq_left, if_true, if_false, undef]
  refine callF (CallsA.args (gateCheckP_spec inn l hll) (by simp [encG, clM, clR, clZ, clN, trM, trR, trZ, trN, vrest, frzL_vs, kysL_vs, reGL_vs, keysInL_vs, fzL_vs, SubL_vs, nbT, nbF, spl0, List.contains_nil, List.contains_cons, Bool.false_or, Bool.true_or, Bool.or_false, XX, undef])) rfl (by simp [flat, encG, clM, clR, clZ, clN, trM, trR, trZ, trN, vrest, frzL_vs, kysL_vs, reGL_vs, keysInL_vs, fzL_vs, SubL_vs, nbT, nbF, spl0, List.contains_nil, List.contains_cons, Bool.false_or, Bool.true_or, Bool.or_false, XX, undef]) ?_
  by_cases he : gateErr inn l = 0
  rotate_left
  · have e1 : (gateErr inn l != 0) = true := by simp [he]
    rw [if_neg he]
    simp (maxSteps := 1000000) only [e1, List.map_nil, encG, clM, clR, clZ, clN, trM, trR, trZ, trN, vrest, frzL_vs, kysL_vs, reGL_vs, keysInL_vs, fzL_vs, SubL_vs, nbT, nbF, spl0, List.contains_nil, List.contains_cons, Bool.false_or, Bool.true_or, Bool.or_false, XX, reduceIte, ↓reduceIte, Nat.reduceAdd, Nat.reduceLeDiff, Nat.reduceEqDiff, Nat.reduceLT, Nat.reduceSub, Nat.reduceBEq, forall_const, reduceCtorEq, implies_true, exists_eq_left', exists_eq_left, if_true, if_false, undef]
  have e1 : (gateErr inn l != 0) = false := by simp [he]
  obtain ⟨hin, hlen, hok⟩ := gate_ok he
  have hp := (place_spec hok hlen.2 l.length).2 (l.length - 1) false (by omega) (by omega)
  have R := plS_ok hok l.length ([], []) (l.length - 1) false (by omega) (by omega) TI.nil
  rw [if_pos he, he]
  have hg : turnR l = prune (plS l l.length ([], []) (l.length - 1) false).1.1 (plS l l.length ([], []) (l.length - 1) false).2 := rfl
  rw [hg]
  generalize plS l l.length ([], []) (l.length - 1) false = r at *
  have hlt := R.ext.lt
  have hsm := R.ti.small
  have hin1 : 1 ≤ inn := by
    have h0 := hok 0 (by omega)
    have hk := h0.kind
    have hf := h0.first
    have hi := h0.input
    by_cases hk1 : l[0].kind = 1
    · have := hi hk1; omega
    · have := (hf hk1).2; omega
  have hcc := fun rest => ccircuit_spec rest r.1.1 inn (r.2 : Int) hin1 R.ti.ok (Part.nat hlt) (by omega)
  rw [cset_same r.1.1 (r.2 : Int) (by omega), Int.toNat_natCast] at hcc
  simp only at hcc
  have hw : IntKind.i64.wrap ((l.length : Int) - 1) = ((l.length - 1 : Nat) : Int) := by rw [wrap_id] <;> omega
  simp only [trZ, Bo] at hp
  have e2 : ((0 : Int) != 0) = false := by decide
  simp (maxSteps := 1000000) only [e2, encG, clM, clR, clZ, clN, trM, trR, trZ, trN, vrest, frzL_vs, kysL_vs, reGL_vs, keysInL_vs, fzL_vs, SubL_vs, nbT, nbF, spl0, List.contains_nil, List.contains_cons, Bool.false_or, Bool.true_or, Bool.or_false, XX, reduceIte, ↓reduceIte, Nat.reduceAdd, Nat.reduceLeDiff, Nat.reduceEqDiff, Nat.reduceLT, Nat.reduceSub, Nat.reduceBEq, forall_const, reduceCtorEq, implies_true, exists_eq_left', exists_eq_left, if_true, if_false, undef]
  refine FzVC.no ?_
  simp (maxSteps := 1000000) only [hln, hw, encG, clM, clR, clZ, clN, trM, trR, trZ, trN, vrest, frzL_vs, kysL_vs, reGL_vs, keysInL_vs, fzL_vs, SubL_vs, nbT, nbF, spl0, List.contains_nil, List.contains_cons, Bool.false_or, Bool.true_or, Bool.or_false, XX, reduceIte, ↓reduceIte, Nat.reduceAdd, Nat.reduceLeDiff, Nat.reduceEqDiff, Nat.reduceLT, Nat.reduceSub, Nat.reduceBEq, forall_const, reduceCtorEq, implies_true, exists_eq_left', exists_eq_left, if_true, if_false, undef]
  refine callM [some 11, some 9] (hp) (by simp [encG, clM, clR, clZ, clN, trM, trR, trZ, trN, vrest, frzL_vs, kysL_vs, reGL_vs, keysInL_vs, fzL_vs, SubL_vs, nbT, nbF, spl0, List.contains_nil, List.contains_cons, Bool.false_or, Bool.true_or, Bool.or_false, XX, undef]) (by simp [encG, clM, clR, clZ, clN, trM, trR, trZ, trN, vrest, frzL_vs, kysL_vs, reGL_vs, keysInL_vs, fzL_vs, SubL_vs, nbT, nbF, spl0, List.contains_nil, List.contains_cons, Bool.false_or, Bool.true_or, Bool.or_false, XX, undef]) (by simp [encG, clM, clR, clZ, clN, trM, trR, trZ, trN, vrest, frzL_vs, kysL_vs, reGL_vs, keysInL_vs, fzL_vs, SubL_vs, nbT, nbF, spl0, List.contains_nil, List.contains_cons, Bool.false_or, Bool.true_or, Bool.or_false, XX, undef]) ?_
  simp (maxSteps := 1000000) only [encG, clM, clR, clZ, clN, trM, trR, trZ, trN, vrest, frzL_vs, kysL_vs, reGL_vs, keysInL_vs, fzL_vs, SubL_vs, nbT, nbF, spl0, List.contains_nil, List.contains_cons, Bool.false_or, Bool.true_or, Bool.or_false, XX, reduceIte, ↓reduceIte, Nat.reduceAdd, Nat.reduceLeDiff, Nat.reduceEqDiff, Nat.reduceLT, Nat.reduceSub, Nat.reduceBEq, forall_const, reduceCtorEq, implies_true, exists_eq_left', exists_eq_left, if_true, if_false, undef]
  refine callP 11 2 rfl (by simp) (fun rest hrest => callM [some 11, some 19, some 20] (hcc rest) (by simp [encG, clM, clR, clZ, clN, trM, trR, trZ, trN, vrest, frzL_vs, kysL_vs, reGL_vs, keysInL_vs, fzL_vs, SubL_vs, nbT, nbF, spl0, List.contains_nil, List.contains_cons, Bool.false_or, Bool.true_or, Bool.or_false, XX, undef]) (by simp [encG, clM, clR, clZ, clN, trM, trR, trZ, trN, vrest, frzL_vs, kysL_vs, reGL_vs, keysInL_vs, fzL_vs, SubL_vs, nbT, nbF, spl0, List.contains_nil, List.contains_cons, Bool.false_or, Bool.true_or, Bool.or_false, XX, undef]) (by simp [encG, clM, clR, clZ, clN, trM, trR, trZ, trN, vrest, frzL_vs, kysL_vs, reGL_vs, keysInL_vs, fzL_vs, SubL_vs, nbT, nbF, spl0, List.contains_nil, List.contains_cons, Bool.false_or, Bool.true_or, Bool.or_false, XX, undef]) ⟨[.arr 28 0 r.1.1.length, .mp 20], by simp [encG, clM, clR, clZ, clN, trM, trR, trZ, trN, vrest, frzL_vs, kysL_vs, reGL_vs, keysInL_vs, fzL_vs, SubL_vs, nbT, nbF, spl0, List.contains_nil, List.contains_cons, Bool.false_or, Bool.true_or, Bool.or_false, XX, undef], ?_⟩)
  simp (maxSteps := 1000000) only [encG, clM, clR, clZ, clN, trM, trR, trZ, trN, vrest, frzL_vs, kysL_vs, reGL_vs, keysInL_vs, fzL_vs, SubL_vs, nbT, nbF, spl0, List.contains_nil, List.contains_cons, Bool.false_or, Bool.true_or, Bool.or_false, XX, reduceIte, ↓reduceIte, Nat.reduceAdd, Nat.reduceLeDiff, Nat.reduceEqDiff, Nat.reduceLT, Nat.reduceSub, Nat.reduceBEq, forall_const, reduceCtorEq, implies_true, exists_eq_left', exists_eq_left, if_true, if_false, undef]
  all_goals exact List.take_of_length_le (by simp)

theorem gateTurnP_spec (inn : Int) (l : List Gt) (hl : (l.length : Int) < 2 ^ 63) : ∃ m : List Gt, CallsA Try.prog 15 [I inn, .ro 3 (l.map encG)] (.tup [.ro 3 (m.map encG), I (gateErr inn l)]) [] ∧ (gateErr inn l ≠ 0 → m = []) ∧ (gateErr inn l = 0 → 1 ≤ m.length ∧ m.length ≤ 2 * l.length ∧ GsOk inn m ∧ NotIn m ∧ ∀ w, gval w m = gval w l) := by
  refine ⟨_, turnC_spec inn l hl, fun h => if_neg h, fun h => ?_⟩
  rw [if_pos h]
  obtain ⟨h1, h2, h3⟩ := gate_ok h
  have R := plS_ok h3 l.length ([], []) (l.length - 1) false (by omega) (by omega) TI.nil
  unfold turnR
  generalize plS l l.length ([], []) (l.length - 1) false = r at *
  have hlt := R.ext.lt
  obtain ⟨p1, p2, p3, p4, p5⟩ := prune_ok R.ti.ok hlt
  have hsm := R.ti.small
  refine ⟨p1, by omega, p3, fun i hi hk => p5 R.ti.nots i _ (by simp [hi]) hk, fun w => ?_⟩
  rw [p4, gval_gvn, R.val w]
  simp

end Go.Av
