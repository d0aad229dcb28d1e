/- Cells: the program's search for two rows that become the same. -/
import Derived.Test.YtlemkfgipbfjhaaCellH
import Derived.Test.YtlemkfgipbfjhaaLend
set_option linter.unusedSimpArgs false
set_option linter.unusedVariables false
set_option maxRecDepth 100000
namespace Go.Av
open Go.Proofs

theorem overlap_spec (a b : Nat) (ha : a < 4) (hb : b < 4) : CallsA Try.prog 39 [I a, I b] (Bo (a % 2 == b / 2)) [] := by
  refine fn_of0 comp39 (by simp) ?_
  unfold code39
  have t : ∀ i : Nat, i < 4 → Int.tmod (i : Int) 2 = ((i % 2 : Nat) : Int) ∧ IntKind.i64.wrap (Int.tdiv (i : Int) 2) = ((i / 2 : Nat) : Int) := by decide
  have e : (((a % 2 : Nat) : Int) == ((b / 2 : Nat) : Int)) = (a % 2 == b / 2) := by rw [Bool.eq_iff_iff]; simp; omega
  simp (maxSteps := 1000000) only [(t a ha).1, (t b hb).2, e, EA, EB, EC, ED, EE, EF, EG, EH, XA, XB, XC, XD, XE, XF, XG, XH, XI, XJ, XK, XL, XM, reduceIte, ↓reduceIte, Nat.reduceAdd, Nat.reduceLeDiff, Nat.reduceEqDiff, Nat.reduceLT, Nat.reduceSub, Nat.reduceBEq, forall_const, reduceCtorEq, implies_true, exists_eq_left', exists_eq_left, if_true, if_false, undef]
  exact ⟨by decide, by decide⟩

def ledB (rule f t : Nat) : Bool := (f / 4 % 2 == t / 4 / 2) && ((f % 4 % 2 == t % 4 / 2) && (rule.testBit (2 * (f / 4) + t / 4 % 2) == rule.testBit (2 * (f % 4) + t % 4 % 2)))
theorem leads_spec (rule f t : Nat) (hr : rule < 256) (hf : f < 16) (ht : t < 16) : CallsA Try.prog 36 [I rule, I f, I t] (Bo (ledB rule f t)) [] := by
  refine fn_of0 comp36 (by simp) ?_
  unfold code36
  have q : ∀ i : Nat, i < 16 → IntKind.i64.wrap (Int.tdiv (i : Int) 4) = ((i / 4 : Nat) : Int) ∧ Int.tmod (i : Int) 4 = ((i % 4 : Nat) : Int) := by decide
  have q2 : ∀ i : Nat, i < 4 → Int.tmod (i : Int) 2 = ((i % 2 : Nat) : Int) := by decide
  have q3 : ∀ i j : Nat, i < 4 → j < 2 → IntKind.i64.wrap (IntKind.i64.wrap (2 * (i : Int)) + (j : Int)) = ((2 * i + j : Nat) : Int) := fun i j hi hj => by
    rw [wrap_id (x := 2 * (i : Int)) (by omega) (by omega), wrap_id] <;> omega
  have a1 : f / 4 < 4 := by omega
  have a2 : f % 4 < 4 := by omega
  have a3 : t / 4 < 4 := by omega
  have a4 : t % 4 < 4 := by omega
  have r1 := q3 (f / 4) (t / 4 % 2) a1 (by omega)
  have r2 := q3 (f % 4) (t % 4 % 2) a2 (by omega)
  have e : ledB rule f t = ((f / 4 % 2 == t / 4 / 2) && ((f % 4 % 2 == t % 4 / 2) && (rule.testBit (2 * (f / 4) + t / 4 % 2) == rule.testBit (2 * (f % 4) + t % 4 % 2)))) := rfl
  rw [e]
  simp (maxSteps := 1000000) only [(q f hf).1, (q f hf).2, (q t ht).1, (q t ht).2, EA, EB, EC, ED, EE, EF, EG, EH, XA, XB, XC, XD, XE, XF, XG, XH, XI, XJ, XK, XL, XM, reduceIte, ↓reduceIte, Nat.reduceAdd, Nat.reduceLeDiff, Nat.reduceEqDiff, Nat.reduceLT, Nat.reduceSub, Nat.reduceBEq, forall_const, reduceCtorEq, implies_true, exists_eq_left', exists_eq_left, if_true, if_false, undef]
  refine ⟨by decide, by decide, by decide, by decide, ?_⟩
  refine callF (CallsA.args (overlap_spec (f / 4) (t / 4) a1 a3) (by simp [EA, EB, EC, ED, EE, EF, EG, EH, XA, XB, XC, XD, XE, XF, XG, XH, XI, XJ, XK, XL, XM, reduceIte, ↓reduceIte, Nat.reduceAdd, Nat.reduceLeDiff, Nat.reduceEqDiff, Nat.reduceLT, Nat.reduceSub, Nat.reduceBEq, forall_const, reduceCtorEq, implies_true, exists_eq_left', exists_eq_left, if_true, if_false, undef])) rfl (by simp [flat, EA, EB, EC, ED, EE, EF, EG, EH, XA, XB, XC, XD, XE, XF, XG, XH, XI, XJ, XK, XL, XM, reduceIte, ↓reduceIte, Nat.reduceAdd, Nat.reduceLeDiff, Nat.reduceEqDiff, Nat.reduceLT, Nat.reduceSub, Nat.reduceBEq, forall_const, reduceCtorEq, implies_true, exists_eq_left', exists_eq_left, if_true, if_false, undef]) ?_
  cases c1 : (f / 4 % 2 == t / 4 / 2)
  · simp (maxSteps := 1000000) only [Bo, Bool.false_and, EA, EB, EC, ED, EE, EF, EG, EH, XA, XB, XC, XD, XE, XF, XG, XH, XI, XJ, XK, XL, XM, reduceIte, ↓reduceIte, Nat.reduceAdd, Nat.reduceLeDiff, Nat.reduceEqDiff, Nat.reduceLT, Nat.reduceSub, Nat.reduceBEq, forall_const, reduceCtorEq, implies_true, exists_eq_left', exists_eq_left, if_true, if_false, undef]
  simp (maxSteps := 1000000) only [Bo, Bool.true_and, EA, EB, EC, ED, EE, EF, EG, EH, XA, XB, XC, XD, XE, XF, XG, XH, XI, XJ, XK, XL, XM, reduceIte, ↓reduceIte, Nat.reduceAdd, Nat.reduceLeDiff, Nat.reduceEqDiff, Nat.reduceLT, Nat.reduceSub, Nat.reduceBEq, forall_const, reduceCtorEq, implies_true, exists_eq_left', exists_eq_left, if_true, if_false, undef]
  refine callF (CallsA.args (overlap_spec (f % 4) (t % 4) a2 a4) (by simp [EA, EB, EC, ED, EE, EF, EG, EH, XA, XB, XC, XD, XE, XF, XG, XH, XI, XJ, XK, XL, XM, reduceIte, ↓reduceIte, Nat.reduceAdd, Nat.reduceLeDiff, Nat.reduceEqDiff, Nat.reduceLT, Nat.reduceSub, Nat.reduceBEq, forall_const, reduceCtorEq, implies_true, exists_eq_left', exists_eq_left, if_true, if_false, undef])) rfl (by simp [flat, EA, EB, EC, ED, EE, EF, EG, EH, XA, XB, XC, XD, XE, XF, XG, XH, XI, XJ, XK, XL, XM, reduceIte, ↓reduceIte, Nat.reduceAdd, Nat.reduceLeDiff, Nat.reduceEqDiff, Nat.reduceLT, Nat.reduceSub, Nat.reduceBEq, forall_const, reduceCtorEq, implies_true, exists_eq_left', exists_eq_left, if_true, if_false, undef]) ?_
  cases c2 : (f % 4 % 2 == t % 4 / 2)
  · simp (maxSteps := 1000000) only [Bo, Bool.false_and, EA, EB, EC, ED, EE, EF, EG, EH, XA, XB, XC, XD, XE, XF, XG, XH, XI, XJ, XK, XL, XM, reduceIte, ↓reduceIte, Nat.reduceAdd, Nat.reduceLeDiff, Nat.reduceEqDiff, Nat.reduceLT, Nat.reduceSub, Nat.reduceBEq, forall_const, reduceCtorEq, implies_true, exists_eq_left', exists_eq_left, if_true, if_false, undef]
  simp (maxSteps := 1000000) only [q2 _ a3, q2 _ a4, r1, r2, Bo, Bool.true_and, EA, EB, EC, ED, EE, EF, EG, EH, XA, XB, XC, XD, XE, XF, XG, XH, XI, XJ, XK, XL, XM, reduceIte, ↓reduceIte, Nat.reduceAdd, Nat.reduceLeDiff, Nat.reduceEqDiff, Nat.reduceLT, Nat.reduceSub, Nat.reduceBEq, forall_const, reduceCtorEq, implies_true, exists_eq_left', exists_eq_left, if_true, if_false, undef]
  refine ⟨by decide, ?_⟩
  refine callF (CallsA.args (becomes_spec rule (2 * (f / 4) + t / 4 % 2) hr (by omega)) (by simp [EA, EB, EC, ED, EE, EF, EG, EH, XA, XB, XC, XD, XE, XF, XG, XH, XI, XJ, XK, XL, XM, reduceIte, ↓reduceIte, Nat.reduceAdd, Nat.reduceLeDiff, Nat.reduceEqDiff, Nat.reduceLT, Nat.reduceSub, Nat.reduceBEq, forall_const, reduceCtorEq, implies_true, exists_eq_left', exists_eq_left, if_true, if_false, undef])) rfl (by simp [flat, EA, EB, EC, ED, EE, EF, EG, EH, XA, XB, XC, XD, XE, XF, XG, XH, XI, XJ, XK, XL, XM, reduceIte, ↓reduceIte, Nat.reduceAdd, Nat.reduceLeDiff, Nat.reduceEqDiff, Nat.reduceLT, Nat.reduceSub, Nat.reduceBEq, forall_const, reduceCtorEq, implies_true, exists_eq_left', exists_eq_left, if_true, if_false, undef]) ?_
  simp (maxSteps := 1000000) only [q2 _ a3, q2 _ a4, r1, r2, Bo, Bool.true_and, EA, EB, EC, ED, EE, EF, EG, EH, XA, XB, XC, XD, XE, XF, XG, XH, XI, XJ, XK, XL, XM, reduceIte, ↓reduceIte, Nat.reduceAdd, Nat.reduceLeDiff, Nat.reduceEqDiff, Nat.reduceLT, Nat.reduceSub, Nat.reduceBEq, forall_const, reduceCtorEq, implies_true, exists_eq_left', exists_eq_left, if_true, if_false, undef]
  refine ⟨by decide, ?_⟩
  refine callF (CallsA.args (becomes_spec rule (2 * (f % 4) + t % 4 % 2) hr (by omega)) (by simp [EA, EB, EC, ED, EE, EF, EG, EH, XA, XB, XC, XD, XE, XF, XG, XH, XI, XJ, XK, XL, XM, reduceIte, ↓reduceIte, Nat.reduceAdd, Nat.reduceLeDiff, Nat.reduceEqDiff, Nat.reduceLT, Nat.reduceSub, Nat.reduceBEq, forall_const, reduceCtorEq, implies_true, exists_eq_left', exists_eq_left, if_true, if_false, undef])) rfl (by simp [flat, EA, EB, EC, ED, EE, EF, EG, EH, XA, XB, XC, XD, XE, XF, XG, XH, XI, XJ, XK, XL, XM, reduceIte, ↓reduceIte, Nat.reduceAdd, Nat.reduceLeDiff, Nat.reduceEqDiff, Nat.reduceLT, Nat.reduceSub, Nat.reduceBEq, forall_const, reduceCtorEq, implies_true, exists_eq_left', exists_eq_left, if_true, if_false, undef]) ?_
  simp (maxSteps := 1000000) only [Bo, Bool.true_and, EA, EB, EC, ED, EE, EF, EG, EH, XA, XB, XC, XD, XE, XF, XG, XH, XI, XJ, XK, XL, XM, reduceIte, ↓reduceIte, Nat.reduceAdd, Nat.reduceLeDiff, Nat.reduceEqDiff, Nat.reduceLT, Nat.reduceSub, Nat.reduceBEq, forall_const, reduceCtorEq, implies_true, exists_eq_left', exists_eq_left, if_true, if_false, undef]

theorem right_spec (rule f t : Nat) (hr : rule < 256) (hf : f < 16) (ht : t < 16) : CallsM Try.prog 35 [I f, I t, .ptr 0 0] [.box [I rule]] (Bo (ledB rule f t)) [some (.box [I rule])] := by
  refine fnM_of comp35 (by simp) (by simp) ?_
  unfold code35
  simp (maxSteps := 1000000) only [EA, EB, EC, ED, EE, EF, EG, EH, XA, XB, XC, XD, XE, XF, XG, XH, XI, XJ, XK, XL, XM, reduceIte, ↓reduceIte, Nat.reduceAdd, Nat.reduceLeDiff, Nat.reduceEqDiff, Nat.reduceLT, Nat.reduceSub, Nat.reduceBEq, forall_const, reduceCtorEq, implies_true, exists_eq_left', exists_eq_left, if_true, if_false, undef]
  refine callF (CallsA.args (leads_spec rule f t hr hf ht) (by simp [EA, EB, EC, ED, EE, EF, EG, EH, XA, XB, XC, XD, XE, XF, XG, XH, XI, XJ, XK, XL, XM, reduceIte, ↓reduceIte, Nat.reduceAdd, Nat.reduceLeDiff, Nat.reduceEqDiff, Nat.reduceLT, Nat.reduceSub, Nat.reduceBEq, forall_const, reduceCtorEq, implies_true, exists_eq_left', exists_eq_left, if_true, if_false, undef])) rfl (by simp [flat, EA, EB, EC, ED, EE, EF, EG, EH, XA, XB, XC, XD, XE, XF, XG, XH, XI, XJ, XK, XL, XM, reduceIte, ↓reduceIte, Nat.reduceAdd, Nat.reduceLeDiff, Nat.reduceEqDiff, Nat.reduceLT, Nat.reduceSub, Nat.reduceBEq, forall_const, reduceCtorEq, implies_true, exists_eq_left', exists_eq_left, if_true, if_false, undef]) ?_
  simp (maxSteps := 1000000) only [EA, EB, EC, ED, EE, EF, EG, EH, XA, XB, XC, XD, XE, XF, XG, XH, XI, XJ, XK, XL, XM, reduceIte, ↓reduceIte, Nat.reduceAdd, Nat.reduceLeDiff, Nat.reduceEqDiff, Nat.reduceLT, Nat.reduceSub, Nat.reduceBEq, forall_const, reduceCtorEq, implies_true, exists_eq_left', exists_eq_left, if_true, if_false, undef]
  exact ⟨[], by simp, by simp [EA, EB, EC, ED, EE, EF, EG, EH, XA, XB, XC, XD, XE, XF, XG, XH, XI, XJ, XK, XL, XM, reduceIte, ↓reduceIte, Nat.reduceAdd, Nat.reduceLeDiff, Nat.reduceEqDiff, Nat.reduceLT, Nat.reduceSub, Nat.reduceBEq, forall_const, reduceCtorEq, implies_true, exists_eq_left', exists_eq_left, if_true, if_false, undef]⟩
theorem left_spec (rule f t : Nat) (hr : rule < 256) (hf : f < 16) (ht : t < 16) : CallsM Try.prog 37 [I f, I t, .ptr 0 0] [.box [I rule]] (Bo (ledB rule t f)) [some (.box [I rule])] := by
  refine fnM_of comp37 (by simp) (by simp) ?_
  unfold code37
  simp (maxSteps := 1000000) only [EA, EB, EC, ED, EE, EF, EG, EH, XA, XB, XC, XD, XE, XF, XG, XH, XI, XJ, XK, XL, XM, reduceIte, ↓reduceIte, Nat.reduceAdd, Nat.reduceLeDiff, Nat.reduceEqDiff, Nat.reduceLT, Nat.reduceSub, Nat.reduceBEq, forall_const, reduceCtorEq, implies_true, exists_eq_left', exists_eq_left, if_true, if_false, undef]
  refine callF (CallsA.args (leads_spec rule t f hr ht hf) (by simp [EA, EB, EC, ED, EE, EF, EG, EH, XA, XB, XC, XD, XE, XF, XG, XH, XI, XJ, XK, XL, XM, reduceIte, ↓reduceIte, Nat.reduceAdd, Nat.reduceLeDiff, Nat.reduceEqDiff, Nat.reduceLT, Nat.reduceSub, Nat.reduceBEq, forall_const, reduceCtorEq, implies_true, exists_eq_left', exists_eq_left, if_true, if_false, undef])) rfl (by simp [flat, EA, EB, EC, ED, EE, EF, EG, EH, XA, XB, XC, XD, XE, XF, XG, XH, XI, XJ, XK, XL, XM, reduceIte, ↓reduceIte, Nat.reduceAdd, Nat.reduceLeDiff, Nat.reduceEqDiff, Nat.reduceLT, Nat.reduceSub, Nat.reduceBEq, forall_const, reduceCtorEq, implies_true, exists_eq_left', exists_eq_left, if_true, if_false, undef]) ?_
  simp (maxSteps := 1000000) only [EA, EB, EC, ED, EE, EF, EG, EH, XA, XB, XC, XD, XE, XF, XG, XH, XI, XJ, XK, XL, XM, reduceIte, ↓reduceIte, Nat.reduceAdd, Nat.reduceLeDiff, Nat.reduceEqDiff, Nat.reduceLT, Nat.reduceSub, Nat.reduceBEq, forall_const, reduceCtorEq, implies_true, exists_eq_left', exists_eq_left, if_true, if_false, undef]
  exact ⟨[], by simp, by simp [EA, EB, EC, ED, EE, EF, EG, EH, XA, XB, XC, XD, XE, XF, XG, XH, XI, XJ, XK, XL, XM, reduceIte, ↓reduceIte, Nat.reduceAdd, Nat.reduceLeDiff, Nat.reduceEqDiff, Nat.reduceLT, Nat.reduceSub, Nat.reduceBEq, forall_const, reduceCtorEq, implies_true, exists_eq_left', exists_eq_left, if_true, if_false, undef]⟩

/-- what is visited, and from where it goes on -/
abbrev Xs : Type := List Bool × List Bool
def xpL (rc : Nat → Xs → Option (Bool × Xs)) (al : Nat → Bool) : Nat → Nat → Xs → Option (Bool × Xs)
  | 0, _, st => some (false, st)
  | j + 1, t, st => if al t = true then match rc t st with
      | none => none
      | some (true, st') => some (true, st')
      | some (false, st') => xpL rc al j (t + 1) st'
    else xpL rc al j (t + 1) st
def xpF (al : Nat → Nat → Bool) : Nat → Nat → Xs → Option (Bool × Xs)
  | 0, _, _ => none
  | f + 1, p, st => if st.1.getD p false = true then some (st.2.getD p false, st) else
    match xpL (xpF al f) (al p) 16 0 (st.1.set p true, st.2.set p true) with
    | none => none
    | some (true, st') => some (true, st')
    | some (false, st') => some (false, (st'.1, st'.2.set p false))
def X16 (st : Xs) : Prop := st.1.length = 16 ∧ st.2.length = 16
theorem xpL_len {rc : Nat → Xs → Option (Bool × Xs)} (hrc : ∀ t st b st', X16 st → rc t st = some (b, st') → X16 st') (al : Nat → Bool) : ∀ j t st b st', X16 st → xpL rc al j t st = some (b, st') → X16 st'
  | 0, t, st, b, st', h, e => by simp only [xpL, Option.some.injEq, Prod.mk.injEq] at e; obtain ⟨_, rfl⟩ := e; exact h
  | j + 1, t, st, b, st', h, e => by
    simp only [xpL] at e
    split at e
    · split at e
      · cases e
      · rename_i s2 e2; cases e; exact hrc _ _ _ _ h e2
      · rename_i s2 e2; exact xpL_len hrc al j _ _ _ _ (hrc _ _ _ _ h e2) e
    · exact xpL_len hrc al j _ _ _ _ h e
theorem xpF_len (al : Nat → Nat → Bool) : ∀ f p st b st', X16 st → xpF al f p st = some (b, st') → X16 st'
  | 0, p, st, b, st', h, e => by simp [xpF] at e
  | f + 1, p, st, b, st', h, e => by
    simp only [xpF] at e
    have h0 : X16 (st.1.set p true, st.2.set p true) := ⟨by simp [h.1], by simp [h.2]⟩
    split at e
    · cases e; exact h
    · split at e
      · cases e
      · rename_i s2 e2; cases e; exact xpL_len (fun t st b st' => xpF_len al f t st b st') _ _ _ _ _ _ h0 e2
      · rename_i s2 e2
        have := xpL_len (fun t st b st' => xpF_len al f t st b st') _ _ _ _ _ _ h0 e2
        cases e
        exact ⟨this.1, by simp [this.2]⟩

def xM (g rule : Nat) (st : Xs) : List MObj := [.box (st.1.map Bo), .box (st.2.map Bo), .box [.fn g [.ptr 4 0]], .box [.fn 38 [.ptr 0 0, .ptr 1 0, .ptr 2 0, .ptr 3 0]], .box [I rule]]

theorem frzL_Bo (rho : List Nat) (m : Mem) (l : List Bool) : frzL rho m (l.map Bo) = l.map Bo := by
  induction l with
  | nil => simp [frzL]
  | cons a l ih => simp [frzL, ih, frz, Bo]
theorem SubL_Bo (n : Nat) (rho : List (Option Nat)) (l : List Bool) : SubL n rho (l.map Bo) (l.map Bo) := by
  induction l with
  | nil => simp [SubL]
  | cons a l ih => simp only [List.map_cons, SubL, Sub, Bo]; exact ⟨trivial, ih⟩

theorem reGL_Bo (g : Nat → Nat) (l : List Bool) : reGL g (l.map Bo) = l.map Bo := by
  induction l with
  | nil => simp [reGL]
  | cons a l ih => simp [reGL, ih, reG, Bo]
theorem kysL_Bo (l : List Bool) : kysL (l.map Bo) = [] := by
  induction l with
  | nil => simp [kysL]
  | cons a l ih => simp [kysL, ih, kys, Bo]

theorem explore_spec (g rule : Nat) (al : Nat → Nat → Bool) (hal : ∀ f t : Nat, f < 16 → t < 16 → CallsM Try.prog g [I f, I t, .ptr 0 0] [.box [I rule]] (Bo (al f t)) [some (.box [I rule])]) :
    ∀ (f p : Nat) (st : Xs) (b : Bool) (st' : Xs), p < 16 → X16 st → xpF al f p st = some (b, st') →
      CallsM Try.prog 38 [I p, .ptr 0 0, .ptr 1 0, .ptr 2 0, .ptr 3 0] (xM g rule st) (Bo b) ((xM g rule st').map some) := by
  intro f
  induction f with
  | zero => intro p st b st' _ _ h; simp [xpF] at h
  | succ f ih =>
  intro p st b st' hp hst hx
  have hst' := xpF_len al (f + 1) p st b st' hst hx
  obtain ⟨vis, goes⟩ := st
  obtain ⟨vis', goes'⟩ := st'
  have hv : (vis.map Bo)[p * 1]? = some (Bo (vis.getD p false)) := by
    rw [Nat.mul_one, List.getElem?_map, List.getD_eq_getElem?_getD, List.getElem?_eq_getElem (by have := hst.1; simp only at this; omega)]; rfl
  have hg : (goes.map Bo)[p * 1]? = some (Bo (goes.getD p false)) := by
    rw [Nat.mul_one, List.getElem?_map, List.getD_eq_getElem?_getD, List.getElem?_eq_getElem (by have := hst.2; simp only at this; omega)]; rfl
  refine fnM_of comp38 (by simp) (by simp [xM]) ?_
  unfold code38
  simp (maxSteps := 1000000) only [xM, List.map_cons, List.map_nil, memOf, memFrom, Int.toNat_natCast, EA, EB, EC, ED, EE, EF, EG, EH, XA, XB, XC, XD, XE, XF, XG, XH, XI, XJ, XK, XL, XM, reduceIte, ↓reduceIte, Nat.reduceAdd, Nat.reduceLeDiff, Nat.reduceEqDiff, Nat.reduceLT, Nat.reduceSub, Nat.reduceBEq, forall_const, reduceCtorEq, implies_true, exists_eq_left', exists_eq_left, if_true, if_false, undef]
  refine ⟨by omega, by omega, _, hv, ?_⟩
  cases hvp : vis.getD p false with
  | true =>
    simp only [xpF, hvp, if_true, Option.some.injEq, Prod.mk.injEq] at hx
    obtain ⟨rfl, rfl, rfl⟩ := hx
    simp (maxSteps := 1000000) only [Bo, Int.toNat_natCast, EA, EB, EC, ED, EE, EF, EG, EH, XA, XB, XC, XD, XE, XF, XG, XH, XI, XJ, XK, XL, XM, reduceIte, ↓reduceIte, Nat.reduceAdd, Nat.reduceLeDiff, Nat.reduceEqDiff, Nat.reduceLT, Nat.reduceSub, Nat.reduceBEq, forall_const, reduceCtorEq, implies_true, exists_eq_left', exists_eq_left, if_true, if_false, undef]
    refine ⟨by omega, by omega, _, hg, [], ?_⟩
    simp [frzL_Bo, Bo, EA, EB, EC, ED, EE, EF, EG, EH, XA, XB, XC, XD, XE, XF, XG, XH, XI, XJ, XK, XL, XM, reduceIte, ↓reduceIte, Nat.reduceAdd, Nat.reduceLeDiff, Nat.reduceEqDiff, Nat.reduceLT, Nat.reduceSub, Nat.reduceBEq, forall_const, reduceCtorEq, implies_true, exists_eq_left', exists_eq_left, if_true, if_false, undef]
  | false =>
    have hl1 := hst.1
    have hl2 := hst.2
    simp only at hl1 hl2
    simp only [xpF, hvp, Bool.false_eq_true, if_false] at hx
    obtain ⟨b2, s2, hR, hb, hs⟩ : ∃ b2 s2, xpL (xpF al f) (al p) 16 0 (vis.set p true, goes.set p true) = some (b2, s2) ∧ b = b2 ∧ (vis', goes') = if b2 = true then s2 else (s2.1, s2.2.set p false) := by
      split at hx
      · cases hx
      · rename_i s2 e2; cases hx; exact ⟨_, _, e2, rfl, rfl⟩
      · rename_i s2 e2; cases hx; exact ⟨_, _, e2, rfl, rfl⟩
    subst hb
    have hvset : (vis.set p true).map Bo = splice (vis.map Bo) (p * 1) [.v (.bool true)] := by rw [splice_set, Nat.mul_one, List.map_set]
    have hgset : (goes.set p true).map Bo = splice (goes.map Bo) (p * 1) [.v (.bool true)] := by rw [splice_set, Nat.mul_one, List.map_set]
    simp (maxSteps := 1000000) only [Int.toNat_natCast, ← hvset, ← hgset, EA, EB, EC, ED, EE, EF, EG, EH, XA, XB, XC, XD, XE, XF, XG, XH, XI, XJ, XK, XL, XM, reduceIte, ↓reduceIte, Nat.reduceAdd, Nat.reduceLeDiff, Nat.reduceEqDiff, Nat.reduceLT, Nat.reduceSub, Nat.reduceBEq, forall_const, reduceCtorEq, implies_true, exists_eq_left', exists_eq_left, if_true, if_false, undef]
    refine ⟨by omega, by omega, by simp; omega, by omega, by omega, by simp; omega, ?_⟩
    refine loopO (Nat × Xs) [18] (fun s => [I (s.1 : Nat)]) (fun s => [(0, some (.box (s.2.1.map Bo))), (1, some (.box (s.2.2.map Bo)))]) (fun s => s.1 ≤ 16 ∧ X16 s.2 ∧ xpL (xpF al f) (al p) (16 - s.1) s.1 s.2 = some (b, s2)) (fun s => 16 - s.1) (by decide)
      (0, (vis.set p true, goes.set p true)) ⟨by simp, ⟨by simp [hl1], by simp [hl2]⟩, hR⟩ ?_ ?_
    · generalize vis.set p true = V
      generalize goes.set p true = G
      simp [Back, BackF, fzT, fzM, fzU, fz, fzL, fzO, kin, SubT, Sub, SubL, SubM, SubO, keepM, srcOk, look, lookM, ev, evs, putT, argT, EA, EB, EC, ED, EE, EF, EG, EH, XA, XB, XC, XD, XE, XF, XG, XH, XI, XJ, XK, XL, XM, reduceIte, ↓reduceIte, Nat.reduceAdd, Nat.reduceLeDiff, Nat.reduceEqDiff, Nat.reduceLT, Nat.reduceSub, Nat.reduceBEq, forall_const, reduceCtorEq, implies_true, exists_eq_left', exists_eq_left, if_true, if_false, undef, SubL_Bo]
    clear hvset hgset hv hg hx
    generalize vis.set p true = V0 at *
    generalize goes.set p true = G0 at *
    rintro ⟨k, V, G⟩ ⟨hk, hX, hrun⟩
    simp only at hk hrun
    by_cases c1 : k < 16
    rotate_left
    · have f1 : decide ((k : Int) < 16) = false := by simp; omega
      have : k = 16 := by omega
      subst this
      simp only [xpL, Nat.sub_self, Option.some.injEq, Prod.mk.injEq] at hrun
      obtain ⟨rfl, rfl⟩ := hrun
      simp only [Bool.false_eq_true, if_false, Prod.mk.injEq] at hs
      obtain ⟨rfl, rfl⟩ := hs
      have hgs : (G.set p false).map Bo = splice (G.map Bo) (p * 1) [.v (.bool false)] := by rw [splice_set, Nat.mul_one, List.map_set]
      simp (maxSteps := 1000000) only [f1, Int.toNat_natCast, ← hgs, EA, EB, EC, ED, EE, EF, EG, EH, XA, XB, XC, XD, XE, XF, XG, XH, XI, XJ, XK, XL, XM, reduceIte, ↓reduceIte, Nat.reduceAdd, Nat.reduceLeDiff, Nat.reduceEqDiff, Nat.reduceLT, Nat.reduceSub, Nat.reduceBEq, forall_const, reduceCtorEq, implies_true, exists_eq_left', exists_eq_left, if_true, if_false, undef]
      have hG : G.length = 16 := hX.2
      refine ⟨by omega, by omega, by simp [hG]; omega, [], ?_⟩
      generalize G.set p false = G1
      simp [frzL_Bo, EA, EB, EC, ED, EE, EF, EG, EH, XA, XB, XC, XD, XE, XF, XG, XH, XI, XJ, XK, XL, XM, reduceIte, ↓reduceIte, Nat.reduceAdd, Nat.reduceLeDiff, Nat.reduceEqDiff, Nat.reduceLT, Nat.reduceSub, Nat.reduceBEq, forall_const, reduceCtorEq, implies_true, exists_eq_left', exists_eq_left, if_true, if_false, undef]
    have f1 : decide ((k : Int) < 16) = true := by simp; omega
    have hw : IntKind.i64.wrap ((k : Int) + 1) = ((k + 1 : Nat) : Int) := by rw [wrap_id] <;> omega
    rw [show 16 - k = (16 - (k + 1)) + 1 by omega] at hrun
    simp only [xpL] at hrun
    simp (maxSteps := 1000000) only [f1, EA, EB, EC, ED, EE, EF, EG, EH, XA, XB, XC, XD, XE, XF, XG, XH, XI, XJ, XK, XL, XM, reduceIte, ↓reduceIte, Nat.reduceAdd, Nat.reduceLeDiff, Nat.reduceEqDiff, Nat.reduceLT, Nat.reduceSub, Nat.reduceBEq, forall_const, reduceCtorEq, implies_true, exists_eq_left', exists_eq_left, if_true, if_false, undef]
    refine callM [some 4] (hal p k hp c1) (by simp [EA, EB, EC, ED, EE, EF, EG, EH, XA, XB, XC, XD, XE, XF, XG, XH, XI, XJ, XK, XL, XM, reduceIte, ↓reduceIte, Nat.reduceAdd, Nat.reduceLeDiff, Nat.reduceEqDiff, Nat.reduceLT, Nat.reduceSub, Nat.reduceBEq, forall_const, reduceCtorEq, implies_true, exists_eq_left', exists_eq_left, if_true, if_false, undef]) (by simp [EA, EB, EC, ED, EE, EF, EG, EH, XA, XB, XC, XD, XE, XF, XG, XH, XI, XJ, XK, XL, XM, reduceIte, ↓reduceIte, Nat.reduceAdd, Nat.reduceLeDiff, Nat.reduceEqDiff, Nat.reduceLT, Nat.reduceSub, Nat.reduceBEq, forall_const, reduceCtorEq, implies_true, exists_eq_left', exists_eq_left, if_true, if_false, undef]) (by simp [EA, EB, EC, ED, EE, EF, EG, EH, XA, XB, XC, XD, XE, XF, XG, XH, XI, XJ, XK, XL, XM, reduceIte, ↓reduceIte, Nat.reduceAdd, Nat.reduceLeDiff, Nat.reduceEqDiff, Nat.reduceLT, Nat.reduceSub, Nat.reduceBEq, forall_const, reduceCtorEq, implies_true, exists_eq_left', exists_eq_left, if_true, if_false, undef]) ?_
    cases hal2 : al p k with
    | false =>
      simp only [hal2, Bool.false_eq_true, if_false] at hrun
      simp (maxSteps := 1000000) only [hw, Bo, EA, EB, EC, ED, EE, EF, EG, EH, XA, XB, XC, XD, XE, XF, XG, XH, XI, XJ, XK, XL, XM, reduceIte, ↓reduceIte, Nat.reduceAdd, Nat.reduceLeDiff, Nat.reduceEqDiff, Nat.reduceLT, Nat.reduceSub, Nat.reduceBEq, forall_const, reduceCtorEq, implies_true, exists_eq_left', exists_eq_left, if_true, if_false, undef]
      exact ⟨(k + 1, V, G), ⟨by simp only; omega, hX, hrun⟩, by simp only; omega, by simp [Back, BackF, fzT, fzM, fzU, fz, fzL, fzO, kin, SubT, Sub, SubL, SubM, SubO, keepM, srcOk, look, lookM, ev, evs, putT, argT, EA, EB, EC, ED, EE, EF, EG, EH, XA, XB, XC, XD, XE, XF, XG, XH, XI, XJ, XK, XL, XM, reduceIte, ↓reduceIte, Nat.reduceAdd, Nat.reduceLeDiff, Nat.reduceEqDiff, Nat.reduceLT, Nat.reduceSub, Nat.reduceBEq, forall_const, reduceCtorEq, implies_true, exists_eq_left', exists_eq_left, if_true, if_false, undef, SubL_Bo]⟩
    | true =>
      simp only [hal2, if_true] at hrun
      simp (maxSteps := 1000000) only [hw, Bo, EA, EB, EC, ED, EE, EF, EG, EH, XA, XB, XC, XD, XE, XF, XG, XH, XI, XJ, XK, XL, XM, reduceIte, ↓reduceIte, Nat.reduceAdd, Nat.reduceLeDiff, Nat.reduceEqDiff, Nat.reduceLT, Nat.reduceSub, Nat.reduceBEq, forall_const, reduceCtorEq, implies_true, exists_eq_left', exists_eq_left, if_true, if_false, undef]
      cases hrec : xpF al f k (V, G) with
      | none => rw [hrec] at hrun; cases hrun
      | some q =>
      obtain ⟨b3, V3, G3⟩ := q
      have hX3 := xpF_len al f k (V, G) b3 (V3, G3) hX hrec
      rw [hrec] at hrun
      have hcall := ih k (V, G) b3 (V3, G3) c1 hX hrec
      simp only [xM, List.map_cons, List.map_nil] at hcall
      refine callM [some 0, some 1, some 2, some 3, some 4] (hcall) (by simp [ frzL_Bo,EA, EB, EC, ED, EE, EF, EG, EH, XA, XB, XC, XD, XE, XF, XG, XH, XI, XJ, XK, XL, XM, reduceIte, ↓reduceIte, Nat.reduceAdd, Nat.reduceLeDiff, Nat.reduceEqDiff, Nat.reduceLT, Nat.reduceSub, Nat.reduceBEq, forall_const, reduceCtorEq, implies_true, exists_eq_left', exists_eq_left, if_true, if_false, undef]) (by simp [EA, EB, EC, ED, EE, EF, EG, EH, XA, XB, XC, XD, XE, XF, XG, XH, XI, XJ, XK, XL, XM, reduceIte, ↓reduceIte, Nat.reduceAdd, Nat.reduceLeDiff, Nat.reduceEqDiff, Nat.reduceLT, Nat.reduceSub, Nat.reduceBEq, forall_const, reduceCtorEq, implies_true, exists_eq_left', exists_eq_left, if_true, if_false, undef]) (by simp [ frzL_Bo,EA, EB, EC, ED, EE, EF, EG, EH, XA, XB, XC, XD, XE, XF, XG, XH, XI, XJ, XK, XL, XM, reduceIte, ↓reduceIte, Nat.reduceAdd, Nat.reduceLeDiff, Nat.reduceEqDiff, Nat.reduceLT, Nat.reduceSub, Nat.reduceBEq, forall_const, reduceCtorEq, implies_true, exists_eq_left', exists_eq_left, if_true, if_false, undef]) ?_
      cases b3 with
      | true =>
        simp only [Option.some.injEq, Prod.mk.injEq] at hrun
        obtain ⟨rfl, rfl⟩ := hrun
        simp only [if_true, Prod.mk.injEq] at hs
        obtain ⟨rfl, rfl⟩ := hs
        simp (maxSteps := 1000000) only [hw, Bo, EA, EB, EC, ED, EE, EF, EG, EH, XA, XB, XC, XD, XE, XF, XG, XH, XI, XJ, XK, XL, XM, reduceIte, ↓reduceIte, Nat.reduceAdd, Nat.reduceLeDiff, Nat.reduceEqDiff, Nat.reduceLT, Nat.reduceSub, Nat.reduceBEq, forall_const, reduceCtorEq, implies_true, exists_eq_left', exists_eq_left, if_true, if_false, undef]
        refine ⟨[], ?_⟩
        simp [frzL_Bo, reGL_Bo, kysL_Bo, notIn, EA, EB, EC, ED, EE, EF, EG, EH, XA, XB, XC, XD, XE, XF, XG, XH, XI, XJ, XK, XL, XM, reduceIte, ↓reduceIte, Nat.reduceAdd, Nat.reduceLeDiff, Nat.reduceEqDiff, Nat.reduceLT, Nat.reduceSub, Nat.reduceBEq, forall_const, reduceCtorEq, implies_true, exists_eq_left', exists_eq_left, if_true, if_false, undef]
      | false =>
        simp only at hrun
        simp (maxSteps := 1000000) only [hw, reGL_Bo, kysL_Bo, Bo, EA, EB, EC, ED, EE, EF, EG, EH, XA, XB, XC, XD, XE, XF, XG, XH, XI, XJ, XK, XL, XM, reduceIte, ↓reduceIte, Nat.reduceAdd, Nat.reduceLeDiff, Nat.reduceEqDiff, Nat.reduceLT, Nat.reduceSub, Nat.reduceBEq, forall_const, reduceCtorEq, implies_true, exists_eq_left', exists_eq_left, if_true, if_false, undef]
        exact ⟨(k + 1, V3, G3), ⟨by simp only; omega, hX3, hrun⟩, by simp only; omega, by simp [Back, BackF, fzT, fzM, fzU, fz, fzL, fzO, kin, SubT, Sub, SubL, SubM, SubO, keepM, srcOk, look, lookM, ev, evs, putT, argT, EA, EB, EC, ED, EE, EF, EG, EH, XA, XB, XC, XD, XE, XF, XG, XH, XI, XJ, XK, XL, XM, reduceIte, ↓reduceIte, Nat.reduceAdd, Nat.reduceLeDiff, Nat.reduceEqDiff, Nat.reduceLT, Nat.reduceSub, Nat.reduceBEq, forall_const, reduceCtorEq, implies_true, exists_eq_left', exists_eq_left, if_true, if_false, undef, SubL_Bo, reGL_Bo, kysL_Bo, notIn]⟩

theorem splice_all : ∀ (xs ys : List AV), xs.length = ys.length → splice xs 0 ys = ys
  | [], ys, h => by
    obtain rfl : ys = [] := List.eq_nil_of_length_eq_zero h.symm
    rfl
  | x :: xs, [], h => by simp at h
  | x :: xs, y :: ys, h => by simp only [splice]; rw [splice_all xs ys (by simpa using h)]
theorem allCell_Bo (l : List Bool) : allCell (l.map Bo) = true := by
  induction l with
  | nil => rfl
  | cons a l ih => simp only [List.map_cons, allCell, ih, Bool.and_true]; rfl
/-- all pairs in turn -/
def xpE (al : Nat → Nat → Bool) : Nat → Nat → Xs → Option Xs
  | 0, _, st => some st
  | j + 1, p, st => match xpF al 17 p st with
    | none => none
    | some (_, st') => xpE al j (p + 1) st'
def xs0 : Xs := (List.replicate 16 false, List.replicate 16 false)

theorem endless_spec (g rule : Nat) (al : Nat → Nat → Bool) (hal : ∀ f t : Nat, f < 16 → t < 16 → CallsM Try.prog g [I f, I t, .ptr 0 0] [.box [I rule]] (Bo (al f t)) [some (.box [I rule])])
    (st' : Xs) (h : xpE al 16 0 xs0 = some st') : CallsM Try.prog 34 [.fn g [.ptr 0 0]] [.box [I rule]] (.agg (st'.2.map Bo)) [some (.box [I rule])] := by
  refine fnM_of comp34 (by simp) (by simp) ?_
  unfold code34
  simp (maxSteps := 1000000) only [EA, EB, EC, ED, EE, EF, EG, EH, XA, XB, XC, XD, XE, XF, XG, XH, XI, XJ, XK, XL, XM, reduceIte, ↓reduceIte, Nat.reduceAdd, Nat.reduceLeDiff, Nat.reduceEqDiff, Nat.reduceLT, Nat.reduceSub, Nat.reduceBEq, forall_const, reduceCtorEq, implies_true, exists_eq_left', exists_eq_left, if_true, if_false, undef]
  refine loopO (Nat × Xs) [8] (fun s => [I (s.1 : Nat)]) (fun s => [(3, some (.box (s.2.1.map Bo))), (4, some (.box (s.2.2.map Bo)))]) (fun s => s.1 ≤ 16 ∧ X16 s.2 ∧ xpE al (16 - s.1) s.1 s.2 = some st') (fun s => 16 - s.1) (by decide)
    (0, xs0) ⟨by simp, ⟨rfl, rfl⟩, h⟩ (by simp [Back, BackF, fzT, fzM, fzU, fz, fzL, fzO, kin, SubT, Sub, SubL, SubM, SubO, keepM, srcOk, look, lookM, ev, evs, putT, argT, EA, EB, EC, ED, EE, EF, EG, EH, XA, XB, XC, XD, XE, XF, XG, XH, XI, XJ, XK, XL, XM, reduceIte, ↓reduceIte, Nat.reduceAdd, Nat.reduceLeDiff, Nat.reduceEqDiff, Nat.reduceLT, Nat.reduceSub, Nat.reduceBEq, forall_const, reduceCtorEq, implies_true, exists_eq_left', exists_eq_left, if_true, if_false, undef, xs0, Bo]) ?_
  rintro ⟨k, V, G⟩ ⟨hk, hX, hrun⟩
  simp only at hk hrun
  have hG : G.length = 16 := hX.2
  by_cases c1 : k < 16
  rotate_left
  · have f1 : decide ((k : Int) < 16) = false := by simp; omega
    have : k = 16 := by omega
    subst this
    simp only [xpE, Nat.sub_self, Option.some.injEq] at hrun
    subst hrun
    have htk : List.take 16 (G.map Bo) = G.map Bo := List.take_of_length_le (by simp [hG])
    simp (maxSteps := 1000000) only [f1, htk, EA, EB, EC, ED, EE, EF, EG, EH, XA, XB, XC, XD, XE, XF, XG, XH, XI, XJ, XK, XL, XM, reduceIte, ↓reduceIte, Nat.reduceAdd, Nat.reduceLeDiff, Nat.reduceEqDiff, Nat.reduceLT, Nat.reduceSub, Nat.reduceBEq, forall_const, reduceCtorEq, implies_true, exists_eq_left', exists_eq_left, if_true, if_false, undef]
    rw [splice_all _ _ (by simp [hG])]
    rw [htk]
    refine ⟨by simp [hG], by simp [hG], allCell_Bo G, by simp [hG], [], ?_⟩
    simp [frzL_Bo, EA, EB, EC, ED, EE, EF, EG, EH, XA, XB, XC, XD, XE, XF, XG, XH, XI, XJ, XK, XL, XM, reduceIte, ↓reduceIte, Nat.reduceAdd, Nat.reduceLeDiff, Nat.reduceEqDiff, Nat.reduceLT, Nat.reduceSub, Nat.reduceBEq, forall_const, reduceCtorEq, implies_true, exists_eq_left', exists_eq_left, if_true, if_false, undef]
  have f1 : decide ((k : Int) < 16) = true := by simp; omega
  have hw : IntKind.i64.wrap ((k : Int) + 1) = ((k + 1 : Nat) : Int) := by rw [wrap_id] <;> omega
  rw [show 16 - k = (16 - (k + 1)) + 1 by omega] at hrun
  simp only [xpE] at hrun
  cases hrec : xpF al 17 k (V, G) with
  | none => rw [hrec] at hrun; cases hrun
  | some q =>
  obtain ⟨b3, V3, G3⟩ := q
  have hX3 := xpF_len al 17 k (V, G) b3 (V3, G3) hX hrec
  rw [hrec] at hrun
  simp only at hrun
  have hcall := explore_spec g rule al hal 17 k (V, G) b3 (V3, G3) c1 hX hrec
  simp only [xM, List.map_cons, List.map_nil] at hcall
  simp (maxSteps := 1000000) only [f1, EA, EB, EC, ED, EE, EF, EG, EH, XA, XB, XC, XD, XE, XF, XG, XH, XI, XJ, XK, XL, XM, reduceIte, ↓reduceIte, Nat.reduceAdd, Nat.reduceLeDiff, Nat.reduceEqDiff, Nat.reduceLT, Nat.reduceSub, Nat.reduceBEq, forall_const, reduceCtorEq, implies_true, exists_eq_left', exists_eq_left, if_true, if_false, undef]
  refine callM [some 3, some 4, some 1, some 5, some 0] (hcall) (by simp [ frzL_Bo,EA, EB, EC, ED, EE, EF, EG, EH, XA, XB, XC, XD, XE, XF, XG, XH, XI, XJ, XK, XL, XM, reduceIte, ↓reduceIte, Nat.reduceAdd, Nat.reduceLeDiff, Nat.reduceEqDiff, Nat.reduceLT, Nat.reduceSub, Nat.reduceBEq, forall_const, reduceCtorEq, implies_true, exists_eq_left', exists_eq_left, if_true, if_false, undef]) (by simp [EA, EB, EC, ED, EE, EF, EG, EH, XA, XB, XC, XD, XE, XF, XG, XH, XI, XJ, XK, XL, XM, reduceIte, ↓reduceIte, Nat.reduceAdd, Nat.reduceLeDiff, Nat.reduceEqDiff, Nat.reduceLT, Nat.reduceSub, Nat.reduceBEq, forall_const, reduceCtorEq, implies_true, exists_eq_left', exists_eq_left, if_true, if_false, undef]) (by simp [ frzL_Bo,EA, EB, EC, ED, EE, EF, EG, EH, XA, XB, XC, XD, XE, XF, XG, XH, XI, XJ, XK, XL, XM, reduceIte, ↓reduceIte, Nat.reduceAdd, Nat.reduceLeDiff, Nat.reduceEqDiff, Nat.reduceLT, Nat.reduceSub, Nat.reduceBEq, forall_const, reduceCtorEq, implies_true, exists_eq_left', exists_eq_left, if_true, if_false, undef]) ?_
  simp (maxSteps := 1000000) only [hw, reGL_Bo, kysL_Bo, Bo, EA, EB, EC, ED, EE, EF, EG, EH, XA, XB, XC, XD, XE, XF, XG, XH, XI, XJ, XK, XL, XM, reduceIte, ↓reduceIte, Nat.reduceAdd, Nat.reduceLeDiff, Nat.reduceEqDiff, Nat.reduceLT, Nat.reduceSub, Nat.reduceBEq, forall_const, reduceCtorEq, implies_true, exists_eq_left', exists_eq_left, if_true, if_false, undef]
  exact ⟨(k + 1, V3, G3), ⟨by simp only; omega, hX3, hrun⟩, by simp only; omega, by simp [Back, BackF, fzT, fzM, fzU, fz, fzL, fzO, kin, SubT, Sub, SubL, SubM, SubO, keepM, srcOk, look, lookM, ev, evs, putT, argT, EA, EB, EC, ED, EE, EF, EG, EH, XA, XB, XC, XD, XE, XF, XG, XH, XI, XJ, XK, XL, XM, reduceIte, ↓reduceIte, Nat.reduceAdd, Nat.reduceLeDiff, Nat.reduceEqDiff, Nat.reduceLT, Nat.reduceSub, Nat.reduceBEq, forall_const, reduceCtorEq, implies_true, exists_eq_left', exists_eq_left, if_true, if_false, undef, SubL_Bo, reGL_Bo, kysL_Bo, notIn]⟩

def mergeP (r l : Xs) (p : Nat) : Bool := (p / 4 != p % 4) && (r.2.getD p false && l.2.getD p false)
def mergeB (r l : Xs) : Bool := (List.range 16).any (mergeP r l)

theorem canMerge_spec (rule : Nat) (hr : rule < 256) (r l : Xs) (h1 : xpE (ledB rule) 16 0 xs0 = some r) (h2 : xpE (fun f t => ledB rule t f) 16 0 xs0 = some l) (hX1 : r.2.length = 16) (hX2 : l.2.length = 16) :
    CallsA Try.prog 30 [I rule] (Bo (mergeB r l)) [] := by
  refine fn_of0 comp30 (by simp) ?_
  unfold code30
  simp (maxSteps := 1000000) only [EA, EB, EC, ED, EE, EF, EG, EH, XA, XB, XC, XD, XE, XF, XG, XH, XI, XJ, XK, XL, XM, reduceIte, ↓reduceIte, Nat.reduceAdd, Nat.reduceLeDiff, Nat.reduceEqDiff, Nat.reduceLT, Nat.reduceSub, Nat.reduceBEq, forall_const, reduceCtorEq, implies_true, exists_eq_left', exists_eq_left, if_true, if_false, undef]
  have e1 := endless_spec 35 rule (ledB rule) (fun f t hf ht => right_spec rule f t hr hf ht) r h1
  have e2 := endless_spec 37 rule (fun f t => ledB rule t f) (fun f t hf ht => left_spec rule f t hr hf ht) l h2
  have q1 : (r.2.map Bo).length = 16 := by simp [hX1]
  have q2 : (l.2.map Bo).length = 16 := by simp [hX2]
  refine callM [some 0] (e1) (by simp [EA, EB, EC, ED, EE, EF, EG, EH, XA, XB, XC, XD, XE, XF, XG, XH, XI, XJ, XK, XL, XM, reduceIte, ↓reduceIte, Nat.reduceAdd, Nat.reduceLeDiff, Nat.reduceEqDiff, Nat.reduceLT, Nat.reduceSub, Nat.reduceBEq, forall_const, reduceCtorEq, implies_true, exists_eq_left', exists_eq_left, if_true, if_false, undef]) (by simp [EA, EB, EC, ED, EE, EF, EG, EH, XA, XB, XC, XD, XE, XF, XG, XH, XI, XJ, XK, XL, XM, reduceIte, ↓reduceIte, Nat.reduceAdd, Nat.reduceLeDiff, Nat.reduceEqDiff, Nat.reduceLT, Nat.reduceSub, Nat.reduceBEq, forall_const, reduceCtorEq, implies_true, exists_eq_left', exists_eq_left, if_true, if_false, undef]) (by simp [EA, EB, EC, ED, EE, EF, EG, EH, XA, XB, XC, XD, XE, XF, XG, XH, XI, XJ, XK, XL, XM, reduceIte, ↓reduceIte, Nat.reduceAdd, Nat.reduceLeDiff, Nat.reduceEqDiff, Nat.reduceLT, Nat.reduceSub, Nat.reduceBEq, forall_const, reduceCtorEq, implies_true, exists_eq_left', exists_eq_left, if_true, if_false, undef]) ?_
  simp (maxSteps := 1000000) only [reGL_Bo, q1, allCell_Bo, EA, EB, EC, ED, EE, EF, EG, EH, XA, XB, XC, XD, XE, XF, XG, XH, XI, XJ, XK, XL, XM, reduceIte, ↓reduceIte, Nat.reduceAdd, Nat.reduceLeDiff, Nat.reduceEqDiff, Nat.reduceLT, Nat.reduceSub, Nat.reduceBEq, forall_const, reduceCtorEq, implies_true, exists_eq_left', exists_eq_left, if_true, if_false, undef]
  rw [splice_all _ _ (by simp [hX1])]
  refine callM [some 0] (e2) (by simp [EA, EB, EC, ED, EE, EF, EG, EH, XA, XB, XC, XD, XE, XF, XG, XH, XI, XJ, XK, XL, XM, reduceIte, ↓reduceIte, Nat.reduceAdd, Nat.reduceLeDiff, Nat.reduceEqDiff, Nat.reduceLT, Nat.reduceSub, Nat.reduceBEq, forall_const, reduceCtorEq, implies_true, exists_eq_left', exists_eq_left, if_true, if_false, undef]) (by simp [EA, EB, EC, ED, EE, EF, EG, EH, XA, XB, XC, XD, XE, XF, XG, XH, XI, XJ, XK, XL, XM, reduceIte, ↓reduceIte, Nat.reduceAdd, Nat.reduceLeDiff, Nat.reduceEqDiff, Nat.reduceLT, Nat.reduceSub, Nat.reduceBEq, forall_const, reduceCtorEq, implies_true, exists_eq_left', exists_eq_left, if_true, if_false, undef]) (by simp [EA, EB, EC, ED, EE, EF, EG, EH, XA, XB, XC, XD, XE, XF, XG, XH, XI, XJ, XK, XL, XM, reduceIte, ↓reduceIte, Nat.reduceAdd, Nat.reduceLeDiff, Nat.reduceEqDiff, Nat.reduceLT, Nat.reduceSub, Nat.reduceBEq, forall_const, reduceCtorEq, implies_true, exists_eq_left', exists_eq_left, if_true, if_false, undef]) ?_
  simp (maxSteps := 1000000) only [reGL_Bo, q2, allCell_Bo, EA, EB, EC, ED, EE, EF, EG, EH, XA, XB, XC, XD, XE, XF, XG, XH, XI, XJ, XK, XL, XM, reduceIte, ↓reduceIte, Nat.reduceAdd, Nat.reduceLeDiff, Nat.reduceEqDiff, Nat.reduceLT, Nat.reduceSub, Nat.reduceBEq, forall_const, reduceCtorEq, implies_true, exists_eq_left', exists_eq_left, if_true, if_false, undef]
  rw [splice_all _ _ (by simp [hX2])]
  refine loop0 Nat [11] (fun k => [I (k : Nat)]) (fun k => k ≤ 16 ∧ ∀ j, j < k → mergeP r l j = false) (fun k => 16 - k) (by decide) 0 ⟨by simp, by simp⟩ (by simp [Back, BackF, fzT, fzM, fzU, fz, fzL, fzO, kin, SubT, Sub, SubL, SubM, SubO, keepM, srcOk, look, lookM, ev, evs, putT, argT, EA, EB, EC, ED, EE, EF, EG, EH, XA, XB, XC, XD, XE, XF, XG, XH, XI, XJ, XK, XL, XM, reduceIte, ↓reduceIte, Nat.reduceAdd, Nat.reduceLeDiff, Nat.reduceEqDiff, Nat.reduceLT, Nat.reduceSub, Nat.reduceBEq, forall_const, reduceCtorEq, implies_true, exists_eq_left', exists_eq_left, if_true, if_false, undef]) (fun k hk => ?_)
  obtain ⟨hk, hbef⟩ := hk
  by_cases c1 : k < 16
  rotate_left
  · have f1 : decide ((k : Int) < 16) = false := by simp; omega
    have hm : mergeB r l = false := by
      rw [mergeB, List.any_eq_false]
      intro j hj
      rw [hbef j (by have := List.mem_range.1 hj; omega)]; simp
    simp (maxSteps := 1000000) only [f1, hm, Bo, EA, EB, EC, ED, EE, EF, EG, EH, XA, XB, XC, XD, XE, XF, XG, XH, XI, XJ, XK, XL, XM, reduceIte, ↓reduceIte, Nat.reduceAdd, Nat.reduceLeDiff, Nat.reduceEqDiff, Nat.reduceLT, Nat.reduceSub, Nat.reduceBEq, forall_const, reduceCtorEq, implies_true, exists_eq_left', exists_eq_left, if_true, if_false, undef]
  have f1 : decide ((k : Int) < 16) = true := by simp; omega
  have hw : IntKind.i64.wrap ((k : Int) + 1) = ((k + 1 : Nat) : Int) := by rw [wrap_id] <;> omega
  have q : ∀ i : Nat, i < 16 → IntKind.i64.wrap (Int.tdiv (i : Int) 4) = ((i / 4 : Nat) : Int) ∧ Int.tmod (i : Int) 4 = ((i % 4 : Nat) : Int) := by decide
  have qn : (((k / 4 : Nat) : Int) != ((k % 4 : Nat) : Int)) = (k / 4 != k % 4) := by rw [Bool.eq_iff_iff]; simp; omega
  have g1 : (r.2.map Bo)[k * 1]? = some (Bo (r.2.getD k false)) := by
    rw [Nat.mul_one, List.getElem?_map, List.getD_eq_getElem?_getD, List.getElem?_eq_getElem (by omega)]; rfl
  have g2 : (l.2.map Bo)[k * 1]? = some (Bo (l.2.getD k false)) := by
    rw [Nat.mul_one, List.getElem?_map, List.getD_eq_getElem?_getD, List.getElem?_eq_getElem (by omega)]; rfl
  have hmp : mergeP r l k = ((k / 4 != k % 4) && (r.2.getD k false && l.2.getD k false)) := rfl
  have hnext : mergeP r l k = false → ∀ j, j < k + 1 → mergeP r l j = false := fun h j hj => by
    by_cases hjk : j = k
    · subst hjk; exact h
    · exact hbef j (by omega)
  simp (maxSteps := 1000000) only [f1, (q k c1).1, (q k c1).2, qn, EA, EB, EC, ED, EE, EF, EG, EH, XA, XB, XC, XD, XE, XF, XG, XH, XI, XJ, XK, XL, XM, reduceIte, ↓reduceIte, Nat.reduceAdd, Nat.reduceLeDiff, Nat.reduceEqDiff, Nat.reduceLT, Nat.reduceSub, Nat.reduceBEq, forall_const, reduceCtorEq, implies_true, exists_eq_left', exists_eq_left, if_true, if_false, undef]
  refine ⟨by decide, by decide, ?_⟩
  cases hd : (k / 4 != k % 4) with
  | false =>
    rw [hd, Bool.false_and] at hmp
    simp (maxSteps := 1000000) only [hw, EA, EB, EC, ED, EE, EF, EG, EH, XA, XB, XC, XD, XE, XF, XG, XH, XI, XJ, XK, XL, XM, reduceIte, ↓reduceIte, Nat.reduceAdd, Nat.reduceLeDiff, Nat.reduceEqDiff, Nat.reduceLT, Nat.reduceSub, Nat.reduceBEq, forall_const, reduceCtorEq, implies_true, exists_eq_left', exists_eq_left, if_true, if_false, undef]
    exact ⟨k + 1, ⟨by omega, hnext hmp⟩, by omega, by simp [Back, BackF, fzT, fzM, fzU, fz, fzL, fzO, kin, SubT, Sub, SubL, SubM, SubO, keepM, srcOk, look, lookM, ev, evs, putT, argT, EA, EB, EC, ED, EE, EF, EG, EH, XA, XB, XC, XD, XE, XF, XG, XH, XI, XJ, XK, XL, XM, reduceIte, ↓reduceIte, Nat.reduceAdd, Nat.reduceLeDiff, Nat.reduceEqDiff, Nat.reduceLT, Nat.reduceSub, Nat.reduceBEq, forall_const, reduceCtorEq, implies_true, exists_eq_left', exists_eq_left, if_true, if_false, undef]⟩
  | true =>
  simp (maxSteps := 1000000) only [Int.toNat_natCast, EA, EB, EC, ED, EE, EF, EG, EH, XA, XB, XC, XD, XE, XF, XG, XH, XI, XJ, XK, XL, XM, reduceIte, ↓reduceIte, Nat.reduceAdd, Nat.reduceLeDiff, Nat.reduceEqDiff, Nat.reduceLT, Nat.reduceSub, Nat.reduceBEq, forall_const, reduceCtorEq, implies_true, exists_eq_left', exists_eq_left, if_true, if_false, undef]
  refine ⟨by omega, by omega, _, g1, ?_⟩
  cases hd1 : r.2.getD k false with
  | false =>
    rw [hd, hd1, Bool.false_and, Bool.and_false] at hmp
    simp (maxSteps := 1000000) only [hw, Bo, EA, EB, EC, ED, EE, EF, EG, EH, XA, XB, XC, XD, XE, XF, XG, XH, XI, XJ, XK, XL, XM, reduceIte, ↓reduceIte, Nat.reduceAdd, Nat.reduceLeDiff, Nat.reduceEqDiff, Nat.reduceLT, Nat.reduceSub, Nat.reduceBEq, forall_const, reduceCtorEq, implies_true, exists_eq_left', exists_eq_left, if_true, if_false, undef]
    exact ⟨k + 1, ⟨by omega, hnext hmp⟩, by omega, by simp [Back, BackF, fzT, fzM, fzU, fz, fzL, fzO, kin, SubT, Sub, SubL, SubM, SubO, keepM, srcOk, look, lookM, ev, evs, putT, argT, EA, EB, EC, ED, EE, EF, EG, EH, XA, XB, XC, XD, XE, XF, XG, XH, XI, XJ, XK, XL, XM, reduceIte, ↓reduceIte, Nat.reduceAdd, Nat.reduceLeDiff, Nat.reduceEqDiff, Nat.reduceLT, Nat.reduceSub, Nat.reduceBEq, forall_const, reduceCtorEq, implies_true, exists_eq_left', exists_eq_left, if_true, if_false, undef]⟩
  | true =>
  simp (maxSteps := 1000000) only [Int.toNat_natCast, Bo, EA, EB, EC, ED, EE, EF, EG, EH, XA, XB, XC, XD, XE, XF, XG, XH, XI, XJ, XK, XL, XM, reduceIte, ↓reduceIte, Nat.reduceAdd, Nat.reduceLeDiff, Nat.reduceEqDiff, Nat.reduceLT, Nat.reduceSub, Nat.reduceBEq, forall_const, reduceCtorEq, implies_true, exists_eq_left', exists_eq_left, if_true, if_false, undef]
  refine ⟨by omega, by omega, _, g2, ?_⟩
  cases hd2 : l.2.getD k false with
  | false =>
    rw [hd, hd1, hd2, Bool.and_false, Bool.and_false] at hmp
    simp (maxSteps := 1000000) only [hw, Bo, EA, EB, EC, ED, EE, EF, EG, EH, XA, XB, XC, XD, XE, XF, XG, XH, XI, XJ, XK, XL, XM, reduceIte, ↓reduceIte, Nat.reduceAdd, Nat.reduceLeDiff, Nat.reduceEqDiff, Nat.reduceLT, Nat.reduceSub, Nat.reduceBEq, forall_const, reduceCtorEq, implies_true, exists_eq_left', exists_eq_left, if_true, if_false, undef]
    exact ⟨k + 1, ⟨by omega, hnext hmp⟩, by omega, by simp [Back, BackF, fzT, fzM, fzU, fz, fzL, fzO, kin, SubT, Sub, SubL, SubM, SubO, keepM, srcOk, look, lookM, ev, evs, putT, argT, EA, EB, EC, ED, EE, EF, EG, EH, XA, XB, XC, XD, XE, XF, XG, XH, XI, XJ, XK, XL, XM, reduceIte, ↓reduceIte, Nat.reduceAdd, Nat.reduceLeDiff, Nat.reduceEqDiff, Nat.reduceLT, Nat.reduceSub, Nat.reduceBEq, forall_const, reduceCtorEq, implies_true, exists_eq_left', exists_eq_left, if_true, if_false, undef]⟩
  | true =>
  rw [hd, hd1, hd2] at hmp
  have hm : mergeB r l = true := by rw [mergeB, List.any_eq_true]; exact ⟨k, List.mem_range.2 c1, hmp⟩
  simp (maxSteps := 1000000) only [hm, Bo, EA, EB, EC, ED, EE, EF, EG, EH, XA, XB, XC, XD, XE, XF, XG, XH, XI, XJ, XK, XL, XM, reduceIte, ↓reduceIte, Nat.reduceAdd, Nat.reduceLeDiff, Nat.reduceEqDiff, Nat.reduceLT, Nat.reduceSub, Nat.reduceBEq, forall_const, reduceCtorEq, implies_true, exists_eq_left', exists_eq_left, if_true, if_false, undef]

end Go.Av
