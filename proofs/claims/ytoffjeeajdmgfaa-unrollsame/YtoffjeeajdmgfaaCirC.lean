/- A circuit of which only the gates that are needed are kept: the program's functions. -/
import Derived.Test.YtoffjeeajdmgfaaCirQ
set_option linter.unusedSimpArgs false
set_option linter.unusedVariables false
set_option maxRecDepth 100000
namespace Go.Av
open Go.Proofs

theorem rs_len {inn : Int} {gs : List Gt} {r : Rst} {V : Nat → Bool} (h : Rs inn gs r V) : r.1.length ≤ gs.length + 1 := h.len
theorem notR_len (gs : List Gt) (a : Int) : (notR gs a).1.length ≤ gs.length + 1 := by
  unfold notR; split <;> (try split) <;> simp [addR] <;> first | omega | exact (addG_len _ _).2
theorem inR_len (gs : List Gt) (a : Int) : (inR gs a).1.length ≤ gs.length + 1 := (addG_len _ _).2

theorem cset_same (gs : List Gt) (p : Int) (h : p ≠ -1 ∧ p ≠ -2) : setS gs p = (gs, p) := by unfold setS; rw [if_pos h]
theorem cset_or (gs : List Gt) : setS gs (-2) = orR (notR (inR gs 0).1 (inR gs 0).2).1 (inR gs 0).2 (notR (inR gs 0).1 (inR gs 0).2).2 := by
  unfold setS; rw [if_neg (by omega)]; simp
theorem cset_and (gs : List Gt) : setS gs (-1) = andR (notR (inR gs 0).1 (inR gs 0).2).1 (inR gs 0).2 (notR (inR gs 0).1 (inR gs 0).2).2 := by
  unfold setS; rw [if_neg (by omega)]; simp
theorem csettle_spec (rest : List Value) (gs : List Gt) (p : Int) (hl : gs.length ≤ 90000) : CallsM Try.prog 38 [.ptr 0 0, I p] (clM rest gs) (I (setS gs p).2) (clR rest (setS gs p).1) := by
  by_cases c1 : p ≠ -1 ∧ p ≠ -2
  · have f1 : (p != -1) = true := by simpa using c1.1
    have f2 : (p != -2) = true := by simpa using c1.2
    rw [cset_same gs p c1]
    refine clM_same rfl rest gs ?_
    refine fnM_of comp38 (by simp) (by simp [clM, clR]) ?_
    unfold code38
    simp (maxSteps := 1000000) only [memOf, f1, f2, encG, clM, clR, clZ, clN, vrest, frzL_vs, kysL_vs, reGL_vs, keysInL_vs, fzL_vs, SubL_vs, nbT, nbF, spl0, List.contains_nil, List.contains_cons, Bool.false_or, Bool.true_or, Bool.or_false, XX, reduceIte, ↓reduceIte, Nat.reduceAdd, Nat.reduceLeDiff, Nat.reduceEqDiff, Nat.reduceLT, Nat.reduceSub, Nat.reduceBEq, forall_const, reduceCtorEq, implies_true, exists_eq_left', exists_eq_left, if_true, if_false, undef]
    exact ⟨[], by simp, by simp [encG, clM, clR, clZ, clN, vrest, frzL_vs, kysL_vs, reGL_vs, keysInL_vs, fzL_vs, SubL_vs, nbT, nbF, spl0, List.contains_nil, List.contains_cons, Bool.false_or, Bool.true_or, Bool.or_false, XX, undef]⟩
  have h1 := cin_spec rest gs 0 (by omega)
  have l1 := inR_len gs 0
  have h2 := cnot_spec rest (inR gs 0).1 (inR gs 0).2 (by omega)
  have l2 := notR_len (inR gs 0).1 (inR gs 0).2
  have h3 := cor_spec rest (notR (inR gs 0).1 (inR gs 0).2).1 (inR gs 0).2 (notR (inR gs 0).1 (inR gs 0).2).2 (by omega)
  have h4 := cand_spec rest (notR (inR gs 0).1 (inR gs 0).2).1 (inR gs 0).2 (notR (inR gs 0).1 (inR gs 0).2).2 (by omega)
  have so := cset_or gs
  have sa := cset_and gs
  generalize notR (inR gs 0).1 (inR gs 0).2 = s at *
  generalize inR gs 0 = r at *
  refine fnM_of comp38 (by simp) (by simp [clM, clR]) ?_
  unfold code38
  by_cases c2 : p = -2
  · subst c2
    rw [so]
    generalize orR s.1 r.2 s.2 = q at *
    have f1 : ((-2 : Int) != -1) = true := rfl
    have f2 : ((-2 : Int) != -2) = false := rfl
    have f3 : ((-2 : Int) == -2) = true := rfl
    simp (maxSteps := 1000000) only [memOf, f1, f2, f3, encG, clM, clR, clZ, clN, vrest, frzL_vs, kysL_vs, reGL_vs, keysInL_vs, fzL_vs, SubL_vs, nbT, nbF, spl0, List.contains_nil, List.contains_cons, Bool.false_or, Bool.true_or, Bool.or_false, XX, reduceIte, ↓reduceIte, Nat.reduceAdd, Nat.reduceLeDiff, Nat.reduceEqDiff, Nat.reduceLT, Nat.reduceSub, Nat.reduceBEq, forall_const, reduceCtorEq, implies_true, exists_eq_left', exists_eq_left, if_true, if_false, undef]
    refine callM [some 0, some 1, some 2] (h1) (by simp [encG, clM, clR, clZ, clN, vrest, frzL_vs, kysL_vs, reGL_vs, keysInL_vs, fzL_vs, SubL_vs, nbT, nbF, spl0, List.contains_nil, List.contains_cons, Bool.false_or, Bool.true_or, Bool.or_false, XX, undef]) (by simp [encG, clM, clR, clZ, clN, vrest, frzL_vs, kysL_vs, reGL_vs, keysInL_vs, fzL_vs, SubL_vs, nbT, nbF, spl0, List.contains_nil, List.contains_cons, Bool.false_or, Bool.true_or, Bool.or_false, XX, undef]) (by simp [encG, clM, clR, clZ, clN, vrest, frzL_vs, kysL_vs, reGL_vs, keysInL_vs, fzL_vs, SubL_vs, nbT, nbF, spl0, List.contains_nil, List.contains_cons, Bool.false_or, Bool.true_or, Bool.or_false, XX, undef]) ?_
    simp (maxSteps := 1000000) only [f3, encG, clM, clR, clZ, clN, vrest, frzL_vs, kysL_vs, reGL_vs, keysInL_vs, fzL_vs, SubL_vs, nbT, nbF, spl0, List.contains_nil, List.contains_cons, Bool.false_or, Bool.true_or, Bool.or_false, XX, reduceIte, ↓reduceIte, Nat.reduceAdd, Nat.reduceLeDiff, Nat.reduceEqDiff, Nat.reduceLT, Nat.reduceSub, Nat.reduceBEq, forall_const, reduceCtorEq, implies_true, exists_eq_left', exists_eq_left, if_true, if_false, undef]
    refine callM [some 0, some 14, some 2] (h2) (by simp [encG, clM, clR, clZ, clN, vrest, frzL_vs, kysL_vs, reGL_vs, keysInL_vs, fzL_vs, SubL_vs, nbT, nbF, spl0, List.contains_nil, List.contains_cons, Bool.false_or, Bool.true_or, Bool.or_false, XX, undef]) (by simp [encG, clM, clR, clZ, clN, vrest, frzL_vs, kysL_vs, reGL_vs, keysInL_vs, fzL_vs, SubL_vs, nbT, nbF, spl0, List.contains_nil, List.contains_cons, Bool.false_or, Bool.true_or, Bool.or_false, XX, undef]) (by simp [encG, clM, clR, clZ, clN, vrest, frzL_vs, kysL_vs, reGL_vs, keysInL_vs, fzL_vs, SubL_vs, nbT, nbF, spl0, List.contains_nil, List.contains_cons, Bool.false_or, Bool.true_or, Bool.or_false, XX, undef]) ?_
    simp (maxSteps := 1000000) only [encG, clM, clR, clZ, clN, vrest, frzL_vs, kysL_vs, reGL_vs, keysInL_vs, fzL_vs, SubL_vs, nbT, nbF, spl0, List.contains_nil, List.contains_cons, Bool.false_or, Bool.true_or, Bool.or_false, XX, reduceIte, ↓reduceIte, Nat.reduceAdd, Nat.reduceLeDiff, Nat.reduceEqDiff, Nat.reduceLT, Nat.reduceSub, Nat.reduceBEq, forall_const, reduceCtorEq, implies_true, exists_eq_left', exists_eq_left, if_true, if_false, undef]
    refine callM [some 0, some 26, some 2] (h3) (by simp [encG, clM, clR, clZ, clN, vrest, frzL_vs, kysL_vs, reGL_vs, keysInL_vs, fzL_vs, SubL_vs, nbT, nbF, spl0, List.contains_nil, List.contains_cons, Bool.false_or, Bool.true_or, Bool.or_false, XX, undef]) (by simp [encG, clM, clR, clZ, clN, vrest, frzL_vs, kysL_vs, reGL_vs, keysInL_vs, fzL_vs, SubL_vs, nbT, nbF, spl0, List.contains_nil, List.contains_cons, Bool.false_or, Bool.true_or, Bool.or_false, XX, undef]) (by simp [encG, clM, clR, clZ, clN, vrest, frzL_vs, kysL_vs, reGL_vs, keysInL_vs, fzL_vs, SubL_vs, nbT, nbF, spl0, List.contains_nil, List.contains_cons, Bool.false_or, Bool.true_or, Bool.or_false, XX, undef]) ?_
    simp (maxSteps := 1000000) only [encG, clM, clR, clZ, clN, vrest, frzL_vs, kysL_vs, reGL_vs, keysInL_vs, fzL_vs, SubL_vs, nbT, nbF, spl0, List.contains_nil, List.contains_cons, Bool.false_or, Bool.true_or, Bool.or_false, XX, reduceIte, ↓reduceIte, Nat.reduceAdd, Nat.reduceLeDiff, Nat.reduceEqDiff, Nat.reduceLT, Nat.reduceSub, Nat.reduceBEq, forall_const, reduceCtorEq, implies_true, exists_eq_left', exists_eq_left, if_true, if_false, undef]
    exact ⟨[31], by simp [encG, clM, clR, clZ, clN, vrest, frzL_vs, kysL_vs, reGL_vs, keysInL_vs, fzL_vs, SubL_vs, nbT, nbF, spl0, List.contains_nil, List.contains_cons, Bool.false_or, Bool.true_or, Bool.or_false, XX, undef], by simp [encG, clM, clR, clZ, clN, vrest, frzL_vs, kysL_vs, reGL_vs, keysInL_vs, fzL_vs, SubL_vs, nbT, nbF, spl0, List.contains_nil, List.contains_cons, Bool.false_or, Bool.true_or, Bool.or_false, XX, undef], by simp [encG, clM, clR, clZ, clN, vrest, frzL_vs, kysL_vs, reGL_vs, keysInL_vs, fzL_vs, SubL_vs, nbT, nbF, spl0, List.contains_nil, List.contains_cons, Bool.false_or, Bool.true_or, Bool.or_false, XX, undef]⟩
  · obtain rfl : p = -1 := by omega
    rw [sa]
    generalize andR s.1 r.2 s.2 = q at *
    have f1 : ((-1 : Int) != -1) = false := rfl
    have f3 : ((-1 : Int) == -2) = false := rfl
    simp (maxSteps := 1000000) only [memOf, f1, f3, encG, clM, clR, clZ, clN, vrest, frzL_vs, kysL_vs, reGL_vs, keysInL_vs, fzL_vs, SubL_vs, nbT, nbF, spl0, List.contains_nil, List.contains_cons, Bool.false_or, Bool.true_or, Bool.or_false, XX, reduceIte, ↓reduceIte, Nat.reduceAdd, Nat.reduceLeDiff, Nat.reduceEqDiff, Nat.reduceLT, Nat.reduceSub, Nat.reduceBEq, forall_const, reduceCtorEq, implies_true, exists_eq_left', exists_eq_left, if_true, if_false, undef]
    refine callM [some 0, some 1, some 2] (h1) (by simp [encG, clM, clR, clZ, clN, vrest, frzL_vs, kysL_vs, reGL_vs, keysInL_vs, fzL_vs, SubL_vs, nbT, nbF, spl0, List.contains_nil, List.contains_cons, Bool.false_or, Bool.true_or, Bool.or_false, XX, undef]) (by simp [encG, clM, clR, clZ, clN, vrest, frzL_vs, kysL_vs, reGL_vs, keysInL_vs, fzL_vs, SubL_vs, nbT, nbF, spl0, List.contains_nil, List.contains_cons, Bool.false_or, Bool.true_or, Bool.or_false, XX, undef]) (by simp [encG, clM, clR, clZ, clN, vrest, frzL_vs, kysL_vs, reGL_vs, keysInL_vs, fzL_vs, SubL_vs, nbT, nbF, spl0, List.contains_nil, List.contains_cons, Bool.false_or, Bool.true_or, Bool.or_false, XX, undef]) ?_
    simp (maxSteps := 1000000) only [f3, encG, clM, clR, clZ, clN, vrest, frzL_vs, kysL_vs, reGL_vs, keysInL_vs, fzL_vs, SubL_vs, nbT, nbF, spl0, List.contains_nil, List.contains_cons, Bool.false_or, Bool.true_or, Bool.or_false, XX, reduceIte, ↓reduceIte, Nat.reduceAdd, Nat.reduceLeDiff, Nat.reduceEqDiff, Nat.reduceLT, Nat.reduceSub, Nat.reduceBEq, forall_const, reduceCtorEq, implies_true, exists_eq_left', exists_eq_left, if_true, if_false, undef]
    refine callM [some 0, some 14, some 2] (h2) (by simp [encG, clM, clR, clZ, clN, vrest, frzL_vs, kysL_vs, reGL_vs, keysInL_vs, fzL_vs, SubL_vs, nbT, nbF, spl0, List.contains_nil, List.contains_cons, Bool.false_or, Bool.true_or, Bool.or_false, XX, undef]) (by simp [encG, clM, clR, clZ, clN, vrest, frzL_vs, kysL_vs, reGL_vs, keysInL_vs, fzL_vs, SubL_vs, nbT, nbF, spl0, List.contains_nil, List.contains_cons, Bool.false_or, Bool.true_or, Bool.or_false, XX, undef]) (by simp [encG, clM, clR, clZ, clN, vrest, frzL_vs, kysL_vs, reGL_vs, keysInL_vs, fzL_vs, SubL_vs, nbT, nbF, spl0, List.contains_nil, List.contains_cons, Bool.false_or, Bool.true_or, Bool.or_false, XX, undef]) ?_
    simp (maxSteps := 1000000) only [encG, clM, clR, clZ, clN, vrest, frzL_vs, kysL_vs, reGL_vs, keysInL_vs, fzL_vs, SubL_vs, nbT, nbF, spl0, List.contains_nil, List.contains_cons, Bool.false_or, Bool.true_or, Bool.or_false, XX, reduceIte, ↓reduceIte, Nat.reduceAdd, Nat.reduceLeDiff, Nat.reduceEqDiff, Nat.reduceLT, Nat.reduceSub, Nat.reduceBEq, forall_const, reduceCtorEq, implies_true, exists_eq_left', exists_eq_left, if_true, if_false, undef]
    refine callM [some 0, some 26, some 2] (h4) (by simp [encG, clM, clR, clZ, clN, vrest, frzL_vs, kysL_vs, reGL_vs, keysInL_vs, fzL_vs, SubL_vs, nbT, nbF, spl0, List.contains_nil, List.contains_cons, Bool.false_or, Bool.true_or, Bool.or_false, XX, undef]) (by simp [encG, clM, clR, clZ, clN, vrest, frzL_vs, kysL_vs, reGL_vs, keysInL_vs, fzL_vs, SubL_vs, nbT, nbF, spl0, List.contains_nil, List.contains_cons, Bool.false_or, Bool.true_or, Bool.or_false, XX, undef]) (by simp [encG, clM, clR, clZ, clN, vrest, frzL_vs, kysL_vs, reGL_vs, keysInL_vs, fzL_vs, SubL_vs, nbT, nbF, spl0, List.contains_nil, List.contains_cons, Bool.false_or, Bool.true_or, Bool.or_false, XX, undef]) ?_
    simp (maxSteps := 1000000) only [encG, clM, clR, clZ, clN, vrest, frzL_vs, kysL_vs, reGL_vs, keysInL_vs, fzL_vs, SubL_vs, nbT, nbF, spl0, List.contains_nil, List.contains_cons, Bool.false_or, Bool.true_or, Bool.or_false, XX, reduceIte, ↓reduceIte, Nat.reduceAdd, Nat.reduceLeDiff, Nat.reduceEqDiff, Nat.reduceLT, Nat.reduceSub, Nat.reduceBEq, forall_const, reduceCtorEq, implies_true, exists_eq_left', exists_eq_left, if_true, if_false, undef]
    exact ⟨[31], by simp [encG, clM, clR, clZ, clN, vrest, frzL_vs, kysL_vs, reGL_vs, keysInL_vs, fzL_vs, SubL_vs, nbT, nbF, spl0, List.contains_nil, List.contains_cons, Bool.false_or, Bool.true_or, Bool.or_false, XX, undef], by simp [encG, clM, clR, clZ, clN, vrest, frzL_vs, kysL_vs, reGL_vs, keysInL_vs, fzL_vs, SubL_vs, nbT, nbF, spl0, List.contains_nil, List.contains_cons, Bool.false_or, Bool.true_or, Bool.or_false, XX, undef], by simp [encG, clM, clR, clZ, clN, vrest, frzL_vs, kysL_vs, reGL_vs, keysInL_vs, fzL_vs, SubL_vs, nbT, nbF, spl0, List.contains_nil, List.contains_cons, Bool.false_or, Bool.true_or, Bool.or_false, XX, undef]⟩

theorem csettle0_spec (rest : List Value) (p : Int) (hp : p = -1 ∨ p = -2) : CallsM Try.prog 38 [.ptr 0 0, I p] (clZ rest) (I (setS [] p).2) (clN rest (setS [] p).1) := by
  have h1 := cin0_spec rest 0
  have e1 : inR [] 0 = ([⟨1, 0, 0⟩], 0) := rfl
  have h2 := cnot_spec rest [⟨1, 0, 0⟩] 0 (by simp)
  have h3 := cor_spec rest (notR [⟨1, 0, 0⟩] 0).1 0 (notR [⟨1, 0, 0⟩] 0).2 (by have := notR_len [⟨1, 0, 0⟩] 0; simp at this ⊢; omega)
  have h4 := cand_spec rest (notR [⟨1, 0, 0⟩] 0).1 0 (notR [⟨1, 0, 0⟩] 0).2 (by have := notR_len [⟨1, 0, 0⟩] 0; simp at this ⊢; omega)
  have so := cset_or []
  have sa := cset_and []
  rw [e1] at so sa
  simp only at so sa
  generalize notR [⟨1, 0, 0⟩] 0 = s at *
  refine fnM_of comp38 (by simp) (by simp [clZ, clN]) ?_
  unfold code38
  rcases hp with rfl | rfl
  rotate_left
  · rw [so]
    generalize orR s.1 0 s.2 = q at *
    have f1 : ((-2 : Int) != -1) = true := rfl
    have f2 : ((-2 : Int) != -2) = false := rfl
    have f3 : ((-2 : Int) == -2) = true := rfl
    simp (maxSteps := 1000000) only [memOf, f1, f2, f3, encG, clM, clR, clZ, clN, vrest, frzL_vs, kysL_vs, reGL_vs, keysInL_vs, fzL_vs, SubL_vs, nbT, nbF, spl0, List.contains_nil, List.contains_cons, Bool.false_or, Bool.true_or, Bool.or_false, XX, reduceIte, ↓reduceIte, Nat.reduceAdd, Nat.reduceLeDiff, Nat.reduceEqDiff, Nat.reduceLT, Nat.reduceSub, Nat.reduceBEq, forall_const, reduceCtorEq, implies_true, exists_eq_left', exists_eq_left, if_true, if_false, undef]
    refine callM [some 0] (h1) (by simp [encG, clM, clR, clZ, clN, vrest, frzL_vs, kysL_vs, reGL_vs, keysInL_vs, fzL_vs, SubL_vs, nbT, nbF, spl0, List.contains_nil, List.contains_cons, Bool.false_or, Bool.true_or, Bool.or_false, XX, undef]) (by simp [encG, clM, clR, clZ, clN, vrest, frzL_vs, kysL_vs, reGL_vs, keysInL_vs, fzL_vs, SubL_vs, nbT, nbF, spl0, List.contains_nil, List.contains_cons, Bool.false_or, Bool.true_or, Bool.or_false, XX, undef]) (by simp [encG, clM, clR, clZ, clN, vrest, frzL_vs, kysL_vs, reGL_vs, keysInL_vs, fzL_vs, SubL_vs, nbT, nbF, spl0, List.contains_nil, List.contains_cons, Bool.false_or, Bool.true_or, Bool.or_false, XX, undef]) ?_
    simp (maxSteps := 1000000) only [f3, Int.ofNat_eq_natCast, Int.natCast_zero, encG, clM, clR, clZ, clN, vrest, frzL_vs, kysL_vs, reGL_vs, keysInL_vs, fzL_vs, SubL_vs, nbT, nbF, spl0, List.contains_nil, List.contains_cons, Bool.false_or, Bool.true_or, Bool.or_false, XX, reduceIte, ↓reduceIte, Nat.reduceAdd, Nat.reduceLeDiff, Nat.reduceEqDiff, Nat.reduceLT, Nat.reduceSub, Nat.reduceBEq, forall_const, reduceCtorEq, implies_true, exists_eq_left', exists_eq_left, if_true, if_false, undef]
    refine callM [some 0, some 10, some 11] (h2) (by simp [encG, clM, clR, clZ, clN, vrest, frzL_vs, kysL_vs, reGL_vs, keysInL_vs, fzL_vs, SubL_vs, nbT, nbF, spl0, List.contains_nil, List.contains_cons, Bool.false_or, Bool.true_or, Bool.or_false, XX, undef]) (by simp [encG, clM, clR, clZ, clN, vrest, frzL_vs, kysL_vs, reGL_vs, keysInL_vs, fzL_vs, SubL_vs, nbT, nbF, spl0, List.contains_nil, List.contains_cons, Bool.false_or, Bool.true_or, Bool.or_false, XX, undef]) (by simp [encG, clM, clR, clZ, clN, vrest, frzL_vs, kysL_vs, reGL_vs, keysInL_vs, fzL_vs, SubL_vs, nbT, nbF, spl0, List.contains_nil, List.contains_cons, Bool.false_or, Bool.true_or, Bool.or_false, XX, undef]) ?_
    simp (maxSteps := 1000000) only [encG, clM, clR, clZ, clN, vrest, frzL_vs, kysL_vs, reGL_vs, keysInL_vs, fzL_vs, SubL_vs, nbT, nbF, spl0, List.contains_nil, List.contains_cons, Bool.false_or, Bool.true_or, Bool.or_false, XX, reduceIte, ↓reduceIte, Nat.reduceAdd, Nat.reduceLeDiff, Nat.reduceEqDiff, Nat.reduceLT, Nat.reduceSub, Nat.reduceBEq, forall_const, reduceCtorEq, implies_true, exists_eq_left', exists_eq_left, if_true, if_false, undef]
    refine callM [some 0, some 23, some 11] (h3) (by simp [encG, clM, clR, clZ, clN, vrest, frzL_vs, kysL_vs, reGL_vs, keysInL_vs, fzL_vs, SubL_vs, nbT, nbF, spl0, List.contains_nil, List.contains_cons, Bool.false_or, Bool.true_or, Bool.or_false, XX, undef]) (by simp [encG, clM, clR, clZ, clN, vrest, frzL_vs, kysL_vs, reGL_vs, keysInL_vs, fzL_vs, SubL_vs, nbT, nbF, spl0, List.contains_nil, List.contains_cons, Bool.false_or, Bool.true_or, Bool.or_false, XX, undef]) (by simp [encG, clM, clR, clZ, clN, vrest, frzL_vs, kysL_vs, reGL_vs, keysInL_vs, fzL_vs, SubL_vs, nbT, nbF, spl0, List.contains_nil, List.contains_cons, Bool.false_or, Bool.true_or, Bool.or_false, XX, undef]) ?_
    simp (maxSteps := 1000000) only [encG, clM, clR, clZ, clN, vrest, frzL_vs, kysL_vs, reGL_vs, keysInL_vs, fzL_vs, SubL_vs, nbT, nbF, spl0, List.contains_nil, List.contains_cons, Bool.false_or, Bool.true_or, Bool.or_false, XX, reduceIte, ↓reduceIte, Nat.reduceAdd, Nat.reduceLeDiff, Nat.reduceEqDiff, Nat.reduceLT, Nat.reduceSub, Nat.reduceBEq, forall_const, reduceCtorEq, implies_true, exists_eq_left', exists_eq_left, if_true, if_false, undef]
    exact ⟨[28, 11], by simp [encG, clM, clR, clZ, clN, vrest, frzL_vs, kysL_vs, reGL_vs, keysInL_vs, fzL_vs, SubL_vs, nbT, nbF, spl0, List.contains_nil, List.contains_cons, Bool.false_or, Bool.true_or, Bool.or_false, XX, undef], by simp [encG, clM, clR, clZ, clN, vrest, frzL_vs, kysL_vs, reGL_vs, keysInL_vs, fzL_vs, SubL_vs, nbT, nbF, spl0, List.contains_nil, List.contains_cons, Bool.false_or, Bool.true_or, Bool.or_false, XX, undef], by simp [encG, clM, clR, clZ, clN, vrest, frzL_vs, kysL_vs, reGL_vs, keysInL_vs, fzL_vs, SubL_vs, nbT, nbF, spl0, List.contains_nil, List.contains_cons, Bool.false_or, Bool.true_or, Bool.or_false, XX, undef]⟩
  · rw [sa]
    generalize andR s.1 0 s.2 = q at *
    have f1 : ((-1 : Int) != -1) = false := rfl
    have f3 : ((-1 : Int) == -2) = false := rfl
    simp (maxSteps := 1000000) only [memOf, f1, f3, encG, clM, clR, clZ, clN, vrest, frzL_vs, kysL_vs, reGL_vs, keysInL_vs, fzL_vs, SubL_vs, nbT, nbF, spl0, List.contains_nil, List.contains_cons, Bool.false_or, Bool.true_or, Bool.or_false, XX, reduceIte, ↓reduceIte, Nat.reduceAdd, Nat.reduceLeDiff, Nat.reduceEqDiff, Nat.reduceLT, Nat.reduceSub, Nat.reduceBEq, forall_const, reduceCtorEq, implies_true, exists_eq_left', exists_eq_left, if_true, if_false, undef]
    refine callM [some 0] (h1) (by simp [encG, clM, clR, clZ, clN, vrest, frzL_vs, kysL_vs, reGL_vs, keysInL_vs, fzL_vs, SubL_vs, nbT, nbF, spl0, List.contains_nil, List.contains_cons, Bool.false_or, Bool.true_or, Bool.or_false, XX, undef]) (by simp [encG, clM, clR, clZ, clN, vrest, frzL_vs, kysL_vs, reGL_vs, keysInL_vs, fzL_vs, SubL_vs, nbT, nbF, spl0, List.contains_nil, List.contains_cons, Bool.false_or, Bool.true_or, Bool.or_false, XX, undef]) (by simp [encG, clM, clR, clZ, clN, vrest, frzL_vs, kysL_vs, reGL_vs, keysInL_vs, fzL_vs, SubL_vs, nbT, nbF, spl0, List.contains_nil, List.contains_cons, Bool.false_or, Bool.true_or, Bool.or_false, XX, undef]) ?_
    simp (maxSteps := 1000000) only [f3, Int.ofNat_eq_natCast, Int.natCast_zero, encG, clM, clR, clZ, clN, vrest, frzL_vs, kysL_vs, reGL_vs, keysInL_vs, fzL_vs, SubL_vs, nbT, nbF, spl0, List.contains_nil, List.contains_cons, Bool.false_or, Bool.true_or, Bool.or_false, XX, reduceIte, ↓reduceIte, Nat.reduceAdd, Nat.reduceLeDiff, Nat.reduceEqDiff, Nat.reduceLT, Nat.reduceSub, Nat.reduceBEq, forall_const, reduceCtorEq, implies_true, exists_eq_left', exists_eq_left, if_true, if_false, undef]
    refine callM [some 0, some 10, some 11] (h2) (by simp [encG, clM, clR, clZ, clN, vrest, frzL_vs, kysL_vs, reGL_vs, keysInL_vs, fzL_vs, SubL_vs, nbT, nbF, spl0, List.contains_nil, List.contains_cons, Bool.false_or, Bool.true_or, Bool.or_false, XX, undef]) (by simp [encG, clM, clR, clZ, clN, vrest, frzL_vs, kysL_vs, reGL_vs, keysInL_vs, fzL_vs, SubL_vs, nbT, nbF, spl0, List.contains_nil, List.contains_cons, Bool.false_or, Bool.true_or, Bool.or_false, XX, undef]) (by simp [encG, clM, clR, clZ, clN, vrest, frzL_vs, kysL_vs, reGL_vs, keysInL_vs, fzL_vs, SubL_vs, nbT, nbF, spl0, List.contains_nil, List.contains_cons, Bool.false_or, Bool.true_or, Bool.or_false, XX, undef]) ?_
    simp (maxSteps := 1000000) only [encG, clM, clR, clZ, clN, vrest, frzL_vs, kysL_vs, reGL_vs, keysInL_vs, fzL_vs, SubL_vs, nbT, nbF, spl0, List.contains_nil, List.contains_cons, Bool.false_or, Bool.true_or, Bool.or_false, XX, reduceIte, ↓reduceIte, Nat.reduceAdd, Nat.reduceLeDiff, Nat.reduceEqDiff, Nat.reduceLT, Nat.reduceSub, Nat.reduceBEq, forall_const, reduceCtorEq, implies_true, exists_eq_left', exists_eq_left, if_true, if_false, undef]
    refine callM [some 0, some 23, some 11] (h4) (by simp [encG, clM, clR, clZ, clN, vrest, frzL_vs, kysL_vs, reGL_vs, keysInL_vs, fzL_vs, SubL_vs, nbT, nbF, spl0, List.contains_nil, List.contains_cons, Bool.false_or, Bool.true_or, Bool.or_false, XX, undef]) (by simp [encG, clM, clR, clZ, clN, vrest, frzL_vs, kysL_vs, reGL_vs, keysInL_vs, fzL_vs, SubL_vs, nbT, nbF, spl0, List.contains_nil, List.contains_cons, Bool.false_or, Bool.true_or, Bool.or_false, XX, undef]) (by simp [encG, clM, clR, clZ, clN, vrest, frzL_vs, kysL_vs, reGL_vs, keysInL_vs, fzL_vs, SubL_vs, nbT, nbF, spl0, List.contains_nil, List.contains_cons, Bool.false_or, Bool.true_or, Bool.or_false, XX, undef]) ?_
    simp (maxSteps := 1000000) only [encG, clM, clR, clZ, clN, vrest, frzL_vs, kysL_vs, reGL_vs, keysInL_vs, fzL_vs, SubL_vs, nbT, nbF, spl0, List.contains_nil, List.contains_cons, Bool.false_or, Bool.true_or, Bool.or_false, XX, reduceIte, ↓reduceIte, Nat.reduceAdd, Nat.reduceLeDiff, Nat.reduceEqDiff, Nat.reduceLT, Nat.reduceSub, Nat.reduceBEq, forall_const, reduceCtorEq, implies_true, exists_eq_left', exists_eq_left, if_true, if_false, undef]
    exact ⟨[28, 11], by simp [encG, clM, clR, clZ, clN, vrest, frzL_vs, kysL_vs, reGL_vs, keysInL_vs, fzL_vs, SubL_vs, nbT, nbF, spl0, List.contains_nil, List.contains_cons, Bool.false_or, Bool.true_or, Bool.or_false, XX, undef], by simp [encG, clM, clR, clZ, clN, vrest, frzL_vs, kysL_vs, reGL_vs, keysInL_vs, fzL_vs, SubL_vs, nbT, nbF, spl0, List.contains_nil, List.contains_cons, Bool.false_or, Bool.true_or, Bool.or_false, XX, undef], by simp [encG, clM, clR, clZ, clN, vrest, frzL_vs, kysL_vs, reGL_vs, keysInL_vs, fzL_vs, SubL_vs, nbT, nbF, spl0, List.contains_nil, List.contains_cons, Bool.false_or, Bool.true_or, Bool.or_false, XX, undef]⟩

theorem cneeded_spec (rest : List Value) (gs : List Gt) (inn : Int) (last : Nat) (hok : GsOk inn gs) (hll : last < gs.length) (hl : gs.length ≤ 100000) :
    CallsM Try.prog 39 [.ptr 0 0, IN last] (clM rest gs) (.arr 3 0 (last + 1)) [some (.box (.arr 1 0 gs.length :: .mp 2 :: vrest rest)), some (.arr 3 (gs.map encG)), some (.map (knE 0 gs)), some (.arr 1 ((ndL gs last (last + 1)).map Bo))] := by
  have w1 : IntKind.i64.wrap ((last : Int) + 1) = ((last + 1 : Nat) : Int) := by rw [wrap_id] <;> omega
  have hgl : (gs.map encG).length = gs.length := by simp
  have h0 : ((ndL gs last 0).map Bo) = (List.replicate (last + 1) (Bo false)).set last (Bo true) := by simp [ndL, List.map_set]
  refine fnM_of comp39 (by simp) (by simp [clM]) ?_
  unfold code39
  simp (maxSteps := 1000000) only [memOf, w1, Bo, encG, clM, clR, clZ, clN, vrest, frzL_vs, kysL_vs, reGL_vs, keysInL_vs, fzL_vs, SubL_vs, nbT, nbF, spl0, List.contains_nil, List.contains_cons, Bool.false_or, Bool.true_or, Bool.or_false, XX, reduceIte, ↓reduceIte, Nat.reduceAdd, Nat.reduceLeDiff, Nat.reduceEqDiff, Nat.reduceLT, Nat.reduceSub, Nat.reduceBEq, forall_const, reduceCtorEq, implies_true, exists_eq_left', exists_eq_left, if_true, if_false, undef]
  refine ⟨by omega, by omega, by omega, ?_⟩
  simp (maxSteps := 1000000) only [w1, Bo, Int.toNat_natCast, List.length_replicate, encG, clM, clR, clZ, clN, vrest, frzL_vs, kysL_vs, reGL_vs, keysInL_vs, fzL_vs, SubL_vs, nbT, nbF, spl0, List.contains_nil, List.contains_cons, Bool.false_or, Bool.true_or, Bool.or_false, XX, reduceIte, ↓reduceIte, Nat.reduceAdd, Nat.reduceLeDiff, Nat.reduceEqDiff, Nat.reduceLT, Nat.reduceSub, Nat.reduceBEq, forall_const, reduceCtorEq, implies_true, exists_eq_left', exists_eq_left, if_true, if_false, undef]
  refine ⟨by omega, by omega, by omega, ?_⟩
  refine loopO Nat [6] (fun k => [I ((last : Int) - k)]) (fun k => [(6, some (.arr 1 ((ndL gs last k).map Bo)))]) (fun k => k ≤ last + 1) (fun k => last + 1 - k) (by decide) 0 (by omega) (by simp [Back, BackF, fzT, fzM, fzU, fz, fzL, fzO, kin, SubT, Sub, SubL, SubM, SubO, keepM, srcOk, look, lookM, ev, evs, putT, argT, encG, clM, clR, clZ, clN, vrest, frzL_vs, kysL_vs, reGL_vs, keysInL_vs, fzL_vs, SubL_vs, nbT, nbF, spl0, List.contains_nil, List.contains_cons, Bool.false_or, Bool.true_or, Bool.or_false, XX, undef, h0]) ?_
  intro k hk
  have hLl := ndL_length gs last k
  by_cases c1 : k ≤ last
  · obtain ⟨i, hi⟩ : ∃ i, i = last - k := ⟨_, rfl⟩
    have hc : (last : Int) - (k : Int) = (i : Int) := by omega
    have g1 : decide ((i : Int) ≥ 0) = true := by simp
    have w2 : IntKind.i64.wrap ((i : Int) - 1) = (last : Int) - ((k + 1 : Nat) : Int) := by rw [wrap_id] <;> omega
    have hst : ndL gs last (k + 1) = ndS gs i (ndL gs last k) := by rw [hi]; rfl
    have hg := gtOk_at hok (show i < gs.length by omega)
    have hgi : (gs.map encG)[((i : Nat) : Int).toNat]? = some (encG (gAt gs i)) := by rw [Int.toNat_natCast, List.getElem?_map, gAt, List.getElem?_eq_getElem (by omega)]; rfl
    generalize ndL gs last k = L at *
    have hbi : (L.map Bo)[((i : Nat) : Int).toNat]? = some (Bo (L.getD i false)) := by rw [Int.toNat_natCast, List.getElem?_map, List.getD_eq_getElem?_getD, List.getElem?_eq_getElem (by omega)]; rfl
    simp (maxSteps := 1000000) only [hc, g1, encG, clM, clR, clZ, clN, vrest, frzL_vs, kysL_vs, reGL_vs, keysInL_vs, fzL_vs, SubL_vs, nbT, nbF, spl0, List.contains_nil, List.contains_cons, Bool.false_or, Bool.true_or, Bool.or_false, XX, reduceIte, ↓reduceIte, Nat.reduceAdd, Nat.reduceLeDiff, Nat.reduceEqDiff, Nat.reduceLT, Nat.reduceSub, Nat.reduceBEq, forall_const, reduceCtorEq, implies_true, exists_eq_left', exists_eq_left, if_true, if_false, undef]
    refine ⟨by omega, by omega, Pick.mk _ hbi ?_⟩
    rw [ndS] at hst
    generalize L.getD i false = b at *
    cases b with
    | false =>
      simp only [Bool.false_eq_true, if_false] at hst
      simp (maxSteps := 1000000) only [Bo, hc, w2, Bool.not_false, encG, clM, clR, clZ, clN, vrest, frzL_vs, kysL_vs, reGL_vs, keysInL_vs, fzL_vs, SubL_vs, nbT, nbF, spl0, List.contains_nil, List.contains_cons, Bool.false_or, Bool.true_or, Bool.or_false, XX, reduceIte, ↓reduceIte, Nat.reduceAdd, Nat.reduceLeDiff, Nat.reduceEqDiff, Nat.reduceLT, Nat.reduceSub, Nat.reduceBEq, forall_const, reduceCtorEq, implies_true, exists_eq_left', exists_eq_left, if_true, if_false, undef]
      exact ⟨k + 1, by omega, by omega, by simp [Back, BackF, fzT, fzM, fzU, fz, fzL, fzO, kin, SubT, Sub, SubL, SubM, SubO, keepM, srcOk, look, lookM, ev, evs, putT, argT, encG, clM, clR, clZ, clN, vrest, frzL_vs, kysL_vs, reGL_vs, keysInL_vs, fzL_vs, SubL_vs, nbT, nbF, spl0, List.contains_nil, List.contains_cons, Bool.false_or, Bool.true_or, Bool.or_false, XX, undef, hst]⟩
    | true =>
      simp only [if_true] at hst
      simp (maxSteps := 1000000) only [Bo, hc, Bool.not_true, hgl, encG, clM, clR, clZ, clN, vrest, frzL_vs, kysL_vs, reGL_vs, keysInL_vs, fzL_vs, SubL_vs, nbT, nbF, spl0, List.contains_nil, List.contains_cons, Bool.false_or, Bool.true_or, Bool.or_false, XX, reduceIte, ↓reduceIte, Nat.reduceAdd, Nat.reduceLeDiff, Nat.reduceEqDiff, Nat.reduceLT, Nat.reduceSub, Nat.reduceBEq, forall_const, reduceCtorEq, implies_true, exists_eq_left', exists_eq_left, if_true, if_false, undef]
      refine ⟨by omega, by omega, Pick.mk _ (by rw [Nat.zero_add]; exact hgi) ?_⟩
      generalize gAt gs i = g at *
      obtain ⟨kd, a, b⟩ := g
      have hk4 := hg.kind
      have hfa := hg.first
      have hfb := hg.second
      simp only at hst hk4 hfa hfb
      simp (maxSteps := 1000000) only [hc, encG, clM, clR, clZ, clN, vrest, frzL_vs, kysL_vs, reGL_vs, keysInL_vs, fzL_vs, SubL_vs, nbT, nbF, spl0, List.contains_nil, List.contains_cons, Bool.false_or, Bool.true_or, Bool.or_false, XX, reduceIte, ↓reduceIte, Nat.reduceAdd, Nat.reduceLeDiff, Nat.reduceEqDiff, Nat.reduceLT, Nat.reduceSub, Nat.reduceBEq, forall_const, reduceCtorEq, implies_true, exists_eq_left', exists_eq_left, if_true, if_false, undef]
      by_cases k2 : kd = 2
      · have f2 : (kd == 2) = true := by simpa using k2
        have ha := hfa (by omega)
        rw [if_pos k2] at hst
        simp (maxSteps := 1000000) only [f2, hc, w2, encG, clM, clR, clZ, clN, vrest, frzL_vs, kysL_vs, reGL_vs, keysInL_vs, fzL_vs, SubL_vs, nbT, nbF, spl0, List.contains_nil, List.contains_cons, Bool.false_or, Bool.true_or, Bool.or_false, XX, reduceIte, ↓reduceIte, Nat.reduceAdd, Nat.reduceLeDiff, Nat.reduceEqDiff, Nat.reduceLT, Nat.reduceSub, Nat.reduceBEq, forall_const, reduceCtorEq, implies_true, exists_eq_left', exists_eq_left, if_true, if_false, undef]
        refine ⟨by omega, by omega, by simp; omega, k + 1, by omega, by omega, by simp [Back, BackF, fzT, fzM, fzU, fz, fzL, fzO, kin, SubT, Sub, SubL, SubM, SubO, keepM, srcOk, look, lookM, ev, evs, putT, argT, encG, clM, clR, clZ, clN, vrest, frzL_vs, kysL_vs, reGL_vs, keysInL_vs, fzL_vs, SubL_vs, nbT, nbF, spl0, List.contains_nil, List.contains_cons, Bool.false_or, Bool.true_or, Bool.or_false, XX, undef, hst, List.map_set, Bo]⟩
      have f2 : (kd == 2) = false := by simpa using k2
      rw [if_neg k2] at hst
      by_cases k1 : kd = 1
      · have f3 : (kd == 3) = false := by simp; omega
        have f4 : (kd == 4) = false := by simp; omega
        rw [if_neg (by omega)] at hst
        simp (maxSteps := 1000000) only [f2, f3, f4, hc, w2, encG, clM, clR, clZ, clN, vrest, frzL_vs, kysL_vs, reGL_vs, keysInL_vs, fzL_vs, SubL_vs, nbT, nbF, spl0, List.contains_nil, List.contains_cons, Bool.false_or, Bool.true_or, Bool.or_false, XX, reduceIte, ↓reduceIte, Nat.reduceAdd, Nat.reduceLeDiff, Nat.reduceEqDiff, Nat.reduceLT, Nat.reduceSub, Nat.reduceBEq, forall_const, reduceCtorEq, implies_true, exists_eq_left', exists_eq_left, if_true, if_false, undef]
        exact ⟨k + 1, by omega, by omega, by simp [Back, BackF, fzT, fzM, fzU, fz, fzL, fzO, kin, SubT, Sub, SubL, SubM, SubO, keepM, srcOk, look, lookM, ev, evs, putT, argT, encG, clM, clR, clZ, clN, vrest, frzL_vs, kysL_vs, reGL_vs, keysInL_vs, fzL_vs, SubL_vs, nbT, nbF, spl0, List.contains_nil, List.contains_cons, Bool.false_or, Bool.true_or, Bool.or_false, XX, undef, hst]⟩
      have ha := hfa (by omega)
      have hb := hfb (by omega)
      rw [if_pos (by omega)] at hst
      by_cases k3 : kd = 3
      · have f3 : (kd == 3) = true := by simpa using k3
        simp (maxSteps := 1000000) only [f2, f3, hc, w2, encG, clM, clR, clZ, clN, vrest, frzL_vs, kysL_vs, reGL_vs, keysInL_vs, fzL_vs, SubL_vs, nbT, nbF, spl0, List.contains_nil, List.contains_cons, Bool.false_or, Bool.true_or, Bool.or_false, XX, reduceIte, ↓reduceIte, Nat.reduceAdd, Nat.reduceLeDiff, Nat.reduceEqDiff, Nat.reduceLT, Nat.reduceSub, Nat.reduceBEq, forall_const, reduceCtorEq, implies_true, exists_eq_left', exists_eq_left, if_true, if_false, undef]
        refine ⟨by omega, by omega, by simp; omega, by omega, by omega, by simp; omega, ?_⟩
        refine ⟨k + 1, by omega, by omega, by simp [Back, BackF, fzT, fzM, fzU, fz, fzL, fzO, kin, SubT, Sub, SubL, SubM, SubO, keepM, srcOk, look, lookM, ev, evs, putT, argT, encG, clM, clR, clZ, clN, vrest, frzL_vs, kysL_vs, reGL_vs, keysInL_vs, fzL_vs, SubL_vs, nbT, nbF, spl0, List.contains_nil, List.contains_cons, Bool.false_or, Bool.true_or, Bool.or_false, XX, undef, hst, List.map_set, Bo]⟩
      · have f3 : (kd == 3) = false := by simpa using k3
        have f4 : (kd == 4) = true := by simp; omega
        simp (maxSteps := 1000000) only [f2, f3, f4, hc, w2, encG, clM, clR, clZ, clN, vrest, frzL_vs, kysL_vs, reGL_vs, keysInL_vs, fzL_vs, SubL_vs, nbT, nbF, spl0, List.contains_nil, List.contains_cons, Bool.false_or, Bool.true_or, Bool.or_false, XX, reduceIte, ↓reduceIte, Nat.reduceAdd, Nat.reduceLeDiff, Nat.reduceEqDiff, Nat.reduceLT, Nat.reduceSub, Nat.reduceBEq, forall_const, reduceCtorEq, implies_true, exists_eq_left', exists_eq_left, if_true, if_false, undef]
        refine ⟨by omega, by omega, by simp; omega, by omega, by omega, by simp; omega, ?_⟩
        refine ⟨k + 1, by omega, by omega, by simp [Back, BackF, fzT, fzM, fzU, fz, fzL, fzO, kin, SubT, Sub, SubL, SubM, SubO, keepM, srcOk, look, lookM, ev, evs, putT, argT, encG, clM, clR, clZ, clN, vrest, frzL_vs, kysL_vs, reGL_vs, keysInL_vs, fzL_vs, SubL_vs, nbT, nbF, spl0, List.contains_nil, List.contains_cons, Bool.false_or, Bool.true_or, Bool.or_false, XX, undef, hst, List.map_set, Bo]⟩
  · obtain rfl : k = last + 1 := by omega
    have g1 : decide ((last : Int) - ((last + 1 : Nat) : Int) ≥ 0) = false := by simp; omega
    simp (maxSteps := 1000000) only [g1, encG, clM, clR, clZ, clN, vrest, frzL_vs, kysL_vs, reGL_vs, keysInL_vs, fzL_vs, SubL_vs, nbT, nbF, spl0, List.contains_nil, List.contains_cons, Bool.false_or, Bool.true_or, Bool.or_false, XX, reduceIte, ↓reduceIte, Nat.reduceAdd, Nat.reduceLeDiff, Nat.reduceEqDiff, Nat.reduceLT, Nat.reduceSub, Nat.reduceBEq, forall_const, reduceCtorEq, implies_true, exists_eq_left', exists_eq_left, if_true, if_false, undef]
    exact ⟨[6], by simp [encG, clM, clR, clZ, clN, vrest, frzL_vs, kysL_vs, reGL_vs, keysInL_vs, fzL_vs, SubL_vs, nbT, nbF, spl0, List.contains_nil, List.contains_cons, Bool.false_or, Bool.true_or, Bool.or_false, XX, undef], by simp [encG, clM, clR, clZ, clN, vrest, frzL_vs, kysL_vs, reGL_vs, keysInL_vs, fzL_vs, SubL_vs, nbT, nbF, spl0, List.contains_nil, List.contains_cons, Bool.false_or, Bool.true_or, Bool.or_false, XX, undef], by simp [encG, clM, clR, clZ, clN, vrest, frzL_vs, kysL_vs, reGL_vs, keysInL_vs, fzL_vs, SubL_vs, nbT, nbF, spl0, List.contains_nil, List.contains_cons, Bool.false_or, Bool.true_or, Bool.or_false, XX, undef]⟩

theorem ccircuit_spec (rest : List Value) (gs : List Gt) (inn : Int) (p : Int) (h1 : 1 ≤ inn) (hok : GsOk inn gs) (hp : Part gs p) (hl : gs.length ≤ 80000) :
    CallsM Try.prog 24 [.ptr 0 0, I p] (clM rest gs) (.ro 3 ((prune (setS gs p).1 (setS gs p).2.toNat).map encG)) (clR rest (setS gs p).1) := by
  obtain ⟨q1, _, q3, q4, q5, _⟩ := set_ok (p := p) hok h1 hp
  have hs := csettle_spec rest gs p (by omega)
  have hl3 : (setS gs p).1.length ≤ 90000 := by omega
  generalize setS gs p = r at *
  obtain ⟨g2, pp⟩ := r
  obtain ⟨last, rfl⟩ : ∃ last : Nat, pp = last := ⟨pp.toNat, by simp only at q4; omega⟩
  simp only at q1 q3 q4 q5 hs hl3 ⊢
  have hlast : last < g2.length := by omega
  have hn := cneeded_spec rest g2 inn last q1 hlast (by omega)
  have N := ndL_ok q1 hlast (last + 1) (Nat.le_refl _)
  have P := fun k (hk : k ≤ last + 1) => prS_ok (n := last + 1) q1 (show last + 1 ≤ g2.length by omega) (fun i hi => N.done i (by omega) (by omega)) k hk
  have hpr : prune g2 last = (prS g2 (ndL g2 last (last + 1)) (last + 1) (last + 1)).2 := rfl
  rw [Int.toNat_natCast, hpr]
  have hLl := ndL_length g2 last (last + 1)
  generalize ndL g2 last (last + 1) = L at *
  have w1 : IntKind.i64.wrap ((last : Int) + 1) = ((last + 1 : Nat) : Int) := by rw [wrap_id] <;> omega
  have hgl : (g2.map encG).length = g2.length := by simp
  refine fnM_of comp24 (by simp) (by simp [clM, clR]) ?_
  unfold code24
  simp (maxSteps := 1000000) only [memOf, encG, clM, clR, clZ, clN, vrest, frzL_vs, kysL_vs, reGL_vs, keysInL_vs, fzL_vs, SubL_vs, nbT, nbF, spl0, List.contains_nil, List.contains_cons, Bool.false_or, Bool.true_or, Bool.or_false, XX, reduceIte, ↓reduceIte, Nat.reduceAdd, Nat.reduceLeDiff, Nat.reduceEqDiff, Nat.reduceLT, Nat.reduceSub, Nat.reduceBEq, forall_const, reduceCtorEq, implies_true, exists_eq_left', exists_eq_left, if_true, if_false, undef]
  refine callM [some 0, some 1, some 2] (hs) (by simp [encG, clM, clR, clZ, clN, vrest, frzL_vs, kysL_vs, reGL_vs, keysInL_vs, fzL_vs, SubL_vs, nbT, nbF, spl0, List.contains_nil, List.contains_cons, Bool.false_or, Bool.true_or, Bool.or_false, XX, undef]) (by simp [encG, clM, clR, clZ, clN, vrest, frzL_vs, kysL_vs, reGL_vs, keysInL_vs, fzL_vs, SubL_vs, nbT, nbF, spl0, List.contains_nil, List.contains_cons, Bool.false_or, Bool.true_or, Bool.or_false, XX, undef]) (by simp [encG, clM, clR, clZ, clN, vrest, frzL_vs, kysL_vs, reGL_vs, keysInL_vs, fzL_vs, SubL_vs, nbT, nbF, spl0, List.contains_nil, List.contains_cons, Bool.false_or, Bool.true_or, Bool.or_false, XX, undef]) ?_
  simp (maxSteps := 1000000) only [encG, clM, clR, clZ, clN, vrest, frzL_vs, kysL_vs, reGL_vs, keysInL_vs, fzL_vs, SubL_vs, nbT, nbF, spl0, List.contains_nil, List.contains_cons, Bool.false_or, Bool.true_or, Bool.or_false, XX, reduceIte, ↓reduceIte, Nat.reduceAdd, Nat.reduceLeDiff, Nat.reduceEqDiff, Nat.reduceLT, Nat.reduceSub, Nat.reduceBEq, forall_const, reduceCtorEq, implies_true, exists_eq_left', exists_eq_left, if_true, if_false, undef]
  refine callM [some 0, some 9, some 2] (hn) (by simp [encG, clM, clR, clZ, clN, vrest, frzL_vs, kysL_vs, reGL_vs, keysInL_vs, fzL_vs, SubL_vs, nbT, nbF, spl0, List.contains_nil, List.contains_cons, Bool.false_or, Bool.true_or, Bool.or_false, XX, undef]) (by simp [encG, clM, clR, clZ, clN, vrest, frzL_vs, kysL_vs, reGL_vs, keysInL_vs, fzL_vs, SubL_vs, nbT, nbF, spl0, List.contains_nil, List.contains_cons, Bool.false_or, Bool.true_or, Bool.or_false, XX, undef]) (by simp [encG, clM, clR, clZ, clN, vrest, frzL_vs, kysL_vs, reGL_vs, keysInL_vs, fzL_vs, SubL_vs, nbT, nbF, spl0, List.contains_nil, List.contains_cons, Bool.false_or, Bool.true_or, Bool.or_false, XX, undef]) ?_
  simp (maxSteps := 1000000) only [w1, encG, clM, clR, clZ, clN, vrest, frzL_vs, kysL_vs, reGL_vs, keysInL_vs, fzL_vs, SubL_vs, nbT, nbF, spl0, List.contains_nil, List.contains_cons, Bool.false_or, Bool.true_or, Bool.or_false, XX, reduceIte, ↓reduceIte, Nat.reduceAdd, Nat.reduceLeDiff, Nat.reduceEqDiff, Nat.reduceLT, Nat.reduceSub, Nat.reduceBEq, forall_const, reduceCtorEq, implies_true, exists_eq_left', exists_eq_left, if_true, if_false, undef]
  refine ⟨by omega, by omega, by omega, ?_⟩
  simp (maxSteps := 1000000) only [w1, Int.toNat_natCast, encG, clM, clR, clZ, clN, vrest, frzL_vs, kysL_vs, reGL_vs, keysInL_vs, fzL_vs, SubL_vs, nbT, nbF, spl0, List.contains_nil, List.contains_cons, Bool.false_or, Bool.true_or, Bool.or_false, XX, reduceIte, ↓reduceIte, Nat.reduceAdd, Nat.reduceLeDiff, Nat.reduceEqDiff, Nat.reduceLT, Nat.reduceSub, Nat.reduceBEq, forall_const, reduceCtorEq, implies_true, exists_eq_left', exists_eq_left, if_true, if_false, undef]
  refine ⟨by omega, by omega, by omega, ?_⟩
  simp (maxSteps := 1000000) only [w1, Int.toNat_natCast, Int.toNat_zero, Nat.sub_zero, encG, clM, clR, clZ, clN, vrest, frzL_vs, kysL_vs, reGL_vs, keysInL_vs, fzL_vs, SubL_vs, nbT, nbF, spl0, List.contains_nil, List.contains_cons, Bool.false_or, Bool.true_or, Bool.or_false, XX, reduceIte, ↓reduceIte, Nat.reduceAdd, Nat.reduceLeDiff, Nat.reduceEqDiff, Nat.reduceLT, Nat.reduceSub, Nat.reduceBEq, forall_const, reduceCtorEq, implies_true, exists_eq_left', exists_eq_left, if_true, if_false, undef]
  refine loopR Nat [28, 8] (fun k => [IN k, .arr 34 0 (prS g2 L (last + 1) k).2.length]) (fun k => [(34, some (.arr 3 ((prS g2 L (last + 1) k).2.map encG))), (22, some (.arr 1 ((prS g2 L (last + 1) k).1.map I)))]) 1 (fun k => k ≤ last + 1) (fun k => last + 1 - k) (by decide) 0 [none] rfl (by omega) (by simp [Back, BackF, fzT, fzM, fzU, fz, fzL, fzO, kin, SubT, Sub, SubL, SubM, SubO, keepM, srcOk, look, lookM, ev, evs, putT, argT, encG, clM, clR, clZ, clN, vrest, frzL_vs, kysL_vs, reGL_vs, keysInL_vs, fzL_vs, SubL_vs, nbT, nbF, spl0, List.contains_nil, List.contains_cons, Bool.false_or, Bool.true_or, Bool.or_false, XX, undef, prS]) ?_
  intro k hk
  have J := P k hk
  have hnx : prS g2 L (last + 1) (k + 1) = if L.getD k false then ((prS g2 L (last + 1) k).1.set k ((prS g2 L (last + 1) k).2.length : Int), (prS g2 L (last + 1) k).2 ++ [reGt ((prS g2 L (last + 1) k).1.set k ((prS g2 L (last + 1) k).2.length : Int)) (gAt g2 k)]) else prS g2 L (last + 1) k := rfl
  have hz : (((last + 1 : Nat) : Int).toNat - ((0 : Nat) : Int).toNat) = last + 1 := by simp
  by_cases c1 : k < last + 1
  rotate_left
  · have f1 : decide ((k : Int) < ((last + 1 : Nat) : Int)) = false := by simp; omega
    obtain rfl : k = last + 1 := by omega
    have htk : ∀ l : List Gt, (l.map encG).take l.length = l.map encG := fun l => List.take_of_length_le (by simp)
    simp (maxSteps := 1000000) only [hz, f1, encG, clM, clR, clZ, clN, vrest, frzL_vs, kysL_vs, reGL_vs, keysInL_vs, fzL_vs, SubL_vs, nbT, nbF, spl0, List.contains_nil, List.contains_cons, Bool.false_or, Bool.true_or, Bool.or_false, XX, reduceIte, ↓reduceIte, Nat.reduceAdd, Nat.reduceLeDiff, Nat.reduceEqDiff, Nat.reduceLT, Nat.reduceSub, Nat.reduceBEq, forall_const, reduceCtorEq, implies_true, exists_eq_left', exists_eq_left, if_true, if_false, undef]
    refine ⟨[9], ?_, ?_, ?_⟩
    all_goals first | (simp [encG, clM, clR, clZ, clN, vrest, frzL_vs, kysL_vs, reGL_vs, keysInL_vs, fzL_vs, SubL_vs, nbT, nbF, spl0, List.contains_nil, List.contains_cons, Bool.false_or, Bool.true_or, Bool.or_false, XX, reduceIte, ↓reduceIte, Nat.reduceAdd, Nat.reduceLeDiff, Nat.reduceEqDiff, Nat.reduceLT, Nat.reduceSub, Nat.reduceBEq, forall_const, reduceCtorEq, implies_true, exists_eq_left', exists_eq_left, if_true, if_false, undef]; done) | (simp [encG, clM, clR, clZ, clN, vrest, frzL_vs, kysL_vs, reGL_vs, keysInL_vs, fzL_vs, SubL_vs, nbT, nbF, spl0, List.contains_nil, List.contains_cons, Bool.false_or, Bool.true_or, Bool.or_false, XX, reduceIte, ↓reduceIte, Nat.reduceAdd, Nat.reduceLeDiff, Nat.reduceEqDiff, Nat.reduceLT, Nat.reduceSub, Nat.reduceBEq, forall_const, reduceCtorEq, implies_true, exists_eq_left', exists_eq_left, if_true, if_false, undef]; exact htk _)
  have f1 : decide ((k : Int) < ((last + 1 : Nat) : Int)) = true := by simp; omega
  have wk : IntKind.i64.wrap ((k : Int) + 1) = ((k + 1 : Nat) : Int) := by rw [wrap_id] <;> omega
  have hgk : (g2.map encG)[0 + ((k : Nat) : Int).toNat]? = some (encG (gAt g2 k)) := by rw [Nat.zero_add, Int.toNat_natCast, List.getElem?_map, gAt, List.getElem?_eq_getElem (by omega)]; rfl
  have hbk : (L.map Bo)[((k : Nat) : Int).toNat]? = some (Bo (L.getD k false)) := by rw [Int.toNat_natCast, List.getElem?_map, List.getD_eq_getElem?_getD, List.getElem?_eq_getElem (by omega)]; rfl
  have hg := gtOk_at q1 (show k < g2.length by omega)
  have hJl := J.len
  have hJp := J.pl
  generalize prS g2 L (last + 1) k = s at *
  obtain ⟨pl, out⟩ := s
  simp only at hJl hJp hnx
  generalize gAt g2 k = g at *
  generalize L.getD k false = bb at *
  simp (maxSteps := 1000000) only [hz, f1, hgl, encG, clM, clR, clZ, clN, vrest, frzL_vs, kysL_vs, reGL_vs, keysInL_vs, fzL_vs, SubL_vs, nbT, nbF, spl0, List.contains_nil, List.contains_cons, Bool.false_or, Bool.true_or, Bool.or_false, XX, reduceIte, ↓reduceIte, Nat.reduceAdd, Nat.reduceLeDiff, Nat.reduceEqDiff, Nat.reduceLT, Nat.reduceSub, Nat.reduceBEq, forall_const, reduceCtorEq, implies_true, exists_eq_left', exists_eq_left, if_true, if_false, undef]
  refine ⟨by omega, by omega, Pick.mk _ hgk ?_⟩
  obtain ⟨kd, a, b⟩ := g
  have hk4 := hg.kind
  have hfa := hg.first
  have hfb := hg.second
  simp only at hk4 hfa hfb
  simp (maxSteps := 1000000) only [encG, clM, clR, clZ, clN, vrest, frzL_vs, kysL_vs, reGL_vs, keysInL_vs, fzL_vs, SubL_vs, nbT, nbF, spl0, List.contains_nil, List.contains_cons, Bool.false_or, Bool.true_or, Bool.or_false, XX, reduceIte, ↓reduceIte, Nat.reduceAdd, Nat.reduceLeDiff, Nat.reduceEqDiff, Nat.reduceLT, Nat.reduceSub, Nat.reduceBEq, forall_const, reduceCtorEq, implies_true, exists_eq_left', exists_eq_left, if_true, if_false, undef]
  refine ⟨by omega, by omega, Pick.mk _ hbk ?_⟩
  cases bb with
  | false =>
    simp only [Bool.false_eq_true, if_false] at hnx
    simp (maxSteps := 1000000) only [Bo, Bool.not_false, wk, encG, clM, clR, clZ, clN, vrest, frzL_vs, kysL_vs, reGL_vs, keysInL_vs, fzL_vs, SubL_vs, nbT, nbF, spl0, List.contains_nil, List.contains_cons, Bool.false_or, Bool.true_or, Bool.or_false, XX, reduceIte, ↓reduceIte, Nat.reduceAdd, Nat.reduceLeDiff, Nat.reduceEqDiff, Nat.reduceLT, Nat.reduceSub, Nat.reduceBEq, forall_const, reduceCtorEq, implies_true, exists_eq_left', exists_eq_left, if_true, if_false, undef]
    exact ⟨k + 1, [some 34], rfl, by omega, by omega, by simp [Back, BackF, fzT, fzM, fzU, fz, fzL, fzO, kin, SubT, Sub, SubL, SubM, SubO, keepM, srcOk, look, lookM, ev, evs, putT, argT, encG, clM, clR, clZ, clN, vrest, frzL_vs, kysL_vs, reGL_vs, keysInL_vs, fzL_vs, SubL_vs, nbT, nbF, spl0, List.contains_nil, List.contains_cons, Bool.false_or, Bool.true_or, Bool.or_false, XX, undef, hnx]⟩
  | true =>
    simp only [if_true] at hnx
    simp (maxSteps := 1000000) only [Bo, Bool.not_true, wk, encG, clM, clR, clZ, clN, vrest, frzL_vs, kysL_vs, reGL_vs, keysInL_vs, fzL_vs, SubL_vs, nbT, nbF, spl0, List.contains_nil, List.contains_cons, Bool.false_or, Bool.true_or, Bool.or_false, XX, reduceIte, ↓reduceIte, Nat.reduceAdd, Nat.reduceLeDiff, Nat.reduceEqDiff, Nat.reduceLT, Nat.reduceSub, Nat.reduceBEq, forall_const, reduceCtorEq, implies_true, exists_eq_left', exists_eq_left, if_true, if_false, undef]
    refine ⟨by omega, by omega, by simp; omega, ?_⟩
    have hset : (pl.map I).set k (I (out.length : Int)) = (pl.set k (out.length : Int)).map I := by rw [List.map_set]
    have hgA : ∀ x : Int, 0 ≤ x → x < k → ((pl.map I).set k (I (out.length : Int)))[0 + x.toNat]? = some (I ((pl.set k (out.length : Int)).getD x.toNat 0)) := fun x h0 hx => by
      rw [hset, Nat.zero_add, List.getElem?_map, List.getD_eq_getElem?_getD, List.getElem?_eq_getElem (by rw [List.length_set]; omega)]; rfl
    by_cases k2 : kd = 2
    · have f2 : (kd == 2) = true := by simpa using k2
      have ha := hfa (by omega)
      rw [reGt, if_pos k2] at hnx
      simp (maxSteps := 1000000) only [f2, encG, clM, clR, clZ, clN, vrest, frzL_vs, kysL_vs, reGL_vs, keysInL_vs, fzL_vs, SubL_vs, nbT, nbF, spl0, List.contains_nil, List.contains_cons, Bool.false_or, Bool.true_or, Bool.or_false, XX, reduceIte, ↓reduceIte, Nat.reduceAdd, Nat.reduceLeDiff, Nat.reduceEqDiff, Nat.reduceLT, Nat.reduceSub, Nat.reduceBEq, forall_const, reduceCtorEq, implies_true, exists_eq_left', exists_eq_left, if_true, if_false, undef]
      refine ⟨by omega, by omega, Pick.mk _ (hgA a ha.1 ha.2) ?_⟩
      simp (maxSteps := 1000000) only [f2, wk, encG, clM, clR, clZ, clN, vrest, frzL_vs, kysL_vs, reGL_vs, keysInL_vs, fzL_vs, SubL_vs, nbT, nbF, spl0, List.contains_nil, List.contains_cons, Bool.false_or, Bool.true_or, Bool.or_false, XX, reduceIte, ↓reduceIte, Nat.reduceAdd, Nat.reduceLeDiff, Nat.reduceEqDiff, Nat.reduceLT, Nat.reduceSub, Nat.reduceBEq, forall_const, reduceCtorEq, implies_true, exists_eq_left', exists_eq_left, if_true, if_false, undef]
      refine ⟨by first | omega | (simp; omega) | simp, by first | omega | (simp; omega) | simp, k + 1, [some 67], rfl, by omega, by omega, by simp [Back, BackF, fzT, fzM, fzU, fz, fzL, fzO, kin, SubT, Sub, SubL, SubM, SubO, keepM, srcOk, look, lookM, ev, evs, putT, argT, encG, clM, clR, clZ, clN, vrest, frzL_vs, kysL_vs, reGL_vs, keysInL_vs, fzL_vs, SubL_vs, nbT, nbF, spl0, List.contains_nil, List.contains_cons, Bool.false_or, Bool.true_or, Bool.or_false, XX, undef, hnx, List.map_set]⟩
    have f2 : (kd == 2) = false := by simpa using k2
    by_cases k1 : kd = 1
    · have f3 : (kd == 3) = false := by simp; omega
      have f4 : (kd == 4) = false := by simp; omega
      rw [reGt, if_neg k2, if_neg (show ¬ ((⟨kd, a, b⟩ : Gt).kind = 3 ∨ (⟨kd, a, b⟩ : Gt).kind = 4) by simp only; omega)] at hnx
      simp (maxSteps := 1000000) only [f2, f3, f4, wk, encG, clM, clR, clZ, clN, vrest, frzL_vs, kysL_vs, reGL_vs, keysInL_vs, fzL_vs, SubL_vs, nbT, nbF, spl0, List.contains_nil, List.contains_cons, Bool.false_or, Bool.true_or, Bool.or_false, XX, reduceIte, ↓reduceIte, Nat.reduceAdd, Nat.reduceLeDiff, Nat.reduceEqDiff, Nat.reduceLT, Nat.reduceSub, Nat.reduceBEq, forall_const, reduceCtorEq, implies_true, exists_eq_left', exists_eq_left, if_true, if_false, undef]
      exact ⟨by first | omega | (simp; omega) | simp, by first | omega | (simp; omega) | simp, k + 1, [some 64], rfl, by omega, by omega, by simp [Back, BackF, fzT, fzM, fzU, fz, fzL, fzO, kin, SubT, Sub, SubL, SubM, SubO, keepM, srcOk, look, lookM, ev, evs, putT, argT, encG, clM, clR, clZ, clN, vrest, frzL_vs, kysL_vs, reGL_vs, keysInL_vs, fzL_vs, SubL_vs, nbT, nbF, spl0, List.contains_nil, List.contains_cons, Bool.false_or, Bool.true_or, Bool.or_false, XX, undef, hnx, List.map_set]⟩
    have ha := hfa (by omega)
    have hb := hfb (by omega)
    rw [reGt, if_neg k2, if_pos (show (⟨kd, a, b⟩ : Gt).kind = 3 ∨ (⟨kd, a, b⟩ : Gt).kind = 4 by simp only; omega)] at hnx
    by_cases k3 : kd = 3
    · have f3 : (kd == 3) = true := by simpa using k3
      simp (maxSteps := 1000000) only [f2, f3, encG, clM, clR, clZ, clN, vrest, frzL_vs, kysL_vs, reGL_vs, keysInL_vs, fzL_vs, SubL_vs, nbT, nbF, spl0, List.contains_nil, List.contains_cons, Bool.false_or, Bool.true_or, Bool.or_false, XX, reduceIte, ↓reduceIte, Nat.reduceAdd, Nat.reduceLeDiff, Nat.reduceEqDiff, Nat.reduceLT, Nat.reduceSub, Nat.reduceBEq, forall_const, reduceCtorEq, implies_true, exists_eq_left', exists_eq_left, if_true, if_false, undef]
      refine ⟨by omega, by omega, Pick.mk _ (hgA a ha.1 ha.2) ?_⟩
      simp (maxSteps := 1000000) only [encG, clM, clR, clZ, clN, vrest, frzL_vs, kysL_vs, reGL_vs, keysInL_vs, fzL_vs, SubL_vs, nbT, nbF, spl0, List.contains_nil, List.contains_cons, Bool.false_or, Bool.true_or, Bool.or_false, XX, reduceIte, ↓reduceIte, Nat.reduceAdd, Nat.reduceLeDiff, Nat.reduceEqDiff, Nat.reduceLT, Nat.reduceSub, Nat.reduceBEq, forall_const, reduceCtorEq, implies_true, exists_eq_left', exists_eq_left, if_true, if_false, undef]
      refine ⟨by omega, by omega, Pick.mk _ (hgA b hb.1 hb.2) ?_⟩
      simp (maxSteps := 1000000) only [Option.toList_some, Option.toList_none, f3, wk, encG, clM, clR, clZ, clN, vrest, frzL_vs, kysL_vs, reGL_vs, keysInL_vs, fzL_vs, SubL_vs, nbT, nbF, spl0, List.contains_nil, List.contains_cons, Bool.false_or, Bool.true_or, Bool.or_false, XX, reduceIte, ↓reduceIte, Nat.reduceAdd, Nat.reduceLeDiff, Nat.reduceEqDiff, Nat.reduceLT, Nat.reduceSub, Nat.reduceBEq, forall_const, reduceCtorEq, implies_true, exists_eq_left', exists_eq_left, if_true, if_false, undef]
      refine ⟨by first | omega | (simp; omega) | simp, by first | omega | (simp; omega) | simp, k + 1, [some 76], rfl, by omega, by omega, by simp [Back, BackF, fzT, fzM, fzU, fz, fzL, fzO, kin, SubT, Sub, SubL, SubM, SubO, keepM, srcOk, look, lookM, ev, evs, putT, argT, encG, clM, clR, clZ, clN, vrest, frzL_vs, kysL_vs, reGL_vs, keysInL_vs, fzL_vs, SubL_vs, nbT, nbF, spl0, List.contains_nil, List.contains_cons, Bool.false_or, Bool.true_or, Bool.or_false, XX, undef, hnx, List.map_set]⟩
    · have f3 : (kd == 3) = false := by simpa using k3
      have f4 : (kd == 4) = true := by simp; omega
      simp (maxSteps := 1000000) only [f2, f3, f4, encG, clM, clR, clZ, clN, vrest, frzL_vs, kysL_vs, reGL_vs, keysInL_vs, fzL_vs, SubL_vs, nbT, nbF, spl0, List.contains_nil, List.contains_cons, Bool.false_or, Bool.true_or, Bool.or_false, XX, reduceIte, ↓reduceIte, Nat.reduceAdd, Nat.reduceLeDiff, Nat.reduceEqDiff, Nat.reduceLT, Nat.reduceSub, Nat.reduceBEq, forall_const, reduceCtorEq, implies_true, exists_eq_left', exists_eq_left, if_true, if_false, undef]
      refine ⟨by omega, by omega, Pick.mk _ (hgA a ha.1 ha.2) ?_⟩
      simp (maxSteps := 1000000) only [encG, clM, clR, clZ, clN, vrest, frzL_vs, kysL_vs, reGL_vs, keysInL_vs, fzL_vs, SubL_vs, nbT, nbF, spl0, List.contains_nil, List.contains_cons, Bool.false_or, Bool.true_or, Bool.or_false, XX, reduceIte, ↓reduceIte, Nat.reduceAdd, Nat.reduceLeDiff, Nat.reduceEqDiff, Nat.reduceLT, Nat.reduceSub, Nat.reduceBEq, forall_const, reduceCtorEq, implies_true, exists_eq_left', exists_eq_left, if_true, if_false, undef]
      refine ⟨by omega, by omega, Pick.mk _ (hgA b hb.1 hb.2) ?_⟩
      simp (maxSteps := 1000000) only [Option.toList_some, Option.toList_none, f3, f4, wk, encG, clM, clR, clZ, clN, vrest, frzL_vs, kysL_vs, reGL_vs, keysInL_vs, fzL_vs, SubL_vs, nbT, nbF, spl0, List.contains_nil, List.contains_cons, Bool.false_or, Bool.true_or, Bool.or_false, XX, reduceIte, ↓reduceIte, Nat.reduceAdd, Nat.reduceLeDiff, Nat.reduceEqDiff, Nat.reduceLT, Nat.reduceSub, Nat.reduceBEq, forall_const, reduceCtorEq, implies_true, exists_eq_left', exists_eq_left, if_true, if_false, undef]
      refine ⟨by first | omega | (simp; omega) | simp, by first | omega | (simp; omega) | simp, k + 1, [some 78], rfl, by omega, by omega, by simp [Back, BackF, fzT, fzM, fzU, fz, fzL, fzO, kin, SubT, Sub, SubL, SubM, SubO, keepM, srcOk, look, lookM, ev, evs, putT, argT, encG, clM, clR, clZ, clN, vrest, frzL_vs, kysL_vs, reGL_vs, keysInL_vs, fzL_vs, SubL_vs, nbT, nbF, spl0, List.contains_nil, List.contains_cons, Bool.false_or, Bool.true_or, Bool.or_false, XX, undef, hnx, List.map_set]⟩

theorem ccircuit0_spec (rest : List Value) (inn : Int) (p : Int) (h1 : 1 ≤ inn) (hp : p = -1 ∨ p = -2) :
    CallsM Try.prog 24 [.ptr 0 0, I p] (clZ rest) (.ro 3 ((prune (setS [] p).1 (setS [] p).2.toNat).map encG)) (clN rest (setS [] p).1) := by
  obtain ⟨q1, _, q3, q4, q5, _⟩ := set_ok (gs := []) (p := p) (fun i hi => by simp at hi) h1 (hp.elim .inl (fun h => .inr (.inl h)))
  have hs := csettle0_spec rest p hp
  have hl3 : (setS [] p).1.length ≤ 90000 := by have h := q3; simp only [List.length_nil] at h; omega
  generalize setS [] p = r at *
  obtain ⟨g2, pp⟩ := r
  obtain ⟨last, rfl⟩ : ∃ last : Nat, pp = last := ⟨pp.toNat, by simp only at q4; omega⟩
  simp only at q1 q3 q4 q5 hs hl3 ⊢
  have hlast : last < g2.length := by omega
  have hn := cneeded_spec rest g2 inn last q1 hlast (by omega)
  have N := ndL_ok q1 hlast (last + 1) (Nat.le_refl _)
  have P := fun k (hk : k ≤ last + 1) => prS_ok (n := last + 1) q1 (show last + 1 ≤ g2.length by omega) (fun i hi => N.done i (by omega) (by omega)) k hk
  have hpr : prune g2 last = (prS g2 (ndL g2 last (last + 1)) (last + 1) (last + 1)).2 := rfl
  rw [Int.toNat_natCast, hpr]
  have hLl := ndL_length g2 last (last + 1)
  generalize ndL g2 last (last + 1) = L at *
  have w1 : IntKind.i64.wrap ((last : Int) + 1) = ((last + 1 : Nat) : Int) := by rw [wrap_id] <;> omega
  have hgl : (g2.map encG).length = g2.length := by simp
  refine fnM_of comp24 (by simp) (by simp [clZ, clN]) ?_
  unfold code24
  simp (maxSteps := 1000000) only [memOf, encG, clM, clR, clZ, clN, vrest, frzL_vs, kysL_vs, reGL_vs, keysInL_vs, fzL_vs, SubL_vs, nbT, nbF, spl0, List.contains_nil, List.contains_cons, Bool.false_or, Bool.true_or, Bool.or_false, XX, reduceIte, ↓reduceIte, Nat.reduceAdd, Nat.reduceLeDiff, Nat.reduceEqDiff, Nat.reduceLT, Nat.reduceSub, Nat.reduceBEq, forall_const, reduceCtorEq, implies_true, exists_eq_left', exists_eq_left, if_true, if_false, undef]
  refine callM [some 0] (hs) (by simp [encG, clM, clR, clZ, clN, vrest, frzL_vs, kysL_vs, reGL_vs, keysInL_vs, fzL_vs, SubL_vs, nbT, nbF, spl0, List.contains_nil, List.contains_cons, Bool.false_or, Bool.true_or, Bool.or_false, XX, undef]) (by simp [encG, clM, clR, clZ, clN, vrest, frzL_vs, kysL_vs, reGL_vs, keysInL_vs, fzL_vs, SubL_vs, nbT, nbF, spl0, List.contains_nil, List.contains_cons, Bool.false_or, Bool.true_or, Bool.or_false, XX, undef]) (by simp [encG, clM, clR, clZ, clN, vrest, frzL_vs, kysL_vs, reGL_vs, keysInL_vs, fzL_vs, SubL_vs, nbT, nbF, spl0, List.contains_nil, List.contains_cons, Bool.false_or, Bool.true_or, Bool.or_false, XX, undef]) ?_
  simp (maxSteps := 1000000) only [encG, clM, clR, clZ, clN, vrest, frzL_vs, kysL_vs, reGL_vs, keysInL_vs, fzL_vs, SubL_vs, nbT, nbF, spl0, List.contains_nil, List.contains_cons, Bool.false_or, Bool.true_or, Bool.or_false, XX, reduceIte, ↓reduceIte, Nat.reduceAdd, Nat.reduceLeDiff, Nat.reduceEqDiff, Nat.reduceLT, Nat.reduceSub, Nat.reduceBEq, forall_const, reduceCtorEq, implies_true, exists_eq_left', exists_eq_left, if_true, if_false, undef]
  refine callM [some 0, some 5, some 6] (hn) (by simp [encG, clM, clR, clZ, clN, vrest, frzL_vs, kysL_vs, reGL_vs, keysInL_vs, fzL_vs, SubL_vs, nbT, nbF, spl0, List.contains_nil, List.contains_cons, Bool.false_or, Bool.true_or, Bool.or_false, XX, undef]) (by simp [encG, clM, clR, clZ, clN, vrest, frzL_vs, kysL_vs, reGL_vs, keysInL_vs, fzL_vs, SubL_vs, nbT, nbF, spl0, List.contains_nil, List.contains_cons, Bool.false_or, Bool.true_or, Bool.or_false, XX, undef]) (by simp [encG, clM, clR, clZ, clN, vrest, frzL_vs, kysL_vs, reGL_vs, keysInL_vs, fzL_vs, SubL_vs, nbT, nbF, spl0, List.contains_nil, List.contains_cons, Bool.false_or, Bool.true_or, Bool.or_false, XX, undef]) ?_
  simp (maxSteps := 1000000) only [w1, encG, clM, clR, clZ, clN, vrest, frzL_vs, kysL_vs, reGL_vs, keysInL_vs, fzL_vs, SubL_vs, nbT, nbF, spl0, List.contains_nil, List.contains_cons, Bool.false_or, Bool.true_or, Bool.or_false, XX, reduceIte, ↓reduceIte, Nat.reduceAdd, Nat.reduceLeDiff, Nat.reduceEqDiff, Nat.reduceLT, Nat.reduceSub, Nat.reduceBEq, forall_const, reduceCtorEq, implies_true, exists_eq_left', exists_eq_left, if_true, if_false, undef]
  refine ⟨by omega, by omega, by omega, ?_⟩
  simp (maxSteps := 1000000) only [w1, Int.toNat_natCast, encG, clM, clR, clZ, clN, vrest, frzL_vs, kysL_vs, reGL_vs, keysInL_vs, fzL_vs, SubL_vs, nbT, nbF, spl0, List.contains_nil, List.contains_cons, Bool.false_or, Bool.true_or, Bool.or_false, XX, reduceIte, ↓reduceIte, Nat.reduceAdd, Nat.reduceLeDiff, Nat.reduceEqDiff, Nat.reduceLT, Nat.reduceSub, Nat.reduceBEq, forall_const, reduceCtorEq, implies_true, exists_eq_left', exists_eq_left, if_true, if_false, undef]
  refine ⟨by omega, by omega, by omega, ?_⟩
  simp (maxSteps := 1000000) only [w1, Int.toNat_natCast, Int.toNat_zero, Nat.sub_zero, encG, clM, clR, clZ, clN, vrest, frzL_vs, kysL_vs, reGL_vs, keysInL_vs, fzL_vs, SubL_vs, nbT, nbF, spl0, List.contains_nil, List.contains_cons, Bool.false_or, Bool.true_or, Bool.or_false, XX, reduceIte, ↓reduceIte, Nat.reduceAdd, Nat.reduceLeDiff, Nat.reduceEqDiff, Nat.reduceLT, Nat.reduceSub, Nat.reduceBEq, forall_const, reduceCtorEq, implies_true, exists_eq_left', exists_eq_left, if_true, if_false, undef]
  refine loopR Nat [28, 8] (fun k => [IN k, .arr 31 0 (prS g2 L (last + 1) k).2.length]) (fun k => [(31, some (.arr 3 ((prS g2 L (last + 1) k).2.map encG))), (19, some (.arr 1 ((prS g2 L (last + 1) k).1.map I)))]) 1 (fun k => k ≤ last + 1) (fun k => last + 1 - k) (by decide) 0 [none] rfl (by omega) (by simp [Back, BackF, fzT, fzM, fzU, fz, fzL, fzO, kin, SubT, Sub, SubL, SubM, SubO, keepM, srcOk, look, lookM, ev, evs, putT, argT, encG, clM, clR, clZ, clN, vrest, frzL_vs, kysL_vs, reGL_vs, keysInL_vs, fzL_vs, SubL_vs, nbT, nbF, spl0, List.contains_nil, List.contains_cons, Bool.false_or, Bool.true_or, Bool.or_false, XX, undef, prS]) ?_
  intro k hk
  have J := P k hk
  have hnx : prS g2 L (last + 1) (k + 1) = if L.getD k false then ((prS g2 L (last + 1) k).1.set k ((prS g2 L (last + 1) k).2.length : Int), (prS g2 L (last + 1) k).2 ++ [reGt ((prS g2 L (last + 1) k).1.set k ((prS g2 L (last + 1) k).2.length : Int)) (gAt g2 k)]) else prS g2 L (last + 1) k := rfl
  have hz : (((last + 1 : Nat) : Int).toNat - ((0 : Nat) : Int).toNat) = last + 1 := by simp
  by_cases c1 : k < last + 1
  rotate_left
  · have f1 : decide ((k : Int) < ((last + 1 : Nat) : Int)) = false := by simp; omega
    obtain rfl : k = last + 1 := by omega
    have htk : ∀ l : List Gt, (l.map encG).take l.length = l.map encG := fun l => List.take_of_length_le (by simp)
    simp (maxSteps := 1000000) only [hz, f1, encG, clM, clR, clZ, clN, vrest, frzL_vs, kysL_vs, reGL_vs, keysInL_vs, fzL_vs, SubL_vs, nbT, nbF, spl0, List.contains_nil, List.contains_cons, Bool.false_or, Bool.true_or, Bool.or_false, XX, reduceIte, ↓reduceIte, Nat.reduceAdd, Nat.reduceLeDiff, Nat.reduceEqDiff, Nat.reduceLT, Nat.reduceSub, Nat.reduceBEq, forall_const, reduceCtorEq, implies_true, exists_eq_left', exists_eq_left, if_true, if_false, undef]
    refine ⟨[5, 6], ?_, ?_, ?_⟩
    all_goals first | (simp [encG, clM, clR, clZ, clN, vrest, frzL_vs, kysL_vs, reGL_vs, keysInL_vs, fzL_vs, SubL_vs, nbT, nbF, spl0, List.contains_nil, List.contains_cons, Bool.false_or, Bool.true_or, Bool.or_false, XX, reduceIte, ↓reduceIte, Nat.reduceAdd, Nat.reduceLeDiff, Nat.reduceEqDiff, Nat.reduceLT, Nat.reduceSub, Nat.reduceBEq, forall_const, reduceCtorEq, implies_true, exists_eq_left', exists_eq_left, if_true, if_false, undef]; done) | (simp [encG, clM, clR, clZ, clN, vrest, frzL_vs, kysL_vs, reGL_vs, keysInL_vs, fzL_vs, SubL_vs, nbT, nbF, spl0, List.contains_nil, List.contains_cons, Bool.false_or, Bool.true_or, Bool.or_false, XX, reduceIte, ↓reduceIte, Nat.reduceAdd, Nat.reduceLeDiff, Nat.reduceEqDiff, Nat.reduceLT, Nat.reduceSub, Nat.reduceBEq, forall_const, reduceCtorEq, implies_true, exists_eq_left', exists_eq_left, if_true, if_false, undef]; exact htk _)
  have f1 : decide ((k : Int) < ((last + 1 : Nat) : Int)) = true := by simp; omega
  have wk : IntKind.i64.wrap ((k : Int) + 1) = ((k + 1 : Nat) : Int) := by rw [wrap_id] <;> omega
  have hgk : (g2.map encG)[0 + ((k : Nat) : Int).toNat]? = some (encG (gAt g2 k)) := by rw [Nat.zero_add, Int.toNat_natCast, List.getElem?_map, gAt, List.getElem?_eq_getElem (by omega)]; rfl
  have hbk : (L.map Bo)[((k : Nat) : Int).toNat]? = some (Bo (L.getD k false)) := by rw [Int.toNat_natCast, List.getElem?_map, List.getD_eq_getElem?_getD, List.getElem?_eq_getElem (by omega)]; rfl
  have hg := gtOk_at q1 (show k < g2.length by omega)
  have hJl := J.len
  have hJp := J.pl
  generalize prS g2 L (last + 1) k = s at *
  obtain ⟨pl, out⟩ := s
  simp only at hJl hJp hnx
  generalize gAt g2 k = g at *
  generalize L.getD k false = bb at *
  simp (maxSteps := 1000000) only [hz, f1, hgl, encG, clM, clR, clZ, clN, vrest, frzL_vs, kysL_vs, reGL_vs, keysInL_vs, fzL_vs, SubL_vs, nbT, nbF, spl0, List.contains_nil, List.contains_cons, Bool.false_or, Bool.true_or, Bool.or_false, XX, reduceIte, ↓reduceIte, Nat.reduceAdd, Nat.reduceLeDiff, Nat.reduceEqDiff, Nat.reduceLT, Nat.reduceSub, Nat.reduceBEq, forall_const, reduceCtorEq, implies_true, exists_eq_left', exists_eq_left, if_true, if_false, undef]
  refine ⟨by omega, by omega, Pick.mk _ hgk ?_⟩
  obtain ⟨kd, a, b⟩ := g
  have hk4 := hg.kind
  have hfa := hg.first
  have hfb := hg.second
  simp only at hk4 hfa hfb
  simp (maxSteps := 1000000) only [encG, clM, clR, clZ, clN, vrest, frzL_vs, kysL_vs, reGL_vs, keysInL_vs, fzL_vs, SubL_vs, nbT, nbF, spl0, List.contains_nil, List.contains_cons, Bool.false_or, Bool.true_or, Bool.or_false, XX, reduceIte, ↓reduceIte, Nat.reduceAdd, Nat.reduceLeDiff, Nat.reduceEqDiff, Nat.reduceLT, Nat.reduceSub, Nat.reduceBEq, forall_const, reduceCtorEq, implies_true, exists_eq_left', exists_eq_left, if_true, if_false, undef]
  refine ⟨by omega, by omega, Pick.mk _ hbk ?_⟩
  cases bb with
  | false =>
    simp only [Bool.false_eq_true, if_false] at hnx
    simp (maxSteps := 1000000) only [Bo, Bool.not_false, wk, encG, clM, clR, clZ, clN, vrest, frzL_vs, kysL_vs, reGL_vs, keysInL_vs, fzL_vs, SubL_vs, nbT, nbF, spl0, List.contains_nil, List.contains_cons, Bool.false_or, Bool.true_or, Bool.or_false, XX, reduceIte, ↓reduceIte, Nat.reduceAdd, Nat.reduceLeDiff, Nat.reduceEqDiff, Nat.reduceLT, Nat.reduceSub, Nat.reduceBEq, forall_const, reduceCtorEq, implies_true, exists_eq_left', exists_eq_left, if_true, if_false, undef]
    exact ⟨k + 1, [some 31], rfl, by omega, by omega, by simp [Back, BackF, fzT, fzM, fzU, fz, fzL, fzO, kin, SubT, Sub, SubL, SubM, SubO, keepM, srcOk, look, lookM, ev, evs, putT, argT, encG, clM, clR, clZ, clN, vrest, frzL_vs, kysL_vs, reGL_vs, keysInL_vs, fzL_vs, SubL_vs, nbT, nbF, spl0, List.contains_nil, List.contains_cons, Bool.false_or, Bool.true_or, Bool.or_false, XX, undef, hnx]⟩
  | true =>
    simp only [if_true] at hnx
    simp (maxSteps := 1000000) only [Bo, Bool.not_true, wk, encG, clM, clR, clZ, clN, vrest, frzL_vs, kysL_vs, reGL_vs, keysInL_vs, fzL_vs, SubL_vs, nbT, nbF, spl0, List.contains_nil, List.contains_cons, Bool.false_or, Bool.true_or, Bool.or_false, XX, reduceIte, ↓reduceIte, Nat.reduceAdd, Nat.reduceLeDiff, Nat.reduceEqDiff, Nat.reduceLT, Nat.reduceSub, Nat.reduceBEq, forall_const, reduceCtorEq, implies_true, exists_eq_left', exists_eq_left, if_true, if_false, undef]
    refine ⟨by omega, by omega, by simp; omega, ?_⟩
    have hset : (pl.map I).set k (I (out.length : Int)) = (pl.set k (out.length : Int)).map I := by rw [List.map_set]
    have hgA : ∀ x : Int, 0 ≤ x → x < k → ((pl.map I).set k (I (out.length : Int)))[0 + x.toNat]? = some (I ((pl.set k (out.length : Int)).getD x.toNat 0)) := fun x h0 hx => by
      rw [hset, Nat.zero_add, List.getElem?_map, List.getD_eq_getElem?_getD, List.getElem?_eq_getElem (by rw [List.length_set]; omega)]; rfl
    by_cases k2 : kd = 2
    · have f2 : (kd == 2) = true := by simpa using k2
      have ha := hfa (by omega)
      rw [reGt, if_pos k2] at hnx
      simp (maxSteps := 1000000) only [f2, encG, clM, clR, clZ, clN, vrest, frzL_vs, kysL_vs, reGL_vs, keysInL_vs, fzL_vs, SubL_vs, nbT, nbF, spl0, List.contains_nil, List.contains_cons, Bool.false_or, Bool.true_or, Bool.or_false, XX, reduceIte, ↓reduceIte, Nat.reduceAdd, Nat.reduceLeDiff, Nat.reduceEqDiff, Nat.reduceLT, Nat.reduceSub, Nat.reduceBEq, forall_const, reduceCtorEq, implies_true, exists_eq_left', exists_eq_left, if_true, if_false, undef]
      refine ⟨by omega, by omega, Pick.mk _ (hgA a ha.1 ha.2) ?_⟩
      simp (maxSteps := 1000000) only [f2, wk, encG, clM, clR, clZ, clN, vrest, frzL_vs, kysL_vs, reGL_vs, keysInL_vs, fzL_vs, SubL_vs, nbT, nbF, spl0, List.contains_nil, List.contains_cons, Bool.false_or, Bool.true_or, Bool.or_false, XX, reduceIte, ↓reduceIte, Nat.reduceAdd, Nat.reduceLeDiff, Nat.reduceEqDiff, Nat.reduceLT, Nat.reduceSub, Nat.reduceBEq, forall_const, reduceCtorEq, implies_true, exists_eq_left', exists_eq_left, if_true, if_false, undef]
      refine ⟨by first | omega | (simp; omega) | simp, by first | omega | (simp; omega) | simp, k + 1, [some 64], rfl, by omega, by omega, by simp [Back, BackF, fzT, fzM, fzU, fz, fzL, fzO, kin, SubT, Sub, SubL, SubM, SubO, keepM, srcOk, look, lookM, ev, evs, putT, argT, encG, clM, clR, clZ, clN, vrest, frzL_vs, kysL_vs, reGL_vs, keysInL_vs, fzL_vs, SubL_vs, nbT, nbF, spl0, List.contains_nil, List.contains_cons, Bool.false_or, Bool.true_or, Bool.or_false, XX, undef, hnx, List.map_set]⟩
    have f2 : (kd == 2) = false := by simpa using k2
    by_cases k1 : kd = 1
    · have f3 : (kd == 3) = false := by simp; omega
      have f4 : (kd == 4) = false := by simp; omega
      rw [reGt, if_neg k2, if_neg (show ¬ ((⟨kd, a, b⟩ : Gt).kind = 3 ∨ (⟨kd, a, b⟩ : Gt).kind = 4) by simp only; omega)] at hnx
      simp (maxSteps := 1000000) only [f2, f3, f4, wk, encG, clM, clR, clZ, clN, vrest, frzL_vs, kysL_vs, reGL_vs, keysInL_vs, fzL_vs, SubL_vs, nbT, nbF, spl0, List.contains_nil, List.contains_cons, Bool.false_or, Bool.true_or, Bool.or_false, XX, reduceIte, ↓reduceIte, Nat.reduceAdd, Nat.reduceLeDiff, Nat.reduceEqDiff, Nat.reduceLT, Nat.reduceSub, Nat.reduceBEq, forall_const, reduceCtorEq, implies_true, exists_eq_left', exists_eq_left, if_true, if_false, undef]
      exact ⟨by first | omega | (simp; omega) | simp, by first | omega | (simp; omega) | simp, k + 1, [some 61], rfl, by omega, by omega, by simp [Back, BackF, fzT, fzM, fzU, fz, fzL, fzO, kin, SubT, Sub, SubL, SubM, SubO, keepM, srcOk, look, lookM, ev, evs, putT, argT, encG, clM, clR, clZ, clN, vrest, frzL_vs, kysL_vs, reGL_vs, keysInL_vs, fzL_vs, SubL_vs, nbT, nbF, spl0, List.contains_nil, List.contains_cons, Bool.false_or, Bool.true_or, Bool.or_false, XX, undef, hnx, List.map_set]⟩
    have ha := hfa (by omega)
    have hb := hfb (by omega)
    rw [reGt, if_neg k2, if_pos (show (⟨kd, a, b⟩ : Gt).kind = 3 ∨ (⟨kd, a, b⟩ : Gt).kind = 4 by simp only; omega)] at hnx
    by_cases k3 : kd = 3
    · have f3 : (kd == 3) = true := by simpa using k3
      simp (maxSteps := 1000000) only [f2, f3, encG, clM, clR, clZ, clN, vrest, frzL_vs, kysL_vs, reGL_vs, keysInL_vs, fzL_vs, SubL_vs, nbT, nbF, spl0, List.contains_nil, List.contains_cons, Bool.false_or, Bool.true_or, Bool.or_false, XX, reduceIte, ↓reduceIte, Nat.reduceAdd, Nat.reduceLeDiff, Nat.reduceEqDiff, Nat.reduceLT, Nat.reduceSub, Nat.reduceBEq, forall_const, reduceCtorEq, implies_true, exists_eq_left', exists_eq_left, if_true, if_false, undef]
      refine ⟨by omega, by omega, Pick.mk _ (hgA a ha.1 ha.2) ?_⟩
      simp (maxSteps := 1000000) only [encG, clM, clR, clZ, clN, vrest, frzL_vs, kysL_vs, reGL_vs, keysInL_vs, fzL_vs, SubL_vs, nbT, nbF, spl0, List.contains_nil, List.contains_cons, Bool.false_or, Bool.true_or, Bool.or_false, XX, reduceIte, ↓reduceIte, Nat.reduceAdd, Nat.reduceLeDiff, Nat.reduceEqDiff, Nat.reduceLT, Nat.reduceSub, Nat.reduceBEq, forall_const, reduceCtorEq, implies_true, exists_eq_left', exists_eq_left, if_true, if_false, undef]
      refine ⟨by omega, by omega, Pick.mk _ (hgA b hb.1 hb.2) ?_⟩
      simp (maxSteps := 1000000) only [Option.toList_some, Option.toList_none, f3, wk, encG, clM, clR, clZ, clN, vrest, frzL_vs, kysL_vs, reGL_vs, keysInL_vs, fzL_vs, SubL_vs, nbT, nbF, spl0, List.contains_nil, List.contains_cons, Bool.false_or, Bool.true_or, Bool.or_false, XX, reduceIte, ↓reduceIte, Nat.reduceAdd, Nat.reduceLeDiff, Nat.reduceEqDiff, Nat.reduceLT, Nat.reduceSub, Nat.reduceBEq, forall_const, reduceCtorEq, implies_true, exists_eq_left', exists_eq_left, if_true, if_false, undef]
      refine ⟨by first | omega | (simp; omega) | simp, by first | omega | (simp; omega) | simp, k + 1, [some 73], rfl, by omega, by omega, by simp [Back, BackF, fzT, fzM, fzU, fz, fzL, fzO, kin, SubT, Sub, SubL, SubM, SubO, keepM, srcOk, look, lookM, ev, evs, putT, argT, encG, clM, clR, clZ, clN, vrest, frzL_vs, kysL_vs, reGL_vs, keysInL_vs, fzL_vs, SubL_vs, nbT, nbF, spl0, List.contains_nil, List.contains_cons, Bool.false_or, Bool.true_or, Bool.or_false, XX, undef, hnx, List.map_set]⟩
    · have f3 : (kd == 3) = false := by simpa using k3
      have f4 : (kd == 4) = true := by simp; omega
      simp (maxSteps := 1000000) only [f2, f3, f4, encG, clM, clR, clZ, clN, vrest, frzL_vs, kysL_vs, reGL_vs, keysInL_vs, fzL_vs, SubL_vs, nbT, nbF, spl0, List.contains_nil, List.contains_cons, Bool.false_or, Bool.true_or, Bool.or_false, XX, reduceIte, ↓reduceIte, Nat.reduceAdd, Nat.reduceLeDiff, Nat.reduceEqDiff, Nat.reduceLT, Nat.reduceSub, Nat.reduceBEq, forall_const, reduceCtorEq, implies_true, exists_eq_left', exists_eq_left, if_true, if_false, undef]
      refine ⟨by omega, by omega, Pick.mk _ (hgA a ha.1 ha.2) ?_⟩
      simp (maxSteps := 1000000) only [encG, clM, clR, clZ, clN, vrest, frzL_vs, kysL_vs, reGL_vs, keysInL_vs, fzL_vs, SubL_vs, nbT, nbF, spl0, List.contains_nil, List.contains_cons, Bool.false_or, Bool.true_or, Bool.or_false, XX, reduceIte, ↓reduceIte, Nat.reduceAdd, Nat.reduceLeDiff, Nat.reduceEqDiff, Nat.reduceLT, Nat.reduceSub, Nat.reduceBEq, forall_const, reduceCtorEq, implies_true, exists_eq_left', exists_eq_left, if_true, if_false, undef]
      refine ⟨by omega, by omega, Pick.mk _ (hgA b hb.1 hb.2) ?_⟩
      simp (maxSteps := 1000000) only [Option.toList_some, Option.toList_none, f3, f4, wk, encG, clM, clR, clZ, clN, vrest, frzL_vs, kysL_vs, reGL_vs, keysInL_vs, fzL_vs, SubL_vs, nbT, nbF, spl0, List.contains_nil, List.contains_cons, Bool.false_or, Bool.true_or, Bool.or_false, XX, reduceIte, ↓reduceIte, Nat.reduceAdd, Nat.reduceLeDiff, Nat.reduceEqDiff, Nat.reduceLT, Nat.reduceSub, Nat.reduceBEq, forall_const, reduceCtorEq, implies_true, exists_eq_left', exists_eq_left, if_true, if_false, undef]
      refine ⟨by first | omega | (simp; omega) | simp, by first | omega | (simp; omega) | simp, k + 1, [some 75], rfl, by omega, by omega, by simp [Back, BackF, fzT, fzM, fzU, fz, fzL, fzO, kin, SubT, Sub, SubL, SubM, SubO, keepM, srcOk, look, lookM, ev, evs, putT, argT, encG, clM, clR, clZ, clN, vrest, frzL_vs, kysL_vs, reGL_vs, keysInL_vs, fzL_vs, SubL_vs, nbT, nbF, spl0, List.contains_nil, List.contains_cons, Bool.false_or, Bool.true_or, Bool.or_false, XX, undef, hnx, List.map_set]⟩

end Go.Av
