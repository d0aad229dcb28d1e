/- Circuits for truth tables: one choice, the program's function. -/
import Derived.Test.YtoffjeeajdmgfaaCirC
import Derived.Test.YtoffjeeajdmgfaaCirB
set_option linter.unusedSimpArgs false
set_option linter.unusedVariables false
set_option maxRecDepth 100000
namespace Go.Av
open Go.Proofs

theorem andR_len (gs : List Gt) (a b : Int) : (andR gs a b).1.length ≤ gs.length + 1 := by
  unfold andR; split <;> (try split) <;> (try split) <;> simp [addR] <;> first | omega | exact (addG_len _ _).2
theorem orR_len (gs : List Gt) (a b : Int) : (orR gs a b).1.length ≤ gs.length + 1 := by
  unfold orR; split <;> (try split) <;> (try split) <;> simp [addR] <;> first | omega | exact (addG_len _ _).2

theorem cchoose_spec (rest : List Value) (gs : List Gt) (d : Nat) (no yes : Int) (hl : gs.length ≤ 80000) : CallsM Try.prog 40 [.ptr 0 0, IN d, I no, I yes] (clM rest gs) (I (choR gs d no yes).2) (clR rest (choR gs d no yes).1) := by
  by_cases c0 : no = yes
  · subst c0
    have e0 : (no == no) = true := by simp
    have : choR gs d no no = (gs, no) := by unfold choR; rw [if_pos rfl]
    rw [this]
    refine clM_same rfl rest gs ?_
    refine fnM_of comp40 (by simp) (by simp [clM, clR]) ?_
    unfold code40
    simp (maxSteps := 1000000) only [memOf, e0, encG, clM, clR, clZ, clN, vrest, frzL_vs, kysL_vs, reGL_vs, keysInL_vs, fzL_vs, SubL_vs, nbT, nbF, spl0, List.contains_nil, List.contains_cons, Bool.false_or, Bool.true_or, Bool.or_false, XX, reduceIte, ↓reduceIte, Nat.reduceAdd, Nat.reduceLeDiff, Nat.reduceEqDiff, Nat.reduceLT, Nat.reduceSub, Nat.reduceBEq, forall_const, reduceCtorEq, implies_true, exists_eq_left', exists_eq_left, if_true, if_false, undef]
    exact ⟨[], by simp, by simp [encG, clM, clR, clZ, clN, vrest, frzL_vs, kysL_vs, reGL_vs, keysInL_vs, fzL_vs, SubL_vs, nbT, nbF, spl0, List.contains_nil, List.contains_cons, Bool.false_or, Bool.true_or, Bool.or_false, XX, undef]⟩
  have e0 : (no == yes) = false := by simpa using c0
  have hch : choR gs d no yes = if no = -2 then orR (notR (inR gs d).1 (inR gs d).2).1 (notR (inR gs d).1 (inR gs d).2).2 yes
    else if yes = -2 then orR (notR (inR gs d).1 (inR gs d).2).1 (inR gs d).2 no
    else orR (andR (andR (notR (inR gs d).1 (inR gs d).2).1 (inR gs d).2 yes).1 (notR (inR gs d).1 (inR gs d).2).2 no).1 (andR (notR (inR gs d).1 (inR gs d).2).1 (inR gs d).2 yes).2
      (andR (andR (notR (inR gs d).1 (inR gs d).2).1 (inR gs d).2 yes).1 (notR (inR gs d).1 (inR gs d).2).2 no).2 := by unfold choR; rw [if_neg c0]
  rw [hch]
  have h1 := cin_spec rest gs d (by omega)
  have l1 := inR_len gs d
  generalize inR gs d = r at *
  have l2 := notR_len r.1 r.2
  have h2 := cnot_spec rest r.1 r.2 (by omega)
  generalize notR r.1 r.2 = s at *
  have h3 := cor_spec rest s.1 s.2 yes (by omega)
  have h4 := cor_spec rest s.1 r.2 no (by omega)
  have h5 := cand_spec rest s.1 r.2 yes (by omega)
  have l5 := andR_len s.1 r.2 yes
  generalize andR s.1 r.2 yes = a at *
  have h6 := cand_spec rest a.1 s.2 no (by omega)
  have l6 := andR_len a.1 s.2 no
  generalize andR a.1 s.2 no = b at *
  have h7 := cor_spec rest b.1 a.2 b.2 (by omega)
  generalize orR b.1 a.2 b.2 = o7 at *
  generalize orR s.1 s.2 yes = o3 at *
  generalize orR s.1 r.2 no = o4 at *
  refine fnM_of comp40 (by simp) (by simp [clM, clR]) ?_
  unfold code40
  simp (maxSteps := 1000000) only [memOf, e0, encG, clM, clR, clZ, clN, vrest, frzL_vs, kysL_vs, reGL_vs, keysInL_vs, fzL_vs, SubL_vs, nbT, nbF, spl0, List.contains_nil, List.contains_cons, Bool.false_or, Bool.true_or, Bool.or_false, XX, reduceIte, ↓reduceIte, Nat.reduceAdd, Nat.reduceLeDiff, Nat.reduceEqDiff, Nat.reduceLT, Nat.reduceSub, Nat.reduceBEq, forall_const, reduceCtorEq, implies_true, exists_eq_left', exists_eq_left, if_true, if_false, undef]
  refine callM [some 0, some 1, some 2] (h1) (by simp [encG, clM, clR, clZ, clN, vrest, frzL_vs, kysL_vs, reGL_vs, keysInL_vs, fzL_vs, SubL_vs, nbT, nbF, spl0, List.contains_nil, List.contains_cons, Bool.false_or, Bool.true_or, Bool.or_false, XX, undef]) (by simp [encG, clM, clR, clZ, clN, vrest, frzL_vs, kysL_vs, reGL_vs, keysInL_vs, fzL_vs, SubL_vs, nbT, nbF, spl0, List.contains_nil, List.contains_cons, Bool.false_or, Bool.true_or, Bool.or_false, XX, undef]) (by simp [encG, clM, clR, clZ, clN, vrest, frzL_vs, kysL_vs, reGL_vs, keysInL_vs, fzL_vs, SubL_vs, nbT, nbF, spl0, List.contains_nil, List.contains_cons, Bool.false_or, Bool.true_or, Bool.or_false, XX, undef]) ?_
  simp (maxSteps := 1000000) only [encG, clM, clR, clZ, clN, vrest, frzL_vs, kysL_vs, reGL_vs, keysInL_vs, fzL_vs, SubL_vs, nbT, nbF, spl0, List.contains_nil, List.contains_cons, Bool.false_or, Bool.true_or, Bool.or_false, XX, reduceIte, ↓reduceIte, Nat.reduceAdd, Nat.reduceLeDiff, Nat.reduceEqDiff, Nat.reduceLT, Nat.reduceSub, Nat.reduceBEq, forall_const, reduceCtorEq, implies_true, exists_eq_left', exists_eq_left, if_true, if_false, undef]
  refine callM [some 0, some 12, some 2] (h2) (by simp [encG, clM, clR, clZ, clN, vrest, frzL_vs, kysL_vs, reGL_vs, keysInL_vs, fzL_vs, SubL_vs, nbT, nbF, spl0, List.contains_nil, List.contains_cons, Bool.false_or, Bool.true_or, Bool.or_false, XX, undef]) (by simp [encG, clM, clR, clZ, clN, vrest, frzL_vs, kysL_vs, reGL_vs, keysInL_vs, fzL_vs, SubL_vs, nbT, nbF, spl0, List.contains_nil, List.contains_cons, Bool.false_or, Bool.true_or, Bool.or_false, XX, undef]) (by simp [encG, clM, clR, clZ, clN, vrest, frzL_vs, kysL_vs, reGL_vs, keysInL_vs, fzL_vs, SubL_vs, nbT, nbF, spl0, List.contains_nil, List.contains_cons, Bool.false_or, Bool.true_or, Bool.or_false, XX, undef]) ?_
  simp (maxSteps := 1000000) only [encG, clM, clR, clZ, clN, vrest, frzL_vs, kysL_vs, reGL_vs, keysInL_vs, fzL_vs, SubL_vs, nbT, nbF, spl0, List.contains_nil, List.contains_cons, Bool.false_or, Bool.true_or, Bool.or_false, XX, reduceIte, ↓reduceIte, Nat.reduceAdd, Nat.reduceLeDiff, Nat.reduceEqDiff, Nat.reduceLT, Nat.reduceSub, Nat.reduceBEq, forall_const, reduceCtorEq, implies_true, exists_eq_left', exists_eq_left, if_true, if_false, undef]
  by_cases c1 : no = -2
  · have f1 : (no == -2) = true := by simpa using c1
    rw [if_pos c1]
    simp (maxSteps := 1000000) only [f1, encG, clM, clR, clZ, clN, vrest, frzL_vs, kysL_vs, reGL_vs, keysInL_vs, fzL_vs, SubL_vs, nbT, nbF, spl0, List.contains_nil, List.contains_cons, Bool.false_or, Bool.true_or, Bool.or_false, XX, reduceIte, ↓reduceIte, Nat.reduceAdd, Nat.reduceLeDiff, Nat.reduceEqDiff, Nat.reduceLT, Nat.reduceSub, Nat.reduceBEq, forall_const, reduceCtorEq, implies_true, exists_eq_left', exists_eq_left, if_true, if_false, undef]
    refine callM [some 0, some 20, some 2] (h3) (by simp [encG, clM, clR, clZ, clN, vrest, frzL_vs, kysL_vs, reGL_vs, keysInL_vs, fzL_vs, SubL_vs, nbT, nbF, spl0, List.contains_nil, List.contains_cons, Bool.false_or, Bool.true_or, Bool.or_false, XX, undef]) (by simp [encG, clM, clR, clZ, clN, vrest, frzL_vs, kysL_vs, reGL_vs, keysInL_vs, fzL_vs, SubL_vs, nbT, nbF, spl0, List.contains_nil, List.contains_cons, Bool.false_or, Bool.true_or, Bool.or_false, XX, undef]) (by simp [encG, clM, clR, clZ, clN, vrest, frzL_vs, kysL_vs, reGL_vs, keysInL_vs, fzL_vs, SubL_vs, nbT, nbF, spl0, List.contains_nil, List.contains_cons, Bool.false_or, Bool.true_or, Bool.or_false, XX, undef]) ?_
    simp (maxSteps := 1000000) only [encG, clM, clR, clZ, clN, vrest, frzL_vs, kysL_vs, reGL_vs, keysInL_vs, fzL_vs, SubL_vs, nbT, nbF, spl0, List.contains_nil, List.contains_cons, Bool.false_or, Bool.true_or, Bool.or_false, XX, reduceIte, ↓reduceIte, Nat.reduceAdd, Nat.reduceLeDiff, Nat.reduceEqDiff, Nat.reduceLT, Nat.reduceSub, Nat.reduceBEq, forall_const, reduceCtorEq, implies_true, exists_eq_left', exists_eq_left, if_true, if_false, undef]
    exact ⟨[32], by simp [encG, clM, clR, clZ, clN, vrest, frzL_vs, kysL_vs, reGL_vs, keysInL_vs, fzL_vs, SubL_vs, nbT, nbF, spl0, List.contains_nil, List.contains_cons, Bool.false_or, Bool.true_or, Bool.or_false, XX, undef], by simp [encG, clM, clR, clZ, clN, vrest, frzL_vs, kysL_vs, reGL_vs, keysInL_vs, fzL_vs, SubL_vs, nbT, nbF, spl0, List.contains_nil, List.contains_cons, Bool.false_or, Bool.true_or, Bool.or_false, XX, undef], by simp [encG, clM, clR, clZ, clN, vrest, frzL_vs, kysL_vs, reGL_vs, keysInL_vs, fzL_vs, SubL_vs, nbT, nbF, spl0, List.contains_nil, List.contains_cons, Bool.false_or, Bool.true_or, Bool.or_false, XX, undef]⟩
  have f1 : (no == -2) = false := by simpa using c1
  rw [if_neg c1]
  by_cases c2 : yes = -2
  · have f2 : (yes == -2) = true := by simpa using c2
    rw [if_pos c2]
    simp (maxSteps := 1000000) only [f1, f2, encG, clM, clR, clZ, clN, vrest, frzL_vs, kysL_vs, reGL_vs, keysInL_vs, fzL_vs, SubL_vs, nbT, nbF, spl0, List.contains_nil, List.contains_cons, Bool.false_or, Bool.true_or, Bool.or_false, XX, reduceIte, ↓reduceIte, Nat.reduceAdd, Nat.reduceLeDiff, Nat.reduceEqDiff, Nat.reduceLT, Nat.reduceSub, Nat.reduceBEq, forall_const, reduceCtorEq, implies_true, exists_eq_left', exists_eq_left, if_true, if_false, undef]
    refine callM [some 0, some 20, some 2] (h4) (by simp [encG, clM, clR, clZ, clN, vrest, frzL_vs, kysL_vs, reGL_vs, keysInL_vs, fzL_vs, SubL_vs, nbT, nbF, spl0, List.contains_nil, List.contains_cons, Bool.false_or, Bool.true_or, Bool.or_false, XX, undef]) (by simp [encG, clM, clR, clZ, clN, vrest, frzL_vs, kysL_vs, reGL_vs, keysInL_vs, fzL_vs, SubL_vs, nbT, nbF, spl0, List.contains_nil, List.contains_cons, Bool.false_or, Bool.true_or, Bool.or_false, XX, undef]) (by simp [encG, clM, clR, clZ, clN, vrest, frzL_vs, kysL_vs, reGL_vs, keysInL_vs, fzL_vs, SubL_vs, nbT, nbF, spl0, List.contains_nil, List.contains_cons, Bool.false_or, Bool.true_or, Bool.or_false, XX, undef]) ?_
    simp (maxSteps := 1000000) only [encG, clM, clR, clZ, clN, vrest, frzL_vs, kysL_vs, reGL_vs, keysInL_vs, fzL_vs, SubL_vs, nbT, nbF, spl0, List.contains_nil, List.contains_cons, Bool.false_or, Bool.true_or, Bool.or_false, XX, reduceIte, ↓reduceIte, Nat.reduceAdd, Nat.reduceLeDiff, Nat.reduceEqDiff, Nat.reduceLT, Nat.reduceSub, Nat.reduceBEq, forall_const, reduceCtorEq, implies_true, exists_eq_left', exists_eq_left, if_true, if_false, undef]
    exact ⟨[35], by simp [encG, clM, clR, clZ, clN, vrest, frzL_vs, kysL_vs, reGL_vs, keysInL_vs, fzL_vs, SubL_vs, nbT, nbF, spl0, List.contains_nil, List.contains_cons, Bool.false_or, Bool.true_or, Bool.or_false, XX, undef], by simp [encG, clM, clR, clZ, clN, vrest, frzL_vs, kysL_vs, reGL_vs, keysInL_vs, fzL_vs, SubL_vs, nbT, nbF, spl0, List.contains_nil, List.contains_cons, Bool.false_or, Bool.true_or, Bool.or_false, XX, undef], by simp [encG, clM, clR, clZ, clN, vrest, frzL_vs, kysL_vs, reGL_vs, keysInL_vs, fzL_vs, SubL_vs, nbT, nbF, spl0, List.contains_nil, List.contains_cons, Bool.false_or, Bool.true_or, Bool.or_false, XX, undef]⟩
  have f2 : (yes == -2) = false := by simpa using c2
  rw [if_neg c2]
  simp (maxSteps := 1000000) only [f1, f2, encG, clM, clR, clZ, clN, vrest, frzL_vs, kysL_vs, reGL_vs, keysInL_vs, fzL_vs, SubL_vs, nbT, nbF, spl0, List.contains_nil, List.contains_cons, Bool.false_or, Bool.true_or, Bool.or_false, XX, reduceIte, ↓reduceIte, Nat.reduceAdd, Nat.reduceLeDiff, Nat.reduceEqDiff, Nat.reduceLT, Nat.reduceSub, Nat.reduceBEq, forall_const, reduceCtorEq, implies_true, exists_eq_left', exists_eq_left, if_true, if_false, undef]
  refine callM [some 0, some 20, some 2] (h5) (by simp [encG, clM, clR, clZ, clN, vrest, frzL_vs, kysL_vs, reGL_vs, keysInL_vs, fzL_vs, SubL_vs, nbT, nbF, spl0, List.contains_nil, List.contains_cons, Bool.false_or, Bool.true_or, Bool.or_false, XX, undef]) (by simp [encG, clM, clR, clZ, clN, vrest, frzL_vs, kysL_vs, reGL_vs, keysInL_vs, fzL_vs, SubL_vs, nbT, nbF, spl0, List.contains_nil, List.contains_cons, Bool.false_or, Bool.true_or, Bool.or_false, XX, undef]) (by simp [encG, clM, clR, clZ, clN, vrest, frzL_vs, kysL_vs, reGL_vs, keysInL_vs, fzL_vs, SubL_vs, nbT, nbF, spl0, List.contains_nil, List.contains_cons, Bool.false_or, Bool.true_or, Bool.or_false, XX, undef]) ?_
  simp (maxSteps := 1000000) only [encG, clM, clR, clZ, clN, vrest, frzL_vs, kysL_vs, reGL_vs, keysInL_vs, fzL_vs, SubL_vs, nbT, nbF, spl0, List.contains_nil, List.contains_cons, Bool.false_or, Bool.true_or, Bool.or_false, XX, reduceIte, ↓reduceIte, Nat.reduceAdd, Nat.reduceLeDiff, Nat.reduceEqDiff, Nat.reduceLT, Nat.reduceSub, Nat.reduceBEq, forall_const, reduceCtorEq, implies_true, exists_eq_left', exists_eq_left, if_true, if_false, undef]
  refine callM [some 0, some 36, some 2] (h6) (by simp [encG, clM, clR, clZ, clN, vrest, frzL_vs, kysL_vs, reGL_vs, keysInL_vs, fzL_vs, SubL_vs, nbT, nbF, spl0, List.contains_nil, List.contains_cons, Bool.false_or, Bool.true_or, Bool.or_false, XX, undef]) (by simp [encG, clM, clR, clZ, clN, vrest, frzL_vs, kysL_vs, reGL_vs, keysInL_vs, fzL_vs, SubL_vs, nbT, nbF, spl0, List.contains_nil, List.contains_cons, Bool.false_or, Bool.true_or, Bool.or_false, XX, undef]) (by simp [encG, clM, clR, clZ, clN, vrest, frzL_vs, kysL_vs, reGL_vs, keysInL_vs, fzL_vs, SubL_vs, nbT, nbF, spl0, List.contains_nil, List.contains_cons, Bool.false_or, Bool.true_or, Bool.or_false, XX, undef]) ?_
  simp (maxSteps := 1000000) only [encG, clM, clR, clZ, clN, vrest, frzL_vs, kysL_vs, reGL_vs, keysInL_vs, fzL_vs, SubL_vs, nbT, nbF, spl0, List.contains_nil, List.contains_cons, Bool.false_or, Bool.true_or, Bool.or_false, XX, reduceIte, ↓reduceIte, Nat.reduceAdd, Nat.reduceLeDiff, Nat.reduceEqDiff, Nat.reduceLT, Nat.reduceSub, Nat.reduceBEq, forall_const, reduceCtorEq, implies_true, exists_eq_left', exists_eq_left, if_true, if_false, undef]
  refine callM [some 0, some 44, some 2] (h7) (by simp [encG, clM, clR, clZ, clN, vrest, frzL_vs, kysL_vs, reGL_vs, keysInL_vs, fzL_vs, SubL_vs, nbT, nbF, spl0, List.contains_nil, List.contains_cons, Bool.false_or, Bool.true_or, Bool.or_false, XX, undef]) (by simp [encG, clM, clR, clZ, clN, vrest, frzL_vs, kysL_vs, reGL_vs, keysInL_vs, fzL_vs, SubL_vs, nbT, nbF, spl0, List.contains_nil, List.contains_cons, Bool.false_or, Bool.true_or, Bool.or_false, XX, undef]) (by simp [encG, clM, clR, clZ, clN, vrest, frzL_vs, kysL_vs, reGL_vs, keysInL_vs, fzL_vs, SubL_vs, nbT, nbF, spl0, List.contains_nil, List.contains_cons, Bool.false_or, Bool.true_or, Bool.or_false, XX, undef]) ?_
  simp (maxSteps := 1000000) only [encG, clM, clR, clZ, clN, vrest, frzL_vs, kysL_vs, reGL_vs, keysInL_vs, fzL_vs, SubL_vs, nbT, nbF, spl0, List.contains_nil, List.contains_cons, Bool.false_or, Bool.true_or, Bool.or_false, XX, reduceIte, ↓reduceIte, Nat.reduceAdd, Nat.reduceLeDiff, Nat.reduceEqDiff, Nat.reduceLT, Nat.reduceSub, Nat.reduceBEq, forall_const, reduceCtorEq, implies_true, exists_eq_left', exists_eq_left, if_true, if_false, undef]
  exact ⟨[49], by simp [encG, clM, clR, clZ, clN, vrest, frzL_vs, kysL_vs, reGL_vs, keysInL_vs, fzL_vs, SubL_vs, nbT, nbF, spl0, List.contains_nil, List.contains_cons, Bool.false_or, Bool.true_or, Bool.or_false, XX, undef], by simp [encG, clM, clR, clZ, clN, vrest, frzL_vs, kysL_vs, reGL_vs, keysInL_vs, fzL_vs, SubL_vs, nbT, nbF, spl0, List.contains_nil, List.contains_cons, Bool.false_or, Bool.true_or, Bool.or_false, XX, undef], by simp [encG, clM, clR, clZ, clN, vrest, frzL_vs, kysL_vs, reGL_vs, keysInL_vs, fzL_vs, SubL_vs, nbT, nbF, spl0, List.contains_nil, List.contains_cons, Bool.false_or, Bool.true_or, Bool.or_false, XX, undef]⟩

theorem cchoose0_spec (rest : List Value) (d : Nat) (no yes : Int) (c0 : no ≠ yes) : CallsM Try.prog 40 [.ptr 0 0, IN d, I no, I yes] (clZ rest) (I (choR [] d no yes).2) (clN rest (choR [] d no yes).1) := by
  have e0 : (no == yes) = false := by simpa using c0
  have hch : choR [] d no yes = if no = -2 then orR (notR (inR [] d).1 (inR [] d).2).1 (notR (inR [] d).1 (inR [] d).2).2 yes
    else if yes = -2 then orR (notR (inR [] d).1 (inR [] d).2).1 (inR [] d).2 no
    else orR (andR (andR (notR (inR [] d).1 (inR [] d).2).1 (inR [] d).2 yes).1 (notR (inR [] d).1 (inR [] d).2).2 no).1 (andR (notR (inR [] d).1 (inR [] d).2).1 (inR [] d).2 yes).2
      (andR (andR (notR (inR [] d).1 (inR [] d).2).1 (inR [] d).2 yes).1 (notR (inR [] d).1 (inR [] d).2).2 no).2 := by unfold choR; rw [if_neg c0]
  rw [hch]
  have h1 : CallsM Try.prog 47 [.ptr 0 0, IN d] (clZ rest) (I (inR [] d).2) (clN rest (inR [] d).1) := cin0_spec rest d
  have l1 := inR_len [] d
  simp only [List.length_nil] at l1
  generalize inR [] d = r at *
  have l2 := notR_len r.1 r.2
  have h2 := cnot_spec rest r.1 r.2 (by omega)
  generalize notR r.1 r.2 = s at *
  have h3 := cor_spec rest s.1 s.2 yes (by omega)
  have h4 := cor_spec rest s.1 r.2 no (by omega)
  have h5 := cand_spec rest s.1 r.2 yes (by omega)
  have l5 := andR_len s.1 r.2 yes
  generalize andR s.1 r.2 yes = a at *
  have h6 := cand_spec rest a.1 s.2 no (by omega)
  have l6 := andR_len a.1 s.2 no
  generalize andR a.1 s.2 no = b at *
  have h7 := cor_spec rest b.1 a.2 b.2 (by omega)
  generalize orR b.1 a.2 b.2 = o7 at *
  generalize orR s.1 s.2 yes = o3 at *
  generalize orR s.1 r.2 no = o4 at *
  refine fnM_of comp40 (by simp) (by simp [clZ, clN]) ?_
  unfold code40
  simp (maxSteps := 1000000) only [memOf, e0, encG, clM, clR, clZ, clN, vrest, frzL_vs, kysL_vs, reGL_vs, keysInL_vs, fzL_vs, SubL_vs, nbT, nbF, spl0, List.contains_nil, List.contains_cons, Bool.false_or, Bool.true_or, Bool.or_false, XX, reduceIte, ↓reduceIte, Nat.reduceAdd, Nat.reduceLeDiff, Nat.reduceEqDiff, Nat.reduceLT, Nat.reduceSub, Nat.reduceBEq, forall_const, reduceCtorEq, implies_true, exists_eq_left', exists_eq_left, if_true, if_false, undef]
  refine callM [some 0] (h1) (by simp [encG, clM, clR, clZ, clN, vrest, frzL_vs, kysL_vs, reGL_vs, keysInL_vs, fzL_vs, SubL_vs, nbT, nbF, spl0, List.contains_nil, List.contains_cons, Bool.false_or, Bool.true_or, Bool.or_false, XX, undef]) (by simp [encG, clM, clR, clZ, clN, vrest, frzL_vs, kysL_vs, reGL_vs, keysInL_vs, fzL_vs, SubL_vs, nbT, nbF, spl0, List.contains_nil, List.contains_cons, Bool.false_or, Bool.true_or, Bool.or_false, XX, undef]) (by simp [encG, clM, clR, clZ, clN, vrest, frzL_vs, kysL_vs, reGL_vs, keysInL_vs, fzL_vs, SubL_vs, nbT, nbF, spl0, List.contains_nil, List.contains_cons, Bool.false_or, Bool.true_or, Bool.or_false, XX, undef]) ?_
  simp (maxSteps := 1000000) only [encG, clM, clR, clZ, clN, vrest, frzL_vs, kysL_vs, reGL_vs, keysInL_vs, fzL_vs, SubL_vs, nbT, nbF, spl0, List.contains_nil, List.contains_cons, Bool.false_or, Bool.true_or, Bool.or_false, XX, reduceIte, ↓reduceIte, Nat.reduceAdd, Nat.reduceLeDiff, Nat.reduceEqDiff, Nat.reduceLT, Nat.reduceSub, Nat.reduceBEq, forall_const, reduceCtorEq, implies_true, exists_eq_left', exists_eq_left, if_true, if_false, undef]
  refine callM [some 0, some 8, some 9] (h2) (by simp [encG, clM, clR, clZ, clN, vrest, frzL_vs, kysL_vs, reGL_vs, keysInL_vs, fzL_vs, SubL_vs, nbT, nbF, spl0, List.contains_nil, List.contains_cons, Bool.false_or, Bool.true_or, Bool.or_false, XX, undef]) (by simp [encG, clM, clR, clZ, clN, vrest, frzL_vs, kysL_vs, reGL_vs, keysInL_vs, fzL_vs, SubL_vs, nbT, nbF, spl0, List.contains_nil, List.contains_cons, Bool.false_or, Bool.true_or, Bool.or_false, XX, undef]) (by simp [encG, clM, clR, clZ, clN, vrest, frzL_vs, kysL_vs, reGL_vs, keysInL_vs, fzL_vs, SubL_vs, nbT, nbF, spl0, List.contains_nil, List.contains_cons, Bool.false_or, Bool.true_or, Bool.or_false, XX, undef]) ?_
  simp (maxSteps := 1000000) only [encG, clM, clR, clZ, clN, vrest, frzL_vs, kysL_vs, reGL_vs, keysInL_vs, fzL_vs, SubL_vs, nbT, nbF, spl0, List.contains_nil, List.contains_cons, Bool.false_or, Bool.true_or, Bool.or_false, XX, reduceIte, ↓reduceIte, Nat.reduceAdd, Nat.reduceLeDiff, Nat.reduceEqDiff, Nat.reduceLT, Nat.reduceSub, Nat.reduceBEq, forall_const, reduceCtorEq, implies_true, exists_eq_left', exists_eq_left, if_true, if_false, undef]
  by_cases c1 : no = -2
  · have f1 : (no == -2) = true := by simpa using c1
    rw [if_pos c1]
    simp (maxSteps := 1000000) only [f1, encG, clM, clR, clZ, clN, vrest, frzL_vs, kysL_vs, reGL_vs, keysInL_vs, fzL_vs, SubL_vs, nbT, nbF, spl0, List.contains_nil, List.contains_cons, Bool.false_or, Bool.true_or, Bool.or_false, XX, reduceIte, ↓reduceIte, Nat.reduceAdd, Nat.reduceLeDiff, Nat.reduceEqDiff, Nat.reduceLT, Nat.reduceSub, Nat.reduceBEq, forall_const, reduceCtorEq, implies_true, exists_eq_left', exists_eq_left, if_true, if_false, undef]
    refine callM [some 0, some 17, some 9] (h3) (by simp [encG, clM, clR, clZ, clN, vrest, frzL_vs, kysL_vs, reGL_vs, keysInL_vs, fzL_vs, SubL_vs, nbT, nbF, spl0, List.contains_nil, List.contains_cons, Bool.false_or, Bool.true_or, Bool.or_false, XX, undef]) (by simp [encG, clM, clR, clZ, clN, vrest, frzL_vs, kysL_vs, reGL_vs, keysInL_vs, fzL_vs, SubL_vs, nbT, nbF, spl0, List.contains_nil, List.contains_cons, Bool.false_or, Bool.true_or, Bool.or_false, XX, undef]) (by simp [encG, clM, clR, clZ, clN, vrest, frzL_vs, kysL_vs, reGL_vs, keysInL_vs, fzL_vs, SubL_vs, nbT, nbF, spl0, List.contains_nil, List.contains_cons, Bool.false_or, Bool.true_or, Bool.or_false, XX, undef]) ?_
    simp (maxSteps := 1000000) only [encG, clM, clR, clZ, clN, vrest, frzL_vs, kysL_vs, reGL_vs, keysInL_vs, fzL_vs, SubL_vs, nbT, nbF, spl0, List.contains_nil, List.contains_cons, Bool.false_or, Bool.true_or, Bool.or_false, XX, reduceIte, ↓reduceIte, Nat.reduceAdd, Nat.reduceLeDiff, Nat.reduceEqDiff, Nat.reduceLT, Nat.reduceSub, Nat.reduceBEq, forall_const, reduceCtorEq, implies_true, exists_eq_left', exists_eq_left, if_true, if_false, undef]
    exact ⟨[29, 9], by simp [encG, clM, clR, clZ, clN, vrest, frzL_vs, kysL_vs, reGL_vs, keysInL_vs, fzL_vs, SubL_vs, nbT, nbF, spl0, List.contains_nil, List.contains_cons, Bool.false_or, Bool.true_or, Bool.or_false, XX, undef], by simp [encG, clM, clR, clZ, clN, vrest, frzL_vs, kysL_vs, reGL_vs, keysInL_vs, fzL_vs, SubL_vs, nbT, nbF, spl0, List.contains_nil, List.contains_cons, Bool.false_or, Bool.true_or, Bool.or_false, XX, undef], by simp [encG, clM, clR, clZ, clN, vrest, frzL_vs, kysL_vs, reGL_vs, keysInL_vs, fzL_vs, SubL_vs, nbT, nbF, spl0, List.contains_nil, List.contains_cons, Bool.false_or, Bool.true_or, Bool.or_false, XX, undef]⟩
  have f1 : (no == -2) = false := by simpa using c1
  rw [if_neg c1]
  by_cases c2 : yes = -2
  · have f2 : (yes == -2) = true := by simpa using c2
    rw [if_pos c2]
    simp (maxSteps := 1000000) only [f1, f2, encG, clM, clR, clZ, clN, vrest, frzL_vs, kysL_vs, reGL_vs, keysInL_vs, fzL_vs, SubL_vs, nbT, nbF, spl0, List.contains_nil, List.contains_cons, Bool.false_or, Bool.true_or, Bool.or_false, XX, reduceIte, ↓reduceIte, Nat.reduceAdd, Nat.reduceLeDiff, Nat.reduceEqDiff, Nat.reduceLT, Nat.reduceSub, Nat.reduceBEq, forall_const, reduceCtorEq, implies_true, exists_eq_left', exists_eq_left, if_true, if_false, undef]
    refine callM [some 0, some 17, some 9] (h4) (by simp [encG, clM, clR, clZ, clN, vrest, frzL_vs, kysL_vs, reGL_vs, keysInL_vs, fzL_vs, SubL_vs, nbT, nbF, spl0, List.contains_nil, List.contains_cons, Bool.false_or, Bool.true_or, Bool.or_false, XX, undef]) (by simp [encG, clM, clR, clZ, clN, vrest, frzL_vs, kysL_vs, reGL_vs, keysInL_vs, fzL_vs, SubL_vs, nbT, nbF, spl0, List.contains_nil, List.contains_cons, Bool.false_or, Bool.true_or, Bool.or_false, XX, undef]) (by simp [encG, clM, clR, clZ, clN, vrest, frzL_vs, kysL_vs, reGL_vs, keysInL_vs, fzL_vs, SubL_vs, nbT, nbF, spl0, List.contains_nil, List.contains_cons, Bool.false_or, Bool.true_or, Bool.or_false, XX, undef]) ?_
    simp (maxSteps := 1000000) only [encG, clM, clR, clZ, clN, vrest, frzL_vs, kysL_vs, reGL_vs, keysInL_vs, fzL_vs, SubL_vs, nbT, nbF, spl0, List.contains_nil, List.contains_cons, Bool.false_or, Bool.true_or, Bool.or_false, XX, reduceIte, ↓reduceIte, Nat.reduceAdd, Nat.reduceLeDiff, Nat.reduceEqDiff, Nat.reduceLT, Nat.reduceSub, Nat.reduceBEq, forall_const, reduceCtorEq, implies_true, exists_eq_left', exists_eq_left, if_true, if_false, undef]
    exact ⟨[32, 9], by simp [encG, clM, clR, clZ, clN, vrest, frzL_vs, kysL_vs, reGL_vs, keysInL_vs, fzL_vs, SubL_vs, nbT, nbF, spl0, List.contains_nil, List.contains_cons, Bool.false_or, Bool.true_or, Bool.or_false, XX, undef], by simp [encG, clM, clR, clZ, clN, vrest, frzL_vs, kysL_vs, reGL_vs, keysInL_vs, fzL_vs, SubL_vs, nbT, nbF, spl0, List.contains_nil, List.contains_cons, Bool.false_or, Bool.true_or, Bool.or_false, XX, undef], by simp [encG, clM, clR, clZ, clN, vrest, frzL_vs, kysL_vs, reGL_vs, keysInL_vs, fzL_vs, SubL_vs, nbT, nbF, spl0, List.contains_nil, List.contains_cons, Bool.false_or, Bool.true_or, Bool.or_false, XX, undef]⟩
  have f2 : (yes == -2) = false := by simpa using c2
  rw [if_neg c2]
  simp (maxSteps := 1000000) only [f1, f2, encG, clM, clR, clZ, clN, vrest, frzL_vs, kysL_vs, reGL_vs, keysInL_vs, fzL_vs, SubL_vs, nbT, nbF, spl0, List.contains_nil, List.contains_cons, Bool.false_or, Bool.true_or, Bool.or_false, XX, reduceIte, ↓reduceIte, Nat.reduceAdd, Nat.reduceLeDiff, Nat.reduceEqDiff, Nat.reduceLT, Nat.reduceSub, Nat.reduceBEq, forall_const, reduceCtorEq, implies_true, exists_eq_left', exists_eq_left, if_true, if_false, undef]
  refine callM [some 0, some 17, some 9] (h5) (by simp [encG, clM, clR, clZ, clN, vrest, frzL_vs, kysL_vs, reGL_vs, keysInL_vs, fzL_vs, SubL_vs, nbT, nbF, spl0, List.contains_nil, List.contains_cons, Bool.false_or, Bool.true_or, Bool.or_false, XX, undef]) (by simp [encG, clM, clR, clZ, clN, vrest, frzL_vs, kysL_vs, reGL_vs, keysInL_vs, fzL_vs, SubL_vs, nbT, nbF, spl0, List.contains_nil, List.contains_cons, Bool.false_or, Bool.true_or, Bool.or_false, XX, undef]) (by simp [encG, clM, clR, clZ, clN, vrest, frzL_vs, kysL_vs, reGL_vs, keysInL_vs, fzL_vs, SubL_vs, nbT, nbF, spl0, List.contains_nil, List.contains_cons, Bool.false_or, Bool.true_or, Bool.or_false, XX, undef]) ?_
  simp (maxSteps := 1000000) only [encG, clM, clR, clZ, clN, vrest, frzL_vs, kysL_vs, reGL_vs, keysInL_vs, fzL_vs, SubL_vs, nbT, nbF, spl0, List.contains_nil, List.contains_cons, Bool.false_or, Bool.true_or, Bool.or_false, XX, reduceIte, ↓reduceIte, Nat.reduceAdd, Nat.reduceLeDiff, Nat.reduceEqDiff, Nat.reduceLT, Nat.reduceSub, Nat.reduceBEq, forall_const, reduceCtorEq, implies_true, exists_eq_left', exists_eq_left, if_true, if_false, undef]
  refine callM [some 0, some 33, some 9] (h6) (by simp [encG, clM, clR, clZ, clN, vrest, frzL_vs, kysL_vs, reGL_vs, keysInL_vs, fzL_vs, SubL_vs, nbT, nbF, spl0, List.contains_nil, List.contains_cons, Bool.false_or, Bool.true_or, Bool.or_false, XX, undef]) (by simp [encG, clM, clR, clZ, clN, vrest, frzL_vs, kysL_vs, reGL_vs, keysInL_vs, fzL_vs, SubL_vs, nbT, nbF, spl0, List.contains_nil, List.contains_cons, Bool.false_or, Bool.true_or, Bool.or_false, XX, undef]) (by simp [encG, clM, clR, clZ, clN, vrest, frzL_vs, kysL_vs, reGL_vs, keysInL_vs, fzL_vs, SubL_vs, nbT, nbF, spl0, List.contains_nil, List.contains_cons, Bool.false_or, Bool.true_or, Bool.or_false, XX, undef]) ?_
  simp (maxSteps := 1000000) only [encG, clM, clR, clZ, clN, vrest, frzL_vs, kysL_vs, reGL_vs, keysInL_vs, fzL_vs, SubL_vs, nbT, nbF, spl0, List.contains_nil, List.contains_cons, Bool.false_or, Bool.true_or, Bool.or_false, XX, reduceIte, ↓reduceIte, Nat.reduceAdd, Nat.reduceLeDiff, Nat.reduceEqDiff, Nat.reduceLT, Nat.reduceSub, Nat.reduceBEq, forall_const, reduceCtorEq, implies_true, exists_eq_left', exists_eq_left, if_true, if_false, undef]
  refine callM [some 0, some 41, some 9] (h7) (by simp [encG, clM, clR, clZ, clN, vrest, frzL_vs, kysL_vs, reGL_vs, keysInL_vs, fzL_vs, SubL_vs, nbT, nbF, spl0, List.contains_nil, List.contains_cons, Bool.false_or, Bool.true_or, Bool.or_false, XX, undef]) (by simp [encG, clM, clR, clZ, clN, vrest, frzL_vs, kysL_vs, reGL_vs, keysInL_vs, fzL_vs, SubL_vs, nbT, nbF, spl0, List.contains_nil, List.contains_cons, Bool.false_or, Bool.true_or, Bool.or_false, XX, undef]) (by simp [encG, clM, clR, clZ, clN, vrest, frzL_vs, kysL_vs, reGL_vs, keysInL_vs, fzL_vs, SubL_vs, nbT, nbF, spl0, List.contains_nil, List.contains_cons, Bool.false_or, Bool.true_or, Bool.or_false, XX, undef]) ?_
  simp (maxSteps := 1000000) only [encG, clM, clR, clZ, clN, vrest, frzL_vs, kysL_vs, reGL_vs, keysInL_vs, fzL_vs, SubL_vs, nbT, nbF, spl0, List.contains_nil, List.contains_cons, Bool.false_or, Bool.true_or, Bool.or_false, XX, reduceIte, ↓reduceIte, Nat.reduceAdd, Nat.reduceLeDiff, Nat.reduceEqDiff, Nat.reduceLT, Nat.reduceSub, Nat.reduceBEq, forall_const, reduceCtorEq, implies_true, exists_eq_left', exists_eq_left, if_true, if_false, undef]
  exact ⟨[46, 9], by simp [encG, clM, clR, clZ, clN, vrest, frzL_vs, kysL_vs, reGL_vs, keysInL_vs, fzL_vs, SubL_vs, nbT, nbF, spl0, List.contains_nil, List.contains_cons, Bool.false_or, Bool.true_or, Bool.or_false, XX, undef], by simp [encG, clM, clR, clZ, clN, vrest, frzL_vs, kysL_vs, reGL_vs, keysInL_vs, fzL_vs, SubL_vs, nbT, nbF, spl0, List.contains_nil, List.contains_cons, Bool.false_or, Bool.true_or, Bool.or_false, XX, undef], by simp [encG, clM, clR, clZ, clN, vrest, frzL_vs, kysL_vs, reGL_vs, keysInL_vs, fzL_vs, SubL_vs, nbT, nbF, spl0, List.contains_nil, List.contains_cons, Bool.false_or, Bool.true_or, Bool.or_false, XX, undef]⟩

theorem cchooseS_spec (rest : List Value) (d : Nat) (no : Int) : CallsM Try.prog 40 [.ptr 0 0, IN d, I no, I no] (clZ rest) (I no) [some (.box (.v (.slice none 0 0) :: .v (.map none) :: vrest rest))] := by
  have e0 : (no == no) = true := by simp
  refine fnM_of comp40 (by simp) (by simp [clZ]) ?_
  unfold code40
  simp (maxSteps := 1000000) only [memOf, e0, encG, clM, clR, clZ, clN, vrest, frzL_vs, kysL_vs, reGL_vs, keysInL_vs, fzL_vs, SubL_vs, nbT, nbF, spl0, List.contains_nil, List.contains_cons, Bool.false_or, Bool.true_or, Bool.or_false, XX, reduceIte, ↓reduceIte, Nat.reduceAdd, Nat.reduceLeDiff, Nat.reduceEqDiff, Nat.reduceLT, Nat.reduceSub, Nat.reduceBEq, forall_const, reduceCtorEq, implies_true, exists_eq_left', exists_eq_left, if_true, if_false, undef]
  exact ⟨[], by simp, by simp [encG, clM, clR, clZ, clN, vrest, frzL_vs, kysL_vs, reGL_vs, keysInL_vs, fzL_vs, SubL_vs, nbT, nbF, spl0, List.contains_nil, List.contains_cons, Bool.false_or, Bool.true_or, Bool.or_false, XX, undef]⟩

end Go.Av
