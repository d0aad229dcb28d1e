/- The builder of circuits: the program's functions. What stands behind its two fields is left alone. -/
import Derived.Test.YtoffjeeajdmgfaaCirA
import Derived.Test.YtoffjeeajdmgfaaRekey
set_option linter.unusedSimpArgs false
set_option linter.unusedVariables false
set_option maxRecDepth 100000
namespace Go.Av
open Go.Proofs

theorem keysInL_vs (vs : List Value) : keysInL (vs.map .v) = [] := by
  induction vs with
  | nil => rfl
  | cons x xs ih => simp [keysInL, ih, keysIn]
theorem fzL_vs (ks : List Nat) (m : Mem) (vs : List Value) : fzL ks m (vs.map .v) = vs.map .v := by
  induction vs with
  | nil => rfl
  | cons x xs ih => simp [fzL, ih, fz]
theorem SubL_vs (n : Nat) (rho : List (Option Nat)) (vs : List Value) : SubL n rho (vs.map .v) (vs.map .v) = True := by
  induction vs with
  | nil => simp [SubL]
  | cons x xs ih => simp [SubL, Sub, ih]
theorem spl0 (cs : List AV) : splice cs 0 [] = cs := by cases cs <;> rfl
theorem nbT : (true != false) = true := rfl
theorem nbF : (false != false) = false := rfl

def gcell (g : Gt) : List Value := [.int .i64 g.kind, .int .i64 g.a, .int .i64 g.b]
def knE : Nat → List Gt → List (Value × AV)
  | _, [] => []
  | i, g :: r => (.agg (gcell g).toArray, IN i) :: knE (i + 1) r

theorem knE_keys : ∀ (i : Nat) (gs : List Gt), AKeys [.n .i64, .n .i64, .n .i64] (knE i gs)
  | i, [], p, hp => by simp [knE] at hp
  | i, g :: gs, p, hp => by
    rcases List.mem_cons.1 hp with rfl | hp
    · exact ⟨_, rfl, by simp [gcell, cksOk, ckOk]⟩
    · exact knE_keys (i + 1) gs p hp
theorem knE_T (i : Nat) (gs : List Gt) : AKeys [.n .i64, .n .i64, .n .i64] (knE i gs) = True := eq_true (knE_keys i gs)
theorem gkey (g h : Gt) : akeyIs (gcell g) (.agg (gcell h).toArray) = decide (h.kind = g.kind ∧ h.a = g.a ∧ h.b = g.b) := by
  simp only [akeyIs, gcell, cellsEq, cellEq, Bool.and_true]
  rw [Bool.eq_iff_iff]
  simp only [Bool.and_eq_true, decide_eq_true_eq]
  exact ⟨fun h => ⟨h.1.symm, h.2.1.symm, h.2.2.symm⟩, fun h => ⟨h.1.symm, h.2.1.symm, h.2.2.symm⟩⟩
theorem knE_find (g : Gt) : ∀ (i : Nat) (gs : List Gt), kfind (gcell g) (knE i gs) = (gpos g gs).map fun n => IN (i + n)
  | i, [] => rfl
  | i, h :: gs => by
    simp only [knE, kfind, gkey, gpos]
    by_cases hc : h.kind = g.kind ∧ h.a = g.a ∧ h.b = g.b
    · rw [if_pos hc, decide_eq_true hc]; rfl
    · rw [if_neg hc, decide_eq_false hc]
      simp only [cond_false]
      rw [knE_find g (i + 1) gs]
      cases gpos g gs with
      | none => rfl
      | some n => simp only [Option.map_some]; rw [show i + 1 + n = i + (n + 1) by omega]
theorem knE_put (g : Gt) : ∀ (i : Nat) (gs : List Gt), gpos g gs = none → kput (gcell g) (IN (i + gs.length)) (knE i gs) = knE i (gs ++ [g])
  | i, [], _ => by simp [knE, kput]
  | i, h :: gs, hn => by
    simp only [gpos] at hn
    split at hn
    · cases hn
    · rename_i hc
      have := knE_put g (i + 1) gs (by simpa using hn)
      simp only [knE, kput, gkey, decide_eq_false hc, cond_false, List.length_cons, List.cons_append]
      rw [show i + (gs.length + 1) = i + 1 + gs.length by omega, this]


abbrev vrest (rest : List Value) : List AV := rest.map .v
/-- a builder that has gates, and one that has none -/
def clM (rest : List Value) (gs : List Gt) : List MObj := [.box (.arr 1 0 gs.length :: .mp 2 :: vrest rest), .arr 3 (gs.map encG), .map (knE 0 gs)]
def clR (rest : List Value) (gs : List Gt) : List (Option MObj) := [some (.box (.arr 3 0 gs.length :: .mp 2 :: vrest rest)), none, some (.map (knE 0 gs)), some (.arr 3 (gs.map encG))]
def clZ (rest : List Value) : List MObj := [.box (.v (.slice none 0 0) :: .v (.map none) :: vrest rest)]
def clN (rest : List Value) (gs : List Gt) : List (Option MObj) := [some (.box (.arr 1 0 gs.length :: .mp 2 :: vrest rest)), some (.arr 3 (gs.map encG)), some (.map (knE 0 gs))]

theorem cadd_spec (rest : List Value) (gs : List Gt) (g : Gt) (hl : gs.length ≤ 100000) : CallsM Try.prog 59 [.ptr 0 0, encG g] (clM rest gs) (IN (addN gs g)) (clR rest (addG gs g)) := by
  have hll : (gs.map encG).length = gs.length := by simp
  have hv : valsL [I g.kind, I g.a, I g.b] = some (gcell g) := rfl
  have hk : cksOk [.n .i64, .n .i64, .n .i64] (gcell g) = true := by simp [gcell, cksOk, ckOk]
  have hf := knE_find g 0 gs
  cases hp : gpos g gs with
  | some n =>
    rw [hp] at hf
    simp only [Option.map_some, Nat.zero_add] at hf
    have e1 : addG gs g = gs := by unfold addG; rw [hp]
    have e2 : addN gs g = n := by unfold addN; rw [hp]; rfl
    rw [e1, e2]
    have key : CallsM Try.prog 59 [.ptr 0 0, encG g] (clM rest gs) (IN n) [some (.box (.arr 1 0 gs.length :: .mp 2 :: vrest rest)), some (.arr 3 (gs.map encG)), some (.map (knE 0 gs))] := by
      refine fnM_of comp59 (by simp) (by simp [clM]) ?_
      unfold code59
      simp (maxSteps := 1000000) only [memOf, encG, clM, clR, clZ, clN, vrest, frzL_vs, kysL_vs, reGL_vs, keysInL_vs, fzL_vs, SubL_vs, nbT, nbF, spl0, XX, reduceIte, ↓reduceIte, Nat.reduceAdd, Nat.reduceLeDiff, Nat.reduceEqDiff, Nat.reduceLT, Nat.reduceSub, Nat.reduceBEq, forall_const, reduceCtorEq, implies_true, exists_eq_left', exists_eq_left, if_true, if_false, undef]
      refine KeyVC.mk (gcell g) hv hk ?_
      simp (maxSteps := 1000000) only [knE_T, hf, Option.getD_some, Option.isSome_some, encG, clM, clR, clZ, clN, vrest, frzL_vs, kysL_vs, reGL_vs, keysInL_vs, fzL_vs, SubL_vs, nbT, nbF, spl0, XX, reduceIte, ↓reduceIte, Nat.reduceAdd, Nat.reduceLeDiff, Nat.reduceEqDiff, Nat.reduceLT, Nat.reduceSub, Nat.reduceBEq, forall_const, reduceCtorEq, implies_true, exists_eq_left', exists_eq_left, if_true, if_false, undef]
      exact ⟨[], by simp, by simp [encG, clM, clR, clZ, clN, vrest, frzL_vs, kysL_vs, reGL_vs, keysInL_vs, fzL_vs, SubL_vs, nbT, nbF, spl0, XX, undef]⟩
    have hx := key.rekey 1 rfl rfl rfl
    simp only [reO, reG, reGL, reGL_vs, swp, List.map_cons, List.map_nil, Option.map_some, List.set_cons_zero, List.set_cons_succ, List.length_cons, List.length_nil, List.cons_append, List.nil_append] at hx
    exact hx
  | none =>
    rw [hp] at hf
    simp only [Option.map_none] at hf
    have e1 : addG gs g = gs ++ [g] := by unfold addG; rw [hp]
    have e2 : addN gs g = gs.length := by unfold addN; rw [hp]; rfl
    have hput := knE_put g 0 gs hp
    rw [Nat.zero_add] at hput
    rw [e1, e2]
    refine fnM_of comp59 (by simp) (by simp [clM, clR]) ?_
    unfold code59
    simp (maxSteps := 1000000) only [memOf, encG, clM, clR, clZ, clN, vrest, frzL_vs, kysL_vs, reGL_vs, keysInL_vs, fzL_vs, SubL_vs, nbT, nbF, spl0, XX, reduceIte, ↓reduceIte, Nat.reduceAdd, Nat.reduceLeDiff, Nat.reduceEqDiff, Nat.reduceLT, Nat.reduceSub, Nat.reduceBEq, forall_const, reduceCtorEq, implies_true, exists_eq_left', exists_eq_left, if_true, if_false, undef]
    refine KeyVC.mk (gcell g) hv hk ?_
    simp (maxSteps := 1000000) only [knE_T, hf, hll, Option.getD_none, Option.isSome_none, encG, clM, clR, clZ, clN, vrest, frzL_vs, kysL_vs, reGL_vs, keysInL_vs, fzL_vs, SubL_vs, nbT, nbF, spl0, XX, reduceIte, ↓reduceIte, Nat.reduceAdd, Nat.reduceLeDiff, Nat.reduceEqDiff, Nat.reduceLT, Nat.reduceSub, Nat.reduceBEq, forall_const, reduceCtorEq, implies_true, exists_eq_left', exists_eq_left, if_true, if_false, undef]
    refine KeyVC.mk (gcell g) hv hk ?_
    simp (maxSteps := 1000000) only [knE_T, hput, hll, encG, clM, clR, clZ, clN, vrest, frzL_vs, kysL_vs, reGL_vs, keysInL_vs, fzL_vs, SubL_vs, nbT, nbF, spl0, XX, reduceIte, ↓reduceIte, Nat.reduceAdd, Nat.reduceLeDiff, Nat.reduceEqDiff, Nat.reduceLT, Nat.reduceSub, Nat.reduceBEq, forall_const, reduceCtorEq, implies_true, exists_eq_left', exists_eq_left, if_true, if_false, undef]
    exact ⟨by omega, [43], by simp [encG, clM, clR, clZ, clN, vrest, frzL_vs, kysL_vs, reGL_vs, keysInL_vs, fzL_vs, SubL_vs, nbT, nbF, spl0, XX, undef], by simp [encG, clM, clR, clZ, clN, vrest, frzL_vs, kysL_vs, reGL_vs, keysInL_vs, fzL_vs, SubL_vs, nbT, nbF, spl0, XX, undef], by simp [encG, clM, clR, clZ, clN, vrest, frzL_vs, kysL_vs, reGL_vs, keysInL_vs, fzL_vs, SubL_vs, nbT, nbF, spl0, XX, undef]⟩

theorem cadd0_spec (rest : List Value) (g : Gt) : CallsM Try.prog 59 [.ptr 0 0, encG g] (clZ rest) (IN 0) (clN rest [g]) := by
  have hv : valsL [I g.kind, I g.a, I g.b] = some (gcell g) := rfl
  have hk : cksOk [.n .i64, .n .i64, .n .i64] (gcell g) = true := by simp [gcell, cksOk, ckOk]
  refine fnM_of comp59 (by simp) (by simp [clZ, clN]) ?_
  unfold code59
  simp (maxSteps := 1000000) only [memOf, encG, clM, clR, clZ, clN, vrest, frzL_vs, kysL_vs, reGL_vs, keysInL_vs, fzL_vs, SubL_vs, nbT, nbF, spl0, XX, reduceIte, ↓reduceIte, Nat.reduceAdd, Nat.reduceLeDiff, Nat.reduceEqDiff, Nat.reduceLT, Nat.reduceSub, Nat.reduceBEq, forall_const, reduceCtorEq, implies_true, exists_eq_left', exists_eq_left, if_true, if_false, undef]
  refine KeyVC.mk (gcell g) hv hk ?_
  have hT : AKeys [.n .i64, .n .i64, .n .i64] [] = True := eq_true (fun p hp => by simp at hp)
  simp (maxSteps := 1000000) only [hT, kfind, Option.getD_none, Option.isSome_none, encG, clM, clR, clZ, clN, vrest, frzL_vs, kysL_vs, reGL_vs, keysInL_vs, fzL_vs, SubL_vs, nbT, nbF, spl0, XX, reduceIte, ↓reduceIte, Nat.reduceAdd, Nat.reduceLeDiff, Nat.reduceEqDiff, Nat.reduceLT, Nat.reduceSub, Nat.reduceBEq, forall_const, reduceCtorEq, implies_true, exists_eq_left', exists_eq_left, if_true, if_false, undef]
  refine KeyVC.mk (gcell g) hv hk ?_
  simp (maxSteps := 1000000) only [hT, kput, encG, clM, clR, clZ, clN, vrest, frzL_vs, kysL_vs, reGL_vs, keysInL_vs, fzL_vs, SubL_vs, nbT, nbF, spl0, XX, reduceIte, ↓reduceIte, Nat.reduceAdd, Nat.reduceLeDiff, Nat.reduceEqDiff, Nat.reduceLT, Nat.reduceSub, Nat.reduceBEq, forall_const, reduceCtorEq, implies_true, exists_eq_left', exists_eq_left, if_true, if_false, undef]
  exact ⟨[46, 9], by simp [encG, clM, clR, clZ, clN, vrest, frzL_vs, kysL_vs, reGL_vs, keysInL_vs, fzL_vs, SubL_vs, nbT, nbF, spl0, XX, undef], by simp [knE, encG, clM, clR, clZ, clN, vrest, frzL_vs, kysL_vs, reGL_vs, keysInL_vs, fzL_vs, SubL_vs, nbT, nbF, spl0, XX, undef], by simp [knE, encG, clM, clR, clZ, clN, vrest, frzL_vs, kysL_vs, reGL_vs, keysInL_vs, fzL_vs, SubL_vs, nbT, nbF, spl0, XX, undef]⟩

theorem cin_spec (rest : List Value) (gs : List Gt) (a : Int) (hl : gs.length ≤ 100000) : CallsM Try.prog 47 [.ptr 0 0, I a] (clM rest gs) (I (inR gs a).2) (clR rest (inR gs a).1) := by
  refine fnM_of comp47 (by simp) (by simp [clM, clR]) ?_
  unfold code47
  simp (maxSteps := 1000000) only [memOf, encG, clM, clR, clZ, clN, vrest, frzL_vs, kysL_vs, reGL_vs, keysInL_vs, fzL_vs, SubL_vs, nbT, nbF, spl0, XX, reduceIte, ↓reduceIte, Nat.reduceAdd, Nat.reduceLeDiff, Nat.reduceEqDiff, Nat.reduceLT, Nat.reduceSub, Nat.reduceBEq, forall_const, reduceCtorEq, implies_true, exists_eq_left', exists_eq_left, if_true, if_false, undef]
  refine callM [some 0, some 1, some 2] (cadd_spec rest gs ⟨1, a, 0⟩ hl) (by simp [encG, clM, clR, clZ, clN, vrest, frzL_vs, kysL_vs, reGL_vs, keysInL_vs, fzL_vs, SubL_vs, nbT, nbF, spl0, XX, undef]) (by simp [encG, clM, clR, clZ, clN, vrest, frzL_vs, kysL_vs, reGL_vs, keysInL_vs, fzL_vs, SubL_vs, nbT, nbF, spl0, XX, undef]) (by simp [encG, clM, clR, clZ, clN, vrest, frzL_vs, kysL_vs, reGL_vs, keysInL_vs, fzL_vs, SubL_vs, nbT, nbF, spl0, XX, undef]) ?_
  simp (maxSteps := 1000000) only [inR, addR, encG, clM, clR, clZ, clN, vrest, frzL_vs, kysL_vs, reGL_vs, keysInL_vs, fzL_vs, SubL_vs, nbT, nbF, spl0, XX, reduceIte, ↓reduceIte, Nat.reduceAdd, Nat.reduceLeDiff, Nat.reduceEqDiff, Nat.reduceLT, Nat.reduceSub, Nat.reduceBEq, forall_const, reduceCtorEq, implies_true, exists_eq_left', exists_eq_left, if_true, if_false, undef]
  exact ⟨[10], by simp [encG, clM, clR, clZ, clN, vrest, frzL_vs, kysL_vs, reGL_vs, keysInL_vs, fzL_vs, SubL_vs, nbT, nbF, spl0, XX, undef], by simp [inR, addR, encG, clM, clR, clZ, clN, vrest, frzL_vs, kysL_vs, reGL_vs, keysInL_vs, fzL_vs, SubL_vs, nbT, nbF, spl0, XX, undef], by simp [encG, clM, clR, clZ, clN, vrest, frzL_vs, kysL_vs, reGL_vs, keysInL_vs, fzL_vs, SubL_vs, nbT, nbF, spl0, XX, undef]⟩
theorem cin0_spec (rest : List Value) (a : Int) : CallsM Try.prog 47 [.ptr 0 0, I a] (clZ rest) (IN 0) (clN rest [⟨1, a, 0⟩]) := by
  refine fnM_of comp47 (by simp) (by simp [clZ, clN]) ?_
  unfold code47
  simp (maxSteps := 1000000) only [memOf, encG, clM, clR, clZ, clN, vrest, frzL_vs, kysL_vs, reGL_vs, keysInL_vs, fzL_vs, SubL_vs, nbT, nbF, spl0, XX, reduceIte, ↓reduceIte, Nat.reduceAdd, Nat.reduceLeDiff, Nat.reduceEqDiff, Nat.reduceLT, Nat.reduceSub, Nat.reduceBEq, forall_const, reduceCtorEq, implies_true, exists_eq_left', exists_eq_left, if_true, if_false, undef]
  refine callM [some 0] (cadd0_spec rest ⟨1, a, 0⟩) (by simp [encG, clM, clR, clZ, clN, vrest, frzL_vs, kysL_vs, reGL_vs, keysInL_vs, fzL_vs, SubL_vs, nbT, nbF, spl0, XX, undef]) (by simp [encG, clM, clR, clZ, clN, vrest, frzL_vs, kysL_vs, reGL_vs, keysInL_vs, fzL_vs, SubL_vs, nbT, nbF, spl0, XX, undef]) (by simp [encG, clM, clR, clZ, clN, vrest, frzL_vs, kysL_vs, reGL_vs, keysInL_vs, fzL_vs, SubL_vs, nbT, nbF, spl0, XX, undef]) ?_
  simp (maxSteps := 1000000) only [encG, clM, clR, clZ, clN, vrest, frzL_vs, kysL_vs, reGL_vs, keysInL_vs, fzL_vs, SubL_vs, nbT, nbF, spl0, XX, reduceIte, ↓reduceIte, Nat.reduceAdd, Nat.reduceLeDiff, Nat.reduceEqDiff, Nat.reduceLT, Nat.reduceSub, Nat.reduceBEq, forall_const, reduceCtorEq, implies_true, exists_eq_left', exists_eq_left, if_true, if_false, undef]
  exact ⟨[6, 7], by simp [encG, clM, clR, clZ, clN, vrest, frzL_vs, kysL_vs, reGL_vs, keysInL_vs, fzL_vs, SubL_vs, nbT, nbF, spl0, XX, undef], by simp [encG, clM, clR, clZ, clN, vrest, frzL_vs, kysL_vs, reGL_vs, keysInL_vs, fzL_vs, SubL_vs, nbT, nbF, spl0, XX, undef], by simp [encG, clM, clR, clZ, clN, vrest, frzL_vs, kysL_vs, reGL_vs, keysInL_vs, fzL_vs, SubL_vs, nbT, nbF, spl0, XX, undef]⟩

/-- nothing is added: the gates come back under their own key; told as made anew -/
theorem clM_same {f : FuncId} {args : List AV} {r : AV} (hr : reG (swp 1 3) r = r) (rest : List Value) (gs : List Gt) (h : CallsM Try.prog f args (clM rest gs) r [some (.box (.arr 1 0 gs.length :: .mp 2 :: vrest rest)), some (.arr 3 (gs.map encG)), some (.map (knE 0 gs))]) :
    CallsM Try.prog f args (clM rest gs) r (clR rest gs) := by
  have hx := h.rekey 1 rfl hr rfl
  simp only [reO, reG, reGL, reGL_vs, swp, List.map_cons, List.map_nil, Option.map_some, List.set_cons_zero, List.set_cons_succ, List.length_cons, List.length_nil, List.cons_append, List.nil_append] at hx
  exact hx

theorem cnot_spec (rest : List Value) (gs : List Gt) (a : Int) (hl : gs.length ≤ 100000) : CallsM Try.prog 52 [.ptr 0 0, I a] (clM rest gs) (I (notR gs a).2) (clR rest (notR gs a).1) := by
  by_cases c1 : a = -1
  · have f1 : (a == -1) = true := by simpa using c1
    rw [notR, if_pos c1]
    refine clM_same rfl rest gs ?_
    refine fnM_of comp52 (by simp) (by simp [clM, clR]) ?_
    unfold code52
    simp (maxSteps := 1000000) only [memOf, f1, encG, clM, clR, clZ, clN, vrest, frzL_vs, kysL_vs, reGL_vs, keysInL_vs, fzL_vs, SubL_vs, nbT, nbF, spl0, XX, reduceIte, ↓reduceIte, Nat.reduceAdd, Nat.reduceLeDiff, Nat.reduceEqDiff, Nat.reduceLT, Nat.reduceSub, Nat.reduceBEq, forall_const, reduceCtorEq, implies_true, exists_eq_left', exists_eq_left, if_true, if_false, undef]
    exact ⟨[], by simp, by simp [encG, clM, clR, clZ, clN, vrest, frzL_vs, kysL_vs, reGL_vs, keysInL_vs, fzL_vs, SubL_vs, nbT, nbF, spl0, XX, undef]⟩
  have f1 : (a == -1) = false := by simpa using c1
  by_cases c2 : a = -2
  · have f2 : (a == -2) = true := by simpa using c2
    rw [notR, if_neg c1, if_pos c2]
    refine clM_same rfl rest gs ?_
    refine fnM_of comp52 (by simp) (by simp [clM, clR]) ?_
    unfold code52
    simp (maxSteps := 1000000) only [memOf, f1, f2, encG, clM, clR, clZ, clN, vrest, frzL_vs, kysL_vs, reGL_vs, keysInL_vs, fzL_vs, SubL_vs, nbT, nbF, spl0, XX, reduceIte, ↓reduceIte, Nat.reduceAdd, Nat.reduceLeDiff, Nat.reduceEqDiff, Nat.reduceLT, Nat.reduceSub, Nat.reduceBEq, forall_const, reduceCtorEq, implies_true, exists_eq_left', exists_eq_left, if_true, if_false, undef]
    exact ⟨[], by simp, by simp [encG, clM, clR, clZ, clN, vrest, frzL_vs, kysL_vs, reGL_vs, keysInL_vs, fzL_vs, SubL_vs, nbT, nbF, spl0, XX, undef]⟩
  have f2 : (a == -2) = false := by simpa using c2
  rw [notR, if_neg c1, if_neg c2]
  refine fnM_of comp52 (by simp) (by simp [clM, clR]) ?_
  unfold code52
  simp (maxSteps := 1000000) only [memOf, f1, f2, encG, clM, clR, clZ, clN, vrest, frzL_vs, kysL_vs, reGL_vs, keysInL_vs, fzL_vs, SubL_vs, nbT, nbF, spl0, XX, reduceIte, ↓reduceIte, Nat.reduceAdd, Nat.reduceLeDiff, Nat.reduceEqDiff, Nat.reduceLT, Nat.reduceSub, Nat.reduceBEq, forall_const, reduceCtorEq, implies_true, exists_eq_left', exists_eq_left, if_true, if_false, undef]
  refine callM [some 0, some 1, some 2] (cadd_spec rest gs ⟨2, a, 0⟩ hl) (by simp [encG, clM, clR, clZ, clN, vrest, frzL_vs, kysL_vs, reGL_vs, keysInL_vs, fzL_vs, SubL_vs, nbT, nbF, spl0, XX, undef]) (by simp [encG, clM, clR, clZ, clN, vrest, frzL_vs, kysL_vs, reGL_vs, keysInL_vs, fzL_vs, SubL_vs, nbT, nbF, spl0, XX, undef]) (by simp [encG, clM, clR, clZ, clN, vrest, frzL_vs, kysL_vs, reGL_vs, keysInL_vs, fzL_vs, SubL_vs, nbT, nbF, spl0, XX, undef]) ?_
  simp (maxSteps := 1000000) only [addR, encG, clM, clR, clZ, clN, vrest, frzL_vs, kysL_vs, reGL_vs, keysInL_vs, fzL_vs, SubL_vs, nbT, nbF, spl0, XX, reduceIte, ↓reduceIte, Nat.reduceAdd, Nat.reduceLeDiff, Nat.reduceEqDiff, Nat.reduceLT, Nat.reduceSub, Nat.reduceBEq, forall_const, reduceCtorEq, implies_true, exists_eq_left', exists_eq_left, if_true, if_false, undef]
  trace_state
  exact ⟨[15], by simp [encG, clM, clR, clZ, clN, vrest, frzL_vs, kysL_vs, reGL_vs, keysInL_vs, fzL_vs, SubL_vs, nbT, nbF, spl0, XX, undef], by simp [addR, encG, clM, clR, clZ, clN, vrest, frzL_vs, kysL_vs, reGL_vs, keysInL_vs, fzL_vs, SubL_vs, nbT, nbF, spl0, XX, undef], by simp [encG, clM, clR, clZ, clN, vrest, frzL_vs, kysL_vs, reGL_vs, keysInL_vs, fzL_vs, SubL_vs, nbT, nbF, spl0, XX, undef]⟩

theorem cand_spec (rest : List Value) (gs : List Gt) (a b : Int) (hl : gs.length ≤ 100000) : CallsM Try.prog 51 [.ptr 0 0, I a, I b] (clM rest gs) (I (andR gs a b).2) (clR rest (andR gs a b).1) := by
  by_cases c1 : a = -1
  · have f1 : (a == -1) = true := by simpa using c1
    rw [andR, if_pos (.inl c1)]
    refine clM_same rfl rest gs ?_
    refine fnM_of comp51 (by simp) (by simp [clM, clR]) ?_
    unfold code51
    simp (maxSteps := 1000000) only [memOf, f1, encG, clM, clR, clZ, clN, vrest, frzL_vs, kysL_vs, reGL_vs, keysInL_vs, fzL_vs, SubL_vs, nbT, nbF, spl0, XX, reduceIte, ↓reduceIte, Nat.reduceAdd, Nat.reduceLeDiff, Nat.reduceEqDiff, Nat.reduceLT, Nat.reduceSub, Nat.reduceBEq, forall_const, reduceCtorEq, implies_true, exists_eq_left', exists_eq_left, if_true, if_false, undef]
    exact ⟨[], by simp, by simp [encG, clM, clR, clZ, clN, vrest, frzL_vs, kysL_vs, reGL_vs, keysInL_vs, fzL_vs, SubL_vs, nbT, nbF, spl0, XX, undef]⟩
  have f1 : (a == -1) = false := by simpa using c1
  by_cases c2 : b = -1
  · have f2 : (b == -1) = true := by simpa using c2
    rw [andR, if_pos (.inr c2)]
    refine clM_same rfl rest gs ?_
    refine fnM_of comp51 (by simp) (by simp [clM, clR]) ?_
    unfold code51
    simp (maxSteps := 1000000) only [memOf, f1, f2, encG, clM, clR, clZ, clN, vrest, frzL_vs, kysL_vs, reGL_vs, keysInL_vs, fzL_vs, SubL_vs, nbT, nbF, spl0, XX, reduceIte, ↓reduceIte, Nat.reduceAdd, Nat.reduceLeDiff, Nat.reduceEqDiff, Nat.reduceLT, Nat.reduceSub, Nat.reduceBEq, forall_const, reduceCtorEq, implies_true, exists_eq_left', exists_eq_left, if_true, if_false, undef]
    exact ⟨[], by simp, by simp [encG, clM, clR, clZ, clN, vrest, frzL_vs, kysL_vs, reGL_vs, keysInL_vs, fzL_vs, SubL_vs, nbT, nbF, spl0, XX, undef]⟩
  have f2 : (b == -1) = false := by simpa using c2
  by_cases c3 : a = -2
  · have f3 : (a == -2) = true := by simpa using c3
    rw [andR, if_neg (by omega), if_pos c3]
    refine clM_same rfl rest gs ?_
    refine fnM_of comp51 (by simp) (by simp [clM, clR]) ?_
    unfold code51
    simp (maxSteps := 1000000) only [memOf, f1, f2, f3, encG, clM, clR, clZ, clN, vrest, frzL_vs, kysL_vs, reGL_vs, keysInL_vs, fzL_vs, SubL_vs, nbT, nbF, spl0, XX, reduceIte, ↓reduceIte, Nat.reduceAdd, Nat.reduceLeDiff, Nat.reduceEqDiff, Nat.reduceLT, Nat.reduceSub, Nat.reduceBEq, forall_const, reduceCtorEq, implies_true, exists_eq_left', exists_eq_left, if_true, if_false, undef]
    exact ⟨[], by simp, by simp [encG, clM, clR, clZ, clN, vrest, frzL_vs, kysL_vs, reGL_vs, keysInL_vs, fzL_vs, SubL_vs, nbT, nbF, spl0, XX, undef]⟩
  have f3 : (a == -2) = false := by simpa using c3
  by_cases c4 : b = -2
  · have f4 : (b == -2) = true := by simpa using c4
    rw [andR, if_neg (by omega), if_neg c3, if_pos c4]
    refine clM_same rfl rest gs ?_
    refine fnM_of comp51 (by simp) (by simp [clM, clR]) ?_
    unfold code51
    simp (maxSteps := 1000000) only [memOf, f1, f2, f3, f4, encG, clM, clR, clZ, clN, vrest, frzL_vs, kysL_vs, reGL_vs, keysInL_vs, fzL_vs, SubL_vs, nbT, nbF, spl0, XX, reduceIte, ↓reduceIte, Nat.reduceAdd, Nat.reduceLeDiff, Nat.reduceEqDiff, Nat.reduceLT, Nat.reduceSub, Nat.reduceBEq, forall_const, reduceCtorEq, implies_true, exists_eq_left', exists_eq_left, if_true, if_false, undef]
    exact ⟨[], by simp, by simp [encG, clM, clR, clZ, clN, vrest, frzL_vs, kysL_vs, reGL_vs, keysInL_vs, fzL_vs, SubL_vs, nbT, nbF, spl0, XX, undef]⟩
  have f4 : (b == -2) = false := by simpa using c4
  rw [andR, if_neg (by omega), if_neg c3, if_neg c4]
  refine fnM_of comp51 (by simp) (by simp [clM, clR]) ?_
  unfold code51
  simp (maxSteps := 1000000) only [memOf, f1, f2, f3, f4, encG, clM, clR, clZ, clN, vrest, frzL_vs, kysL_vs, reGL_vs, keysInL_vs, fzL_vs, SubL_vs, nbT, nbF, spl0, XX, reduceIte, ↓reduceIte, Nat.reduceAdd, Nat.reduceLeDiff, Nat.reduceEqDiff, Nat.reduceLT, Nat.reduceSub, Nat.reduceBEq, forall_const, reduceCtorEq, implies_true, exists_eq_left', exists_eq_left, if_true, if_false, undef]
  refine callM [some 0, some 1, some 2] (cadd_spec rest gs ⟨3, a, b⟩ hl) (by simp [encG, clM, clR, clZ, clN, vrest, frzL_vs, kysL_vs, reGL_vs, keysInL_vs, fzL_vs, SubL_vs, nbT, nbF, spl0, XX, undef]) (by simp [encG, clM, clR, clZ, clN, vrest, frzL_vs, kysL_vs, reGL_vs, keysInL_vs, fzL_vs, SubL_vs, nbT, nbF, spl0, XX, undef]) (by simp [encG, clM, clR, clZ, clN, vrest, frzL_vs, kysL_vs, reGL_vs, keysInL_vs, fzL_vs, SubL_vs, nbT, nbF, spl0, XX, undef]) ?_
  simp (maxSteps := 1000000) only [addR, encG, clM, clR, clZ, clN, vrest, frzL_vs, kysL_vs, reGL_vs, keysInL_vs, fzL_vs, SubL_vs, nbT, nbF, spl0, XX, reduceIte, ↓reduceIte, Nat.reduceAdd, Nat.reduceLeDiff, Nat.reduceEqDiff, Nat.reduceLT, Nat.reduceSub, Nat.reduceBEq, forall_const, reduceCtorEq, implies_true, exists_eq_left', exists_eq_left, if_true, if_false, undef]
  trace_state
  exact ⟨[24], by simp [encG, clM, clR, clZ, clN, vrest, frzL_vs, kysL_vs, reGL_vs, keysInL_vs, fzL_vs, SubL_vs, nbT, nbF, spl0, XX, undef], by simp [addR, encG, clM, clR, clZ, clN, vrest, frzL_vs, kysL_vs, reGL_vs, keysInL_vs, fzL_vs, SubL_vs, nbT, nbF, spl0, XX, undef], by simp [encG, clM, clR, clZ, clN, vrest, frzL_vs, kysL_vs, reGL_vs, keysInL_vs, fzL_vs, SubL_vs, nbT, nbF, spl0, XX, undef]⟩

theorem cor_spec (rest : List Value) (gs : List Gt) (a b : Int) (hl : gs.length ≤ 100000) : CallsM Try.prog 50 [.ptr 0 0, I a, I b] (clM rest gs) (I (orR gs a b).2) (clR rest (orR gs a b).1) := by
  by_cases c1 : a = -2
  · have f1 : (a == -2) = true := by simpa using c1
    rw [orR, if_pos (.inl c1)]
    refine clM_same rfl rest gs ?_
    refine fnM_of comp50 (by simp) (by simp [clM, clR]) ?_
    unfold code50
    simp (maxSteps := 1000000) only [memOf, f1, encG, clM, clR, clZ, clN, vrest, frzL_vs, kysL_vs, reGL_vs, keysInL_vs, fzL_vs, SubL_vs, nbT, nbF, spl0, XX, reduceIte, ↓reduceIte, Nat.reduceAdd, Nat.reduceLeDiff, Nat.reduceEqDiff, Nat.reduceLT, Nat.reduceSub, Nat.reduceBEq, forall_const, reduceCtorEq, implies_true, exists_eq_left', exists_eq_left, if_true, if_false, undef]
    exact ⟨[], by simp, by simp [encG, clM, clR, clZ, clN, vrest, frzL_vs, kysL_vs, reGL_vs, keysInL_vs, fzL_vs, SubL_vs, nbT, nbF, spl0, XX, undef]⟩
  have f1 : (a == -2) = false := by simpa using c1
  by_cases c2 : b = -2
  · have f2 : (b == -2) = true := by simpa using c2
    rw [orR, if_pos (.inr c2)]
    refine clM_same rfl rest gs ?_
    refine fnM_of comp50 (by simp) (by simp [clM, clR]) ?_
    unfold code50
    simp (maxSteps := 1000000) only [memOf, f1, f2, encG, clM, clR, clZ, clN, vrest, frzL_vs, kysL_vs, reGL_vs, keysInL_vs, fzL_vs, SubL_vs, nbT, nbF, spl0, XX, reduceIte, ↓reduceIte, Nat.reduceAdd, Nat.reduceLeDiff, Nat.reduceEqDiff, Nat.reduceLT, Nat.reduceSub, Nat.reduceBEq, forall_const, reduceCtorEq, implies_true, exists_eq_left', exists_eq_left, if_true, if_false, undef]
    exact ⟨[], by simp, by simp [encG, clM, clR, clZ, clN, vrest, frzL_vs, kysL_vs, reGL_vs, keysInL_vs, fzL_vs, SubL_vs, nbT, nbF, spl0, XX, undef]⟩
  have f2 : (b == -2) = false := by simpa using c2
  by_cases c3 : a = -1
  · have f3 : (a == -1) = true := by simpa using c3
    rw [orR, if_neg (by omega), if_pos c3]
    refine clM_same rfl rest gs ?_
    refine fnM_of comp50 (by simp) (by simp [clM, clR]) ?_
    unfold code50
    simp (maxSteps := 1000000) only [memOf, f1, f2, f3, encG, clM, clR, clZ, clN, vrest, frzL_vs, kysL_vs, reGL_vs, keysInL_vs, fzL_vs, SubL_vs, nbT, nbF, spl0, XX, reduceIte, ↓reduceIte, Nat.reduceAdd, Nat.reduceLeDiff, Nat.reduceEqDiff, Nat.reduceLT, Nat.reduceSub, Nat.reduceBEq, forall_const, reduceCtorEq, implies_true, exists_eq_left', exists_eq_left, if_true, if_false, undef]
    exact ⟨[], by simp, by simp [encG, clM, clR, clZ, clN, vrest, frzL_vs, kysL_vs, reGL_vs, keysInL_vs, fzL_vs, SubL_vs, nbT, nbF, spl0, XX, undef]⟩
  have f3 : (a == -1) = false := by simpa using c3
  by_cases c4 : b = -1
  · have f4 : (b == -1) = true := by simpa using c4
    rw [orR, if_neg (by omega), if_neg c3, if_pos c4]
    refine clM_same rfl rest gs ?_
    refine fnM_of comp50 (by simp) (by simp [clM, clR]) ?_
    unfold code50
    simp (maxSteps := 1000000) only [memOf, f1, f2, f3, f4, encG, clM, clR, clZ, clN, vrest, frzL_vs, kysL_vs, reGL_vs, keysInL_vs, fzL_vs, SubL_vs, nbT, nbF, spl0, XX, reduceIte, ↓reduceIte, Nat.reduceAdd, Nat.reduceLeDiff, Nat.reduceEqDiff, Nat.reduceLT, Nat.reduceSub, Nat.reduceBEq, forall_const, reduceCtorEq, implies_true, exists_eq_left', exists_eq_left, if_true, if_false, undef]
    exact ⟨[], by simp, by simp [encG, clM, clR, clZ, clN, vrest, frzL_vs, kysL_vs, reGL_vs, keysInL_vs, fzL_vs, SubL_vs, nbT, nbF, spl0, XX, undef]⟩
  have f4 : (b == -1) = false := by simpa using c4
  rw [orR, if_neg (by omega), if_neg c3, if_neg c4]
  refine fnM_of comp50 (by simp) (by simp [clM, clR]) ?_
  unfold code50
  simp (maxSteps := 1000000) only [memOf, f1, f2, f3, f4, encG, clM, clR, clZ, clN, vrest, frzL_vs, kysL_vs, reGL_vs, keysInL_vs, fzL_vs, SubL_vs, nbT, nbF, spl0, XX, reduceIte, ↓reduceIte, Nat.reduceAdd, Nat.reduceLeDiff, Nat.reduceEqDiff, Nat.reduceLT, Nat.reduceSub, Nat.reduceBEq, forall_const, reduceCtorEq, implies_true, exists_eq_left', exists_eq_left, if_true, if_false, undef]
  refine callM [some 0, some 1, some 2] (cadd_spec rest gs ⟨4, a, b⟩ hl) (by simp [encG, clM, clR, clZ, clN, vrest, frzL_vs, kysL_vs, reGL_vs, keysInL_vs, fzL_vs, SubL_vs, nbT, nbF, spl0, XX, undef]) (by simp [encG, clM, clR, clZ, clN, vrest, frzL_vs, kysL_vs, reGL_vs, keysInL_vs, fzL_vs, SubL_vs, nbT, nbF, spl0, XX, undef]) (by simp [encG, clM, clR, clZ, clN, vrest, frzL_vs, kysL_vs, reGL_vs, keysInL_vs, fzL_vs, SubL_vs, nbT, nbF, spl0, XX, undef]) ?_
  simp (maxSteps := 1000000) only [addR, encG, clM, clR, clZ, clN, vrest, frzL_vs, kysL_vs, reGL_vs, keysInL_vs, fzL_vs, SubL_vs, nbT, nbF, spl0, XX, reduceIte, ↓reduceIte, Nat.reduceAdd, Nat.reduceLeDiff, Nat.reduceEqDiff, Nat.reduceLT, Nat.reduceSub, Nat.reduceBEq, forall_const, reduceCtorEq, implies_true, exists_eq_left', exists_eq_left, if_true, if_false, undef]
  exact ⟨[24], by simp [encG, clM, clR, clZ, clN, vrest, frzL_vs, kysL_vs, reGL_vs, keysInL_vs, fzL_vs, SubL_vs, nbT, nbF, spl0, XX, undef], by simp [addR, encG, clM, clR, clZ, clN, vrest, frzL_vs, kysL_vs, reGL_vs, keysInL_vs, fzL_vs, SubL_vs, nbT, nbF, spl0, XX, undef], by simp [encG, clM, clR, clZ, clN, vrest, frzL_vs, kysL_vs, reGL_vs, keysInL_vs, fzL_vs, SubL_vs, nbT, nbF, spl0, XX, undef]⟩

end Go.Av
