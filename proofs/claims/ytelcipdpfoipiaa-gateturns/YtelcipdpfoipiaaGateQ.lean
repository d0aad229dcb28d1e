/- The builder of circuits: the program's functions. -/
import Derived.Test.YtelcipdpfoipiaaGateH
import Derived.Test.YtelcipdpfoipiaaRekey
set_option linter.unusedSimpArgs false
set_option linter.unusedVariables false
set_option maxRecDepth 100000
namespace Go.Av
open Go.Proofs

def gcell (g : Gt) : List Value := [.int .i64 g.kind, .int .i64 g.a, .int .i64 g.b]
def knE : Nat → List Gt → List (Value × AV)
  | _, [] => []
  | i, g :: r => (.agg (gcell g).toArray, IN i) :: knE (i + 1) r
def blM (gs : List Gt) : List MObj := [.box [.arr 1 0 gs.length, .mp 2], .arr 3 (gs.map encG), .map (knE 0 gs)]
def blR (gs : List Gt) : List (Option MObj) := [some (.box [.arr 3 0 gs.length, .mp 2]), none, some (.map (knE 0 gs)), some (.arr 3 (gs.map encG))]

theorem knE_keys : ∀ (i : Nat) (gs : List Gt), AKeys [.n .i64, .n .i64, .n .i64] (knE i gs)
  | i, [], p, hp => by simp [knE] at hp
  | i, g :: gs, p, hp => by
    rcases List.mem_cons.1 hp with rfl | hp
    · exact ⟨_, rfl, by simp [gcell, cksOk, ckOk]⟩
    · exact knE_keys (i + 1) gs p hp
theorem knE_T (i : Nat) (gs : List Gt) : AKeys [.n .i64, .n .i64, .n .i64] (knE i gs) = True := eq_true (knE_keys i gs)
theorem gkey (g h : Gt) : akeyIs (gcell g) (.agg (gcell h).toArray) = decide (h.kind = g.kind ∧ h.a = g.a ∧ h.b = g.b) := by
  simp only [akeyIs, gcell, cellsEq, cellEq, Bool.and_true]
  rw [Bool.eq_iff_iff]
  simp only [Bool.and_eq_true, decide_eq_true_eq]
  exact ⟨fun h => ⟨h.1.symm, h.2.1.symm, h.2.2.symm⟩, fun h => ⟨h.1.symm, h.2.1.symm, h.2.2.symm⟩⟩
theorem knE_find (g : Gt) : ∀ (i : Nat) (gs : List Gt), kfind (gcell g) (knE i gs) = (gpos g gs).map fun n => IN (i + n)
  | i, [] => rfl
  | i, h :: gs => by
    simp only [knE, kfind, gkey, gpos]
    by_cases hc : h.kind = g.kind ∧ h.a = g.a ∧ h.b = g.b
    · rw [if_pos hc, decide_eq_true hc]; rfl
    · rw [if_neg hc, decide_eq_false hc]
      simp only [cond_false]
      rw [knE_find g (i + 1) gs]
      cases gpos g gs with
      | none => rfl
      | some n => simp only [Option.map_some]; rw [show i + 1 + n = i + (n + 1) by omega]
theorem knE_put (g : Gt) : ∀ (i : Nat) (gs : List Gt), gpos g gs = none → kput (gcell g) (IN (i + gs.length)) (knE i gs) = knE i (gs ++ [g])
  | i, [], _ => by simp [knE, kput]
  | i, h :: gs, hn => by
    simp only [gpos] at hn
    split at hn
    · cases hn
    · rename_i hc
      have := knE_put g (i + 1) gs (by simpa using hn)
      simp only [knE, kput, gkey, decide_eq_false hc, cond_false, List.length_cons, List.cons_append]
      rw [show i + (gs.length + 1) = i + 1 + gs.length by omega, this]

theorem badd_spec (gs : List Gt) (g : Gt) (hl : gs.length ≤ 100000) : CallsM Try.prog 39 [.ptr 0 0, encG g] (blM gs) (IN (addN gs g)) (blR (addG gs g)) := by
  have hll : (gs.map encG).length = gs.length := by simp
  have hv : valsL [I g.kind, I g.a, I g.b] = some (gcell g) := rfl
  have hk : cksOk [.n .i64, .n .i64, .n .i64] (gcell g) = true := by simp [gcell, cksOk, ckOk]
  have hf := knE_find g 0 gs
  cases hp : gpos g gs with
  | some n =>
    rw [hp] at hf
    simp only [Option.map_some, Nat.zero_add] at hf
    have e1 : addG gs g = gs := by unfold addG; rw [hp]
    have e2 : addN gs g = n := by unfold addN; rw [hp]; rfl
    rw [e1, e2]
    have key : CallsM Try.prog 39 [.ptr 0 0, encG g] (blM gs) (IN n) [some (.box [.arr 1 0 gs.length, .mp 2]), some (.arr 3 (gs.map encG)), some (.map (knE 0 gs))] := by
      refine fnM_of comp39 (by simp) (by simp [blM]) ?_
      unfold code39
      simp (maxSteps := 1000000) only [memOf, encG, blM, blR, pG, nG, aG, oG, EA, EB, EC, ED, EE, EF, EG, EH, EI, XA, XB, XC, XD, XE, XF, XG, XH, XI, XJ, XK, XL, XM, XN, reduceIte, ↓reduceIte, Nat.reduceAdd, Nat.reduceLeDiff, Nat.reduceEqDiff, Nat.reduceLT, Nat.reduceSub, Nat.reduceBEq, forall_const, reduceCtorEq, implies_true, exists_eq_left', exists_eq_left, if_true, if_false, undef]
      refine KeyVC.mk (gcell g) hv hk ?_
      simp (maxSteps := 1000000) only [knE_T, hf, Option.getD_some, Option.isSome_some, encG, blM, blR, pG, nG, aG, oG, EA, EB, EC, ED, EE, EF, EG, EH, EI, XA, XB, XC, XD, XE, XF, XG, XH, XI, XJ, XK, XL, XM, XN, reduceIte, ↓reduceIte, Nat.reduceAdd, Nat.reduceLeDiff, Nat.reduceEqDiff, Nat.reduceLT, Nat.reduceSub, Nat.reduceBEq, forall_const, reduceCtorEq, implies_true, exists_eq_left', exists_eq_left, if_true, if_false, undef]
      exact ⟨[], by simp, by simp [encG, blM, blR, pG, nG, aG, oG, EA, EB, EC, ED, EE, EF, EG, EH, EI, XA, XB, XC, XD, XE, XF, XG, XH, XI, XJ, XK, XL, XM, XN, reduceIte, ↓reduceIte, Nat.reduceAdd, Nat.reduceLeDiff, Nat.reduceEqDiff, Nat.reduceLT, Nat.reduceSub, Nat.reduceBEq, forall_const, reduceCtorEq, implies_true, exists_eq_left', exists_eq_left, if_true, if_false, undef]⟩
    exact key.rekey 1 rfl rfl rfl
  | none =>
    rw [hp] at hf
    simp only [Option.map_none] at hf
    have e1 : addG gs g = gs ++ [g] := by unfold addG; rw [hp]
    have e2 : addN gs g = gs.length := by unfold addN; rw [hp]; rfl
    have hput := knE_put g 0 gs hp
    rw [Nat.zero_add] at hput
    rw [e1, e2]
    refine fnM_of comp39 (by simp) (by simp [blM, blR]) ?_
    unfold code39
    simp (maxSteps := 1000000) only [memOf, encG, blM, blR, pG, nG, aG, oG, EA, EB, EC, ED, EE, EF, EG, EH, EI, XA, XB, XC, XD, XE, XF, XG, XH, XI, XJ, XK, XL, XM, XN, reduceIte, ↓reduceIte, Nat.reduceAdd, Nat.reduceLeDiff, Nat.reduceEqDiff, Nat.reduceLT, Nat.reduceSub, Nat.reduceBEq, forall_const, reduceCtorEq, implies_true, exists_eq_left', exists_eq_left, if_true, if_false, undef]
    refine KeyVC.mk (gcell g) hv hk ?_
    simp (maxSteps := 1000000) only [knE_T, hf, hll, Option.getD_none, Option.isSome_none, encG, blM, blR, pG, nG, aG, oG, EA, EB, EC, ED, EE, EF, EG, EH, EI, XA, XB, XC, XD, XE, XF, XG, XH, XI, XJ, XK, XL, XM, XN, reduceIte, ↓reduceIte, Nat.reduceAdd, Nat.reduceLeDiff, Nat.reduceEqDiff, Nat.reduceLT, Nat.reduceSub, Nat.reduceBEq, forall_const, reduceCtorEq, implies_true, exists_eq_left', exists_eq_left, if_true, if_false, undef]
    refine KeyVC.mk (gcell g) hv hk ?_
    simp (maxSteps := 1000000) only [knE_T, hput, hll, encG, blM, blR, pG, nG, aG, oG, EA, EB, EC, ED, EE, EF, EG, EH, EI, XA, XB, XC, XD, XE, XF, XG, XH, XI, XJ, XK, XL, XM, XN, reduceIte, ↓reduceIte, Nat.reduceAdd, Nat.reduceLeDiff, Nat.reduceEqDiff, Nat.reduceLT, Nat.reduceSub, Nat.reduceBEq, forall_const, reduceCtorEq, implies_true, exists_eq_left', exists_eq_left, if_true, if_false, undef]
    exact ⟨by omega, [38], by simp [encG, blM, blR, pG, nG, aG, oG, EA, EB, EC, ED, EE, EF, EG, EH, EI, XA, XB, XC, XD, XE, XF, XG, XH, XI, XJ, XK, XL, XM, XN, reduceIte, ↓reduceIte, Nat.reduceAdd, Nat.reduceLeDiff, Nat.reduceEqDiff, Nat.reduceLT, Nat.reduceSub, Nat.reduceBEq, forall_const, reduceCtorEq, implies_true, exists_eq_left', exists_eq_left, if_true, if_false, undef], by simp [encG, blM, blR, pG, nG, aG, oG, EA, EB, EC, ED, EE, EF, EG, EH, EI, XA, XB, XC, XD, XE, XF, XG, XH, XI, XJ, XK, XL, XM, XN, reduceIte, ↓reduceIte, Nat.reduceAdd, Nat.reduceLeDiff, Nat.reduceEqDiff, Nat.reduceLT, Nat.reduceSub, Nat.reduceBEq, forall_const, reduceCtorEq, implies_true, exists_eq_left', exists_eq_left, if_true, if_false, undef], by simp [encG, blM, blR, pG, nG, aG, oG, EA, EB, EC, ED, EE, EF, EG, EH, EI, XA, XB, XC, XD, XE, XF, XG, XH, XI, XJ, XK, XL, XM, XN, reduceIte, ↓reduceIte, Nat.reduceAdd, Nat.reduceLeDiff, Nat.reduceEqDiff, Nat.reduceLT, Nat.reduceSub, Nat.reduceBEq, forall_const, reduceCtorEq, implies_true, exists_eq_left', exists_eq_left, if_true, if_false, undef]⟩

theorem binput_spec (gs : List Gt) (a : Int) (hl : gs.length ≤ 100000) : CallsM Try.prog 34 [.ptr 0 0, I a] (blM gs) (IN (addN gs ⟨1, a, 0⟩)) (blR (addG gs ⟨1, a, 0⟩)) := by
  refine fnM_of comp34 (by simp) (by simp [blM, blR]) ?_
  unfold code34
  simp (maxSteps := 1000000) only [memOf, encG, blM, blR, pG, nG, aG, oG, EA, EB, EC, ED, EE, EF, EG, EH, EI, XA, XB, XC, XD, XE, XF, XG, XH, XI, XJ, XK, XL, XM, XN, reduceIte, ↓reduceIte, Nat.reduceAdd, Nat.reduceLeDiff, Nat.reduceEqDiff, Nat.reduceLT, Nat.reduceSub, Nat.reduceBEq, forall_const, reduceCtorEq, implies_true, exists_eq_left', exists_eq_left, if_true, if_false, undef]
  refine callM [some 0, some 1, some 2] (badd_spec gs ⟨1, a, 0⟩ hl) (by simp [encG, blM, blR, pG, nG, aG, oG, EA, EB, EC, ED, EE, EF, EG, EH, EI, XA, XB, XC, XD, XE, XF, XG, XH, XI, XJ, XK, XL, XM, XN, reduceIte, ↓reduceIte, Nat.reduceAdd, Nat.reduceLeDiff, Nat.reduceEqDiff, Nat.reduceLT, Nat.reduceSub, Nat.reduceBEq, forall_const, reduceCtorEq, implies_true, exists_eq_left', exists_eq_left, if_true, if_false, undef]) (by simp [encG, blM, blR, pG, nG, aG, oG, EA, EB, EC, ED, EE, EF, EG, EH, EI, XA, XB, XC, XD, XE, XF, XG, XH, XI, XJ, XK, XL, XM, XN, reduceIte, ↓reduceIte, Nat.reduceAdd, Nat.reduceLeDiff, Nat.reduceEqDiff, Nat.reduceLT, Nat.reduceSub, Nat.reduceBEq, forall_const, reduceCtorEq, implies_true, exists_eq_left', exists_eq_left, if_true, if_false, undef]) (by simp [encG, blM, blR, pG, nG, aG, oG, EA, EB, EC, ED, EE, EF, EG, EH, EI, XA, XB, XC, XD, XE, XF, XG, XH, XI, XJ, XK, XL, XM, XN, reduceIte, ↓reduceIte, Nat.reduceAdd, Nat.reduceLeDiff, Nat.reduceEqDiff, Nat.reduceLT, Nat.reduceSub, Nat.reduceBEq, forall_const, reduceCtorEq, implies_true, exists_eq_left', exists_eq_left, if_true, if_false, undef]) ?_
  simp (maxSteps := 1000000) only [encG, blM, blR, pG, nG, aG, oG, EA, EB, EC, ED, EE, EF, EG, EH, EI, XA, XB, XC, XD, XE, XF, XG, XH, XI, XJ, XK, XL, XM, XN, reduceIte, ↓reduceIte, Nat.reduceAdd, Nat.reduceLeDiff, Nat.reduceEqDiff, Nat.reduceLT, Nat.reduceSub, Nat.reduceBEq, forall_const, reduceCtorEq, implies_true, exists_eq_left', exists_eq_left, if_true, if_false, undef]
  exact ⟨[10], by simp [encG, blM, blR, pG, nG, aG, oG, EA, EB, EC, ED, EE, EF, EG, EH, EI, XA, XB, XC, XD, XE, XF, XG, XH, XI, XJ, XK, XL, XM, XN, reduceIte, ↓reduceIte, Nat.reduceAdd, Nat.reduceLeDiff, Nat.reduceEqDiff, Nat.reduceLT, Nat.reduceSub, Nat.reduceBEq, forall_const, reduceCtorEq, implies_true, exists_eq_left', exists_eq_left, if_true, if_false, undef], by simp [encG, blM, blR, pG, nG, aG, oG, EA, EB, EC, ED, EE, EF, EG, EH, EI, XA, XB, XC, XD, XE, XF, XG, XH, XI, XJ, XK, XL, XM, XN, reduceIte, ↓reduceIte, Nat.reduceAdd, Nat.reduceLeDiff, Nat.reduceEqDiff, Nat.reduceLT, Nat.reduceSub, Nat.reduceBEq, forall_const, reduceCtorEq, implies_true, exists_eq_left', exists_eq_left, if_true, if_false, undef], by simp [encG, blM, blR, pG, nG, aG, oG, EA, EB, EC, ED, EE, EF, EG, EH, EI, XA, XB, XC, XD, XE, XF, XG, XH, XI, XJ, XK, XL, XM, XN, reduceIte, ↓reduceIte, Nat.reduceAdd, Nat.reduceLeDiff, Nat.reduceEqDiff, Nat.reduceLT, Nat.reduceSub, Nat.reduceBEq, forall_const, reduceCtorEq, implies_true, exists_eq_left', exists_eq_left, if_true, if_false, undef]⟩

theorem bnot_spec (gs : List Gt) (a : Int) (hl : gs.length ≤ 100000) : CallsM Try.prog 36 [.ptr 0 0, I a] (blM gs) (IN (addN gs ⟨2, a, 0⟩)) (blR (addG gs ⟨2, a, 0⟩)) := by
  refine fnM_of comp36 (by simp) (by simp [blM, blR]) ?_
  unfold code36
  simp (maxSteps := 1000000) only [memOf, encG, blM, blR, pG, nG, aG, oG, EA, EB, EC, ED, EE, EF, EG, EH, EI, XA, XB, XC, XD, XE, XF, XG, XH, XI, XJ, XK, XL, XM, XN, reduceIte, ↓reduceIte, Nat.reduceAdd, Nat.reduceLeDiff, Nat.reduceEqDiff, Nat.reduceLT, Nat.reduceSub, Nat.reduceBEq, forall_const, reduceCtorEq, implies_true, exists_eq_left', exists_eq_left, if_true, if_false, undef]
  refine callM [some 0, some 1, some 2] (badd_spec gs ⟨2, a, 0⟩ hl) (by simp [encG, blM, blR, pG, nG, aG, oG, EA, EB, EC, ED, EE, EF, EG, EH, EI, XA, XB, XC, XD, XE, XF, XG, XH, XI, XJ, XK, XL, XM, XN, reduceIte, ↓reduceIte, Nat.reduceAdd, Nat.reduceLeDiff, Nat.reduceEqDiff, Nat.reduceLT, Nat.reduceSub, Nat.reduceBEq, forall_const, reduceCtorEq, implies_true, exists_eq_left', exists_eq_left, if_true, if_false, undef]) (by simp [encG, blM, blR, pG, nG, aG, oG, EA, EB, EC, ED, EE, EF, EG, EH, EI, XA, XB, XC, XD, XE, XF, XG, XH, XI, XJ, XK, XL, XM, XN, reduceIte, ↓reduceIte, Nat.reduceAdd, Nat.reduceLeDiff, Nat.reduceEqDiff, Nat.reduceLT, Nat.reduceSub, Nat.reduceBEq, forall_const, reduceCtorEq, implies_true, exists_eq_left', exists_eq_left, if_true, if_false, undef]) (by simp [encG, blM, blR, pG, nG, aG, oG, EA, EB, EC, ED, EE, EF, EG, EH, EI, XA, XB, XC, XD, XE, XF, XG, XH, XI, XJ, XK, XL, XM, XN, reduceIte, ↓reduceIte, Nat.reduceAdd, Nat.reduceLeDiff, Nat.reduceEqDiff, Nat.reduceLT, Nat.reduceSub, Nat.reduceBEq, forall_const, reduceCtorEq, implies_true, exists_eq_left', exists_eq_left, if_true, if_false, undef]) ?_
  simp (maxSteps := 1000000) only [encG, blM, blR, pG, nG, aG, oG, EA, EB, EC, ED, EE, EF, EG, EH, EI, XA, XB, XC, XD, XE, XF, XG, XH, XI, XJ, XK, XL, XM, XN, reduceIte, ↓reduceIte, Nat.reduceAdd, Nat.reduceLeDiff, Nat.reduceEqDiff, Nat.reduceLT, Nat.reduceSub, Nat.reduceBEq, forall_const, reduceCtorEq, implies_true, exists_eq_left', exists_eq_left, if_true, if_false, undef]
  exact ⟨[10], by simp [encG, blM, blR, pG, nG, aG, oG, EA, EB, EC, ED, EE, EF, EG, EH, EI, XA, XB, XC, XD, XE, XF, XG, XH, XI, XJ, XK, XL, XM, XN, reduceIte, ↓reduceIte, Nat.reduceAdd, Nat.reduceLeDiff, Nat.reduceEqDiff, Nat.reduceLT, Nat.reduceSub, Nat.reduceBEq, forall_const, reduceCtorEq, implies_true, exists_eq_left', exists_eq_left, if_true, if_false, undef], by simp [encG, blM, blR, pG, nG, aG, oG, EA, EB, EC, ED, EE, EF, EG, EH, EI, XA, XB, XC, XD, XE, XF, XG, XH, XI, XJ, XK, XL, XM, XN, reduceIte, ↓reduceIte, Nat.reduceAdd, Nat.reduceLeDiff, Nat.reduceEqDiff, Nat.reduceLT, Nat.reduceSub, Nat.reduceBEq, forall_const, reduceCtorEq, implies_true, exists_eq_left', exists_eq_left, if_true, if_false, undef], by simp [encG, blM, blR, pG, nG, aG, oG, EA, EB, EC, ED, EE, EF, EG, EH, EI, XA, XB, XC, XD, XE, XF, XG, XH, XI, XJ, XK, XL, XM, XN, reduceIte, ↓reduceIte, Nat.reduceAdd, Nat.reduceLeDiff, Nat.reduceEqDiff, Nat.reduceLT, Nat.reduceSub, Nat.reduceBEq, forall_const, reduceCtorEq, implies_true, exists_eq_left', exists_eq_left, if_true, if_false, undef]⟩

theorem band_spec (gs : List Gt) (a b : Int) (hl : gs.length ≤ 100000) : CallsM Try.prog 37 [.ptr 0 0, I a, I b] (blM gs) (IN (addN gs ⟨3, a, b⟩)) (blR (addG gs ⟨3, a, b⟩)) := by
  refine fnM_of comp37 (by simp) (by simp [blM, blR]) ?_
  unfold code37
  simp (maxSteps := 1000000) only [memOf, encG, blM, blR, pG, nG, aG, oG, EA, EB, EC, ED, EE, EF, EG, EH, EI, XA, XB, XC, XD, XE, XF, XG, XH, XI, XJ, XK, XL, XM, XN, reduceIte, ↓reduceIte, Nat.reduceAdd, Nat.reduceLeDiff, Nat.reduceEqDiff, Nat.reduceLT, Nat.reduceSub, Nat.reduceBEq, forall_const, reduceCtorEq, implies_true, exists_eq_left', exists_eq_left, if_true, if_false, undef]
  refine callM [some 0, some 1, some 2] (badd_spec gs ⟨3, a, b⟩ hl) (by simp [encG, blM, blR, pG, nG, aG, oG, EA, EB, EC, ED, EE, EF, EG, EH, EI, XA, XB, XC, XD, XE, XF, XG, XH, XI, XJ, XK, XL, XM, XN, reduceIte, ↓reduceIte, Nat.reduceAdd, Nat.reduceLeDiff, Nat.reduceEqDiff, Nat.reduceLT, Nat.reduceSub, Nat.reduceBEq, forall_const, reduceCtorEq, implies_true, exists_eq_left', exists_eq_left, if_true, if_false, undef]) (by simp [encG, blM, blR, pG, nG, aG, oG, EA, EB, EC, ED, EE, EF, EG, EH, EI, XA, XB, XC, XD, XE, XF, XG, XH, XI, XJ, XK, XL, XM, XN, reduceIte, ↓reduceIte, Nat.reduceAdd, Nat.reduceLeDiff, Nat.reduceEqDiff, Nat.reduceLT, Nat.reduceSub, Nat.reduceBEq, forall_const, reduceCtorEq, implies_true, exists_eq_left', exists_eq_left, if_true, if_false, undef]) (by simp [encG, blM, blR, pG, nG, aG, oG, EA, EB, EC, ED, EE, EF, EG, EH, EI, XA, XB, XC, XD, XE, XF, XG, XH, XI, XJ, XK, XL, XM, XN, reduceIte, ↓reduceIte, Nat.reduceAdd, Nat.reduceLeDiff, Nat.reduceEqDiff, Nat.reduceLT, Nat.reduceSub, Nat.reduceBEq, forall_const, reduceCtorEq, implies_true, exists_eq_left', exists_eq_left, if_true, if_false, undef]) ?_
  simp (maxSteps := 1000000) only [encG, blM, blR, pG, nG, aG, oG, EA, EB, EC, ED, EE, EF, EG, EH, EI, XA, XB, XC, XD, XE, XF, XG, XH, XI, XJ, XK, XL, XM, XN, reduceIte, ↓reduceIte, Nat.reduceAdd, Nat.reduceLeDiff, Nat.reduceEqDiff, Nat.reduceLT, Nat.reduceSub, Nat.reduceBEq, forall_const, reduceCtorEq, implies_true, exists_eq_left', exists_eq_left, if_true, if_false, undef]
  exact ⟨[11], by simp [encG, blM, blR, pG, nG, aG, oG, EA, EB, EC, ED, EE, EF, EG, EH, EI, XA, XB, XC, XD, XE, XF, XG, XH, XI, XJ, XK, XL, XM, XN, reduceIte, ↓reduceIte, Nat.reduceAdd, Nat.reduceLeDiff, Nat.reduceEqDiff, Nat.reduceLT, Nat.reduceSub, Nat.reduceBEq, forall_const, reduceCtorEq, implies_true, exists_eq_left', exists_eq_left, if_true, if_false, undef], by simp [encG, blM, blR, pG, nG, aG, oG, EA, EB, EC, ED, EE, EF, EG, EH, EI, XA, XB, XC, XD, XE, XF, XG, XH, XI, XJ, XK, XL, XM, XN, reduceIte, ↓reduceIte, Nat.reduceAdd, Nat.reduceLeDiff, Nat.reduceEqDiff, Nat.reduceLT, Nat.reduceSub, Nat.reduceBEq, forall_const, reduceCtorEq, implies_true, exists_eq_left', exists_eq_left, if_true, if_false, undef], by simp [encG, blM, blR, pG, nG, aG, oG, EA, EB, EC, ED, EE, EF, EG, EH, EI, XA, XB, XC, XD, XE, XF, XG, XH, XI, XJ, XK, XL, XM, XN, reduceIte, ↓reduceIte, Nat.reduceAdd, Nat.reduceLeDiff, Nat.reduceEqDiff, Nat.reduceLT, Nat.reduceSub, Nat.reduceBEq, forall_const, reduceCtorEq, implies_true, exists_eq_left', exists_eq_left, if_true, if_false, undef]⟩

theorem bor_spec (gs : List Gt) (a b : Int) (hl : gs.length ≤ 100000) : CallsM Try.prog 38 [.ptr 0 0, I a, I b] (blM gs) (IN (addN gs ⟨4, a, b⟩)) (blR (addG gs ⟨4, a, b⟩)) := by
  refine fnM_of comp38 (by simp) (by simp [blM, blR]) ?_
  unfold code38
  simp (maxSteps := 1000000) only [memOf, encG, blM, blR, pG, nG, aG, oG, EA, EB, EC, ED, EE, EF, EG, EH, EI, XA, XB, XC, XD, XE, XF, XG, XH, XI, XJ, XK, XL, XM, XN, reduceIte, ↓reduceIte, Nat.reduceAdd, Nat.reduceLeDiff, Nat.reduceEqDiff, Nat.reduceLT, Nat.reduceSub, Nat.reduceBEq, forall_const, reduceCtorEq, implies_true, exists_eq_left', exists_eq_left, if_true, if_false, undef]
  refine callM [some 0, some 1, some 2] (badd_spec gs ⟨4, a, b⟩ hl) (by simp [encG, blM, blR, pG, nG, aG, oG, EA, EB, EC, ED, EE, EF, EG, EH, EI, XA, XB, XC, XD, XE, XF, XG, XH, XI, XJ, XK, XL, XM, XN, reduceIte, ↓reduceIte, Nat.reduceAdd, Nat.reduceLeDiff, Nat.reduceEqDiff, Nat.reduceLT, Nat.reduceSub, Nat.reduceBEq, forall_const, reduceCtorEq, implies_true, exists_eq_left', exists_eq_left, if_true, if_false, undef]) (by simp [encG, blM, blR, pG, nG, aG, oG, EA, EB, EC, ED, EE, EF, EG, EH, EI, XA, XB, XC, XD, XE, XF, XG, XH, XI, XJ, XK, XL, XM, XN, reduceIte, ↓reduceIte, Nat.reduceAdd, Nat.reduceLeDiff, Nat.reduceEqDiff, Nat.reduceLT, Nat.reduceSub, Nat.reduceBEq, forall_const, reduceCtorEq, implies_true, exists_eq_left', exists_eq_left, if_true, if_false, undef]) (by simp [encG, blM, blR, pG, nG, aG, oG, EA, EB, EC, ED, EE, EF, EG, EH, EI, XA, XB, XC, XD, XE, XF, XG, XH, XI, XJ, XK, XL, XM, XN, reduceIte, ↓reduceIte, Nat.reduceAdd, Nat.reduceLeDiff, Nat.reduceEqDiff, Nat.reduceLT, Nat.reduceSub, Nat.reduceBEq, forall_const, reduceCtorEq, implies_true, exists_eq_left', exists_eq_left, if_true, if_false, undef]) ?_
  simp (maxSteps := 1000000) only [encG, blM, blR, pG, nG, aG, oG, EA, EB, EC, ED, EE, EF, EG, EH, EI, XA, XB, XC, XD, XE, XF, XG, XH, XI, XJ, XK, XL, XM, XN, reduceIte, ↓reduceIte, Nat.reduceAdd, Nat.reduceLeDiff, Nat.reduceEqDiff, Nat.reduceLT, Nat.reduceSub, Nat.reduceBEq, forall_const, reduceCtorEq, implies_true, exists_eq_left', exists_eq_left, if_true, if_false, undef]
  exact ⟨[11], by simp [encG, blM, blR, pG, nG, aG, oG, EA, EB, EC, ED, EE, EF, EG, EH, EI, XA, XB, XC, XD, XE, XF, XG, XH, XI, XJ, XK, XL, XM, XN, reduceIte, ↓reduceIte, Nat.reduceAdd, Nat.reduceLeDiff, Nat.reduceEqDiff, Nat.reduceLT, Nat.reduceSub, Nat.reduceBEq, forall_const, reduceCtorEq, implies_true, exists_eq_left', exists_eq_left, if_true, if_false, undef], by simp [encG, blM, blR, pG, nG, aG, oG, EA, EB, EC, ED, EE, EF, EG, EH, EI, XA, XB, XC, XD, XE, XF, XG, XH, XI, XJ, XK, XL, XM, XN, reduceIte, ↓reduceIte, Nat.reduceAdd, Nat.reduceLeDiff, Nat.reduceEqDiff, Nat.reduceLT, Nat.reduceSub, Nat.reduceBEq, forall_const, reduceCtorEq, implies_true, exists_eq_left', exists_eq_left, if_true, if_false, undef], by simp [encG, blM, blR, pG, nG, aG, oG, EA, EB, EC, ED, EE, EF, EG, EH, EI, XA, XB, XC, XD, XE, XF, XG, XH, XI, XJ, XK, XL, XM, XN, reduceIte, ↓reduceIte, Nat.reduceAdd, Nat.reduceLeDiff, Nat.reduceEqDiff, Nat.reduceLT, Nat.reduceSub, Nat.reduceBEq, forall_const, reduceCtorEq, implies_true, exists_eq_left', exists_eq_left, if_true, if_false, undef]⟩

end Go.Av
