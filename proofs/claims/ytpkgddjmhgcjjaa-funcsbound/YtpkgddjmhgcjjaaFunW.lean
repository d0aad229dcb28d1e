/- Functions: the program's evaluation. -/
import Derived.Test.YtpkgddjmhgcjjaaFunV
set_option linter.unusedSimpArgs false
set_option linter.unusedVariables false
set_option maxRecDepth 100000
namespace Go.Av
open Go.Proofs

/-- what the program keeps of an evaluation -/
abbrev bxP (l : List Fn) (fuel : Nat) : MObj := .box [.ro 6 (l.map encF), IN fuel]
abbrev aN (args : List Nat) : AV := .ro 1 (args.map IN)
def rsT (r : Rs) : AV := .tup [IN r.2.1, Bo r.1]

def CallOk (l : List Fn) (k : Nat) (rc : Nat → List Nat → Nat → Rs) : Prop := ∀ j args fuel, VA l j args → j < k → fuel ≤ 20000 →
  CallsM Try.prog 21 [.ptr 0 0, IN j, aN args] [bxP l fuel] (rsT (rc j args fuel)) [some (bxP l (rc j args fuel).2.2)]

theorem evL_cons {rc : Nat → List Nat → Nat → Rs} {args : List Nat} {j : Int} {js : List Int} {fuel : Nat} (h : (rc j.toNat args fuel).1 = true) :
    evL rc args (j :: js) fuel = ((evL rc args js (rc j.toNat args fuel).2.2).1, (rc j.toNat args fuel).2.1 :: (evL rc args js (rc j.toNat args fuel).2.2).2.1, (evL rc args js (rc j.toNat args fuel).2.2).2.2) := by rw [evL, if_pos h]
theorem evL_fail {rc : Nat → List Nat → Nat → Rs} {args : List Nat} {j : Int} {js : List Int} {fuel : Nat} (h : (rc j.toNat args fuel).1 = false) : evL rc args (j :: js) fuel = (false, [], (rc j.toNat args fuel).2.2) := by rw [evL, if_neg (by rw [h]; simp)]

def vlO (acc : List Nat) (n : Nat) : List Nat := acc ++ List.replicate (n - acc.length) 0
theorem vlO_len {acc : List Nat} {n : Nat} (h : acc.length ≤ n) : (vlO acc n).length = n := by simp [vlO]; omega
theorem vlO_set {acc : List Nat} {n : Nat} (h : acc.length < n) (v : Nat) : (vlO acc n).set acc.length v = vlO (acc ++ [v]) n := by
  rw [vlO, vlO, List.set_append_right _ _ (by omega), Nat.sub_self, show n - acc.length = (n - (acc ++ [v]).length) + 1 by simp; omega, List.replicate_succ, List.set_cons_zero]
  simp

theorem compose_spec (l : List Fn) (f : Fn) (k : Nat) (hof : OkF k f) (h4 : f.kind = 4) (hu : ∀ u ∈ usL f, ∃ h : u.1.toNat < l.length, u.1.toNat < k ∧ l[u.1.toNat].args = u.2) (rc : Nat → List Nat → Nat → Rs) (hrc : RcOk rc) (hcall : CallOk l k rc)
    (args : List Nat) (hal : (args.length : Int) = f.args) (hsm : Sm args) (fuel : Nat) (hfu : fuel ≤ 20000) :
    CallsM Try.prog 30 [.ptr 0 0, encF f, aN args] [bxP l fuel] (rsT (evC rc f args fuel)) [some (bxP l (evC rc f args fuel).2.2)] := by
  have hi4 := hof.into h4
  have hus : usL f = (f.a, (f.into.length : Int)) :: f.into.map (fun j => (j, f.args)) := by rw [usL, if_pos h4]
  have hfl : ((f.into.map I).length : Int) = f.into.length := by simp
  refine fnM_of comp30 (by simp) (by simp) ?_
  unfold code30
  have hfn : (((f.into.map I).length : Nat) : Int).toNat = f.into.length := by simp
  have h00 : List.replicate f.into.length (.v (.int .i64 0)) = (vlO [] f.into.length).map IN := by simp [vlO, IN, I]
  simp (maxSteps := 1000000) only [hfl, hfn, h00, encF, encU, EA, EB, EC, ED, EE, EF, EG, EH, XA, XB, XC, XD, XE, XF, XG, XH, XI, XJ, XK, XL, XM, reduceIte, ↓reduceIte, Nat.reduceAdd, Nat.reduceLeDiff, Nat.reduceEqDiff, Nat.reduceLT, Nat.reduceSub, Nat.reduceBEq, forall_const, reduceCtorEq, implies_true, exists_eq_left', exists_eq_left, if_true, if_false, undef]
  refine ⟨by omega, by omega, by omega, ?_⟩
  simp (maxSteps := 1000000) only [hfl, hfn, h00, encF, encU, EA, EB, EC, ED, EE, EF, EG, EH, XA, XB, XC, XD, XE, XF, XG, XH, XI, XJ, XK, XL, XM, reduceIte, ↓reduceIte, Nat.reduceAdd, Nat.reduceLeDiff, Nat.reduceEqDiff, Nat.reduceLT, Nat.reduceSub, Nat.reduceBEq, forall_const, reduceCtorEq, implies_true, exists_eq_left', exists_eq_left, if_true, if_false, undef]
  refine loopO (Nat × List Nat × Nat) [20] (fun s => [IN s.1]) (fun s => [(7, some (.arr 1 ((vlO s.2.1 f.into.length).map IN))), (0, some (bxP l s.2.2))])
    (fun s => s.1 ≤ f.into.length ∧ s.2.1.length = s.1 ∧ Sm s.2.1 ∧ s.2.2 ≤ 20000 ∧ (evL rc args f.into fuel).1 = (evL rc args (f.into.drop s.1) s.2.2).1 ∧ (evL rc args f.into fuel).2.2 = (evL rc args (f.into.drop s.1) s.2.2).2.2 ∧
      ((evL rc args f.into fuel).1 = true → (evL rc args f.into fuel).2.1 = s.2.1 ++ (evL rc args (f.into.drop s.1) s.2.2).2.1)) (fun s => f.into.length - s.1) (by decide)
    (0, [], fuel) ⟨by simp, rfl, by simp [Sm], hfu, rfl, rfl, fun _ => by simp⟩ (by simp [Back, BackF, fzT, fzM, fzU, fz, fzL, fzO, kin, SubT, Sub, SubL, SubM, SubO, keepM, srcOk, look, lookM, ev, evs, putT, argT, encF, encU, EA, EB, EC, ED, EE, EF, EG, EH, XA, XB, XC, XD, XE, XF, XG, XH, XI, XJ, XK, XL, XM, reduceIte, ↓reduceIte, Nat.reduceAdd, Nat.reduceLeDiff, Nat.reduceEqDiff, Nat.reduceLT, Nat.reduceSub, Nat.reduceBEq, forall_const, reduceCtorEq, implies_true, exists_eq_left', exists_eq_left, if_true, if_false, undef, h00]) ?_
  rintro ⟨j, acc, fu⟩ ⟨hj, hacc, hsa, hfu2, e1, e2, e3⟩
  simp only at hj hacc hsa hfu2 e1 e2 e3
  by_cases c1 : j < f.into.length
  rotate_left
  · have f1 : decide ((j : Int) < (f.into.length : Int)) = false := by simp [c1]
    have : j = f.into.length := by omega
    subst this
    rw [List.drop_length] at e1 e2 e3
    simp only [evL] at e1 e2 e3
    have e3 := e3 e1
    rw [List.append_nil] at e3
    have hv : vlO acc f.into.length = acc := by simp [vlO, hacc]
    have hC : evC rc f args fuel = rc f.a.toNat acc fu := by rw [evC, if_pos e1, e2, e3]
    obtain ⟨ha0, hak, haa⟩ := hu (f.a, (f.into.length : Int)) (by rw [hus]; simp)
    have ha1 := hof.uses (f.a, (f.into.length : Int)) (by rw [hus]; simp)
    simp only at ha0 hak haa ha1
    have hcl := hcall f.a.toNat acc fu ⟨ha0, by rw [haa, hacc], hsa⟩ hak hfu2
    have haN : I f.a = IN f.a.toNat := by rw [IN, Int.toNat_of_nonneg ha1.1]
    have htk : List.take f.into.length (acc.map IN) = acc.map IN := List.take_of_length_le (by simp [hacc])
    rw [hC]
    simp (maxSteps := 1000000) only [hfl, hfn, f1, hv, haN, rsT, encF, encU, EA, EB, EC, ED, EE, EF, EG, EH, XA, XB, XC, XD, XE, XF, XG, XH, XI, XJ, XK, XL, XM, reduceIte, ↓reduceIte, Nat.reduceAdd, Nat.reduceLeDiff, Nat.reduceEqDiff, Nat.reduceLT, Nat.reduceSub, Nat.reduceBEq, forall_const, reduceCtorEq, implies_true, exists_eq_left', exists_eq_left, if_true, if_false, undef]
    simp only [rsT] at hcl
    refine callM [some 0] (hcl) (by simp [ htk,encF, encU, EA, EB, EC, ED, EE, EF, EG, EH, XA, XB, XC, XD, XE, XF, XG, XH, XI, XJ, XK, XL, XM, reduceIte, ↓reduceIte, Nat.reduceAdd, Nat.reduceLeDiff, Nat.reduceEqDiff, Nat.reduceLT, Nat.reduceSub, Nat.reduceBEq, forall_const, reduceCtorEq, implies_true, exists_eq_left', exists_eq_left, if_true, if_false, undef]) (by simp [encF, encU, EA, EB, EC, ED, EE, EF, EG, EH, XA, XB, XC, XD, XE, XF, XG, XH, XI, XJ, XK, XL, XM, reduceIte, ↓reduceIte, Nat.reduceAdd, Nat.reduceLeDiff, Nat.reduceEqDiff, Nat.reduceLT, Nat.reduceSub, Nat.reduceBEq, forall_const, reduceCtorEq, implies_true, exists_eq_left', exists_eq_left, if_true, if_false, undef]) (by simp [ htk,encF, encU, EA, EB, EC, ED, EE, EF, EG, EH, XA, XB, XC, XD, XE, XF, XG, XH, XI, XJ, XK, XL, XM, reduceIte, ↓reduceIte, Nat.reduceAdd, Nat.reduceLeDiff, Nat.reduceEqDiff, Nat.reduceLT, Nat.reduceSub, Nat.reduceBEq, forall_const, reduceCtorEq, implies_true, exists_eq_left', exists_eq_left, if_true, if_false, undef]) ?_
    simp (maxSteps := 1000000) only [encF, encU, EA, EB, EC, ED, EE, EF, EG, EH, XA, XB, XC, XD, XE, XF, XG, XH, XI, XJ, XK, XL, XM, reduceIte, ↓reduceIte, Nat.reduceAdd, Nat.reduceLeDiff, Nat.reduceEqDiff, Nat.reduceLT, Nat.reduceSub, Nat.reduceBEq, forall_const, reduceCtorEq, implies_true, exists_eq_left', exists_eq_left, if_true, if_false, undef]
    refine ⟨[], ?_⟩
    simp [rsT, encF, encU, EA, EB, EC, ED, EE, EF, EG, EH, XA, XB, XC, XD, XE, XF, XG, XH, XI, XJ, XK, XL, XM, reduceIte, ↓reduceIte, Nat.reduceAdd, Nat.reduceLeDiff, Nat.reduceEqDiff, Nat.reduceLT, Nat.reduceSub, Nat.reduceBEq, forall_const, reduceCtorEq, implies_true, exists_eq_left', exists_eq_left, if_true, if_false, undef]
  have f1 : decide ((j : Int) < (f.into.length : Int)) = true := by simp [c1]
  have hw : IntKind.i64.wrap ((j : Int) + 1) = ((j + 1 : Nat) : Int) := by rw [wrap_id] <;> omega
  have hdr : f.into.drop j = f.into[j] :: f.into.drop (j + 1) := List.drop_eq_getElem_cons c1
  rw [hdr] at e1 e2 e3
  obtain ⟨ha0, hak, haa⟩ := hu (f.into[j], f.args) (by rw [hus]; simp)
  have ha1 := hof.uses (f.into[j], f.args) (by rw [hus]; simp)
  simp only at ha0 hak haa ha1
  have hcl := hcall f.into[j].toNat args fu ⟨ha0, by rw [haa, hal], hsm⟩ hak hfu2
  have hok := hrc f.into[j].toNat args fu hsm
  simp (maxSteps := 1000000) only [hfl, f1, encF, encU, EA, EB, EC, ED, EE, EF, EG, EH, XA, XB, XC, XD, XE, XF, XG, XH, XI, XJ, XK, XL, XM, reduceIte, ↓reduceIte, Nat.reduceAdd, Nat.reduceLeDiff, Nat.reduceEqDiff, Nat.reduceLT, Nat.reduceSub, Nat.reduceBEq, forall_const, reduceCtorEq, implies_true, exists_eq_left', exists_eq_left, if_true, if_false, undef]
  refine ⟨by omega, pickM c1 ?_⟩
  have haN : I f.into[j] = IN f.into[j].toNat := by rw [IN, Int.toNat_of_nonneg ha1.1]
  rw [haN]
  generalize f.into[j] = y at *
  simp only [rsT] at hcl
  simp (maxSteps := 1000000) only [encF, encU, EA, EB, EC, ED, EE, EF, EG, EH, XA, XB, XC, XD, XE, XF, XG, XH, XI, XJ, XK, XL, XM, reduceIte, ↓reduceIte, Nat.reduceAdd, Nat.reduceLeDiff, Nat.reduceEqDiff, Nat.reduceLT, Nat.reduceSub, Nat.reduceBEq, forall_const, reduceCtorEq, implies_true, exists_eq_left', exists_eq_left, if_true, if_false, undef]
  refine callM [some 0] (hcl) (by simp [encF, encU, EA, EB, EC, ED, EE, EF, EG, EH, XA, XB, XC, XD, XE, XF, XG, XH, XI, XJ, XK, XL, XM, reduceIte, ↓reduceIte, Nat.reduceAdd, Nat.reduceLeDiff, Nat.reduceEqDiff, Nat.reduceLT, Nat.reduceSub, Nat.reduceBEq, forall_const, reduceCtorEq, implies_true, exists_eq_left', exists_eq_left, if_true, if_false, undef]) (by simp [encF, encU, EA, EB, EC, ED, EE, EF, EG, EH, XA, XB, XC, XD, XE, XF, XG, XH, XI, XJ, XK, XL, XM, reduceIte, ↓reduceIte, Nat.reduceAdd, Nat.reduceLeDiff, Nat.reduceEqDiff, Nat.reduceLT, Nat.reduceSub, Nat.reduceBEq, forall_const, reduceCtorEq, implies_true, exists_eq_left', exists_eq_left, if_true, if_false, undef]) (by simp [encF, encU, EA, EB, EC, ED, EE, EF, EG, EH, XA, XB, XC, XD, XE, XF, XG, XH, XI, XJ, XK, XL, XM, reduceIte, ↓reduceIte, Nat.reduceAdd, Nat.reduceLeDiff, Nat.reduceEqDiff, Nat.reduceLT, Nat.reduceSub, Nat.reduceBEq, forall_const, reduceCtorEq, implies_true, exists_eq_left', exists_eq_left, if_true, if_false, undef]) ?_
  cases hr1 : (rc y.toNat args fu).1 with
  | false =>
    rw [evL_fail hr1] at e1 e2 e3
    have hC : evC rc f args fuel = (false, 0, (rc y.toNat args fu).2.2) := by rw [evC, if_neg (by rw [e1]; simp), e2]
    rw [hC]
    simp (maxSteps := 1000000) only [rsT, Bo, encF, encU, EA, EB, EC, ED, EE, EF, EG, EH, XA, XB, XC, XD, XE, XF, XG, XH, XI, XJ, XK, XL, XM, reduceIte, ↓reduceIte, Nat.reduceAdd, Nat.reduceLeDiff, Nat.reduceEqDiff, Nat.reduceLT, Nat.reduceSub, Nat.reduceBEq, forall_const, reduceCtorEq, implies_true, exists_eq_left', exists_eq_left, if_true, if_false, undef]
    refine ⟨[], ?_⟩
    simp [encF, encU, EA, EB, EC, ED, EE, EF, EG, EH, XA, XB, XC, XD, XE, XF, XG, XH, XI, XJ, XK, XL, XM, reduceIte, ↓reduceIte, Nat.reduceAdd, Nat.reduceLeDiff, Nat.reduceEqDiff, Nat.reduceLT, Nat.reduceSub, Nat.reduceBEq, forall_const, reduceCtorEq, implies_true, exists_eq_left', exists_eq_left, if_true, if_false, undef]
  | true =>
    rw [evL_cons hr1] at e1 e2 e3
    have hset := vlO_set (acc := acc) (n := f.into.length) (by omega) (rc y.toNat args fu).2.1
    have hvl := vlO_len (acc := acc) (n := f.into.length) (by omega)
    rw [hacc] at hset
    simp (maxSteps := 1000000) only [hw, Bo, Int.toNat_natCast, Nat.zero_add, encF, encU, EA, EB, EC, ED, EE, EF, EG, EH, XA, XB, XC, XD, XE, XF, XG, XH, XI, XJ, XK, XL, XM, reduceIte, ↓reduceIte, Nat.reduceAdd, Nat.reduceLeDiff, Nat.reduceEqDiff, Nat.reduceLT, Nat.reduceSub, Nat.reduceBEq, forall_const, reduceCtorEq, implies_true, exists_eq_left', exists_eq_left, if_true, if_false, undef]
    refine ⟨by omega, by omega, by simp [hvl]; omega, (j + 1, acc ++ [(rc y.toNat args fu).2.1], (rc y.toNat args fu).2.2), ⟨by simp only; omega, by simp [hacc], ?_, by simp only; omega, e1, e2, fun h => ?_⟩, by simp only; omega, ?_⟩
    · intro a ha
      rcases List.mem_append.1 ha with ha | ha
      · exact hsa a ha
      · simp only [List.mem_singleton] at ha
        rw [ha]; exact hok.2 hr1
    · rw [e3 h]; simp
    · rw [← hset, List.map_set]
      simp [Back, BackF, fzT, fzM, fzU, fz, fzL, fzO, kin, SubT, Sub, SubL, SubM, SubO, keepM, srcOk, look, lookM, ev, evs, putT, argT, encF, encU, EA, EB, EC, ED, EE, EF, EG, EH, XA, XB, XC, XD, XE, XF, XG, XH, XI, XJ, XK, XL, XM, reduceIte, ↓reduceIte, Nat.reduceAdd, Nat.reduceLeDiff, Nat.reduceEqDiff, Nat.reduceLT, Nat.reduceSub, Nat.reduceBEq, forall_const, reduceCtorEq, implies_true, exists_eq_left', exists_eq_left, if_true, if_false, undef]

end Go.Av
