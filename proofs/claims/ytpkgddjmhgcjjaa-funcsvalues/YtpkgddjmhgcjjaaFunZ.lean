/- Functions: the document's evaluation. -/
import Derived.Test.YtpkgddjmhgcjjaaFunW
import Derived.Test.YtpkgddjmhgcjjaaLend
set_option linter.unusedSimpArgs false
set_option linter.unusedVariables false
set_option maxRecDepth 100000
namespace Go.Av
open Go.Proofs

/-- what the document's evaluation keeps of it -/
def rfV (r : Rs) : Int := if r.1 = true then (r.2.1 : Int) else -1
def rfL (r : Rs) : Int := if r.1 = true then (r.2.2 : Int) else 0
def rfT (r : Rs) : AV := .tup [I (rfV r), I (rfL r)]
theorem rfV_ok {r : Rs} (h : r.1 = true) : rfV r = r.2.1 := by rw [rfV, if_pos h]
theorem rfL_ok {r : Rs} (h : r.1 = true) : rfL r = r.2.2 := by rw [rfL, if_pos h]
theorem rfV_no {r : Rs} (h : r.1 = false) : rfV r = -1 := by rw [rfV, h]; rfl
theorem rfL_no {r : Rs} (h : r.1 = false) : rfL r = 0 := by rw [rfL, h]; rfl

abbrev aR (args : List Nat) : AV := .ro 1 (args.map IN)
def RfOk (l : List Fn) (k : Nat) (rc : Nat → List Nat → Nat → Rs) : Prop := ∀ j args fuel, VA l j args → j < k → fuel ≤ 20000 →
  CallsA Try.prog 14 [.ro 6 (l.map encF), IN j, aR args, IN fuel] (rfT (rc j args fuel)) []

theorem refFunc_spec (l : List Fn) (hg : Good l) : ∀ d, RfOk l d (evF l d) := by
  intro d
  induction d with
  | zero => intro j args fuel _ hj; omega
  | succ d ih =>
  intro i args fuel hva hi hfu
  have hil := hva.lt
  have hof := hg.okF hil
  have hus : ∀ u ∈ usL l[i], ∃ h : u.1.toNat < l.length, u.1.toNat < i ∧ l[u.1.toNat].args = u.2 := fun u hu => by
    obtain ⟨h1, h2⟩ := good_args hg hil u hu
    exact ⟨by omega, h1, h2⟩
  have hci : RfOk l i (evF l d) := fun j a fu h1 h2 h3 => ih j a fu h1 (by omega) h3
  have hal := hva.len
  have hsm := hva.sm
  have hlen := hg.len
  have hE : evF l (d + 1) i args fuel = if fuel = 0 then (false, 0, 0) else if l[i].kind = 2 then (decide (args.getD 0 0 + 1 ≤ 1000), args.getD 0 0 + 1, fuel - 1)
      else if l[i].kind = 3 then (true, args.getD l[i].pick.toNat 0, fuel - 1)
      else if l[i].kind = 4 then evC (evF l d) l[i] args (fuel - 1)
      else if l[i].kind = 5 then evA (evF l d) l[i] args (fuel - 1)
      else (true, 0, fuel - 1) := by simp only [evF, List.getElem?_eq_getElem hil]
  have hokE : RcOk (evF l d) := evF_ok l d
  generalize evF l d = rc at *
  generalize evF l (d + 1) i args fuel = res at *
  refine fn_of0 comp14 (by simp) ?_
  unfold code14
  by_cases h0 : fuel = 0
  · subst h0
    rw [if_pos rfl] at hE
    subst hE
    have g0 : (((0 : Nat) : Int) == 0) = true := by decide
    simp (maxSteps := 1000000) only [g0, rfT, rfV, rfL, if_false, Bool.false_eq_true, encF, encU, EA, EB, EC, ED, EE, EF, EG, EH, XA, XB, XC, XD, XE, XF, XG, XH, XI, XJ, XK, XL, XM, reduceIte, ↓reduceIte, Nat.reduceAdd, Nat.reduceLeDiff, Nat.reduceEqDiff, Nat.reduceLT, Nat.reduceSub, Nat.reduceBEq, forall_const, reduceCtorEq, implies_true, exists_eq_left', exists_eq_left, if_true, if_false, undef]
  have g0 : ((fuel : Int) == 0) = false := beq_false_of_ne (by omega)
  have w1 : IntKind.i64.wrap ((fuel : Int) - 1) = ((fuel - 1 : Nat) : Int) := by rw [wrap_id] <;> omega
  rw [if_neg h0] at hE
  have hll : ((l.map encF).length : Int) = l.length := by simp
  simp (maxSteps := 1000000) only [g0, w1, encF, encU, EA, EB, EC, ED, EE, EF, EG, EH, XA, XB, XC, XD, XE, XF, XG, XH, XI, XJ, XK, XL, XM, reduceIte, ↓reduceIte, Nat.reduceAdd, Nat.reduceLeDiff, Nat.reduceEqDiff, Nat.reduceLT, Nat.reduceSub, Nat.reduceBEq, forall_const, reduceCtorEq, implies_true, exists_eq_left', exists_eq_left, if_true, if_false, undef]
  refine ⟨by omega, pickM hil ?_⟩
  generalize l[i] = f at *
  generalize hfp : fuel - 1 = fp at *
  simp (maxSteps := 1000000) only [w1, encF, encU, EA, EB, EC, ED, EE, EF, EG, EH, XA, XB, XC, XD, XE, XF, XG, XH, XI, XJ, XK, XL, XM, reduceIte, ↓reduceIte, Nat.reduceAdd, Nat.reduceLeDiff, Nat.reduceEqDiff, Nat.reduceLT, Nat.reduceSub, Nat.reduceBEq, forall_const, reduceCtorEq, implies_true, exists_eq_left', exists_eq_left, if_true, if_false, undef]
  have ha4 := hof.args
  by_cases k2 : f.kind = 2
  · have g2 : (f.kind == 2) = true := by simpa using k2
    have g3 : (f.kind == 3) = false := by rw [k2]; decide
    have g4 : (f.kind == 4) = false := by rw [k2]; decide
    have g5 : (f.kind == 5) = false := by rw [k2]; decide
    have hlen : args.length = 1 := by have := hof.next k2; omega
    have hgt : (args.map IN)[Int.toNat 0]? = some (IN (args.getD 0 0)) := by
      rw [List.getElem?_map, List.getD_eq_getElem?_getD, show Int.toNat 0 = 0 from rfl, List.getElem?_eq_getElem (by omega)]; rfl
    have hle := getD_sm hsm 0
    have w2 : IntKind.i64.wrap ((args.getD 0 0 : Int) + 1) = ((args.getD 0 0 + 1 : Nat) : Int) := by rw [wrap_id] <;> omega
    rw [if_pos k2] at hE
    generalize args.getD 0 0 = y at *
    simp (maxSteps := 1000000) only [g2, encF, encU, EA, EB, EC, ED, EE, EF, EG, EH, XA, XB, XC, XD, XE, XF, XG, XH, XI, XJ, XK, XL, XM, reduceIte, ↓reduceIte, Nat.reduceAdd, Nat.reduceLeDiff, Nat.reduceEqDiff, Nat.reduceLT, Nat.reduceSub, Nat.reduceBEq, forall_const, reduceCtorEq, implies_true, exists_eq_left', exists_eq_left, if_true, if_false, undef]
    refine ⟨by omega, _, hgt, ?_⟩
    simp (maxSteps := 1000000) only [g2, g3, g4, g5, w2, encF, encU, EA, EB, EC, ED, EE, EF, EG, EH, XA, XB, XC, XD, XE, XF, XG, XH, XI, XJ, XK, XL, XM, reduceIte, ↓reduceIte, Nat.reduceAdd, Nat.reduceLeDiff, Nat.reduceEqDiff, Nat.reduceLT, Nat.reduceSub, Nat.reduceBEq, forall_const, reduceCtorEq, implies_true, exists_eq_left', exists_eq_left, if_true, if_false, undef]
    by_cases hy : y + 1 ≤ 1000
    · have g6 : decide (((y + 1 : Nat) : Int) > 1000) = false := by simp; omega
      have hr : res.1 = true := by rw [hE]; simpa using hy
      have e1 := rfV_ok hr
      have e2 := rfL_ok hr
      rw [hE] at e1 e2
      rw [hE, rfT, e1, e2]
      simp (maxSteps := 1000000) only [g6, w2, encF, encU, EA, EB, EC, ED, EE, EF, EG, EH, XA, XB, XC, XD, XE, XF, XG, XH, XI, XJ, XK, XL, XM, reduceIte, ↓reduceIte, Nat.reduceAdd, Nat.reduceLeDiff, Nat.reduceEqDiff, Nat.reduceLT, Nat.reduceSub, Nat.reduceBEq, forall_const, reduceCtorEq, implies_true, exists_eq_left', exists_eq_left, if_true, if_false, undef]
    · have g6 : decide (((y + 1 : Nat) : Int) > 1000) = true := by simp; omega
      have hr : res.1 = false := by rw [hE]; simpa using hy
      have e1 := rfV_no hr
      have e2 := rfL_no hr
      rw [rfT, e1, e2]
      simp (maxSteps := 1000000) only [g6, encF, encU, EA, EB, EC, ED, EE, EF, EG, EH, XA, XB, XC, XD, XE, XF, XG, XH, XI, XJ, XK, XL, XM, reduceIte, ↓reduceIte, Nat.reduceAdd, Nat.reduceLeDiff, Nat.reduceEqDiff, Nat.reduceLT, Nat.reduceSub, Nat.reduceBEq, forall_const, reduceCtorEq, implies_true, exists_eq_left', exists_eq_left, if_true, if_false, undef]
  have g2 : (f.kind == 2) = false := by simpa using k2
  rw [if_neg k2] at hE
  by_cases k3 : f.kind = 3
  · have g3 : (f.kind == 3) = true := by simpa using k3
    have g4 : (f.kind == 4) = false := by rw [k3]; decide
    have g5 : (f.kind == 5) = false := by rw [k3]; decide
    have hp := hof.pick k3
    have hgt : (args.map IN)[f.pick.toNat]? = some (IN (args.getD f.pick.toNat 0)) := by
      rw [List.getElem?_map, List.getD_eq_getElem?_getD, List.getElem?_eq_getElem (by omega)]; rfl
    have hle := getD_sm hsm f.pick.toNat
    rw [if_pos k3] at hE
    generalize args.getD f.pick.toNat 0 = y at *
    have g6 : decide ((y : Int) > 1000) = false := by simp; omega
    subst hE
    simp (maxSteps := 1000000) only [g2, g3, encF, encU, EA, EB, EC, ED, EE, EF, EG, EH, XA, XB, XC, XD, XE, XF, XG, XH, XI, XJ, XK, XL, XM, reduceIte, ↓reduceIte, Nat.reduceAdd, Nat.reduceLeDiff, Nat.reduceEqDiff, Nat.reduceLT, Nat.reduceSub, Nat.reduceBEq, forall_const, reduceCtorEq, implies_true, exists_eq_left', exists_eq_left, if_true, if_false, undef]
    refine ⟨hp.1, _, hgt, ?_⟩
    simp (maxSteps := 1000000) only [g4, g5, g6, rfT, rfV, rfL, if_true, encF, encU, EA, EB, EC, ED, EE, EF, EG, EH, XA, XB, XC, XD, XE, XF, XG, XH, XI, XJ, XK, XL, XM, reduceIte, ↓reduceIte, Nat.reduceAdd, Nat.reduceLeDiff, Nat.reduceEqDiff, Nat.reduceLT, Nat.reduceSub, Nat.reduceBEq, forall_const, reduceCtorEq, implies_true, exists_eq_left', exists_eq_left, if_true, if_false, undef]
  have g3 : (f.kind == 3) = false := by simpa using k3
  rw [if_neg k3] at hE
  by_cases k4 : f.kind = 4
  · have g4 : (f.kind == 4) = true := by simpa using k4
    rw [if_pos k4] at hE
    have hfl : ((f.into.map I).length : Int) = f.into.length := by simp
    simp (maxSteps := 1000000) only [g2, g3, g4, hfl, encF, encU, EA, EB, EC, ED, EE, EF, EG, EH, XA, XB, XC, XD, XE, XF, XG, XH, XI, XJ, XK, XL, XM, reduceIte, ↓reduceIte, Nat.reduceAdd, Nat.reduceLeDiff, Nat.reduceEqDiff, Nat.reduceLT, Nat.reduceSub, Nat.reduceBEq, forall_const, reduceCtorEq, implies_true, exists_eq_left', exists_eq_left, if_true, if_false, undef]
    have hi4 := hof.into k4
    have husf : usL f = (f.a, (f.into.length : Int)) :: f.into.map (fun j => (j, f.args)) := by rw [usL, if_pos k4]
    refine loopR (Nat × List Nat × Nat) [50, 3, 12] (fun s => [IN s.1, IN s.2.2, .arr 28 0 s.1]) (fun s => [(28, some (.arr 1 (s.2.1.map IN)))]) 1
      (fun s => s.1 ≤ f.into.length ∧ s.2.1.length = s.1 ∧ Sm s.2.1 ∧ s.2.2 ≤ 20000 ∧ (evL rc args f.into fp).1 = (evL rc args (f.into.drop s.1) s.2.2).1 ∧ (evL rc args f.into fp).2.2 = (evL rc args (f.into.drop s.1) s.2.2).2.2 ∧
      ((evL rc args f.into fp).1 = true → (evL rc args f.into fp).2.1 = s.2.1 ++ (evL rc args (f.into.drop s.1) s.2.2).2.1)) (fun s => f.into.length - s.1) (by decide)
      (0, [], fp) [none] rfl ⟨by simp, rfl, by simp [Sm], by simp only; omega, rfl, rfl, fun _ => by simp⟩ (by simp [Back, BackF, fzT, fzM, fzU, fz, fzL, fzO, kin, SubT, Sub, SubL, SubM, SubO, keepM, srcOk, look, lookM, ev, evs, putT, argT, encF, encU, EA, EB, EC, ED, EE, EF, EG, EH, XA, XB, XC, XD, XE, XF, XG, XH, XI, XJ, XK, XL, XM, reduceIte, ↓reduceIte, Nat.reduceAdd, Nat.reduceLeDiff, Nat.reduceEqDiff, Nat.reduceLT, Nat.reduceSub, Nat.reduceBEq, forall_const, reduceCtorEq, implies_true, exists_eq_left', exists_eq_left, if_true, if_false, undef]) ?_
    rintro ⟨j, acc, fu⟩ ⟨hj, hacc, hsa, hfu2, e1, e2, e3⟩
    simp only at hj hacc hsa hfu2 e1 e2 e3
    by_cases c1 : j < f.into.length
    rotate_left
    · have f1 : decide ((j : Int) < (f.into.length : Int)) = false := by simp [c1]
      have : j = f.into.length := by omega
      subst this
      rw [List.drop_length] at e1 e2 e3
      simp only [evL] at e1 e2 e3
      have e3 := e3 e1
      rw [List.append_nil] at e3
      have hC : res = rc f.a.toNat acc fu := by rw [hE, evC, if_pos e1, e2, e3]
      obtain ⟨ha0, hak, haa⟩ := hus (f.a, (f.into.length : Int)) (by rw [husf]; simp)
      have ha1 := hof.uses (f.a, (f.into.length : Int)) (by rw [husf]; simp)
      simp only at ha0 hak haa ha1
      have hcl := hci f.a.toNat acc fu ⟨ha0, by rw [haa, hacc], hsa⟩ hak hfu2
      have haN : I f.a = IN f.a.toNat := by rw [IN, Int.toNat_of_nonneg ha1.1]
      have htk : List.take f.into.length (acc.map IN) = acc.map IN := List.take_of_length_le (by simp [hacc])
      rw [hC]
      simp only [rfT] at hcl ⊢
      simp (maxSteps := 1000000) only [hfl, f1, haN, encF, encU, EA, EB, EC, ED, EE, EF, EG, EH, XA, XB, XC, XD, XE, XF, XG, XH, XI, XJ, XK, XL, XM, reduceIte, ↓reduceIte, Nat.reduceAdd, Nat.reduceLeDiff, Nat.reduceEqDiff, Nat.reduceLT, Nat.reduceSub, Nat.reduceBEq, forall_const, reduceCtorEq, implies_true, exists_eq_left', exists_eq_left, if_true, if_false, undef]
      refine callA (CallsA.args (hcl ) (by simp [ htk,encF, encU, EA, EB, EC, ED, EE, EF, EG, EH, XA, XB, XC, XD, XE, XF, XG, XH, XI, XJ, XK, XL, XM, reduceIte, ↓reduceIte, Nat.reduceAdd, Nat.reduceLeDiff, Nat.reduceEqDiff, Nat.reduceLT, Nat.reduceSub, Nat.reduceBEq, forall_const, reduceCtorEq, implies_true, exists_eq_left', exists_eq_left, if_true, if_false, undef])) rfl ?_
      simp (maxSteps := 1000000) only [encF, encU, EA, EB, EC, ED, EE, EF, EG, EH, XA, XB, XC, XD, XE, XF, XG, XH, XI, XJ, XK, XL, XM, reduceIte, ↓reduceIte, Nat.reduceAdd, Nat.reduceLeDiff, Nat.reduceEqDiff, Nat.reduceLT, Nat.reduceSub, Nat.reduceBEq, forall_const, reduceCtorEq, implies_true, exists_eq_left', exists_eq_left, if_true, if_false, undef]
    have f1 : decide ((j : Int) < (f.into.length : Int)) = true := by simp [c1]
    have hw : IntKind.i64.wrap ((j : Int) + 1) = ((j + 1 : Nat) : Int) := by rw [wrap_id] <;> omega
    have hdr : f.into.drop j = f.into[j] :: f.into.drop (j + 1) := List.drop_eq_getElem_cons c1
    rw [hdr] at e1 e2 e3
    obtain ⟨ha0, hak, haa⟩ := hus (f.into[j], f.args) (by rw [husf]; simp)
    have ha1 := hof.uses (f.into[j], f.args) (by rw [husf]; simp)
    simp only at ha0 hak haa ha1
    have hcl := hci f.into[j].toNat args fu ⟨ha0, by rw [haa, hal], hsm⟩ hak hfu2
    have hok := hokE f.into[j].toNat args fu hsm
    simp (maxSteps := 1000000) only [hfl, f1, encF, encU, EA, EB, EC, ED, EE, EF, EG, EH, XA, XB, XC, XD, XE, XF, XG, XH, XI, XJ, XK, XL, XM, reduceIte, ↓reduceIte, Nat.reduceAdd, Nat.reduceLeDiff, Nat.reduceEqDiff, Nat.reduceLT, Nat.reduceSub, Nat.reduceBEq, forall_const, reduceCtorEq, implies_true, exists_eq_left', exists_eq_left, if_true, if_false, undef]
    refine ⟨by omega, pickM c1 ?_⟩
    have haN : I f.into[j] = IN f.into[j].toNat := by rw [IN, Int.toNat_of_nonneg ha1.1]
    rw [haN]
    generalize f.into[j] = y at *
    simp only [rfT] at hcl
    simp (maxSteps := 1000000) only [encF, encU, EA, EB, EC, ED, EE, EF, EG, EH, XA, XB, XC, XD, XE, XF, XG, XH, XI, XJ, XK, XL, XM, reduceIte, ↓reduceIte, Nat.reduceAdd, Nat.reduceLeDiff, Nat.reduceEqDiff, Nat.reduceLT, Nat.reduceSub, Nat.reduceBEq, forall_const, reduceCtorEq, implies_true, exists_eq_left', exists_eq_left, if_true, if_false, undef]
    refine callA (CallsA.args (hcl) (by simp [encF, encU, EA, EB, EC, ED, EE, EF, EG, EH, XA, XB, XC, XD, XE, XF, XG, XH, XI, XJ, XK, XL, XM, reduceIte, ↓reduceIte, Nat.reduceAdd, Nat.reduceLeDiff, Nat.reduceEqDiff, Nat.reduceLT, Nat.reduceSub, Nat.reduceBEq, forall_const, reduceCtorEq, implies_true, exists_eq_left', exists_eq_left, if_true, if_false, undef])) rfl ?_
    simp (maxSteps := 1000000) only [encF, encU, EA, EB, EC, ED, EE, EF, EG, EH, XA, XB, XC, XD, XE, XF, XG, XH, XI, XJ, XK, XL, XM, reduceIte, ↓reduceIte, Nat.reduceAdd, Nat.reduceLeDiff, Nat.reduceEqDiff, Nat.reduceLT, Nat.reduceSub, Nat.reduceBEq, forall_const, reduceCtorEq, implies_true, exists_eq_left', exists_eq_left, if_true, if_false, undef]
    cases hr1 : (rc y.toNat args fu).1 with
    | false =>
      have q1 := rfV_no hr1
      have q2 := rfL_no hr1
      have g6 : decide ((-1 : Int) < 0) = true := by decide
      have hr : res.1 = false := by rw [hE, evC, if_neg (by rw [e1, evL, if_neg (by rw [hr1]; simp)]; simp)]
      have e1 := rfV_no hr
      have e2 := rfL_no hr
      rw [rfT, e1, e2]
      simp (maxSteps := 1000000) only [q1, q2, g6, encF, encU, EA, EB, EC, ED, EE, EF, EG, EH, XA, XB, XC, XD, XE, XF, XG, XH, XI, XJ, XK, XL, XM, reduceIte, ↓reduceIte, Nat.reduceAdd, Nat.reduceLeDiff, Nat.reduceEqDiff, Nat.reduceLT, Nat.reduceSub, Nat.reduceBEq, forall_const, reduceCtorEq, implies_true, exists_eq_left', exists_eq_left, if_true, if_false, undef]
    | true =>
      have q1 := rfV_ok hr1
      have q2 := rfL_ok hr1
      have hcons : evL rc args (y :: f.into.drop (j + 1)) fu = ((evL rc args (f.into.drop (j + 1)) (rc y.toNat args fu).2.2).1, (rc y.toNat args fu).2.1 :: (evL rc args (f.into.drop (j + 1)) (rc y.toNat args fu).2.2).2.1, (evL rc args (f.into.drop (j + 1)) (rc y.toNat args fu).2.2).2.2) := by rw [evL, if_pos hr1]
      rw [hcons] at e1 e2 e3
      have hv := hok.2 hr1
      have g6 : decide (((rc y.toNat args fu).2.1 : Int) < 0) = false := by simp
      have hml : (acc.map IN).length = j := by rw [List.length_map, hacc]
      simp (maxSteps := 1000000) only [q1, q2, g6, hw, hml, encF, encU, EA, EB, EC, ED, EE, EF, EG, EH, XA, XB, XC, XD, XE, XF, XG, XH, XI, XJ, XK, XL, XM, reduceIte, ↓reduceIte, Nat.reduceAdd, Nat.reduceLeDiff, Nat.reduceEqDiff, Nat.reduceLT, Nat.reduceSub, Nat.reduceBEq, forall_const, reduceCtorEq, implies_true, exists_eq_left', exists_eq_left, if_true, if_false, undef]
      refine ⟨by omega, (j + 1, acc ++ [(rc y.toNat args fu).2.1], (rc y.toNat args fu).2.2), [some 50], rfl, ⟨by simp only; omega, by simp [hacc], ?_, by simp only; omega, e1, e2, fun h => ?_⟩, by simp only; omega, ?_⟩
      · intro a ha
        rcases List.mem_append.1 ha with ha | ha
        · exact hsa a ha
        · simp only [List.mem_singleton] at ha
          rw [ha]; exact hv
      · rw [e3 h]; simp
      · simp [Back, BackF, fzT, fzM, fzU, fz, fzL, fzO, kin, SubT, Sub, SubL, SubM, SubO, keepM, srcOk, look, lookM, ev, evs, putT, argT, encF, encU, EA, EB, EC, ED, EE, EF, EG, EH, XA, XB, XC, XD, XE, XF, XG, XH, XI, XJ, XK, XL, XM, reduceIte, ↓reduceIte, Nat.reduceAdd, Nat.reduceLeDiff, Nat.reduceEqDiff, Nat.reduceLT, Nat.reduceSub, Nat.reduceBEq, forall_const, reduceCtorEq, implies_true, exists_eq_left', exists_eq_left, if_true, if_false, undef]
  have g4 : (f.kind == 4) = false := by simpa using k4
  rw [if_neg k4] at hE
  by_cases k5 : f.kind = 5
  · have g5 : (f.kind == 5) = true := by simpa using k5
    rw [if_pos k5] at hE
    have ha1 := hof.again k5
    have husf : usL f = [(f.a, f.args - 1), (f.b, f.args + 1)] := by rw [usL, if_neg (by omega), if_pos k5]
    have hll : ((args.map IN).length : Int) = f.args := by simp [hal]
    have w1 : IntKind.i64.wrap (f.args - 1) = f.args - 1 := by rw [wrap_id] <;> omega
    have htk : List.drop ((0 : Nat) : Int).toNat (List.take (f.args - 1).toNat (args.map IN)) = (args.take (f.args - 1).toNat).map IN := by simp [List.map_take]
    have hlt : (f.args - 1).toNat < args.length := by omega
    have hgt : (args.map IN)[(f.args - 1).toNat]? = some (IN (args.getD (f.args - 1).toNat 0)) := by
      rw [List.getElem?_map, List.getD_eq_getElem?_getD, List.getElem?_eq_getElem hlt]; rfl
    have hE : res = evR (rc f.b.toNat) (args.take (f.args - 1).toNat) (args.getD (f.args - 1).toNat 0) 0 (rc f.a.toNat (args.take (f.args - 1).toNat) fp) := hE
    have hol : ((args.take (f.args - 1).toNat).length : Int) = f.args - 1 := by rw [List.length_take]; omega
    have hos : Sm (args.take (f.args - 1).toNat) := sm_take hsm _
    have hlast := getD_sm hsm (f.args - 1).toNat
    generalize args.take (f.args - 1).toNat = oth at *
    generalize args.getD (f.args - 1).toNat 0 = last at *
    obtain ⟨hA0, hAk, hAa⟩ := hus (f.a, f.args - 1) (by rw [husf]; simp)
    have hAu := hof.uses (f.a, f.args - 1) (by rw [husf]; simp)
    obtain ⟨hB0, hBk, hBa⟩ := hus (f.b, f.args + 1) (by rw [husf]; simp)
    have hBu := hof.uses (f.b, f.args + 1) (by rw [husf]; simp)
    simp only at hA0 hAk hAa hAu hB0 hBk hBa hBu
    have haN : I f.a = IN f.a.toNat := by rw [IN, Int.toNat_of_nonneg hAu.1]
    have hbN : I f.b = IN f.b.toNat := by rw [IN, Int.toNat_of_nonneg hBu.1]
    have hcl := hci f.a.toNat oth fp ⟨hA0, by rw [hAa, hol], hos⟩ hAk (by omega)
    have hok := hokE f.a.toNat oth fp hos
    simp (maxSteps := 1000000) only [g2, g3, g4, g5, hll, w1, htk, haN, hbN, encF, encU, EA, EB, EC, ED, EE, EF, EG, EH, XA, XB, XC, XD, XE, XF, XG, XH, XI, XJ, XK, XL, XM, reduceIte, ↓reduceIte, Nat.reduceAdd, Nat.reduceLeDiff, Nat.reduceEqDiff, Nat.reduceLT, Nat.reduceSub, Nat.reduceBEq, forall_const, reduceCtorEq, implies_true, exists_eq_left', exists_eq_left, if_true, if_false, undef]
    refine ⟨by omega, by omega, by omega, ?_⟩
    simp only [rfT] at hcl
    refine callXd (CallsA.args (hcl) (by simp [encF, encU, EA, EB, EC, ED, EE, EF, EG, EH, XA, XB, XC, XD, XE, XF, XG, XH, XI, XJ, XK, XL, XM, reduceIte, ↓reduceIte, Nat.reduceAdd, Nat.reduceLeDiff, Nat.reduceEqDiff, Nat.reduceLT, Nat.reduceSub, Nat.reduceBEq, forall_const, reduceCtorEq, implies_true, exists_eq_left', exists_eq_left, if_true, if_false, undef])) rfl (by simp [flat, encF, encU, EA, EB, EC, ED, EE, EF, EG, EH, XA, XB, XC, XD, XE, XF, XG, XH, XI, XJ, XK, XL, XM, reduceIte, ↓reduceIte, Nat.reduceAdd, Nat.reduceLeDiff, Nat.reduceEqDiff, Nat.reduceLT, Nat.reduceSub, Nat.reduceBEq, forall_const, reduceCtorEq, implies_true, exists_eq_left', exists_eq_left, if_true, if_false, undef]) (by simp [encF, encU, EA, EB, EC, ED, EE, EF, EG, EH, XA, XB, XC, XD, XE, XF, XG, XH, XI, XJ, XK, XL, XM, reduceIte, ↓reduceIte, Nat.reduceAdd, Nat.reduceLeDiff, Nat.reduceEqDiff, Nat.reduceLT, Nat.reduceSub, Nat.reduceBEq, forall_const, reduceCtorEq, implies_true, exists_eq_left', exists_eq_left, if_true, if_false, undef]) ?_
    simp (maxSteps := 1000000) only [encF, encU, EA, EB, EC, ED, EE, EF, EG, EH, XA, XB, XC, XD, XE, XF, XG, XH, XI, XJ, XK, XL, XM, reduceIte, ↓reduceIte, Nat.reduceAdd, Nat.reduceLeDiff, Nat.reduceEqDiff, Nat.reduceLT, Nat.reduceSub, Nat.reduceBEq, forall_const, reduceCtorEq, implies_true, exists_eq_left', exists_eq_left, if_true, if_false, undef]
    generalize rc f.a.toNat oth fp = s0 at *
    refine loopO (Nat × Rs) [20, 18, 19] (fun s => [IN s.1, I (rfV s.2), I (rfL s.2)]) (fun s => [])
      (fun s => s.1 ≤ last ∧ (s.2.1 = true → s.2.2.1 ≤ 1000) ∧ s.2.2.2 ≤ 20000 ∧ res = evR (rc f.b.toNat) oth (last - s.1) s.1 s.2) (fun s => last - s.1) (by decide)
      (0, s0) ⟨by simp, hok.2, by have := hok.1; simp only; omega, hE⟩ (by simp [Back, BackF, fzT, fzM, fzU, fz, fzL, fzO, kin, SubT, Sub, SubL, SubM, SubO, keepM, srcOk, look, lookM, ev, evs, putT, argT, encF, encU, EA, EB, EC, ED, EE, EF, EG, EH, XA, XB, XC, XD, XE, XF, XG, XH, XI, XJ, XK, XL, XM, reduceIte, ↓reduceIte, Nat.reduceAdd, Nat.reduceLeDiff, Nat.reduceEqDiff, Nat.reduceLT, Nat.reduceSub, Nat.reduceBEq, forall_const, reduceCtorEq, implies_true, exists_eq_left', exists_eq_left, if_true, if_false, undef]) ?_
    rintro ⟨x, ok, v, fu⟩ ⟨hx, hv, hf2, hev⟩
    simp only at hx hv hf2 hev
    simp (maxSteps := 1000000) only [hll, w1, encF, encU, EA, EB, EC, ED, EE, EF, EG, EH, XA, XB, XC, XD, XE, XF, XG, XH, XI, XJ, XK, XL, XM, reduceIte, ↓reduceIte, Nat.reduceAdd, Nat.reduceLeDiff, Nat.reduceEqDiff, Nat.reduceLT, Nat.reduceSub, Nat.reduceBEq, forall_const, reduceCtorEq, implies_true, exists_eq_left', exists_eq_left, if_true, if_false, undef]
    refine ⟨by omega, _, hgt, ?_⟩
    cases ok with
    | false =>
      have e : evR (rc f.b.toNat) oth (last - x) x (false, v, fu) = (false, v, fu) := by
        cases last - x with
        | zero => rfl
        | succ n => rfl
      rw [e] at hev
      subst hev
      have g6 : decide ((-1 : Int) ≥ 0) = false := by decide
      have g7 : decide ((-1 : Int) < 0) = true := by decide
      have q1 : rfV (false, v, fu) = -1 := rfl
      have q2 : rfL (false, v, fu) = 0 := rfl
      cases hb : decide ((x : Int) < (last : Int)) with
      | true => simp (maxSteps := 1000000) only [hb, hll, w1, g6, g7, q1, q2, rfT, encF, encU, EA, EB, EC, ED, EE, EF, EG, EH, XA, XB, XC, XD, XE, XF, XG, XH, XI, XJ, XK, XL, XM, reduceIte, ↓reduceIte, Nat.reduceAdd, Nat.reduceLeDiff, Nat.reduceEqDiff, Nat.reduceLT, Nat.reduceSub, Nat.reduceBEq, forall_const, reduceCtorEq, implies_true, exists_eq_left', exists_eq_left, if_true, if_false, undef]
      | false => simp (maxSteps := 1000000) only [hb, hll, w1, g6, g7, q1, q2, rfT, encF, encU, EA, EB, EC, ED, EE, EF, EG, EH, XA, XB, XC, XD, XE, XF, XG, XH, XI, XJ, XK, XL, XM, reduceIte, ↓reduceIte, Nat.reduceAdd, Nat.reduceLeDiff, Nat.reduceEqDiff, Nat.reduceLT, Nat.reduceSub, Nat.reduceBEq, forall_const, reduceCtorEq, implies_true, exists_eq_left', exists_eq_left, if_true, if_false, undef]
    | true =>
    have g6 : decide ((v : Int) ≥ 0) = true := by simp
    have g7 : decide ((v : Int) < 0) = false := by simp
    have q1 : rfV (true, v, fu) = v := rfl
    have q2 : rfL (true, v, fu) = fu := rfl
    have hv := hv rfl
    by_cases c1 : x < last
    rotate_left
    · have f1 : decide ((x : Int) < (last : Int)) = false := by simp [c1]
      have : x = last := by omega
      subst this
      rw [Nat.sub_self, evR] at hev
      subst hev
      simp (maxSteps := 1000000) only [f1, hll, w1, g6, g7, q1, q2, rfT, encF, encU, EA, EB, EC, ED, EE, EF, EG, EH, XA, XB, XC, XD, XE, XF, XG, XH, XI, XJ, XK, XL, XM, reduceIte, ↓reduceIte, Nat.reduceAdd, Nat.reduceLeDiff, Nat.reduceEqDiff, Nat.reduceLT, Nat.reduceSub, Nat.reduceBEq, forall_const, reduceCtorEq, implies_true, exists_eq_left', exists_eq_left, if_true, if_false, undef]
    have f1 : decide ((x : Int) < (last : Int)) = true := by simp [c1]
    have hw : IntKind.i64.wrap ((x : Int) + 1) = ((x + 1 : Nat) : Int) := by rw [wrap_id] <;> omega
    have hsm2 : Sm (oth ++ [x, v]) := fun a ha => by
      rcases List.mem_append.1 ha with ha | ha
      · exact hos a ha
      · simp only [List.mem_cons, List.not_mem_nil, or_false] at ha
        rcases ha with rfl | rfl <;> omega
    have hcl2 := hci f.b.toNat (oth ++ [x, v]) fu ⟨hB0, by rw [hBa]; simp; omega, hsm2⟩ hBk hf2
    have hok2 := hokE f.b.toNat (oth ++ [x, v]) fu hsm2
    have hnx : res = evR (rc f.b.toNat) oth (last - (x + 1)) (x + 1) (rc f.b.toNat (oth ++ [x, v]) fu) := by
      rw [hev, show last - x = (last - (x + 1)) + 1 by omega, evR, if_pos rfl]
    simp (maxSteps := 1000000) only [f1, hll, w1, g6, htk, hbN, q1, q2, encF, encU, EA, EB, EC, ED, EE, EF, EG, EH, XA, XB, XC, XD, XE, XF, XG, XH, XI, XJ, XK, XL, XM, reduceIte, ↓reduceIte, Nat.reduceAdd, Nat.reduceLeDiff, Nat.reduceEqDiff, Nat.reduceLT, Nat.reduceSub, Nat.reduceBEq, forall_const, reduceCtorEq, implies_true, exists_eq_left', exists_eq_left, if_true, if_false, undef]
    have hcm : CallsM Try.prog 14 [.ro 6 (l.map encF), IN f.b.toNat, .arr 0 0 ((oth.map IN).length + 2), IN fu] [.arr 1 (oth.map IN ++ [IN x, IN v])] (rfT (rc f.b.toNat (oth ++ [x, v]) fu)) [none] :=
      CallsM.ofA hcl2 (by simp [frzL, frz, pos, memOf, memFrom, lookM, List.take_of_length_le]) rfl
    simp only [rfT] at hcm
    refine ⟨by omega, by omega, by omega, by simp; omega, by simp; omega, ?_⟩
    refine callX [65] [] (hcm) (by simp [encF, encU, EA, EB, EC, ED, EE, EF, EG, EH, XA, XB, XC, XD, XE, XF, XG, XH, XI, XJ, XK, XL, XM, reduceIte, ↓reduceIte, Nat.reduceAdd, Nat.reduceLeDiff, Nat.reduceEqDiff, Nat.reduceLT, Nat.reduceSub, Nat.reduceBEq, forall_const, reduceCtorEq, implies_true, exists_eq_left', exists_eq_left, if_true, if_false, undef]) (by simp [encF, encU, EA, EB, EC, ED, EE, EF, EG, EH, XA, XB, XC, XD, XE, XF, XG, XH, XI, XJ, XK, XL, XM, reduceIte, ↓reduceIte, Nat.reduceAdd, Nat.reduceLeDiff, Nat.reduceEqDiff, Nat.reduceLT, Nat.reduceSub, Nat.reduceBEq, forall_const, reduceCtorEq, implies_true, exists_eq_left', exists_eq_left, if_true, if_false, undef]) (by simp) (by simp [encF, encU, EA, EB, EC, ED, EE, EF, EG, EH, XA, XB, XC, XD, XE, XF, XG, XH, XI, XJ, XK, XL, XM, reduceIte, ↓reduceIte, Nat.reduceAdd, Nat.reduceLeDiff, Nat.reduceEqDiff, Nat.reduceLT, Nat.reduceSub, Nat.reduceBEq, forall_const, reduceCtorEq, implies_true, exists_eq_left', exists_eq_left, if_true, if_false, undef]) (by simp [encF, encU, EA, EB, EC, ED, EE, EF, EG, EH, XA, XB, XC, XD, XE, XF, XG, XH, XI, XJ, XK, XL, XM, reduceIte, ↓reduceIte, Nat.reduceAdd, Nat.reduceLeDiff, Nat.reduceEqDiff, Nat.reduceLT, Nat.reduceSub, Nat.reduceBEq, forall_const, reduceCtorEq, implies_true, exists_eq_left', exists_eq_left, if_true, if_false, undef]) (by simp [encF, encU, EA, EB, EC, ED, EE, EF, EG, EH, XA, XB, XC, XD, XE, XF, XG, XH, XI, XJ, XK, XL, XM, reduceIte, ↓reduceIte, Nat.reduceAdd, Nat.reduceLeDiff, Nat.reduceEqDiff, Nat.reduceLT, Nat.reduceSub, Nat.reduceBEq, forall_const, reduceCtorEq, implies_true, exists_eq_left', exists_eq_left, if_true, if_false, undef]) (by simp [encF, encU, EA, EB, EC, ED, EE, EF, EG, EH, XA, XB, XC, XD, XE, XF, XG, XH, XI, XJ, XK, XL, XM, reduceIte, ↓reduceIte, Nat.reduceAdd, Nat.reduceLeDiff, Nat.reduceEqDiff, Nat.reduceLT, Nat.reduceSub, Nat.reduceBEq, forall_const, reduceCtorEq, implies_true, exists_eq_left', exists_eq_left, if_true, if_false, undef]) (by simp) ?_
    simp (maxSteps := 1000000) only [hw, Option.toList_some, Option.toList_none, encF, encU, EA, EB, EC, ED, EE, EF, EG, EH, XA, XB, XC, XD, XE, XF, XG, XH, XI, XJ, XK, XL, XM, reduceIte, ↓reduceIte, Nat.reduceAdd, Nat.reduceLeDiff, Nat.reduceEqDiff, Nat.reduceLT, Nat.reduceSub, Nat.reduceBEq, forall_const, reduceCtorEq, implies_true, exists_eq_left', exists_eq_left, if_true, if_false, undef]
    exact ⟨⟨by decide, by decide⟩, (x + 1, rc f.b.toNat (oth ++ [x, v]) fu), ⟨by simp only; omega, hok2.2, by have := hok2.1; simp only; omega, hnx⟩, by simp only; omega, by simp [Back, BackF, fzT, fzM, fzU, fz, fzL, fzO, kin, SubT, Sub, SubL, SubM, SubO, keepM, srcOk, look, lookM, ev, evs, putT, argT, encF, encU, EA, EB, EC, ED, EE, EF, EG, EH, XA, XB, XC, XD, XE, XF, XG, XH, XI, XJ, XK, XL, XM, reduceIte, ↓reduceIte, Nat.reduceAdd, Nat.reduceLeDiff, Nat.reduceEqDiff, Nat.reduceLT, Nat.reduceSub, Nat.reduceBEq, forall_const, reduceCtorEq, implies_true, exists_eq_left', exists_eq_left, if_true, if_false, undef]⟩
  have g5 : (f.kind == 5) = false := by simpa using k5
  rw [if_neg k5] at hE
  subst hE
  have g6 : decide ((0 : Int) > 1000) = false := by decide
  simp (maxSteps := 1000000) only [g2, g3, g4, g5, g6, rfT, rfV, rfL, if_true, encF, encU, EA, EB, EC, ED, EE, EF, EG, EH, XA, XB, XC, XD, XE, XF, XG, XH, XI, XJ, XK, XL, XM, reduceIte, ↓reduceIte, Nat.reduceAdd, Nat.reduceLeDiff, Nat.reduceEqDiff, Nat.reduceLT, Nat.reduceSub, Nat.reduceBEq, forall_const, reduceCtorEq, implies_true, exists_eq_left', exists_eq_left, if_true, if_false, undef]
  rfl

end Go.Av
