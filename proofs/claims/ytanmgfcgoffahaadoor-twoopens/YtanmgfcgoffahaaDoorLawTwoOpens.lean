/- For any number the program tells the counters whose encoding it is, or that there are none; for all arguments, the listed variable holding what the program's text lays. -/
import Derived.Test.YtanmgfcgoffahaaDoorTwo
import Derived.Test.YtanmgfcgoffahaaDoorLaid
import Derived.Test.YtanmgfcgoffahaaDoorCards
import Derived.Test.YtanmgfcgoffahaaDoorTie
set_option linter.unusedSimpArgs false
set_option linter.unusedVariables false
set_option maxRecDepth 100000
namespace Go.Av
open Go.Proofs

theorem ro_ints (l : List Nat) : (l.map fun x => I (x : Nat)) = (l.map Int.ofNat).map I := by simp

theorem twoOpens_spec (counters n : Int) (hn : n < 2 ^ 63) : CallsA Tryd.prog 4 [I counters, I n] (Bo true) [] := by
  refine fn_of0 comp4 (by simp) ?_
  unfold code4
  simp (maxSteps := 1000000) only [EA, EB, EC, ED, EE, EF, EG, XA, XB, XC, XD, XE, XF, XG, XH, XI, XJ, XK, XL, reduceIte, ↓reduceIte, Nat.reduceAdd, Nat.reduceLeDiff, Nat.reduceEqDiff, Nat.reduceLT, Nat.reduceSub, Nat.reduceBEq, forall_const, reduceCtorEq, implies_true, exists_eq_left', exists_eq_left, if_true, if_false, undef]
  refine callA (CallsA.args (open_spec counters n hn) (by simp [EA, EB, EC, ED, EE, EF, EG, XA, XB, XC, XD, XE, XF, XG, XH, XI, XJ, XK, XL, reduceIte, ↓reduceIte, Nat.reduceAdd, Nat.reduceLeDiff, Nat.reduceEqDiff, Nat.reduceLT, Nat.reduceSub, Nat.reduceBEq, forall_const, reduceCtorEq, implies_true, exists_eq_left', exists_eq_left, if_true, if_false, undef])) rfl ?_
  by_cases hc : 1 ≤ counters ∧ counters ≤ 4
  · have e0 : decide (1 ≤ counters ∧ counters ≤ 4) = true := by simp [hc]
    by_cases h1 : n < 1
    · have hE : openErr counters n = 4 := by rw [openErr, if_neg (by omega), if_pos h1]
      have e1 : decide (n < 1) = true := by simp [h1]
      have e2 : ((4 : Int) == 4) = true := by decide
      have e3 : ((0 : Int) == 0) = true := by decide
      simp (maxSteps := 1000000) only [openAns, hE, Int.reduceEq, if_false, EA, EB, EC, ED, EE, EF, EG, XA, XB, XC, XD, XE, XF, XG, XH, XI, XJ, XK, XL, reduceIte, ↓reduceIte, Nat.reduceAdd, Nat.reduceLeDiff, Nat.reduceEqDiff, Nat.reduceLT, Nat.reduceSub, Nat.reduceBEq, forall_const, reduceCtorEq, implies_true, exists_eq_left', exists_eq_left, if_true, if_false, undef]
      refine callF (CallsA.args (within_spec 1 counters 4) (by simp [EA, EB, EC, ED, EE, EF, EG, XA, XB, XC, XD, XE, XF, XG, XH, XI, XJ, XK, XL, reduceIte, ↓reduceIte, Nat.reduceAdd, Nat.reduceLeDiff, Nat.reduceEqDiff, Nat.reduceLT, Nat.reduceSub, Nat.reduceBEq, forall_const, reduceCtorEq, implies_true, exists_eq_left', exists_eq_left, if_true, if_false, undef])) rfl (by simp [flat, EA, EB, EC, ED, EE, EF, EG, XA, XB, XC, XD, XE, XF, XG, XH, XI, XJ, XK, XL, reduceIte, ↓reduceIte, Nat.reduceAdd, Nat.reduceLeDiff, Nat.reduceEqDiff, Nat.reduceLT, Nat.reduceSub, Nat.reduceBEq, forall_const, reduceCtorEq, implies_true, exists_eq_left', exists_eq_left, if_true, if_false, undef]) ?_
      simp (maxSteps := 1000000) only [e0, e1, e2, EA, EB, EC, ED, EE, EF, EG, XA, XB, XC, XD, XE, XF, XG, XH, XI, XJ, XK, XL, reduceIte, ↓reduceIte, Nat.reduceAdd, Nat.reduceLeDiff, Nat.reduceEqDiff, Nat.reduceLT, Nat.reduceSub, Nat.reduceBEq, forall_const, reduceCtorEq, implies_true, exists_eq_left', exists_eq_left, if_true, if_false, undef]
      simp [EA, EB, EC, ED, EE, EF, EG, XA, XB, XC, XD, XE, XF, XG, XH, XI, XJ, XK, XL, reduceIte, ↓reduceIte, Nat.reduceAdd, Nat.reduceLeDiff, Nat.reduceEqDiff, Nat.reduceLT, Nat.reduceSub, Nat.reduceBEq, forall_const, reduceCtorEq, implies_true, exists_eq_left', exists_eq_left, if_true, if_false, undef]
    · have e1 : decide (n < 1) = false := by simp [h1]
      obtain ⟨k, rfl⟩ : ∃ k : Nat, counters = (k : Int) := ⟨counters.toNat, by omega⟩
      obtain ⟨x, rfl⟩ : ∃ x : Nat, n = (x : Int) := ⟨n.toNat, by omega⟩
      have hx : 0 < x := by omega
      have hE : openErr (k : Int) (x : Int) = if (opn (prs.take k) x).2 ≠ 1 then 5 else 0 := by
        rw [openErr, if_neg (by omega), if_neg (by omega)]; simp
      have hA : ∃ l : List Int, openAns (k : Int) (x : Int) = .tup [.ro 1 (l.map I), I (openErr (k : Int) (x : Int))] ∧ ((opn (prs.take k) x).2 = 1 → l = (opn (prs.take k) x).1.map Int.ofNat) ∧ ((opn (prs.take k) x).2 ≠ 1 → l = []) := by
        by_cases g : (opn (prs.take k) x).2 = 1
        · refine ⟨(opn (prs.take k) x).1.map Int.ofNat, ?_, fun _ => rfl, fun q => (q g).elim⟩
          have h0 : openErr (k : Int) (x : Int) = 0 := by rw [hE, if_neg (by simp [g])]
          rw [openAns, if_pos h0, h0, ro_ints]; simp
        · refine ⟨[], ?_, fun q => (g q).elim, fun _ => rfl⟩
          have h0 : openErr (k : Int) (x : Int) = 5 := by rw [hE, if_pos g]
          rw [openAns, if_neg (by omega), h0]; simp
      obtain ⟨l, hl, l1, l0⟩ := hA
      rw [hl]
      simp (maxSteps := 1000000) only [EA, EB, EC, ED, EE, EF, EG, XA, XB, XC, XD, XE, XF, XG, XH, XI, XJ, XK, XL, reduceIte, ↓reduceIte, Nat.reduceAdd, Nat.reduceLeDiff, Nat.reduceEqDiff, Nat.reduceLT, Nat.reduceSub, Nat.reduceBEq, forall_const, reduceCtorEq, implies_true, exists_eq_left', exists_eq_left, if_true, if_false, undef]
      refine callF (CallsA.args (within_spec 1 (k : Int) 4) (by simp [EA, EB, EC, ED, EE, EF, EG, XA, XB, XC, XD, XE, XF, XG, XH, XI, XJ, XK, XL, reduceIte, ↓reduceIte, Nat.reduceAdd, Nat.reduceLeDiff, Nat.reduceEqDiff, Nat.reduceLT, Nat.reduceSub, Nat.reduceBEq, forall_const, reduceCtorEq, implies_true, exists_eq_left', exists_eq_left, if_true, if_false, undef])) rfl (by simp [flat, EA, EB, EC, ED, EE, EF, EG, XA, XB, XC, XD, XE, XF, XG, XH, XI, XJ, XK, XL, reduceIte, ↓reduceIte, Nat.reduceAdd, Nat.reduceLeDiff, Nat.reduceEqDiff, Nat.reduceLT, Nat.reduceSub, Nat.reduceBEq, forall_const, reduceCtorEq, implies_true, exists_eq_left', exists_eq_left, if_true, if_false, undef]) ?_
      simp (maxSteps := 1000000) only [e0, e1, EA, EB, EC, ED, EE, EF, EG, XA, XB, XC, XD, XE, XF, XG, XH, XI, XJ, XK, XL, reduceIte, ↓reduceIte, Nat.reduceAdd, Nat.reduceLeDiff, Nat.reduceEqDiff, Nat.reduceLT, Nat.reduceSub, Nat.reduceBEq, forall_const, reduceCtorEq, implies_true, exists_eq_left', exists_eq_left, if_true, if_false, undef]
      refine loop0 Nat [8, 7] (fun i => [I i, I ((opn (prs.take i) x).2 : Nat)]) (fun i => i ≤ k) (fun i => k - i) (by decide) 0 (by simp) (by simp [Back, SubT, Sub, SubL, SubM, SubO, keepM, srcOk, look, lookM, ev, evs, putT, argT, EA, EB, EC, ED, EE, EF, EG, XA, XB, XC, XD, XE, XF, XG, XH, XI, XJ, XK, XL, reduceIte, ↓reduceIte, Nat.reduceAdd, Nat.reduceLeDiff, Nat.reduceEqDiff, Nat.reduceLT, Nat.reduceSub, Nat.reduceBEq, forall_const, reduceCtorEq, implies_true, exists_eq_left', exists_eq_left, if_true, if_false, undef, opn]) (fun i hi => ?_)
      have hpos := opn_pos (two_cut i) hx
      by_cases h : i < k
      · have f1 : decide ((i : Int) < (k : Int)) = true := by simp [h]
        have hi4 : i < prs.length := by simp [prs]; omega
        have hp2 : 1 < prs[i] := two_prs _ (List.getElem_mem hi4)
        have hw : IntKind.i64.wrap ((i : Int) + 1) = ((i + 1 : Nat) : Int) := by rw [wrap_id] <;> omega
        simp (maxSteps := 1000000) only [f1, EA, EB, EC, ED, EE, EF, EG, XA, XB, XC, XD, XE, XF, XG, XH, XI, XJ, XK, XL, reduceIte, ↓reduceIte, Nat.reduceAdd, Nat.reduceLeDiff, Nat.reduceEqDiff, Nat.reduceLT, Nat.reduceSub, Nat.reduceBEq, forall_const, reduceCtorEq, implies_true, exists_eq_left', exists_eq_left, if_true, if_false, undef]
        refine ⟨by omega, by simp [prs] at hi4; omega, pickP hi4 (by simp) ?_⟩
        simp (maxSteps := 1000000) only [EA, EB, EC, ED, EE, EF, EG, XA, XB, XC, XD, XE, XF, XG, XH, XI, XJ, XK, XL, reduceIte, ↓reduceIte, Nat.reduceAdd, Nat.reduceLeDiff, Nat.reduceEqDiff, Nat.reduceLT, Nat.reduceSub, Nat.reduceBEq, forall_const, reduceCtorEq, implies_true, exists_eq_left', exists_eq_left, if_true, if_false, undef]
        refine loop0 Nat [7] (fun m => [I (m : Nat)]) (fun m => rst prs[i] m = rst prs[i] (opn (prs.take i) x).2 ∧ 0 < m ∧ m ≤ x) (fun m => m) (by decide) (opn (prs.take i) x).2 (by simp; omega) (by simp [Back, SubT, Sub, SubL, SubM, SubO, keepM, srcOk, look, lookM, ev, evs, putT, argT, EA, EB, EC, ED, EE, EF, EG, XA, XB, XC, XD, XE, XF, XG, XH, XI, XJ, XK, XL, reduceIte, ↓reduceIte, Nat.reduceAdd, Nat.reduceLeDiff, Nat.reduceEqDiff, Nat.reduceLT, Nat.reduceSub, Nat.reduceBEq, forall_const, reduceCtorEq, implies_true, exists_eq_left', exists_eq_left, if_true, if_false, undef]) (fun m hm => ?_)
        obtain ⟨q2, q3, q4⟩ := hm
        by_cases g : m % prs[i] = 0
        · have e2 : (((m % prs[i] : Nat) : Int) == 0) = true := by simp [g]
          have hwd : IntKind.i64.wrap (((m / prs[i] : Nat)) : Int) = ((m / prs[i] : Nat) : Int) := by
            have := Nat.div_le_self m prs[i]
            generalize m / prs[i] = y at this ⊢
            rw [wrap_id] <;> omega
          have hrs := rst_step ⟨hp2, q3, g⟩
          have hd : 0 < m / prs[i] := by
            have : m / prs[i] * prs[i] = m := Nat.div_mul_cancel (Nat.dvd_of_mod_eq_zero g)
            exact Nat.pos_of_ne_zero fun h0 => by rw [h0] at this; omega
          have hdl : m / prs[i] < m := Nat.div_lt_self q3 hp2
          simp (maxSteps := 1000000) only [EA, EB, EC, ED, EE, EF, EG, XA, XB, XC, XD, XE, XF, XG, XH, XI, XJ, XK, XL, reduceIte, ↓reduceIte, Nat.reduceAdd, Nat.reduceLeDiff, Nat.reduceEqDiff, Nat.reduceLT, Nat.reduceSub, Nat.reduceBEq, forall_const, reduceCtorEq, implies_true, exists_eq_left', exists_eq_left, if_true, if_false, undef]
          refine ⟨by omega, ?_⟩
          simp (maxSteps := 1000000) only [tmod_nat, e2, EA, EB, EC, ED, EE, EF, EG, XA, XB, XC, XD, XE, XF, XG, XH, XI, XJ, XK, XL, reduceIte, ↓reduceIte, Nat.reduceAdd, Nat.reduceLeDiff, Nat.reduceEqDiff, Nat.reduceLT, Nat.reduceSub, Nat.reduceBEq, forall_const, reduceCtorEq, implies_true, exists_eq_left', exists_eq_left, if_true, if_false, undef]
          refine ⟨by omega, ?_⟩
          simp (maxSteps := 1000000) only [tdiv_nat, hwd, EA, EB, EC, ED, EE, EF, EG, XA, XB, XC, XD, XE, XF, XG, XH, XI, XJ, XK, XL, reduceIte, ↓reduceIte, Nat.reduceAdd, Nat.reduceLeDiff, Nat.reduceEqDiff, Nat.reduceLT, Nat.reduceSub, Nat.reduceBEq, forall_const, reduceCtorEq, implies_true, exists_eq_left', exists_eq_left, if_true, if_false, undef]
          exact ⟨m / prs[i], ⟨by rw [← q2, hrs], hd, by omega⟩, hdl, by simp [tdiv_nat, hwd, Back, SubT, Sub, SubL, SubM, SubO, keepM, srcOk, look, lookM, ev, evs, putT, argT, EA, EB, EC, ED, EE, EF, EG, XA, XB, XC, XD, XE, XF, XG, XH, XI, XJ, XK, XL, reduceIte, ↓reduceIte, Nat.reduceAdd, Nat.reduceLeDiff, Nat.reduceEqDiff, Nat.reduceLT, Nat.reduceSub, Nat.reduceBEq, forall_const, reduceCtorEq, implies_true, exists_eq_left', exists_eq_left, if_true, if_false, undef]⟩
        · have e2 : (((m % prs[i] : Nat) : Int) == 0) = false := by simp; omega
          have hrs := rst_stop (p := prs[i]) g
          simp (maxSteps := 1000000) only [EA, EB, EC, ED, EE, EF, EG, XA, XB, XC, XD, XE, XF, XG, XH, XI, XJ, XK, XL, reduceIte, ↓reduceIte, Nat.reduceAdd, Nat.reduceLeDiff, Nat.reduceEqDiff, Nat.reduceLT, Nat.reduceSub, Nat.reduceBEq, forall_const, reduceCtorEq, implies_true, exists_eq_left', exists_eq_left, if_true, if_false, undef]
          refine ⟨by omega, ?_⟩
          simp (maxSteps := 1000000) only [tmod_nat, e2, hw, EA, EB, EC, ED, EE, EF, EG, XA, XB, XC, XD, XE, XF, XG, XH, XI, XJ, XK, XL, reduceIte, ↓reduceIte, Nat.reduceAdd, Nat.reduceLeDiff, Nat.reduceEqDiff, Nat.reduceLT, Nat.reduceSub, Nat.reduceBEq, forall_const, reduceCtorEq, implies_true, exists_eq_left', exists_eq_left, if_true, if_false, undef]
          refine ⟨i + 1, by omega, by omega, ?_⟩
          rw [opn_next hi4, ← q2, hrs]
          simp [Back, SubT, Sub, SubL, SubM, SubO, keepM, srcOk, look, lookM, ev, evs, putT, argT, EA, EB, EC, ED, EE, EF, EG, XA, XB, XC, XD, XE, XF, XG, XH, XI, XJ, XK, XL, reduceIte, ↓reduceIte, Nat.reduceAdd, Nat.reduceLeDiff, Nat.reduceEqDiff, Nat.reduceLT, Nat.reduceSub, Nat.reduceBEq, forall_const, reduceCtorEq, implies_true, exists_eq_left', exists_eq_left, if_true, if_false, undef]
      · have f1 : decide ((i : Int) < (k : Int)) = false := by simp [h]
        have : i = k := by omega
        subst this
        by_cases g : (opn (prs.take i) x).2 = 1
        · have e2 : (((opn (prs.take i) x).2 : Int) != 1) = false := by simp [g]
          have e3 : ((0 : Int) == 0) = true := by decide
          rw [if_neg (by simp [g])] at hE
          have hl1 := l1 g
          have hlen : l.length = i := by rw [hl1]; simp [opn_length, prs]; omega
          have hll : ((l.map I).length : Int) = i := by simp [hlen]
          have e4 : ((i : Int) == i) = true := by simp
          have hpk : packed l = x := by
            have := opn_mul (two_cut i) hx
            rw [g, Nat.mul_one] at this
            rw [packed_cut (k := i) (by omega) (by omega), hl1]
            exact this
          simp (maxSteps := 1000000) only [f1, e2, hE, e3, hll, e4, EA, EB, EC, ED, EE, EF, EG, XA, XB, XC, XD, XE, XF, XG, XH, XI, XJ, XK, XL, reduceIte, ↓reduceIte, Nat.reduceAdd, Nat.reduceLeDiff, Nat.reduceEqDiff, Nat.reduceLT, Nat.reduceSub, Nat.reduceBEq, forall_const, reduceCtorEq, implies_true, exists_eq_left', exists_eq_left, if_true, if_false, undef]
          refine callF (CallsA.args (packed_spec l (by omega) (by omega)) (by simp [EA, EB, EC, ED, EE, EF, EG, XA, XB, XC, XD, XE, XF, XG, XH, XI, XJ, XK, XL, reduceIte, ↓reduceIte, Nat.reduceAdd, Nat.reduceLeDiff, Nat.reduceEqDiff, Nat.reduceLT, Nat.reduceSub, Nat.reduceBEq, forall_const, reduceCtorEq, implies_true, exists_eq_left', exists_eq_left, if_true, if_false, undef])) rfl (by simp [flat, EA, EB, EC, ED, EE, EF, EG, XA, XB, XC, XD, XE, XF, XG, XH, XI, XJ, XK, XL, reduceIte, ↓reduceIte, Nat.reduceAdd, Nat.reduceLeDiff, Nat.reduceEqDiff, Nat.reduceLT, Nat.reduceSub, Nat.reduceBEq, forall_const, reduceCtorEq, implies_true, exists_eq_left', exists_eq_left, if_true, if_false, undef]) ?_
          simp [hpk, EA, EB, EC, ED, EE, EF, EG, XA, XB, XC, XD, XE, XF, XG, XH, XI, XJ, XK, XL, reduceIte, ↓reduceIte, Nat.reduceAdd, Nat.reduceLeDiff, Nat.reduceEqDiff, Nat.reduceLT, Nat.reduceSub, Nat.reduceBEq, forall_const, reduceCtorEq, implies_true, exists_eq_left', exists_eq_left, if_true, if_false, undef]
        · have e2 : (((opn (prs.take i) x).2 : Int) != 1) = true := by simp; omega
          rw [if_pos g] at hE
          have e3 : ((5 : Int) == 5) = true := by decide
          simp (maxSteps := 1000000) only [f1, e2, hE, e3, l0 g, EA, EB, EC, ED, EE, EF, EG, XA, XB, XC, XD, XE, XF, XG, XH, XI, XJ, XK, XL, reduceIte, ↓reduceIte, Nat.reduceAdd, Nat.reduceLeDiff, Nat.reduceEqDiff, Nat.reduceLT, Nat.reduceSub, Nat.reduceBEq, forall_const, reduceCtorEq, implies_true, exists_eq_left', exists_eq_left, if_true, if_false, undef]
          simp [EA, EB, EC, ED, EE, EF, EG, XA, XB, XC, XD, XE, XF, XG, XH, XI, XJ, XK, XL, reduceIte, ↓reduceIte, Nat.reduceAdd, Nat.reduceLeDiff, Nat.reduceEqDiff, Nat.reduceLT, Nat.reduceSub, Nat.reduceBEq, forall_const, reduceCtorEq, implies_true, exists_eq_left', exists_eq_left, if_true, if_false, undef]
  · have e0 : decide (1 ≤ counters ∧ counters ≤ 4) = false := by simp [hc]
    have hE : openErr counters n = 1 := by rw [openErr, if_pos hc]
    have e2 : ((1 : Int) == 1) = true := by decide
    simp (maxSteps := 1000000) only [openAns, hE, Int.reduceEq, if_false, EA, EB, EC, ED, EE, EF, EG, XA, XB, XC, XD, XE, XF, XG, XH, XI, XJ, XK, XL, reduceIte, ↓reduceIte, Nat.reduceAdd, Nat.reduceLeDiff, Nat.reduceEqDiff, Nat.reduceLT, Nat.reduceSub, Nat.reduceBEq, forall_const, reduceCtorEq, implies_true, exists_eq_left', exists_eq_left, if_true, if_false, undef]
    refine callF (CallsA.args (within_spec 1 counters 4) (by simp [EA, EB, EC, ED, EE, EF, EG, XA, XB, XC, XD, XE, XF, XG, XH, XI, XJ, XK, XL, reduceIte, ↓reduceIte, Nat.reduceAdd, Nat.reduceLeDiff, Nat.reduceEqDiff, Nat.reduceLT, Nat.reduceSub, Nat.reduceBEq, forall_const, reduceCtorEq, implies_true, exists_eq_left', exists_eq_left, if_true, if_false, undef])) rfl (by simp [flat, EA, EB, EC, ED, EE, EF, EG, XA, XB, XC, XD, XE, XF, XG, XH, XI, XJ, XK, XL, reduceIte, ↓reduceIte, Nat.reduceAdd, Nat.reduceLeDiff, Nat.reduceEqDiff, Nat.reduceLT, Nat.reduceSub, Nat.reduceBEq, forall_const, reduceCtorEq, implies_true, exists_eq_left', exists_eq_left, if_true, if_false, undef]) ?_
    simp (maxSteps := 1000000) only [e0, e2, EA, EB, EC, ED, EE, EF, EG, XA, XB, XC, XD, XE, XF, XG, XH, XI, XJ, XK, XL, reduceIte, ↓reduceIte, Nat.reduceAdd, Nat.reduceLeDiff, Nat.reduceEqDiff, Nat.reduceLT, Nat.reduceSub, Nat.reduceBEq, forall_const, reduceCtorEq, implies_true, exists_eq_left', exists_eq_left, if_true, if_false, undef]
    simp [EA, EB, EC, ED, EE, EF, EG, XA, XB, XC, XD, XE, XF, XG, XH, XI, XJ, XK, XL, reduceIte, ↓reduceIte, Nat.reduceAdd, Nat.reduceLeDiff, Nat.reduceEqDiff, Nat.reduceLT, Nat.reduceSub, Nat.reduceBEq, forall_const, reduceCtorEq, implies_true, exists_eq_left', exists_eq_left, if_true, if_false, undef]

theorem i64_range {n : Int} (h : (Lit.int .i64 n).wf = true) : n < 2 ^ 63 := by
  simp [Lit.wf, IntKind.min, IntKind.max, IntKind.bits, IntKind.signed] at h; omega

def sh_TwoOpens : List Sh := [.int .i64, .int .i64]
theorem law_TwoOpens (xs : List AV) (h : HasAll sh_TwoOpens xs) : CallsA Tryd.prog 4 xs (.v (.bool true)) [] := by
  obtain ⟨x, r, rfl, hx, y, r, rfl, hy, rfl⟩ := h
  obtain ⟨c, rfl, _⟩ := hasInt hx
  obtain ⟨n, rfl, hn⟩ := hasInt hy
  exact twoOpens_spec c n (i64_range hn)

end Go.Av
namespace Go.Proofs.YtanmgfcgoffahaaDoor
open Go.ChangeShapes Go.WideShapes Go.ChangeAt Go.RowKit
open Go.Av (open_all shut_all OldS HasAll Sh CallsA shAll)

theorem own : ownKnob Tryd.prog.godebug = none := by kernel_rfl
theorem laidOut : laidOutB Tryd.prog = true := by kernel_rfl
theorem shs_eq : shAll Tryd.prog 12 Tryd.f4.params.toList = some Go.Av.sh_TwoOpens := by kernel_rfl
theorem readable : (Tryd.f4.params.toList.all fun t => Tryd.prog.readableRec t && decide (t < Tryd.prog.types.size)) = true := by kernel_rfl
theorem noStandIn : (Tryd.f4.params.toList.all fun t => !Tryd.prog.wantsStandIn t) = true := by kernel_rfl

theorem lifted (os : Os) (started : os.Started) (H : Type) (enc : TypeId × Value → H) :
    ReturnsInHanded {} Tryd.checked os 4 .any (fun w args => (Rows.twoOpensSpec.pre enc Tryd.prog Tryd.f4 Rows.twoOpensRow.domain false w args ∧ laidMet Tryd.prog Rows.twoOpensRow.laid w) ∧ sizedMet enc Tryd.prog Tryd.f4 (OpenSpec.ofChange Rows.twoOpensSpec) false w args)
      (Rows.twoOpensSpec.post enc Tryd.prog Tryd.f4 false true false false) := by
  refine returnsInHanded_of_change_and (C := Tryd.checked) (X := fun w _ => laidMet Tryd.prog Rows.twoOpensRow.laid w) (fun _ _ _ hh h => h.of_heap hh) own started (by kernel_rfl) Tryd.func4
    (ChangeSpec.witness_at (enc := enc) (C := Tryd.checked) (os := os) (X := fun w _ => laidMet Tryd.prog Rows.twoOpensRow.laid w) false (laidWorld os) #[.int .i64 0, .int .i64 0] 8 rfl (by kernel_rfl) (by kernel_rfl) (by kernel_rfl) (by kernel_rfl) (by kernel_rfl) (laid_met os _)) ?_
  intro W base args ds gs before hval0 hW hcnd _ hL _
  have hval : ∀ (j : Nat) t v, Tryd.f4.params[j]? = some t → args[j]? = some v → Value.okWide Tryd.prog W .any base t v := hval0
  have hW' := hW
  obtain ⟨p, q, hA0, hV, rfl, hfz, hnd⟩ := hW
  have hA : DataW.TrodAll enc Tryd.prog W 0 (fun _ => true) true Tryd.f4.params.toList args.toList ds p := hA0
  obtain ⟨xs, hxs, hlen, hR⟩ := open_all (g := 12) _ _ _ _ Go.Av.sh_TwoOpens hA (fun j t v ht hv => hval j t v (by simpa using ht) (by simpa using hv)) shs_eq
  obtain ⟨rfl, rfl⟩ := trodVars_none hV
  have hB := hA
  rw [Tryd.params4] at hB
  obtain ⟨v0, vs0, d0, ds0, p0, q0, hargs0, rfl, rfl, h0, r0⟩ := trodAll_cons hB
  obtain ⟨v1, vs1, d1, ds1, p1, q1, hargs1, rfl, rfl, h1, r1⟩ := trodAll_cons r0
  obtain ⟨rfl, rfl, rfl⟩ := trodAll_nil r1
  refine ((Go.Av.law_TwoOpens xs hxs).2 W (OldS W) args (sb_of_laid hL) (by simpa using hlen) (fun i x y h1 h2 => hR i x y h1 (by simpa using h2))).mono ?_
  rintro e W' ⟨v, S', κ', rfl, hv, _, _, _, bel⟩
  rw [hv.v_inv]
  exact ⟨_, rfl, _, _, _, [], _, [], hW', trodAll_mk1 (shut_bool Tryd.underlying4 _), shut_all laidOut bel _ _ _ _ (fun t ht => by
    have := (List.all_eq_true.1 readable) t ht
    simpa using this) hA, rfl, bel.frame _, fun h => by cases h⟩

theorem twoOpens_row : Rows.TwoOpensSaid :=
  OpenClaim.holds_of_wide 4 Tryd.f4 rfl rfl rfl rfl rfl rfl rfl ⟨rfl, rfl, rfl, rfl, rfl⟩ rfl rfl rfl rfl rfl (by kernel_rfl) Tryd.func4 (by kernel_rfl)
    (of_decide_eq_true (by kernel_rfl)) (by unfold Func.isWrapper; first | (rw [if_pos (by decide +kernel)]; kernel_rfl) | (rw [if_neg (by decide +kernel)]; exact ⟨rfl, rfl⟩))
    (fun os started H enc _ => lifted os started H enc)

theorem twoOpens_holds : Rows.TwoOpensCardSaid :=
  Claim7.holds_tied_plain_at .later [] [.data] true (true, "7c311db4e37b5dccc0990b66dd926de2e0805e9f4338a1b0e7797fc0aa290842") false
    twoOpens_row (fun _ h => by cases h) (by kernel_rfl) (fun _ h => by cases h) twoOpens_row_tie rfl ⟨rfl, rfl⟩ (by kernel_rfl) rfl
    (fun f fn hf hfn => by
      obtain rfl : f = 4 := Option.some.inj ((show Tryd.prog.funcNamed "tapeworks/tapeworkslaw.TwoOpens" = some 4 by kernel_rfl).symm.trans hf) |>.symm
      obtain rfl : fn = Tryd.f4 := (Option.some.inj (Tryd.func4.symm.trans hfn)).symm
      exact ⟨by kernel_rfl, fun j t ht => by
        have := (List.all_eq_true.1 noStandIn) t (List.mem_of_getElem? (by simpa using ht))
        exact (show Tryd.prog.wantsStandIn t = false by simpa using this)⟩)
    (by kernel_rfl)

end Go.Proofs.YtanmgfcgoffahaaDoor
