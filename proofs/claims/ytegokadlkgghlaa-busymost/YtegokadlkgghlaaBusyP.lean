/- Small machines: the program's run of all of them. -/
import Derived.Test.YtegokadlkgghlaaBusyB
import Derived.Test.YtegokadlkgghlaaBusyL
set_option linter.unusedSimpArgs false
set_option linter.unusedVariables false
set_option maxRecDepth 100000
namespace Go.Av
open Go.Proofs

theorem ones_spec (l : List Int) (hl : l.length ≤ 1000000) : CallsA Try.prog 25 [.ro 1 (l.map I)] (IN (ones1 l)) [] := by
  refine fn_of0 comp25 (by simp) ?_
  unfold code25
  have hll : ((l.map I).length : Int) = l.length := by simp
  simp (maxSteps := 1000000) only [hll, encR, encRow, encM, EA, EB, EC, ED, EE, EF, EG, EH, EI, XA, XB, XC, XD, XE, XF, XG, XH, XI, XJ, XK, XL, XM, reduceIte, ↓reduceIte, Nat.reduceAdd, Nat.reduceLeDiff, Nat.reduceEqDiff, Nat.reduceLT, Nat.reduceSub, Nat.reduceBEq, forall_const, reduceCtorEq, implies_true, exists_eq_left', exists_eq_left, if_true, if_false, undef]
  refine loopO Nat [8, 3] (fun k => [IN k, IN (ones1 (l.take k))]) (fun k => []) (fun k => k ≤ l.length) (fun k => l.length - k) (by decide) 0 (by simp) (by simp [Back, BackF, fzT, fzM, fzU, fz, fzL, fzO, kin, SubT, Sub, SubL, SubM, SubO, keepM, srcOk, look, lookM, ev, evs, putT, argT, encR, encRow, encM, EA, EB, EC, ED, EE, EF, EG, EH, EI, XA, XB, XC, XD, XE, XF, XG, XH, XI, XJ, XK, XL, XM, reduceIte, ↓reduceIte, Nat.reduceAdd, Nat.reduceLeDiff, Nat.reduceEqDiff, Nat.reduceLT, Nat.reduceSub, Nat.reduceBEq, forall_const, reduceCtorEq, implies_true, exists_eq_left', exists_eq_left, if_true, if_false, undef, ones1]) (fun k hk => ?_)
  by_cases c1 : k < l.length
  · have g1 : decide ((k : Int) < (l.length : Int)) = true := by simp [c1]
    have w1 : IntKind.i64.wrap ((k : Int) + 1) = ((k + 1 : Nat) : Int) := by rw [wrap_id] <;> omega
    have hnx : ones1 (l.take (k + 1)) = ones1 (l.take k) + (if l[k] = 1 then 1 else 0) := by
      rw [List.take_add_one, List.getElem?_eq_getElem c1, Option.toList_some, ones1_append]
      simp [ones1]
    have hb := ones1_le (l.take k)
    rw [List.length_take, Nat.min_eq_left hk] at hb
    simp (maxSteps := 1000000) only [hll, g1, encR, encRow, encM, EA, EB, EC, ED, EE, EF, EG, EH, EI, XA, XB, XC, XD, XE, XF, XG, XH, XI, XJ, XK, XL, XM, reduceIte, ↓reduceIte, Nat.reduceAdd, Nat.reduceLeDiff, Nat.reduceEqDiff, Nat.reduceLT, Nat.reduceSub, Nat.reduceBEq, forall_const, reduceCtorEq, implies_true, exists_eq_left', exists_eq_left, if_true, if_false, undef]
    refine ⟨by omega, pickM c1 ?_⟩
    generalize l[k] = x at *
    by_cases hx : x = 1
    · have g2 : (x == 1) = true := by simp [hx]
      rw [if_pos hx] at hnx
      have w2 : IntKind.i64.wrap ((ones1 (l.take k) : Int) + 1) = ((ones1 (l.take (k + 1)) : Nat) : Int) := by rw [hnx, wrap_id] <;> omega
      simp (maxSteps := 1000000) only [g2, w1, w2, encR, encRow, encM, EA, EB, EC, ED, EE, EF, EG, EH, EI, XA, XB, XC, XD, XE, XF, XG, XH, XI, XJ, XK, XL, XM, reduceIte, ↓reduceIte, Nat.reduceAdd, Nat.reduceLeDiff, Nat.reduceEqDiff, Nat.reduceLT, Nat.reduceSub, Nat.reduceBEq, forall_const, reduceCtorEq, implies_true, exists_eq_left', exists_eq_left, if_true, if_false, undef]
      exact ⟨k + 1, by omega, by omega, by simp [Back, BackF, fzT, fzM, fzU, fz, fzL, fzO, kin, SubT, Sub, SubL, SubM, SubO, keepM, srcOk, look, lookM, ev, evs, putT, argT, encR, encRow, encM, EA, EB, EC, ED, EE, EF, EG, EH, EI, XA, XB, XC, XD, XE, XF, XG, XH, XI, XJ, XK, XL, XM, reduceIte, ↓reduceIte, Nat.reduceAdd, Nat.reduceLeDiff, Nat.reduceEqDiff, Nat.reduceLT, Nat.reduceSub, Nat.reduceBEq, forall_const, reduceCtorEq, implies_true, exists_eq_left', exists_eq_left, if_true, if_false, undef]⟩
    · have g2 : (x == 1) = false := by simp [hx]
      rw [if_neg hx, Nat.add_zero] at hnx
      simp (maxSteps := 1000000) only [g2, w1, encR, encRow, encM, EA, EB, EC, ED, EE, EF, EG, EH, EI, XA, XB, XC, XD, XE, XF, XG, XH, XI, XJ, XK, XL, XM, reduceIte, ↓reduceIte, Nat.reduceAdd, Nat.reduceLeDiff, Nat.reduceEqDiff, Nat.reduceLT, Nat.reduceSub, Nat.reduceBEq, forall_const, reduceCtorEq, implies_true, exists_eq_left', exists_eq_left, if_true, if_false, undef]
      exact ⟨k + 1, by omega, by omega, by simp [Back, BackF, fzT, fzM, fzU, fz, fzL, fzO, kin, SubT, Sub, SubL, SubM, SubO, keepM, srcOk, look, lookM, ev, evs, putT, argT, encR, encRow, encM, EA, EB, EC, ED, EE, EF, EG, EH, EI, XA, XB, XC, XD, XE, XF, XG, XH, XI, XJ, XK, XL, XM, reduceIte, ↓reduceIte, Nat.reduceAdd, Nat.reduceLeDiff, Nat.reduceEqDiff, Nat.reduceLT, Nat.reduceSub, Nat.reduceBEq, forall_const, reduceCtorEq, implies_true, exists_eq_left', exists_eq_left, if_true, if_false, undef, hnx]⟩
  · have g1 : decide ((k : Int) < (l.length : Int)) = false := by simp; omega
    obtain rfl : k = l.length := by omega
    simp (maxSteps := 1000000) only [hll, g1, List.take_length, encR, encRow, encM, EA, EB, EC, ED, EE, EF, EG, EH, EI, XA, XB, XC, XD, XE, XF, XG, XH, XI, XJ, XK, XL, XM, reduceIte, ↓reduceIte, Nat.reduceAdd, Nat.reduceLeDiff, Nat.reduceEqDiff, Nat.reduceLT, Nat.reduceSub, Nat.reduceBEq, forall_const, reduceCtorEq, implies_true, exists_eq_left', exists_eq_left, if_true, if_false, undef]

theorem mostP_spec (s S : Int) : CallsA Try.prog 14 [I s, I S] (mostAns s S) [] := by
  refine fn_of0 comp14 (by simp) ?_
  unfold code14
  simp (maxSteps := 1000000) only [encR, encRow, encM, EA, EB, EC, ED, EE, EF, EG, EH, EI, XA, XB, XC, XD, XE, XF, XG, XH, XI, XJ, XK, XL, XM, reduceIte, ↓reduceIte, Nat.reduceAdd, Nat.reduceLeDiff, Nat.reduceEqDiff, Nat.reduceLT, Nat.reduceSub, Nat.reduceBEq, forall_const, reduceCtorEq, implies_true, exists_eq_left', exists_eq_left, if_true, if_false, undef]
  refine callF (CallsA.args (isStates_spec s) (by simp [encR, encRow, encM, EA, EB, EC, ED, EE, EF, EG, EH, EI, XA, XB, XC, XD, XE, XF, XG, XH, XI, XJ, XK, XL, XM, reduceIte, ↓reduceIte, Nat.reduceAdd, Nat.reduceLeDiff, Nat.reduceEqDiff, Nat.reduceLT, Nat.reduceSub, Nat.reduceBEq, forall_const, reduceCtorEq, implies_true, exists_eq_left', exists_eq_left, if_true, if_false, undef])) rfl (by simp [flat, encR, encRow, encM, EA, EB, EC, ED, EE, EF, EG, EH, EI, XA, XB, XC, XD, XE, XF, XG, XH, XI, XJ, XK, XL, XM, reduceIte, ↓reduceIte, Nat.reduceAdd, Nat.reduceLeDiff, Nat.reduceEqDiff, Nat.reduceLT, Nat.reduceSub, Nat.reduceBEq, forall_const, reduceCtorEq, implies_true, exists_eq_left', exists_eq_left, if_true, if_false, undef]) ?_
  by_cases h1 : 1 ≤ s ∧ s ≤ 2
  rotate_left
  · have g1 : decide (1 ≤ s ∧ s ≤ 2) = false := by simp only [decide_eq_false_iff_not]; exact h1
    have e : mostAns s S = .tup [I 0, I 0, I 0, I 1] := by rw [mostAns, if_pos h1]
    simp (maxSteps := 1000000) only [g1, e, encR, encRow, encM, EA, EB, EC, ED, EE, EF, EG, EH, EI, XA, XB, XC, XD, XE, XF, XG, XH, XI, XJ, XK, XL, XM, reduceIte, ↓reduceIte, Nat.reduceAdd, Nat.reduceLeDiff, Nat.reduceEqDiff, Nat.reduceLT, Nat.reduceSub, Nat.reduceBEq, forall_const, reduceCtorEq, implies_true, exists_eq_left', exists_eq_left, if_true, if_false, undef]
  have g1 : decide (1 ≤ s ∧ s ≤ 2) = true := by simp only [decide_eq_true_eq]; exact h1
  by_cases h2 : 0 ≤ S ∧ S ≤ 60
  rotate_left
  · have e : mostAns s S = .tup [I 0, I 0, I 0, I 7] := by rw [mostAns, if_neg (fun h => h h1), if_pos h2]
    by_cases h3 : S < 0
    · have g2 : decide (S < 0) = true := by simp [h3]
      simp (maxSteps := 1000000) only [g1, g2, e, encR, encRow, encM, EA, EB, EC, ED, EE, EF, EG, EH, EI, XA, XB, XC, XD, XE, XF, XG, XH, XI, XJ, XK, XL, XM, reduceIte, ↓reduceIte, Nat.reduceAdd, Nat.reduceLeDiff, Nat.reduceEqDiff, Nat.reduceLT, Nat.reduceSub, Nat.reduceBEq, forall_const, reduceCtorEq, implies_true, exists_eq_left', exists_eq_left, if_true, if_false, undef]
    · have g2 : decide (S < 0) = false := by simp only [decide_eq_false_iff_not]; exact h3
      have g3 : decide (S > 60) = true := by simp only [decide_eq_true_eq]; omega
      simp (maxSteps := 1000000) only [g1, g2, g3, e, encR, encRow, encM, EA, EB, EC, ED, EE, EF, EG, EH, EI, XA, XB, XC, XD, XE, XF, XG, XH, XI, XJ, XK, XL, XM, reduceIte, ↓reduceIte, Nat.reduceAdd, Nat.reduceLeDiff, Nat.reduceEqDiff, Nat.reduceLT, Nat.reduceSub, Nat.reduceBEq, forall_const, reduceCtorEq, implies_true, exists_eq_left', exists_eq_left, if_true, if_false, undef]
  have g2 : decide (S < 0) = false := by simp only [decide_eq_false_iff_not]; omega
  have g3 : decide (S > 60) = false := by simp only [decide_eq_false_iff_not]; omega
  obtain ⟨a, rfl⟩ : ∃ a : Nat, s = (a : Int) := ⟨s.toNat, by omega⟩
  obtain ⟨b, rfl⟩ : ∃ b : Nat, S = (b : Int) := ⟨S.toNat, by omega⟩
  have ha : a = 1 ∨ a = 2 := by omega
  have e : mostAns a b = .tup [IN (busyF a b).1, IN (busyF a b).2.1, IN (busyF a b).2.2, I 0] := by
    rw [mostAns, if_neg (fun h => h h1), if_neg (fun h => h h2), Int.toNat_natCast, Int.toNat_natCast]
  rw [e]
  simp (maxSteps := 1000000) only [g1, g2, g3, encR, encRow, encM, EA, EB, EC, ED, EE, EF, EG, EH, EI, XA, XB, XC, XD, XE, XF, XG, XH, XI, XJ, XK, XL, XM, reduceIte, ↓reduceIte, Nat.reduceAdd, Nat.reduceLeDiff, Nat.reduceEqDiff, Nat.reduceLT, Nat.reduceSub, Nat.reduceBEq, forall_const, reduceCtorEq, implies_true, exists_eq_left', exists_eq_left, if_true, if_false, undef]
  refine callF (CallsA.args (machines_spec a ha) (by simp [encR, encRow, encM, EA, EB, EC, ED, EE, EF, EG, EH, EI, XA, XB, XC, XD, XE, XF, XG, XH, XI, XJ, XK, XL, XM, reduceIte, ↓reduceIte, Nat.reduceAdd, Nat.reduceLeDiff, Nat.reduceEqDiff, Nat.reduceLT, Nat.reduceSub, Nat.reduceBEq, forall_const, reduceCtorEq, implies_true, exists_eq_left', exists_eq_left, if_true, if_false, undef])) rfl (by simp [flat, encR, encRow, encM, EA, EB, EC, ED, EE, EF, EG, EH, EI, XA, XB, XC, XD, XE, XF, XG, XH, XI, XJ, XK, XL, XM, reduceIte, ↓reduceIte, Nat.reduceAdd, Nat.reduceLeDiff, Nat.reduceEqDiff, Nat.reduceLT, Nat.reduceSub, Nat.reduceBEq, forall_const, reduceCtorEq, implies_true, exists_eq_left', exists_eq_left, if_true, if_false, undef]) ?_
  have hb : bldTop a ≤ 20736 := by rcases ha with rfl | rfl <;> decide
  simp (maxSteps := 1000000) only [encR, encRow, encM, EA, EB, EC, ED, EE, EF, EG, EH, EI, XA, XB, XC, XD, XE, XF, XG, XH, XI, XJ, XK, XL, XM, reduceIte, ↓reduceIte, Nat.reduceAdd, Nat.reduceLeDiff, Nat.reduceEqDiff, Nat.reduceLT, Nat.reduceSub, Nat.reduceBEq, forall_const, reduceCtorEq, implies_true, exists_eq_left', exists_eq_left, if_true, if_false, undef]
  refine loopO Nat [26, 8, 9, 10] (fun n => [IN n, IN (btr a b n).1, IN (btr a b n).2.1, IN (btr a b n).2.2]) (fun n => []) (fun n => n ≤ bldTop a) (fun n => bldTop a - n) (by decide) 0 (by simp) (by simp [Back, BackF, fzT, fzM, fzU, fz, fzL, fzO, kin, SubT, Sub, SubL, SubM, SubO, keepM, srcOk, look, lookM, ev, evs, putT, argT, encR, encRow, encM, EA, EB, EC, ED, EE, EF, EG, EH, EI, XA, XB, XC, XD, XE, XF, XG, XH, XI, XJ, XK, XL, XM, reduceIte, ↓reduceIte, Nat.reduceAdd, Nat.reduceLeDiff, Nat.reduceEqDiff, Nat.reduceLT, Nat.reduceSub, Nat.reduceBEq, forall_const, reduceCtorEq, implies_true, exists_eq_left', exists_eq_left, if_true, if_false, undef, btr]) (fun n hn => ?_)
  obtain ⟨b1, b2, b3⟩ := btr_bounds (s := a) (S := b) (by omega) n
  by_cases c1 : n < bldTop a
  rotate_left
  · have g4 : decide ((n : Int) < (bldTop a : Int)) = false := by simp; omega
    obtain rfl : n = bldTop a := by omega
    have e2 : btr a b (bldTop a) = busyF a b := rfl
    simp (maxSteps := 1000000) only [g4, e2, encR, encRow, encM, EA, EB, EC, ED, EE, EF, EG, EH, EI, XA, XB, XC, XD, XE, XF, XG, XH, XI, XJ, XK, XL, XM, reduceIte, ↓reduceIte, Nat.reduceAdd, Nat.reduceLeDiff, Nat.reduceEqDiff, Nat.reduceLT, Nat.reduceSub, Nat.reduceBEq, forall_const, reduceCtorEq, implies_true, exists_eq_left', exists_eq_left, if_true, if_false, undef]
  have g4 : decide ((n : Int) < (bldTop a : Int)) = true := by simp [c1]
  have w1 : IntKind.i64.wrap ((n : Int) + 1) = ((n + 1 : Nat) : Int) := by rw [wrap_id] <;> omega
  simp (maxSteps := 1000000) only [g4, encR, encRow, encM, EA, EB, EC, ED, EE, EF, EG, EH, EI, XA, XB, XC, XD, XE, XF, XG, XH, XI, XJ, XK, XL, XM, reduceIte, ↓reduceIte, Nat.reduceAdd, Nat.reduceLeDiff, Nat.reduceEqDiff, Nat.reduceLT, Nat.reduceSub, Nat.reduceBEq, forall_const, reduceCtorEq, implies_true, exists_eq_left', exists_eq_left, if_true, if_false, undef]
  refine callA (CallsA.args (buildP_spec a n ha c1) (by simp [encR, encRow, encM, EA, EB, EC, ED, EE, EF, EG, EH, EI, XA, XB, XC, XD, XE, XF, XG, XH, XI, XJ, XK, XL, XM, reduceIte, ↓reduceIte, Nat.reduceAdd, Nat.reduceLeDiff, Nat.reduceEqDiff, Nat.reduceLT, Nat.reduceSub, Nat.reduceBEq, forall_const, reduceCtorEq, implies_true, exists_eq_left', exists_eq_left, if_true, if_false, undef])) rfl ?_
  have hrun := run_spec (bldM a n) [] b (by simp)
  have herr : runErr (bldM a n) [] b = 0 := by
    unfold runErr
    rw [bldM_ok ha]
    simp; omega
  obtain ⟨hd, fs, tp, ht, hones, htl⟩ := bld_tell (n := n) ha (S := b) (by omega)
  obtain ⟨hlk, hdone⟩ := lk_run (n := n) (s := a) (S := b) (by omega) (Nat.le_refl b)
  have hdn : doneC (bldM a n) (startC ⟨0, 0, 0, []⟩) b = bdn a b n := hdone
  have hans : runAns (bldM a n) [] b = .tup [encN ⟨((bfin a b n).st : Int), hd, fs, tp⟩, IN (bdn a b n), I 0] := by
    rw [runAns, if_pos herr, Int.toNat_natCast, ht, hdn]
  have hz := brun_ok (s := a) (by omega) (dgt_ok a n) (S := b) (k := b) (Nat.le_refl _)
  have hfe : bfin a b n = brun a (dgt a n) (bz0 b) b := rfl
  rw [← hfe] at hz
  have hst := hz.st
  simp (maxSteps := 1000000) only [encM, encR, encRow, encM, EA, EB, EC, ED, EE, EF, EG, EH, EI, XA, XB, XC, XD, XE, XF, XG, XH, XI, XJ, XK, XL, XM, reduceIte, ↓reduceIte, Nat.reduceAdd, Nat.reduceLeDiff, Nat.reduceEqDiff, Nat.reduceLT, Nat.reduceSub, Nat.reduceBEq, forall_const, reduceCtorEq, implies_true, exists_eq_left', exists_eq_left, if_true, if_false, undef]
  refine callA (CallsA.args (hrun ) (by simp [ encM,encR, encRow, encM, EA, EB, EC, ED, EE, EF, EG, EH, EI, XA, XB, XC, XD, XE, XF, XG, XH, XI, XJ, XK, XL, XM, reduceIte, ↓reduceIte, Nat.reduceAdd, Nat.reduceLeDiff, Nat.reduceEqDiff, Nat.reduceLT, Nat.reduceSub, Nat.reduceBEq, forall_const, reduceCtorEq, implies_true, exists_eq_left', exists_eq_left, if_true, if_false, undef])) rfl ?_
  have hbt : btr a b (n + 1) = if (bfin a b n).st < a then btr a b n else (max (btr a b n).1 (bdn a b n), max (btr a b n).2.1 (bfin a b n).tape.sum, (btr a b n).2.2 + 1) := rfl
  generalize bfin a b n = Z at *
  simp (maxSteps := 1000000) only [hans, encN, splice, AV.cells, encR, encRow, encM, EA, EB, EC, ED, EE, EF, EG, EH, EI, XA, XB, XC, XD, XE, XF, XG, XH, XI, XJ, XK, XL, XM, reduceIte, ↓reduceIte, Nat.reduceAdd, Nat.reduceLeDiff, Nat.reduceEqDiff, Nat.reduceLT, Nat.reduceSub, Nat.reduceBEq, forall_const, reduceCtorEq, implies_true, exists_eq_left', exists_eq_left, if_true, if_false, undef]
  by_cases c2 : Z.st < a
  · have g5 : ((Z.st : Int) != (a : Int)) = true := by simp; omega
    rw [if_pos c2] at hbt
    simp (maxSteps := 1000000) only [g5, w1, encR, encRow, encM, EA, EB, EC, ED, EE, EF, EG, EH, EI, XA, XB, XC, XD, XE, XF, XG, XH, XI, XJ, XK, XL, XM, reduceIte, ↓reduceIte, Nat.reduceAdd, Nat.reduceLeDiff, Nat.reduceEqDiff, Nat.reduceLT, Nat.reduceSub, Nat.reduceBEq, forall_const, reduceCtorEq, implies_true, exists_eq_left', exists_eq_left, if_true, if_false, undef]
    exact ⟨n + 1, by omega, by omega, by simp [Back, BackF, fzT, fzM, fzU, fz, fzL, fzO, kin, SubT, Sub, SubL, SubM, SubO, keepM, srcOk, look, lookM, ev, evs, putT, argT, encR, encRow, encM, EA, EB, EC, ED, EE, EF, EG, EH, EI, XA, XB, XC, XD, XE, XF, XG, XH, XI, XJ, XK, XL, XM, reduceIte, ↓reduceIte, Nat.reduceAdd, Nat.reduceLeDiff, Nat.reduceEqDiff, Nat.reduceLT, Nat.reduceSub, Nat.reduceBEq, forall_const, reduceCtorEq, implies_true, exists_eq_left', exists_eq_left, if_true, if_false, undef, hbt]⟩
  have g5 : ((Z.st : Int) != (a : Int)) = false := by simp; omega
  rw [if_neg c2] at hbt
  simp (maxSteps := 1000000) only [g5, encR, encRow, encM, EA, EB, EC, ED, EE, EF, EG, EH, EI, XA, XB, XC, XD, XE, XF, XG, XH, XI, XJ, XK, XL, XM, reduceIte, ↓reduceIte, Nat.reduceAdd, Nat.reduceLeDiff, Nat.reduceEqDiff, Nat.reduceLT, Nat.reduceSub, Nat.reduceBEq, forall_const, reduceCtorEq, implies_true, exists_eq_left', exists_eq_left, if_true, if_false, undef]
  have hmx : ∀ x y : Nat, (if (x : Int) > (y : Int) then (x : Int) else (y : Int)) = ((max y x : Nat) : Int) := fun x y => by split <;> omega
  have w2 : IntKind.i64.wrap (((btr a b n).2.2 : Int) + 1) = (((btr a b n).2.2 + 1 : Nat) : Int) := by rw [wrap_id] <;> omega
  refine callF (CallsA.args (ones_spec tp (by omega)) (by simp [encR, encRow, encM, EA, EB, EC, ED, EE, EF, EG, EH, EI, XA, XB, XC, XD, XE, XF, XG, XH, XI, XJ, XK, XL, XM, reduceIte, ↓reduceIte, Nat.reduceAdd, Nat.reduceLeDiff, Nat.reduceEqDiff, Nat.reduceLT, Nat.reduceSub, Nat.reduceBEq, forall_const, reduceCtorEq, implies_true, exists_eq_left', exists_eq_left, if_true, if_false, undef])) rfl (by simp [flat, encR, encRow, encM, EA, EB, EC, ED, EE, EF, EG, EH, EI, XA, XB, XC, XD, XE, XF, XG, XH, XI, XJ, XK, XL, XM, reduceIte, ↓reduceIte, Nat.reduceAdd, Nat.reduceLeDiff, Nat.reduceEqDiff, Nat.reduceLT, Nat.reduceSub, Nat.reduceBEq, forall_const, reduceCtorEq, implies_true, exists_eq_left', exists_eq_left, if_true, if_false, undef]) ?_
  simp (maxSteps := 1000000) only [hones, hmx, w1, w2, encR, encRow, encM, EA, EB, EC, ED, EE, EF, EG, EH, EI, XA, XB, XC, XD, XE, XF, XG, XH, XI, XJ, XK, XL, XM, reduceIte, ↓reduceIte, Nat.reduceAdd, Nat.reduceLeDiff, Nat.reduceEqDiff, Nat.reduceLT, Nat.reduceSub, Nat.reduceBEq, forall_const, reduceCtorEq, implies_true, exists_eq_left', exists_eq_left, if_true, if_false, undef]
  exact ⟨n + 1, by omega, by omega, by simp [Back, BackF, fzT, fzM, fzU, fz, fzL, fzO, kin, SubT, Sub, SubL, SubM, SubO, keepM, srcOk, look, lookM, ev, evs, putT, argT, encR, encRow, encM, EA, EB, EC, ED, EE, EF, EG, EH, EI, XA, XB, XC, XD, XE, XF, XG, XH, XI, XJ, XK, XL, XM, reduceIte, ↓reduceIte, Nat.reduceAdd, Nat.reduceLeDiff, Nat.reduceEqDiff, Nat.reduceLT, Nat.reduceSub, Nat.reduceBEq, forall_const, reduceCtorEq, implies_true, exists_eq_left', exists_eq_left, if_true, if_false, undef, hbt]⟩

end Go.Av
