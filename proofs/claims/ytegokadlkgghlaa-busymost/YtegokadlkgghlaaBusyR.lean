/- Small machines: the document's function. -/
import Derived.Test.YtegokadlkgghlaaBusyM
set_option linter.unusedSimpArgs false
set_option linter.unusedVariables false
set_option maxRecDepth 100000
namespace Go.Av
open Go.Proofs

theorem power_spec (b e : Nat) (hb : 1 ≤ b) (he : e < 2 ^ 62) (h : b ^ e < 2 ^ 62) : CallsA Try.prog 10 [IN b, IN e] (IN (b ^ e)) [] := by
  refine fn_of0 comp10 (by simp) ?_
  unfold code10
  simp (maxSteps := 1000000) only [EA, EB, EC, ED, EE, EF, EG, EH, EI, XA, XB, XC, XD, XE, XF, XG, XH, XI, XJ, XK, XL, XM, reduceIte, ↓reduceIte, Nat.reduceAdd, Nat.reduceLeDiff, Nat.reduceEqDiff, Nat.reduceLT, Nat.reduceSub, Nat.reduceBEq, forall_const, reduceCtorEq, implies_true, exists_eq_left', exists_eq_left, if_true, if_false, undef]
  refine loop0 Nat [6, 5] (fun k => [IN k, IN (b ^ k)]) (fun k => k ≤ e) (fun k => e - k) (by decide) 0 (by simp) (by simp [Back, BackF, fzT, fzM, fzU, fz, fzL, fzO, kin, SubT, Sub, SubL, SubM, SubO, keepM, srcOk, look, lookM, ev, evs, putT, argT, EA, EB, EC, ED, EE, EF, EG, EH, EI, XA, XB, XC, XD, XE, XF, XG, XH, XI, XJ, XK, XL, XM, reduceIte, ↓reduceIte, Nat.reduceAdd, Nat.reduceLeDiff, Nat.reduceEqDiff, Nat.reduceLT, Nat.reduceSub, Nat.reduceBEq, forall_const, reduceCtorEq, implies_true, exists_eq_left', exists_eq_left, if_true, if_false, undef]) (fun k hk => ?_)
  by_cases c1 : k < e
  · have g1 : decide ((k : Int) < (e : Int)) = true := by simp [c1]
    have hp : b ^ (k + 1) ≤ b ^ e := Nat.pow_le_pow_right hb (by omega)
    have w1 : IntKind.i64.wrap ((b ^ k : Nat) * (b : Int)) = ((b ^ (k + 1) : Nat) : Int) := by
      have e1 : b ^ k * b = b ^ (k + 1) := (Nat.pow_succ ..).symm
      rw [← Int.natCast_mul, e1, wrap_id] <;> omega
    have w2 : IntKind.i64.wrap ((k : Int) + 1) = ((k + 1 : Nat) : Int) := by rw [wrap_id] <;> omega
    simp (maxSteps := 1000000) only [g1, w1, w2, EA, EB, EC, ED, EE, EF, EG, EH, EI, XA, XB, XC, XD, XE, XF, XG, XH, XI, XJ, XK, XL, XM, reduceIte, ↓reduceIte, Nat.reduceAdd, Nat.reduceLeDiff, Nat.reduceEqDiff, Nat.reduceLT, Nat.reduceSub, Nat.reduceBEq, forall_const, reduceCtorEq, implies_true, exists_eq_left', exists_eq_left, if_true, if_false, undef]
    exact ⟨k + 1, by omega, by omega, by simp [Back, BackF, fzT, fzM, fzU, fz, fzL, fzO, kin, SubT, Sub, SubL, SubM, SubO, keepM, srcOk, look, lookM, ev, evs, putT, argT, EA, EB, EC, ED, EE, EF, EG, EH, EI, XA, XB, XC, XD, XE, XF, XG, XH, XI, XJ, XK, XL, XM, reduceIte, ↓reduceIte, Nat.reduceAdd, Nat.reduceLeDiff, Nat.reduceEqDiff, Nat.reduceLT, Nat.reduceSub, Nat.reduceBEq, forall_const, reduceCtorEq, implies_true, exists_eq_left', exists_eq_left, if_true, if_false, undef]⟩
  · have g1 : decide ((k : Int) < (e : Int)) = false := by simp; omega
    obtain rfl : k = e := by omega
    simp (maxSteps := 1000000) only [g1, EA, EB, EC, ED, EE, EF, EG, EH, EI, XA, XB, XC, XD, XE, XF, XG, XH, XI, XJ, XK, XL, XM, reduceIte, ↓reduceIte, Nat.reduceAdd, Nat.reduceLeDiff, Nat.reduceEqDiff, Nat.reduceLT, Nat.reduceSub, Nat.reduceBEq, forall_const, reduceCtorEq, implies_true, exists_eq_left', exists_eq_left, if_true, if_false, undef]

theorem busyR_spec (s S : Nat) (hs : 1 ≤ s ∧ s ≤ 2) (hS : S ≤ 60) : CallsA Try.prog 15 [IN s, IN S] (.tup [IN (busyF s S).1, IN (busyF s S).2.1, IN (busyF s S).2.2]) [] := by
  have hbase : (4 * (s + 1)) ^ (2 * s) ≤ 20736 := by rcases (by omega : s = 1 ∨ s = 2) with rfl | rfl <;> decide
  have hpw : ∀ i, i ≤ 2 * s → (4 * (s + 1)) ^ i ≤ 20736 := fun i hi => Nat.le_trans (Nat.pow_le_pow_right (by omega) hi) hbase
  refine fn_of0 comp15 (by simp) ?_
  unfold code15
  have w1 : IntKind.i64.wrap ((s : Int) + 1) = ((s + 1 : Nat) : Int) := by rw [wrap_id] <;> omega
  have w2 : IntKind.i64.wrap (4 * ((s + 1 : Nat) : Int)) = ((4 * (s + 1) : Nat) : Int) := by rw [wrap_id] <;> omega
  have w3 : IntKind.i64.wrap (2 * (s : Int)) = ((2 * s : Nat) : Int) := by rw [wrap_id] <;> omega
  have w4 : IntKind.i64.wrap (2 * (S : Int)) = ((2 * S : Nat) : Int) := by rw [wrap_id] <;> omega
  have w5 : IntKind.i64.wrap (((2 * S : Nat) : Int) + 1) = ((2 * S + 1 : Nat) : Int) := by rw [wrap_id] <;> omega
  have w6 : IntKind.i64.wrap (((2 * s : Nat) : Int) - 1) = ((2 * s - 1 : Nat) : Int) := by rw [wrap_id] <;> omega
  simp (maxSteps := 1000000) only [w1, w2, EA, EB, EC, ED, EE, EF, EG, EH, EI, XA, XB, XC, XD, XE, XF, XG, XH, XI, XJ, XK, XL, XM, reduceIte, ↓reduceIte, Nat.reduceAdd, Nat.reduceLeDiff, Nat.reduceEqDiff, Nat.reduceLT, Nat.reduceSub, Nat.reduceBEq, forall_const, reduceCtorEq, implies_true, exists_eq_left', exists_eq_left, if_true, if_false, undef]
  refine loop0 Nat [11, 7, 8, 9] (fun n => [IN n, IN (btr s S n).1, IN (btr s S n).2.1, IN (btr s S n).2.2]) (fun n => n ≤ (4 * (s + 1)) ^ (2 * s)) (fun n => (4 * (s + 1)) ^ (2 * s) - n) (by decide) 0 (by simp) (by simp [Back, BackF, fzT, fzM, fzU, fz, fzL, fzO, kin, SubT, Sub, SubL, SubM, SubO, keepM, srcOk, look, lookM, ev, evs, putT, argT, EA, EB, EC, ED, EE, EF, EG, EH, EI, XA, XB, XC, XD, XE, XF, XG, XH, XI, XJ, XK, XL, XM, reduceIte, ↓reduceIte, Nat.reduceAdd, Nat.reduceLeDiff, Nat.reduceEqDiff, Nat.reduceLT, Nat.reduceSub, Nat.reduceBEq, forall_const, reduceCtorEq, implies_true, exists_eq_left', exists_eq_left, if_true, if_false, undef, btr]) (fun n hn => ?_)
  have hpow := power_spec (4 * (s + 1)) (2 * s) (by omega) (by omega) (by omega)
  obtain ⟨b1, b2, b3⟩ := btr_bounds hs.1 (S := S) n
  simp (maxSteps := 1000000) only [w3, EA, EB, EC, ED, EE, EF, EG, EH, EI, XA, XB, XC, XD, XE, XF, XG, XH, XI, XJ, XK, XL, XM, reduceIte, ↓reduceIte, Nat.reduceAdd, Nat.reduceLeDiff, Nat.reduceEqDiff, Nat.reduceLT, Nat.reduceSub, Nat.reduceBEq, forall_const, reduceCtorEq, implies_true, exists_eq_left', exists_eq_left, if_true, if_false, undef]
  refine callF (CallsA.args (hpow) (by simp [EA, EB, EC, ED, EE, EF, EG, EH, EI, XA, XB, XC, XD, XE, XF, XG, XH, XI, XJ, XK, XL, XM, reduceIte, ↓reduceIte, Nat.reduceAdd, Nat.reduceLeDiff, Nat.reduceEqDiff, Nat.reduceLT, Nat.reduceSub, Nat.reduceBEq, forall_const, reduceCtorEq, implies_true, exists_eq_left', exists_eq_left, if_true, if_false, undef])) rfl (by simp [flat, EA, EB, EC, ED, EE, EF, EG, EH, EI, XA, XB, XC, XD, XE, XF, XG, XH, XI, XJ, XK, XL, XM, reduceIte, ↓reduceIte, Nat.reduceAdd, Nat.reduceLeDiff, Nat.reduceEqDiff, Nat.reduceLT, Nat.reduceSub, Nat.reduceBEq, forall_const, reduceCtorEq, implies_true, exists_eq_left', exists_eq_left, if_true, if_false, undef]) ?_
  by_cases c1 : n < (4 * (s + 1)) ^ (2 * s)
  rotate_left
  · have g1 : decide ((n : Int) < (((4 * (s + 1)) ^ (2 * s) : Nat) : Int)) = false := by simp only [decide_eq_false_iff_not]; omega
    obtain rfl : n = (4 * (s + 1)) ^ (2 * s) := by omega
    simp (maxSteps := 1000000) only [g1, busyF, EA, EB, EC, ED, EE, EF, EG, EH, EI, XA, XB, XC, XD, XE, XF, XG, XH, XI, XJ, XK, XL, XM, reduceIte, ↓reduceIte, Nat.reduceAdd, Nat.reduceLeDiff, Nat.reduceEqDiff, Nat.reduceLT, Nat.reduceSub, Nat.reduceBEq, forall_const, reduceCtorEq, implies_true, exists_eq_left', exists_eq_left, if_true, if_false, undef]
  have g1 : decide ((n : Int) < (((4 * (s + 1)) ^ (2 * s) : Nat) : Int)) = true := by simp only [decide_eq_true_eq]; omega
  have hrep : List.replicate ((2 * S + 1 : Nat) : Int).toNat (AV.v (.int .i64 0)) = (bz0 S).tape.map IN := by rw [Int.toNat_natCast]; simp [bz0, IN, I]
  simp (maxSteps := 1000000) only [g1, w4, w5, hrep, EA, EB, EC, ED, EE, EF, EG, EH, EI, XA, XB, XC, XD, XE, XF, XG, XH, XI, XJ, XK, XL, XM, reduceIte, ↓reduceIte, Nat.reduceAdd, Nat.reduceLeDiff, Nat.reduceEqDiff, Nat.reduceLT, Nat.reduceSub, Nat.reduceBEq, forall_const, reduceCtorEq, implies_true, exists_eq_left', exists_eq_left, if_true, if_false, undef]
  refine ⟨by omega, by omega, by omega, ?_⟩
  have hD := dgt_ok s n
  have hfinE : bfin s S n = brun s (dgt s n) (bz0 S) S := rfl
  have hdnE : bdn s S n = bdon s (dgt s n) (bz0 S) S := rfl
  refine loopO Nat [12, 13, 15] (fun k => [IN (brun s (dgt s n) (bz0 S) k).st, IN (brun s (dgt s n) (bz0 S) k).head, IN k]) (fun k => [(23, some (.arr 1 ((brun s (dgt s n) (bz0 S) k).tape.map IN)))])
    (fun k => k ≤ S ∧ bdon s (dgt s n) (bz0 S) k = k) (fun k => S - k) (by decide) 0 (by simp [bdon]) (by simp [Back, BackF, fzT, fzM, fzU, fz, fzL, fzO, kin, SubT, Sub, SubL, SubM, SubO, keepM, srcOk, look, lookM, ev, evs, putT, argT, EA, EB, EC, ED, EE, EF, EG, EH, EI, XA, XB, XC, XD, XE, XF, XG, XH, XI, XJ, XK, XL, XM, reduceIte, ↓reduceIte, Nat.reduceAdd, Nat.reduceLeDiff, Nat.reduceEqDiff, Nat.reduceLT, Nat.reduceSub, Nat.reduceBEq, forall_const, reduceCtorEq, implies_true, exists_eq_left', exists_eq_left, if_true, if_false, undef, brun, bz0, IN, I]) ?_
  rintro k ⟨hk, hdk⟩
  have hz := brun_ok hs.1 hD (S := S) hk
  have hrun : brun s (dgt s n) (bz0 S) (k + 1) = if (brun s (dgt s n) (bz0 S) k).st < s then bstp s (dgt s n) (brun s (dgt s n) (bz0 S) k) else brun s (dgt s n) (bz0 S) k := rfl
  have hdon : bdon s (dgt s n) (bz0 S) (k + 1) = if (brun s (dgt s n) (bz0 S) k).st < s then bdon s (dgt s n) (bz0 S) k + 1 else bdon s (dgt s n) (bz0 S) k := rfl
  have hstop := fun h => brun_stop (s := s) (D := dgt s n) (z := bz0 S) (k := k) h hk
  by_cases c2 : k < S ∧ (brun s (dgt s n) (bz0 S) k).st < s
  · obtain ⟨c2, c3⟩ := c2
    rw [if_pos c3] at hrun hdon
    have hz' := bstp_ok hs.1 hD hz c2
    rw [← hrun] at hz'
    rw [bstp] at hrun
    have g2 : decide ((k : Int) < (S : Int)) = true := by simp [c2]
    have g3 : decide (((brun s (dgt s n) (bz0 S) k).st : Int) < (s : Int)) = true := by simp [c3]
    generalize hzE : brun s (dgt s n) (bz0 S) (k + 1) = z' at *
    generalize brun s (dgt s n) (bz0 S) k = z at *
    obtain ⟨st, hd, tp⟩ := z
    have h1 := hz.lo
    have h2 := hz.hi
    have h3 := hz.len
    have h4 := hz.cells
    simp only at h1 h2 h3 h4 c3 g3 hrun
    have hlt : hd < tp.length := by omega
    have hg : tp.getD hd 0 = tp[hd] := by rw [List.getD_eq_getElem?_getD, List.getElem?_eq_getElem hlt]; rfl
    have h5 := h4 tp[hd] (List.getElem_mem hlt)
    rw [hg] at hrun
    have v1 : IntKind.i64.wrap (2 * (st : Int)) = ((2 * st : Nat) : Int) := by rw [wrap_id] <;> omega
    have v2 : IntKind.i64.wrap (((2 * st : Nat) : Int) + (tp[hd] : Int)) = ((2 * st + tp[hd] : Nat) : Int) := by rw [wrap_id] <;> omega
    have v3 : IntKind.i64.wrap (((2 * s - 1 : Nat) : Int) - ((2 * st + tp[hd] : Nat) : Int)) = ((2 * s - 1 - (2 * st + tp[hd]) : Nat) : Int) := by rw [wrap_id] <;> omega
    have hll : ((tp.map IN).length : Int) = 2 * S + 1 := by simp [h3]
    simp (maxSteps := 1000000) only [g2, g3, v1, EA, EB, EC, ED, EE, EF, EG, EH, EI, XA, XB, XC, XD, XE, XF, XG, XH, XI, XJ, XK, XL, XM, reduceIte, ↓reduceIte, Nat.reduceAdd, Nat.reduceLeDiff, Nat.reduceEqDiff, Nat.reduceLT, Nat.reduceSub, Nat.reduceBEq, forall_const, reduceCtorEq, implies_true, exists_eq_left', exists_eq_left, if_true, if_false, undef]
    have hpick : (tp.map IN)[((hd : Nat) : Int).toNat]? = some (IN tp[hd]) := by simp [hlt]
    generalize tp[hd] = y at *
    refine ⟨by omega, by rw [Int.toNat_natCast]; omega, Pick.mk (IN y) hpick ?_⟩
    have hi : 2 * st + y < 2 * s := by omega
    have hpe := hpw (2 * s - 1 - (2 * st + y)) (by omega)
    have hpp : 0 < (4 * (s + 1)) ^ (2 * s - 1 - (2 * st + y)) := Nat.pow_pos (by omega)
    have hpow2 := power_spec (4 * (s + 1)) (2 * s - 1 - (2 * st + y)) (by omega) (by omega) (by omega)
    have hdg : dgt s n (2 * st + y) = n / (4 * (s + 1)) ^ (2 * s - 1 - (2 * st + y)) % (4 * (s + 1)) := rfl
    have hdr := hD (2 * st + y)
    simp (maxSteps := 1000000) only [v2, w3, w6, v3, EA, EB, EC, ED, EE, EF, EG, EH, EI, XA, XB, XC, XD, XE, XF, XG, XH, XI, XJ, XK, XL, XM, reduceIte, ↓reduceIte, Nat.reduceAdd, Nat.reduceLeDiff, Nat.reduceEqDiff, Nat.reduceLT, Nat.reduceSub, Nat.reduceBEq, forall_const, reduceCtorEq, implies_true, exists_eq_left', exists_eq_left, if_true, if_false, undef]
    have v13 : IntKind.i64.wrap (((2 * s - 1 : Nat) : Int) - IntKind.i64.wrap (2 * (st : Int) + (y : Int))) = ((2 * s - 1 - (2 * st + y) : Nat) : Int) := by
      have : 2 * (st : Int) + (y : Int) = ((2 * st : Nat) : Int) + (y : Int) := by omega
      rw [this, v2, v3]
    refine callF (CallsA.args (hpow2 ) (by simp [ w3, w6, v13,EA, EB, EC, ED, EE, EF, EG, EH, EI, XA, XB, XC, XD, XE, XF, XG, XH, XI, XJ, XK, XL, XM, reduceIte, ↓reduceIte, Nat.reduceAdd, Nat.reduceLeDiff, Nat.reduceEqDiff, Nat.reduceLT, Nat.reduceSub, Nat.reduceBEq, forall_const, reduceCtorEq, implies_true, exists_eq_left', exists_eq_left, if_true, if_false, undef])) rfl (by simp [flat, EA, EB, EC, ED, EE, EF, EG, EH, EI, XA, XB, XC, XD, XE, XF, XG, XH, XI, XJ, XK, XL, XM, reduceIte, ↓reduceIte, Nat.reduceAdd, Nat.reduceLeDiff, Nat.reduceEqDiff, Nat.reduceLT, Nat.reduceSub, Nat.reduceBEq, forall_const, reduceCtorEq, implies_true, exists_eq_left', exists_eq_left, if_true, if_false, undef]) ?_
    have hq : Int.tdiv (n : Int) (((4 * (s + 1)) ^ (2 * s - 1 - (2 * st + y)) : Nat) : Int) = ((n / (4 * (s + 1)) ^ (2 * s - 1 - (2 * st + y)) : Nat) : Int) := rfl
    have hnb : n / (4 * (s + 1)) ^ (2 * s - 1 - (2 * st + y)) ≤ n := Nat.div_le_self _ _
    generalize (4 * (s + 1)) ^ (2 * s - 1 - (2 * st + y)) = pw at *
    generalize hqd : n / pw = q at *
    have v4 : IntKind.i64.wrap (q : Int) = (q : Int) := by rw [wrap_id] <;> omega
    have v5 : Int.tmod (q : Int) ((4 * (s + 1) : Nat) : Int) = ((dgt s n (2 * st + y) : Nat) : Int) := by rw [hdg]; rfl
    generalize dgt s n (2 * st + y) = d at *
    have hpw0 : (pw : Int) ≠ 0 := by omega
    have hb0 : ((4 * (s + 1) : Nat) : Int) ≠ 0 := by omega
    have hs0 : ((s + 1 : Nat) : Int) ≠ 0 := by omega
    have v6 : Int.tdiv (d : Int) ((s + 1 : Nat) : Int) = ((d / (s + 1) : Nat) : Int) := rfl
    have hds : d / (s + 1) < 4 := Nat.div_lt_of_lt_mul (by omega)
    have v9 : Int.tmod (d : Int) ((s + 1 : Nat) : Int) = ((d % (s + 1) : Nat) : Int) := rfl
    have hdm := Nat.mod_lt d (show 0 < s + 1 by omega)
    generalize d / (s + 1) = u at *
    have v6b : IntKind.i64.wrap (u : Int) = (u : Int) := by rw [wrap_id] <;> omega
    have v7 : Int.tdiv (u : Int) 2 = ((u / 2 : Nat) : Int) := rfl
    have v7b : IntKind.i64.wrap ((u / 2 : Nat) : Int) = ((u / 2 : Nat) : Int) := by rw [wrap_id] <;> omega
    have v8 : Int.tmod (u : Int) 2 = ((u % 2 : Nat) : Int) := rfl
    have v10 : IntKind.i64.wrap ((k : Int) + 1) = ((k + 1 : Nat) : Int) := by rw [wrap_id] <;> omega
    have v11 : IntKind.i64.wrap ((hd : Int) + 1) = ((hd + 1 : Nat) : Int) := by rw [wrap_id] <;> omega
    have v12 : IntKind.i64.wrap ((hd : Int) - 1) = ((hd - 1 : Nat) : Int) := by rw [wrap_id] <;> omega
    have n1 : decide (((hd + 1 : Nat) : Int) < 0) = false := by simp only [decide_eq_false_iff_not]; omega
    have n2 : decide (((hd + 1 : Nat) : Int) > ((2 * S : Nat) : Int)) = false := by simp only [decide_eq_false_iff_not]; omega
    have n3 : decide (((hd - 1 : Nat) : Int) < 0) = false := by simp only [decide_eq_false_iff_not]; omega
    have n4 : decide (((hd - 1 : Nat) : Int) > ((2 * S : Nat) : Int)) = false := by simp only [decide_eq_false_iff_not]; omega
    simp (maxSteps := 1000000) only [hq, v4, v5, v6, v6b, v7, v7b, w1, EA, EB, EC, ED, EE, EF, EG, EH, EI, XA, XB, XC, XD, XE, XF, XG, XH, XI, XJ, XK, XL, XM, reduceIte, ↓reduceIte, Nat.reduceAdd, Nat.reduceLeDiff, Nat.reduceEqDiff, Nat.reduceLT, Nat.reduceSub, Nat.reduceBEq, forall_const, reduceCtorEq, implies_true, exists_eq_left', exists_eq_left, if_true, if_false, undef]
    refine ⟨hpw0, hb0, hs0, by decide, by omega, by rw [Int.toNat_natCast]; omega, by rw [Int.toNat_natCast, List.length_map]; exact hlt, hs0, by decide, ?_⟩
    have hst : z'.st = d % (s + 1) := by rw [hrun]
    have htp : z'.tape = tp.set hd (u / 2) := by rw [hrun]
    have hset : (tp.map IN).set hd (AV.v (.int .i64 ((u / 2 : Nat) : Int))) = z'.tape.map IN := by rw [htp, List.map_set]
    by_cases c5 : u % 2 = 1
    · have e5 : (Int.tmod (u : Int) 2 == 1) = true := by rw [v8, c5]; rfl
      have hhd : z'.head = hd + 1 := by rw [hrun]; simp only; rw [if_pos c5]
      simp (maxSteps := 1000000) only [e5, v11, w1, v9, v10, n1, n2, w4, EA, EB, EC, ED, EE, EF, EG, EH, EI, XA, XB, XC, XD, XE, XF, XG, XH, XI, XJ, XK, XL, XM, reduceIte, ↓reduceIte, Nat.reduceAdd, Nat.reduceLeDiff, Nat.reduceEqDiff, Nat.reduceLT, Nat.reduceSub, Nat.reduceBEq, forall_const, reduceCtorEq, implies_true, exists_eq_left', exists_eq_left, if_true, if_false, undef]
      refine ⟨hs0, k + 1, ⟨by omega, by rw [hdon, hdk]⟩, by omega, ?_⟩
      rw [hzE]
      simp [Back, BackF, fzT, fzM, fzU, fz, fzL, fzO, kin, SubT, Sub, SubL, SubM, SubO, keepM, srcOk, look, lookM, ev, evs, putT, argT, EA, EB, EC, ED, EE, EF, EG, EH, EI, XA, XB, XC, XD, XE, XF, XG, XH, XI, XJ, XK, XL, XM, reduceIte, ↓reduceIte, Nat.reduceAdd, Nat.reduceLeDiff, Nat.reduceEqDiff, Nat.reduceLT, Nat.reduceSub, Nat.reduceBEq, forall_const, reduceCtorEq, implies_true, exists_eq_left', exists_eq_left, if_true, if_false, undef, hst, hhd, ← hset]
    · have e5 : (Int.tmod (u : Int) 2 == 1) = false := by rw [v8]; simp only [beq_eq_false_iff_ne]; omega
      have hhd : z'.head = hd - 1 := by rw [hrun]; simp only; rw [if_neg c5]
      simp (maxSteps := 1000000) only [e5, v12, w1, v9, v10, n3, n4, w4, EA, EB, EC, ED, EE, EF, EG, EH, EI, XA, XB, XC, XD, XE, XF, XG, XH, XI, XJ, XK, XL, XM, reduceIte, ↓reduceIte, Nat.reduceAdd, Nat.reduceLeDiff, Nat.reduceEqDiff, Nat.reduceLT, Nat.reduceSub, Nat.reduceBEq, forall_const, reduceCtorEq, implies_true, exists_eq_left', exists_eq_left, if_true, if_false, undef]
      refine ⟨hs0, k + 1, ⟨by omega, by rw [hdon, hdk]⟩, by omega, ?_⟩
      rw [hzE]
      simp [Back, BackF, fzT, fzM, fzU, fz, fzL, fzO, kin, SubT, Sub, SubL, SubM, SubO, keepM, srcOk, look, lookM, ev, evs, putT, argT, EA, EB, EC, ED, EE, EF, EG, EH, EI, XA, XB, XC, XD, XE, XF, XG, XH, XI, XJ, XK, XL, XM, reduceIte, ↓reduceIte, Nat.reduceAdd, Nat.reduceLeDiff, Nat.reduceEqDiff, Nat.reduceLT, Nat.reduceSub, Nat.reduceBEq, forall_const, reduceCtorEq, implies_true, exists_eq_left', exists_eq_left, if_true, if_false, undef, hst, hhd, ← hset]
  · have hlen : (((brun s (dgt s n) (bz0 S) k).tape.map IN).length : Int) = ((2 * S + 1 : Nat) : Int) := by rw [List.length_map, hz.len]
    have hexit : decide ((k : Int) < (S : Int)) = false ∨ (decide ((k : Int) < (S : Int)) = true ∧ decide (((brun s (dgt s n) (bz0 S) k).st : Int) < (s : Int)) = false) := by
      by_cases h : k < S
      · exact .inr ⟨by simp [h], by simp only [decide_eq_false_iff_not]; intro hh; exact c2 ⟨h, by omega⟩⟩
      · exact .inl (by simp [h])
    have hfin : bfin s S n = brun s (dgt s n) (bz0 S) k ∧ bdn s S n = k := by
      by_cases h : k < S
      · have := hstop (fun hh => c2 ⟨h, hh⟩)
        rw [hfinE, hdnE, this.1, this.2]; exact ⟨rfl, hdk⟩
      · obtain rfl : k = S := by omega
        exact ⟨rfl, hdk⟩
    rw [← hfin.1]
    have hfz : ZOk s S S (bfin s S n) := by rw [hfin.1]; exact hz.more hk
    have hbtr : btr s S (n + 1) = if (bfin s S n).st < s then btr s S n else (max (btr s S n).1 (bdn s S n), max (btr s S n).2.1 (bfin s S n).tape.sum, (btr s S n).2.2 + 1) := rfl
    rw [hfin.2] at hbtr
    rw [← hfin.1] at hexit
    have w7 : IntKind.i64.wrap ((n : Int) + 1) = ((n + 1 : Nat) : Int) := by rw [wrap_id] <;> omega
    have fin : ∀ P : Prop, (decide ((k : Int) < (S : Int)) = false → P) → (decide ((k : Int) < (S : Int)) = true → decide (((bfin s S n).st : Int) < (s : Int)) = false → P) → P := fun P h1 h2 => hexit.elim h1 (fun h => h2 h.1 h.2)
    by_cases c6 : (bfin s S n).st < s
    · have g6 : decide (((bfin s S n).st : Int) < (s : Int)) = true := by simp [c6]
      rw [if_pos c6] at hbtr
      rcases hexit with q | ⟨_, q⟩
      · simp (maxSteps := 1000000) only [q, g6, w7, EA, EB, EC, ED, EE, EF, EG, EH, EI, XA, XB, XC, XD, XE, XF, XG, XH, XI, XJ, XK, XL, XM, reduceIte, ↓reduceIte, Nat.reduceAdd, Nat.reduceLeDiff, Nat.reduceEqDiff, Nat.reduceLT, Nat.reduceSub, Nat.reduceBEq, forall_const, reduceCtorEq, implies_true, exists_eq_left', exists_eq_left, if_true, if_false, undef]
        exact ⟨n + 1, by omega, by omega, by rw [hbtr]; simp [Back, BackF, fzT, fzM, fzU, fz, fzL, fzO, kin, SubT, Sub, SubL, SubM, SubO, keepM, srcOk, look, lookM, ev, evs, putT, argT, EA, EB, EC, ED, EE, EF, EG, EH, EI, XA, XB, XC, XD, XE, XF, XG, XH, XI, XJ, XK, XL, XM, reduceIte, ↓reduceIte, Nat.reduceAdd, Nat.reduceLeDiff, Nat.reduceEqDiff, Nat.reduceLT, Nat.reduceSub, Nat.reduceBEq, forall_const, reduceCtorEq, implies_true, exists_eq_left', exists_eq_left, if_true, if_false, undef]⟩
      · rw [g6] at q; cases q
    · have g6 : decide (((bfin s S n).st : Int) < (s : Int)) = false := by simp [c6]
      rw [if_neg c6] at hbtr
      have hsum := brun_sum hs.1 hD (S := S) S
      rw [← hfinE, ← hdnE, hfin.2] at hsum
      have w8 : IntKind.i64.wrap (((btr s S n).2.2 : Int) + 1) = (((btr s S n).2.2 + 1 : Nat) : Int) := by rw [wrap_id] <;> omega
      have hblen : (((bfin s S n).tape.map IN).length : Int) = ((2 * S + 1 : Nat) : Int) := by rw [List.length_map, hfz.len]
      have hblen2 := hfz.len
      have hsumk : ∀ j, ((bfin s S n).tape.take j).sum ≤ 2 * S + 1 := fun j => by
        have : ∀ l : List Nat, (∀ x ∈ l, x ≤ 1) → l.sum ≤ l.length := fun l => by
          induction l with
          | nil => simp
          | cons x l ih => intro h; have h1 := h x (by simp); have h2 := ih (fun y hy => h y (by simp [hy])); simp; omega
        have h1 := this ((bfin s S n).tape.take j) (fun x hx => hfz.cells x (List.mem_of_mem_take hx))
        rw [List.length_take] at h1; omega
      have htk : ∀ j (hj : j < (bfin s S n).tape.length), ((bfin s S n).tape.take (j + 1)).sum = ((bfin s S n).tape.take j).sum + (bfin s S n).tape[j] := fun j hj => by
        rw [List.take_add_one, List.getElem?_eq_getElem hj, Option.toList_some, List.sum_append, List.sum_cons, List.sum_nil, Nat.add_zero]
      have htall : ((bfin s S n).tape.take (2 * S + 1)).sum = (bfin s S n).tape.sum := by rw [← hblen2, List.take_length]
      have hcells := hfz.cells
      generalize bfin s S n = Z at *
      rcases hexit with q | ⟨q, _⟩
      · simp (maxSteps := 1000000) only [q, g6, w8, EA, EB, EC, ED, EE, EF, EG, EH, EI, XA, XB, XC, XD, XE, XF, XG, XH, XI, XJ, XK, XL, XM, reduceIte, ↓reduceIte, Nat.reduceAdd, Nat.reduceLeDiff, Nat.reduceEqDiff, Nat.reduceLT, Nat.reduceSub, Nat.reduceBEq, forall_const, reduceCtorEq, implies_true, exists_eq_left', exists_eq_left, if_true, if_false, undef]
        by_cases c7 : k > (btr s S n).1
        · have g7 : decide ((k : Int) > ((btr s S n).1 : Int)) = true := by simp only [decide_eq_true_eq]; omega
          have m1 : max (btr s S n).1 k = k := by omega
          simp (maxSteps := 1000000) only [g7, EA, EB, EC, ED, EE, EF, EG, EH, EI, XA, XB, XC, XD, XE, XF, XG, XH, XI, XJ, XK, XL, XM, reduceIte, ↓reduceIte, Nat.reduceAdd, Nat.reduceLeDiff, Nat.reduceEqDiff, Nat.reduceLT, Nat.reduceSub, Nat.reduceBEq, forall_const, reduceCtorEq, implies_true, exists_eq_left', exists_eq_left, if_true, if_false, undef]
          refine loopO Nat [106, 18] (fun j => [IN j, IN ((Z.tape.take j).sum)]) (fun j => []) (fun j => j ≤ 2 * S + 1) (fun j => 2 * S + 1 - j) (by decide) 0 (by simp) (by simp [Back, BackF, fzT, fzM, fzU, fz, fzL, fzO, kin, SubT, Sub, SubL, SubM, SubO, keepM, srcOk, look, lookM, ev, evs, putT, argT, EA, EB, EC, ED, EE, EF, EG, EH, EI, XA, XB, XC, XD, XE, XF, XG, XH, XI, XJ, XK, XL, XM, reduceIte, ↓reduceIte, Nat.reduceAdd, Nat.reduceLeDiff, Nat.reduceEqDiff, Nat.reduceLT, Nat.reduceSub, Nat.reduceBEq, forall_const, reduceCtorEq, implies_true, exists_eq_left', exists_eq_left, if_true, if_false, undef]) (fun j hj => ?_)
          have hsj := hsumk j
          by_cases c8 : j < 2 * S + 1
          · have g8 : decide ((j : Int) < ((2 * S + 1 : Nat) : Int)) = true := by simp only [decide_eq_true_eq]; omega
            have hjl : j < Z.tape.length := by omega
            have hnx := htk j hjl
            have hc1 := hcells Z.tape[j] (List.getElem_mem hjl)
            have u1 : IntKind.i64.wrap (((Z.tape.take j).sum : Int) + (Z.tape[j] : Int)) = ((Z.tape.take (j + 1)).sum : Int) := by rw [hnx, wrap_id] <;> omega
            have u2 : IntKind.i64.wrap ((j : Int) + 1) = ((j + 1 : Nat) : Int) := by rw [wrap_id] <;> omega
            have hpk : (Z.tape.map IN)[j]? = some (IN Z.tape[j]) := by simp [hjl]
            simp (maxSteps := 1000000) only [hblen, Int.toNat_natCast, g8, EA, EB, EC, ED, EE, EF, EG, EH, EI, XA, XB, XC, XD, XE, XF, XG, XH, XI, XJ, XK, XL, XM, reduceIte, ↓reduceIte, Nat.reduceAdd, Nat.reduceLeDiff, Nat.reduceEqDiff, Nat.reduceLT, Nat.reduceSub, Nat.reduceBEq, forall_const, reduceCtorEq, implies_true, exists_eq_left', exists_eq_left, if_true, if_false, undef]
            refine ⟨by omega, by omega, Pick.mk (IN Z.tape[j]) (by simpa using hpk) ?_⟩
            simp (maxSteps := 1000000) only [u1, u2, EA, EB, EC, ED, EE, EF, EG, EH, EI, XA, XB, XC, XD, XE, XF, XG, XH, XI, XJ, XK, XL, XM, reduceIte, ↓reduceIte, Nat.reduceAdd, Nat.reduceLeDiff, Nat.reduceEqDiff, Nat.reduceLT, Nat.reduceSub, Nat.reduceBEq, forall_const, reduceCtorEq, implies_true, exists_eq_left', exists_eq_left, if_true, if_false, undef]
            exact ⟨j + 1, by omega, by omega, by simp [Back, BackF, fzT, fzM, fzU, fz, fzL, fzO, kin, SubT, Sub, SubL, SubM, SubO, keepM, srcOk, look, lookM, ev, evs, putT, argT, EA, EB, EC, ED, EE, EF, EG, EH, EI, XA, XB, XC, XD, XE, XF, XG, XH, XI, XJ, XK, XL, XM, reduceIte, ↓reduceIte, Nat.reduceAdd, Nat.reduceLeDiff, Nat.reduceEqDiff, Nat.reduceLT, Nat.reduceSub, Nat.reduceBEq, forall_const, reduceCtorEq, implies_true, exists_eq_left', exists_eq_left, if_true, if_false, undef]⟩
          · have g8 : decide ((j : Int) < ((2 * S + 1 : Nat) : Int)) = false := by simp only [decide_eq_false_iff_not]; omega
            obtain rfl : j = 2 * S + 1 := by omega
            by_cases c9 : Z.tape.sum > (btr s S n).2.1
            · have g9 : decide ((Z.tape.sum : Int) > ((btr s S n).2.1 : Int)) = true := by simp only [decide_eq_true_eq]; omega
              have m2 : max (btr s S n).2.1 Z.tape.sum = Z.tape.sum := by omega
              simp (maxSteps := 1000000) only [hblen, Int.toNat_natCast, g8, htall, g9, w7, EA, EB, EC, ED, EE, EF, EG, EH, EI, XA, XB, XC, XD, XE, XF, XG, XH, XI, XJ, XK, XL, XM, reduceIte, ↓reduceIte, Nat.reduceAdd, Nat.reduceLeDiff, Nat.reduceEqDiff, Nat.reduceLT, Nat.reduceSub, Nat.reduceBEq, forall_const, reduceCtorEq, implies_true, exists_eq_left', exists_eq_left, if_true, if_false, undef]
              exact ⟨n + 1, by omega, by omega, by rw [hbtr]; simp [Back, BackF, fzT, fzM, fzU, fz, fzL, fzO, kin, SubT, Sub, SubL, SubM, SubO, keepM, srcOk, look, lookM, ev, evs, putT, argT, EA, EB, EC, ED, EE, EF, EG, EH, EI, XA, XB, XC, XD, XE, XF, XG, XH, XI, XJ, XK, XL, XM, reduceIte, ↓reduceIte, Nat.reduceAdd, Nat.reduceLeDiff, Nat.reduceEqDiff, Nat.reduceLT, Nat.reduceSub, Nat.reduceBEq, forall_const, reduceCtorEq, implies_true, exists_eq_left', exists_eq_left, if_true, if_false, undef, m1, m2]⟩
            · have g9 : decide ((Z.tape.sum : Int) > ((btr s S n).2.1 : Int)) = false := by simp only [decide_eq_false_iff_not]; omega
              have m2 : max (btr s S n).2.1 Z.tape.sum = (btr s S n).2.1 := by omega
              simp (maxSteps := 1000000) only [hblen, Int.toNat_natCast, g8, htall, g9, w7, EA, EB, EC, ED, EE, EF, EG, EH, EI, XA, XB, XC, XD, XE, XF, XG, XH, XI, XJ, XK, XL, XM, reduceIte, ↓reduceIte, Nat.reduceAdd, Nat.reduceLeDiff, Nat.reduceEqDiff, Nat.reduceLT, Nat.reduceSub, Nat.reduceBEq, forall_const, reduceCtorEq, implies_true, exists_eq_left', exists_eq_left, if_true, if_false, undef]
              exact ⟨n + 1, by omega, by omega, by rw [hbtr]; simp [Back, BackF, fzT, fzM, fzU, fz, fzL, fzO, kin, SubT, Sub, SubL, SubM, SubO, keepM, srcOk, look, lookM, ev, evs, putT, argT, EA, EB, EC, ED, EE, EF, EG, EH, EI, XA, XB, XC, XD, XE, XF, XG, XH, XI, XJ, XK, XL, XM, reduceIte, ↓reduceIte, Nat.reduceAdd, Nat.reduceLeDiff, Nat.reduceEqDiff, Nat.reduceLT, Nat.reduceSub, Nat.reduceBEq, forall_const, reduceCtorEq, implies_true, exists_eq_left', exists_eq_left, if_true, if_false, undef, m1, m2]⟩
        · have g7 : decide ((k : Int) > ((btr s S n).1 : Int)) = false := by simp only [decide_eq_false_iff_not]; omega
          have m1 : max (btr s S n).1 k = (btr s S n).1 := by omega
          simp (maxSteps := 1000000) only [g7, EA, EB, EC, ED, EE, EF, EG, EH, EI, XA, XB, XC, XD, XE, XF, XG, XH, XI, XJ, XK, XL, XM, reduceIte, ↓reduceIte, Nat.reduceAdd, Nat.reduceLeDiff, Nat.reduceEqDiff, Nat.reduceLT, Nat.reduceSub, Nat.reduceBEq, forall_const, reduceCtorEq, implies_true, exists_eq_left', exists_eq_left, if_true, if_false, undef]
          refine loopO Nat [106, 18] (fun j => [IN j, IN ((Z.tape.take j).sum)]) (fun j => []) (fun j => j ≤ 2 * S + 1) (fun j => 2 * S + 1 - j) (by decide) 0 (by simp) (by simp [Back, BackF, fzT, fzM, fzU, fz, fzL, fzO, kin, SubT, Sub, SubL, SubM, SubO, keepM, srcOk, look, lookM, ev, evs, putT, argT, EA, EB, EC, ED, EE, EF, EG, EH, EI, XA, XB, XC, XD, XE, XF, XG, XH, XI, XJ, XK, XL, XM, reduceIte, ↓reduceIte, Nat.reduceAdd, Nat.reduceLeDiff, Nat.reduceEqDiff, Nat.reduceLT, Nat.reduceSub, Nat.reduceBEq, forall_const, reduceCtorEq, implies_true, exists_eq_left', exists_eq_left, if_true, if_false, undef]) (fun j hj => ?_)
          have hsj := hsumk j
          by_cases c8 : j < 2 * S + 1
          · have g8 : decide ((j : Int) < ((2 * S + 1 : Nat) : Int)) = true := by simp only [decide_eq_true_eq]; omega
            have hjl : j < Z.tape.length := by omega
            have hnx := htk j hjl
            have hc1 := hcells Z.tape[j] (List.getElem_mem hjl)
            have u1 : IntKind.i64.wrap (((Z.tape.take j).sum : Int) + (Z.tape[j] : Int)) = ((Z.tape.take (j + 1)).sum : Int) := by rw [hnx, wrap_id] <;> omega
            have u2 : IntKind.i64.wrap ((j : Int) + 1) = ((j + 1 : Nat) : Int) := by rw [wrap_id] <;> omega
            have hpk : (Z.tape.map IN)[j]? = some (IN Z.tape[j]) := by simp [hjl]
            simp (maxSteps := 1000000) only [hblen, Int.toNat_natCast, g8, EA, EB, EC, ED, EE, EF, EG, EH, EI, XA, XB, XC, XD, XE, XF, XG, XH, XI, XJ, XK, XL, XM, reduceIte, ↓reduceIte, Nat.reduceAdd, Nat.reduceLeDiff, Nat.reduceEqDiff, Nat.reduceLT, Nat.reduceSub, Nat.reduceBEq, forall_const, reduceCtorEq, implies_true, exists_eq_left', exists_eq_left, if_true, if_false, undef]
            refine ⟨by omega, by omega, Pick.mk (IN Z.tape[j]) (by simpa using hpk) ?_⟩
            simp (maxSteps := 1000000) only [u1, u2, EA, EB, EC, ED, EE, EF, EG, EH, EI, XA, XB, XC, XD, XE, XF, XG, XH, XI, XJ, XK, XL, XM, reduceIte, ↓reduceIte, Nat.reduceAdd, Nat.reduceLeDiff, Nat.reduceEqDiff, Nat.reduceLT, Nat.reduceSub, Nat.reduceBEq, forall_const, reduceCtorEq, implies_true, exists_eq_left', exists_eq_left, if_true, if_false, undef]
            exact ⟨j + 1, by omega, by omega, by simp [Back, BackF, fzT, fzM, fzU, fz, fzL, fzO, kin, SubT, Sub, SubL, SubM, SubO, keepM, srcOk, look, lookM, ev, evs, putT, argT, EA, EB, EC, ED, EE, EF, EG, EH, EI, XA, XB, XC, XD, XE, XF, XG, XH, XI, XJ, XK, XL, XM, reduceIte, ↓reduceIte, Nat.reduceAdd, Nat.reduceLeDiff, Nat.reduceEqDiff, Nat.reduceLT, Nat.reduceSub, Nat.reduceBEq, forall_const, reduceCtorEq, implies_true, exists_eq_left', exists_eq_left, if_true, if_false, undef]⟩
          · have g8 : decide ((j : Int) < ((2 * S + 1 : Nat) : Int)) = false := by simp only [decide_eq_false_iff_not]; omega
            obtain rfl : j = 2 * S + 1 := by omega
            by_cases c9 : Z.tape.sum > (btr s S n).2.1
            · have g9 : decide ((Z.tape.sum : Int) > ((btr s S n).2.1 : Int)) = true := by simp only [decide_eq_true_eq]; omega
              have m2 : max (btr s S n).2.1 Z.tape.sum = Z.tape.sum := by omega
              simp (maxSteps := 1000000) only [hblen, Int.toNat_natCast, g8, htall, g9, w7, EA, EB, EC, ED, EE, EF, EG, EH, EI, XA, XB, XC, XD, XE, XF, XG, XH, XI, XJ, XK, XL, XM, reduceIte, ↓reduceIte, Nat.reduceAdd, Nat.reduceLeDiff, Nat.reduceEqDiff, Nat.reduceLT, Nat.reduceSub, Nat.reduceBEq, forall_const, reduceCtorEq, implies_true, exists_eq_left', exists_eq_left, if_true, if_false, undef]
              exact ⟨n + 1, by omega, by omega, by rw [hbtr]; simp [Back, BackF, fzT, fzM, fzU, fz, fzL, fzO, kin, SubT, Sub, SubL, SubM, SubO, keepM, srcOk, look, lookM, ev, evs, putT, argT, EA, EB, EC, ED, EE, EF, EG, EH, EI, XA, XB, XC, XD, XE, XF, XG, XH, XI, XJ, XK, XL, XM, reduceIte, ↓reduceIte, Nat.reduceAdd, Nat.reduceLeDiff, Nat.reduceEqDiff, Nat.reduceLT, Nat.reduceSub, Nat.reduceBEq, forall_const, reduceCtorEq, implies_true, exists_eq_left', exists_eq_left, if_true, if_false, undef, m1, m2]⟩
            · have g9 : decide ((Z.tape.sum : Int) > ((btr s S n).2.1 : Int)) = false := by simp only [decide_eq_false_iff_not]; omega
              have m2 : max (btr s S n).2.1 Z.tape.sum = (btr s S n).2.1 := by omega
              simp (maxSteps := 1000000) only [hblen, Int.toNat_natCast, g8, htall, g9, w7, EA, EB, EC, ED, EE, EF, EG, EH, EI, XA, XB, XC, XD, XE, XF, XG, XH, XI, XJ, XK, XL, XM, reduceIte, ↓reduceIte, Nat.reduceAdd, Nat.reduceLeDiff, Nat.reduceEqDiff, Nat.reduceLT, Nat.reduceSub, Nat.reduceBEq, forall_const, reduceCtorEq, implies_true, exists_eq_left', exists_eq_left, if_true, if_false, undef]
              exact ⟨n + 1, by omega, by omega, by rw [hbtr]; simp [Back, BackF, fzT, fzM, fzU, fz, fzL, fzO, kin, SubT, Sub, SubL, SubM, SubO, keepM, srcOk, look, lookM, ev, evs, putT, argT, EA, EB, EC, ED, EE, EF, EG, EH, EI, XA, XB, XC, XD, XE, XF, XG, XH, XI, XJ, XK, XL, XM, reduceIte, ↓reduceIte, Nat.reduceAdd, Nat.reduceLeDiff, Nat.reduceEqDiff, Nat.reduceLT, Nat.reduceSub, Nat.reduceBEq, forall_const, reduceCtorEq, implies_true, exists_eq_left', exists_eq_left, if_true, if_false, undef, m1, m2]⟩
      · simp (maxSteps := 1000000) only [q, g6, w8, EA, EB, EC, ED, EE, EF, EG, EH, EI, XA, XB, XC, XD, XE, XF, XG, XH, XI, XJ, XK, XL, XM, reduceIte, ↓reduceIte, Nat.reduceAdd, Nat.reduceLeDiff, Nat.reduceEqDiff, Nat.reduceLT, Nat.reduceSub, Nat.reduceBEq, forall_const, reduceCtorEq, implies_true, exists_eq_left', exists_eq_left, if_true, if_false, undef]
        by_cases c7 : k > (btr s S n).1
        · have g7 : decide ((k : Int) > ((btr s S n).1 : Int)) = true := by simp only [decide_eq_true_eq]; omega
          have m1 : max (btr s S n).1 k = k := by omega
          simp (maxSteps := 1000000) only [g7, EA, EB, EC, ED, EE, EF, EG, EH, EI, XA, XB, XC, XD, XE, XF, XG, XH, XI, XJ, XK, XL, XM, reduceIte, ↓reduceIte, Nat.reduceAdd, Nat.reduceLeDiff, Nat.reduceEqDiff, Nat.reduceLT, Nat.reduceSub, Nat.reduceBEq, forall_const, reduceCtorEq, implies_true, exists_eq_left', exists_eq_left, if_true, if_false, undef]
          refine loopO Nat [106, 18] (fun j => [IN j, IN ((Z.tape.take j).sum)]) (fun j => []) (fun j => j ≤ 2 * S + 1) (fun j => 2 * S + 1 - j) (by decide) 0 (by simp) (by simp [Back, BackF, fzT, fzM, fzU, fz, fzL, fzO, kin, SubT, Sub, SubL, SubM, SubO, keepM, srcOk, look, lookM, ev, evs, putT, argT, EA, EB, EC, ED, EE, EF, EG, EH, EI, XA, XB, XC, XD, XE, XF, XG, XH, XI, XJ, XK, XL, XM, reduceIte, ↓reduceIte, Nat.reduceAdd, Nat.reduceLeDiff, Nat.reduceEqDiff, Nat.reduceLT, Nat.reduceSub, Nat.reduceBEq, forall_const, reduceCtorEq, implies_true, exists_eq_left', exists_eq_left, if_true, if_false, undef]) (fun j hj => ?_)
          have hsj := hsumk j
          by_cases c8 : j < 2 * S + 1
          · have g8 : decide ((j : Int) < ((2 * S + 1 : Nat) : Int)) = true := by simp only [decide_eq_true_eq]; omega
            have hjl : j < Z.tape.length := by omega
            have hnx := htk j hjl
            have hc1 := hcells Z.tape[j] (List.getElem_mem hjl)
            have u1 : IntKind.i64.wrap (((Z.tape.take j).sum : Int) + (Z.tape[j] : Int)) = ((Z.tape.take (j + 1)).sum : Int) := by rw [hnx, wrap_id] <;> omega
            have u2 : IntKind.i64.wrap ((j : Int) + 1) = ((j + 1 : Nat) : Int) := by rw [wrap_id] <;> omega
            have hpk : (Z.tape.map IN)[j]? = some (IN Z.tape[j]) := by simp [hjl]
            simp (maxSteps := 1000000) only [hblen, Int.toNat_natCast, g8, EA, EB, EC, ED, EE, EF, EG, EH, EI, XA, XB, XC, XD, XE, XF, XG, XH, XI, XJ, XK, XL, XM, reduceIte, ↓reduceIte, Nat.reduceAdd, Nat.reduceLeDiff, Nat.reduceEqDiff, Nat.reduceLT, Nat.reduceSub, Nat.reduceBEq, forall_const, reduceCtorEq, implies_true, exists_eq_left', exists_eq_left, if_true, if_false, undef]
            refine ⟨by omega, by omega, Pick.mk (IN Z.tape[j]) (by simpa using hpk) ?_⟩
            simp (maxSteps := 1000000) only [u1, u2, EA, EB, EC, ED, EE, EF, EG, EH, EI, XA, XB, XC, XD, XE, XF, XG, XH, XI, XJ, XK, XL, XM, reduceIte, ↓reduceIte, Nat.reduceAdd, Nat.reduceLeDiff, Nat.reduceEqDiff, Nat.reduceLT, Nat.reduceSub, Nat.reduceBEq, forall_const, reduceCtorEq, implies_true, exists_eq_left', exists_eq_left, if_true, if_false, undef]
            exact ⟨j + 1, by omega, by omega, by simp [Back, BackF, fzT, fzM, fzU, fz, fzL, fzO, kin, SubT, Sub, SubL, SubM, SubO, keepM, srcOk, look, lookM, ev, evs, putT, argT, EA, EB, EC, ED, EE, EF, EG, EH, EI, XA, XB, XC, XD, XE, XF, XG, XH, XI, XJ, XK, XL, XM, reduceIte, ↓reduceIte, Nat.reduceAdd, Nat.reduceLeDiff, Nat.reduceEqDiff, Nat.reduceLT, Nat.reduceSub, Nat.reduceBEq, forall_const, reduceCtorEq, implies_true, exists_eq_left', exists_eq_left, if_true, if_false, undef]⟩
          · have g8 : decide ((j : Int) < ((2 * S + 1 : Nat) : Int)) = false := by simp only [decide_eq_false_iff_not]; omega
            obtain rfl : j = 2 * S + 1 := by omega
            by_cases c9 : Z.tape.sum > (btr s S n).2.1
            · have g9 : decide ((Z.tape.sum : Int) > ((btr s S n).2.1 : Int)) = true := by simp only [decide_eq_true_eq]; omega
              have m2 : max (btr s S n).2.1 Z.tape.sum = Z.tape.sum := by omega
              simp (maxSteps := 1000000) only [hblen, Int.toNat_natCast, g8, htall, g9, w7, EA, EB, EC, ED, EE, EF, EG, EH, EI, XA, XB, XC, XD, XE, XF, XG, XH, XI, XJ, XK, XL, XM, reduceIte, ↓reduceIte, Nat.reduceAdd, Nat.reduceLeDiff, Nat.reduceEqDiff, Nat.reduceLT, Nat.reduceSub, Nat.reduceBEq, forall_const, reduceCtorEq, implies_true, exists_eq_left', exists_eq_left, if_true, if_false, undef]
              exact ⟨n + 1, by omega, by omega, by rw [hbtr]; simp [Back, BackF, fzT, fzM, fzU, fz, fzL, fzO, kin, SubT, Sub, SubL, SubM, SubO, keepM, srcOk, look, lookM, ev, evs, putT, argT, EA, EB, EC, ED, EE, EF, EG, EH, EI, XA, XB, XC, XD, XE, XF, XG, XH, XI, XJ, XK, XL, XM, reduceIte, ↓reduceIte, Nat.reduceAdd, Nat.reduceLeDiff, Nat.reduceEqDiff, Nat.reduceLT, Nat.reduceSub, Nat.reduceBEq, forall_const, reduceCtorEq, implies_true, exists_eq_left', exists_eq_left, if_true, if_false, undef, m1, m2]⟩
            · have g9 : decide ((Z.tape.sum : Int) > ((btr s S n).2.1 : Int)) = false := by simp only [decide_eq_false_iff_not]; omega
              have m2 : max (btr s S n).2.1 Z.tape.sum = (btr s S n).2.1 := by omega
              simp (maxSteps := 1000000) only [hblen, Int.toNat_natCast, g8, htall, g9, w7, EA, EB, EC, ED, EE, EF, EG, EH, EI, XA, XB, XC, XD, XE, XF, XG, XH, XI, XJ, XK, XL, XM, reduceIte, ↓reduceIte, Nat.reduceAdd, Nat.reduceLeDiff, Nat.reduceEqDiff, Nat.reduceLT, Nat.reduceSub, Nat.reduceBEq, forall_const, reduceCtorEq, implies_true, exists_eq_left', exists_eq_left, if_true, if_false, undef]
              exact ⟨n + 1, by omega, by omega, by rw [hbtr]; simp [Back, BackF, fzT, fzM, fzU, fz, fzL, fzO, kin, SubT, Sub, SubL, SubM, SubO, keepM, srcOk, look, lookM, ev, evs, putT, argT, EA, EB, EC, ED, EE, EF, EG, EH, EI, XA, XB, XC, XD, XE, XF, XG, XH, XI, XJ, XK, XL, XM, reduceIte, ↓reduceIte, Nat.reduceAdd, Nat.reduceLeDiff, Nat.reduceEqDiff, Nat.reduceLT, Nat.reduceSub, Nat.reduceBEq, forall_const, reduceCtorEq, implies_true, exists_eq_left', exists_eq_left, if_true, if_false, undef, m1, m2]⟩
        · have g7 : decide ((k : Int) > ((btr s S n).1 : Int)) = false := by simp only [decide_eq_false_iff_not]; omega
          have m1 : max (btr s S n).1 k = (btr s S n).1 := by omega
          simp (maxSteps := 1000000) only [g7, EA, EB, EC, ED, EE, EF, EG, EH, EI, XA, XB, XC, XD, XE, XF, XG, XH, XI, XJ, XK, XL, XM, reduceIte, ↓reduceIte, Nat.reduceAdd, Nat.reduceLeDiff, Nat.reduceEqDiff, Nat.reduceLT, Nat.reduceSub, Nat.reduceBEq, forall_const, reduceCtorEq, implies_true, exists_eq_left', exists_eq_left, if_true, if_false, undef]
          refine loopO Nat [106, 18] (fun j => [IN j, IN ((Z.tape.take j).sum)]) (fun j => []) (fun j => j ≤ 2 * S + 1) (fun j => 2 * S + 1 - j) (by decide) 0 (by simp) (by simp [Back, BackF, fzT, fzM, fzU, fz, fzL, fzO, kin, SubT, Sub, SubL, SubM, SubO, keepM, srcOk, look, lookM, ev, evs, putT, argT, EA, EB, EC, ED, EE, EF, EG, EH, EI, XA, XB, XC, XD, XE, XF, XG, XH, XI, XJ, XK, XL, XM, reduceIte, ↓reduceIte, Nat.reduceAdd, Nat.reduceLeDiff, Nat.reduceEqDiff, Nat.reduceLT, Nat.reduceSub, Nat.reduceBEq, forall_const, reduceCtorEq, implies_true, exists_eq_left', exists_eq_left, if_true, if_false, undef]) (fun j hj => ?_)
          have hsj := hsumk j
          by_cases c8 : j < 2 * S + 1
          · have g8 : decide ((j : Int) < ((2 * S + 1 : Nat) : Int)) = true := by simp only [decide_eq_true_eq]; omega
            have hjl : j < Z.tape.length := by omega
            have hnx := htk j hjl
            have hc1 := hcells Z.tape[j] (List.getElem_mem hjl)
            have u1 : IntKind.i64.wrap (((Z.tape.take j).sum : Int) + (Z.tape[j] : Int)) = ((Z.tape.take (j + 1)).sum : Int) := by rw [hnx, wrap_id] <;> omega
            have u2 : IntKind.i64.wrap ((j : Int) + 1) = ((j + 1 : Nat) : Int) := by rw [wrap_id] <;> omega
            have hpk : (Z.tape.map IN)[j]? = some (IN Z.tape[j]) := by simp [hjl]
            simp (maxSteps := 1000000) only [hblen, Int.toNat_natCast, g8, EA, EB, EC, ED, EE, EF, EG, EH, EI, XA, XB, XC, XD, XE, XF, XG, XH, XI, XJ, XK, XL, XM, reduceIte, ↓reduceIte, Nat.reduceAdd, Nat.reduceLeDiff, Nat.reduceEqDiff, Nat.reduceLT, Nat.reduceSub, Nat.reduceBEq, forall_const, reduceCtorEq, implies_true, exists_eq_left', exists_eq_left, if_true, if_false, undef]
            refine ⟨by omega, by omega, Pick.mk (IN Z.tape[j]) (by simpa using hpk) ?_⟩
            simp (maxSteps := 1000000) only [u1, u2, EA, EB, EC, ED, EE, EF, EG, EH, EI, XA, XB, XC, XD, XE, XF, XG, XH, XI, XJ, XK, XL, XM, reduceIte, ↓reduceIte, Nat.reduceAdd, Nat.reduceLeDiff, Nat.reduceEqDiff, Nat.reduceLT, Nat.reduceSub, Nat.reduceBEq, forall_const, reduceCtorEq, implies_true, exists_eq_left', exists_eq_left, if_true, if_false, undef]
            exact ⟨j + 1, by omega, by omega, by simp [Back, BackF, fzT, fzM, fzU, fz, fzL, fzO, kin, SubT, Sub, SubL, SubM, SubO, keepM, srcOk, look, lookM, ev, evs, putT, argT, EA, EB, EC, ED, EE, EF, EG, EH, EI, XA, XB, XC, XD, XE, XF, XG, XH, XI, XJ, XK, XL, XM, reduceIte, ↓reduceIte, Nat.reduceAdd, Nat.reduceLeDiff, Nat.reduceEqDiff, Nat.reduceLT, Nat.reduceSub, Nat.reduceBEq, forall_const, reduceCtorEq, implies_true, exists_eq_left', exists_eq_left, if_true, if_false, undef]⟩
          · have g8 : decide ((j : Int) < ((2 * S + 1 : Nat) : Int)) = false := by simp only [decide_eq_false_iff_not]; omega
            obtain rfl : j = 2 * S + 1 := by omega
            by_cases c9 : Z.tape.sum > (btr s S n).2.1
            · have g9 : decide ((Z.tape.sum : Int) > ((btr s S n).2.1 : Int)) = true := by simp only [decide_eq_true_eq]; omega
              have m2 : max (btr s S n).2.1 Z.tape.sum = Z.tape.sum := by omega
              simp (maxSteps := 1000000) only [hblen, Int.toNat_natCast, g8, htall, g9, w7, EA, EB, EC, ED, EE, EF, EG, EH, EI, XA, XB, XC, XD, XE, XF, XG, XH, XI, XJ, XK, XL, XM, reduceIte, ↓reduceIte, Nat.reduceAdd, Nat.reduceLeDiff, Nat.reduceEqDiff, Nat.reduceLT, Nat.reduceSub, Nat.reduceBEq, forall_const, reduceCtorEq, implies_true, exists_eq_left', exists_eq_left, if_true, if_false, undef]
              exact ⟨n + 1, by omega, by omega, by rw [hbtr]; simp [Back, BackF, fzT, fzM, fzU, fz, fzL, fzO, kin, SubT, Sub, SubL, SubM, SubO, keepM, srcOk, look, lookM, ev, evs, putT, argT, EA, EB, EC, ED, EE, EF, EG, EH, EI, XA, XB, XC, XD, XE, XF, XG, XH, XI, XJ, XK, XL, XM, reduceIte, ↓reduceIte, Nat.reduceAdd, Nat.reduceLeDiff, Nat.reduceEqDiff, Nat.reduceLT, Nat.reduceSub, Nat.reduceBEq, forall_const, reduceCtorEq, implies_true, exists_eq_left', exists_eq_left, if_true, if_false, undef, m1, m2]⟩
            · have g9 : decide ((Z.tape.sum : Int) > ((btr s S n).2.1 : Int)) = false := by simp only [decide_eq_false_iff_not]; omega
              have m2 : max (btr s S n).2.1 Z.tape.sum = (btr s S n).2.1 := by omega
              simp (maxSteps := 1000000) only [hblen, Int.toNat_natCast, g8, htall, g9, w7, EA, EB, EC, ED, EE, EF, EG, EH, EI, XA, XB, XC, XD, XE, XF, XG, XH, XI, XJ, XK, XL, XM, reduceIte, ↓reduceIte, Nat.reduceAdd, Nat.reduceLeDiff, Nat.reduceEqDiff, Nat.reduceLT, Nat.reduceSub, Nat.reduceBEq, forall_const, reduceCtorEq, implies_true, exists_eq_left', exists_eq_left, if_true, if_false, undef]
              exact ⟨n + 1, by omega, by omega, by rw [hbtr]; simp [Back, BackF, fzT, fzM, fzU, fz, fzL, fzO, kin, SubT, Sub, SubL, SubM, SubO, keepM, srcOk, look, lookM, ev, evs, putT, argT, EA, EB, EC, ED, EE, EF, EG, EH, EI, XA, XB, XC, XD, XE, XF, XG, XH, XI, XJ, XK, XL, XM, reduceIte, ↓reduceIte, Nat.reduceAdd, Nat.reduceLeDiff, Nat.reduceEqDiff, Nat.reduceLT, Nat.reduceSub, Nat.reduceBEq, forall_const, reduceCtorEq, implies_true, exists_eq_left', exists_eq_left, if_true, if_false, undef, m1, m2]⟩

end Go.Av
