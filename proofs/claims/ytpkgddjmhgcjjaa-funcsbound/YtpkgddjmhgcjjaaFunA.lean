/- Functions: the rows of the Ackermann function, the program's and the document's. -/
import Derived.Test.YtpkgddjmhgcjjaaFunR
set_option linter.unusedSimpArgs false
set_option linter.unusedVariables false
set_option maxRecDepth 100000
namespace Go.Av
open Go.Proofs

theorem firstRow_spec : CallsA Try.prog 24 [] (.ro 1 (row0.map IN)) [] := by
  refine fn_of0 comp24 (by simp) ?_
  unfold code24
  have h0 : List.replicate (Int.toNat 1000) (.v (.int .i64 0)) = (fr 0).map IN := by simp [fr, IN, I]
  simp (maxSteps := 1000000) only [h0, EA, EB, EC, ED, EE, EF, EG, EH, XA, XB, XC, XD, XE, XF, XG, XH, XI, XJ, XK, XL, XM, reduceIte, ↓reduceIte, Nat.reduceAdd, Nat.reduceLeDiff, Nat.reduceEqDiff, Nat.reduceLT, Nat.reduceSub, Nat.reduceBEq, forall_const, reduceCtorEq, implies_true, exists_eq_left', exists_eq_left, if_true, if_false, undef]
  refine ⟨by omega, by omega, by omega, ?_⟩
  refine loopO Nat [6] (fun k => [I (k : Nat)]) (fun k => [(1, some (.arr 1 ((fr k).map IN)))]) (fun k => k ≤ 1000) (fun k => 1000 - k) (by decide) 0 (by simp) (by simp [Back, BackF, fzT, fzM, fzU, fz, fzL, fzO, kin, SubT, Sub, SubL, SubM, SubO, keepM, srcOk, look, lookM, ev, evs, putT, argT, EA, EB, EC, ED, EE, EF, EG, EH, XA, XB, XC, XD, XE, XF, XG, XH, XI, XJ, XK, XL, XM, reduceIte, ↓reduceIte, Nat.reduceAdd, Nat.reduceLeDiff, Nat.reduceEqDiff, Nat.reduceLT, Nat.reduceSub, Nat.reduceBEq, forall_const, reduceCtorEq, implies_true, exists_eq_left', exists_eq_left, if_true, if_false, undef]) (fun k hk => ?_)
  have hl := fr_length hk
  have e1 : ((Int.toNat 1000 : Nat) : Int) = 1000 := rfl
  by_cases c1 : k < 1000
  rotate_left
  · have f1 : decide ((k : Int) < 1000) = false := by simp; omega
    have : k = 1000 := by omega
    subst this
    have e2 : fr 1000 = row0 := by simp [fr, row0]
    rw [e2]
    simp (maxSteps := 1000000) only [e1, f1, EA, EB, EC, ED, EE, EF, EG, EH, XA, XB, XC, XD, XE, XF, XG, XH, XI, XJ, XK, XL, XM, reduceIte, ↓reduceIte, Nat.reduceAdd, Nat.reduceLeDiff, Nat.reduceEqDiff, Nat.reduceLT, Nat.reduceSub, Nat.reduceBEq, forall_const, reduceCtorEq, implies_true, exists_eq_left', exists_eq_left, if_true, if_false, undef]
    rw [List.take_of_length_le (by simp [row0])]
  have f1 : decide ((k : Int) < 1000) = true := by simp; omega
  have hw : IntKind.i64.wrap ((k : Int) + 1) = ((k + 1 : Nat) : Int) := by rw [wrap_id] <;> omega
  simp (maxSteps := 1000000) only [e1, f1, hw, Int.toNat_natCast, EA, EB, EC, ED, EE, EF, EG, EH, XA, XB, XC, XD, XE, XF, XG, XH, XI, XJ, XK, XL, XM, reduceIte, ↓reduceIte, Nat.reduceAdd, Nat.reduceLeDiff, Nat.reduceEqDiff, Nat.reduceLT, Nat.reduceSub, Nat.reduceBEq, forall_const, reduceCtorEq, implies_true, exists_eq_left', exists_eq_left, if_true, if_false, undef]
  refine ⟨by omega, by omega, by simp [hl]; omega, k + 1, by omega, by omega, ?_⟩
  rw [← fr_succ c1, List.map_set]
  simp [Back, BackF, fzT, fzM, fzU, fz, fzL, fzO, kin, SubT, Sub, SubL, SubM, SubO, keepM, srcOk, look, lookM, ev, evs, putT, argT, EA, EB, EC, ED, EE, EF, EG, EH, XA, XB, XC, XD, XE, XF, XG, XH, XI, XJ, XK, XL, XM, reduceIte, ↓reduceIte, Nat.reduceAdd, Nat.reduceLeDiff, Nat.reduceEqDiff, Nat.reduceLT, Nat.reduceSub, Nat.reduceBEq, forall_const, reduceCtorEq, implies_true, exists_eq_left', exists_eq_left, if_true, if_false, undef, IN, I]

theorem nextRow_spec (row : List Nat) (h : ackRow row) : CallsA Try.prog 25 [.ro 1 (row.map IN)] (.ro 1 ((nextL row).map IN)) [] := by
  refine fn_of0 comp25 (by simp) ?_
  unfold code25
  have hll : ((row.map IN).length : Int) = row.length := by simp
  simp (maxSteps := 1000000) only [EA, EB, EC, ED, EE, EF, EG, EH, XA, XB, XC, XD, XE, XF, XG, XH, XI, XJ, XK, XL, XM, reduceIte, ↓reduceIte, Nat.reduceAdd, Nat.reduceLeDiff, Nat.reduceEqDiff, Nat.reduceLT, Nat.reduceSub, Nat.reduceBEq, forall_const, reduceCtorEq, implies_true, exists_eq_left', exists_eq_left, if_true, if_false, undef]
  refine loopR (List Nat × Nat × Nat) [4, 3] (fun s => [IN s.2.2, .arr 3 0 s.1.length]) (fun s => [(3, some (.arr 1 (s.1.map IN)))]) 1 (fun s => s.1.length ≤ s.2.2 ∧ s.2.2 ≤ 1001 ∧ row.length < s.2.2 + s.2.1 ∧ s.1 ++ nxt row s.2.1 s.2.2 = nextL row) (fun s => row.length - s.2.2) (by decide)
    ([], 1001, 1) [none] rfl ⟨by simp, by simp, by simp only; have := h.1; omega, rfl⟩ (by simp [Back, BackF, fzT, fzM, fzU, fz, fzL, fzO, kin, SubT, Sub, SubL, SubM, SubO, keepM, srcOk, look, lookM, ev, evs, putT, argT, EA, EB, EC, ED, EE, EF, EG, EH, XA, XB, XC, XD, XE, XF, XG, XH, XI, XJ, XK, XL, XM, reduceIte, ↓reduceIte, Nat.reduceAdd, Nat.reduceLeDiff, Nat.reduceEqDiff, Nat.reduceLT, Nat.reduceSub, Nat.reduceBEq, forall_const, reduceCtorEq, implies_true, exists_eq_left', exists_eq_left, if_true, if_false, undef]) ?_
  rintro ⟨acc, f, p⟩ ⟨h1, h2, h3, h4⟩
  simp only at h1 h2 h3 h4
  by_cases c1 : p < row.length
  rotate_left
  · have f1 : decide ((p : Int) < (row.length : Int)) = false := by simp; omega
    have e : nxt row f p = [] := by cases f with | zero => rfl | succ f => rw [nxt, if_neg c1]
    rw [e, List.append_nil] at h4
    subst h4
    simp (maxSteps := 1000000) only [hll, f1, EA, EB, EC, ED, EE, EF, EG, EH, XA, XB, XC, XD, XE, XF, XG, XH, XI, XJ, XK, XL, XM, reduceIte, ↓reduceIte, Nat.reduceAdd, Nat.reduceLeDiff, Nat.reduceEqDiff, Nat.reduceLT, Nat.reduceSub, Nat.reduceBEq, forall_const, reduceCtorEq, implies_true, exists_eq_left', exists_eq_left, if_true, if_false, undef]
    rw [List.take_of_length_le (by simp)]
  have f1 : decide ((p : Int) < (row.length : Int)) = true := by simp; omega
  cases f with
  | zero => omega
  | succ f =>
  rw [nxt, if_pos c1] at h4
  obtain ⟨h5, h6⟩ := h.2 p c1
  have hg : (row.map IN)[((p : Nat) : Int).toNat]? = some (IN (row.getD p 0)) := by
    rw [Int.toNat_natCast, List.getElem?_map, List.getD_eq_getElem?_getD, List.getElem?_eq_getElem c1]; rfl
  generalize row.getD p 0 = y at *
  simp (maxSteps := 1000000) only [hll, f1, EA, EB, EC, ED, EE, EF, EG, EH, XA, XB, XC, XD, XE, XF, XG, XH, XI, XJ, XK, XL, XM, reduceIte, ↓reduceIte, Nat.reduceAdd, Nat.reduceLeDiff, Nat.reduceEqDiff, Nat.reduceLT, Nat.reduceSub, Nat.reduceBEq, forall_const, reduceCtorEq, implies_true, exists_eq_left', exists_eq_left, if_true, if_false, undef]
  refine ⟨by omega, _, hg, ?_⟩
  simp (maxSteps := 1000000) only [List.length_map, EA, EB, EC, ED, EE, EF, EG, EH, XA, XB, XC, XD, XE, XF, XG, XH, XI, XJ, XK, XL, XM, reduceIte, ↓reduceIte, Nat.reduceAdd, Nat.reduceLeDiff, Nat.reduceEqDiff, Nat.reduceLT, Nat.reduceSub, Nat.reduceBEq, forall_const, reduceCtorEq, implies_true, exists_eq_left', exists_eq_left, if_true, if_false, undef]
  refine ⟨by omega, (acc ++ [y], f, y), [some 16], rfl, ⟨by simp only [List.length_append, List.length_cons, List.length_nil]; omega, by simp only; omega, by simp only; omega, by simp only; rw [← h4]; simp⟩, by simp only; omega, by simp [Back, BackF, fzT, fzM, fzU, fz, fzL, fzO, kin, SubT, Sub, SubL, SubM, SubO, keepM, srcOk, look, lookM, ev, evs, putT, argT, EA, EB, EC, ED, EE, EF, EG, EH, XA, XB, XC, XD, XE, XF, XG, XH, XI, XJ, XK, XL, XM, reduceIte, ↓reduceIte, Nat.reduceAdd, Nat.reduceLeDiff, Nat.reduceEqDiff, Nat.reduceLT, Nat.reduceSub, Nat.reduceBEq, forall_const, reduceCtorEq, implies_true, exists_eq_left', exists_eq_left, if_true, if_false, undef]⟩

theorem ack_range (m n : Int) (h : m < 0 ∨ n < 0 ∨ 4 < m) : CallsA Try.prog 17 [I m, I n] (.tup [I 0, I 4]) [] := by
  refine fn_of0 comp17 (by simp) ?_
  unfold code17
  by_cases h1 : m < 0
  · have f1 : decide (m < 0) = true := by simp [h1]
    simp (maxSteps := 1000000) only [f1, EA, EB, EC, ED, EE, EF, EG, EH, XA, XB, XC, XD, XE, XF, XG, XH, XI, XJ, XK, XL, XM, reduceIte, ↓reduceIte, Nat.reduceAdd, Nat.reduceLeDiff, Nat.reduceEqDiff, Nat.reduceLT, Nat.reduceSub, Nat.reduceBEq, forall_const, reduceCtorEq, implies_true, exists_eq_left', exists_eq_left, if_true, if_false, undef]
  have f1 : decide (m < 0) = false := by simp; omega
  by_cases h2 : n < 0
  · have f2 : decide (n < 0) = true := by simp [h2]
    simp (maxSteps := 1000000) only [f1, f2, EA, EB, EC, ED, EE, EF, EG, EH, XA, XB, XC, XD, XE, XF, XG, XH, XI, XJ, XK, XL, XM, reduceIte, ↓reduceIte, Nat.reduceAdd, Nat.reduceLeDiff, Nat.reduceEqDiff, Nat.reduceLT, Nat.reduceSub, Nat.reduceBEq, forall_const, reduceCtorEq, implies_true, exists_eq_left', exists_eq_left, if_true, if_false, undef]
  have f2 : decide (n < 0) = false := by simp; omega
  have f3 : decide (m > 4) = true := by simp; omega
  simp (maxSteps := 1000000) only [f1, f2, f3, EA, EB, EC, ED, EE, EF, EG, EH, XA, XB, XC, XD, XE, XF, XG, XH, XI, XJ, XK, XL, XM, reduceIte, ↓reduceIte, Nat.reduceAdd, Nat.reduceLeDiff, Nat.reduceEqDiff, Nat.reduceLT, Nat.reduceSub, Nat.reduceBEq, forall_const, reduceCtorEq, implies_true, exists_eq_left', exists_eq_left, if_true, if_false, undef]

def ackAns (m n : Nat) : AV := match (rowC m)[n]? with
  | some y => .tup [IN y, I 0]
  | none => .tup [I 0, I 7]
theorem ackP_spec (m n : Nat) (hm : m ≤ 4) : CallsA Try.prog 17 [IN m, IN n] (ackAns m n) [] := by
  refine fn_of0 comp17 (by simp) ?_
  unfold code17
  have f1 : decide ((m : Int) < 0) = false := by simp
  have f2 : decide ((n : Int) < 0) = false := by simp
  have f3 : decide ((m : Int) > 4) = false := by simp; omega
  simp (maxSteps := 1000000) only [f1, f2, f3, EA, EB, EC, ED, EE, EF, EG, EH, XA, XB, XC, XD, XE, XF, XG, XH, XI, XJ, XK, XL, XM, reduceIte, ↓reduceIte, Nat.reduceAdd, Nat.reduceLeDiff, Nat.reduceEqDiff, Nat.reduceLT, Nat.reduceSub, Nat.reduceBEq, forall_const, reduceCtorEq, implies_true, exists_eq_left', exists_eq_left, if_true, if_false, undef]
  refine callA (CallsA.args (firstRow_spec) (by simp [EA, EB, EC, ED, EE, EF, EG, EH, XA, XB, XC, XD, XE, XF, XG, XH, XI, XJ, XK, XL, XM, reduceIte, ↓reduceIte, Nat.reduceAdd, Nat.reduceLeDiff, Nat.reduceEqDiff, Nat.reduceLT, Nat.reduceSub, Nat.reduceBEq, forall_const, reduceCtorEq, implies_true, exists_eq_left', exists_eq_left, if_true, if_false, undef])) rfl ?_
  simp (maxSteps := 1000000) only [EA, EB, EC, ED, EE, EF, EG, EH, XA, XB, XC, XD, XE, XF, XG, XH, XI, XJ, XK, XL, XM, reduceIte, ↓reduceIte, Nat.reduceAdd, Nat.reduceLeDiff, Nat.reduceEqDiff, Nat.reduceLT, Nat.reduceSub, Nat.reduceBEq, forall_const, reduceCtorEq, implies_true, exists_eq_left', exists_eq_left, if_true, if_false, undef]
  refine loop0 Nat [19, 6] (fun k => [IN k, .ro 1 ((rowM k).map IN)]) (fun k => k ≤ m) (fun k => m - k) (by decide) 0 (by simp) (by simp [Back, BackF, fzT, fzM, fzU, fz, fzL, fzO, kin, SubT, Sub, SubL, SubM, SubO, keepM, srcOk, look, lookM, ev, evs, putT, argT, EA, EB, EC, ED, EE, EF, EG, EH, XA, XB, XC, XD, XE, XF, XG, XH, XI, XJ, XK, XL, XM, reduceIte, ↓reduceIte, Nat.reduceAdd, Nat.reduceLeDiff, Nat.reduceEqDiff, Nat.reduceLT, Nat.reduceSub, Nat.reduceBEq, forall_const, reduceCtorEq, implies_true, exists_eq_left', exists_eq_left, if_true, if_false, undef, rowM]) (fun k hk => ?_)
  by_cases c1 : k < m
  rotate_left
  · have g1 : decide ((k : Int) < (m : Int)) = false := by simp; omega
    have : k = m := by omega
    subst this
    rw [rowM_C k hm]
    have hll : (((rowC k).map IN).length : Int) = (rowC k).length := by simp
    by_cases c2 : n < (rowC k).length
    · have g2 : decide ((n : Int) ≥ ((rowC k).length : Int)) = false := by simp; omega
      have ha : ackAns k n = .tup [IN (rowC k)[n], I 0] := by rw [ackAns, List.getElem?_eq_getElem c2]
      simp (maxSteps := 1000000) only [g1, g2, hll, ha, EA, EB, EC, ED, EE, EF, EG, EH, XA, XB, XC, XD, XE, XF, XG, XH, XI, XJ, XK, XL, XM, reduceIte, ↓reduceIte, Nat.reduceAdd, Nat.reduceLeDiff, Nat.reduceEqDiff, Nat.reduceLT, Nat.reduceSub, Nat.reduceBEq, forall_const, reduceCtorEq, implies_true, exists_eq_left', exists_eq_left, if_true, if_false, undef]
      refine ⟨by omega, pickM c2 ?_⟩
      simp (maxSteps := 1000000) only [ha, EA, EB, EC, ED, EE, EF, EG, EH, XA, XB, XC, XD, XE, XF, XG, XH, XI, XJ, XK, XL, XM, reduceIte, ↓reduceIte, Nat.reduceAdd, Nat.reduceLeDiff, Nat.reduceEqDiff, Nat.reduceLT, Nat.reduceSub, Nat.reduceBEq, forall_const, reduceCtorEq, implies_true, exists_eq_left', exists_eq_left, if_true, if_false, undef]
    · have g2 : decide ((n : Int) ≥ ((rowC k).length : Int)) = true := by simp; omega
      have ha : ackAns k n = .tup [I 0, I 7] := by rw [ackAns, List.getElem?_eq_none (by omega)]
      simp (maxSteps := 1000000) only [g1, g2, hll, ha, EA, EB, EC, ED, EE, EF, EG, EH, XA, XB, XC, XD, XE, XF, XG, XH, XI, XJ, XK, XL, XM, reduceIte, ↓reduceIte, Nat.reduceAdd, Nat.reduceLeDiff, Nat.reduceEqDiff, Nat.reduceLT, Nat.reduceSub, Nat.reduceBEq, forall_const, reduceCtorEq, implies_true, exists_eq_left', exists_eq_left, if_true, if_false, undef]
  have g1 : decide ((k : Int) < (m : Int)) = true := by simp; omega
  have hw : IntKind.i64.wrap ((k : Int) + 1) = ((k + 1 : Nat) : Int) := by rw [wrap_id] <;> omega
  have hok : ackRow (rowM k) := by rw [rowM_C k (by omega)]; exact rowC_ok k (by omega)
  simp (maxSteps := 1000000) only [g1, EA, EB, EC, ED, EE, EF, EG, EH, XA, XB, XC, XD, XE, XF, XG, XH, XI, XJ, XK, XL, XM, reduceIte, ↓reduceIte, Nat.reduceAdd, Nat.reduceLeDiff, Nat.reduceEqDiff, Nat.reduceLT, Nat.reduceSub, Nat.reduceBEq, forall_const, reduceCtorEq, implies_true, exists_eq_left', exists_eq_left, if_true, if_false, undef]
  refine callA (CallsA.args (nextRow_spec (rowM k) hok) (by simp [EA, EB, EC, ED, EE, EF, EG, EH, XA, XB, XC, XD, XE, XF, XG, XH, XI, XJ, XK, XL, XM, reduceIte, ↓reduceIte, Nat.reduceAdd, Nat.reduceLeDiff, Nat.reduceEqDiff, Nat.reduceLT, Nat.reduceSub, Nat.reduceBEq, forall_const, reduceCtorEq, implies_true, exists_eq_left', exists_eq_left, if_true, if_false, undef])) rfl ?_
  simp (maxSteps := 1000000) only [hw, EA, EB, EC, ED, EE, EF, EG, EH, XA, XB, XC, XD, XE, XF, XG, XH, XI, XJ, XK, XL, XM, reduceIte, ↓reduceIte, Nat.reduceAdd, Nat.reduceLeDiff, Nat.reduceEqDiff, Nat.reduceLT, Nat.reduceSub, Nat.reduceBEq, forall_const, reduceCtorEq, implies_true, exists_eq_left', exists_eq_left, if_true, if_false, undef]
  exact ⟨k + 1, by omega, by omega, by simp [Back, BackF, fzT, fzM, fzU, fz, fzL, fzO, kin, SubT, Sub, SubL, SubM, SubO, keepM, srcOk, look, lookM, ev, evs, putT, argT, EA, EB, EC, ED, EE, EF, EG, EH, XA, XB, XC, XD, XE, XF, XG, XH, XI, XJ, XK, XL, XM, reduceIte, ↓reduceIte, Nat.reduceAdd, Nat.reduceLeDiff, Nat.reduceEqDiff, Nat.reduceLT, Nat.reduceSub, Nat.reduceBEq, forall_const, reduceCtorEq, implies_true, exists_eq_left', exists_eq_left, if_true, if_false, undef, rowM]⟩

def refA (m n : Nat) : Int :=
  let x : Nat := if m = 1 then n + 2 else if m = 2 then n + n + 3 else if m = 3 then 8 * 2 ^ (min n 9) - 3 else if m = 4 then (if n = 0 then 13 else 1001) else n + 1
  if x > 1000 then -1 else x
theorem refAck_spec (m n : Nat) (hm : m ≤ 4) (hn : n ≤ 1000) : CallsA Try.prog 18 [IN m, IN n] (I (refA m n)) [] := by
  refine fn_of0 comp18 (by simp) ?_
  unfold code18
  rcases (by omega : m = 0 ∨ m = 1 ∨ m = 2 ∨ m = 3 ∨ m = 4) with rfl | rfl | rfl | rfl | rfl
  · have z1 : (((0 : Nat) : Int) == 1) = false := by decide
    have z2 : (((0 : Nat) : Int) == 2) = false := by decide
    have z3 : (((0 : Nat) : Int) == 3) = false := by decide
    have z4 : (((0 : Nat) : Int) == 4) = false := by decide
    have w1 : IntKind.i64.wrap ((n : Int) + 1) = ((n + 1 : Nat) : Int) := by rw [wrap_id] <;> omega
    have w : IntKind.i64.wrap ((n : Int) + 1) = ((n + 1 : Nat) : Int) := by rw [wrap_id] <;> omega
    have hA : refA 0 n = if n + 1 > 1000 then -1 else ((n + 1 : Nat) : Int) := rfl
    by_cases hx : n + 1 > 1000
    · have g : decide (((n + 1 : Nat) : Int) > 1000) = true := by simp only [decide_eq_true_eq]; omega
      rw [if_pos hx] at hA
      simp (maxSteps := 1000000) only [z1, z2, z3, z4, w1, w, g, hA, EA, EB, EC, ED, EE, EF, EG, EH, XA, XB, XC, XD, XE, XF, XG, XH, XI, XJ, XK, XL, XM, reduceIte, ↓reduceIte, Nat.reduceAdd, Nat.reduceLeDiff, Nat.reduceEqDiff, Nat.reduceLT, Nat.reduceSub, Nat.reduceBEq, forall_const, reduceCtorEq, implies_true, exists_eq_left', exists_eq_left, if_true, if_false, undef]
    · have g : decide (((n + 1 : Nat) : Int) > 1000) = false := by simp only [decide_eq_false_iff_not]; omega
      rw [if_neg hx] at hA
      simp (maxSteps := 1000000) only [z1, z2, z3, z4, w1, w, g, hA, EA, EB, EC, ED, EE, EF, EG, EH, XA, XB, XC, XD, XE, XF, XG, XH, XI, XJ, XK, XL, XM, reduceIte, ↓reduceIte, Nat.reduceAdd, Nat.reduceLeDiff, Nat.reduceEqDiff, Nat.reduceLT, Nat.reduceSub, Nat.reduceBEq, forall_const, reduceCtorEq, implies_true, exists_eq_left', exists_eq_left, if_true, if_false, undef]
  · have z1 : (((1 : Nat) : Int) == 1) = true := by decide
    have z2 : (((1 : Nat) : Int) == 2) = false := by decide
    have z3 : (((1 : Nat) : Int) == 3) = false := by decide
    have z4 : (((1 : Nat) : Int) == 4) = false := by decide
    have w1 : IntKind.i64.wrap ((n : Int) + 1) = ((n + 1 : Nat) : Int) := by rw [wrap_id] <;> omega
    have w : IntKind.i64.wrap ((n : Int) + 2) = ((n + 2 : Nat) : Int) := by rw [wrap_id] <;> omega
    have hA : refA 1 n = if n + 2 > 1000 then -1 else ((n + 2 : Nat) : Int) := rfl
    by_cases hx : n + 2 > 1000
    · have g : decide (((n + 2 : Nat) : Int) > 1000) = true := by simp only [decide_eq_true_eq]; omega
      rw [if_pos hx] at hA
      simp (maxSteps := 1000000) only [z1, z2, z3, z4, w1, w, g, hA, EA, EB, EC, ED, EE, EF, EG, EH, XA, XB, XC, XD, XE, XF, XG, XH, XI, XJ, XK, XL, XM, reduceIte, ↓reduceIte, Nat.reduceAdd, Nat.reduceLeDiff, Nat.reduceEqDiff, Nat.reduceLT, Nat.reduceSub, Nat.reduceBEq, forall_const, reduceCtorEq, implies_true, exists_eq_left', exists_eq_left, if_true, if_false, undef]
    · have g : decide (((n + 2 : Nat) : Int) > 1000) = false := by simp only [decide_eq_false_iff_not]; omega
      rw [if_neg hx] at hA
      simp (maxSteps := 1000000) only [z1, z2, z3, z4, w1, w, g, hA, EA, EB, EC, ED, EE, EF, EG, EH, XA, XB, XC, XD, XE, XF, XG, XH, XI, XJ, XK, XL, XM, reduceIte, ↓reduceIte, Nat.reduceAdd, Nat.reduceLeDiff, Nat.reduceEqDiff, Nat.reduceLT, Nat.reduceSub, Nat.reduceBEq, forall_const, reduceCtorEq, implies_true, exists_eq_left', exists_eq_left, if_true, if_false, undef]
  · have z1 : (((2 : Nat) : Int) == 1) = false := by decide
    have z2 : (((2 : Nat) : Int) == 2) = true := by decide
    have z3 : (((2 : Nat) : Int) == 3) = false := by decide
    have z4 : (((2 : Nat) : Int) == 4) = false := by decide
    have w0 : IntKind.i64.wrap ((n : Int) + (n : Int)) = ((n + n : Nat) : Int) := by rw [wrap_id] <;> omega
    have w1 : IntKind.i64.wrap ((n : Int) + 1) = ((n + 1 : Nat) : Int) := by rw [wrap_id] <;> omega
    have w : IntKind.i64.wrap (((n + n : Nat) : Int) + 3) = ((n + n + 3 : Nat) : Int) := by rw [wrap_id] <;> omega
    have hA : refA 2 n = if n + n + 3 > 1000 then -1 else ((n + n + 3 : Nat) : Int) := rfl
    by_cases hx : n + n + 3 > 1000
    · have g : decide (((n + n + 3 : Nat) : Int) > 1000) = true := by simp only [decide_eq_true_eq]; omega
      rw [if_pos hx] at hA
      simp (maxSteps := 1000000) only [z1, z2, z3, z4, w0, w1, w, g, hA, EA, EB, EC, ED, EE, EF, EG, EH, XA, XB, XC, XD, XE, XF, XG, XH, XI, XJ, XK, XL, XM, reduceIte, ↓reduceIte, Nat.reduceAdd, Nat.reduceLeDiff, Nat.reduceEqDiff, Nat.reduceLT, Nat.reduceSub, Nat.reduceBEq, forall_const, reduceCtorEq, implies_true, exists_eq_left', exists_eq_left, if_true, if_false, undef]
    · have g : decide (((n + n + 3 : Nat) : Int) > 1000) = false := by simp only [decide_eq_false_iff_not]; omega
      rw [if_neg hx] at hA
      simp (maxSteps := 1000000) only [z1, z2, z3, z4, w0, w1, w, g, hA, EA, EB, EC, ED, EE, EF, EG, EH, XA, XB, XC, XD, XE, XF, XG, XH, XI, XJ, XK, XL, XM, reduceIte, ↓reduceIte, Nat.reduceAdd, Nat.reduceLeDiff, Nat.reduceEqDiff, Nat.reduceLT, Nat.reduceSub, Nat.reduceBEq, forall_const, reduceCtorEq, implies_true, exists_eq_left', exists_eq_left, if_true, if_false, undef]
  · have z1 : (((3 : Nat) : Int) == 1) = false := by decide
    have z2 : (((3 : Nat) : Int) == 2) = false := by decide
    have z3 : (((3 : Nat) : Int) == 3) = true := by decide
    have z4 : (((3 : Nat) : Int) == 4) = false := by decide
    have w1 : IntKind.i64.wrap ((n : Int) + 1) = ((n + 1 : Nat) : Int) := by rw [wrap_id] <;> omega
    simp (maxSteps := 1000000) only [z1, z2, z3, z4, w1, EA, EB, EC, ED, EE, EF, EG, EH, XA, XB, XC, XD, XE, XF, XG, XH, XI, XJ, XK, XL, XM, reduceIte, ↓reduceIte, Nat.reduceAdd, Nat.reduceLeDiff, Nat.reduceEqDiff, Nat.reduceLT, Nat.reduceSub, Nat.reduceBEq, forall_const, reduceCtorEq, implies_true, exists_eq_left', exists_eq_left, if_true, if_false, undef]
    refine loop0 Nat [6, 5] (fun k => [IN k, IN (8 * 2 ^ k)]) (fun k => k ≤ min n 9) (fun k => min n 9 - k) (by decide) 0 (by simp) (by simp [Back, BackF, fzT, fzM, fzU, fz, fzL, fzO, kin, SubT, Sub, SubL, SubM, SubO, keepM, srcOk, look, lookM, ev, evs, putT, argT, EA, EB, EC, ED, EE, EF, EG, EH, XA, XB, XC, XD, XE, XF, XG, XH, XI, XJ, XK, XL, XM, reduceIte, ↓reduceIte, Nat.reduceAdd, Nat.reduceLeDiff, Nat.reduceEqDiff, Nat.reduceLT, Nat.reduceSub, Nat.reduceBEq, forall_const, reduceCtorEq, implies_true, exists_eq_left', exists_eq_left, if_true, if_false, undef]) (fun k hk => ?_)
    have hp : ∀ k, k ≤ 9 → 8 * 2 ^ k ≤ 4096 ∧ (k < 9 → 8 * 2 ^ k < 4000) := by decide
    obtain ⟨hp1, hp2⟩ := hp k (by omega)
    by_cases c1 : k < min n 9
    rotate_left
    · have e : k = min n 9 := by omega
      have hA : refA 3 n = if 8 * 2 ^ (min n 9) - 3 > 1000 then -1 else ((8 * 2 ^ (min n 9) - 3 : Nat) : Int) := rfl
      rw [← e] at hA
      have hge : 8 ≤ 8 * 2 ^ k := by have := Nat.one_le_two_pow (n := k); omega
      have hlt : (k : Int) < (n : Int) → ¬ ((8 * 2 ^ k : Nat) : Int) < 4000 := fun h => by
        have : k = 9 := by omega
        subst this; decide
      generalize 8 * 2 ^ k = y at *
      have w : IntKind.i64.wrap ((y : Int) - 3) = ((y - 3 : Nat) : Int) := by rw [wrap_id] <;> omega
      by_cases c2 : (k : Int) < (n : Int)
      · have f1 : decide ((k : Int) < (n : Int)) = true := by simpa using c2
        have f2 : decide ((y : Int) < 4000) = false := by simpa using hlt c2
        by_cases hx : y - 3 > 1000
        · have g : decide (((y - 3 : Nat) : Int) > 1000) = true := by simp only [decide_eq_true_eq]; omega
          rw [if_pos hx] at hA
          simp (maxSteps := 1000000) only [f1, f2, z4, w, g, hA, EA, EB, EC, ED, EE, EF, EG, EH, XA, XB, XC, XD, XE, XF, XG, XH, XI, XJ, XK, XL, XM, reduceIte, ↓reduceIte, Nat.reduceAdd, Nat.reduceLeDiff, Nat.reduceEqDiff, Nat.reduceLT, Nat.reduceSub, Nat.reduceBEq, forall_const, reduceCtorEq, implies_true, exists_eq_left', exists_eq_left, if_true, if_false, undef]
        · have g : decide (((y - 3 : Nat) : Int) > 1000) = false := by simp only [decide_eq_false_iff_not]; omega
          rw [if_neg hx] at hA
          simp (maxSteps := 1000000) only [f1, f2, z4, w, g, hA, EA, EB, EC, ED, EE, EF, EG, EH, XA, XB, XC, XD, XE, XF, XG, XH, XI, XJ, XK, XL, XM, reduceIte, ↓reduceIte, Nat.reduceAdd, Nat.reduceLeDiff, Nat.reduceEqDiff, Nat.reduceLT, Nat.reduceSub, Nat.reduceBEq, forall_const, reduceCtorEq, implies_true, exists_eq_left', exists_eq_left, if_true, if_false, undef]
      · have f1 : decide ((k : Int) < (n : Int)) = false := by simpa using c2
        by_cases hx : y - 3 > 1000
        · have g : decide (((y - 3 : Nat) : Int) > 1000) = true := by simp only [decide_eq_true_eq]; omega
          rw [if_pos hx] at hA
          simp (maxSteps := 1000000) only [f1, z4, w, g, hA, EA, EB, EC, ED, EE, EF, EG, EH, XA, XB, XC, XD, XE, XF, XG, XH, XI, XJ, XK, XL, XM, reduceIte, ↓reduceIte, Nat.reduceAdd, Nat.reduceLeDiff, Nat.reduceEqDiff, Nat.reduceLT, Nat.reduceSub, Nat.reduceBEq, forall_const, reduceCtorEq, implies_true, exists_eq_left', exists_eq_left, if_true, if_false, undef]
        · have g : decide (((y - 3 : Nat) : Int) > 1000) = false := by simp only [decide_eq_false_iff_not]; omega
          rw [if_neg hx] at hA
          simp (maxSteps := 1000000) only [f1, z4, w, g, hA, EA, EB, EC, ED, EE, EF, EG, EH, XA, XB, XC, XD, XE, XF, XG, XH, XI, XJ, XK, XL, XM, reduceIte, ↓reduceIte, Nat.reduceAdd, Nat.reduceLeDiff, Nat.reduceEqDiff, Nat.reduceLT, Nat.reduceSub, Nat.reduceBEq, forall_const, reduceCtorEq, implies_true, exists_eq_left', exists_eq_left, if_true, if_false, undef]
    have f1 : decide ((k : Int) < (n : Int)) = true := by simp; omega
    have f2 : decide (((8 * 2 ^ k : Nat) : Int) < 4000) = true := by have := hp2 (by omega); simp only [decide_eq_true_eq]; omega
    have w2 : IntKind.i64.wrap (((8 * 2 ^ k : Nat) : Int) + ((8 * 2 ^ k : Nat) : Int)) = ((8 * 2 ^ (k + 1) : Nat) : Int) := by rw [wrap_id, Nat.pow_succ] <;> omega
    have w3 : IntKind.i64.wrap ((k : Int) + 1) = ((k + 1 : Nat) : Int) := by rw [wrap_id] <;> omega
    simp (maxSteps := 1000000) only [f1, f2, w2, w3, EA, EB, EC, ED, EE, EF, EG, EH, XA, XB, XC, XD, XE, XF, XG, XH, XI, XJ, XK, XL, XM, reduceIte, ↓reduceIte, Nat.reduceAdd, Nat.reduceLeDiff, Nat.reduceEqDiff, Nat.reduceLT, Nat.reduceSub, Nat.reduceBEq, forall_const, reduceCtorEq, implies_true, exists_eq_left', exists_eq_left, if_true, if_false, undef]
    exact ⟨k + 1, by omega, by omega, by simp [Back, BackF, fzT, fzM, fzU, fz, fzL, fzO, kin, SubT, Sub, SubL, SubM, SubO, keepM, srcOk, look, lookM, ev, evs, putT, argT, EA, EB, EC, ED, EE, EF, EG, EH, XA, XB, XC, XD, XE, XF, XG, XH, XI, XJ, XK, XL, XM, reduceIte, ↓reduceIte, Nat.reduceAdd, Nat.reduceLeDiff, Nat.reduceEqDiff, Nat.reduceLT, Nat.reduceSub, Nat.reduceBEq, forall_const, reduceCtorEq, implies_true, exists_eq_left', exists_eq_left, if_true, if_false, undef]⟩
  · have z1 : (((4 : Nat) : Int) == 1) = false := by decide
    have z2 : (((4 : Nat) : Int) == 2) = false := by decide
    have z3 : (((4 : Nat) : Int) == 3) = false := by decide
    have z4 : (((4 : Nat) : Int) == 4) = true := by decide
    have w1 : IntKind.i64.wrap ((n : Int) + 1) = ((n + 1 : Nat) : Int) := by rw [wrap_id] <;> omega
    by_cases hn0 : n = 0
    · subst hn0
      have g1 : decide (((0 : Nat) : Int) > 0) = false := by decide
      have g2 : decide ((13 : Int) > 1000) = false := by decide
      have hA : refA 4 0 = 13 := rfl
      simp (maxSteps := 1000000) only [z1, z2, z3, z4, w1, g1, g2, hA, EA, EB, EC, ED, EE, EF, EG, EH, XA, XB, XC, XD, XE, XF, XG, XH, XI, XJ, XK, XL, XM, reduceIte, ↓reduceIte, Nat.reduceAdd, Nat.reduceLeDiff, Nat.reduceEqDiff, Nat.reduceLT, Nat.reduceSub, Nat.reduceBEq, forall_const, reduceCtorEq, implies_true, exists_eq_left', exists_eq_left, if_true, if_false, undef]
    · have g1 : decide ((n : Int) > 0) = true := by simp; omega
      have g2 : decide ((1001 : Int) > 1000) = true := by decide
      have hA : refA 4 n = -1 := by simp [refA, hn0]
      simp (maxSteps := 1000000) only [z1, z2, z3, z4, w1, g1, g2, hA, EA, EB, EC, ED, EE, EF, EG, EH, XA, XB, XC, XD, XE, XF, XG, XH, XI, XJ, XK, XL, XM, reduceIte, ↓reduceIte, Nat.reduceAdd, Nat.reduceLeDiff, Nat.reduceEqDiff, Nat.reduceLT, Nat.reduceSub, Nat.reduceBEq, forall_const, reduceCtorEq, implies_true, exists_eq_left', exists_eq_left, if_true, if_false, undef]

end Go.Av
