/- For any number of counters, instructions, initial values and turns: no counter falls below zero, and their sum moves by at most one each turn; for all arguments. -/
import Derived.Test.YtkoenncepcmljaaCountR
import Derived.Test.YtkoenncepcmljaaRows
import Derived.ProofKit
set_option linter.unusedSimpArgs false
set_option linter.unusedVariables false
set_option maxRecDepth 100000
namespace Go.Av
open Go.Proofs

theorem crun_live {l : List Ord} {s : CS} : ∀ {N}, (crun l s N).2 < l.length → cdone l s N = N
  | 0, _ => rfl
  | N + 1, h => by
    simp only [crun] at h
    simp only [cdone]
    split at h
    · rename_i h1; rw [if_pos h1, crun_live h1]
    · rename_i h1; exact (h1 h).elim

theorem sum_set {c : List Int} {i : Nat} {v x : Int} (h : c[i]? = some x) : (c.set i v).sum = c.sum + v - x := by
  induction c generalizing i with
  | nil => simp at h
  | cons y c ih =>
    cases i with
    | zero => simp at h; subst h; simp; omega
    | succ i =>
      simp at h
      simp only [List.set_cons_succ, List.sum_cons, ih h]; omega

theorem sum_take {c : List Int} {k : Nat} (h : k < c.length) : (c.take (k + 1)).sum = (c.take k).sum + c[k] := by
  rw [List.take_add_one, List.getElem?_eq_getElem h, List.sum_append]; simp

theorem sum_bound {c : List Int} {top : Int} (h : ∀ x ∈ c, 0 ≤ x ∧ x ≤ top) : 0 ≤ c.sum ∧ c.sum ≤ c.length * top := by
  induction c with
  | nil => simp
  | cons x c ih =>
    have h1 := h x (by simp)
    have h2 := ih (fun y hy => h y (by simp [hy]))
    simp only [List.sum_cons, List.length_cons]
    have : ((c.length + 1 : Nat) : Int) * top = c.length * top + top := by rw [Int.natCast_add, Int.add_mul]; simp
    omega

theorem cstep_sum {n : Nat} {l : List Ord} (ho : ∀ o ∈ l, OrdOk n l.length o) {top : Int} {s : CS} (h : CSOk n l.length top s) (hl : s.2 < l.length) :
    (cstep l s).1.sum ≤ s.1.sum + 1 ∧ s.1.sum - 1 ≤ (cstep l s).1.sum := by
  have hoo := ordAt_ok ho h.at0 hl
  have hb := hoo.counter
  have hcx : s.1[(ordAt l s.2).counter.toNat]? = some (cAt s.1 (ordAt l s.2).counter) := by
    have := h.len
    rw [cAt, List.getElem?_eq_getElem (by omega)]; rfl
  unfold cstep
  split
  · simp only [sum_set hcx]; omega
  · split
    · simp only [sum_set hcx]; omega
    · simp only []; omega

theorem crun_sum {n : Nat} {l : List Ord} (ho : ∀ o ∈ l, OrdOk n l.length o) {top : Int} {s : CS} (h : CSOk n l.length top s) (ht : 0 ≤ top) : ∀ k : Nat,
    (crun l s k).1.sum ≤ s.1.sum + cdone l s k ∧ s.1.sum - cdone l s k ≤ (crun l s k).1.sum
  | 0 => by simp [crun, cdone]
  | k + 1 => by
    have ih := crun_sum ho h ht k
    simp only [crun, cdone]
    split
    · rename_i hl
      have := cstep_sum ho (crun_ok ho h ht k) hl
      omega
    · exact ih

theorem countedK_spec (counters turns : Int) (l : List Ord) (c : List Int) (hl : (l.length : Int) < 2 ^ 63) (hc : (c.length : Int) < 2 ^ 63) :
    CallsA Try.prog 25 [I counters, .ro 4 (l.map encO), .ro 1 (c.map I), I turns] (Bo (decide (cntErr counters l c turns = 0))) [] := by
  refine fn_of0 comp25 (by simp) ?_
  unfold code25
  simp (maxSteps := 1000000) only [encO, EA, EB, EC, ED, EE, EF, EG, XA, XB, XC, XD, XE, XF, XG, XH, XI, XJ, reduceIte, ↓reduceIte, Nat.reduceAdd, Nat.reduceLeDiff, Nat.reduceEqDiff, Nat.reduceLT, Nat.reduceSub, Nat.reduceBEq, forall_const, reduceCtorEq, implies_true, exists_eq_left', exists_eq_left, if_true, if_false, undef]
  refine callF (CallsA.args (countCheck_spec counters l hl) (by simp [encO, EA, EB, EC, ED, EE, EF, EG, XA, XB, XC, XD, XE, XF, XG, XH, XI, XJ, reduceIte, ↓reduceIte, Nat.reduceAdd, Nat.reduceLeDiff, Nat.reduceEqDiff, Nat.reduceLT, Nat.reduceSub, Nat.reduceBEq, forall_const, reduceCtorEq, implies_true, exists_eq_left', exists_eq_left, if_true, if_false, undef])) rfl (by simp [flat, encO, EA, EB, EC, ED, EE, EF, EG, XA, XB, XC, XD, XE, XF, XG, XH, XI, XJ, reduceIte, ↓reduceIte, Nat.reduceAdd, Nat.reduceLeDiff, Nat.reduceEqDiff, Nat.reduceLT, Nat.reduceSub, Nat.reduceBEq, forall_const, reduceCtorEq, implies_true, exists_eq_left', exists_eq_left, if_true, if_false, undef]) ?_
  simp (maxSteps := 1000000) only [encO, EA, EB, EC, ED, EE, EF, EG, XA, XB, XC, XD, XE, XF, XG, XH, XI, XJ, reduceIte, ↓reduceIte, Nat.reduceAdd, Nat.reduceLeDiff, Nat.reduceEqDiff, Nat.reduceLT, Nat.reduceSub, Nat.reduceBEq, forall_const, reduceCtorEq, implies_true, exists_eq_left', exists_eq_left, if_true, if_false, undef]
  by_cases h1 : countErr counters l = 0
  · have e1 : (countErr counters l == 0) = true := by simp [h1]
    simp (maxSteps := 1000000) only [e1, encO, EA, EB, EC, ED, EE, EF, EG, XA, XB, XC, XD, XE, XF, XG, XH, XI, XJ, reduceIte, ↓reduceIte, Nat.reduceAdd, Nat.reduceLeDiff, Nat.reduceEqDiff, Nat.reduceLT, Nat.reduceSub, Nat.reduceBEq, forall_const, reduceCtorEq, implies_true, exists_eq_left', exists_eq_left, if_true, if_false, undef]
    refine callF (CallsA.args (haveCheck_spec counters turns c hc) (by simp [encO, EA, EB, EC, ED, EE, EF, EG, XA, XB, XC, XD, XE, XF, XG, XH, XI, XJ, reduceIte, ↓reduceIte, Nat.reduceAdd, Nat.reduceLeDiff, Nat.reduceEqDiff, Nat.reduceLT, Nat.reduceSub, Nat.reduceBEq, forall_const, reduceCtorEq, implies_true, exists_eq_left', exists_eq_left, if_true, if_false, undef])) rfl (by simp [flat, encO, EA, EB, EC, ED, EE, EF, EG, XA, XB, XC, XD, XE, XF, XG, XH, XI, XJ, reduceIte, ↓reduceIte, Nat.reduceAdd, Nat.reduceLeDiff, Nat.reduceEqDiff, Nat.reduceLT, Nat.reduceSub, Nat.reduceBEq, forall_const, reduceCtorEq, implies_true, exists_eq_left', exists_eq_left, if_true, if_false, undef]) ?_
    simp (maxSteps := 1000000) only [encO, EA, EB, EC, ED, EE, EF, EG, XA, XB, XC, XD, XE, XF, XG, XH, XI, XJ, reduceIte, ↓reduceIte, Nat.reduceAdd, Nat.reduceLeDiff, Nat.reduceEqDiff, Nat.reduceLT, Nat.reduceSub, Nat.reduceBEq, forall_const, reduceCtorEq, implies_true, exists_eq_left', exists_eq_left, if_true, if_false, undef]
    simp [cntErr, h1]
    by_cases h2 : haveErr counters c turns = 0 <;> simp [h2]
  · have e1 : (countErr counters l == 0) = false := by simp [h1]
    simp (maxSteps := 1000000) only [e1, encO, EA, EB, EC, ED, EE, EF, EG, XA, XB, XC, XD, XE, XF, XG, XH, XI, XJ, reduceIte, ↓reduceIte, Nat.reduceAdd, Nat.reduceLeDiff, Nat.reduceEqDiff, Nat.reduceLT, Nat.reduceSub, Nat.reduceBEq, forall_const, reduceCtorEq, implies_true, exists_eq_left', exists_eq_left, if_true, if_false, undef]
    simp [cntErr, h1, encO, EA, EB, EC, ED, EE, EF, EG, XA, XB, XC, XD, XE, XF, XG, XH, XI, XJ, reduceIte, ↓reduceIte, Nat.reduceAdd, Nat.reduceLeDiff, Nat.reduceEqDiff, Nat.reduceLT, Nat.reduceSub, Nat.reduceBEq, forall_const, reduceCtorEq, implies_true, exists_eq_left', exists_eq_left, if_true, if_false, undef]

theorem countSum_spec (counters turns : Int) (l : List Ord) (c : List Int) (hl : (l.length : Int) < 2 ^ 63) (hc : (c.length : Int) < 2 ^ 63) :
    CallsA Try.prog 8 [I counters, .ro 4 (l.map encO), .ro 1 (c.map I), I turns] (Bo true) [] := by
  refine fn_of0 comp8 (by simp) ?_
  unfold code8
  simp (maxSteps := 1000000) only [encO, EA, EB, EC, ED, EE, EF, EG, XA, XB, XC, XD, XE, XF, XG, XH, XI, XJ, reduceIte, ↓reduceIte, Nat.reduceAdd, Nat.reduceLeDiff, Nat.reduceEqDiff, Nat.reduceLT, Nat.reduceSub, Nat.reduceBEq, forall_const, reduceCtorEq, implies_true, exists_eq_left', exists_eq_left, if_true, if_false, undef]
  refine callA (CallsA.args (run_spec counters turns l c hl hc) (by simp [encO, EA, EB, EC, ED, EE, EF, EG, XA, XB, XC, XD, XE, XF, XG, XH, XI, XJ, reduceIte, ↓reduceIte, Nat.reduceAdd, Nat.reduceLeDiff, Nat.reduceEqDiff, Nat.reduceLT, Nat.reduceSub, Nat.reduceBEq, forall_const, reduceCtorEq, implies_true, exists_eq_left', exists_eq_left, if_true, if_false, undef])) rfl ?_
  by_cases h : cntErr counters l c turns = 0
  · have ok := cnt_ok h
    have ht := ok.turns
    have hn := ok.n
    have hln := ok.len
    have hc0 := ok.c0.len
    simp only at hc0
    simp (maxSteps := 1000000) only [runAns, h, if_true, encO, EA, EB, EC, ED, EE, EF, EG, XA, XB, XC, XD, XE, XF, XG, XH, XI, XJ, reduceIte, ↓reduceIte, Nat.reduceAdd, Nat.reduceLeDiff, Nat.reduceEqDiff, Nat.reduceLT, Nat.reduceSub, Nat.reduceBEq, forall_const, reduceCtorEq, implies_true, exists_eq_left', exists_eq_left, if_true, if_false, undef]
    refine callF (CallsA.args (countedK_spec counters turns l c hl hc) (by simp [encO, EA, EB, EC, ED, EE, EF, EG, XA, XB, XC, XD, XE, XF, XG, XH, XI, XJ, reduceIte, ↓reduceIte, Nat.reduceAdd, Nat.reduceLeDiff, Nat.reduceEqDiff, Nat.reduceLT, Nat.reduceSub, Nat.reduceBEq, forall_const, reduceCtorEq, implies_true, exists_eq_left', exists_eq_left, if_true, if_false, undef])) rfl (by simp [flat, encO, EA, EB, EC, ED, EE, EF, EG, XA, XB, XC, XD, XE, XF, XG, XH, XI, XJ, reduceIte, ↓reduceIte, Nat.reduceAdd, Nat.reduceLeDiff, Nat.reduceEqDiff, Nat.reduceLT, Nat.reduceSub, Nat.reduceBEq, forall_const, reduceCtorEq, implies_true, exists_eq_left', exists_eq_left, if_true, if_false, undef]) ?_
    obtain ⟨N, rfl⟩ : ∃ N : Nat, turns = (N : Int) := ⟨turns.toNat, by omega⟩
    simp only [Int.toNat_natCast]
    have hs := crun_ok ok.ord ok.c0 (by omega) N
    have hsum := crun_sum ok.ord ok.c0 (by omega) N
    have hlive := crun_live (l := l) (s := (c, 0)) (N := N)
    have hdl := cdone_le l (c, 0) N
    have hlo := hs.lo
    have hslen := hs.len
    have hat0 := hs.at0
    have hat1 := hs.at1
    have hclo := ok.c0.lo
    simp only at hsum hclo
    generalize crun l (c, 0) N = s at *
    generalize cdone l (c, 0) N = d at *
    have e0 : ((0 : Int) != 0) = false := by decide
    have e1 : decide (cntErr counters l c N = 0) = true := by simp [h]
    have e2 : (((s.1.map I).length : Int) != counters) = false := by simp; omega
    have e3 : decide ((d : Int) < 0) = false := by simp
    have e4 : decide ((d : Int) > (N : Int)) = false := by simp; omega
    have e5 : decide (s.2 < 0) = false := by simp; omega
    have e6 : decide (s.2 > ((l.map encO).length : Int)) = false := by simp; omega
    simp (maxSteps := 1000000) only [e0, e1, e2, e3, e4, e5, e6, encO, EA, EB, EC, ED, EE, EF, EG, XA, XB, XC, XD, XE, XF, XG, XH, XI, XJ, reduceIte, ↓reduceIte, Nat.reduceAdd, Nat.reduceLeDiff, Nat.reduceEqDiff, Nat.reduceLT, Nat.reduceSub, Nat.reduceBEq, forall_const, reduceCtorEq, implies_true, exists_eq_left', exists_eq_left, if_true, if_false, undef]
    have hstop : (decide (s.2 < ((l.map encO).length : Int)) = true ∧ decide ((d : Int) < (N : Int)) = false) ∨ decide (s.2 < ((l.map encO).length : Int)) = false := by
      by_cases q : s.2 < (l.length : Int)
      · left; have := hlive q; simp; omega
      · right; simp; omega
    have hkb : ∀ k, 0 ≤ (s.1.take k).sum ∧ (s.1.take k).sum ≤ 1680 := fun k => by
      have := sum_bound (c := s.1.take k) (top := 420) (fun x hx => by have := hlo x (List.mem_of_mem_take hx); omega)
      have : (s.1.take k).length ≤ 4 := by simp; omega
      omega
    have hkc : ∀ k, 0 ≤ (c.take k).sum ∧ (c.take k).sum ≤ 80 := fun k => by
      have := sum_bound (c := c.take k) (top := 20) (fun x hx => hclo x (List.mem_of_mem_take hx))
      have : (c.take k).length ≤ 4 := by simp; omega
      omega
    have hwn : IntKind.i64.wrap (0 - (d : Int)) = -(d : Int) := by rw [wrap_id] <;> omega
    have hsl : (s.1.map I).length = s.1.length := by simp
    rcases hstop with ⟨q1, q2⟩ | q1
    · simp (maxSteps := 1000000) only [q1, q2, encO, EA, EB, EC, ED, EE, EF, EG, XA, XB, XC, XD, XE, XF, XG, XH, XI, XJ, reduceIte, ↓reduceIte, Nat.reduceAdd, Nat.reduceLeDiff, Nat.reduceEqDiff, Nat.reduceLT, Nat.reduceSub, Nat.reduceBEq, forall_const, reduceCtorEq, implies_true, exists_eq_left', exists_eq_left, if_true, if_false, undef]
      refine loop0 Nat [74, 13] (fun k => [I (k : Nat), I ((s.1.take k).sum - (c.take k).sum)]) (fun k => k ≤ s.1.length) (fun k => s.1.length - k) (by decide) 0 (by simp) (by simp [Back, SubT, Sub, SubL, SubM, SubO, keepM, srcOk, look, lookM, ev, evs, putT, argT, encO, EA, EB, EC, ED, EE, EF, EG, XA, XB, XC, XD, XE, XF, XG, XH, XI, XJ, reduceIte, ↓reduceIte, Nat.reduceAdd, Nat.reduceLeDiff, Nat.reduceEqDiff, Nat.reduceLT, Nat.reduceSub, Nat.reduceBEq, forall_const, reduceCtorEq, implies_true, exists_eq_left', exists_eq_left, if_true, if_false, undef]) (fun k hk => ?_)
      simp (maxSteps := 1000000) only [encO, EA, EB, EC, ED, EE, EF, EG, XA, XB, XC, XD, XE, XF, XG, XH, XI, XJ, reduceIte, ↓reduceIte, Nat.reduceAdd, Nat.reduceLeDiff, Nat.reduceEqDiff, Nat.reduceLT, Nat.reduceSub, Nat.reduceBEq, forall_const, reduceCtorEq, implies_true, exists_eq_left', exists_eq_left, if_true, if_false, undef]
      refine ⟨fun hh => ?_, fun hh => ?_⟩ <;> try simp (maxSteps := 1000000) only [encO, EA, EB, EC, ED, EE, EF, EG, XA, XB, XC, XD, XE, XF, XG, XH, XI, XJ, reduceIte, ↓reduceIte, Nat.reduceAdd, Nat.reduceLeDiff, Nat.reduceEqDiff, Nat.reduceLT, Nat.reduceSub, Nat.reduceBEq, forall_const, reduceCtorEq, implies_true, exists_eq_left', exists_eq_left, if_true, if_false, undef]
      · refine ⟨by omega, ?_⟩
        simp only [decide_eq_true_eq, List.length_map, Int.ofNat_lt] at hh
        have hkx : k < c.length := by omega
        have hw : IntKind.i64.wrap ((k : Int) + 1) = ((k + 1 : Nat) : Int) := by rw [wrap_id] <;> omega
        have hx := hlo s.1[k] (List.getElem_mem hh)
        have hy := hclo c[k] (List.getElem_mem hkx)
        have b1 := hkb k
        have b2 := hkc k
        refine pickM hh ?_
        have g1 : decide (s.1[k] < 0) = false := by simp; omega
        have hw1 : IntKind.i64.wrap ((s.1.take k).sum - (c.take k).sum + s.1[k]) = (s.1.take k).sum - (c.take k).sum + s.1[k] := by rw [wrap_id] <;> omega
        have hw2 : IntKind.i64.wrap ((s.1.take k).sum - (c.take k).sum + s.1[k] - c[k]) = (s.1.take k).sum - (c.take k).sum + s.1[k] - c[k] := by rw [wrap_id] <;> omega
        simp (maxSteps := 1000000) only [g1, hw1, encO, EA, EB, EC, ED, EE, EF, EG, XA, XB, XC, XD, XE, XF, XG, XH, XI, XJ, reduceIte, ↓reduceIte, Nat.reduceAdd, Nat.reduceLeDiff, Nat.reduceEqDiff, Nat.reduceLT, Nat.reduceSub, Nat.reduceBEq, forall_const, reduceCtorEq, implies_true, exists_eq_left', exists_eq_left, if_true, if_false, undef]
        refine ⟨by omega, pickM hkx ?_⟩
        simp (maxSteps := 1000000) only [hw, hw2, encO, EA, EB, EC, ED, EE, EF, EG, XA, XB, XC, XD, XE, XF, XG, XH, XI, XJ, reduceIte, ↓reduceIte, Nat.reduceAdd, Nat.reduceLeDiff, Nat.reduceEqDiff, Nat.reduceLT, Nat.reduceSub, Nat.reduceBEq, forall_const, reduceCtorEq, implies_true, exists_eq_left', exists_eq_left, if_true, if_false, undef]
        refine ⟨k + 1, by omega, by omega, ?_⟩
        rw [sum_take hh, sum_take hkx]
        have : (s.1.take k).sum + s.1[k] - ((c.take k).sum + c[k]) = (s.1.take k).sum - (c.take k).sum + s.1[k] - c[k] := by omega
        simp [Back, SubT, Sub, SubL, SubM, SubO, keepM, srcOk, look, lookM, ev, evs, putT, argT, encO, EA, EB, EC, ED, EE, EF, EG, XA, XB, XC, XD, XE, XF, XG, XH, XI, XJ, reduceIte, ↓reduceIte, Nat.reduceAdd, Nat.reduceLeDiff, Nat.reduceEqDiff, Nat.reduceLT, Nat.reduceSub, Nat.reduceBEq, forall_const, reduceCtorEq, implies_true, exists_eq_left', exists_eq_left, if_true, if_false, undef, this]
      · simp only [decide_eq_false_iff_not, List.length_map, Int.ofNat_lt] at hh
        have : k = s.1.length := by omega
        subst this
        have e7 : s.1.take s.1.length = s.1 := List.take_length
        have e8 : c.take s.1.length = c := List.take_of_length_le (by omega)
        have e9 : decide (s.1.sum - c.sum ≤ (d : Int)) = true := by simp; omega
        have e10 : decide (s.1.sum - c.sum ≥ -(d : Int)) = true := by simp; omega
        simp (maxSteps := 1000000) only [e7, e8, e9, e10, hwn, encO, EA, EB, EC, ED, EE, EF, EG, XA, XB, XC, XD, XE, XF, XG, XH, XI, XJ, reduceIte, ↓reduceIte, Nat.reduceAdd, Nat.reduceLeDiff, Nat.reduceEqDiff, Nat.reduceLT, Nat.reduceSub, Nat.reduceBEq, forall_const, reduceCtorEq, implies_true, exists_eq_left', exists_eq_left, if_true, if_false, undef]
    · simp (maxSteps := 1000000) only [q1, encO, EA, EB, EC, ED, EE, EF, EG, XA, XB, XC, XD, XE, XF, XG, XH, XI, XJ, reduceIte, ↓reduceIte, Nat.reduceAdd, Nat.reduceLeDiff, Nat.reduceEqDiff, Nat.reduceLT, Nat.reduceSub, Nat.reduceBEq, forall_const, reduceCtorEq, implies_true, exists_eq_left', exists_eq_left, if_true, if_false, undef]
      refine loop0 Nat [74, 13] (fun k => [I (k : Nat), I ((s.1.take k).sum - (c.take k).sum)]) (fun k => k ≤ s.1.length) (fun k => s.1.length - k) (by decide) 0 (by simp) (by simp [Back, SubT, Sub, SubL, SubM, SubO, keepM, srcOk, look, lookM, ev, evs, putT, argT, encO, EA, EB, EC, ED, EE, EF, EG, XA, XB, XC, XD, XE, XF, XG, XH, XI, XJ, reduceIte, ↓reduceIte, Nat.reduceAdd, Nat.reduceLeDiff, Nat.reduceEqDiff, Nat.reduceLT, Nat.reduceSub, Nat.reduceBEq, forall_const, reduceCtorEq, implies_true, exists_eq_left', exists_eq_left, if_true, if_false, undef]) (fun k hk => ?_)
      simp (maxSteps := 1000000) only [encO, EA, EB, EC, ED, EE, EF, EG, XA, XB, XC, XD, XE, XF, XG, XH, XI, XJ, reduceIte, ↓reduceIte, Nat.reduceAdd, Nat.reduceLeDiff, Nat.reduceEqDiff, Nat.reduceLT, Nat.reduceSub, Nat.reduceBEq, forall_const, reduceCtorEq, implies_true, exists_eq_left', exists_eq_left, if_true, if_false, undef]
      refine ⟨fun hh => ?_, fun hh => ?_⟩ <;> try simp (maxSteps := 1000000) only [encO, EA, EB, EC, ED, EE, EF, EG, XA, XB, XC, XD, XE, XF, XG, XH, XI, XJ, reduceIte, ↓reduceIte, Nat.reduceAdd, Nat.reduceLeDiff, Nat.reduceEqDiff, Nat.reduceLT, Nat.reduceSub, Nat.reduceBEq, forall_const, reduceCtorEq, implies_true, exists_eq_left', exists_eq_left, if_true, if_false, undef]
      · refine ⟨by omega, ?_⟩
        simp only [decide_eq_true_eq, List.length_map, Int.ofNat_lt] at hh
        have hkx : k < c.length := by omega
        have hw : IntKind.i64.wrap ((k : Int) + 1) = ((k + 1 : Nat) : Int) := by rw [wrap_id] <;> omega
        have hx := hlo s.1[k] (List.getElem_mem hh)
        have hy := hclo c[k] (List.getElem_mem hkx)
        have b1 := hkb k
        have b2 := hkc k
        refine pickM hh ?_
        have g1 : decide (s.1[k] < 0) = false := by simp; omega
        have hw1 : IntKind.i64.wrap ((s.1.take k).sum - (c.take k).sum + s.1[k]) = (s.1.take k).sum - (c.take k).sum + s.1[k] := by rw [wrap_id] <;> omega
        have hw2 : IntKind.i64.wrap ((s.1.take k).sum - (c.take k).sum + s.1[k] - c[k]) = (s.1.take k).sum - (c.take k).sum + s.1[k] - c[k] := by rw [wrap_id] <;> omega
        simp (maxSteps := 1000000) only [g1, hw1, encO, EA, EB, EC, ED, EE, EF, EG, XA, XB, XC, XD, XE, XF, XG, XH, XI, XJ, reduceIte, ↓reduceIte, Nat.reduceAdd, Nat.reduceLeDiff, Nat.reduceEqDiff, Nat.reduceLT, Nat.reduceSub, Nat.reduceBEq, forall_const, reduceCtorEq, implies_true, exists_eq_left', exists_eq_left, if_true, if_false, undef]
        refine ⟨by omega, pickM hkx ?_⟩
        simp (maxSteps := 1000000) only [hw, hw2, encO, EA, EB, EC, ED, EE, EF, EG, XA, XB, XC, XD, XE, XF, XG, XH, XI, XJ, reduceIte, ↓reduceIte, Nat.reduceAdd, Nat.reduceLeDiff, Nat.reduceEqDiff, Nat.reduceLT, Nat.reduceSub, Nat.reduceBEq, forall_const, reduceCtorEq, implies_true, exists_eq_left', exists_eq_left, if_true, if_false, undef]
        refine ⟨k + 1, by omega, by omega, ?_⟩
        rw [sum_take hh, sum_take hkx]
        have : (s.1.take k).sum + s.1[k] - ((c.take k).sum + c[k]) = (s.1.take k).sum - (c.take k).sum + s.1[k] - c[k] := by omega
        simp [Back, SubT, Sub, SubL, SubM, SubO, keepM, srcOk, look, lookM, ev, evs, putT, argT, encO, EA, EB, EC, ED, EE, EF, EG, XA, XB, XC, XD, XE, XF, XG, XH, XI, XJ, reduceIte, ↓reduceIte, Nat.reduceAdd, Nat.reduceLeDiff, Nat.reduceEqDiff, Nat.reduceLT, Nat.reduceSub, Nat.reduceBEq, forall_const, reduceCtorEq, implies_true, exists_eq_left', exists_eq_left, if_true, if_false, undef, this]
      · simp only [decide_eq_false_iff_not, List.length_map, Int.ofNat_lt] at hh
        have : k = s.1.length := by omega
        subst this
        have e7 : s.1.take s.1.length = s.1 := List.take_length
        have e8 : c.take s.1.length = c := List.take_of_length_le (by omega)
        have e9 : decide (s.1.sum - c.sum ≤ (d : Int)) = true := by simp; omega
        have e10 : decide (s.1.sum - c.sum ≥ -(d : Int)) = true := by simp; omega
        simp (maxSteps := 1000000) only [e7, e8, e9, e10, hwn, encO, EA, EB, EC, ED, EE, EF, EG, XA, XB, XC, XD, XE, XF, XG, XH, XI, XJ, reduceIte, ↓reduceIte, Nat.reduceAdd, Nat.reduceLeDiff, Nat.reduceEqDiff, Nat.reduceLT, Nat.reduceSub, Nat.reduceBEq, forall_const, reduceCtorEq, implies_true, exists_eq_left', exists_eq_left, if_true, if_false, undef]
  · simp (maxSteps := 1000000) only [runAns, h, if_false, encO, EA, EB, EC, ED, EE, EF, EG, XA, XB, XC, XD, XE, XF, XG, XH, XI, XJ, reduceIte, ↓reduceIte, Nat.reduceAdd, Nat.reduceLeDiff, Nat.reduceEqDiff, Nat.reduceLT, Nat.reduceSub, Nat.reduceBEq, forall_const, reduceCtorEq, implies_true, exists_eq_left', exists_eq_left, if_true, if_false, undef]
    refine callF (CallsA.args (countedK_spec counters turns l c hl hc) (by simp [encO, EA, EB, EC, ED, EE, EF, EG, XA, XB, XC, XD, XE, XF, XG, XH, XI, XJ, reduceIte, ↓reduceIte, Nat.reduceAdd, Nat.reduceLeDiff, Nat.reduceEqDiff, Nat.reduceLT, Nat.reduceSub, Nat.reduceBEq, forall_const, reduceCtorEq, implies_true, exists_eq_left', exists_eq_left, if_true, if_false, undef])) rfl (by simp [flat, encO, EA, EB, EC, ED, EE, EF, EG, XA, XB, XC, XD, XE, XF, XG, XH, XI, XJ, reduceIte, ↓reduceIte, Nat.reduceAdd, Nat.reduceLeDiff, Nat.reduceEqDiff, Nat.reduceLT, Nat.reduceSub, Nat.reduceBEq, forall_const, reduceCtorEq, implies_true, exists_eq_left', exists_eq_left, if_true, if_false, undef]) ?_
    have e1 : decide (cntErr counters l c turns = 0) = false := by simp [h]
    have e2 : (cntErr counters l c turns != 0) = true := by simp [h]
    simp (maxSteps := 1000000) only [e1, e2, encO, EA, EB, EC, ED, EE, EF, EG, XA, XB, XC, XD, XE, XF, XG, XH, XI, XJ, reduceIte, ↓reduceIte, Nat.reduceAdd, Nat.reduceLeDiff, Nat.reduceEqDiff, Nat.reduceLT, Nat.reduceSub, Nat.reduceBEq, forall_const, reduceCtorEq, implies_true, exists_eq_left', exists_eq_left, if_true, if_false, undef]

def sh_CountSum : List Sh := [.int .i64, shOrds, .slice 1 (.int .i64), .int .i64]
theorem law_CountSum (xs : List AV) (h : HasAll sh_CountSum xs) : CallsA Try.prog 8 xs (.v (.bool true)) [] := by
  obtain ⟨x, r, rfl, hx, y, r, rfl, hy, z, r, rfl, hz, u, r, rfl, hu, rfl⟩ := h
  obtain ⟨c, rfl, _⟩ := hasInt hx
  obtain ⟨l, rfl, hl⟩ := hasOrds hy
  obtain ⟨q, rfl, hq⟩ := hasInts hz
  obtain ⟨t, rfl, _⟩ := hasInt hu
  exact countSum_spec c t l q hl hq

end Go.Av
namespace Go.Proofs.Ytkoenncepcmljaa
open Go.ChangeShapes Go.WideShapes Go.ChangeAt Go.RowKit
open Go.Av (open_all shut_all OldS HasAll Sh CallsA shAll)

theorem own : ownKnob Try.prog.godebug = none := by kernel_rfl
theorem laidOut : laidOutB Try.prog = true := by kernel_rfl
theorem shs_eq : shAll Try.prog 12 Try.f8.params.toList = some Go.Av.sh_CountSum := by kernel_rfl
theorem readable : (Try.f8.params.toList.all fun t => Try.prog.readableRec t && decide (t < Try.prog.types.size)) = true := by kernel_rfl

theorem lifted (os : Os) (started : os.Started) (H : Type) (enc : TypeId × Value → H) :
    ReturnsInHanded {} Try.checked os 8 .any (Rows.countSumSpec.pre6 enc Try.prog Try.f8 Rows.countSumRow.domain false) (Rows.countSumSpec.post enc Try.prog Try.f8 false true false false) := by
  refine returnsInHanded_of_change (C := Try.checked) own started (by kernel_rfl) Try.func8
    (ChangeSpec.witness6 (enc := enc) (C := Try.checked) false ⟨#[], #[.int .i64 0, .slice none 0 0, .slice none 0 0, .int .i64 0], []⟩ 8 (by kernel_rfl) (by kernel_rfl) (by kernel_rfl) (by kernel_rfl)) ?_
  intro W base args ds gs before hval0 hW hcnd _
  have hval : ∀ (j : Nat) t v, Try.f8.params[j]? = some t → args[j]? = some v → Value.okWide Try.prog W .any base t v := hval0
  have hW' := hW
  obtain ⟨p, q, hA0, hV, rfl, hfz, hnd⟩ := hW
  have hA : DataW.TrodAll enc Try.prog W 0 (fun _ => true) true Try.f8.params.toList args.toList ds p := hA0
  obtain ⟨xs, hxs, hlen, hR⟩ := open_all (g := 12) _ _ _ _ Go.Av.sh_CountSum hA (fun j t v ht hv => hval j t v (by simpa using ht) (by simpa using hv)) shs_eq
  obtain ⟨rfl, rfl⟩ := trodVars_none hV
  have hB := hA
  rw [Try.params8] at hB
  obtain ⟨v0, vs0, d0, ds0, p0, q0, hargs0, rfl, rfl, h0, r0⟩ := trodAll_cons hB
  obtain ⟨v1, vs1, d1, ds1, p1, q1, hargs1, rfl, rfl, h1, r1⟩ := trodAll_cons r0
  obtain ⟨v2, vs2, d2, ds2, p2, q2, hargs2, rfl, rfl, h2, r2⟩ := trodAll_cons r1
  obtain ⟨v3, vs3, d3, ds3, p3, q3, hargs3, rfl, rfl, h3, r3⟩ := trodAll_cons r2
  obtain ⟨rfl, rfl, rfl⟩ := trodAll_nil r3
  refine ((Go.Av.law_CountSum xs hxs).2 W (OldS W) args (fun _ h => h) (by simpa using hlen) (fun i x y h1 h2 => hR i x y h1 (by simpa using h2))).mono ?_
  rintro e W' ⟨v, S', κ', rfl, hv, _, _, _, bel⟩
  rw [hv.v_inv]
  exact ⟨_, rfl, _, _, _, [], _, [], hW', trodAll_mk1 (shut_bool Try.underlying4 _), shut_all laidOut bel _ _ _ _ (fun t ht => by
    have := (List.all_eq_true.1 readable) t ht
    simpa using this) hA, rfl, bel.frame _, fun h => by cases h⟩

theorem countSum_holds : Rows.CountSumSaid :=
  OpenClaim.holds_of_wide 8 Try.f8 rfl rfl rfl rfl rfl rfl rfl ⟨rfl, rfl, rfl, rfl, rfl⟩ rfl rfl rfl rfl rfl (by kernel_rfl) Try.func8 (by kernel_rfl)
    (of_decide_eq_true (by kernel_rfl)) (by unfold Func.isWrapper; first | (rw [if_pos (by decide +kernel)]; kernel_rfl) | (rw [if_neg (by decide +kernel)]; exact ⟨rfl, rfl⟩))
    (fun os started H enc _ => lifted os started H enc)

end Go.Proofs.Ytkoenncepcmljaa
