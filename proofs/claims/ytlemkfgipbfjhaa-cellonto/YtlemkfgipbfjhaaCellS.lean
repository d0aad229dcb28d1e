/- Cells: the program's rules, bits, a step of a ring, and how many words are ahead. -/
import Derived.Test.YtlemkfgipbfjhaaCellA
set_option linter.unusedSimpArgs false
set_option linter.unusedVariables false
set_option maxRecDepth 100000
namespace Go.Av
open Go.Proofs

def ruleOk (r : Int) : Bool := decide (0 ≤ r) && decide (r ≤ 255)

theorem isRule_spec (r : Int) : CallsA Try.prog 23 [I r] (Bo (ruleOk r)) [] := by
  refine fn_of0 comp23 (by simp) ?_
  unfold code23
  have e : decide (r ≥ 0) = decide (0 ≤ r) := rfl
  by_cases h : 0 ≤ r
  · have e1 : decide (r ≥ 0) = true := by simp; exact h
    have e2 : ruleOk r = decide (r ≤ 255) := by simp [ruleOk, h]
    simp (maxSteps := 1000000) only [e1, e2, EA, EB, EC, ED, EE, EF, EG, EH, XA, XB, XC, XD, XE, XF, XG, XH, XI, XJ, XK, XL, XM, reduceIte, ↓reduceIte, Nat.reduceAdd, Nat.reduceLeDiff, Nat.reduceEqDiff, Nat.reduceLT, Nat.reduceSub, Nat.reduceBEq, forall_const, reduceCtorEq, implies_true, exists_eq_left', exists_eq_left, if_true, if_false, undef]
  · have e1 : decide (r ≥ 0) = false := by simp; omega
    have e2 : ruleOk r = false := by simp [ruleOk, h]
    simp (maxSteps := 1000000) only [e1, e2, EA, EB, EC, ED, EE, EF, EG, EH, XA, XB, XC, XD, XE, XF, XG, XH, XI, XJ, XK, XL, XM, reduceIte, ↓reduceIte, Nat.reduceAdd, Nat.reduceLeDiff, Nat.reduceEqDiff, Nat.reduceLT, Nat.reduceSub, Nat.reduceBEq, forall_const, reduceCtorEq, implies_true, exists_eq_left', exists_eq_left, if_true, if_false, undef]

theorem bitP_spec (b : Bool) : CallsA Try.prog 25 [Bo b] (I (b.toNat : Nat)) [] := by
  refine fn_of0 comp25 (by simp) ?_
  unfold code25
  cases b <;> simp (maxSteps := 1000000) [EA, EB, EC, ED, EE, EF, EG, EH, XA, XB, XC, XD, XE, XF, XG, XH, XI, XJ, XK, XL, XM, reduceIte, ↓reduceIte, Nat.reduceAdd, Nat.reduceLeDiff, Nat.reduceEqDiff, Nat.reduceLT, Nat.reduceSub, Nat.reduceBEq, forall_const, reduceCtorEq, implies_true, exists_eq_left', exists_eq_left, if_true, if_false, undef]

theorem becomes_spec (rule nb : Nat) (hr : rule < 256) (hn : nb < 8) : CallsA Try.prog 24 [I rule, I nb] (Bo (rule.testBit nb)) [] := by
  refine fn_of0 comp24 (by simp) ?_
  unfold code24
  have hb : IntKind.i64.bits = 64 := rfl
  have e1 : Int.fdiv (rule : Int) (2 ^ min ((nb : Int)).toNat IntKind.i64.bits) = ((rule / 2 ^ nb : Nat) : Int) := by
    rw [hb, Int.toNat_natCast, Nat.min_eq_left (by omega), show (2 : Int) ^ nb = ((2 ^ nb : Nat) : Int) by simp, Int.fdiv_eq_ediv_of_nonneg _ (Int.natCast_nonneg _)]
    rfl
  have hle : rule / 2 ^ nb ≤ rule := Nat.div_le_self _ _
  have e2 := and_bit (w := rule / 2 ^ nb) (i := 0) (by omega) (by omega)
  have e3 : (((rule / 2 ^ nb &&& 2 ^ 0 : Nat) : Int) == 1) = rule.testBit nb := by
    rw [show (2 : Nat) ^ 0 = 1 from rfl, Nat.and_one_is_mod, Nat.testBit_eq_decide_div_mod_eq]
    generalize rule / 2 ^ nb = y
    rcases Nat.mod_two_eq_zero_or_one y with h | h <;> rw [h] <;> rfl
  rw [show ((2 ^ 0 : Nat) : Int) = 1 from rfl] at e2
  simp (maxSteps := 1000000) only [e1, e2, e3, EA, EB, EC, ED, EE, EF, EG, EH, XA, XB, XC, XD, XE, XF, XG, XH, XI, XJ, XK, XL, XM, reduceIte, ↓reduceIte, Nat.reduceAdd, Nat.reduceLeDiff, Nat.reduceEqDiff, Nat.reduceLT, Nat.reduceSub, Nat.reduceBEq, forall_const, reduceCtorEq, implies_true, exists_eq_left', exists_eq_left, if_true, if_false, undef]
  omega

def exF (rule : Nat) (x : Bool) (cs : List Nat) : Nat → List Nat
  | 0 => [0, 0, 0, 0]
  | k + 1 => if rule.testBit k = x then (exF rule x cs k).set (k % 4) ((exF rule x cs k).getD (k % 4) 0 + cs.getD (k / 2) 0) else exF rule x cs k

theorem exF_len (rule : Nat) (x : Bool) (cs : List Nat) : ∀ k, (exF rule x cs k).length = 4
  | 0 => rfl
  | k + 1 => by
    simp only [exF]
    split
    · rw [List.length_set, exF_len rule x cs k]
    · exact exF_len rule x cs k

theorem getD_le {l : List Nat} {B i : Nat} (h : ∀ v ∈ l, v ≤ B) : l.getD i 0 ≤ B := by
  rw [List.getD_eq_getElem?_getD]
  by_cases hi : i < l.length
  · rw [List.getElem?_eq_getElem hi]; exact h _ (List.getElem_mem hi)
  · rw [List.getElem?_eq_none (by omega)]; simp

theorem exF_le (rule : Nat) (x : Bool) (cs : List Nat) (B : Nat) (h : ∀ v ∈ cs, v ≤ B) : ∀ k, ∀ v ∈ exF rule x cs k, v ≤ k * B
  | 0 => by simp [exF]
  | k + 1 => by
    have ih := exF_le rule x cs B h k
    rw [Nat.succ_mul]
    intro v hv
    simp only [exF] at hv
    split at hv
    · rcases List.mem_or_eq_of_mem_set hv with hv | rfl
      · have := ih v hv; omega
      · have h1 : (exF rule x cs k).getD (k % 4) 0 ≤ k * B := getD_le ih
        have h2 : cs.getD (k / 2) 0 ≤ B := getD_le h
        omega
    · have := ih v hv; omega

theorem four {α : Type} {l : List α} (h : l.length = 4) : ∃ a b c d, l = [a, b, c, d] := by
  match l, h with
  | [a, b, c, d], _ => exact ⟨a, b, c, d, rfl⟩

def N4 (l : List Nat) : List AV := l.map fun v : Nat => I (v : Int)

theorem wrap_add {a b : Nat} (h : a + b < 2 ^ 62) : IntKind.i64.wrap ((a : Int) + (b : Int)) = ((a + b : Nat) : Int) := by rw [wrap_id] <;> omega

theorem N4_get {E : List Nat} {i : Nat} (hl : E.length = 4) (h : i < 4) : (N4 E)[i]? = some (I ((E.getD i 0 : Nat) : Int)) := by
  rw [N4, List.getElem?_map, List.getD_eq_getElem?_getD, List.getElem?_eq_getElem (by omega)]; rfl
theorem SubL_N4 (n : Nat) (rho : List (Option Nat)) (l : List Nat) : SubL n rho (N4 l) (N4 l) := by
  induction l with
  | nil => simp [N4, SubL]
  | cons a l ih => simp only [N4, List.map_cons, SubL] at ih ⊢; exact ⟨by simp [Sub, I], ih⟩
theorem splice_set : ∀ (l : List AV) (i : Nat) (v : AV), splice l i [v] = l.set i v
  | [], _, _ => by simp [splice]
  | c :: l, 0, v => by simp only [splice, List.set_cons_zero]; cases l <;> simp [splice]
  | c :: l, i + 1, v => by simp only [splice, List.set_cons_succ, splice_set l i v]

theorem extend_spec (rule : Nat) (hr : rule < 256) (x : Bool) (a b c d : Nat) (hB : a ≤ 2 ^ 40 ∧ b ≤ 2 ^ 40 ∧ c ≤ 2 ^ 40 ∧ d ≤ 2 ^ 40) :
    CallsA Try.prog 27 [I rule, .agg (N4 [a, b, c, d]), Bo x] (.agg (N4 (exF rule x [a, b, c, d] 8))) [] := by
  refine fn_of0 comp27 (by simp) ?_
  unfold code27
  simp (maxSteps := 1000000) only [N4, List.map_cons, List.map_nil, EA, EB, EC, ED, EE, EF, EG, EH, XA, XB, XC, XD, XE, XF, XG, XH, XI, XJ, XK, XL, XM, reduceIte, ↓reduceIte, Nat.reduceAdd, Nat.reduceLeDiff, Nat.reduceEqDiff, Nat.reduceLT, Nat.reduceSub, Nat.reduceBEq, forall_const, reduceCtorEq, implies_true, exists_eq_left', exists_eq_left, if_true, if_false, undef]
  refine loopO Nat [9] (fun k => [I (k : Nat)]) (fun k => [(2, some (.box (N4 (exF rule x [a, b, c, d] k))))]) (fun k => k ≤ 8) (fun k => 8 - k) (by decide) 0 (by simp) (by simp [Back, BackF, fzT, fzM, fzU, fz, fzL, fzO, kin, SubT, Sub, SubL, SubM, SubO, keepM, srcOk, look, lookM, ev, evs, putT, argT, EA, EB, EC, ED, EE, EF, EG, EH, XA, XB, XC, XD, XE, XF, XG, XH, XI, XJ, XK, XL, XM, reduceIte, ↓reduceIte, Nat.reduceAdd, Nat.reduceLeDiff, Nat.reduceEqDiff, Nat.reduceLT, Nat.reduceSub, Nat.reduceBEq, forall_const, reduceCtorEq, implies_true, exists_eq_left', exists_eq_left, if_true, if_false, undef, exF, N4]) (fun k hk => ?_)
  have hcs : ∀ v ∈ [a, b, c, d], v ≤ 2 ^ 40 := by simp; omega
  have hle := exF_le rule x [a, b, c, d] _ hcs k
  have hst : exF rule x [a, b, c, d] (k + 1) = if rule.testBit k = x then (exF rule x [a, b, c, d] k).set (k % 4) ((exF rule x [a, b, c, d] k).getD (k % 4) 0 + [a, b, c, d].getD (k / 2) 0) else exF rule x [a, b, c, d] k := rfl
  have hkB : k * 2 ^ 40 ≤ 2 ^ 43 := by omega
  by_cases c1 : k < 8
  rotate_left
  · have f1 : decide ((k : Int) < 8) = false := by simp; omega
    have : k = 8 := by omega
    subst this
    obtain ⟨p, q, r, s, hE⟩ := four (exF_len rule x [a, b, c, d] 8)
    rw [hE]
    simp (maxSteps := 1000000) only [f1, N4, List.map_cons, List.map_nil, EA, EB, EC, ED, EE, EF, EG, EH, XA, XB, XC, XD, XE, XF, XG, XH, XI, XJ, XK, XL, XM, reduceIte, ↓reduceIte, Nat.reduceAdd, Nat.reduceLeDiff, Nat.reduceEqDiff, Nat.reduceLT, Nat.reduceSub, Nat.reduceBEq, forall_const, reduceCtorEq, implies_true, exists_eq_left', exists_eq_left, if_true, if_false, undef]
  have f1 : decide ((k : Int) < 8) = true := by simp; omega
  have hlen := exF_len rule x [a, b, c, d] k
  generalize exF rule x [a, b, c, d] k = E at hst hle hlen
  have hw : IntKind.i64.wrap ((k : Int) + 1) = ((k + 1 : Nat) : Int) := by rw [wrap_id] <;> omega
  have hNl : (N4 E).length = 4 := by simp [N4, hlen]
  simp (maxSteps := 1000000) only [f1, EA, EB, EC, ED, EE, EF, EG, EH, XA, XB, XC, XD, XE, XF, XG, XH, XI, XJ, XK, XL, XM, reduceIte, ↓reduceIte, Nat.reduceAdd, Nat.reduceLeDiff, Nat.reduceEqDiff, Nat.reduceLT, Nat.reduceSub, Nat.reduceBEq, forall_const, reduceCtorEq, implies_true, exists_eq_left', exists_eq_left, if_true, if_false, undef]
  refine callF (CallsA.args (becomes_spec rule k hr c1) (by simp [EA, EB, EC, ED, EE, EF, EG, EH, XA, XB, XC, XD, XE, XF, XG, XH, XI, XJ, XK, XL, XM, reduceIte, ↓reduceIte, Nat.reduceAdd, Nat.reduceLeDiff, Nat.reduceEqDiff, Nat.reduceLT, Nat.reduceSub, Nat.reduceBEq, forall_const, reduceCtorEq, implies_true, exists_eq_left', exists_eq_left, if_true, if_false, undef])) rfl (by simp [flat, EA, EB, EC, ED, EE, EF, EG, EH, XA, XB, XC, XD, XE, XF, XG, XH, XI, XJ, XK, XL, XM, reduceIte, ↓reduceIte, Nat.reduceAdd, Nat.reduceLeDiff, Nat.reduceEqDiff, Nat.reduceLT, Nat.reduceSub, Nat.reduceBEq, forall_const, reduceCtorEq, implies_true, exists_eq_left', exists_eq_left, if_true, if_false, undef]) ?_
  by_cases hx : rule.testBit k = x
  rotate_left
  · have e1 : (rule.testBit k == x) = false := by simpa using hx
    rw [if_neg hx] at hst
    simp (maxSteps := 1000000) only [e1, hw, EA, EB, EC, ED, EE, EF, EG, EH, XA, XB, XC, XD, XE, XF, XG, XH, XI, XJ, XK, XL, XM, reduceIte, ↓reduceIte, Nat.reduceAdd, Nat.reduceLeDiff, Nat.reduceEqDiff, Nat.reduceLT, Nat.reduceSub, Nat.reduceBEq, forall_const, reduceCtorEq, implies_true, exists_eq_left', exists_eq_left, if_true, if_false, undef]
    exact ⟨k + 1, by omega, by omega, by simp [Back, BackF, fzT, fzM, fzU, fz, fzL, fzO, kin, SubT, Sub, SubL, SubM, SubO, keepM, srcOk, look, lookM, ev, evs, putT, argT, EA, EB, EC, ED, EE, EF, EG, EH, XA, XB, XC, XD, XE, XF, XG, XH, XI, XJ, XK, XL, XM, reduceIte, ↓reduceIte, Nat.reduceAdd, Nat.reduceLeDiff, Nat.reduceEqDiff, Nat.reduceLT, Nat.reduceSub, Nat.reduceBEq, forall_const, reduceCtorEq, implies_true, exists_eq_left', exists_eq_left, if_true, if_false, undef, hst, SubL_N4]⟩
  have e1 : (rule.testBit k == x) = true := by simpa using hx
  rw [if_pos hx] at hst
  have t : ∀ i : Nat, i < 8 → Int.tmod (i : Int) 4 = ((i % 4 : Nat) : Int) ∧ Int.tdiv (i : Int) 2 = ((i / 2 : Nat) : Int) := by decide
  obtain ⟨t1, t2⟩ := t k c1
  have wq : IntKind.i64.wrap ((k / 2 : Nat) : Int) = ((k / 2 : Nat) : Int) := by rw [wrap_id] <;> omega
  have hu : E.getD (k % 4) 0 ≤ k * 2 ^ 40 := getD_le hle
  have hv : [a, b, c, d].getD (k / 2) 0 ≤ 2 ^ 40 := getD_le hcs
  have wv := wrap_add (a := E.getD (k % 4) 0) (b := [a, b, c, d].getD (k / 2) 0) (by omega)
  have g1 : (N4 E)[k % 4 * 1]? = some (I ((E.getD (k % 4) 0 : Nat) : Int)) := by rw [Nat.mul_one]; exact N4_get hlen (by omega)
  have g2 : (N4 [a, b, c, d])[k / 2 * 1]? = some (I (([a, b, c, d].getD (k / 2) 0 : Nat) : Int)) := by rw [Nat.mul_one]; exact N4_get rfl (by omega)
  simp (maxSteps := 1000000) only [e1, t1, t2, wq, hw, hNl, Int.toNat_natCast, EA, EB, EC, ED, EE, EF, EG, EH, XA, XB, XC, XD, XE, XF, XG, XH, XI, XJ, XK, XL, XM, reduceIte, ↓reduceIte, Nat.reduceAdd, Nat.reduceLeDiff, Nat.reduceEqDiff, Nat.reduceLT, Nat.reduceSub, Nat.reduceBEq, forall_const, reduceCtorEq, implies_true, exists_eq_left', exists_eq_left, if_true, if_false, undef]
  refine ⟨by decide, by omega, by omega, _, g1, by decide, by omega, by omega, _, g2, rfl, by omega, by omega, by omega, k + 1, by omega, by omega, ?_⟩
  have hset : N4 (E.set (k % 4) (E.getD (k % 4) 0 + [a, b, c, d].getD (k / 2) 0)) = splice (N4 E) (k % 4 * 1) [.v (.int .i64 (IntKind.i64.wrap (((E.getD (k % 4) 0 : Nat) : Int) + (([a, b, c, d].getD (k / 2) 0 : Nat) : Int))))] := by
    rw [splice_set, Nat.mul_one, wv, N4, N4, List.map_set]
  rw [← hset]
  simp [Back, BackF, fzT, fzM, fzU, fz, fzL, fzO, kin, SubT, Sub, SubL, SubM, SubO, keepM, srcOk, look, lookM, ev, evs, putT, argT, EA, EB, EC, ED, EE, EF, EG, EH, XA, XB, XC, XD, XE, XF, XG, XH, XI, XJ, XK, XL, XM, reduceIte, ↓reduceIte, Nat.reduceAdd, Nat.reduceLeDiff, Nat.reduceEqDiff, Nat.reduceLT, Nat.reduceSub, Nat.reduceBEq, forall_const, reduceCtorEq, implies_true, exists_eq_left', exists_eq_left, if_true, if_false, undef, hst, SubL_N4]

/-- ends of the words ahead -/
def mvec (rule : Nat) : List Bool → List Nat → List Nat
  | [], v => v
  | x :: r, v => mvec rule r (exF rule x v 8)

def pq (rule : Nat) (x : Bool) (i v : Nat) : Nat := if rule.testBit i = x then v else 0

theorem exF_succ {rule : Nat} {x : Bool} {cs E : List Nat} {k : Nat} (h : exF rule x cs k = E) : exF rule x cs (k + 1) = if rule.testBit k = x then E.set (k % 4) (E.getD (k % 4) 0 + cs.getD (k / 2) 0) else E := by rw [exF, h]

theorem exF_eq (rule : Nat) (x : Bool) (a b c d : Nat) : exF rule x [a, b, c, d] 8 = [0 + pq rule x 0 a + pq rule x 4 c, 0 + pq rule x 1 a + pq rule x 5 c, 0 + pq rule x 2 b + pq rule x 6 d, 0 + pq rule x 3 b + pq rule x 7 d] := by
  have e0 : exF rule x [a, b, c, d] 0 = [0, 0, 0, 0] := rfl
  have e1 : exF rule x [a, b, c, d] 1 = [0 + pq rule x 0 a, 0, 0, 0] := by
    refine (exF_succ (k := 0) e0).trans ?_
    by_cases h : rule.testBit 0 = x
    · rw [if_pos h, show pq rule x 0 a = a from if_pos h] <;> rfl
    · rw [if_neg h, show pq rule x 0 a = 0 from if_neg h] <;> rfl
  have e2 : exF rule x [a, b, c, d] 2 = [0 + pq rule x 0 a, 0 + pq rule x 1 a, 0, 0] := by
    refine (exF_succ (k := 1) e1).trans ?_
    by_cases h : rule.testBit 1 = x
    · rw [if_pos h, show pq rule x 1 a = a from if_pos h] <;> rfl
    · rw [if_neg h, show pq rule x 1 a = 0 from if_neg h] <;> rfl
  have e3 : exF rule x [a, b, c, d] 3 = [0 + pq rule x 0 a, 0 + pq rule x 1 a, 0 + pq rule x 2 b, 0] := by
    refine (exF_succ (k := 2) e2).trans ?_
    by_cases h : rule.testBit 2 = x
    · rw [if_pos h, show pq rule x 2 b = b from if_pos h] <;> rfl
    · rw [if_neg h, show pq rule x 2 b = 0 from if_neg h] <;> rfl
  have e4 : exF rule x [a, b, c, d] 4 = [0 + pq rule x 0 a, 0 + pq rule x 1 a, 0 + pq rule x 2 b, 0 + pq rule x 3 b] := by
    refine (exF_succ (k := 3) e3).trans ?_
    by_cases h : rule.testBit 3 = x
    · rw [if_pos h, show pq rule x 3 b = b from if_pos h] <;> rfl
    · rw [if_neg h, show pq rule x 3 b = 0 from if_neg h] <;> rfl
  have e5 : exF rule x [a, b, c, d] 5 = [0 + pq rule x 0 a + pq rule x 4 c, 0 + pq rule x 1 a, 0 + pq rule x 2 b, 0 + pq rule x 3 b] := by
    refine (exF_succ (k := 4) e4).trans ?_
    by_cases h : rule.testBit 4 = x
    · rw [if_pos h, show pq rule x 4 c = c from if_pos h] <;> rfl
    · rw [if_neg h, show pq rule x 4 c = 0 from if_neg h] <;> rfl
  have e6 : exF rule x [a, b, c, d] 6 = [0 + pq rule x 0 a + pq rule x 4 c, 0 + pq rule x 1 a + pq rule x 5 c, 0 + pq rule x 2 b, 0 + pq rule x 3 b] := by
    refine (exF_succ (k := 5) e5).trans ?_
    by_cases h : rule.testBit 5 = x
    · rw [if_pos h, show pq rule x 5 c = c from if_pos h] <;> rfl
    · rw [if_neg h, show pq rule x 5 c = 0 from if_neg h] <;> rfl
  have e7 : exF rule x [a, b, c, d] 7 = [0 + pq rule x 0 a + pq rule x 4 c, 0 + pq rule x 1 a + pq rule x 5 c, 0 + pq rule x 2 b + pq rule x 6 d, 0 + pq rule x 3 b] := by
    refine (exF_succ (k := 6) e6).trans ?_
    by_cases h : rule.testBit 6 = x
    · rw [if_pos h, show pq rule x 6 d = d from if_pos h] <;> rfl
    · rw [if_neg h, show pq rule x 6 d = 0 from if_neg h] <;> rfl
  have e8 : exF rule x [a, b, c, d] 8 = [0 + pq rule x 0 a + pq rule x 4 c, 0 + pq rule x 1 a + pq rule x 5 c, 0 + pq rule x 2 b + pq rule x 6 d, 0 + pq rule x 3 b + pq rule x 7 d] := by
    refine (exF_succ (k := 7) e7).trans ?_
    by_cases h : rule.testBit 7 = x
    · rw [if_pos h, show pq rule x 7 d = d from if_pos h] <;> rfl
    · rw [if_neg h, show pq rule x 7 d = 0 from if_neg h] <;> rfl
  exact e8

theorem pq_le (rule : Nat) (x : Bool) (i v : Nat) : pq rule x i v ≤ v := by
  unfold pq; split <;> omega

theorem exF_le2 (rule : Nat) (x : Bool) (l : List Nat) (hl : l.length = 4) (B : Nat) (h : ∀ v ∈ l, v ≤ B) : ∀ v ∈ exF rule x l 8, v ≤ 2 * B := by
  obtain ⟨a, b, c, d, rfl⟩ := four hl
  simp only [List.mem_cons, List.not_mem_nil, or_false, forall_eq_or_imp, forall_eq] at h
  rw [exF_eq]
  have p0 := pq_le rule x 0 a
  have p1 := pq_le rule x 1 a
  have p2 := pq_le rule x 2 b
  have p3 := pq_le rule x 3 b
  have p4 := pq_le rule x 4 c
  have p5 := pq_le rule x 5 c
  have p6 := pq_le rule x 6 d
  have p7 := pq_le rule x 7 d
  simp only [List.mem_cons, List.not_mem_nil, or_false, forall_eq_or_imp, forall_eq]
  omega

theorem mvec_len (rule : Nat) : ∀ (w : List Bool) (v : List Nat), v.length = 4 → (mvec rule w v).length = 4
  | [], v, h => h
  | x :: r, v, h => mvec_len rule r _ (exF_len rule x v 8)

theorem mvec_le (rule : Nat) : ∀ (w : List Bool) (v : List Nat) (B : Nat), v.length = 4 → (∀ u ∈ v, u ≤ B) → ∀ u ∈ mvec rule w v, u ≤ 2 ^ w.length * B
  | [], v, B, _, h => by simpa [mvec] using h
  | x :: r, v, B, hl, h => by
    have := mvec_le rule r (exF rule x v 8) (2 * B) (exF_len rule x v 8) (exF_le2 rule x v hl B h)
    intro u hu
    have := this u hu
    rw [List.length_cons, Nat.pow_succ, Nat.mul_assoc]; exact this

theorem mvec_snoc (rule : Nat) (x : Bool) : ∀ (w : List Bool) (v : List Nat), mvec rule (w ++ [x]) v = exF rule x (mvec rule w v) 8
  | [], v => rfl
  | y :: r, v => mvec_snoc rule x r _

theorem pq_mul (rule : Nat) (x : Bool) (i v C : Nat) : pq rule x i v * C = v * pq rule x i C := by
  unfold pq; split <;> simp

theorem mvec_cnt (rule : Nat) : ∀ (w : List Bool) (a b c d : Nat), (mvec rule w [a, b, c, d]).sum = a * cnt rule false false w + b * cnt rule false true w + c * cnt rule true false w + d * cnt rule true true w
  | [], a, b, c, d => by simp [mvec, cnt]; omega
  | x :: r, a, b, c, d => by
    rw [mvec, exF_eq, mvec_cnt rule r]
    have c0 : cnt rule false false (x :: r) = pq rule x 0 (cnt rule false false r) + pq rule x 1 (cnt rule false true r) := rfl
    have c1 : cnt rule false true (x :: r) = pq rule x 2 (cnt rule true false r) + pq rule x 3 (cnt rule true true r) := rfl
    have c2 : cnt rule true false (x :: r) = pq rule x 4 (cnt rule false false r) + pq rule x 5 (cnt rule false true r) := rfl
    have c3 : cnt rule true true (x :: r) = pq rule x 6 (cnt rule true false r) + pq rule x 7 (cnt rule true true r) := rfl
    simp only [c0, c1, c2, c3, Nat.zero_add, Nat.add_mul, Nat.mul_add, pq_mul]
    omega

theorem mvec_all (rule : Nat) (w : List Bool) : (mvec rule w [1, 1, 1, 1]).sum = cntAll rule w := by
  rw [mvec_cnt]; simp only [cntAll, Nat.one_mul]

theorem mvec_sum2 (rule : Nat) (w : List Bool) : (mvec rule (w ++ [false]) [1, 1, 1, 1]).sum + (mvec rule (w ++ [true]) [1, 1, 1, 1]).sum = 2 * (mvec rule w [1, 1, 1, 1]).sum := by
  rw [mvec_snoc, mvec_snoc]
  obtain ⟨a, b, c, d, e⟩ := four (mvec_len rule w [1, 1, 1, 1] rfl)
  rw [e, exF_eq, exF_eq]
  have h : ∀ i v, pq rule false i v + pq rule true i v = v := fun i v => by
    unfold pq; cases rule.testBit i <;> simp
  have h0 := h 0 a
  have h1 := h 1 a
  have h2 := h 2 b
  have h3 := h 3 b
  have h4 := h 4 c
  have h5 := h 5 c
  have h6 := h 6 d
  have h7 := h 7 d
  simp only [List.sum_cons, List.sum_nil]
  omega

theorem many_spec (rule : Nat) (hr : rule < 256) (word : List Bool) (hl : word.length ≤ 12) :
    CallsA Try.prog 15 [I rule, .ro 1 (word.map Bo)] (.tup [I (((mvec rule word [1, 1, 1, 1]).sum : Nat) : Int), I 0]) [] := by
  refine fn_of0 comp15 (by simp) ?_
  unfold code15
  have hll : ((word.map Bo).length : Int) = word.length := by simp
  have hro : ruleOk rule = true := by simp [ruleOk]; omega
  simp (maxSteps := 1000000) only [hll, EA, EB, EC, ED, EE, EF, EG, EH, XA, XB, XC, XD, XE, XF, XG, XH, XI, XJ, XK, XL, XM, reduceIte, ↓reduceIte, Nat.reduceAdd, Nat.reduceLeDiff, Nat.reduceEqDiff, Nat.reduceLT, Nat.reduceSub, Nat.reduceBEq, forall_const, reduceCtorEq, implies_true, exists_eq_left', exists_eq_left, if_true, if_false, undef]
  refine callF (CallsA.args (isRule_spec rule) (by simp [EA, EB, EC, ED, EE, EF, EG, EH, XA, XB, XC, XD, XE, XF, XG, XH, XI, XJ, XK, XL, XM, reduceIte, ↓reduceIte, Nat.reduceAdd, Nat.reduceLeDiff, Nat.reduceEqDiff, Nat.reduceLT, Nat.reduceSub, Nat.reduceBEq, forall_const, reduceCtorEq, implies_true, exists_eq_left', exists_eq_left, if_true, if_false, undef])) rfl (by simp [flat, EA, EB, EC, ED, EE, EF, EG, EH, XA, XB, XC, XD, XE, XF, XG, XH, XI, XJ, XK, XL, XM, reduceIte, ↓reduceIte, Nat.reduceAdd, Nat.reduceLeDiff, Nat.reduceEqDiff, Nat.reduceLT, Nat.reduceSub, Nat.reduceBEq, forall_const, reduceCtorEq, implies_true, exists_eq_left', exists_eq_left, if_true, if_false, undef]) ?_
  have g1 : decide ((word.length : Int) > 12) = false := by simp; omega
  simp (maxSteps := 1000000) only [hro, g1, hll, EA, EB, EC, ED, EE, EF, EG, EH, XA, XB, XC, XD, XE, XF, XG, XH, XI, XJ, XK, XL, XM, reduceIte, ↓reduceIte, Nat.reduceAdd, Nat.reduceLeDiff, Nat.reduceEqDiff, Nat.reduceLT, Nat.reduceSub, Nat.reduceBEq, forall_const, reduceCtorEq, implies_true, exists_eq_left', exists_eq_left, if_true, if_false, undef]
  refine loopO Nat [21] (fun k => [I (k : Nat)]) (fun k => [(9, some (.box (N4 (mvec rule (word.take k) [1, 1, 1, 1]))))]) (fun k => k ≤ word.length) (fun k => word.length - k) (by decide) 0 (by simp) (by simp [Back, BackF, fzT, fzM, fzU, fz, fzL, fzO, kin, SubT, Sub, SubL, SubM, SubO, keepM, srcOk, look, lookM, ev, evs, putT, argT, EA, EB, EC, ED, EE, EF, EG, EH, XA, XB, XC, XD, XE, XF, XG, XH, XI, XJ, XK, XL, XM, reduceIte, ↓reduceIte, Nat.reduceAdd, Nat.reduceLeDiff, Nat.reduceEqDiff, Nat.reduceLT, Nat.reduceSub, Nat.reduceBEq, forall_const, reduceCtorEq, implies_true, exists_eq_left', exists_eq_left, if_true, if_false, undef, mvec, N4]) (fun k hk => ?_)
  have hB : ∀ u ∈ mvec rule (word.take k) [1, 1, 1, 1], u ≤ 2 ^ 12 := fun u hu => by
    have h1 := mvec_le rule (word.take k) [1, 1, 1, 1] 1 rfl (by simp) u hu
    have h2 : (word.take k).length ≤ 12 := by rw [List.length_take]; omega
    have h3 : 2 ^ (word.take k).length ≤ 2 ^ 12 := Nat.pow_le_pow_right (by omega) h2
    omega
  obtain ⟨a, b, c, d, hE⟩ := four (mvec_len rule (word.take k) [1, 1, 1, 1] rfl)
  rw [hE] at hB ⊢
  have hB' := hB
  simp only [List.mem_cons, List.not_mem_nil, or_false, forall_eq_or_imp, forall_eq] at hB'
  by_cases c1 : k < word.length
  rotate_left
  · have f1 : decide ((k : Int) < (word.length : Int)) = false := by simp [c1]
    have : k = word.length := by omega
    subst this
    rw [List.take_length] at hE
    simp (maxSteps := 1000000) only [f1, hll, N4, List.map_cons, List.map_nil, EA, EB, EC, ED, EE, EF, EG, EH, XA, XB, XC, XD, XE, XF, XG, XH, XI, XJ, XK, XL, XM, reduceIte, ↓reduceIte, Nat.reduceAdd, Nat.reduceLeDiff, Nat.reduceEqDiff, Nat.reduceLT, Nat.reduceSub, Nat.reduceBEq, forall_const, reduceCtorEq, implies_true, exists_eq_left', exists_eq_left, if_true, if_false, undef]
    have hs : ∀ j, j < 4 → ([a, b, c, d].take (j + 1)).sum = ([a, b, c, d].take j).sum + [a, b, c, d].getD j 0 := by
      intro j hj
      match j, hj with
      | 0, _ => simp
      | 1, _ => simp
      | 2, _ => simp; omega
      | 3, _ => simp; omega
    have hb : ∀ j, j ≤ 4 → ([a, b, c, d].take j).sum ≤ a + b + c + d := by
      intro j hj
      match j, hj with
      | 0, _ => simp
      | 1, _ => simp; omega
      | 2, _ => simp; omega
      | 3, _ => simp; omega
      | 4, _ => simp; omega
    refine loop0 Nat [31, 9] (fun j => [I (j : Nat), I ((([a, b, c, d].take j).sum : Nat) : Int)]) (fun j => j ≤ 4) (fun j => 4 - j) (by decide) 0 (by simp) (by simp [Back, BackF, fzT, fzM, fzU, fz, fzL, fzO, kin, SubT, Sub, SubL, SubM, SubO, keepM, srcOk, look, lookM, ev, evs, putT, argT, EA, EB, EC, ED, EE, EF, EG, EH, XA, XB, XC, XD, XE, XF, XG, XH, XI, XJ, XK, XL, XM, reduceIte, ↓reduceIte, Nat.reduceAdd, Nat.reduceLeDiff, Nat.reduceEqDiff, Nat.reduceLT, Nat.reduceSub, Nat.reduceBEq, forall_const, reduceCtorEq, implies_true, exists_eq_left', exists_eq_left, if_true, if_false, undef]) (fun j hj => ?_)
    by_cases c2 : j < 4
    rotate_left
    · have f2 : decide ((j : Int) < 4) = false := by simp; omega
      have : j = 4 := by omega
      subst this
      simp (maxSteps := 1000000) only [f2, EA, EB, EC, ED, EE, EF, EG, EH, XA, XB, XC, XD, XE, XF, XG, XH, XI, XJ, XK, XL, XM, reduceIte, ↓reduceIte, Nat.reduceAdd, Nat.reduceLeDiff, Nat.reduceEqDiff, Nat.reduceLT, Nat.reduceSub, Nat.reduceBEq, forall_const, reduceCtorEq, implies_true, exists_eq_left', exists_eq_left, if_true, if_false, undef]
      rw [hE]
    have f2 : decide ((j : Int) < 4) = true := by simp; omega
    have hw2 : IntKind.i64.wrap ((j : Int) + 1) = ((j + 1 : Nat) : Int) := by rw [wrap_id] <;> omega
    have hg : [a, b, c, d].getD j 0 ≤ 2 ^ 12 := getD_le hB
    have hb1 := hb j hj
    have ws := wrap_add (a := ([a, b, c, d].take j).sum) (b := [a, b, c, d].getD j 0) (by omega)
    simp (maxSteps := 1000000) only [f2, EA, EB, EC, ED, EE, EF, EG, EH, XA, XB, XC, XD, XE, XF, XG, XH, XI, XJ, XK, XL, XM, reduceIte, ↓reduceIte, Nat.reduceAdd, Nat.reduceLeDiff, Nat.reduceEqDiff, Nat.reduceLT, Nat.reduceSub, Nat.reduceBEq, forall_const, reduceCtorEq, implies_true, exists_eq_left', exists_eq_left, if_true, if_false, undef]
    refine ⟨by omega, by omega, Pick.mk _ (N4_get (E := [a, b, c, d]) (i := (j : Int).toNat) rfl (by omega)) ?_⟩
    simp (maxSteps := 1000000) only [Int.toNat_natCast, ws, hw2, EA, EB, EC, ED, EE, EF, EG, EH, XA, XB, XC, XD, XE, XF, XG, XH, XI, XJ, XK, XL, XM, reduceIte, ↓reduceIte, Nat.reduceAdd, Nat.reduceLeDiff, Nat.reduceEqDiff, Nat.reduceLT, Nat.reduceSub, Nat.reduceBEq, forall_const, reduceCtorEq, implies_true, exists_eq_left', exists_eq_left, if_true, if_false, undef]
    exact ⟨j + 1, by omega, by omega, by rw [hs j c2]; simp [Back, BackF, fzT, fzM, fzU, fz, fzL, fzO, kin, SubT, Sub, SubL, SubM, SubO, keepM, srcOk, look, lookM, ev, evs, putT, argT, EA, EB, EC, ED, EE, EF, EG, EH, XA, XB, XC, XD, XE, XF, XG, XH, XI, XJ, XK, XL, XM, reduceIte, ↓reduceIte, Nat.reduceAdd, Nat.reduceLeDiff, Nat.reduceEqDiff, Nat.reduceLT, Nat.reduceSub, Nat.reduceBEq, forall_const, reduceCtorEq, implies_true, exists_eq_left', exists_eq_left, if_true, if_false, undef]⟩
  have f1 : decide ((k : Int) < (word.length : Int)) = true := by simp [c1]
  have hw1 : IntKind.i64.wrap ((k : Int) + 1) = ((k + 1 : Nat) : Int) := by rw [wrap_id] <;> omega
  have htk : word.take (k + 1) = word.take k ++ [word[k]] := by rw [List.take_add_one, List.getElem?_eq_getElem c1]; rfl
  have hsn := mvec_snoc rule word[k] (word.take k) [1, 1, 1, 1]
  rw [← htk, hE] at hsn
  have he := extend_spec rule hr word[k] a b c d (by omega)
  obtain ⟨a', b', c', d', hE'⟩ := four (exF_len rule word[k] [a, b, c, d] 8)
  rw [hE'] at he hsn
  simp only [N4, List.map_cons, List.map_nil] at he
  simp (maxSteps := 1000000) only [f1, hll, N4, List.map_cons, List.map_nil, EA, EB, EC, ED, EE, EF, EG, EH, XA, XB, XC, XD, XE, XF, XG, XH, XI, XJ, XK, XL, XM, reduceIte, ↓reduceIte, Nat.reduceAdd, Nat.reduceLeDiff, Nat.reduceEqDiff, Nat.reduceLT, Nat.reduceSub, Nat.reduceBEq, forall_const, reduceCtorEq, implies_true, exists_eq_left', exists_eq_left, if_true, if_false, undef]
  refine ⟨by omega, pickM c1 ?_⟩
  simp (maxSteps := 1000000) only [EA, EB, EC, ED, EE, EF, EG, EH, XA, XB, XC, XD, XE, XF, XG, XH, XI, XJ, XK, XL, XM, reduceIte, ↓reduceIte, Nat.reduceAdd, Nat.reduceLeDiff, Nat.reduceEqDiff, Nat.reduceLT, Nat.reduceSub, Nat.reduceBEq, forall_const, reduceCtorEq, implies_true, exists_eq_left', exists_eq_left, if_true, if_false, undef]
  refine callA (CallsA.args (he) (by simp [EA, EB, EC, ED, EE, EF, EG, EH, XA, XB, XC, XD, XE, XF, XG, XH, XI, XJ, XK, XL, XM, reduceIte, ↓reduceIte, Nat.reduceAdd, Nat.reduceLeDiff, Nat.reduceEqDiff, Nat.reduceLT, Nat.reduceSub, Nat.reduceBEq, forall_const, reduceCtorEq, implies_true, exists_eq_left', exists_eq_left, if_true, if_false, undef])) rfl ?_
  simp (maxSteps := 1000000) only [hw1, EA, EB, EC, ED, EE, EF, EG, EH, XA, XB, XC, XD, XE, XF, XG, XH, XI, XJ, XK, XL, XM, reduceIte, ↓reduceIte, Nat.reduceAdd, Nat.reduceLeDiff, Nat.reduceEqDiff, Nat.reduceLT, Nat.reduceSub, Nat.reduceBEq, forall_const, reduceCtorEq, implies_true, exists_eq_left', exists_eq_left, if_true, if_false, undef]
  exact ⟨k + 1, by omega, by omega, by rw [hsn]; simp [Back, BackF, fzT, fzM, fzU, fz, fzL, fzO, kin, SubT, Sub, SubL, SubM, SubO, keepM, srcOk, look, lookM, ev, evs, putT, argT, EA, EB, EC, ED, EE, EF, EG, EH, XA, XB, XC, XD, XE, XF, XG, XH, XI, XJ, XK, XL, XM, reduceIte, ↓reduceIte, Nat.reduceAdd, Nat.reduceLeDiff, Nat.reduceEqDiff, Nat.reduceLT, Nat.reduceSub, Nat.reduceBEq, forall_const, reduceCtorEq, implies_true, exists_eq_left', exists_eq_left, if_true, if_false, undef, N4]⟩

theorem many_rule (r : Int) (h : ruleOk r = false) (word : List Bool) : CallsA Try.prog 15 [I r, .ro 1 (word.map Bo)] (.tup [I 0, I 4]) [] := by
  refine fn_of0 comp15 (by simp) ?_
  unfold code15
  simp (maxSteps := 1000000) only [EA, EB, EC, ED, EE, EF, EG, EH, XA, XB, XC, XD, XE, XF, XG, XH, XI, XJ, XK, XL, XM, reduceIte, ↓reduceIte, Nat.reduceAdd, Nat.reduceLeDiff, Nat.reduceEqDiff, Nat.reduceLT, Nat.reduceSub, Nat.reduceBEq, forall_const, reduceCtorEq, implies_true, exists_eq_left', exists_eq_left, if_true, if_false, undef]
  refine callF (CallsA.args (isRule_spec r) (by simp [EA, EB, EC, ED, EE, EF, EG, EH, XA, XB, XC, XD, XE, XF, XG, XH, XI, XJ, XK, XL, XM, reduceIte, ↓reduceIte, Nat.reduceAdd, Nat.reduceLeDiff, Nat.reduceEqDiff, Nat.reduceLT, Nat.reduceSub, Nat.reduceBEq, forall_const, reduceCtorEq, implies_true, exists_eq_left', exists_eq_left, if_true, if_false, undef])) rfl (by simp [flat, EA, EB, EC, ED, EE, EF, EG, EH, XA, XB, XC, XD, XE, XF, XG, XH, XI, XJ, XK, XL, XM, reduceIte, ↓reduceIte, Nat.reduceAdd, Nat.reduceLeDiff, Nat.reduceEqDiff, Nat.reduceLT, Nat.reduceSub, Nat.reduceBEq, forall_const, reduceCtorEq, implies_true, exists_eq_left', exists_eq_left, if_true, if_false, undef]) ?_
  simp (maxSteps := 1000000) only [h, EA, EB, EC, ED, EE, EF, EG, EH, XA, XB, XC, XD, XE, XF, XG, XH, XI, XJ, XK, XL, XM, reduceIte, ↓reduceIte, Nat.reduceAdd, Nat.reduceLeDiff, Nat.reduceEqDiff, Nat.reduceLT, Nat.reduceSub, Nat.reduceBEq, forall_const, reduceCtorEq, implies_true, exists_eq_left', exists_eq_left, if_true, if_false, undef]

theorem many_large (r : Int) (h : ruleOk r = true) (word : List Bool) (hl : 12 < word.length) : CallsA Try.prog 15 [I r, .ro 1 (word.map Bo)] (.tup [I 0, I 1]) [] := by
  refine fn_of0 comp15 (by simp) ?_
  unfold code15
  have hll : ((word.map Bo).length : Int) = word.length := by simp
  simp (maxSteps := 1000000) only [hll, EA, EB, EC, ED, EE, EF, EG, EH, XA, XB, XC, XD, XE, XF, XG, XH, XI, XJ, XK, XL, XM, reduceIte, ↓reduceIte, Nat.reduceAdd, Nat.reduceLeDiff, Nat.reduceEqDiff, Nat.reduceLT, Nat.reduceSub, Nat.reduceBEq, forall_const, reduceCtorEq, implies_true, exists_eq_left', exists_eq_left, if_true, if_false, undef]
  refine callF (CallsA.args (isRule_spec r) (by simp [EA, EB, EC, ED, EE, EF, EG, EH, XA, XB, XC, XD, XE, XF, XG, XH, XI, XJ, XK, XL, XM, reduceIte, ↓reduceIte, Nat.reduceAdd, Nat.reduceLeDiff, Nat.reduceEqDiff, Nat.reduceLT, Nat.reduceSub, Nat.reduceBEq, forall_const, reduceCtorEq, implies_true, exists_eq_left', exists_eq_left, if_true, if_false, undef])) rfl (by simp [flat, EA, EB, EC, ED, EE, EF, EG, EH, XA, XB, XC, XD, XE, XF, XG, XH, XI, XJ, XK, XL, XM, reduceIte, ↓reduceIte, Nat.reduceAdd, Nat.reduceLeDiff, Nat.reduceEqDiff, Nat.reduceLT, Nat.reduceSub, Nat.reduceBEq, forall_const, reduceCtorEq, implies_true, exists_eq_left', exists_eq_left, if_true, if_false, undef]) ?_
  have g1 : decide ((word.length : Int) > 12) = true := by simp; omega
  simp (maxSteps := 1000000) only [h, g1, hll, EA, EB, EC, ED, EE, EF, EG, EH, XA, XB, XC, XD, XE, XF, XG, XH, XI, XJ, XK, XL, XM, reduceIte, ↓reduceIte, Nat.reduceAdd, Nat.reduceLeDiff, Nat.reduceEqDiff, Nat.reduceLT, Nat.reduceSub, Nat.reduceBEq, forall_const, reduceCtorEq, implies_true, exists_eq_left', exists_eq_left, if_true, if_false, undef]

def stepL (rule : Nat) (ring : List Bool) : List Bool := (List.range ring.length).map fun i => tru rule (ring.getD ((i + ring.length - 1) % ring.length) false) (ring.getD i false) (ring.getD ((i + 1) % ring.length) false)

def stepF (rule : Nat) (ring : List Bool) (k : Nat) : List Bool := (stepL rule ring).take k ++ List.replicate (ring.length - k) false
theorem stepL_length (rule : Nat) (ring : List Bool) : (stepL rule ring).length = ring.length := by simp [stepL]
theorem stepL_get {rule : Nat} {ring : List Bool} {k : Nat} (h : k < ring.length) : (stepL rule ring)[k]? = some (tru rule (ring.getD ((k + ring.length - 1) % ring.length) false) (ring.getD k false) (ring.getD ((k + 1) % ring.length) false)) := by
  rw [stepL, List.getElem?_map, List.getElem?_range h]; rfl
theorem stepF_succ {rule : Nat} {ring : List Bool} {k : Nat} (h : k < ring.length) : stepF rule ring (k + 1) = (stepF rule ring k).set k (tru rule (ring.getD ((k + ring.length - 1) % ring.length) false) (ring.getD k false) (ring.getD ((k + 1) % ring.length) false)) := by
  have hl := stepL_length rule ring
  have hk : ((stepL rule ring).take k).length = k := by rw [List.length_take]; omega
  rw [stepF, stepF, List.take_add_one, stepL_get h, List.set_append_right _ _ (by omega), hk, Nat.sub_self, show ring.length - k = (ring.length - (k + 1)) + 1 by omega, List.replicate_succ, List.set_cons_zero]
  simp
theorem stepF_zero (rule : Nat) (ring : List Bool) : (stepF rule ring 0).map Bo = List.replicate ring.length (.v (.bool false)) := by
  simp [stepF, Bo]
theorem stepF_all (rule : Nat) (ring : List Bool) : stepF rule ring ring.length = stepL rule ring := by
  rw [stepF, Nat.sub_self, List.replicate_zero, List.append_nil, ← stepL_length rule ring, List.take_length]
theorem stepF_length (rule : Nat) (ring : List Bool) (k : Nat) (h : k ≤ ring.length) : (stepF rule ring k).length = ring.length := by
  rw [stepF, List.length_append, List.length_take, List.length_replicate, stepL_length]; omega
theorem pickD {l : List Bool} {i : Nat} {K : AV → Prop} (h : i < l.length) (hK : K (Bo (l.getD i false))) : Pick (l.map Bo) ((i : Nat) : Int).toNat K :=
  ⟨_, by rw [Int.toNat_natCast, List.getElem?_map, List.getD_eq_getElem?_getD, List.getElem?_eq_getElem h]; rfl, hK⟩

theorem step_spec (rule : Nat) (hr : rule < 256) (ring : List Bool) (h1 : 1 ≤ ring.length) (hl : ring.length ≤ 12) :
    CallsA Try.prog 11 [I rule, .ro 1 (ring.map Bo)] (.tup [.ro 1 ((stepL rule ring).map Bo), I 0]) [] := by
  refine fn_of0 comp11 (by simp) ?_
  unfold code11
  have hll : ((ring.map Bo).length : Int) = ring.length := by simp
  have hro : ruleOk rule = true := by simp [ruleOk]; omega
  simp (maxSteps := 1000000) only [hll, EA, EB, EC, ED, EE, EF, EG, EH, XA, XB, XC, XD, XE, XF, XG, XH, XI, XJ, XK, XL, XM, reduceIte, ↓reduceIte, Nat.reduceAdd, Nat.reduceLeDiff, Nat.reduceEqDiff, Nat.reduceLT, Nat.reduceSub, Nat.reduceBEq, forall_const, reduceCtorEq, implies_true, exists_eq_left', exists_eq_left, if_true, if_false, undef]
  refine callF (CallsA.args (isRule_spec rule) (by simp [EA, EB, EC, ED, EE, EF, EG, EH, XA, XB, XC, XD, XE, XF, XG, XH, XI, XJ, XK, XL, XM, reduceIte, ↓reduceIte, Nat.reduceAdd, Nat.reduceLeDiff, Nat.reduceEqDiff, Nat.reduceLT, Nat.reduceSub, Nat.reduceBEq, forall_const, reduceCtorEq, implies_true, exists_eq_left', exists_eq_left, if_true, if_false, undef])) rfl (by simp [flat, EA, EB, EC, ED, EE, EF, EG, EH, XA, XB, XC, XD, XE, XF, XG, XH, XI, XJ, XK, XL, XM, reduceIte, ↓reduceIte, Nat.reduceAdd, Nat.reduceLeDiff, Nat.reduceEqDiff, Nat.reduceLT, Nat.reduceSub, Nat.reduceBEq, forall_const, reduceCtorEq, implies_true, exists_eq_left', exists_eq_left, if_true, if_false, undef]) ?_
  have g1 : decide ((ring.length : Int) > 12) = false := by simp; omega
  have g2 : ((ring.length : Int) == 0) = false := beq_false_of_ne (by omega)
  simp (maxSteps := 1000000) only [hro, g1, g2, hll, Int.toNat_natCast, ← stepF_zero rule ring, EA, EB, EC, ED, EE, EF, EG, EH, XA, XB, XC, XD, XE, XF, XG, XH, XI, XJ, XK, XL, XM, reduceIte, ↓reduceIte, Nat.reduceAdd, Nat.reduceLeDiff, Nat.reduceEqDiff, Nat.reduceLT, Nat.reduceSub, Nat.reduceBEq, forall_const, reduceCtorEq, implies_true, exists_eq_left', exists_eq_left, if_true, if_false, undef]
  refine ⟨by omega, by omega, by omega, ?_⟩
  refine loopO Nat [27] (fun k => [I (k : Nat)]) (fun k => [(15, some (.arr 1 ((stepF rule ring k).map Bo)))]) (fun k => k ≤ ring.length) (fun k => ring.length - k) (by decide) 0 (by simp) (by simp [Back, BackF, fzT, fzM, fzU, fz, fzL, fzO, kin, SubT, Sub, SubL, SubM, SubO, keepM, srcOk, look, lookM, ev, evs, putT, argT, EA, EB, EC, ED, EE, EF, EG, EH, XA, XB, XC, XD, XE, XF, XG, XH, XI, XJ, XK, XL, XM, reduceIte, ↓reduceIte, Nat.reduceAdd, Nat.reduceLeDiff, Nat.reduceEqDiff, Nat.reduceLT, Nat.reduceSub, Nat.reduceBEq, forall_const, reduceCtorEq, implies_true, exists_eq_left', exists_eq_left, if_true, if_false, undef]) (fun k hk => ?_)
  have hfl := stepF_length rule ring k hk
  by_cases c1 : k < ring.length
  rotate_left
  · have f1 : decide ((k : Int) < (ring.length : Int)) = false := by simp [c1]
    have : k = ring.length := by omega
    subst this
    rw [stepF_all]
    have hsl := stepL_length rule ring
    simp (maxSteps := 1000000) only [f1, hll, EA, EB, EC, ED, EE, EF, EG, EH, XA, XB, XC, XD, XE, XF, XG, XH, XI, XJ, XK, XL, XM, reduceIte, ↓reduceIte, Nat.reduceAdd, Nat.reduceLeDiff, Nat.reduceEqDiff, Nat.reduceLT, Nat.reduceSub, Nat.reduceBEq, forall_const, reduceCtorEq, implies_true, exists_eq_left', exists_eq_left, if_true, if_false, undef]
    rw [List.take_of_length_le (by simp [hsl])]
  have f1 : decide ((k : Int) < (ring.length : Int)) = true := by simp [c1]
  have hsn := stepF_succ (rule := rule) c1
  have hA : (k + ring.length - 1) % ring.length < ring.length := Nat.mod_lt _ (by omega)
  have hC : (k + 1) % ring.length < ring.length := Nat.mod_lt _ (by omega)
  have wa : IntKind.i64.wrap ((k : Int) + (ring.length : Int)) = ((k + ring.length : Nat) : Int) := by rw [wrap_id] <;> omega
  have wb : IntKind.i64.wrap (((k + ring.length : Nat) : Int) - 1) = ((k + ring.length - 1 : Nat) : Int) := by rw [wrap_id] <;> omega
  have wc : IntKind.i64.wrap ((k : Int) + 1) = ((k + 1 : Nat) : Int) := by rw [wrap_id] <;> omega
  have ta : Int.tmod ((k + ring.length - 1 : Nat) : Int) (ring.length : Int) = (((k + ring.length - 1) % ring.length : Nat) : Int) := by rw [← Int.ofNat_tmod]
  have tb : Int.tmod ((k + 1 : Nat) : Int) (ring.length : Int) = (((k + 1) % ring.length : Nat) : Int) := by rw [← Int.ofNat_tmod]
  generalize (k + ring.length - 1) % ring.length = pa at *
  generalize (k + 1) % ring.length = pc at *
  simp (maxSteps := 1000000) only [f1, hll, EA, EB, EC, ED, EE, EF, EG, EH, XA, XB, XC, XD, XE, XF, XG, XH, XI, XJ, XK, XL, XM, reduceIte, ↓reduceIte, Nat.reduceAdd, Nat.reduceLeDiff, Nat.reduceEqDiff, Nat.reduceLT, Nat.reduceSub, Nat.reduceBEq, forall_const, reduceCtorEq, implies_true, exists_eq_left', exists_eq_left, if_true, if_false, undef]
  refine ⟨by omega, pickD c1 ?_⟩
  simp (maxSteps := 1000000) only [wa, wb, wc, ta, tb, hll, EA, EB, EC, ED, EE, EF, EG, EH, XA, XB, XC, XD, XE, XF, XG, XH, XI, XJ, XK, XL, XM, reduceIte, ↓reduceIte, Nat.reduceAdd, Nat.reduceLeDiff, Nat.reduceEqDiff, Nat.reduceLT, Nat.reduceSub, Nat.reduceBEq, forall_const, reduceCtorEq, implies_true, exists_eq_left', exists_eq_left, if_true, if_false, undef]
  refine ⟨by omega, by omega, pickD hA ?_⟩
  simp (maxSteps := 1000000) only [wa, wb, wc, ta, tb, hll, EA, EB, EC, ED, EE, EF, EG, EH, XA, XB, XC, XD, XE, XF, XG, XH, XI, XJ, XK, XL, XM, reduceIte, ↓reduceIte, Nat.reduceAdd, Nat.reduceLeDiff, Nat.reduceEqDiff, Nat.reduceLT, Nat.reduceSub, Nat.reduceBEq, forall_const, reduceCtorEq, implies_true, exists_eq_left', exists_eq_left, if_true, if_false, undef]
  refine ⟨by omega, by omega, pickD hC ?_⟩
  generalize ring.getD pa false = xa at *
  generalize ring.getD pc false = xc at *
  generalize ring.getD k false = xb at *
  have w1 : IntKind.i64.wrap (4 * ((xa.toNat : Nat) : Int)) = ((4 * xa.toNat : Nat) : Int) := by cases xa <;> decide
  have w2 : IntKind.i64.wrap (2 * ((xb.toNat : Nat) : Int)) = ((2 * xb.toNat : Nat) : Int) := by cases xb <;> decide
  have w3 : IntKind.i64.wrap (((4 * xa.toNat : Nat) : Int) + ((2 * xb.toNat : Nat) : Int)) = ((4 * xa.toNat + 2 * xb.toNat : Nat) : Int) := by cases xa <;> cases xb <;> decide
  have w4 : IntKind.i64.wrap (((4 * xa.toNat + 2 * xb.toNat : Nat) : Int) + ((xc.toNat : Nat) : Int)) = ((4 * xa.toNat + 2 * xb.toNat + xc.toNat : Nat) : Int) := by cases xa <;> cases xb <;> cases xc <;> decide
  have h8 : 4 * xa.toNat + 2 * xb.toNat + xc.toNat < 8 := by cases xa <;> cases xb <;> cases xc <;> decide
  simp (maxSteps := 1000000) only [wc, hll, EA, EB, EC, ED, EE, EF, EG, EH, XA, XB, XC, XD, XE, XF, XG, XH, XI, XJ, XK, XL, XM, reduceIte, ↓reduceIte, Nat.reduceAdd, Nat.reduceLeDiff, Nat.reduceEqDiff, Nat.reduceLT, Nat.reduceSub, Nat.reduceBEq, forall_const, reduceCtorEq, implies_true, exists_eq_left', exists_eq_left, if_true, if_false, undef]
  refine callF (CallsA.args (bitP_spec xa) (by simp [EA, EB, EC, ED, EE, EF, EG, EH, XA, XB, XC, XD, XE, XF, XG, XH, XI, XJ, XK, XL, XM, reduceIte, ↓reduceIte, Nat.reduceAdd, Nat.reduceLeDiff, Nat.reduceEqDiff, Nat.reduceLT, Nat.reduceSub, Nat.reduceBEq, forall_const, reduceCtorEq, implies_true, exists_eq_left', exists_eq_left, if_true, if_false, undef])) rfl (by simp [flat, EA, EB, EC, ED, EE, EF, EG, EH, XA, XB, XC, XD, XE, XF, XG, XH, XI, XJ, XK, XL, XM, reduceIte, ↓reduceIte, Nat.reduceAdd, Nat.reduceLeDiff, Nat.reduceEqDiff, Nat.reduceLT, Nat.reduceSub, Nat.reduceBEq, forall_const, reduceCtorEq, implies_true, exists_eq_left', exists_eq_left, if_true, if_false, undef]) ?_
  simp (maxSteps := 1000000) only [w1, EA, EB, EC, ED, EE, EF, EG, EH, XA, XB, XC, XD, XE, XF, XG, XH, XI, XJ, XK, XL, XM, reduceIte, ↓reduceIte, Nat.reduceAdd, Nat.reduceLeDiff, Nat.reduceEqDiff, Nat.reduceLT, Nat.reduceSub, Nat.reduceBEq, forall_const, reduceCtorEq, implies_true, exists_eq_left', exists_eq_left, if_true, if_false, undef]
  refine callF (CallsA.args (bitP_spec xb) (by simp [EA, EB, EC, ED, EE, EF, EG, EH, XA, XB, XC, XD, XE, XF, XG, XH, XI, XJ, XK, XL, XM, reduceIte, ↓reduceIte, Nat.reduceAdd, Nat.reduceLeDiff, Nat.reduceEqDiff, Nat.reduceLT, Nat.reduceSub, Nat.reduceBEq, forall_const, reduceCtorEq, implies_true, exists_eq_left', exists_eq_left, if_true, if_false, undef])) rfl (by simp [flat, EA, EB, EC, ED, EE, EF, EG, EH, XA, XB, XC, XD, XE, XF, XG, XH, XI, XJ, XK, XL, XM, reduceIte, ↓reduceIte, Nat.reduceAdd, Nat.reduceLeDiff, Nat.reduceEqDiff, Nat.reduceLT, Nat.reduceSub, Nat.reduceBEq, forall_const, reduceCtorEq, implies_true, exists_eq_left', exists_eq_left, if_true, if_false, undef]) ?_
  simp (maxSteps := 1000000) only [w1, w2, w3, EA, EB, EC, ED, EE, EF, EG, EH, XA, XB, XC, XD, XE, XF, XG, XH, XI, XJ, XK, XL, XM, reduceIte, ↓reduceIte, Nat.reduceAdd, Nat.reduceLeDiff, Nat.reduceEqDiff, Nat.reduceLT, Nat.reduceSub, Nat.reduceBEq, forall_const, reduceCtorEq, implies_true, exists_eq_left', exists_eq_left, if_true, if_false, undef]
  refine callF (CallsA.args (bitP_spec xc) (by simp [EA, EB, EC, ED, EE, EF, EG, EH, XA, XB, XC, XD, XE, XF, XG, XH, XI, XJ, XK, XL, XM, reduceIte, ↓reduceIte, Nat.reduceAdd, Nat.reduceLeDiff, Nat.reduceEqDiff, Nat.reduceLT, Nat.reduceSub, Nat.reduceBEq, forall_const, reduceCtorEq, implies_true, exists_eq_left', exists_eq_left, if_true, if_false, undef])) rfl (by simp [flat, EA, EB, EC, ED, EE, EF, EG, EH, XA, XB, XC, XD, XE, XF, XG, XH, XI, XJ, XK, XL, XM, reduceIte, ↓reduceIte, Nat.reduceAdd, Nat.reduceLeDiff, Nat.reduceEqDiff, Nat.reduceLT, Nat.reduceSub, Nat.reduceBEq, forall_const, reduceCtorEq, implies_true, exists_eq_left', exists_eq_left, if_true, if_false, undef]) ?_
  simp (maxSteps := 1000000) only [w1, w2, w3, w4, EA, EB, EC, ED, EE, EF, EG, EH, XA, XB, XC, XD, XE, XF, XG, XH, XI, XJ, XK, XL, XM, reduceIte, ↓reduceIte, Nat.reduceAdd, Nat.reduceLeDiff, Nat.reduceEqDiff, Nat.reduceLT, Nat.reduceSub, Nat.reduceBEq, forall_const, reduceCtorEq, implies_true, exists_eq_left', exists_eq_left, if_true, if_false, undef]
  refine callF (CallsA.args (becomes_spec rule _ hr h8) (by simp [EA, EB, EC, ED, EE, EF, EG, EH, XA, XB, XC, XD, XE, XF, XG, XH, XI, XJ, XK, XL, XM, reduceIte, ↓reduceIte, Nat.reduceAdd, Nat.reduceLeDiff, Nat.reduceEqDiff, Nat.reduceLT, Nat.reduceSub, Nat.reduceBEq, forall_const, reduceCtorEq, implies_true, exists_eq_left', exists_eq_left, if_true, if_false, undef])) rfl (by simp [flat, EA, EB, EC, ED, EE, EF, EG, EH, XA, XB, XC, XD, XE, XF, XG, XH, XI, XJ, XK, XL, XM, reduceIte, ↓reduceIte, Nat.reduceAdd, Nat.reduceLeDiff, Nat.reduceEqDiff, Nat.reduceLT, Nat.reduceSub, Nat.reduceBEq, forall_const, reduceCtorEq, implies_true, exists_eq_left', exists_eq_left, if_true, if_false, undef]) ?_
  simp (maxSteps := 1000000) only [wc, Int.toNat_natCast, EA, EB, EC, ED, EE, EF, EG, EH, XA, XB, XC, XD, XE, XF, XG, XH, XI, XJ, XK, XL, XM, reduceIte, ↓reduceIte, Nat.reduceAdd, Nat.reduceLeDiff, Nat.reduceEqDiff, Nat.reduceLT, Nat.reduceSub, Nat.reduceBEq, forall_const, reduceCtorEq, implies_true, exists_eq_left', exists_eq_left, if_true, if_false, undef]
  refine ⟨by omega, by omega, by simp [hfl, c1], k + 1, by omega, by omega, ?_⟩
  rw [hsn, List.map_set]
  simp [Back, BackF, fzT, fzM, fzU, fz, fzL, fzO, kin, SubT, Sub, SubL, SubM, SubO, keepM, srcOk, look, lookM, ev, evs, putT, argT, EA, EB, EC, ED, EE, EF, EG, EH, XA, XB, XC, XD, XE, XF, XG, XH, XI, XJ, XK, XL, XM, reduceIte, ↓reduceIte, Nat.reduceAdd, Nat.reduceLeDiff, Nat.reduceEqDiff, Nat.reduceLT, Nat.reduceSub, Nat.reduceBEq, forall_const, reduceCtorEq, implies_true, exists_eq_left', exists_eq_left, if_true, if_false, undef, tru]

theorem step_rule (r : Int) (h : ruleOk r = false) (ring : List Bool) : CallsA Try.prog 11 [I r, .ro 1 (ring.map Bo)] (.tup [.v (.slice none 0 0), I 4]) [] := by
  refine fn_of0 comp11 (by simp) ?_
  unfold code11
  simp (maxSteps := 1000000) only [EA, EB, EC, ED, EE, EF, EG, EH, XA, XB, XC, XD, XE, XF, XG, XH, XI, XJ, XK, XL, XM, reduceIte, ↓reduceIte, Nat.reduceAdd, Nat.reduceLeDiff, Nat.reduceEqDiff, Nat.reduceLT, Nat.reduceSub, Nat.reduceBEq, forall_const, reduceCtorEq, implies_true, exists_eq_left', exists_eq_left, if_true, if_false, undef]
  refine callF (CallsA.args (isRule_spec r) (by simp [EA, EB, EC, ED, EE, EF, EG, EH, XA, XB, XC, XD, XE, XF, XG, XH, XI, XJ, XK, XL, XM, reduceIte, ↓reduceIte, Nat.reduceAdd, Nat.reduceLeDiff, Nat.reduceEqDiff, Nat.reduceLT, Nat.reduceSub, Nat.reduceBEq, forall_const, reduceCtorEq, implies_true, exists_eq_left', exists_eq_left, if_true, if_false, undef])) rfl (by simp [flat, EA, EB, EC, ED, EE, EF, EG, EH, XA, XB, XC, XD, XE, XF, XG, XH, XI, XJ, XK, XL, XM, reduceIte, ↓reduceIte, Nat.reduceAdd, Nat.reduceLeDiff, Nat.reduceEqDiff, Nat.reduceLT, Nat.reduceSub, Nat.reduceBEq, forall_const, reduceCtorEq, implies_true, exists_eq_left', exists_eq_left, if_true, if_false, undef]) ?_
  simp (maxSteps := 1000000) only [h, EA, EB, EC, ED, EE, EF, EG, EH, XA, XB, XC, XD, XE, XF, XG, XH, XI, XJ, XK, XL, XM, reduceIte, ↓reduceIte, Nat.reduceAdd, Nat.reduceLeDiff, Nat.reduceEqDiff, Nat.reduceLT, Nat.reduceSub, Nat.reduceBEq, forall_const, reduceCtorEq, implies_true, exists_eq_left', exists_eq_left, if_true, if_false, undef]

theorem step_large (r : Int) (h : ruleOk r = true) (ring : List Bool) (hl : ring.length = 0 ∨ 12 < ring.length) : CallsA Try.prog 11 [I r, .ro 1 (ring.map Bo)] (.tup [.v (.slice none 0 0), I 1]) [] := by
  refine fn_of0 comp11 (by simp) ?_
  unfold code11
  have hll : ((ring.map Bo).length : Int) = ring.length := by simp
  simp (maxSteps := 1000000) only [hll, EA, EB, EC, ED, EE, EF, EG, EH, XA, XB, XC, XD, XE, XF, XG, XH, XI, XJ, XK, XL, XM, reduceIte, ↓reduceIte, Nat.reduceAdd, Nat.reduceLeDiff, Nat.reduceEqDiff, Nat.reduceLT, Nat.reduceSub, Nat.reduceBEq, forall_const, reduceCtorEq, implies_true, exists_eq_left', exists_eq_left, if_true, if_false, undef]
  refine callF (CallsA.args (isRule_spec r) (by simp [EA, EB, EC, ED, EE, EF, EG, EH, XA, XB, XC, XD, XE, XF, XG, XH, XI, XJ, XK, XL, XM, reduceIte, ↓reduceIte, Nat.reduceAdd, Nat.reduceLeDiff, Nat.reduceEqDiff, Nat.reduceLT, Nat.reduceSub, Nat.reduceBEq, forall_const, reduceCtorEq, implies_true, exists_eq_left', exists_eq_left, if_true, if_false, undef])) rfl (by simp [flat, EA, EB, EC, ED, EE, EF, EG, EH, XA, XB, XC, XD, XE, XF, XG, XH, XI, XJ, XK, XL, XM, reduceIte, ↓reduceIte, Nat.reduceAdd, Nat.reduceLeDiff, Nat.reduceEqDiff, Nat.reduceLT, Nat.reduceSub, Nat.reduceBEq, forall_const, reduceCtorEq, implies_true, exists_eq_left', exists_eq_left, if_true, if_false, undef]) ?_
  rcases hl with hl | hl
  · have g2 : ((ring.length : Int) == 0) = true := by simp only [beq_iff_eq]; omega
    simp (maxSteps := 1000000) only [h, g2, hll, EA, EB, EC, ED, EE, EF, EG, EH, XA, XB, XC, XD, XE, XF, XG, XH, XI, XJ, XK, XL, XM, reduceIte, ↓reduceIte, Nat.reduceAdd, Nat.reduceLeDiff, Nat.reduceEqDiff, Nat.reduceLT, Nat.reduceSub, Nat.reduceBEq, forall_const, reduceCtorEq, implies_true, exists_eq_left', exists_eq_left, if_true, if_false, undef]
  · have g2 : ((ring.length : Int) == 0) = false := beq_false_of_ne (by omega)
    have g1 : decide ((ring.length : Int) > 12) = true := by simp; omega
    simp (maxSteps := 1000000) only [h, g1, g2, hll, EA, EB, EC, ED, EE, EF, EG, EH, XA, XB, XC, XD, XE, XF, XG, XH, XI, XJ, XK, XL, XM, reduceIte, ↓reduceIte, Nat.reduceAdd, Nat.reduceLeDiff, Nat.reduceEqDiff, Nat.reduceLT, Nat.reduceSub, Nat.reduceBEq, forall_const, reduceCtorEq, implies_true, exists_eq_left', exists_eq_left, if_true, if_false, undef]
