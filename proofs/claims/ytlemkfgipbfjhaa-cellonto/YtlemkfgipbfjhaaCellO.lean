/- Cells: is there a word ahead; the first word that has none. -/
import Derived.Test.YtlemkfgipbfjhaaCellA
set_option linter.unusedSimpArgs false
set_option linter.unusedVariables false
set_option maxRecDepth 100000
namespace Go.Av
open Go.Proofs

/-- by which two last cells there can be a word ahead: one pair of cells and one cell more -/
def rput (rule : Nat) (can : List Bool) (x : Bool) (nx : List Bool) (two c : Nat) : List Bool :=
  if (can.getD two false && (tru rule (decide (two ≥ 2)) (two % 2 == 1) (c == 1) == x)) = true then nx.set (two % 2 * 2 + c) true else nx
def rf (rule : Nat) (can : List Bool) (x : Bool) : Nat → List Bool
  | 0 => List.replicate 4 false
  | j + 1 => rput rule can x (rf rule can x j) (j / 2) (j % 2)
theorem rf_length (rule : Nat) (can : List Bool) (x : Bool) : ∀ j, (rf rule can x j).length = 4
  | 0 => rfl
  | j + 1 => by
    simp only [rf, rput]
    split
    · rw [List.length_set]; exact rf_length rule can x j
    · exact rf_length rule can x j
def rset (rule : Nat) : List Bool → List Bool → List Bool
  | can, [] => can
  | can, x :: r => rset rule (rf rule can x 8) r
def canT : List Bool := [true, true, true, true]
def reachedB (rule : Nat) (word : List Bool) : Bool := (rset rule canT word).any id

theorem rset_snoc (rule : Nat) : ∀ (word : List Bool) (can : List Bool) (x : Bool), rset rule can (word ++ [x]) = rf rule (rset rule can word) x 8
  | [], _, _ => rfl
  | y :: r, can, x => rset_snoc rule r (rf rule can y 8) x
theorem rset_length (rule : Nat) : ∀ (word : List Bool) (can : List Bool), can.length = 4 → (rset rule can word).length = 4
  | [], _, h => h
  | y :: r, can, _ => rset_length rule r _ (rf_length rule can y 8)

theorem reached_spec (rule : Nat) (hr : rule < 256) (word : List Bool) (hl : (word.length : Int) < 2 ^ 62) : CallsA Try.prog 29 [I rule, .ro 1 (word.map Bo)] (Bo (reachedB rule word)) [] := by
  refine fn_of0 comp29 (by simp) ?_
  unfold code29
  have hll : ((word.map Bo).length : Int) = word.length := by simp
  simp (maxSteps := 1000000) only [hll, EA, EB, EC, ED, EE, EF, EG, EH, XA, XB, XC, XD, XE, XF, XG, XH, XI, XJ, XK, XL, XM, reduceIte, ↓reduceIte, Nat.reduceAdd, Nat.reduceLeDiff, Nat.reduceEqDiff, Nat.reduceLT, Nat.reduceSub, Nat.reduceBEq, forall_const, reduceCtorEq, implies_true, exists_eq_left', exists_eq_left, if_true, if_false, undef]
  refine loopR Nat [14, 5] (fun k => [I k, .arr 6 0 4]) (fun k => [(6, some (.arr 1 ((rset rule canT (word.take k)).map Bo))), (1, none)]) 1 (fun k => k ≤ word.length) (fun k => word.length - k) (by decide) 0 [some 1] rfl (by simp)
    (by simp [Back, BackF, fzT, fzM, fzU, fz, fzL, fzO, kin, SubT, Sub, SubL, SubM, SubO, keepM, srcOk, look, lookM, ev, evs, putT, argT, EA, EB, EC, ED, EE, EF, EG, EH, XA, XB, XC, XD, XE, XF, XG, XH, XI, XJ, XK, XL, XM, reduceIte, ↓reduceIte, Nat.reduceAdd, Nat.reduceLeDiff, Nat.reduceEqDiff, Nat.reduceLT, Nat.reduceSub, Nat.reduceBEq, forall_const, reduceCtorEq, implies_true, exists_eq_left', exists_eq_left, if_true, if_false, undef, rset, canT]) (fun k hk => ?_)
  have hcl := rset_length rule (word.take k) canT rfl
  by_cases c1 : k < word.length
  rotate_left
  · have f1 : decide ((k : Int) < (word.length : Int)) = false := by simp [c1]
    have : k = word.length := by omega
    subst this
    rw [List.take_length] at hcl
    simp (maxSteps := 1000000) only [f1, hll, List.take_length, EA, EB, EC, ED, EE, EF, EG, EH, XA, XB, XC, XD, XE, XF, XG, XH, XI, XJ, XK, XL, XM, reduceIte, ↓reduceIte, Nat.reduceAdd, Nat.reduceLeDiff, Nat.reduceEqDiff, Nat.reduceLT, Nat.reduceSub, Nat.reduceBEq, forall_const, reduceCtorEq, implies_true, exists_eq_left', exists_eq_left, if_true, if_false, undef]
    rw [reachedB]
    generalize rset rule canT word = can at hcl
    obtain ⟨a, b, c, d, rfl⟩ : ∃ a b c d, can = [a, b, c, d] := by
      match can, hcl with
      | [a, b, c, d], _ => exact ⟨a, b, c, d, rfl⟩
    cases a <;> cases b <;> cases c <;> cases d <;> simp [EA, EB, EC, ED, EE, EF, EG, EH, XA, XB, XC, XD, XE, XF, XG, XH, XI, XJ, XK, XL, XM, reduceIte, ↓reduceIte, Nat.reduceAdd, Nat.reduceLeDiff, Nat.reduceEqDiff, Nat.reduceLT, Nat.reduceSub, Nat.reduceBEq, forall_const, reduceCtorEq, implies_true, exists_eq_left', exists_eq_left, if_true, if_false, undef, Pick]
  have f1 : decide ((k : Int) < (word.length : Int)) = true := by simp [c1]
  have hw1 : IntKind.i64.wrap ((k : Int) + 1) = ((k + 1 : Nat) : Int) := by rw [wrap_id] <;> omega
  have htk : word.take (k + 1) = word.take k ++ [word[k]] := by rw [List.take_add_one, List.getElem?_eq_getElem c1]; rfl
  have hsn := rset_snoc rule (word.take k) canT word[k]
  rw [← htk] at hsn
  generalize rset rule canT (word.take k) = can at hcl hsn
  simp (maxSteps := 1000000) only [f1, hll, EA, EB, EC, ED, EE, EF, EG, EH, XA, XB, XC, XD, XE, XF, XG, XH, XI, XJ, XK, XL, XM, reduceIte, ↓reduceIte, Nat.reduceAdd, Nat.reduceLeDiff, Nat.reduceEqDiff, Nat.reduceLT, Nat.reduceSub, Nat.reduceBEq, forall_const, reduceCtorEq, implies_true, exists_eq_left', exists_eq_left, if_true, if_false, undef]
  refine ⟨by omega, pickM c1 ?_⟩
  generalize word[k] = x at hsn
  simp (maxSteps := 1000000) only [EA, EB, EC, ED, EE, EF, EG, EH, XA, XB, XC, XD, XE, XF, XG, XH, XI, XJ, XK, XL, XM, reduceIte, ↓reduceIte, Nat.reduceAdd, Nat.reduceLeDiff, Nat.reduceEqDiff, Nat.reduceLT, Nat.reduceSub, Nat.reduceBEq, forall_const, reduceCtorEq, implies_true, exists_eq_left', exists_eq_left, if_true, if_false, undef]
  refine ⟨by omega, by omega, by omega, ?_⟩
  refine loopO Nat [9] (fun two => [I (two : Nat)]) (fun two => [(11, some (.arr 1 ((rf rule can x (2 * two)).map Bo)))]) (fun two => two ≤ 4) (fun two => 4 - two) (by decide) 0 (by simp) (by simp [Back, BackF, fzT, fzM, fzU, fz, fzL, fzO, kin, SubT, Sub, SubL, SubM, SubO, keepM, srcOk, look, lookM, ev, evs, putT, argT, EA, EB, EC, ED, EE, EF, EG, EH, XA, XB, XC, XD, XE, XF, XG, XH, XI, XJ, XK, XL, XM, reduceIte, ↓reduceIte, Nat.reduceAdd, Nat.reduceLeDiff, Nat.reduceEqDiff, Nat.reduceLT, Nat.reduceSub, Nat.reduceBEq, forall_const, reduceCtorEq, implies_true, exists_eq_left', exists_eq_left, if_true, if_false, undef, rf]) (fun two ht => ?_)
  by_cases c2 : two < 4
  rotate_left
  · have f2 : decide ((two : Int) < 4) = false := by simp; omega
    have : two = 4 := by omega
    subst this
    simp (maxSteps := 1000000) only [f2, hw1, EA, EB, EC, ED, EE, EF, EG, EH, XA, XB, XC, XD, XE, XF, XG, XH, XI, XJ, XK, XL, XM, reduceIte, ↓reduceIte, Nat.reduceAdd, Nat.reduceLeDiff, Nat.reduceEqDiff, Nat.reduceLT, Nat.reduceSub, Nat.reduceBEq, forall_const, reduceCtorEq, implies_true, exists_eq_left', exists_eq_left, if_true, if_false, undef]
    exact ⟨k + 1, [some 11], rfl, by omega, by omega, by simp [Back, BackF, fzT, fzM, fzU, fz, fzL, fzO, kin, SubT, Sub, SubL, SubM, SubO, keepM, srcOk, look, lookM, ev, evs, putT, argT, EA, EB, EC, ED, EE, EF, EG, EH, XA, XB, XC, XD, XE, XF, XG, XH, XI, XJ, XK, XL, XM, reduceIte, ↓reduceIte, Nat.reduceAdd, Nat.reduceLeDiff, Nat.reduceEqDiff, Nat.reduceLT, Nat.reduceSub, Nat.reduceBEq, forall_const, reduceCtorEq, implies_true, exists_eq_left', exists_eq_left, if_true, if_false, undef, hsn]⟩
  have f2 : decide ((two : Int) < 4) = true := by simp; omega
  have hw2 : IntKind.i64.wrap ((two : Int) + 1) = ((two + 1 : Nat) : Int) := by rw [wrap_id] <;> omega
  simp (maxSteps := 1000000) only [f2, EA, EB, EC, ED, EE, EF, EG, EH, XA, XB, XC, XD, XE, XF, XG, XH, XI, XJ, XK, XL, XM, reduceIte, ↓reduceIte, Nat.reduceAdd, Nat.reduceLeDiff, Nat.reduceEqDiff, Nat.reduceLT, Nat.reduceSub, Nat.reduceBEq, forall_const, reduceCtorEq, implies_true, exists_eq_left', exists_eq_left, if_true, if_false, undef]
  refine loopO Nat [10] (fun c => [I (c : Nat)]) (fun c => [(11, some (.arr 1 ((rf rule can x (2 * two + c)).map Bo)))]) (fun c => c ≤ 2) (fun c => 2 - c) (by decide) 0 (by simp) (by simp [Back, BackF, fzT, fzM, fzU, fz, fzL, fzO, kin, SubT, Sub, SubL, SubM, SubO, keepM, srcOk, look, lookM, ev, evs, putT, argT, EA, EB, EC, ED, EE, EF, EG, EH, XA, XB, XC, XD, XE, XF, XG, XH, XI, XJ, XK, XL, XM, reduceIte, ↓reduceIte, Nat.reduceAdd, Nat.reduceLeDiff, Nat.reduceEqDiff, Nat.reduceLT, Nat.reduceSub, Nat.reduceBEq, forall_const, reduceCtorEq, implies_true, exists_eq_left', exists_eq_left, if_true, if_false, undef]) (fun c hc => ?_)
  by_cases c3 : c < 2
  rotate_left
  · have f3 : decide ((c : Int) < 2) = false := by simp; omega
    have : c = 2 := by omega
    subst this
    simp (maxSteps := 1000000) only [f3, hw2, EA, EB, EC, ED, EE, EF, EG, EH, XA, XB, XC, XD, XE, XF, XG, XH, XI, XJ, XK, XL, XM, reduceIte, ↓reduceIte, Nat.reduceAdd, Nat.reduceLeDiff, Nat.reduceEqDiff, Nat.reduceLT, Nat.reduceSub, Nat.reduceBEq, forall_const, reduceCtorEq, implies_true, exists_eq_left', exists_eq_left, if_true, if_false, undef]
    exact ⟨two + 1, by omega, by omega, by simp [Back, BackF, fzT, fzM, fzU, fz, fzL, fzO, kin, SubT, Sub, SubL, SubM, SubO, keepM, srcOk, look, lookM, ev, evs, putT, argT, EA, EB, EC, ED, EE, EF, EG, EH, XA, XB, XC, XD, XE, XF, XG, XH, XI, XJ, XK, XL, XM, reduceIte, ↓reduceIte, Nat.reduceAdd, Nat.reduceLeDiff, Nat.reduceEqDiff, Nat.reduceLT, Nat.reduceSub, Nat.reduceBEq, forall_const, reduceCtorEq, implies_true, exists_eq_left', exists_eq_left, if_true, if_false, undef, show 2 * (two + 1) = 2 * two + 2 by omega]⟩
  have f3 : decide ((c : Int) < 2) = true := by simp; omega
  have hw3 : IntKind.i64.wrap ((c : Int) + 1) = ((c + 1 : Nat) : Int) := by rw [wrap_id] <;> omega
  have hj1 : (2 * two + c) / 2 = two := by omega
  have hj2 : (2 * two + c) % 2 = c := by omega
  have hst : rf rule can x (2 * two + c + 1) = rput rule can x (rf rule can x (2 * two + c)) two c := by rw [rf, hj1, hj2]
  have hct : (can.map Bo)[two]? = some (Bo (can.getD two false)) := by
    rw [List.getElem?_map, List.getElem?_eq_getElem (by omega), List.getD_eq_getElem?_getD, List.getElem?_eq_getElem (by omega)]; rfl
  simp (maxSteps := 1000000) only [f3, EA, EB, EC, ED, EE, EF, EG, EH, XA, XB, XC, XD, XE, XF, XG, XH, XI, XJ, XK, XL, XM, reduceIte, ↓reduceIte, Nat.reduceAdd, Nat.reduceLeDiff, Nat.reduceEqDiff, Nat.reduceLT, Nat.reduceSub, Nat.reduceBEq, forall_const, reduceCtorEq, implies_true, exists_eq_left', exists_eq_left, if_true, if_false, undef]
  refine ⟨by omega, by omega, ?_⟩
  simp (maxSteps := 1000000) only [Int.toNat_natCast, EA, EB, EC, ED, EE, EF, EG, EH, XA, XB, XC, XD, XE, XF, XG, XH, XI, XJ, XK, XL, XM, reduceIte, ↓reduceIte, Nat.reduceAdd, Nat.reduceLeDiff, Nat.reduceEqDiff, Nat.reduceLT, Nat.reduceSub, Nat.reduceBEq, forall_const, reduceCtorEq, implies_true, exists_eq_left', exists_eq_left, if_true, if_false, undef]
  refine Pick.mk _ hct ?_
  cases hcan : can.getD two false
  · have hrp : rput rule can x (rf rule can x (2 * two + c)) two c = rf rule can x (2 * two + c) := by rw [rput, hcan, Bool.false_and, if_neg (by simp)]
    simp (maxSteps := 1000000) only [hw3, EA, EB, EC, ED, EE, EF, EG, EH, XA, XB, XC, XD, XE, XF, XG, XH, XI, XJ, XK, XL, XM, reduceIte, ↓reduceIte, Nat.reduceAdd, Nat.reduceLeDiff, Nat.reduceEqDiff, Nat.reduceLT, Nat.reduceSub, Nat.reduceBEq, forall_const, reduceCtorEq, implies_true, exists_eq_left', exists_eq_left, if_true, if_false, undef]
    exact ⟨c + 1, by omega, by omega, by simp [Back, BackF, fzT, fzM, fzU, fz, fzL, fzO, kin, SubT, Sub, SubL, SubM, SubO, keepM, srcOk, look, lookM, ev, evs, putT, argT, EA, EB, EC, ED, EE, EF, EG, EH, XA, XB, XC, XD, XE, XF, XG, XH, XI, XJ, XK, XL, XM, reduceIte, ↓reduceIte, Nat.reduceAdd, Nat.reduceLeDiff, Nat.reduceEqDiff, Nat.reduceLT, Nat.reduceSub, Nat.reduceBEq, forall_const, reduceCtorEq, implies_true, exists_eq_left', exists_eq_left, if_true, if_false, undef, ← Nat.add_assoc, hst, hrp]⟩
  have g1 : decide ((two : Int) ≥ 2) = decide (two ≥ 2) := by rw [decide_eq_decide]; omega
  have g2 : Int.tmod (two : Int) 2 = ((two % 2 : Nat) : Int) := by
    show Int.tmod (two : Int) ((2 : Nat) : Int) = _
    rw [← Int.ofNat_tmod]
  have g3 : (((two % 2 : Nat) : Int) == 1) = (two % 2 == 1) := by
    rw [Bool.eq_iff_iff]; simp; omega
  have g4 : ((c : Int) == 1) = (c == 1) := by rw [Bool.eq_iff_iff]; simp; omega
  simp (maxSteps := 1000000) only [g1, g2, g3, g4, EA, EB, EC, ED, EE, EF, EG, EH, XA, XB, XC, XD, XE, XF, XG, XH, XI, XJ, XK, XL, XM, reduceIte, ↓reduceIte, Nat.reduceAdd, Nat.reduceLeDiff, Nat.reduceEqDiff, Nat.reduceLT, Nat.reduceSub, Nat.reduceBEq, forall_const, reduceCtorEq, implies_true, exists_eq_left', exists_eq_left, if_true, if_false, undef]
  refine ⟨by omega, ?_⟩
  refine callF (CallsA.args (truth_spec rule hr (decide (two ≥ 2)) (two % 2 == 1) (c == 1)) (by simp [EA, EB, EC, ED, EE, EF, EG, EH, XA, XB, XC, XD, XE, XF, XG, XH, XI, XJ, XK, XL, XM, reduceIte, ↓reduceIte, Nat.reduceAdd, Nat.reduceLeDiff, Nat.reduceEqDiff, Nat.reduceLT, Nat.reduceSub, Nat.reduceBEq, forall_const, reduceCtorEq, implies_true, exists_eq_left', exists_eq_left, if_true, if_false, undef])) rfl (by simp [flat, EA, EB, EC, ED, EE, EF, EG, EH, XA, XB, XC, XD, XE, XF, XG, XH, XI, XJ, XK, XL, XM, reduceIte, ↓reduceIte, Nat.reduceAdd, Nat.reduceLeDiff, Nat.reduceEqDiff, Nat.reduceLT, Nat.reduceSub, Nat.reduceBEq, forall_const, reduceCtorEq, implies_true, exists_eq_left', exists_eq_left, if_true, if_false, undef]) ?_
  cases heq : (tru rule (decide (two ≥ 2)) (two % 2 == 1) (c == 1) == x)
  · have hrp : rput rule can x (rf rule can x (2 * two + c)) two c = rf rule can x (2 * two + c) := by rw [rput, hcan, heq, Bool.and_false, if_neg (by simp)]
    simp (maxSteps := 1000000) only [heq, hw3, EA, EB, EC, ED, EE, EF, EG, EH, XA, XB, XC, XD, XE, XF, XG, XH, XI, XJ, XK, XL, XM, reduceIte, ↓reduceIte, Nat.reduceAdd, Nat.reduceLeDiff, Nat.reduceEqDiff, Nat.reduceLT, Nat.reduceSub, Nat.reduceBEq, forall_const, reduceCtorEq, implies_true, exists_eq_left', exists_eq_left, if_true, if_false, undef]
    exact ⟨c + 1, by omega, by omega, by simp [Back, BackF, fzT, fzM, fzU, fz, fzL, fzO, kin, SubT, Sub, SubL, SubM, SubO, keepM, srcOk, look, lookM, ev, evs, putT, argT, EA, EB, EC, ED, EE, EF, EG, EH, XA, XB, XC, XD, XE, XF, XG, XH, XI, XJ, XK, XL, XM, reduceIte, ↓reduceIte, Nat.reduceAdd, Nat.reduceLeDiff, Nat.reduceEqDiff, Nat.reduceLT, Nat.reduceSub, Nat.reduceBEq, forall_const, reduceCtorEq, implies_true, exists_eq_left', exists_eq_left, if_true, if_false, undef, ← Nat.add_assoc, hst, hrp]⟩
  have hrp : rput rule can x (rf rule can x (2 * two + c)) two c = (rf rule can x (2 * two + c)).set (two % 2 * 2 + c) true := by rw [rput, hcan, heq, Bool.and_true, if_pos rfl]
  have hw5 : IntKind.i64.wrap (((two % 2 : Nat) : Int) * 2) = ((two % 2 * 2 : Nat) : Int) := by rw [wrap_id] <;> omega
  have hw6 : IntKind.i64.wrap (((two % 2 * 2 : Nat) : Int) + (c : Int)) = ((two % 2 * 2 + c : Nat) : Int) := by rw [wrap_id] <;> omega
  have hrl : ((rf rule can x (2 * two + c)).map Bo).length = 4 := by rw [List.length_map, rf_length]
  simp (maxSteps := 1000000) only [heq, hw3, g2, hw5, hw6, EA, EB, EC, ED, EE, EF, EG, EH, XA, XB, XC, XD, XE, XF, XG, XH, XI, XJ, XK, XL, XM, reduceIte, ↓reduceIte, Nat.reduceAdd, Nat.reduceLeDiff, Nat.reduceEqDiff, Nat.reduceLT, Nat.reduceSub, Nat.reduceBEq, forall_const, reduceCtorEq, implies_true, exists_eq_left', exists_eq_left, if_true, if_false, undef]
  refine ⟨by omega, by omega, by omega, ?_⟩
  simp (maxSteps := 1000000) only [hrl, Int.toNat_natCast, hw3, EA, EB, EC, ED, EE, EF, EG, EH, XA, XB, XC, XD, XE, XF, XG, XH, XI, XJ, XK, XL, XM, reduceIte, ↓reduceIte, Nat.reduceAdd, Nat.reduceLeDiff, Nat.reduceEqDiff, Nat.reduceLT, Nat.reduceSub, Nat.reduceBEq, forall_const, reduceCtorEq, implies_true, exists_eq_left', exists_eq_left, if_true, if_false, undef]
  refine ⟨by omega, ?_⟩
  exact ⟨c + 1, by omega, by omega, by simp [Back, BackF, fzT, fzM, fzU, fz, fzL, fzO, kin, SubT, Sub, SubL, SubM, SubO, keepM, srcOk, look, lookM, ev, evs, putT, argT, EA, EB, EC, ED, EE, EF, EG, EH, XA, XB, XC, XD, XE, XF, XG, XH, XI, XJ, XK, XL, XM, reduceIte, ↓reduceIte, Nat.reduceAdd, Nat.reduceLeDiff, Nat.reduceEqDiff, Nat.reduceLT, Nat.reduceSub, Nat.reduceBEq, forall_const, reduceCtorEq, implies_true, exists_eq_left', exists_eq_left, if_true, if_false, undef, ← Nat.add_assoc, hst, hrp]⟩

/-- the w-th word of k cells -/
def wd (k w : Nat) : List Bool := (List.range k).map fun j => w.testBit (k - 1 - j)
theorem wd_length (k w : Nat) : (wd k w).length = k := by simp [wd]
theorem wd_take {k w j : Nat} (h : j < k) : (wd k w).take (j + 1) = (wd k w).take j ++ [w.testBit (k - 1 - j)] := by
  rw [List.take_add_one]
  simp [wd, h]

def orphW (rule k w : Nat) : Option (List Bool) := if reachedB rule (wd k w) = true then none else some (wd k w)
def orphK (rule k : Nat) : Option (List Bool) := (List.range (2 ^ k)).findSome? (orphW rule k)
def orph (rule n : Nat) : Option (List Bool) := (List.range n).findSome? fun k => orphK rule (k + 1)

theorem findSome_at {α : Type} {f : Nat → Option α} {n k : Nat} {y : α} (hk : k < n) (h : ∀ j, j < k → f j = none) (hy : f k = some y) : (List.range n).findSome? f = some y := by
  have e : List.range n = List.range k ++ (List.range' k (n - k)) := by
    rw [List.range_eq_range', List.range_eq_range', show n = k + (n - k) by omega, ← List.range'_append_1, Nat.zero_add]
    simp
  rw [e, List.findSome?_append, List.findSome?_eq_none_iff.2 (fun j hj => h j (by simpa using hj))]
  obtain ⟨q, hq⟩ : ∃ q, n - k = q + 1 := ⟨n - k - 1, by omega⟩
  rw [hq, List.range'_succ, List.findSome?_cons, hy]; rfl
theorem findSome_no {α : Type} {f : Nat → Option α} {n : Nat} (h : ∀ j, j < n → f j = none) : (List.range n).findSome? f = none :=
  List.findSome?_eq_none_iff.2 (fun j hj => h j (by simpa using hj))

def orphAns (o : Option (List Bool)) : AV := match o with
  | some w => .tup [.ro 1 (w.map Bo), Bo true]
  | none => .tup [.ro 1 [], Bo false]

theorem orphan_spec (rule : Nat) (hr : rule < 256) (n : Nat) (hn : n ≤ 16) : CallsA Try.prog 19 [I rule, I n] (orphAns (orph rule n)) [] := by
  refine fn_of0 comp19 (by simp) ?_
  unfold code19
  simp (maxSteps := 1000000) only [EA, EB, EC, ED, EE, EF, EG, EH, XA, XB, XC, XD, XE, XF, XG, XH, XI, XJ, XK, XL, XM, reduceIte, ↓reduceIte, Nat.reduceAdd, Nat.reduceLeDiff, Nat.reduceEqDiff, Nat.reduceLT, Nat.reduceSub, Nat.reduceBEq, forall_const, reduceCtorEq, implies_true, exists_eq_left', exists_eq_left, if_true, if_false, undef]
  refine loop0 Nat [6] (fun k => [I ((k + 1 : Nat) : Int)]) (fun k => k ≤ n ∧ ∀ j, j < k → orphK rule (j + 1) = none) (fun k => n - k) (by decide) 0 (by simp) (by simp [Back, BackF, fzT, fzM, fzU, fz, fzL, fzO, kin, SubT, Sub, SubL, SubM, SubO, keepM, srcOk, look, lookM, ev, evs, putT, argT, EA, EB, EC, ED, EE, EF, EG, EH, XA, XB, XC, XD, XE, XF, XG, XH, XI, XJ, XK, XL, XM, reduceIte, ↓reduceIte, Nat.reduceAdd, Nat.reduceLeDiff, Nat.reduceEqDiff, Nat.reduceLT, Nat.reduceSub, Nat.reduceBEq, forall_const, reduceCtorEq, implies_true, exists_eq_left', exists_eq_left, if_true, if_false, undef]) (fun k hk => ?_)
  obtain ⟨hk, hno⟩ := hk
  by_cases c1 : k < n
  rotate_left
  · have f1 : decide (((k + 1 : Nat) : Int) ≤ (n : Int)) = false := by simp; omega
    have : k = n := by omega
    subst this
    rw [orph, findSome_no hno]
    simp (maxSteps := 1000000) only [f1, orphAns, EA, EB, EC, ED, EE, EF, EG, EH, XA, XB, XC, XD, XE, XF, XG, XH, XI, XJ, XK, XL, XM, reduceIte, ↓reduceIte, Nat.reduceAdd, Nat.reduceLeDiff, Nat.reduceEqDiff, Nat.reduceLT, Nat.reduceSub, Nat.reduceBEq, forall_const, reduceCtorEq, implies_true, exists_eq_left', exists_eq_left, if_true, if_false, undef]
  have f1 : decide (((k + 1 : Nat) : Int) ≤ (n : Int)) = true := by simp; omega
  have hw1 : IntKind.i64.wrap (((k + 1 : Nat) : Int) + 1) = ((k + 1 + 1 : Nat) : Int) := by rw [wrap_id] <;> omega
  have hw2 : IntKind.i64.wrap (((k + 1 : Nat) : Int) - 1) = (k : Int) := by rw [wrap_id] <;> omega
  have u1 : IntKind.u64.wrap ((k + 1 : Nat) : Int) = ((k + 1 : Nat) : Int) := wrap_u64 (by omega) (by omega)
  have hsh := shl_one (i := k + 1) (by omega)
  have hp : 2 ^ (k + 1) ≤ 2 ^ 16 := Nat.pow_le_pow_right (by omega) (by omega)
  simp (maxSteps := 1000000) only [f1, EA, EB, EC, ED, EE, EF, EG, EH, XA, XB, XC, XD, XE, XF, XG, XH, XI, XJ, XK, XL, XM, reduceIte, ↓reduceIte, Nat.reduceAdd, Nat.reduceLeDiff, Nat.reduceEqDiff, Nat.reduceLT, Nat.reduceSub, Nat.reduceBEq, forall_const, reduceCtorEq, implies_true, exists_eq_left', exists_eq_left, if_true, if_false, undef]
  generalize hM : 2 ^ (k + 1) = M at hsh hp
  refine loop0 Nat [7] (fun w => [I (w : Nat)]) (fun w => w ≤ M ∧ ∀ j, j < w → orphW rule (k + 1) j = none) (fun w => M - w) (by decide) 0 (by simp) (by simp [Back, BackF, fzT, fzM, fzU, fz, fzL, fzO, kin, SubT, Sub, SubL, SubM, SubO, keepM, srcOk, look, lookM, ev, evs, putT, argT, EA, EB, EC, ED, EE, EF, EG, EH, XA, XB, XC, XD, XE, XF, XG, XH, XI, XJ, XK, XL, XM, reduceIte, ↓reduceIte, Nat.reduceAdd, Nat.reduceLeDiff, Nat.reduceEqDiff, Nat.reduceLT, Nat.reduceSub, Nat.reduceBEq, forall_const, reduceCtorEq, implies_true, exists_eq_left', exists_eq_left, if_true, if_false, undef]) (fun w hw => ?_)
  obtain ⟨hw, hnw⟩ := hw
  simp (maxSteps := 1000000) only [u1, hsh, EA, EB, EC, ED, EE, EF, EG, EH, XA, XB, XC, XD, XE, XF, XG, XH, XI, XJ, XK, XL, XM, reduceIte, ↓reduceIte, Nat.reduceAdd, Nat.reduceLeDiff, Nat.reduceEqDiff, Nat.reduceLT, Nat.reduceSub, Nat.reduceBEq, forall_const, reduceCtorEq, implies_true, exists_eq_left', exists_eq_left, if_true, if_false, undef]
  refine ⟨by omega, ?_⟩
  by_cases c2 : w < M
  rotate_left
  · have f2 : decide ((w : Int) < (M : Int)) = false := by simp; omega
    have : w = M := by omega
    subst this
    simp (maxSteps := 1000000) only [f2, hw1, EA, EB, EC, ED, EE, EF, EG, EH, XA, XB, XC, XD, XE, XF, XG, XH, XI, XJ, XK, XL, XM, reduceIte, ↓reduceIte, Nat.reduceAdd, Nat.reduceLeDiff, Nat.reduceEqDiff, Nat.reduceLT, Nat.reduceSub, Nat.reduceBEq, forall_const, reduceCtorEq, implies_true, exists_eq_left', exists_eq_left, if_true, if_false, undef]
    refine ⟨k + 1, ⟨by omega, fun j hj => ?_⟩, by omega, by simp [Back, BackF, fzT, fzM, fzU, fz, fzL, fzO, kin, SubT, Sub, SubL, SubM, SubO, keepM, srcOk, look, lookM, ev, evs, putT, argT, EA, EB, EC, ED, EE, EF, EG, EH, XA, XB, XC, XD, XE, XF, XG, XH, XI, XJ, XK, XL, XM, reduceIte, ↓reduceIte, Nat.reduceAdd, Nat.reduceLeDiff, Nat.reduceEqDiff, Nat.reduceLT, Nat.reduceSub, Nat.reduceBEq, forall_const, reduceCtorEq, implies_true, exists_eq_left', exists_eq_left, if_true, if_false, undef]⟩
    by_cases hj' : j < k
    · exact hno j hj'
    · rw [show j = k by omega, orphK, hM]; exact findSome_no hnw
  have f2 : decide ((w : Int) < (M : Int)) = true := by simp; omega
  have hw3 : IntKind.i64.wrap ((w : Int) + 1) = ((w + 1 : Nat) : Int) := by rw [wrap_id] <;> omega
  simp (maxSteps := 1000000) only [f2, hw2, EA, EB, EC, ED, EE, EF, EG, EH, XA, XB, XC, XD, XE, XF, XG, XH, XI, XJ, XK, XL, XM, reduceIte, ↓reduceIte, Nat.reduceAdd, Nat.reduceLeDiff, Nat.reduceEqDiff, Nat.reduceLT, Nat.reduceSub, Nat.reduceBEq, forall_const, reduceCtorEq, implies_true, exists_eq_left', exists_eq_left, if_true, if_false, undef]
  refine loopR Nat [9, 8] (fun j => [I ((k : Int) - (j : Int)), .arr 16 0 j]) (fun j => [(16, some (.arr 1 (((wd (k + 1) w).take j).map Bo)))]) 1 (fun j => j ≤ k + 1) (fun j => k + 1 - j) (by decide) 0 [none] rfl (by simp)
    (by simp [Back, BackF, fzT, fzM, fzU, fz, fzL, fzO, kin, SubT, Sub, SubL, SubM, SubO, keepM, srcOk, look, lookM, ev, evs, putT, argT, EA, EB, EC, ED, EE, EF, EG, EH, XA, XB, XC, XD, XE, XF, XG, XH, XI, XJ, XK, XL, XM, reduceIte, ↓reduceIte, Nat.reduceAdd, Nat.reduceLeDiff, Nat.reduceEqDiff, Nat.reduceLT, Nat.reduceSub, Nat.reduceBEq, forall_const, reduceCtorEq, implies_true, exists_eq_left', exists_eq_left, if_true, if_false, undef]) (fun j hj => ?_)
  by_cases c3 : j < k + 1
  · have f3 : decide ((k : Int) - (j : Int) ≥ 0) = true := by simp; omega
    have hw4 : IntKind.i64.wrap ((k : Int) - (j : Int) - 1) = (k : Int) - ((j + 1 : Nat) : Int) := by rw [wrap_id] <;> omega
    have hkj : (k : Int) - (j : Int) = ((k + 1 - 1 - j : Nat) : Int) := by omega
    have hdl : (((wd (k + 1) w).take j).map Bo).length = j := by rw [List.length_map, List.length_take, wd_length]; omega
    simp (maxSteps := 1000000) only [f3, hw4, EA, EB, EC, ED, EE, EF, EG, EH, XA, XB, XC, XD, XE, XF, XG, XH, XI, XJ, XK, XL, XM, reduceIte, ↓reduceIte, Nat.reduceAdd, Nat.reduceLeDiff, Nat.reduceEqDiff, Nat.reduceLT, Nat.reduceSub, Nat.reduceBEq, forall_const, reduceCtorEq, implies_true, exists_eq_left', exists_eq_left, if_true, if_false, undef]
    refine callF (CallsA.args (bit_spec w (k + 1 - 1 - j) (by omega) (by omega) ) (by simp [ hkj,EA, EB, EC, ED, EE, EF, EG, EH, XA, XB, XC, XD, XE, XF, XG, XH, XI, XJ, XK, XL, XM, reduceIte, ↓reduceIte, Nat.reduceAdd, Nat.reduceLeDiff, Nat.reduceEqDiff, Nat.reduceLT, Nat.reduceSub, Nat.reduceBEq, forall_const, reduceCtorEq, implies_true, exists_eq_left', exists_eq_left, if_true, if_false, undef])) rfl (by simp [flat, EA, EB, EC, ED, EE, EF, EG, EH, XA, XB, XC, XD, XE, XF, XG, XH, XI, XJ, XK, XL, XM, reduceIte, ↓reduceIte, Nat.reduceAdd, Nat.reduceLeDiff, Nat.reduceEqDiff, Nat.reduceLT, Nat.reduceSub, Nat.reduceBEq, forall_const, reduceCtorEq, implies_true, exists_eq_left', exists_eq_left, if_true, if_false, undef]) ?_
    simp (maxSteps := 1000000) only [hw4, hdl, EA, EB, EC, ED, EE, EF, EG, EH, XA, XB, XC, XD, XE, XF, XG, XH, XI, XJ, XK, XL, XM, reduceIte, ↓reduceIte, Nat.reduceAdd, Nat.reduceLeDiff, Nat.reduceEqDiff, Nat.reduceLT, Nat.reduceSub, Nat.reduceBEq, forall_const, reduceCtorEq, implies_true, exists_eq_left', exists_eq_left, if_true, if_false, undef]
    refine ⟨by omega, ?_⟩
    refine ⟨j + 1, [some 24], rfl, by omega, by omega, ?_⟩
    simp [Back, BackF, fzT, fzM, fzU, fz, fzL, fzO, kin, SubT, Sub, SubL, SubM, SubO, keepM, srcOk, look, lookM, ev, evs, putT, argT, EA, EB, EC, ED, EE, EF, EG, EH, XA, XB, XC, XD, XE, XF, XG, XH, XI, XJ, XK, XL, XM, reduceIte, ↓reduceIte, Nat.reduceAdd, Nat.reduceLeDiff, Nat.reduceEqDiff, Nat.reduceLT, Nat.reduceSub, Nat.reduceBEq, forall_const, reduceCtorEq, implies_true, exists_eq_left', exists_eq_left, if_true, if_false, undef, wd_take c3]
  have f3 : decide ((k : Int) - (j : Int) ≥ 0) = false := by simp; omega
  have : j = k + 1 := by omega
  subst this
  have htake : (wd (k + 1) w).take (k + 1) = wd (k + 1) w := List.take_of_length_le (by rw [wd_length]; omega)
  have hdl : ((wd (k + 1) w).map Bo).length = k + 1 := by rw [List.length_map, wd_length]
  have htk2 : ((wd (k + 1) w).map Bo).take (k + 1) = (wd (k + 1) w).map Bo := List.take_of_length_le (by omega)
  simp (maxSteps := 1000000) only [f3, htake, EA, EB, EC, ED, EE, EF, EG, EH, XA, XB, XC, XD, XE, XF, XG, XH, XI, XJ, XK, XL, XM, reduceIte, ↓reduceIte, Nat.reduceAdd, Nat.reduceLeDiff, Nat.reduceEqDiff, Nat.reduceLT, Nat.reduceSub, Nat.reduceBEq, forall_const, reduceCtorEq, implies_true, exists_eq_left', exists_eq_left, if_true, if_false, undef]
  refine callF (CallsA.args (reached_spec rule hr (wd (k + 1) w) (by rw [wd_length]; omega) ) (by simp [ htk2,EA, EB, EC, ED, EE, EF, EG, EH, XA, XB, XC, XD, XE, XF, XG, XH, XI, XJ, XK, XL, XM, reduceIte, ↓reduceIte, Nat.reduceAdd, Nat.reduceLeDiff, Nat.reduceEqDiff, Nat.reduceLT, Nat.reduceSub, Nat.reduceBEq, forall_const, reduceCtorEq, implies_true, exists_eq_left', exists_eq_left, if_true, if_false, undef])) rfl (by simp [flat, EA, EB, EC, ED, EE, EF, EG, EH, XA, XB, XC, XD, XE, XF, XG, XH, XI, XJ, XK, XL, XM, reduceIte, ↓reduceIte, Nat.reduceAdd, Nat.reduceLeDiff, Nat.reduceEqDiff, Nat.reduceLT, Nat.reduceSub, Nat.reduceBEq, forall_const, reduceCtorEq, implies_true, exists_eq_left', exists_eq_left, if_true, if_false, undef]) ?_
  cases hre : reachedB rule (wd (k + 1) w)
  · have hW : orphW rule (k + 1) w = some (wd (k + 1) w) := by rw [orphW, hre, if_neg (by simp)]
    rw [orph, findSome_at c1 hno (by rw [orphK, hM]; exact findSome_at c2 hnw hW)]
    simp (maxSteps := 1000000) only [hre, orphAns, htk2, EA, EB, EC, ED, EE, EF, EG, EH, XA, XB, XC, XD, XE, XF, XG, XH, XI, XJ, XK, XL, XM, reduceIte, ↓reduceIte, Nat.reduceAdd, Nat.reduceLeDiff, Nat.reduceEqDiff, Nat.reduceLT, Nat.reduceSub, Nat.reduceBEq, forall_const, reduceCtorEq, implies_true, exists_eq_left', exists_eq_left, if_true, if_false, undef]
  · have hW : orphW rule (k + 1) w = none := by rw [orphW, hre, if_pos rfl]
    simp (maxSteps := 1000000) only [hre, hw3, EA, EB, EC, ED, EE, EF, EG, EH, XA, XB, XC, XD, XE, XF, XG, XH, XI, XJ, XK, XL, XM, reduceIte, ↓reduceIte, Nat.reduceAdd, Nat.reduceLeDiff, Nat.reduceEqDiff, Nat.reduceLT, Nat.reduceSub, Nat.reduceBEq, forall_const, reduceCtorEq, implies_true, exists_eq_left', exists_eq_left, if_true, if_false, undef]
    refine ⟨w + 1, ⟨by omega, fun j hj => ?_⟩, by omega, by simp [Back, BackF, fzT, fzM, fzU, fz, fzL, fzO, kin, SubT, Sub, SubL, SubM, SubO, keepM, srcOk, look, lookM, ev, evs, putT, argT, EA, EB, EC, ED, EE, EF, EG, EH, XA, XB, XC, XD, XE, XF, XG, XH, XI, XJ, XK, XL, XM, reduceIte, ↓reduceIte, Nat.reduceAdd, Nat.reduceLeDiff, Nat.reduceEqDiff, Nat.reduceLT, Nat.reduceSub, Nat.reduceBEq, forall_const, reduceCtorEq, implies_true, exists_eq_left', exists_eq_left, if_true, if_false, undef]⟩
    by_cases hj' : j < w
    · exact hnw j hj'
    · rw [show j = w by omega]; exact hW

end Go.Av
