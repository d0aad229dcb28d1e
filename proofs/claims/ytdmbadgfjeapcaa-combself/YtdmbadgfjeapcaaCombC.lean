/- Terms of combinators: the document's check. -/
import Derived.Test.YtdmbadgfjeapcaaCombR
set_option linter.unusedSimpArgs false
set_option linter.unusedVariables false
set_option maxRecDepth 100000
namespace Go.Av
open Go.Proofs

def nodeErr (i : Nat) (c : Cb) : Int :=
  if ¬(1 ≤ c.kind ∧ c.kind ≤ 4) then 6 else if c.kind = 3 ∧ ¬(0 ≤ c.var ∧ c.var ≤ 1000) then 4 else if c.kind = 4 ∧ ¬((0 ≤ c.a ∧ c.a < i) ∧ (0 ≤ c.b ∧ c.b < i)) then 2 else 0
def cbAt (l : List Cb) (i : Nat) : Cb := (l[i]?).getD ⟨0, 0, 0, 0⟩
def cbErr (l : List Cb) : Nat → Int
  | 0 => 0
  | k + 1 => if cbErr l k ≠ 0 then cbErr l k else nodeErr k (cbAt l k)
theorem cbErr_stay {l : List Cb} {k : Nat} (h : cbErr l k ≠ 0) : ∀ {n : Nat}, k ≤ n → cbErr l n = cbErr l k
  | 0, hn => by obtain rfl : k = 0 := by omega
                rfl
  | n + 1, hn => by
    by_cases hk : k = n + 1
    · rw [hk]
    · have := cbErr_stay h (n := n) (by omega)
      rw [cbErr, this, if_pos h]
theorem cbErr_zero {l : List Cb} : ∀ {n : Nat}, cbErr l n = 0 → ∀ k, k < n → nodeErr k (cbAt l k) = 0
  | n + 1, h, k, hk => by
    rw [cbErr] at h
    split at h
    · rename_i h1; exact (h1 h).elim
    · rename_i h1
      by_cases hkn : k = n
      · subst hkn; exact h
      · exact cbErr_zero (n := n) (by omega) k (by omega)
theorem node_ok {i : Nat} {c : Cb} (h : nodeErr i c = 0) : CbOk i c ∧ (c.kind = 3 → 0 ≤ c.var ∧ c.var ≤ 1000) := by
  simp only [nodeErr] at h
  split at h
  · omega
  · split at h
    · omega
    · split at h
      · omega
      · exact ⟨⟨by omega, fun h4 => by omega⟩, fun h3 => by omega⟩
theorem lst_ok {l : List Cb} (h : cbErr l l.length = 0) : LstOk l := fun i hi => by
  have := (node_ok (cbErr_zero h i hi)).1
  rwa [cbAt, List.getElem?_eq_getElem hi] at this

def combErr (l : List Cb) : Int :=
  if ¬(1 ≤ (l.length : Int) ∧ (l.length : Int) ≤ 40) then 1 else if cbErr l l.length ≠ 0 then cbErr l l.length else if 300 < (treeT l (l.length - 1)).size then 1 else 0

/-- a size, as far as it matters -/
def capT (t : Tm) : Nat := min 301 t.size
theorem cap_put (a b : Tm) : capT (.put a b) = min 301 (1 + capT a + capT b) := by simp only [capT, Tm.size]; omega
/-- sizes of the first nodes -/
def szs (l : List Cb) (k : Nat) : List Nat := (List.range l.length).map fun i => if i < k then capT (treeT l i) else 0
theorem szs_length (l : List Cb) (k : Nat) : (szs l k).length = l.length := by simp [szs]
theorem szs_get {l : List Cb} {k i : Nat} (h : i < l.length) : (szs l k)[i]? = some (if i < k then capT (treeT l i) else 0) := by simp [szs, h]
theorem szs_set {l : List Cb} {k : Nat} (h : k < l.length) : (szs l k).set k (capT (treeT l k)) = szs l (k + 1) := by
  apply List.ext_getElem?
  intro i
  rw [List.getElem?_set]
  by_cases hi : i < l.length
  · by_cases hk : k = i
    · subst hk
      rw [if_pos rfl, if_pos (by rw [szs_length]; exact hi), szs_get hi, if_pos (by omega)]
    · rw [if_neg hk, szs_get hi, szs_get hi]
      by_cases hik : i < k
      · rw [if_pos hik, if_pos (by omega)]
      · rw [if_neg hik, if_neg (by omega)]
  · have h1 : (szs l k)[i]? = none := List.getElem?_eq_none (by rw [szs_length]; omega)
    have h2 : (szs l (k + 1))[i]? = none := List.getElem?_eq_none (by rw [szs_length]; omega)
    rw [h1, h2, if_neg (by omega)]

theorem combCheck_spec (l : List Cb) (hl : (l.length : Int) < 2 ^ 63) : CallsA Try.prog 11 [.ro 4 (l.map encC)] (I (combErr l)) [] := by
  refine fn_of0 comp11 (by simp) ?_
  unfold code11
  have hll : ((l.map encC).length : Int) = l.length := by simp
  simp (maxSteps := 1000000) only [hll, encC, EA, EB, EC, ED, EE, EF, EG, EH, XA, XB, XC, XD, XE, XF, XG, XH, XI, XJ, XK, XL, XM, reduceIte, ↓reduceIte, Nat.reduceAdd, Nat.reduceLeDiff, Nat.reduceEqDiff, Nat.reduceLT, Nat.reduceSub, Nat.reduceBEq, forall_const, reduceCtorEq, implies_true, exists_eq_left', exists_eq_left, if_true, if_false, undef]
  refine callF (CallsA.args (within_spec 1 (l.length : Int) 40 ) (by simp [ hll,encC, EA, EB, EC, ED, EE, EF, EG, EH, XA, XB, XC, XD, XE, XF, XG, XH, XI, XJ, XK, XL, XM, reduceIte, ↓reduceIte, Nat.reduceAdd, Nat.reduceLeDiff, Nat.reduceEqDiff, Nat.reduceLT, Nat.reduceSub, Nat.reduceBEq, forall_const, reduceCtorEq, implies_true, exists_eq_left', exists_eq_left, if_true, if_false, undef])) rfl (by simp [flat, encC, EA, EB, EC, ED, EE, EF, EG, EH, XA, XB, XC, XD, XE, XF, XG, XH, XI, XJ, XK, XL, XM, reduceIte, ↓reduceIte, Nat.reduceAdd, Nat.reduceLeDiff, Nat.reduceEqDiff, Nat.reduceLT, Nat.reduceSub, Nat.reduceBEq, forall_const, reduceCtorEq, implies_true, exists_eq_left', exists_eq_left, if_true, if_false, undef]) ?_
  by_cases h40 : 1 ≤ (l.length : Int) ∧ (l.length : Int) ≤ 40
  rotate_left
  · have f1 : decide (1 ≤ (l.length : Int) ∧ (l.length : Int) ≤ 40) = false := by rw [decide_eq_false_iff_not]; exact h40
    rw [combErr, if_pos h40]
    simp (maxSteps := 1000000) only [f1, Bo, encC, EA, EB, EC, ED, EE, EF, EG, EH, XA, XB, XC, XD, XE, XF, XG, XH, XI, XJ, XK, XL, XM, reduceIte, ↓reduceIte, Nat.reduceAdd, Nat.reduceLeDiff, Nat.reduceEqDiff, Nat.reduceLT, Nat.reduceSub, Nat.reduceBEq, forall_const, reduceCtorEq, implies_true, exists_eq_left', exists_eq_left, if_true, if_false, undef]
  have f1 : decide (1 ≤ (l.length : Int) ∧ (l.length : Int) ≤ 40) = true := by rw [decide_eq_true_iff]; exact h40
  simp (maxSteps := 1000000) only [f1, Bo, encC, EA, EB, EC, ED, EE, EF, EG, EH, XA, XB, XC, XD, XE, XF, XG, XH, XI, XJ, XK, XL, XM, reduceIte, ↓reduceIte, Nat.reduceAdd, Nat.reduceLeDiff, Nat.reduceEqDiff, Nat.reduceLT, Nat.reduceSub, Nat.reduceBEq, forall_const, reduceCtorEq, implies_true, exists_eq_left', exists_eq_left, if_true, if_false, undef]
  refine loop0 Nat [14] (fun k => [IN k]) (fun k => k ≤ l.length ∧ cbErr l k = 0) (fun k => l.length - k) (by decide) 0 (by simp [cbErr]) (by simp [Back, BackF, fzT, fzM, fzU, fz, fzL, fzO, kin, SubT, Sub, SubL, SubM, SubO, keepM, srcOk, look, lookM, ev, evs, putT, argT, encC, EA, EB, EC, ED, EE, EF, EG, EH, XA, XB, XC, XD, XE, XF, XG, XH, XI, XJ, XK, XL, XM, reduceIte, ↓reduceIte, Nat.reduceAdd, Nat.reduceLeDiff, Nat.reduceEqDiff, Nat.reduceLT, Nat.reduceSub, Nat.reduceBEq, forall_const, reduceCtorEq, implies_true, exists_eq_left', exists_eq_left, if_true, if_false, undef]) ?_
  rintro k ⟨hk, hz⟩
  by_cases c1 : k < l.length
  · have g1 : decide ((k : Int) < (l.length : Int)) = true := by simp [c1]
    have hw : IntKind.i64.wrap ((k : Int) + 1) = ((k + 1 : Nat) : Int) := by rw [wrap_id] <;> omega
    have hnx : cbErr l (k + 1) = nodeErr k l[k] := by rw [cbErr, if_neg (by simp [hz]), cbAt, List.getElem?_eq_getElem c1]; rfl
    have hbad : nodeErr k l[k] ≠ 0 → combErr l = nodeErr k l[k] := fun h => by
      have h1 : cbErr l l.length = nodeErr k l[k] := by rw [← hnx]; exact cbErr_stay (by rw [hnx]; exact h) (by omega)
      rw [combErr, if_neg (by omega), h1, if_pos h]
    simp (maxSteps := 1000000) only [hll, g1, encC, EA, EB, EC, ED, EE, EF, EG, EH, XA, XB, XC, XD, XE, XF, XG, XH, XI, XJ, XK, XL, XM, reduceIte, ↓reduceIte, Nat.reduceAdd, Nat.reduceLeDiff, Nat.reduceEqDiff, Nat.reduceLT, Nat.reduceSub, Nat.reduceBEq, forall_const, reduceCtorEq, implies_true, exists_eq_left', exists_eq_left, if_true, if_false, undef]
    refine ⟨by omega, pickM c1 ?_⟩
    generalize l[k] = c at *
    obtain ⟨kd, a, b, vr⟩ := c
    simp (maxSteps := 1000000) only [encC, splice, AV.cells, encC, EA, EB, EC, ED, EE, EF, EG, EH, XA, XB, XC, XD, XE, XF, XG, XH, XI, XJ, XK, XL, XM, reduceIte, ↓reduceIte, Nat.reduceAdd, Nat.reduceLeDiff, Nat.reduceEqDiff, Nat.reduceLT, Nat.reduceSub, Nat.reduceBEq, forall_const, reduceCtorEq, implies_true, exists_eq_left', exists_eq_left, if_true, if_false, undef]
    refine callF (CallsA.args (within_spec 1 kd 4) (by simp [encC, EA, EB, EC, ED, EE, EF, EG, EH, XA, XB, XC, XD, XE, XF, XG, XH, XI, XJ, XK, XL, XM, reduceIte, ↓reduceIte, Nat.reduceAdd, Nat.reduceLeDiff, Nat.reduceEqDiff, Nat.reduceLT, Nat.reduceSub, Nat.reduceBEq, forall_const, reduceCtorEq, implies_true, exists_eq_left', exists_eq_left, if_true, if_false, undef])) rfl (by simp [flat, encC, EA, EB, EC, ED, EE, EF, EG, EH, XA, XB, XC, XD, XE, XF, XG, XH, XI, XJ, XK, XL, XM, reduceIte, ↓reduceIte, Nat.reduceAdd, Nat.reduceLeDiff, Nat.reduceEqDiff, Nat.reduceLT, Nat.reduceSub, Nat.reduceBEq, forall_const, reduceCtorEq, implies_true, exists_eq_left', exists_eq_left, if_true, if_false, undef]) ?_
    by_cases h1 : 1 ≤ kd ∧ kd ≤ 4
    rotate_left
    · have f2 : decide (1 ≤ kd ∧ kd ≤ 4) = false := by rw [decide_eq_false_iff_not]; exact h1
      have he : nodeErr k ⟨kd, a, b, vr⟩ = 6 := by rw [nodeErr, if_pos h1]
      rw [hbad (by rw [he]; decide), he]
      simp (maxSteps := 1000000) only [f2, Bo, encC, EA, EB, EC, ED, EE, EF, EG, EH, XA, XB, XC, XD, XE, XF, XG, XH, XI, XJ, XK, XL, XM, reduceIte, ↓reduceIte, Nat.reduceAdd, Nat.reduceLeDiff, Nat.reduceEqDiff, Nat.reduceLT, Nat.reduceSub, Nat.reduceBEq, forall_const, reduceCtorEq, implies_true, exists_eq_left', exists_eq_left, if_true, if_false, undef]
    have f2 : decide (1 ≤ kd ∧ kd ≤ 4) = true := by rw [decide_eq_true_iff]; exact h1
    simp (maxSteps := 1000000) only [f2, Bo, encC, EA, EB, EC, ED, EE, EF, EG, EH, XA, XB, XC, XD, XE, XF, XG, XH, XI, XJ, XK, XL, XM, reduceIte, ↓reduceIte, Nat.reduceAdd, Nat.reduceLeDiff, Nat.reduceEqDiff, Nat.reduceLT, Nat.reduceSub, Nat.reduceBEq, forall_const, reduceCtorEq, implies_true, exists_eq_left', exists_eq_left, if_true, if_false, undef]
    by_cases h3 : kd = 3
    · have e3 : (kd == 3) = true := by simpa using h3
      have e4 : (kd == 4) = false := by simp; omega
      simp (maxSteps := 1000000) only [e3, encC, EA, EB, EC, ED, EE, EF, EG, EH, XA, XB, XC, XD, XE, XF, XG, XH, XI, XJ, XK, XL, XM, reduceIte, ↓reduceIte, Nat.reduceAdd, Nat.reduceLeDiff, Nat.reduceEqDiff, Nat.reduceLT, Nat.reduceSub, Nat.reduceBEq, forall_const, reduceCtorEq, implies_true, exists_eq_left', exists_eq_left, if_true, if_false, undef]
      refine callF (CallsA.args (within_spec 0 vr 1000) (by simp [encC, EA, EB, EC, ED, EE, EF, EG, EH, XA, XB, XC, XD, XE, XF, XG, XH, XI, XJ, XK, XL, XM, reduceIte, ↓reduceIte, Nat.reduceAdd, Nat.reduceLeDiff, Nat.reduceEqDiff, Nat.reduceLT, Nat.reduceSub, Nat.reduceBEq, forall_const, reduceCtorEq, implies_true, exists_eq_left', exists_eq_left, if_true, if_false, undef])) rfl (by simp [flat, encC, EA, EB, EC, ED, EE, EF, EG, EH, XA, XB, XC, XD, XE, XF, XG, XH, XI, XJ, XK, XL, XM, reduceIte, ↓reduceIte, Nat.reduceAdd, Nat.reduceLeDiff, Nat.reduceEqDiff, Nat.reduceLT, Nat.reduceSub, Nat.reduceBEq, forall_const, reduceCtorEq, implies_true, exists_eq_left', exists_eq_left, if_true, if_false, undef]) ?_
      by_cases h2 : 0 ≤ vr ∧ vr ≤ 1000
      · have f3 : decide (0 ≤ vr ∧ vr ≤ 1000) = true := by rw [decide_eq_true_iff]; exact h2
        have he : nodeErr k ⟨kd, a, b, vr⟩ = 0 := by
          simp only [nodeErr]; rw [if_neg (by omega), if_neg (by omega), if_neg (by omega)]
        simp (maxSteps := 1000000) only [f3, e4, hw, Bo, encC, EA, EB, EC, ED, EE, EF, EG, EH, XA, XB, XC, XD, XE, XF, XG, XH, XI, XJ, XK, XL, XM, reduceIte, ↓reduceIte, Nat.reduceAdd, Nat.reduceLeDiff, Nat.reduceEqDiff, Nat.reduceLT, Nat.reduceSub, Nat.reduceBEq, forall_const, reduceCtorEq, implies_true, exists_eq_left', exists_eq_left, if_true, if_false, undef]
        exact ⟨k + 1, ⟨by omega, by rw [hnx, he]⟩, by omega, by simp [Back, BackF, fzT, fzM, fzU, fz, fzL, fzO, kin, SubT, Sub, SubL, SubM, SubO, keepM, srcOk, look, lookM, ev, evs, putT, argT, encC, EA, EB, EC, ED, EE, EF, EG, EH, XA, XB, XC, XD, XE, XF, XG, XH, XI, XJ, XK, XL, XM, reduceIte, ↓reduceIte, Nat.reduceAdd, Nat.reduceLeDiff, Nat.reduceEqDiff, Nat.reduceLT, Nat.reduceSub, Nat.reduceBEq, forall_const, reduceCtorEq, implies_true, exists_eq_left', exists_eq_left, if_true, if_false, undef]⟩
      · have f3 : decide (0 ≤ vr ∧ vr ≤ 1000) = false := by rw [decide_eq_false_iff_not]; exact h2
        have he : nodeErr k ⟨kd, a, b, vr⟩ = 4 := by simp only [nodeErr]; rw [if_neg (by omega), if_pos ⟨h3, h2⟩]
        rw [hbad (by rw [he]; decide), he]
        simp (maxSteps := 1000000) only [f3, Bo, encC, EA, EB, EC, ED, EE, EF, EG, EH, XA, XB, XC, XD, XE, XF, XG, XH, XI, XJ, XK, XL, XM, reduceIte, ↓reduceIte, Nat.reduceAdd, Nat.reduceLeDiff, Nat.reduceEqDiff, Nat.reduceLT, Nat.reduceSub, Nat.reduceBEq, forall_const, reduceCtorEq, implies_true, exists_eq_left', exists_eq_left, if_true, if_false, undef]
    have e3 : (kd == 3) = false := by simpa using h3
    by_cases h4 : kd = 4
    · have e4 : (kd == 4) = true := by simpa using h4
      have hin := inside_spec (k : Int) [a, b] (by simp)
      have hal : ([a, b].all fun i => decide (0 ≤ i ∧ i < (k : Int))) = decide ((0 ≤ a ∧ a < (k : Int)) ∧ (0 ≤ b ∧ b < (k : Int))) := by
        simp only [List.all_cons, List.all_nil, Bool.and_true, ← Bool.decide_and]
      rw [hal] at hin
      simp only [List.map_cons, List.map_nil] at hin
      simp (maxSteps := 1000000) only [e3, e4, encC, EA, EB, EC, ED, EE, EF, EG, EH, XA, XB, XC, XD, XE, XF, XG, XH, XI, XJ, XK, XL, XM, reduceIte, ↓reduceIte, Nat.reduceAdd, Nat.reduceLeDiff, Nat.reduceEqDiff, Nat.reduceLT, Nat.reduceSub, Nat.reduceBEq, forall_const, reduceCtorEq, implies_true, exists_eq_left', exists_eq_left, if_true, if_false, undef]
      refine callF (CallsA.args (hin) (by simp [encC, EA, EB, EC, ED, EE, EF, EG, EH, XA, XB, XC, XD, XE, XF, XG, XH, XI, XJ, XK, XL, XM, reduceIte, ↓reduceIte, Nat.reduceAdd, Nat.reduceLeDiff, Nat.reduceEqDiff, Nat.reduceLT, Nat.reduceSub, Nat.reduceBEq, forall_const, reduceCtorEq, implies_true, exists_eq_left', exists_eq_left, if_true, if_false, undef])) rfl (by simp [flat, encC, EA, EB, EC, ED, EE, EF, EG, EH, XA, XB, XC, XD, XE, XF, XG, XH, XI, XJ, XK, XL, XM, reduceIte, ↓reduceIte, Nat.reduceAdd, Nat.reduceLeDiff, Nat.reduceEqDiff, Nat.reduceLT, Nat.reduceSub, Nat.reduceBEq, forall_const, reduceCtorEq, implies_true, exists_eq_left', exists_eq_left, if_true, if_false, undef]) ?_
      by_cases h2 : (0 ≤ a ∧ a < (k : Int)) ∧ (0 ≤ b ∧ b < (k : Int))
      · have f3 : decide ((0 ≤ a ∧ a < (k : Int)) ∧ (0 ≤ b ∧ b < (k : Int))) = true := by rw [decide_eq_true_iff]; exact h2
        have he : nodeErr k ⟨kd, a, b, vr⟩ = 0 := by
          simp only [nodeErr]; rw [if_neg (by omega), if_neg (by omega), if_neg (by omega)]
        simp (maxSteps := 1000000) only [f3, hw, Bo, encC, EA, EB, EC, ED, EE, EF, EG, EH, XA, XB, XC, XD, XE, XF, XG, XH, XI, XJ, XK, XL, XM, reduceIte, ↓reduceIte, Nat.reduceAdd, Nat.reduceLeDiff, Nat.reduceEqDiff, Nat.reduceLT, Nat.reduceSub, Nat.reduceBEq, forall_const, reduceCtorEq, implies_true, exists_eq_left', exists_eq_left, if_true, if_false, undef]
        exact ⟨k + 1, ⟨by omega, by rw [hnx, he]⟩, by omega, by simp [Back, BackF, fzT, fzM, fzU, fz, fzL, fzO, kin, SubT, Sub, SubL, SubM, SubO, keepM, srcOk, look, lookM, ev, evs, putT, argT, encC, EA, EB, EC, ED, EE, EF, EG, EH, XA, XB, XC, XD, XE, XF, XG, XH, XI, XJ, XK, XL, XM, reduceIte, ↓reduceIte, Nat.reduceAdd, Nat.reduceLeDiff, Nat.reduceEqDiff, Nat.reduceLT, Nat.reduceSub, Nat.reduceBEq, forall_const, reduceCtorEq, implies_true, exists_eq_left', exists_eq_left, if_true, if_false, undef]⟩
      · have f3 : decide ((0 ≤ a ∧ a < (k : Int)) ∧ (0 ≤ b ∧ b < (k : Int))) = false := by rw [decide_eq_false_iff_not]; exact h2
        have he : nodeErr k ⟨kd, a, b, vr⟩ = 2 := by simp only [nodeErr]; rw [if_neg (by omega), if_neg (by omega), if_pos ⟨h4, h2⟩]
        rw [hbad (by rw [he]; decide), he]
        simp (maxSteps := 1000000) only [f3, Bo, encC, EA, EB, EC, ED, EE, EF, EG, EH, XA, XB, XC, XD, XE, XF, XG, XH, XI, XJ, XK, XL, XM, reduceIte, ↓reduceIte, Nat.reduceAdd, Nat.reduceLeDiff, Nat.reduceEqDiff, Nat.reduceLT, Nat.reduceSub, Nat.reduceBEq, forall_const, reduceCtorEq, implies_true, exists_eq_left', exists_eq_left, if_true, if_false, undef]
    have e4 : (kd == 4) = false := by simpa using h4
    have he : nodeErr k ⟨kd, a, b, vr⟩ = 0 := by
      simp only [nodeErr]; rw [if_neg (by omega), if_neg (by omega), if_neg (by omega)]
    simp (maxSteps := 1000000) only [e3, e4, hw, encC, EA, EB, EC, ED, EE, EF, EG, EH, XA, XB, XC, XD, XE, XF, XG, XH, XI, XJ, XK, XL, XM, reduceIte, ↓reduceIte, Nat.reduceAdd, Nat.reduceLeDiff, Nat.reduceEqDiff, Nat.reduceLT, Nat.reduceSub, Nat.reduceBEq, forall_const, reduceCtorEq, implies_true, exists_eq_left', exists_eq_left, if_true, if_false, undef]
    exact ⟨k + 1, ⟨by omega, by rw [hnx, he]⟩, by omega, by simp [Back, BackF, fzT, fzM, fzU, fz, fzL, fzO, kin, SubT, Sub, SubL, SubM, SubO, keepM, srcOk, look, lookM, ev, evs, putT, argT, encC, EA, EB, EC, ED, EE, EF, EG, EH, XA, XB, XC, XD, XE, XF, XG, XH, XI, XJ, XK, XL, XM, reduceIte, ↓reduceIte, Nat.reduceAdd, Nat.reduceLeDiff, Nat.reduceEqDiff, Nat.reduceLT, Nat.reduceSub, Nat.reduceBEq, forall_const, reduceCtorEq, implies_true, exists_eq_left', exists_eq_left, if_true, if_false, undef]⟩
  have g1 : decide ((k : Int) < (l.length : Int)) = false := by simp; omega
  obtain rfl : k = l.length := by omega
  have hlok := lst_ok hz
  have hE : combErr l = if 300 < (treeT l (l.length - 1)).size then 1 else 0 := by rw [combErr, if_neg (by omega), if_neg (by simp [hz])]
  have hrep : List.replicate (l.length : Int).toNat (AV.v (.int .i64 0)) = (szs l 0).map IN := by
    apply List.ext_getElem?
    intro i
    by_cases hi : i < l.length
    · rw [List.getElem?_map, szs_get hi]; simp [hi]
    · rw [List.getElem?_eq_none (by simp; omega), List.getElem?_eq_none (by rw [List.length_map, szs_length]; omega)]
  simp (maxSteps := 1000000) only [hll, g1, hrep, encC, EA, EB, EC, ED, EE, EF, EG, EH, XA, XB, XC, XD, XE, XF, XG, XH, XI, XJ, XK, XL, XM, reduceIte, ↓reduceIte, Nat.reduceAdd, Nat.reduceLeDiff, Nat.reduceEqDiff, Nat.reduceLT, Nat.reduceSub, Nat.reduceBEq, forall_const, reduceCtorEq, implies_true, exists_eq_left', exists_eq_left, if_true, if_false, undef]
  refine ⟨by omega, by omega, by omega, ?_⟩
  refine loopO Nat [51] (fun k => [IN k]) (fun k => [(11, some (.arr 1 ((szs l k).map IN)))]) (fun k => k ≤ l.length) (fun k => l.length - k) (by decide) 0 (by simp) (by simp [Back, BackF, fzT, fzM, fzU, fz, fzL, fzO, kin, SubT, Sub, SubL, SubM, SubO, keepM, srcOk, look, lookM, ev, evs, putT, argT, encC, EA, EB, EC, ED, EE, EF, EG, EH, XA, XB, XC, XD, XE, XF, XG, XH, XI, XJ, XK, XL, XM, reduceIte, ↓reduceIte, Nat.reduceAdd, Nat.reduceLeDiff, Nat.reduceEqDiff, Nat.reduceLT, Nat.reduceSub, Nat.reduceBEq, forall_const, reduceCtorEq, implies_true, exists_eq_left', exists_eq_left, if_true, if_false, undef]) (fun k hk => ?_)
  have hzl : ((szs l k).map IN).length = l.length := by rw [List.length_map, szs_length]
  by_cases c1 : k < l.length
  rotate_left
  · have g1 : decide ((k : Int) < (l.length : Int)) = false := by simp; omega
    obtain rfl : k = l.length := by omega
    have w1 : IntKind.i64.wrap ((l.length : Int) - 1) = ((l.length - 1 : Nat) : Int) := by rw [wrap_id] <;> omega
    have hget : ((szs l l.length).map IN)[l.length - 1]? = some (IN (capT (treeT l (l.length - 1)))) := by rw [List.getElem?_map, szs_get (by omega), if_pos (by omega)]; rfl
    simp (maxSteps := 1000000) only [hll, g1, w1, encC, EA, EB, EC, ED, EE, EF, EG, EH, XA, XB, XC, XD, XE, XF, XG, XH, XI, XJ, XK, XL, XM, reduceIte, ↓reduceIte, Nat.reduceAdd, Nat.reduceLeDiff, Nat.reduceEqDiff, Nat.reduceLT, Nat.reduceSub, Nat.reduceBEq, forall_const, reduceCtorEq, implies_true, exists_eq_left', exists_eq_left, if_true, if_false, undef]
    refine ⟨by omega, by omega, ?_⟩
    rw [Int.toNat_natCast]
    refine ⟨_, hget, ?_⟩
    simp (maxSteps := 1000000) only [encC, EA, EB, EC, ED, EE, EF, EG, EH, XA, XB, XC, XD, XE, XF, XG, XH, XI, XJ, XK, XL, XM, reduceIte, ↓reduceIte, Nat.reduceAdd, Nat.reduceLeDiff, Nat.reduceEqDiff, Nat.reduceLT, Nat.reduceSub, Nat.reduceBEq, forall_const, reduceCtorEq, implies_true, exists_eq_left', exists_eq_left, if_true, if_false, undef]
    by_cases h3 : 300 < (treeT l (l.length - 1)).size
    · have g2 : decide ((capT (treeT l (l.length - 1)) : Int) > 300) = true := by
        have : capT (treeT l (l.length - 1)) = 301 := by unfold capT; omega
        rw [this]; decide
      rw [hE, if_pos h3]
      simp (maxSteps := 1000000) only [g2, encC, EA, EB, EC, ED, EE, EF, EG, EH, XA, XB, XC, XD, XE, XF, XG, XH, XI, XJ, XK, XL, XM, reduceIte, ↓reduceIte, Nat.reduceAdd, Nat.reduceLeDiff, Nat.reduceEqDiff, Nat.reduceLT, Nat.reduceSub, Nat.reduceBEq, forall_const, reduceCtorEq, implies_true, exists_eq_left', exists_eq_left, if_true, if_false, undef]
    · have g2 : decide ((capT (treeT l (l.length - 1)) : Int) > 300) = false := by
        have : capT (treeT l (l.length - 1)) ≤ 300 := by unfold capT; omega
        simp only [decide_eq_false_iff_not]; omega
      rw [hE, if_neg h3]
      simp (maxSteps := 1000000) only [g2, encC, EA, EB, EC, ED, EE, EF, EG, EH, XA, XB, XC, XD, XE, XF, XG, XH, XI, XJ, XK, XL, XM, reduceIte, ↓reduceIte, Nat.reduceAdd, Nat.reduceLeDiff, Nat.reduceEqDiff, Nat.reduceLT, Nat.reduceSub, Nat.reduceBEq, forall_const, reduceCtorEq, implies_true, exists_eq_left', exists_eq_left, if_true, if_false, undef]
  have g1 : decide ((k : Int) < (l.length : Int)) = true := by simp [c1]
  have hw : IntKind.i64.wrap ((k : Int) + 1) = ((k + 1 : Nat) : Int) := by rw [wrap_id] <;> omega
  have hok := hlok k c1
  have ht := tree_eq hlok c1
  have hset := szs_set c1
  simp (maxSteps := 1000000) only [hll, g1, encC, EA, EB, EC, ED, EE, EF, EG, EH, XA, XB, XC, XD, XE, XF, XG, XH, XI, XJ, XK, XL, XM, reduceIte, ↓reduceIte, Nat.reduceAdd, Nat.reduceLeDiff, Nat.reduceEqDiff, Nat.reduceLT, Nat.reduceSub, Nat.reduceBEq, forall_const, reduceCtorEq, implies_true, exists_eq_left', exists_eq_left, if_true, if_false, undef]
  refine ⟨by omega, pickM c1 ?_⟩
  generalize l[k] = c at *
  obtain ⟨kd, a, b, vr⟩ := c
  have hkz : k < ((szs l k).map IN).length := by omega
  have hone : (((szs l k).map IN).set k (AV.v (.int .i64 1)))[k]? = some (I 1) := by rw [List.getElem?_set, if_pos rfl, if_pos hkz]
  have hdone : ∀ v : Nat, v = capT (treeT l k) → (((szs l k).map IN).set k (IN v)) = (szs l (k + 1)).map IN := fun v hv => by rw [← hset, List.map_set, hv]
  have g31 : decide ((1 : Int) > 300) = false := by decide
  simp (maxSteps := 1000000) only [encC, splice, AV.cells, encC, EA, EB, EC, ED, EE, EF, EG, EH, XA, XB, XC, XD, XE, XF, XG, XH, XI, XJ, XK, XL, XM, reduceIte, ↓reduceIte, Nat.reduceAdd, Nat.reduceLeDiff, Nat.reduceEqDiff, Nat.reduceLT, Nat.reduceSub, Nat.reduceBEq, forall_const, reduceCtorEq, implies_true, exists_eq_left', exists_eq_left, if_true, if_false, undef]
  refine ⟨by omega, by omega, by rw [Int.toNat_natCast]; exact hkz, ?_⟩
  by_cases h4 : kd = 4
  rotate_left
  · have e4 : (kd == 4) = false := by simpa using h4
    have hcap : 1 = capT (treeT l k) := by
      rw [ht]; simp only; rw [if_neg h4]
      split
      · rfl
      · split <;> rfl
    have hd := hdone 1 hcap
    simp (maxSteps := 1000000) only [e4, Int.toNat_natCast, encC, EA, EB, EC, ED, EE, EF, EG, EH, XA, XB, XC, XD, XE, XF, XG, XH, XI, XJ, XK, XL, XM, reduceIte, ↓reduceIte, Nat.reduceAdd, Nat.reduceLeDiff, Nat.reduceEqDiff, Nat.reduceLT, Nat.reduceSub, Nat.reduceBEq, forall_const, reduceCtorEq, implies_true, exists_eq_left', exists_eq_left, if_true, if_false, undef]
    refine ⟨by omega, by omega, ?_⟩
    refine ⟨_, hone, ?_⟩
    simp (maxSteps := 1000000) only [g31, hw, encC, EA, EB, EC, ED, EE, EF, EG, EH, XA, XB, XC, XD, XE, XF, XG, XH, XI, XJ, XK, XL, XM, reduceIte, ↓reduceIte, Nat.reduceAdd, Nat.reduceLeDiff, Nat.reduceEqDiff, Nat.reduceLT, Nat.reduceSub, Nat.reduceBEq, forall_const, reduceCtorEq, implies_true, exists_eq_left', exists_eq_left, if_true, if_false, undef]
    exact ⟨k + 1, by omega, by omega, by simp [Back, BackF, fzT, fzM, fzU, fz, fzL, fzO, kin, SubT, Sub, SubL, SubM, SubO, keepM, srcOk, look, lookM, ev, evs, putT, argT, encC, EA, EB, EC, ED, EE, EF, EG, EH, XA, XB, XC, XD, XE, XF, XG, XH, XI, XJ, XK, XL, XM, reduceIte, ↓reduceIte, Nat.reduceAdd, Nat.reduceLeDiff, Nat.reduceEqDiff, Nat.reduceLT, Nat.reduceSub, Nat.reduceBEq, forall_const, reduceCtorEq, implies_true, exists_eq_left', exists_eq_left, if_true, if_false, undef, ← hd, IN, I]⟩
  have e4 : (kd == 4) = true := by simpa using h4
  obtain ⟨p1, p2⟩ := hok.parts h4
  simp only at p1 p2
  simp only at ht
  rw [if_pos h4] at ht
  have hga : (((szs l k).map IN).set k (AV.v (.int .i64 1)))[a.toNat]? = some (IN (capT (treeT l a.toNat))) := by
    rw [List.getElem?_set, if_neg (by omega), List.getElem?_map, szs_get (by omega), if_pos (by omega)]; rfl
  have hgb : (((szs l k).map IN).set k (AV.v (.int .i64 1)))[b.toNat]? = some (IN (capT (treeT l b.toNat))) := by
    rw [List.getElem?_set, if_neg (by omega), List.getElem?_map, szs_get (by omega), if_pos (by omega)]; rfl
  have hcp := cap_put (treeT l a.toNat) (treeT l b.toNat)
  rw [← ht] at hcp
  have hA : capT (treeT l a.toNat) ≤ 301 := by unfold capT; omega
  have hB : capT (treeT l b.toNat) ≤ 301 := by unfold capT; omega
  generalize capT (treeT l a.toNat) = A at *
  generalize capT (treeT l b.toNat) = B at *
  have w1 : IntKind.i64.wrap (1 + (A : Int)) = ((1 + A : Nat) : Int) := by rw [wrap_id] <;> omega
  have w2 : IntKind.i64.wrap (((1 + A : Nat) : Int) + (B : Int)) = ((1 + A + B : Nat) : Int) := by rw [wrap_id] <;> omega
  simp (maxSteps := 1000000) only [e4, Int.toNat_natCast, encC, EA, EB, EC, ED, EE, EF, EG, EH, XA, XB, XC, XD, XE, XF, XG, XH, XI, XJ, XK, XL, XM, reduceIte, ↓reduceIte, Nat.reduceAdd, Nat.reduceLeDiff, Nat.reduceEqDiff, Nat.reduceLT, Nat.reduceSub, Nat.reduceBEq, forall_const, reduceCtorEq, implies_true, exists_eq_left', exists_eq_left, if_true, if_false, undef]
  refine ⟨by omega, by omega, Pick.mk (IN A) (by rw [Nat.zero_add]; exact hga) ?_⟩
  simp (maxSteps := 1000000) only [w1, encC, EA, EB, EC, ED, EE, EF, EG, EH, XA, XB, XC, XD, XE, XF, XG, XH, XI, XJ, XK, XL, XM, reduceIte, ↓reduceIte, Nat.reduceAdd, Nat.reduceLeDiff, Nat.reduceEqDiff, Nat.reduceLT, Nat.reduceSub, Nat.reduceBEq, forall_const, reduceCtorEq, implies_true, exists_eq_left', exists_eq_left, if_true, if_false, undef]
  refine ⟨by omega, by omega, Pick.mk (IN B) (by rw [Nat.zero_add]; exact hgb) ?_⟩
  simp (maxSteps := 1000000) only [w2, encC, EA, EB, EC, ED, EE, EF, EG, EH, XA, XB, XC, XD, XE, XF, XG, XH, XI, XJ, XK, XL, XM, reduceIte, ↓reduceIte, Nat.reduceAdd, Nat.reduceLeDiff, Nat.reduceEqDiff, Nat.reduceLT, Nat.reduceSub, Nat.reduceBEq, forall_const, reduceCtorEq, implies_true, exists_eq_left', exists_eq_left, if_true, if_false, undef]
  refine ⟨by omega, by omega, by simp only [List.length_set, Int.toNat_natCast, Nat.zero_add]; exact hkz, ?_⟩
  simp (maxSteps := 1000000) only [List.set_set, Nat.zero_add, Int.toNat_natCast, encC, EA, EB, EC, ED, EE, EF, EG, EH, XA, XB, XC, XD, XE, XF, XG, XH, XI, XJ, XK, XL, XM, reduceIte, ↓reduceIte, Nat.reduceAdd, Nat.reduceLeDiff, Nat.reduceEqDiff, Nat.reduceLT, Nat.reduceSub, Nat.reduceBEq, forall_const, reduceCtorEq, implies_true, exists_eq_left', exists_eq_left, if_true, if_false, undef]
  have hone2 : (((szs l k).map IN).set k (IN (1 + A + B)))[k]? = some (IN (1 + A + B)) := by rw [List.getElem?_set, if_pos rfl, if_pos hkz]
  refine ⟨by omega, by omega, Pick.mk (IN (1 + A + B)) (by simp only [w1, w2, List.set_set, Int.toNat_natCast, Nat.zero_add]; exact hone2) ?_⟩
  by_cases h3 : 1 + A + B > 300
  · have g3 : decide (((1 + A + B : Nat) : Int) > 300) = true := by simp only [decide_eq_true_eq]; omega
    have hd := hdone 301 (by rw [hcp]; omega)
    simp (maxSteps := 1000000) only [g3, hw, encC, EA, EB, EC, ED, EE, EF, EG, EH, XA, XB, XC, XD, XE, XF, XG, XH, XI, XJ, XK, XL, XM, reduceIte, ↓reduceIte, Nat.reduceAdd, Nat.reduceLeDiff, Nat.reduceEqDiff, Nat.reduceLT, Nat.reduceSub, Nat.reduceBEq, forall_const, reduceCtorEq, implies_true, exists_eq_left', exists_eq_left, if_true, if_false, undef]
    refine ⟨by omega, by omega, by simp only [List.length_set, Int.toNat_natCast, Nat.zero_add]; exact hkz, k + 1, by omega, by omega, ?_⟩
    simp [Back, BackF, fzT, fzM, fzU, fz, fzL, fzO, kin, SubT, Sub, SubL, SubM, SubO, keepM, srcOk, look, lookM, ev, evs, putT, argT, encC, EA, EB, EC, ED, EE, EF, EG, EH, XA, XB, XC, XD, XE, XF, XG, XH, XI, XJ, XK, XL, XM, reduceIte, ↓reduceIte, Nat.reduceAdd, Nat.reduceLeDiff, Nat.reduceEqDiff, Nat.reduceLT, Nat.reduceSub, Nat.reduceBEq, forall_const, reduceCtorEq, implies_true, exists_eq_left', exists_eq_left, if_true, if_false, undef, w1, w2, ← hd, IN, I]
  · have g3 : decide (((1 + A + B : Nat) : Int) > 300) = false := by simp only [decide_eq_false_iff_not]; omega
    have hd := hdone (1 + A + B) (by rw [hcp]; omega)
    simp (maxSteps := 1000000) only [g3, hw, encC, EA, EB, EC, ED, EE, EF, EG, EH, XA, XB, XC, XD, XE, XF, XG, XH, XI, XJ, XK, XL, XM, reduceIte, ↓reduceIte, Nat.reduceAdd, Nat.reduceLeDiff, Nat.reduceEqDiff, Nat.reduceLT, Nat.reduceSub, Nat.reduceBEq, forall_const, reduceCtorEq, implies_true, exists_eq_left', exists_eq_left, if_true, if_false, undef]
    have w3 : IntKind.i64.wrap (1 + (A : Int) + (B : Int)) = 1 + (A : Int) + (B : Int) := by rw [wrap_id] <;> omega
    exact ⟨k + 1, by omega, by omega, by simp [Back, BackF, fzT, fzM, fzU, fz, fzL, fzO, kin, SubT, Sub, SubL, SubM, SubO, keepM, srcOk, look, lookM, ev, evs, putT, argT, encC, EA, EB, EC, ED, EE, EF, EG, EH, XA, XB, XC, XD, XE, XF, XG, XH, XI, XJ, XK, XL, XM, reduceIte, ↓reduceIte, Nat.reduceAdd, Nat.reduceLeDiff, Nat.reduceEqDiff, Nat.reduceLT, Nat.reduceSub, Nat.reduceBEq, forall_const, reduceCtorEq, implies_true, exists_eq_left', exists_eq_left, if_true, if_false, undef, w1, w2, w3, ← hd, IN, I]⟩

end Go.Av
