/- S K K applied to a term reduces to the term in two steps; for all arguments. -/
import Derived.Test.YtdmbadgfjeapcaaCombK
import Derived.Test.YtdmbadgfjeapcaaRows
import Derived.ProofKit
set_option linter.unusedSimpArgs false
set_option linter.unusedVariables false
set_option maxRecDepth 100000
namespace Go.Av
open Go.Proofs

/-- S K K put to a term, laid behind it -/
def selfL (l : List Cb) : List Cb := l ++ [⟨1, 0, 0, 0⟩, ⟨2, 0, 0, 0⟩, ⟨4, (l.length : Int), (l.length : Int) + 1, 0⟩, ⟨4, (l.length : Int) + 2, (l.length : Int) + 1, 0⟩, ⟨4, (l.length : Int) + 3, (l.length : Int) - 1, 0⟩]
theorem self_length (l : List Cb) : (selfL l).length = l.length + 5 := by simp [selfL]
theorem self_get (l : List Cb) (j : Nat) : (selfL l)[l.length + j]? = [(⟨1, 0, 0, 0⟩ : Cb), ⟨2, 0, 0, 0⟩, ⟨4, (l.length : Int), (l.length : Int) + 1, 0⟩, ⟨4, (l.length : Int) + 2, (l.length : Int) + 1, 0⟩, ⟨4, (l.length : Int) + 3, (l.length : Int) - 1, 0⟩][j]? := by
  rw [selfL, List.getElem?_append_right (by omega), Nat.add_sub_cancel_left]
theorem self_node {l : List Cb} (hc : combErr l = 0) : ∀ k, k < (selfL l).length → nodeErr k (cbAt (selfL l) k) = 0 := by
  obtain ⟨hlen, hok, hsz⟩ := comb_ok hc
  have hz : cbErr l l.length = 0 := by
    rw [combErr] at hc
    split at hc
    · omega
    · split at hc
      · rename_i h2; exact (h2 hc).elim
      · rename_i h2; simpa using h2
  intro k hk
  rw [self_length] at hk
  by_cases c : k < l.length
  · have := cbErr_zero hz k c
    rw [cbAt] at this ⊢
    rwa [selfL, List.getElem?_append_left c]
  · obtain ⟨j, rfl⟩ : ∃ j, k = l.length + j := ⟨k - l.length, by omega⟩
    rw [cbAt, self_get]
    rcases (by omega : j = 0 ∨ j = 1 ∨ j = 2 ∨ j = 3 ∨ j = 4) with rfl | rfl | rfl | rfl | rfl
    · simp [nodeErr]
    · simp [nodeErr]
    · simp only [List.getElem?_cons_succ, List.getElem?_cons_zero, Option.getD_some, nodeErr]
      rw [if_neg (by omega), if_neg (by omega), if_neg (by omega)]
    · simp only [List.getElem?_cons_succ, List.getElem?_cons_zero, Option.getD_some, nodeErr]
      rw [if_neg (by omega), if_neg (by omega), if_neg (by omega)]
    · simp only [List.getElem?_cons_succ, List.getElem?_cons_zero, Option.getD_some, nodeErr]
      rw [if_neg (by omega), if_neg (by omega), if_neg (by omega)]
theorem self_tree {l : List Cb} (hc : combErr l = 0) : lastT (selfL l) = .put (.put (.put .s .k) .k) (lastT l) := by
  obtain ⟨hlen, hok, hsz⟩ := comb_ok hc
  have hokS : LstOk (selfL l) := lst_ok (cbErr_all (self_node hc))
  have hg := self_get l
  have hlast : treeT (selfL l) (l.length - 1) = lastT l := by
    have := tree_app hok hokS (i := l.length - 1) (by omega)
    exact this
  have at_ : ∀ (j : Nat) c, (selfL l)[l.length + j]? = some c → treeT (selfL l) (l.length + j) = if c.kind = 4 then .put (treeT (selfL l) c.a.toNat) (treeT (selfL l) c.b.toNat) else if c.kind = 3 then .v c.var else if c.kind = 2 then .k else .s := fun j c h => by
    obtain ⟨hi, he⟩ := List.getElem?_eq_some_iff.1 h
    rw [tree_eq hokS hi, he]
  have t0 := at_ 0 ⟨1, 0, 0, 0⟩ (by rw [hg]; rfl)
  have t1 := at_ 1 ⟨2, 0, 0, 0⟩ (by rw [hg]; rfl)
  have t2 := at_ 2 ⟨4, (l.length : Int), (l.length : Int) + 1, 0⟩ (by rw [hg]; rfl)
  have t3 := at_ 3 ⟨4, (l.length : Int) + 2, (l.length : Int) + 1, 0⟩ (by rw [hg]; rfl)
  have t4 := at_ 4 ⟨4, (l.length : Int) + 3, (l.length : Int) - 1, 0⟩ (by rw [hg]; rfl)
  simp only [if_true] at t2 t3 t4
  have i0 : ((l.length : Int)).toNat = l.length + 0 := by omega
  have i1 : ((l.length : Int) + 1).toNat = l.length + 1 := by omega
  have i2 : ((l.length : Int) + 2).toNat = l.length + 2 := by omega
  have i3 : ((l.length : Int) + 3).toNat = l.length + 3 := by omega
  have im : ((l.length : Int) - 1).toNat = l.length - 1 := by omega
  rw [i0, i1, t0, t1] at t2
  rw [i2, i1, t1, t2] at t3
  rw [i3, im, t3, hlast] at t4
  rw [lastT, self_length, show l.length + 5 - 1 = l.length + 4 by omega, t4]
  rfl
theorem self_err {l : List Cb} (hc : combErr l = 0) (h : combErr (selfL l) ≠ 0) : combErr (selfL l) = 1 := by
  have hz := cbErr_all (self_node hc)
  rw [combErr] at h ⊢
  split
  · rfl
  · rw [if_neg (by simp [hz])]
    split
    · rfl
    · rename_i h1 h2
      rw [if_neg h1, if_neg (by simp [hz]), if_neg h2] at h
      exact (h rfl).elim
theorem self_nrm {l : List Cb} (hc : combErr l = 0) : nrmT (lastT (selfL l)) 2 = none ∨ nrmT (lastT (selfL l)) 2 = some (lastT l, 2) := by
  obtain ⟨hlen, hok, hsz⟩ := comb_ok hc
  rw [self_tree hc]
  generalize lastT l = t at *
  have s1 : stepT (.put (.put (.put .s .k) .k) t) = some (.put (.put .k t) (.put .k t)) := by simp [stepT, prtT]
  have s2 : stepT (.put (.put .k t) (.put .k t)) = some t := by simp [stepT, prtT]
  simp only [nrmT, s1]
  by_cases h : 300 < (Tm.put (.put .k t) (.put .k t)).size
  · simp [h]
  · simp only [h, if_false, s2]
    rw [if_neg (by omega)]
    exact .inr rfl

theorem combSelf_spec (l : List Cb) (hl : (l.length : Int) < 2 ^ 63) : CallsA Try.prog 9 [.ro 4 (l.map encC)] (Bo true) [] := by
  refine fn_of0 comp9 (by simp) ?_
  unfold code9
  have n10 : ((1 : Int) != 0) = true := by decide
  have n00 : ((0 : Int) != 0) = false := by decide
  have n70 : ((7 : Int) != 0) = true := by decide
  have e77 : ((7 : Int) == 7) = true := by decide
  have e17 : ((1 : Int) == 7) = false := by decide
  have e11 : ((1 : Int) == 1) = true := by decide
  have e22 : (((2 : Nat) : Int) == 2) = true := by decide
  have hll : ((l.map encC).length : Int) = l.length := by simp
  have hn0 : combErr [] = 1 := by rw [combErr, if_pos (by simp)]
  have hstep0 := combStepP_spec [] (by simp)
  rw [stepAns_err (by rw [hn0]; decide), hn0, List.map_nil] at hstep0
  simp (maxSteps := 1000000) only [encC, EA, EB, EC, ED, EE, EF, EG, EH, XA, XB, XC, XD, XE, XF, XG, XH, XI, XJ, XK, XL, XM, reduceIte, ↓reduceIte, Nat.reduceAdd, Nat.reduceLeDiff, Nat.reduceEqDiff, Nat.reduceLT, Nat.reduceSub, Nat.reduceBEq, forall_const, reduceCtorEq, implies_true, exists_eq_left', exists_eq_left, if_true, if_false, undef]
  refine callF (CallsA.args (combed_spec l hl) (by simp [encC, EA, EB, EC, ED, EE, EF, EG, EH, XA, XB, XC, XD, XE, XF, XG, XH, XI, XJ, XK, XL, XM, reduceIte, ↓reduceIte, Nat.reduceAdd, Nat.reduceLeDiff, Nat.reduceEqDiff, Nat.reduceLT, Nat.reduceSub, Nat.reduceBEq, forall_const, reduceCtorEq, implies_true, exists_eq_left', exists_eq_left, if_true, if_false, undef])) rfl (by simp [flat, encC, EA, EB, EC, ED, EE, EF, EG, EH, XA, XB, XC, XD, XE, XF, XG, XH, XI, XJ, XK, XL, XM, reduceIte, ↓reduceIte, Nat.reduceAdd, Nat.reduceLeDiff, Nat.reduceEqDiff, Nat.reduceLT, Nat.reduceSub, Nat.reduceBEq, forall_const, reduceCtorEq, implies_true, exists_eq_left', exists_eq_left, if_true, if_false, undef]) ?_
  by_cases hc : combErr l = 0
  rotate_left
  · have f1 : (combErr l == 0) = false := by simpa using hc
    simp (maxSteps := 1000000) only [f1, Bo, encC, EA, EB, EC, ED, EE, EF, EG, EH, XA, XB, XC, XD, XE, XF, XG, XH, XI, XJ, XK, XL, XM, reduceIte, ↓reduceIte, Nat.reduceAdd, Nat.reduceLeDiff, Nat.reduceEqDiff, Nat.reduceLT, Nat.reduceSub, Nat.reduceBEq, forall_const, reduceCtorEq, implies_true, exists_eq_left', exists_eq_left, if_true, if_false, undef]
    refine callA (CallsA.args (hstep0) (by simp [encC, EA, EB, EC, ED, EE, EF, EG, EH, XA, XB, XC, XD, XE, XF, XG, XH, XI, XJ, XK, XL, XM, reduceIte, ↓reduceIte, Nat.reduceAdd, Nat.reduceLeDiff, Nat.reduceEqDiff, Nat.reduceLT, Nat.reduceSub, Nat.reduceBEq, forall_const, reduceCtorEq, implies_true, exists_eq_left', exists_eq_left, if_true, if_false, undef])) rfl ?_
    simp (maxSteps := 1000000) only [n10, Bo, encC, EA, EB, EC, ED, EE, EF, EG, EH, XA, XB, XC, XD, XE, XF, XG, XH, XI, XJ, XK, XL, XM, reduceIte, ↓reduceIte, Nat.reduceAdd, Nat.reduceLeDiff, Nat.reduceEqDiff, Nat.reduceLT, Nat.reduceSub, Nat.reduceBEq, forall_const, reduceCtorEq, implies_true, exists_eq_left', exists_eq_left, if_true, if_false, undef]
    try exact ⟨_, rfl⟩
  have f1 : (combErr l == 0) = true := by simpa using hc
  obtain ⟨hlen, hok, hsz⟩ := comb_ok hc
  have w6 : IntKind.i64.wrap ((l.length : Int) + 6) = (l.length : Int) + 6 := by rw [wrap_id] <;> omega
  by_cases h6 : l.length + 6 > 40
  · have g1 : decide ((l.length : Int) + 6 > 40) = true := by simp; omega
    simp (maxSteps := 1000000) only [f1, hll, w6, g1, Bo, encC, EA, EB, EC, ED, EE, EF, EG, EH, XA, XB, XC, XD, XE, XF, XG, XH, XI, XJ, XK, XL, XM, reduceIte, ↓reduceIte, Nat.reduceAdd, Nat.reduceLeDiff, Nat.reduceEqDiff, Nat.reduceLT, Nat.reduceSub, Nat.reduceBEq, forall_const, reduceCtorEq, implies_true, exists_eq_left', exists_eq_left, if_true, if_false, undef]
    refine callA (CallsA.args (hstep0) (by simp [encC, EA, EB, EC, ED, EE, EF, EG, EH, XA, XB, XC, XD, XE, XF, XG, XH, XI, XJ, XK, XL, XM, reduceIte, ↓reduceIte, Nat.reduceAdd, Nat.reduceLeDiff, Nat.reduceEqDiff, Nat.reduceLT, Nat.reduceSub, Nat.reduceBEq, forall_const, reduceCtorEq, implies_true, exists_eq_left', exists_eq_left, if_true, if_false, undef])) rfl ?_
    simp (maxSteps := 1000000) only [n10, Bo, encC, EA, EB, EC, ED, EE, EF, EG, EH, XA, XB, XC, XD, XE, XF, XG, XH, XI, XJ, XK, XL, XM, reduceIte, ↓reduceIte, Nat.reduceAdd, Nat.reduceLeDiff, Nat.reduceEqDiff, Nat.reduceLT, Nat.reduceSub, Nat.reduceBEq, forall_const, reduceCtorEq, implies_true, exists_eq_left', exists_eq_left, if_true, if_false, undef]
    try exact ⟨_, rfl⟩
  have g1 : decide ((l.length : Int) + 6 > 40) = false := by simp; omega
  have w1 : IntKind.i64.wrap ((l.length : Int) + 1) = (l.length : Int) + 1 := by rw [wrap_id] <;> omega
  have w2 : IntKind.i64.wrap ((l.length : Int) + 2) = (l.length : Int) + 2 := by rw [wrap_id] <;> omega
  have w3 : IntKind.i64.wrap ((l.length : Int) + 3) = (l.length : Int) + 3 := by rw [wrap_id] <;> omega
  have wm : IntKind.i64.wrap ((l.length : Int) - 1) = (l.length : Int) - 1 := by rw [wrap_id] <;> omega
  have wn : IntKind.i64.wrap ((l.length : Int) - 1) = ((l.length - 1 : Nat) : Int) := by rw [wrap_id] <;> omega
  have hself : (l.map encC) ++ [AV.agg [I 1, I 0, I 0, I 0], .agg [I 2, I 0, I 0, I 0], .agg [I 4, I (l.length : Int), I ((l.length : Int) + 1), I 0], .agg [I 4, I ((l.length : Int) + 2), I ((l.length : Int) + 1), I 0], .agg [I 4, I ((l.length : Int) + 3), I ((l.length : Int) - 1), I 0]] = (selfL l).map encC := by
    rw [selfL, List.map_append]; rfl
  have hnrm := combNormP_spec (selfL l) 2 (by rw [self_length]; omega)
  rw [← hself] at hnrm
  simp (maxSteps := 1000000) only [f1, hll, w6, g1, w1, w2, w3, wm, splice, AV.cells, List.length_map, Bo, encC, EA, EB, EC, ED, EE, EF, EG, EH, XA, XB, XC, XD, XE, XF, XG, XH, XI, XJ, XK, XL, XM, reduceIte, ↓reduceIte, Nat.reduceAdd, Nat.reduceLeDiff, Nat.reduceEqDiff, Nat.reduceLT, Nat.reduceSub, Nat.reduceBEq, forall_const, reduceCtorEq, implies_true, exists_eq_left', exists_eq_left, if_true, if_false, undef]
  refine ⟨by omega, by omega, ?_⟩
  have hrd := read_spec l hok (l.length - 1) (by omega)
  rw [show treeT l (l.length - 1) = lastT l from rfl] at hrd
  have hwr := write_spec (lastT l) [] (by simp; omega)
  have hsame := combs_same (wrT (lastT l) []) (by rw [wr_len]; omega)
  rw [List.map_nil] at hwr
  have hc2 : ((2 : Nat) : Int) = 2 := rfl
  rcases norm_form (selfL l) 2 (by omega) with ⟨e, h1, h2, h3, h4⟩ | ⟨hcs, u, k, h1, h2⟩
  · rw [hc2] at h1
    rw [h1] at hnrm
    have he : e = 7 ∨ e = 1 := by
      by_cases hcs : combErr (selfL l) = 0
      · exact .inl (h3 hcs)
      · exact .inr ((h4 hcs).trans (self_err hc hcs))
    refine callA (CallsA.args (hnrm ) (by simp [ List.take_of_length_le,encC, EA, EB, EC, ED, EE, EF, EG, EH, XA, XB, XC, XD, XE, XF, XG, XH, XI, XJ, XK, XL, XM, reduceIte, ↓reduceIte, Nat.reduceAdd, Nat.reduceLeDiff, Nat.reduceEqDiff, Nat.reduceLT, Nat.reduceSub, Nat.reduceBEq, forall_const, reduceCtorEq, implies_true, exists_eq_left', exists_eq_left, if_true, if_false, undef])) rfl ?_
    rcases he with rfl | rfl
    · simp (maxSteps := 1000000) only [n70, e77, Bo, encC, EA, EB, EC, ED, EE, EF, EG, EH, XA, XB, XC, XD, XE, XF, XG, XH, XI, XJ, XK, XL, XM, reduceIte, ↓reduceIte, Nat.reduceAdd, Nat.reduceLeDiff, Nat.reduceEqDiff, Nat.reduceLT, Nat.reduceSub, Nat.reduceBEq, forall_const, reduceCtorEq, implies_true, exists_eq_left', exists_eq_left, if_true, if_false, undef]
      exact ⟨_, rfl⟩
    · simp (maxSteps := 1000000) only [n10, e17, e11, Bo, encC, EA, EB, EC, ED, EE, EF, EG, EH, XA, XB, XC, XD, XE, XF, XG, XH, XI, XJ, XK, XL, XM, reduceIte, ↓reduceIte, Nat.reduceAdd, Nat.reduceLeDiff, Nat.reduceEqDiff, Nat.reduceLT, Nat.reduceSub, Nat.reduceBEq, forall_const, reduceCtorEq, implies_true, exists_eq_left', exists_eq_left, if_true, if_false, undef]
      exact ⟨_, rfl⟩
  · have huk : u = lastT l ∧ k = 2 := by
      rcases self_nrm hc with h | h
      · rw [h] at h1; cases h1
      · rw [h] at h1; cases h1; exact ⟨rfl, rfl⟩
    obtain ⟨rfl, rfl⟩ := huk
    rw [hc2] at h2
    rw [h2] at hnrm
    refine callA (CallsA.args (hnrm ) (by simp [ List.take_of_length_le,encC, EA, EB, EC, ED, EE, EF, EG, EH, XA, XB, XC, XD, XE, XF, XG, XH, XI, XJ, XK, XL, XM, reduceIte, ↓reduceIte, Nat.reduceAdd, Nat.reduceLeDiff, Nat.reduceEqDiff, Nat.reduceLT, Nat.reduceSub, Nat.reduceBEq, forall_const, reduceCtorEq, implies_true, exists_eq_left', exists_eq_left, if_true, if_false, undef])) rfl ?_
    simp (maxSteps := 1000000) only [n00, e22, wn, encC, EA, EB, EC, ED, EE, EF, EG, EH, XA, XB, XC, XD, XE, XF, XG, XH, XI, XJ, XK, XL, XM, reduceIte, ↓reduceIte, Nat.reduceAdd, Nat.reduceLeDiff, Nat.reduceEqDiff, Nat.reduceLT, Nat.reduceSub, Nat.reduceBEq, forall_const, reduceCtorEq, implies_true, exists_eq_left', exists_eq_left, if_true, if_false, undef]
    refine callA (CallsA.args (hrd) (by simp [encC, EA, EB, EC, ED, EE, EF, EG, EH, XA, XB, XC, XD, XE, XF, XG, XH, XI, XJ, XK, XL, XM, reduceIte, ↓reduceIte, Nat.reduceAdd, Nat.reduceLeDiff, Nat.reduceEqDiff, Nat.reduceLT, Nat.reduceSub, Nat.reduceBEq, forall_const, reduceCtorEq, implies_true, exists_eq_left', exists_eq_left, if_true, if_false, undef])) rfl ?_
    simp (maxSteps := 1000000) only [encC, EA, EB, EC, ED, EE, EF, EG, EH, XA, XB, XC, XD, XE, XF, XG, XH, XI, XJ, XK, XL, XM, reduceIte, ↓reduceIte, Nat.reduceAdd, Nat.reduceLeDiff, Nat.reduceEqDiff, Nat.reduceLT, Nat.reduceSub, Nat.reduceBEq, forall_const, reduceCtorEq, implies_true, exists_eq_left', exists_eq_left, if_true, if_false, undef]
    refine callA (CallsA.args (hwr) (by simp [encC, EA, EB, EC, ED, EE, EF, EG, EH, XA, XB, XC, XD, XE, XF, XG, XH, XI, XJ, XK, XL, XM, reduceIte, ↓reduceIte, Nat.reduceAdd, Nat.reduceLeDiff, Nat.reduceEqDiff, Nat.reduceLT, Nat.reduceSub, Nat.reduceBEq, forall_const, reduceCtorEq, implies_true, exists_eq_left', exists_eq_left, if_true, if_false, undef])) rfl ?_
    simp (maxSteps := 1000000) only [encC, EA, EB, EC, ED, EE, EF, EG, EH, XA, XB, XC, XD, XE, XF, XG, XH, XI, XJ, XK, XL, XM, reduceIte, ↓reduceIte, Nat.reduceAdd, Nat.reduceLeDiff, Nat.reduceEqDiff, Nat.reduceLT, Nat.reduceSub, Nat.reduceBEq, forall_const, reduceCtorEq, implies_true, exists_eq_left', exists_eq_left, if_true, if_false, undef]
    refine callF (CallsA.args (hsame) (by simp [encC, EA, EB, EC, ED, EE, EF, EG, EH, XA, XB, XC, XD, XE, XF, XG, XH, XI, XJ, XK, XL, XM, reduceIte, ↓reduceIte, Nat.reduceAdd, Nat.reduceLeDiff, Nat.reduceEqDiff, Nat.reduceLT, Nat.reduceSub, Nat.reduceBEq, forall_const, reduceCtorEq, implies_true, exists_eq_left', exists_eq_left, if_true, if_false, undef])) rfl (by simp [flat, encC, EA, EB, EC, ED, EE, EF, EG, EH, XA, XB, XC, XD, XE, XF, XG, XH, XI, XJ, XK, XL, XM, reduceIte, ↓reduceIte, Nat.reduceAdd, Nat.reduceLeDiff, Nat.reduceEqDiff, Nat.reduceLT, Nat.reduceSub, Nat.reduceBEq, forall_const, reduceCtorEq, implies_true, exists_eq_left', exists_eq_left, if_true, if_false, undef]) ?_
    simp (maxSteps := 1000000) only [Bo, encC, EA, EB, EC, ED, EE, EF, EG, EH, XA, XB, XC, XD, XE, XF, XG, XH, XI, XJ, XK, XL, XM, reduceIte, ↓reduceIte, Nat.reduceAdd, Nat.reduceLeDiff, Nat.reduceEqDiff, Nat.reduceLT, Nat.reduceSub, Nat.reduceBEq, forall_const, reduceCtorEq, implies_true, exists_eq_left', exists_eq_left, if_true, if_false, undef]

def sh_CombSelf : List Sh := [shCombs]
theorem law_CombSelf (xs : List AV) (h : HasAll sh_CombSelf xs) : CallsA Try.prog 9 xs (.v (.bool true)) [] := by
  obtain ⟨x, r, rfl, hx, rfl⟩ := h
  obtain ⟨l, rfl, hl⟩ := hasCombs hx
  exact combSelf_spec l hl

end Go.Av
namespace Go.Proofs.Ytdmbadgfjeapcaa
open Go.ChangeShapes Go.WideShapes Go.ChangeAt Go.RowKit
open Go.Av (open_all shut_all OldS HasAll Sh CallsA shAll)

theorem own : ownKnob Try.prog.godebug = none := by kernel_rfl
theorem laidOut : laidOutB Try.prog = true := by kernel_rfl
theorem shs_eq : shAll Try.prog 12 Try.f9.params.toList = some Go.Av.sh_CombSelf := by kernel_rfl
theorem readable : (Try.f9.params.toList.all fun t => Try.prog.readableRec t && decide (t < Try.prog.types.size)) = true := by kernel_rfl

theorem lifted (os : Os) (started : os.Started) (H : Type) (enc : TypeId × Value → H) :
    ReturnsInHanded {} Try.checked os 9 .any (Rows.combSelfSpec.pre6 enc Try.prog Try.f9 Rows.combSelfRow.domain false) (Rows.combSelfSpec.post enc Try.prog Try.f9 false true false false) := by
  refine returnsInHanded_of_change (C := Try.checked) own started (by kernel_rfl) Try.func9
    (ChangeSpec.witness6 (enc := enc) (C := Try.checked) false ⟨#[], #[.slice none 0 0], []⟩ 8 (by kernel_rfl) (by kernel_rfl) (by kernel_rfl) (by kernel_rfl)) ?_
  intro W base args ds gs before hval0 hW hcnd _
  have hval : ∀ (j : Nat) t v, Try.f9.params[j]? = some t → args[j]? = some v → Value.okWide Try.prog W .any base t v := hval0
  have hW' := hW
  obtain ⟨p, q, hA0, hV, rfl, hfz, hnd⟩ := hW
  have hA : DataW.TrodAll enc Try.prog W 0 (fun _ => true) true Try.f9.params.toList args.toList ds p := hA0
  obtain ⟨xs, hxs, hlen, hR⟩ := open_all (g := 12) _ _ _ _ Go.Av.sh_CombSelf hA (fun j t v ht hv => hval j t v (by simpa using ht) (by simpa using hv)) shs_eq
  obtain ⟨rfl, rfl⟩ := trodVars_none hV
  have hB := hA
  rw [Try.params9] at hB
  obtain ⟨v0, vs0, d0, ds0, p0, q0, hargs0, rfl, rfl, h0, r0⟩ := trodAll_cons hB
  obtain ⟨rfl, rfl, rfl⟩ := trodAll_nil r0
  refine ((Go.Av.law_CombSelf xs hxs).2 W (OldS W) args ⟨fun _ h => h, fun g cs hm => by simp [Go.Av.globs] at hm⟩ (by simpa using hlen) (fun i x y h1 h2 => hR i x y h1 (by simpa using h2))).mono ?_
  rintro e W' ⟨v, S', κ', rfl, hv, _, _, _, bel⟩
  rw [hv.v_inv]
  exact ⟨_, rfl, _, _, _, [], _, [], hW', trodAll_mk1 (shut_bool Try.underlying4 _), shut_all laidOut bel _ _ _ _ (fun t ht => by
    have := (List.all_eq_true.1 readable) t ht
    simpa using this) hA, rfl, bel.frame _, fun h => by cases h⟩

theorem combSelf_holds : Rows.CombSelfSaid :=
  OpenClaim.holds_of_wide 9 Try.f9 rfl rfl rfl rfl rfl rfl rfl ⟨rfl, rfl, rfl, rfl, rfl⟩ rfl rfl rfl rfl rfl (by kernel_rfl) Try.func9 (by kernel_rfl)
    (of_decide_eq_true (by kernel_rfl)) (by unfold Func.isWrapper; first | (rw [if_pos (by decide +kernel)]; kernel_rfl) | (rw [if_neg (by decide +kernel)]; exact ⟨rfl, rfl⟩))
    (fun os started H enc _ => lifted os started H enc)

end Go.Proofs.Ytdmbadgfjeapcaa
