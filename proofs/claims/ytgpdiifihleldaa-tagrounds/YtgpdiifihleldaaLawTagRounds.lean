/- For any number of symbols, tag system and word: the program tells when a word comes again, or that none does, as the document does; for all arguments. -/
import Derived.Test.YtgpdiifihleldaaTagSh
import Derived.Test.YtgpdiifihleldaaTagQ
import Derived.Test.YtgpdiifihleldaaRows
import Derived.ProofKit
set_option linter.unusedSimpArgs false
set_option linter.unusedVariables false
set_option maxRecDepth 100000
namespace Go.Av
open Go.Proofs

def wasL (g : TagS) (w : List Int) (k : Nat) : List AV := (List.range k).map fun j => encL (tw g w j)
theorem wasL_length (g : TagS) (w : List Int) (k : Nat) : (wasL g w k).length = k := by simp [wasL]
theorem wasL_get {g : TagS} {w : List Int} {k i : Nat} (h : i < k) : (wasL g w k)[i]? = some (encL (tw g w i)) := by simp [wasL, h]
theorem wasL_succ (g : TagS) (w : List Int) (k : Nat) : wasL g w (k + 1) = wasL g w k ++ [encL (tw g w k)] := by simp [wasL, List.range_succ]

theorem fnd_none {g : TagS} {w : List Int} {k : Nat} (h : ∀ j, j < k → tw g w j ≠ tw g w k) : fnd g w k = none := by
  unfold fnd
  rw [List.find?_eq_none]
  intro j hj
  simpa using h j (by simpa using hj)

theorem fnd_some {g : TagS} {w : List Int} {k i : Nat} (hi : i < k) (h : ∀ j, j < i → tw g w j ≠ tw g w k) (he : tw g w i = tw g w k) : fnd g w k = some i := by
  unfold fnd
  rw [List.find?_eq_some_iff_append]
  refine ⟨by simpa using he, List.range i, (List.range' (i + 1) (k - i - 1)), ?_, fun j hj => ?_⟩
  · rw [List.range_eq_range', List.range_eq_range', show k = i + (1 + (k - i - 1)) by omega, ← List.range'_append_1, Nat.zero_add, ← List.range'_append_1]
    simp
  · simpa using h j (by simpa using hj)

def rndInv (g : TagS) (w : List Int) (k : Nat) : Prop := k ≤ 401 ∧ (∀ j, j < k → ¬ ((tw g w j).length : Int) < g.drop ∧ (tw g w j).length ≤ 40) ∧
  trnd g w 400 0 = if k = 401 then (0, 0, 7) else if 40 < (tw g w k).length then (0, 0, 7) else trnd g w (400 - k) k

theorem tagRounds_spec (signs : Int) (g : TagS) (w : List Int) (hl : TagLen g w) : CallsA Try.prog 4 [I signs, encG g, .ro 1 (w.map I)] (Bo true) [] := by
  refine fn_of0 comp4 (by simp) ?_
  unfold code4
  simp (maxSteps := 1000000) only [encL, encG, EA, EB, EC, ED, EE, EF, EG, EH, XA, XB, XC, XD, XE, XF, XG, XH, XI, XJ, XK, XL, XM, reduceIte, ↓reduceIte, Nat.reduceAdd, Nat.reduceLeDiff, Nat.reduceEqDiff, Nat.reduceLT, Nat.reduceSub, Nat.reduceBEq, forall_const, reduceCtorEq, implies_true, exists_eq_left', exists_eq_left, if_true, if_false, undef]
  refine callA (CallsA.args (tagRound_spec signs g w hl ) (by simp [ encG,encL, encG, EA, EB, EC, ED, EE, EF, EG, EH, XA, XB, XC, XD, XE, XF, XG, XH, XI, XJ, XK, XL, XM, reduceIte, ↓reduceIte, Nat.reduceAdd, Nat.reduceLeDiff, Nat.reduceEqDiff, Nat.reduceLT, Nat.reduceSub, Nat.reduceBEq, forall_const, reduceCtorEq, implies_true, exists_eq_left', exists_eq_left, if_true, if_false, undef])) rfl ?_
  simp (maxSteps := 1000000) only [tagRoundAns, encL, encG, EA, EB, EC, ED, EE, EF, EG, EH, XA, XB, XC, XD, XE, XF, XG, XH, XI, XJ, XK, XL, XM, reduceIte, ↓reduceIte, Nat.reduceAdd, Nat.reduceLeDiff, Nat.reduceEqDiff, Nat.reduceLT, Nat.reduceSub, Nat.reduceBEq, forall_const, reduceCtorEq, implies_true, exists_eq_left', exists_eq_left, if_true, if_false, undef]
  refine callF (CallsA.args (tagCheck_spec signs g w hl ) (by simp [ encG,encL, encG, EA, EB, EC, ED, EE, EF, EG, EH, XA, XB, XC, XD, XE, XF, XG, XH, XI, XJ, XK, XL, XM, reduceIte, ↓reduceIte, Nat.reduceAdd, Nat.reduceLeDiff, Nat.reduceEqDiff, Nat.reduceLT, Nat.reduceSub, Nat.reduceBEq, forall_const, reduceCtorEq, implies_true, exists_eq_left', exists_eq_left, if_true, if_false, undef])) rfl (by simp [flat, encL, encG, EA, EB, EC, ED, EE, EF, EG, EH, XA, XB, XC, XD, XE, XF, XG, XH, XI, XJ, XK, XL, XM, reduceIte, ↓reduceIte, Nat.reduceAdd, Nat.reduceLeDiff, Nat.reduceEqDiff, Nat.reduceLT, Nat.reduceSub, Nat.reduceBEq, forall_const, reduceCtorEq, implies_true, exists_eq_left', exists_eq_left, if_true, if_false, undef]) ?_
  have e0 : ((0 : Int) == 0) = true := by decide
  have e7 : ((7 : Int) == 7) = true := by decide
  have e5 : ((5 : Int) == 5) = true := by decide
  by_cases h1 : tagErr signs g w = 0
  rotate_left
  · have e2 : (tagErr signs g w != 0) = true := by simp [h1]
    have hr : tagRound signs g w = (0, 0, tagErr signs g w) := by rw [tagRound, if_pos h1]
    rw [hr]
    simp (maxSteps := 1000000) only [e2, e0, beq_self_eq_true, encL, encG, EA, EB, EC, ED, EE, EF, EG, EH, XA, XB, XC, XD, XE, XF, XG, XH, XI, XJ, XK, XL, XM, reduceIte, ↓reduceIte, Nat.reduceAdd, Nat.reduceLeDiff, Nat.reduceEqDiff, Nat.reduceLT, Nat.reduceSub, Nat.reduceBEq, forall_const, reduceCtorEq, implies_true, exists_eq_left', exists_eq_left, if_true, if_false, undef]
  have e1 : (tagErr signs g w != 0) = false := by simp [h1]
  obtain ⟨ok, _⟩ := tagErr_ok h1
  have hw40 := ok.w
  have hr : tagRound signs g w = trnd g w 400 0 := by rw [tagRound, if_neg (by simp [h1])]
  rw [hr]
  simp (maxSteps := 1000000) only [e1, encL, encG, EA, EB, EC, ED, EE, EF, EG, EH, XA, XB, XC, XD, XE, XF, XG, XH, XI, XJ, XK, XL, XM, reduceIte, ↓reduceIte, Nat.reduceAdd, Nat.reduceLeDiff, Nat.reduceEqDiff, Nat.reduceLT, Nat.reduceSub, Nat.reduceBEq, forall_const, reduceCtorEq, implies_true, exists_eq_left', exists_eq_left, if_true, if_false, undef]
  refine loopR Nat [11, 12, 13] (fun k => [.arr 24 0 k, .ro 1 ((tw g w k).map I), I (k : Nat)]) (fun k => [(24, some (.arr 1 (wasL g w k)))]) 1 (rndInv g w) (fun k => 401 - k) (by decide) 0 [none] rfl
    ⟨by omega, fun j hj => by omega, by rw [if_neg (by omega), if_neg (by simp only [tw]; omega)]⟩ (by simp [Back, BackF, fzT, fzM, fzU, fz, fzL, fzO, kin, SubT, Sub, SubL, SubM, SubO, keepM, srcOk, look, lookM, ev, evs, putT, argT, encL, encG, EA, EB, EC, ED, EE, EF, EG, EH, XA, XB, XC, XD, XE, XF, XG, XH, XI, XJ, XK, XL, XM, reduceIte, ↓reduceIte, Nat.reduceAdd, Nat.reduceLeDiff, Nat.reduceEqDiff, Nat.reduceLT, Nat.reduceSub, Nat.reduceBEq, forall_const, reduceCtorEq, implies_true, exists_eq_left', exists_eq_left, if_true, if_false, undef, tw, wasL]) (fun k hk => ?_)
  obtain ⟨hk, hgo, hrun⟩ := hk
  generalize hT : trnd g w 400 0 = T at hrun ⊢
  by_cases c0 : k = 401
  · subst c0
    have f0 : decide (((401 : Nat) : Int) ≤ 400) = false := by decide
    rw [if_pos rfl] at hrun
    subst hrun
    simp (maxSteps := 1000000) only [f0, e7, e0, encL, encG, EA, EB, EC, ED, EE, EF, EG, EH, XA, XB, XC, XD, XE, XF, XG, XH, XI, XJ, XK, XL, XM, reduceIte, ↓reduceIte, Nat.reduceAdd, Nat.reduceLeDiff, Nat.reduceEqDiff, Nat.reduceLT, Nat.reduceSub, Nat.reduceBEq, forall_const, reduceCtorEq, implies_true, exists_eq_left', exists_eq_left, if_true, if_false, undef]
  have f0 : decide ((k : Int) ≤ 400) = true := by simp; omega
  rw [if_neg c0] at hrun
  have hlk : (((tw g w k).map I).length : Int) = (tw g w k).length := by simp
  by_cases c1 : 40 < (tw g w k).length
  · have f1 : decide (((tw g w k).length : Int) > 40) = true := by simp; omega
    rw [if_pos c1] at hrun
    subst hrun
    simp (maxSteps := 1000000) only [f0, hlk, f1, e7, e0, encL, encG, EA, EB, EC, ED, EE, EF, EG, EH, XA, XB, XC, XD, XE, XF, XG, XH, XI, XJ, XK, XL, XM, reduceIte, ↓reduceIte, Nat.reduceAdd, Nat.reduceLeDiff, Nat.reduceEqDiff, Nat.reduceLT, Nat.reduceSub, Nat.reduceBEq, forall_const, reduceCtorEq, implies_true, exists_eq_left', exists_eq_left, if_true, if_false, undef]
  have f1 : decide (((tw g w k).length : Int) > 40) = false := by simp; omega
  rw [if_neg c1] at hrun
  have h40 : (tw g w k).length ≤ 40 := by omega
  simp (maxSteps := 1000000) only [f0, hlk, f1, encL, encG, EA, EB, EC, ED, EE, EF, EG, EH, XA, XB, XC, XD, XE, XF, XG, XH, XI, XJ, XK, XL, XM, reduceIte, ↓reduceIte, Nat.reduceAdd, Nat.reduceLeDiff, Nat.reduceEqDiff, Nat.reduceLT, Nat.reduceSub, Nat.reduceBEq, forall_const, reduceCtorEq, implies_true, exists_eq_left', exists_eq_left, if_true, if_false, undef]
  refine loop0 Nat [14] (fun i => [I (i : Nat)]) (fun i => i ≤ k ∧ ∀ j, j < i → tw g w j ≠ tw g w k) (fun i => k - i) (by decide) 0 (by simp) (by simp [Back, BackF, fzT, fzM, fzU, fz, fzL, fzO, kin, SubT, Sub, SubL, SubM, SubO, keepM, srcOk, look, lookM, ev, evs, putT, argT, encL, encG, EA, EB, EC, ED, EE, EF, EG, EH, XA, XB, XC, XD, XE, XF, XG, XH, XI, XJ, XK, XL, XM, reduceIte, ↓reduceIte, Nat.reduceAdd, Nat.reduceLeDiff, Nat.reduceEqDiff, Nat.reduceLT, Nat.reduceSub, Nat.reduceBEq, forall_const, reduceCtorEq, implies_true, exists_eq_left', exists_eq_left, if_true, if_false, undef]) (fun i hi => ?_)
  obtain ⟨hi, hne⟩ := hi
  by_cases c2 : i < k
  · have f2 : decide ((i : Int) < (k : Int)) = true := by simp [c2]
    have hw1 : IntKind.i64.wrap ((i : Int) + 1) = ((i + 1 : Nat) : Int) := by rw [wrap_id] <;> omega
    simp (maxSteps := 1000000) only [f2, encL, encG, EA, EB, EC, ED, EE, EF, EG, EH, XA, XB, XC, XD, XE, XF, XG, XH, XI, XJ, XK, XL, XM, reduceIte, ↓reduceIte, Nat.reduceAdd, Nat.reduceLeDiff, Nat.reduceEqDiff, Nat.reduceLT, Nat.reduceSub, Nat.reduceBEq, forall_const, reduceCtorEq, implies_true, exists_eq_left', exists_eq_left, if_true, if_false, undef]
    refine ⟨by omega, by omega, ?_⟩
    simp (maxSteps := 1000000) only [Int.toNat_natCast, encL, encG, EA, EB, EC, ED, EE, EF, EG, EH, XA, XB, XC, XD, XE, XF, XG, XH, XI, XJ, XK, XL, XM, reduceIte, ↓reduceIte, Nat.reduceAdd, Nat.reduceLeDiff, Nat.reduceEqDiff, Nat.reduceLT, Nat.reduceSub, Nat.reduceBEq, forall_const, reduceCtorEq, implies_true, exists_eq_left', exists_eq_left, if_true, if_false, undef]
    refine Pick.mk _ (wasL_get c2) ?_
    simp (maxSteps := 1000000) only [encL, encL, encG, EA, EB, EC, ED, EE, EF, EG, EH, XA, XB, XC, XD, XE, XF, XG, XH, XI, XJ, XK, XL, XM, reduceIte, ↓reduceIte, Nat.reduceAdd, Nat.reduceLeDiff, Nat.reduceEqDiff, Nat.reduceLT, Nat.reduceSub, Nat.reduceBEq, forall_const, reduceCtorEq, implies_true, exists_eq_left', exists_eq_left, if_true, if_false, undef]
    have hli := (hgo i c2).2
    refine callF (CallsA.args (ints_spec (tw g w i) (tw g w k) (by omega)) (by simp [encL, encG, EA, EB, EC, ED, EE, EF, EG, EH, XA, XB, XC, XD, XE, XF, XG, XH, XI, XJ, XK, XL, XM, reduceIte, ↓reduceIte, Nat.reduceAdd, Nat.reduceLeDiff, Nat.reduceEqDiff, Nat.reduceLT, Nat.reduceSub, Nat.reduceBEq, forall_const, reduceCtorEq, implies_true, exists_eq_left', exists_eq_left, if_true, if_false, undef])) rfl (by simp [flat, encL, encG, EA, EB, EC, ED, EE, EF, EG, EH, XA, XB, XC, XD, XE, XF, XG, XH, XI, XJ, XK, XL, XM, reduceIte, ↓reduceIte, Nat.reduceAdd, Nat.reduceLeDiff, Nat.reduceEqDiff, Nat.reduceLT, Nat.reduceSub, Nat.reduceBEq, forall_const, reduceCtorEq, implies_true, exists_eq_left', exists_eq_left, if_true, if_false, undef]) ?_
    by_cases c3 : tw g w i = tw g w k
    · have f3 : decide (tw g w i = tw g w k) = true := by simp [c3]
      have hnf : ¬ ((tw g w k).length : Int) < g.drop := by rw [← c3]; exact (hgo i c2).1
      rw [trnd_found hnf (fnd_some c2 hne c3)] at hrun
      subst hrun
      have hws : IntKind.i64.wrap ((k : Int) - (i : Int)) = (k : Int) - (i : Int) := by rw [wrap_id] <;> omega
      simp (maxSteps := 1000000) only [f3, e0, hws, beq_self_eq_true, encL, encG, EA, EB, EC, ED, EE, EF, EG, EH, XA, XB, XC, XD, XE, XF, XG, XH, XI, XJ, XK, XL, XM, reduceIte, ↓reduceIte, Nat.reduceAdd, Nat.reduceLeDiff, Nat.reduceEqDiff, Nat.reduceLT, Nat.reduceSub, Nat.reduceBEq, forall_const, reduceCtorEq, implies_true, exists_eq_left', exists_eq_left, if_true, if_false, undef]
    · have f3 : decide (tw g w i = tw g w k) = false := by simp [c3]
      simp (maxSteps := 1000000) only [f3, hw1, encL, encG, EA, EB, EC, ED, EE, EF, EG, EH, XA, XB, XC, XD, XE, XF, XG, XH, XI, XJ, XK, XL, XM, reduceIte, ↓reduceIte, Nat.reduceAdd, Nat.reduceLeDiff, Nat.reduceEqDiff, Nat.reduceLT, Nat.reduceSub, Nat.reduceBEq, forall_const, reduceCtorEq, implies_true, exists_eq_left', exists_eq_left, if_true, if_false, undef]
      exact ⟨i + 1, ⟨by omega, fun j hj => by
        by_cases hj' : j < i
        · exact hne j hj'
        · rw [show j = i by omega]; exact c3⟩, by omega, by simp [Back, BackF, fzT, fzM, fzU, fz, fzL, fzO, kin, SubT, Sub, SubL, SubM, SubO, keepM, srcOk, look, lookM, ev, evs, putT, argT, encL, encG, EA, EB, EC, ED, EE, EF, EG, EH, XA, XB, XC, XD, XE, XF, XG, XH, XI, XJ, XK, XL, XM, reduceIte, ↓reduceIte, Nat.reduceAdd, Nat.reduceLeDiff, Nat.reduceEqDiff, Nat.reduceLT, Nat.reduceSub, Nat.reduceBEq, forall_const, reduceCtorEq, implies_true, exists_eq_left', exists_eq_left, if_true, if_false, undef]⟩
  have f2 : decide ((i : Int) < (k : Int)) = false := by simp [c2]
  have hik : i = k := by omega
  subst hik
  have hfn := fnd_none hne
  simp (maxSteps := 1000000) only [f2, hlk, encL, encG, EA, EB, EC, ED, EE, EF, EG, EH, XA, XB, XC, XD, XE, XF, XG, XH, XI, XJ, XK, XL, XM, reduceIte, ↓reduceIte, Nat.reduceAdd, Nat.reduceLeDiff, Nat.reduceEqDiff, Nat.reduceLT, Nat.reduceSub, Nat.reduceBEq, forall_const, reduceCtorEq, implies_true, exists_eq_left', exists_eq_left, if_true, if_false, undef]
  by_cases c4 : ((tw g w i).length : Int) < g.drop
  · have f4 : decide (((tw g w i).length : Int) < g.drop) = true := by simp [c4]
    rw [trnd_fin c4] at hrun
    subst hrun
    simp (maxSteps := 1000000) only [f4, e5, e0, encL, encG, EA, EB, EC, ED, EE, EF, EG, EH, XA, XB, XC, XD, XE, XF, XG, XH, XI, XJ, XK, XL, XM, reduceIte, ↓reduceIte, Nat.reduceAdd, Nat.reduceLeDiff, Nat.reduceEqDiff, Nat.reduceLT, Nat.reduceSub, Nat.reduceBEq, forall_const, reduceCtorEq, implies_true, exists_eq_left', exists_eq_left, if_true, if_false, undef]
  have f4 : decide (((tw g w i).length : Int) < g.drop) = false := by simp [c4]
  have hwl := wasL_length g w i
  simp (maxSteps := 1000000) only [f4, hwl, encL, encG, EA, EB, EC, ED, EE, EF, EG, EH, XA, XB, XC, XD, XE, XF, XG, XH, XI, XJ, XK, XL, XM, reduceIte, ↓reduceIte, Nat.reduceAdd, Nat.reduceLeDiff, Nat.reduceEqDiff, Nat.reduceLT, Nat.reduceSub, Nat.reduceBEq, forall_const, reduceCtorEq, implies_true, exists_eq_left', exists_eq_left, if_true, if_false, undef]
  refine ⟨by omega, ?_⟩
  refine callA (CallsA.args (tagged_spec g (tw g w i) (tw_go ok h40) (by omega) ) (by simp [ encG,encL, encG, EA, EB, EC, ED, EE, EF, EG, EH, XA, XB, XC, XD, XE, XF, XG, XH, XI, XJ, XK, XL, XM, reduceIte, ↓reduceIte, Nat.reduceAdd, Nat.reduceLeDiff, Nat.reduceEqDiff, Nat.reduceLT, Nat.reduceSub, Nat.reduceBEq, forall_const, reduceCtorEq, implies_true, exists_eq_left', exists_eq_left, if_true, if_false, undef])) rfl ?_
  have hw1 : IntKind.i64.wrap ((i : Int) + 1) = ((i + 1 : Nat) : Int) := by rw [wrap_id] <;> omega
  simp (maxSteps := 1000000) only [hw1, encL, encG, EA, EB, EC, ED, EE, EF, EG, EH, XA, XB, XC, XD, XE, XF, XG, XH, XI, XJ, XK, XL, XM, reduceIte, ↓reduceIte, Nat.reduceAdd, Nat.reduceLeDiff, Nat.reduceEqDiff, Nat.reduceLT, Nat.reduceSub, Nat.reduceBEq, forall_const, reduceCtorEq, implies_true, exists_eq_left', exists_eq_left, if_true, if_false, undef]
  have hinv : rndInv g w (i + 1) := by
    refine ⟨by omega, fun j hj => ?_, ?_⟩
    · by_cases hj' : j < i
      · exact hgo j hj'
      · rw [show j = i by omega]; exact ⟨c4, h40⟩
    · by_cases ci : i = 400
      · subst ci
        rw [if_pos rfl]
        rw [Nat.sub_self, trnd_end c4 hfn] at hrun
        exact hT.trans hrun
      · rw [if_neg (by omega)]
        obtain ⟨q, hq⟩ : ∃ q, 400 - i = q + 1 := ⟨400 - i - 1, by omega⟩
        rw [hq, trnd_on c4 hfn] at hrun
        rw [show 400 - (i + 1) = q by omega]
        exact hT.trans hrun
  refine ⟨i + 1, [some 43], rfl, hinv, by omega, ?_⟩
  simp [Back, BackF, fzT, fzM, fzU, fz, fzL, fzO, kin, SubT, Sub, SubL, SubM, SubO, keepM, srcOk, look, lookM, ev, evs, putT, argT, encL, encG, EA, EB, EC, ED, EE, EF, EG, EH, XA, XB, XC, XD, XE, XF, XG, XH, XI, XJ, XK, XL, XM, reduceIte, ↓reduceIte, Nat.reduceAdd, Nat.reduceLeDiff, Nat.reduceEqDiff, Nat.reduceLT, Nat.reduceSub, Nat.reduceBEq, forall_const, reduceCtorEq, implies_true, exists_eq_left', exists_eq_left, if_true, if_false, undef, tw, wasL_succ, encL]

def sh_TagRounds : List Sh := [.int .i64, shTag, .slice 1 (.int .i64)]
theorem law_TagRounds (xs : List AV) (h : HasAll sh_TagRounds xs) : CallsA Try.prog 4 xs (.v (.bool true)) [] := by
  obtain ⟨x, r, rfl, hx, y, r, rfl, hy, z, r, rfl, hz, rfl⟩ := h
  obtain ⟨s, rfl, _⟩ := hasInt hx
  obtain ⟨g, w, rfl, rfl, hl⟩ := hasTag hy hz
  exact tagRounds_spec s g w hl

end Go.Av
namespace Go.Proofs.Ytgpdiifihleldaa
open Go.ChangeShapes Go.WideShapes Go.ChangeAt Go.RowKit
open Go.Av (open_all shut_all OldS HasAll Sh CallsA shAll)

theorem own : ownKnob Try.prog.godebug = none := by kernel_rfl
theorem laidOut : laidOutB Try.prog = true := by kernel_rfl
theorem shs_eq : shAll Try.prog 12 Try.f4.params.toList = some Go.Av.sh_TagRounds := by kernel_rfl
theorem readable : (Try.f4.params.toList.all fun t => Try.prog.readableRec t && decide (t < Try.prog.types.size)) = true := by kernel_rfl

theorem lifted (os : Os) (started : os.Started) (H : Type) (enc : TypeId × Value → H) :
    ReturnsInHanded {} Try.checked os 4 .any (Rows.tagRoundsSpec.pre6 enc Try.prog Try.f4 Rows.tagRoundsRow.domain false) (Rows.tagRoundsSpec.post enc Try.prog Try.f4 false true false false) := by
  refine returnsInHanded_of_change (C := Try.checked) own started (by kernel_rfl) Try.func4
    (ChangeSpec.witness6 (enc := enc) (C := Try.checked) false ⟨#[], #[.int .i64 0, .agg #[.int .i64 0, .slice none 0 0], .slice none 0 0], []⟩ 8 (by kernel_rfl) (by kernel_rfl) (by kernel_rfl) (by kernel_rfl)) ?_
  intro W base args ds gs before hval0 hW hcnd _
  have hval : ∀ (j : Nat) t v, Try.f4.params[j]? = some t → args[j]? = some v → Value.okWide Try.prog W .any base t v := hval0
  have hW' := hW
  obtain ⟨p, q, hA0, hV, rfl, hfz, hnd⟩ := hW
  have hA : DataW.TrodAll enc Try.prog W 0 (fun _ => true) true Try.f4.params.toList args.toList ds p := hA0
  obtain ⟨xs, hxs, hlen, hR⟩ := open_all (g := 12) _ _ _ _ Go.Av.sh_TagRounds hA (fun j t v ht hv => hval j t v (by simpa using ht) (by simpa using hv)) shs_eq
  obtain ⟨rfl, rfl⟩ := trodVars_none hV
  have hB := hA
  rw [Try.params4] at hB
  obtain ⟨v0, vs0, d0, ds0, p0, q0, hargs0, rfl, rfl, h0, r0⟩ := trodAll_cons hB
  obtain ⟨v1, vs1, d1, ds1, p1, q1, hargs1, rfl, rfl, h1, r1⟩ := trodAll_cons r0
  obtain ⟨v2, vs2, d2, ds2, p2, q2, hargs2, rfl, rfl, h2, r2⟩ := trodAll_cons r1
  obtain ⟨rfl, rfl, rfl⟩ := trodAll_nil r2
  refine ((Go.Av.law_TagRounds xs hxs).2 W (OldS W) args ⟨fun _ h => h, fun g cs hm => by simp [Go.Av.globs] at hm⟩ (by simpa using hlen) (fun i x y h1 h2 => hR i x y h1 (by simpa using h2))).mono ?_
  rintro e W' ⟨v, S', κ', rfl, hv, _, _, _, bel⟩
  rw [hv.v_inv]
  exact ⟨_, rfl, _, _, _, [], _, [], hW', trodAll_mk1 (shut_bool Try.underlying4 _), shut_all laidOut bel _ _ _ _ (fun t ht => by
    have := (List.all_eq_true.1 readable) t ht
    simpa using this) hA, rfl, bel.frame _, fun h => by cases h⟩

theorem tagRounds_holds : Rows.TagRoundsSaid :=
  OpenClaim.holds_of_wide 4 Try.f4 rfl rfl rfl rfl rfl rfl rfl ⟨rfl, rfl, rfl, rfl, rfl⟩ rfl rfl rfl rfl rfl (by kernel_rfl) Try.func4 (by kernel_rfl)
    (of_decide_eq_true (by kernel_rfl)) (by unfold Func.isWrapper; first | (rw [if_pos (by decide +kernel)]; kernel_rfl) | (rw [if_neg (by decide +kernel)]; exact ⟨rfl, rfl⟩))
    (fun os started H enc _ => lifted os started H enc)

end Go.Proofs.Ytgpdiifihleldaa
