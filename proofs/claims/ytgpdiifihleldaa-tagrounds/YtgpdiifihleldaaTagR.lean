/- Tag systems: runs. -/
import Derived.Test.YtgpdiifihleldaaTagT
set_option linter.unusedSimpArgs false
set_option linter.unusedVariables false
set_option maxRecDepth 100000
namespace Go.Av
open Go.Proofs

/-- the word after k transitions -/
def tw (g : TagS) (w : List Int) : Nat → List Int
  | 0 => w
  | k + 1 => tstp g (tw g w k)

/-- how many transitions, from the k-th word on; none: a word is too long -/
def trun (g : TagS) (w : List Int) : Nat → Nat → Option Nat
  | 0, k => some k
  | f + 1, k => if ((tw g w k).length : Int) < g.drop then some k else if 40 < (tw g w (k + 1)).length then none else trun g w f (k + 1)

structure TagOk (g : TagS) (w : List Int) : Prop where
  d : 1 ≤ g.drop ∧ g.drop ≤ 4
  b : 1 ≤ g.bring.length ∧ g.bring.length ≤ 4
  l : ∀ x ∈ g.bring, x.length ≤ 8
  li : ∀ x ∈ g.bring, ∀ y ∈ x, 0 ≤ y ∧ y < g.bring.length
  i : ∀ x ∈ w, 0 ≤ x ∧ x < g.bring.length
  w : w.length ≤ 40

theorem inside_iff {n : Int} {l : List Int} : inside n l = true ↔ ∀ x ∈ l, 0 ≤ x ∧ x < n := by simp [inside]

theorem tagErr_ok {signs : Int} {g : TagS} {w : List Int} (h : tagErr signs g w = 0) : TagOk g w ∧ (g.bring.length : Int) = signs := by
  simp only [tagErr] at h
  split at h
  · cases h
  · rename_i h1
    split at h
    · cases h
    · rename_i h2
      split at h
      · rename_i h3
        simp only [large, short, Bool.or_eq_true, decide_eq_true_eq, not_or, Bool.not_eq_true', Bool.not_eq_false, List.all_eq_true] at h1
        simp only [Bool.and_eq_true, List.all_eq_true] at h3
        have h2' : (g.bring.length : Int) = signs := by simpa using h2
        obtain ⟨h1, h4⟩ := h1
        refine ⟨⟨by omega, by omega, fun x hx => by simpa using h4 x hx, fun x hx => ?_, ?_, by omega⟩, h2'⟩
        · rw [h2']; exact inside_iff.1 (h3.2 x hx)
        · rw [h2']; exact inside_iff.1 h3.1
      · cases h

theorem tagErr_of {signs : Int} {g : TagS} {w : List Int} (h : TagOk g w) (hs : (g.bring.length : Int) = signs) : tagErr signs g w = 0 := by
  have h1 : large signs g w = false := by
    have := h.d; have := h.b; have := h.w
    have hsh : short g = true := by simp only [short, List.all_eq_true, decide_eq_true_eq]; exact h.l
    simp only [large, hsh, Bool.not_true, Bool.or_false, decide_eq_false_iff_not]
    omega
  have h2 : inside signs w = true := by rw [inside_iff, ← hs]; exact h.i
  have h3 : g.bring.all (inside signs) = true := by
    rw [List.all_eq_true]; intro x hx; rw [inside_iff, ← hs]; exact h.li x hx
  simp [tagErr, h1, hs, h2, h3]

theorem tw_in {g : TagS} {w : List Int} (h : TagOk g w) : ∀ k, ∀ x ∈ tw g w k, 0 ≤ x ∧ x < g.bring.length
  | 0 => h.i
  | k + 1 => fun x hx => by
    simp only [tw, tstp, List.mem_append] at hx
    rcases hx with hx | hx
    · exact tw_in h k x (List.mem_of_mem_drop hx)
    · cases hb : g.bring[((tw g w k).headD 0).toNat]? with
      | none => rw [hb] at hx; simp at hx
      | some l => rw [hb] at hx; exact h.li l (List.mem_of_getElem? hb) x hx

theorem tw_go {g : TagS} {w : List Int} (h : TagOk g w) {k : Nat} (hk : (tw g w k).length ≤ 40) : TagGo g (tw g w k) := ⟨h.d, h.b, h.l, tw_in h k, hk⟩
theorem tw_len {g : TagS} {w : List Int} (h : TagOk g w) (k : Nat) : (tw g w (k + 1)).length ≤ (tw g w k).length + 8 := by
  simp only [tw, tstp, List.length_append, List.length_drop]
  cases hb : g.bring[((tw g w k).headD 0).toNat]? with
  | none => simp; omega
  | some l => have := h.l l (List.mem_of_getElem? hb); simp; omega

def tagRun (signs : Int) (g : TagS) (w : List Int) (turns : Int) : List Int × Int × Int :=
  if tagErr signs g w ≠ 0 then ([], 0, tagErr signs g w)
  else if turns < 0 ∨ turns > 400 then ([], 0, 4)
  else match trun g w turns.toNat 0 with
    | some k => (tw g w k, k, 0)
    | none => ([], 0, 7)
def tagRunAns (r : List Int × Int × Int) : AV := .tup [.ro 1 (r.1.map I), I r.2.1, I r.2.2]

theorem tagRun_spec (signs : Int) (g : TagS) (w : List Int) (turns : Int) (hl : TagLen g w) : CallsA Try.prog 7 [I signs, encG g, .ro 1 (w.map I), I turns] (tagRunAns (tagRun signs g w turns)) [] := by
  refine fn_of0 comp7 (by simp) ?_
  unfold code7
  simp (maxSteps := 1000000) only [encL, encG, EA, EB, EC, ED, EE, EF, EG, EH, XA, XB, XC, XD, XE, XF, XG, XH, XI, XJ, XK, XL, XM, reduceIte, ↓reduceIte, Nat.reduceAdd, Nat.reduceLeDiff, Nat.reduceEqDiff, Nat.reduceLT, Nat.reduceSub, Nat.reduceBEq, forall_const, reduceCtorEq, implies_true, exists_eq_left', exists_eq_left, if_true, if_false, undef]
  refine callF (CallsA.args (tagcheck_spec signs g w hl ) (by simp [ encG,encL, encG, EA, EB, EC, ED, EE, EF, EG, EH, XA, XB, XC, XD, XE, XF, XG, XH, XI, XJ, XK, XL, XM, reduceIte, ↓reduceIte, Nat.reduceAdd, Nat.reduceLeDiff, Nat.reduceEqDiff, Nat.reduceLT, Nat.reduceSub, Nat.reduceBEq, forall_const, reduceCtorEq, implies_true, exists_eq_left', exists_eq_left, if_true, if_false, undef])) rfl (by simp [flat, encL, encG, EA, EB, EC, ED, EE, EF, EG, EH, XA, XB, XC, XD, XE, XF, XG, XH, XI, XJ, XK, XL, XM, reduceIte, ↓reduceIte, Nat.reduceAdd, Nat.reduceLeDiff, Nat.reduceEqDiff, Nat.reduceLT, Nat.reduceSub, Nat.reduceBEq, forall_const, reduceCtorEq, implies_true, exists_eq_left', exists_eq_left, if_true, if_false, undef]) ?_
  by_cases h1 : tagErr signs g w = 0
  rotate_left
  · have e1 : (tagErr signs g w != 0) = true := by simp [h1]
    have hr : tagRun signs g w turns = ([], 0, tagErr signs g w) := by rw [tagRun, if_pos h1]
    rw [hr]
    simp (maxSteps := 1000000) only [e1, tagRunAns, List.map_nil, encL, encG, EA, EB, EC, ED, EE, EF, EG, EH, XA, XB, XC, XD, XE, XF, XG, XH, XI, XJ, XK, XL, XM, reduceIte, ↓reduceIte, Nat.reduceAdd, Nat.reduceLeDiff, Nat.reduceEqDiff, Nat.reduceLT, Nat.reduceSub, Nat.reduceBEq, forall_const, reduceCtorEq, implies_true, exists_eq_left', exists_eq_left, if_true, if_false, undef]
  have e1 : (tagErr signs g w != 0) = false := by simp [h1]
  simp (maxSteps := 1000000) only [e1, encL, encG, EA, EB, EC, ED, EE, EF, EG, EH, XA, XB, XC, XD, XE, XF, XG, XH, XI, XJ, XK, XL, XM, reduceIte, ↓reduceIte, Nat.reduceAdd, Nat.reduceLeDiff, Nat.reduceEqDiff, Nat.reduceLT, Nat.reduceSub, Nat.reduceBEq, forall_const, reduceCtorEq, implies_true, exists_eq_left', exists_eq_left, if_true, if_false, undef]
  obtain ⟨ok, _⟩ := tagErr_ok h1
  have hw40 := ok.w
  by_cases h2 : turns < 0 ∨ turns > 400
  · have hr : tagRun signs g w turns = ([], 0, 4) := by rw [tagRun, if_neg (by simp [h1]), if_pos h2]
    rw [hr]
    by_cases c1 : turns < 0
    · have e2 : decide (turns < 0) = true := by simp [c1]
      simp (maxSteps := 1000000) only [e2, tagRunAns, List.map_nil, encL, encG, EA, EB, EC, ED, EE, EF, EG, EH, XA, XB, XC, XD, XE, XF, XG, XH, XI, XJ, XK, XL, XM, reduceIte, ↓reduceIte, Nat.reduceAdd, Nat.reduceLeDiff, Nat.reduceEqDiff, Nat.reduceLT, Nat.reduceSub, Nat.reduceBEq, forall_const, reduceCtorEq, implies_true, exists_eq_left', exists_eq_left, if_true, if_false, undef]
    · have e2 : decide (turns < 0) = false := by simp [c1]
      have e3 : decide (turns > 400) = true := by simp; omega
      simp (maxSteps := 1000000) only [e2, e3, tagRunAns, List.map_nil, encL, encG, EA, EB, EC, ED, EE, EF, EG, EH, XA, XB, XC, XD, XE, XF, XG, XH, XI, XJ, XK, XL, XM, reduceIte, ↓reduceIte, Nat.reduceAdd, Nat.reduceLeDiff, Nat.reduceEqDiff, Nat.reduceLT, Nat.reduceSub, Nat.reduceBEq, forall_const, reduceCtorEq, implies_true, exists_eq_left', exists_eq_left, if_true, if_false, undef]
  have e2 : decide (turns < 0) = false := by simp; omega
  have e3 : decide (turns > 400) = false := by simp; omega
  obtain ⟨N, rfl⟩ : ∃ N : Nat, turns = (N : Int) := ⟨turns.toNat, by omega⟩
  simp (maxSteps := 1000000) only [e2, e3, encL, encG, EA, EB, EC, ED, EE, EF, EG, EH, XA, XB, XC, XD, XE, XF, XG, XH, XI, XJ, XK, XL, XM, reduceIte, ↓reduceIte, Nat.reduceAdd, Nat.reduceLeDiff, Nat.reduceEqDiff, Nat.reduceLT, Nat.reduceSub, Nat.reduceBEq, forall_const, reduceCtorEq, implies_true, exists_eq_left', exists_eq_left, if_true, if_false, undef]
  refine callA (CallsA.args (clone0_spec w (by omega)) (by simp [encL, encG, EA, EB, EC, ED, EE, EF, EG, EH, XA, XB, XC, XD, XE, XF, XG, XH, XI, XJ, XK, XL, XM, reduceIte, ↓reduceIte, Nat.reduceAdd, Nat.reduceLeDiff, Nat.reduceEqDiff, Nat.reduceLT, Nat.reduceSub, Nat.reduceBEq, forall_const, reduceCtorEq, implies_true, exists_eq_left', exists_eq_left, if_true, if_false, undef])) rfl ?_
  simp (maxSteps := 1000000) only [encL, encG, EA, EB, EC, ED, EE, EF, EG, EH, XA, XB, XC, XD, XE, XF, XG, XH, XI, XJ, XK, XL, XM, reduceIte, ↓reduceIte, Nat.reduceAdd, Nat.reduceLeDiff, Nat.reduceEqDiff, Nat.reduceLT, Nat.reduceSub, Nat.reduceBEq, forall_const, reduceCtorEq, implies_true, exists_eq_left', exists_eq_left, if_true, if_false, undef]
  have hr : tagRun signs g w N = match trun g w N 0 with | some k => (tw g w k, (k : Int), 0) | none => ([], 0, 7) := by
    rw [tagRun, if_neg (by simp [h1]), if_neg h2, Int.toNat_natCast]
  rw [hr]
  refine loop0 Nat [12, 13] (fun k => [.ro 1 ((tw g w k).map I), I (k : Nat)]) (fun k => k ≤ N ∧ (tw g w k).length ≤ 40 ∧ trun g w (N - k) k = trun g w N 0) (fun k => N - k) (by decide) 0 (by simp [tw]; omega) (by simp [Back, BackF, fzT, fzM, fzU, fz, fzL, fzO, kin, SubT, Sub, SubL, SubM, SubO, keepM, srcOk, look, lookM, ev, evs, putT, argT, encL, encG, EA, EB, EC, ED, EE, EF, EG, EH, XA, XB, XC, XD, XE, XF, XG, XH, XI, XJ, XK, XL, XM, reduceIte, ↓reduceIte, Nat.reduceAdd, Nat.reduceLeDiff, Nat.reduceEqDiff, Nat.reduceLT, Nat.reduceSub, Nat.reduceBEq, forall_const, reduceCtorEq, implies_true, exists_eq_left', exists_eq_left, if_true, if_false, undef, tw]) (fun k hk => ?_)
  obtain ⟨hk, h40, hrun⟩ := hk
  by_cases c1 : k < N
  rotate_left
  · have f1 : decide ((k : Int) < (N : Int)) = false := by simp [c1]
    have hkN : k = N := by omega
    subst hkN
    rw [Nat.sub_self, trun] at hrun
    rw [← hrun]
    simp (maxSteps := 1000000) only [f1, tagRunAns, encL, encG, EA, EB, EC, ED, EE, EF, EG, EH, XA, XB, XC, XD, XE, XF, XG, XH, XI, XJ, XK, XL, XM, reduceIte, ↓reduceIte, Nat.reduceAdd, Nat.reduceLeDiff, Nat.reduceEqDiff, Nat.reduceLT, Nat.reduceSub, Nat.reduceBEq, forall_const, reduceCtorEq, implies_true, exists_eq_left', exists_eq_left, if_true, if_false, undef]
  have f1 : decide ((k : Int) < (N : Int)) = true := by simp [c1]
  simp (maxSteps := 1000000) only [f1, encL, encG, EA, EB, EC, ED, EE, EF, EG, EH, XA, XB, XC, XD, XE, XF, XG, XH, XI, XJ, XK, XL, XM, reduceIte, ↓reduceIte, Nat.reduceAdd, Nat.reduceLeDiff, Nat.reduceEqDiff, Nat.reduceLT, Nat.reduceSub, Nat.reduceBEq, forall_const, reduceCtorEq, implies_true, exists_eq_left', exists_eq_left, if_true, if_false, undef]
  refine callF (CallsA.args (isFinal_spec g (tw g w k) ) (by simp [ encG,encL, encG, EA, EB, EC, ED, EE, EF, EG, EH, XA, XB, XC, XD, XE, XF, XG, XH, XI, XJ, XK, XL, XM, reduceIte, ↓reduceIte, Nat.reduceAdd, Nat.reduceLeDiff, Nat.reduceEqDiff, Nat.reduceLT, Nat.reduceSub, Nat.reduceBEq, forall_const, reduceCtorEq, implies_true, exists_eq_left', exists_eq_left, if_true, if_false, undef])) rfl (by simp [flat, encL, encG, EA, EB, EC, ED, EE, EF, EG, EH, XA, XB, XC, XD, XE, XF, XG, XH, XI, XJ, XK, XL, XM, reduceIte, ↓reduceIte, Nat.reduceAdd, Nat.reduceLeDiff, Nat.reduceEqDiff, Nat.reduceLT, Nat.reduceSub, Nat.reduceBEq, forall_const, reduceCtorEq, implies_true, exists_eq_left', exists_eq_left, if_true, if_false, undef]) ?_
  obtain ⟨q, hq⟩ : ∃ q, N - k = q + 1 := ⟨N - k - 1, by omega⟩
  rw [hq, trun] at hrun
  by_cases c2 : ((tw g w k).length : Int) < g.drop
  · have f2 : decide (((tw g w k).length : Int) < g.drop) = true := by simp [c2]
    rw [if_pos c2] at hrun
    rw [← hrun]
    simp (maxSteps := 1000000) only [f2, tagRunAns, encL, encG, EA, EB, EC, ED, EE, EF, EG, EH, XA, XB, XC, XD, XE, XF, XG, XH, XI, XJ, XK, XL, XM, reduceIte, ↓reduceIte, Nat.reduceAdd, Nat.reduceLeDiff, Nat.reduceEqDiff, Nat.reduceLT, Nat.reduceSub, Nat.reduceBEq, forall_const, reduceCtorEq, implies_true, exists_eq_left', exists_eq_left, if_true, if_false, undef]
  have f2 : decide (((tw g w k).length : Int) < g.drop) = false := by simp [c2]
  rw [if_neg c2] at hrun
  simp (maxSteps := 1000000) only [f2, encL, encG, EA, EB, EC, ED, EE, EF, EG, EH, XA, XB, XC, XD, XE, XF, XG, XH, XI, XJ, XK, XL, XM, reduceIte, ↓reduceIte, Nat.reduceAdd, Nat.reduceLeDiff, Nat.reduceEqDiff, Nat.reduceLT, Nat.reduceSub, Nat.reduceBEq, forall_const, reduceCtorEq, implies_true, exists_eq_left', exists_eq_left, if_true, if_false, undef]
  refine callA (CallsA.args (transform_spec g (tw g w k) (tw_go ok h40) (by omega) ) (by simp [ encG,encL, encG, EA, EB, EC, ED, EE, EF, EG, EH, XA, XB, XC, XD, XE, XF, XG, XH, XI, XJ, XK, XL, XM, reduceIte, ↓reduceIte, Nat.reduceAdd, Nat.reduceLeDiff, Nat.reduceEqDiff, Nat.reduceLT, Nat.reduceSub, Nat.reduceBEq, forall_const, reduceCtorEq, implies_true, exists_eq_left', exists_eq_left, if_true, if_false, undef])) rfl ?_
  have hlen : (((tstp g (tw g w k)).map I).length : Int) = ((tw g w (k + 1)).length : Nat) := by simp [tw]
  have hw1 : IntKind.i64.wrap ((k : Int) + 1) = ((k + 1 : Nat) : Int) := by rw [wrap_id] <;> omega
  by_cases c3 : 40 < (tw g w (k + 1)).length
  · have f3 : decide (((tw g w (k + 1)).length : Int) > 40) = true := by simp; omega
    rw [if_pos c3] at hrun
    rw [← hrun]
    simp (maxSteps := 1000000) only [hlen, f3, tagRunAns, List.map_nil, encL, encG, EA, EB, EC, ED, EE, EF, EG, EH, XA, XB, XC, XD, XE, XF, XG, XH, XI, XJ, XK, XL, XM, reduceIte, ↓reduceIte, Nat.reduceAdd, Nat.reduceLeDiff, Nat.reduceEqDiff, Nat.reduceLT, Nat.reduceSub, Nat.reduceBEq, forall_const, reduceCtorEq, implies_true, exists_eq_left', exists_eq_left, if_true, if_false, undef]
  · have f3 : decide (((tw g w (k + 1)).length : Int) > 40) = false := by simp; omega
    rw [if_neg c3] at hrun
    simp (maxSteps := 1000000) only [hlen, f3, hw1, encL, encG, EA, EB, EC, ED, EE, EF, EG, EH, XA, XB, XC, XD, XE, XF, XG, XH, XI, XJ, XK, XL, XM, reduceIte, ↓reduceIte, Nat.reduceAdd, Nat.reduceLeDiff, Nat.reduceEqDiff, Nat.reduceLT, Nat.reduceSub, Nat.reduceBEq, forall_const, reduceCtorEq, implies_true, exists_eq_left', exists_eq_left, if_true, if_false, undef]
    exact ⟨k + 1, ⟨by omega, by omega, by rw [show N - (k + 1) = q by omega]; exact hrun⟩, by omega, by simp [Back, BackF, fzT, fzM, fzU, fz, fzL, fzO, kin, SubT, Sub, SubL, SubM, SubO, keepM, srcOk, look, lookM, ev, evs, putT, argT, encL, encG, EA, EB, EC, ED, EE, EF, EG, EH, XA, XB, XC, XD, XE, XF, XG, XH, XI, XJ, XK, XL, XM, reduceIte, ↓reduceIte, Nat.reduceAdd, Nat.reduceLeDiff, Nat.reduceEqDiff, Nat.reduceLT, Nat.reduceSub, Nat.reduceBEq, forall_const, reduceCtorEq, implies_true, exists_eq_left', exists_eq_left, if_true, if_false, undef, tw]⟩

end Go.Av
