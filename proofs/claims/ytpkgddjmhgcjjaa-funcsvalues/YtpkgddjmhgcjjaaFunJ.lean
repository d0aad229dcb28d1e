/- Lists of lists of numbers, one after the other. -/
import Derived.Test.YtpkgddjmhgcjjaaFunW
set_option linter.unusedSimpArgs false
set_option linter.unusedVariables false
set_option maxRecDepth 100000
namespace Go.Av
open Go.Proofs

def encL (l : List Int) : AV := .ro 1 (l.map I)

/-- no slice at all, as an own one that is empty -/
theorem CallsA.nilArr {P : Program} {f : FuncId} {args : List AV} (sz : Nat) (h : CallsA P f args (.v (.slice none 0 0)) []) : CallsA P f args (.arr 0 0 0) [.arr sz []] := by
  refine ⟨h.1, fun w S vals hS hL hR => (h.2 w S vals hS hL hR).mono ?_⟩
  rintro e w' ⟨v, S', κ', he, hr, hent, hs, ho, hb⟩
  have hv := hr.v_inv
  subst hv
  refine ⟨_, S', upd κ' 0 ⟨0, 0, 0, 0, 0, true, fun _ => none⟩, he, .arrNil (l := ⟨0, 0, 0, 0, 0, true, fun _ => none⟩) (by simp [upd]) rfl, ⟨?_, ?_, ?_, ?_, hent.sb⟩, hs, ?_, hb⟩
  · intro k o g
    obtain ⟨rfl, rfl⟩ := lookM_one g
    exact ⟨⟨0, 0, 0, 0, 0, true, fun _ => none⟩, by simp [upd], .inl ⟨rfl, rfl⟩⟩
  · intro k k' o o' l1 l2 b g1 g2 _ _ _ _
    rw [(lookM_one g1).1, (lookM_one g2).1]
  · intro k o l1 b g1 g2 g3
    obtain ⟨rfl, rfl⟩ := lookM_one g1
    simp only [upd, if_true, Option.some.injEq] at g2
    subst g2
    have := (Loc.has_one (fun _ => rfl) g3).1
    cases this
  · intro k hk1
    have hk0 : k ≠ 0 := by simp at hk1; omega
    exact ⟨by simp [memOf, memFrom, lookM, Ne.symm hk0], by simp [upd, hk0]; exact (hent.fresh k (by simp)).2⟩
  · intro k o l1 b g1 g2 g3
    obtain ⟨rfl, rfl⟩ := lookM_one g1
    simp only [upd, if_true, Option.some.injEq] at g2
    subst g2
    have := (Loc.has_one (fun _ => rfl) g3).1
    cases this

theorem grow_spec (n : Nat) (hn : n ≤ 4294967296) : CallsA Try.prog 34 [.v (.slice none 0 0), I n] (.arr 0 0 0) [.arr 1 []] := by
  have w0 : IntKind.i64.wrap (((0 : Nat) : Int) - ((0 : Nat) : Int)) = 0 := by decide
  have w1 : IntKind.i64.wrap ((n : Int) - 0) = n := by rw [wrap_id] <;> omega
  have e1 : decide ((n : Int) < 0) = false := by simp
  by_cases h0 : n = 0
  · refine CallsA.nilArr 1 (fn_of0 comp34 (by simp) ?_)
    unfold code34
    have e2 : decide ((n : Int) > 0) = false := by simp; omega
    simp only [e1, w0, w1, e2, encL, EA, EB, EC, ED, EE, EF, EG, EH, XA, XB, XC, XD, XE, XF, XG, XH, XI, XJ, XK, XL, XM, reduceIte, ↓reduceIte, Nat.reduceAdd, Nat.reduceLeDiff, Nat.reduceEqDiff, Nat.reduceLT, Nat.reduceSub, Nat.reduceBEq, forall_const, reduceCtorEq, implies_true, exists_eq_left', exists_eq_left, if_true, if_false, undef]
  · have e2 : decide ((n : Int) > 0) = true := by simp; omega
    refine CallsA.trunc (len := 0) (xs := List.replicate n (I 0)) (fn_of comp34 (by simp) ?_) (by simp)
    unfold code34
    simp only [e1, w0, w1, e2, encL, EA, EB, EC, ED, EE, EF, EG, EH, XA, XB, XC, XD, XE, XF, XG, XH, XI, XJ, XK, XL, XM, reduceIte, ↓reduceIte, Nat.reduceAdd, Nat.reduceLeDiff, Nat.reduceEqDiff, Nat.reduceLT, Nat.reduceSub, Nat.reduceBEq, forall_const, reduceCtorEq, implies_true, exists_eq_left', exists_eq_left, if_true, if_false, undef]
    refine ⟨rfl, rfl, by omega, by omega, by simp, by simp, by simp, [18], by simp [encL, EA, EB, EC, ED, EE, EF, EG, EH, XA, XB, XC, XD, XE, XF, XG, XH, XI, XJ, XK, XL, XM, reduceIte, ↓reduceIte, Nat.reduceAdd, Nat.reduceLeDiff, Nat.reduceEqDiff, Nat.reduceLT, Nat.reduceSub, Nat.reduceBEq, forall_const, reduceCtorEq, implies_true, exists_eq_left', exists_eq_left, if_true, if_false, undef], rfl, by simp, fun i k o h1 h2 => ?_⟩
    cases i with
    | zero => simp at h1 h2; subst h1 h2; simp
    | succ i => simp at h1

theorem concat_spec (xs : List (List Int)) (hx : (xs.length : Int) < 2 ^ 63) (hf : xs.flatten.length ≤ 4294967296) :
    CallsA Try.prog 33 [.ro 1 (xs.map encL)] (.ro 1 (xs.flatten.map I)) [] := by
  refine fn_of0 comp33 (by simp) ?_
  unfold code33
  have hxx : ((xs.map encL).length : Int) = xs.length := by simp
  have hmono : ∀ k, (xs.take k).flatten.length ≤ xs.flatten.length := fun k => by
    have : xs.flatten = (xs.take k).flatten ++ (xs.drop k).flatten := by rw [← List.flatten_append, List.take_append_drop]
    rw [this, List.length_append]; omega
  have hstep : ∀ k (h : k < xs.length), (xs.take (k + 1)).flatten = (xs.take k).flatten ++ xs[k] := fun k h => by
    rw [List.take_add_one, List.getElem?_eq_getElem h, List.flatten_append]; simp
  simp only [hxx, encL, EA, EB, EC, ED, EE, EF, EG, EH, XA, XB, XC, XD, XE, XF, XG, XH, XI, XJ, XK, XL, XM, reduceIte, ↓reduceIte, Nat.reduceAdd, Nat.reduceLeDiff, Nat.reduceEqDiff, Nat.reduceLT, Nat.reduceSub, Nat.reduceBEq, forall_const, reduceCtorEq, implies_true, exists_eq_left', exists_eq_left, if_true, if_false, undef]
  refine loop0 Nat [11, 3] (fun k => [I k, I (xs.take k).flatten.length]) (fun k => k ≤ xs.length) (fun k => xs.length - k) (by decide) 0 (by simp) (by simp [Back, BackF, fzT, fzM, fzU, fz, fzL, fzO, kin, SubT, Sub, SubL, SubM, SubO, keepM, srcOk, look, lookM, ev, evs, putT, argT, encL, EA, EB, EC, ED, EE, EF, EG, EH, XA, XB, XC, XD, XE, XF, XG, XH, XI, XJ, XK, XL, XM, reduceIte, ↓reduceIte, Nat.reduceAdd, Nat.reduceLeDiff, Nat.reduceEqDiff, Nat.reduceLT, Nat.reduceSub, Nat.reduceBEq, forall_const, reduceCtorEq, implies_true, exists_eq_left', exists_eq_left, if_true, if_false, undef]) (fun k hk => ?_)
  by_cases h : k < xs.length
  · have f1 : decide ((k : Int) < (xs.length : Int)) = true := by simp [h]
    simp (maxSteps := 1000000) only [f1, hxx, encL, EA, EB, EC, ED, EE, EF, EG, EH, XA, XB, XC, XD, XE, XF, XG, XH, XI, XJ, XK, XL, XM, reduceIte, ↓reduceIte, Nat.reduceAdd, Nat.reduceLeDiff, Nat.reduceEqDiff, Nat.reduceLT, Nat.reduceSub, Nat.reduceBEq, forall_const, reduceCtorEq, implies_true, exists_eq_left', exists_eq_left, if_true, if_false, undef]
    refine ⟨by omega, pickM h ?_⟩
    have hw : IntKind.i64.wrap ((k : Int) + 1) = ((k + 1 : Nat) : Int) := by rw [wrap_id] <;> omega
    have hl : (((xs[k]).map I).length : Int) = (xs[k]).length := by simp
    have h1 := hmono (k + 1)
    have h2 : (xs.take (k + 1)).flatten.length = (xs.take k).flatten.length + (xs[k]).length := by rw [hstep k h, List.length_append]
    have hs : IntKind.i64.wrap (((xs.take k).flatten.length : Int) + ((xs[k]).length : Int)) = ((xs.take (k + 1)).flatten.length : Int) := by rw [wrap_id] <;> omega
    have f2 : decide (((xs.take (k + 1)).flatten.length : Int) < 0) = false := by simp
    simp (maxSteps := 1000000) only [encL, hl, hs, f2, hw, encL, EA, EB, EC, ED, EE, EF, EG, EH, XA, XB, XC, XD, XE, XF, XG, XH, XI, XJ, XK, XL, XM, reduceIte, ↓reduceIte, Nat.reduceAdd, Nat.reduceLeDiff, Nat.reduceEqDiff, Nat.reduceLT, Nat.reduceSub, Nat.reduceBEq, forall_const, reduceCtorEq, implies_true, exists_eq_left', exists_eq_left, if_true, if_false, undef]
    exact ⟨k + 1, by omega, by omega, by simp [Back, BackF, fzT, fzM, fzU, fz, fzL, fzO, kin, SubT, Sub, SubL, SubM, SubO, keepM, srcOk, look, lookM, ev, evs, putT, argT, encL, EA, EB, EC, ED, EE, EF, EG, EH, XA, XB, XC, XD, XE, XF, XG, XH, XI, XJ, XK, XL, XM, reduceIte, ↓reduceIte, Nat.reduceAdd, Nat.reduceLeDiff, Nat.reduceEqDiff, Nat.reduceLT, Nat.reduceSub, Nat.reduceBEq, forall_const, reduceCtorEq, implies_true, exists_eq_left', exists_eq_left, if_true, if_false, undef]⟩
  have f1 : decide ((k : Int) < (xs.length : Int)) = false := by simp [h]
  have : k = xs.length := by omega
  subst this
  simp (maxSteps := 1000000) only [f1, hxx, List.take_length, encL, EA, EB, EC, ED, EE, EF, EG, EH, XA, XB, XC, XD, XE, XF, XG, XH, XI, XJ, XK, XL, XM, reduceIte, ↓reduceIte, Nat.reduceAdd, Nat.reduceLeDiff, Nat.reduceEqDiff, Nat.reduceLT, Nat.reduceSub, Nat.reduceBEq, forall_const, reduceCtorEq, implies_true, exists_eq_left', exists_eq_left, if_true, if_false, undef]
  refine callA (CallsA.args (grow_spec xs.flatten.length hf) (by simp [encL, EA, EB, EC, ED, EE, EF, EG, EH, XA, XB, XC, XD, XE, XF, XG, XH, XI, XJ, XK, XL, XM, reduceIte, ↓reduceIte, Nat.reduceAdd, Nat.reduceLeDiff, Nat.reduceEqDiff, Nat.reduceLT, Nat.reduceSub, Nat.reduceBEq, forall_const, reduceCtorEq, implies_true, exists_eq_left', exists_eq_left, if_true, if_false, undef])) rfl ?_
  simp (maxSteps := 1000000) only [hxx, encL, EA, EB, EC, ED, EE, EF, EG, EH, XA, XB, XC, XD, XE, XF, XG, XH, XI, XJ, XK, XL, XM, reduceIte, ↓reduceIte, Nat.reduceAdd, Nat.reduceLeDiff, Nat.reduceEqDiff, Nat.reduceLT, Nat.reduceSub, Nat.reduceBEq, forall_const, reduceCtorEq, implies_true, exists_eq_left', exists_eq_left, if_true, if_false, undef]
  refine loopR Nat [27, 6] (fun k => [I k, .arr 13 0 (xs.take k).flatten.length]) (fun k => [(13, some (.arr 1 ((xs.take k).flatten.map I))), (7, none)]) 1 (fun k => k ≤ xs.length) (fun k => xs.length - k)
    (by decide) 0 [some 7] rfl (by simp) (by simp [Back, BackF, fzT, fzM, fzU, fz, fzL, fzO, kin, SubT, Sub, SubL, SubM, SubO, keepM, srcOk, look, lookM, ev, evs, putT, argT, encL, EA, EB, EC, ED, EE, EF, EG, EH, XA, XB, XC, XD, XE, XF, XG, XH, XI, XJ, XK, XL, XM, reduceIte, ↓reduceIte, Nat.reduceAdd, Nat.reduceLeDiff, Nat.reduceEqDiff, Nat.reduceLT, Nat.reduceSub, Nat.reduceBEq, forall_const, reduceCtorEq, implies_true, exists_eq_left', exists_eq_left, if_true, if_false, undef]) (fun k hk => ?_)
  by_cases h : k < xs.length
  · have f1 : decide ((k : Int) < (xs.length : Int)) = true := by simp [h]
    simp (maxSteps := 1000000) only [f1, hxx, encL, EA, EB, EC, ED, EE, EF, EG, EH, XA, XB, XC, XD, XE, XF, XG, XH, XI, XJ, XK, XL, XM, reduceIte, ↓reduceIte, Nat.reduceAdd, Nat.reduceLeDiff, Nat.reduceEqDiff, Nat.reduceLT, Nat.reduceSub, Nat.reduceBEq, forall_const, reduceCtorEq, implies_true, exists_eq_left', exists_eq_left, if_true, if_false, undef]
    refine ⟨by omega, pickM h ?_⟩
    have hw : IntKind.i64.wrap ((k : Int) + 1) = ((k + 1 : Nat) : Int) := by rw [wrap_id] <;> omega
    have hl : ((xs[k]).map I).length = (xs[k]).length := by simp
    have hl2 : (((xs.take k).flatten).map I).length = (xs.take k).flatten.length := List.length_map ..
    have h1 := hmono (k + 1)
    have h2 : (xs.take (k + 1)).flatten.length = (xs.take k).flatten.length + (xs[k]).length := by rw [hstep k h, List.length_append]
    simp (maxSteps := 1000000) only [encL, hl, hl2, hw, encL, EA, EB, EC, ED, EE, EF, EG, EH, XA, XB, XC, XD, XE, XF, XG, XH, XI, XJ, XK, XL, XM, reduceIte, ↓reduceIte, Nat.reduceAdd, Nat.reduceLeDiff, Nat.reduceEqDiff, Nat.reduceLT, Nat.reduceSub, Nat.reduceBEq, forall_const, reduceCtorEq, implies_true, exists_eq_left', exists_eq_left, if_true, if_false, undef]
    refine ⟨by omega, ?_⟩
    refine ⟨k + 1, [some 20], rfl, by omega, by omega, ?_⟩
    simp [Back, BackF, fzT, fzM, fzU, fz, fzL, fzO, kin, SubT, Sub, SubL, SubM, SubO, keepM, srcOk, look, lookM, ev, evs, putT, argT, encL, EA, EB, EC, ED, EE, EF, EG, EH, XA, XB, XC, XD, XE, XF, XG, XH, XI, XJ, XK, XL, XM, reduceIte, ↓reduceIte, Nat.reduceAdd, Nat.reduceLeDiff, Nat.reduceEqDiff, Nat.reduceLT, Nat.reduceSub, Nat.reduceBEq, forall_const, reduceCtorEq, implies_true, exists_eq_left', exists_eq_left, if_true, if_false, undef, hstep k h]
  · have f1 : decide ((k : Int) < (xs.length : Int)) = false := by simp [h]
    have : k = xs.length := by omega
    subst this
    simp (maxSteps := 1000000) only [f1, hxx, List.take_length, encL, EA, EB, EC, ED, EE, EF, EG, EH, XA, XB, XC, XD, XE, XF, XG, XH, XI, XJ, XK, XL, XM, reduceIte, ↓reduceIte, Nat.reduceAdd, Nat.reduceLeDiff, Nat.reduceEqDiff, Nat.reduceLT, Nat.reduceSub, Nat.reduceBEq, forall_const, reduceCtorEq, implies_true, exists_eq_left', exists_eq_left, if_true, if_false, undef]
    exact List.take_of_length_le (Nat.le_of_eq (List.length_map ..))

theorem concatN (a b : List Nat) (h : (a ++ b).length ≤ 4294967296) : CallsA Try.prog 33 [.ro 1 [aN a, aN b]] (aN (a ++ b)) [] := by
  have := concat_spec [a.map (fun n : Nat => (n : Int)), b.map (fun n : Nat => (n : Int))] (by simp) (by simpa using h)
  simpa [encL, aN, IN, Function.comp_def] using this

end Go.Av
