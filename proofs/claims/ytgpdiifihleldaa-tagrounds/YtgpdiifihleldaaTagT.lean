/- Tag systems: one transition, the program's and the document's. -/
import Derived.Test.YtgpdiifihleldaaTag
import Derived.Test.YtgpdiifihleldaaLend
set_option linter.unusedSimpArgs false
set_option linter.unusedVariables false
set_option maxRecDepth 100000
namespace Go.Av
open Go.Proofs

/-- no slice at all, as an own one that is empty -/
theorem CallsA.nilArr {P : Program} {f : FuncId} {args : List AV} (sz : Nat) (h : CallsA P f args (.v (.slice none 0 0)) []) : CallsA P f args (.arr 0 0 0) [.arr sz []] := by
  refine ⟨h.1, fun w S vals hS hL hR => (h.2 w S vals hS hL hR).mono ?_⟩
  rintro e w' ⟨v, S', κ', he, hr, hent, hs, ho, hb⟩
  have hv := hr.v_inv
  subst hv
  refine ⟨_, S', upd κ' 0 ⟨0, 0, 0, 0, 0, true, fun _ => none⟩, he, .arrNil (l := ⟨0, 0, 0, 0, 0, true, fun _ => none⟩) (by simp [upd]) rfl, ⟨?_, ?_, ?_, ?_, hent.sb⟩, hs, ?_, hb⟩
  · intro k o g
    obtain ⟨rfl, rfl⟩ := lookM_one g
    exact ⟨⟨0, 0, 0, 0, 0, true, fun _ => none⟩, by simp [upd], .inl ⟨rfl, rfl⟩⟩
  · intro k k' o o' l1 l2 b g1 g2 _ _ _ _
    rw [(lookM_one g1).1, (lookM_one g2).1]
  · intro k o l1 b g1 g2 g3
    obtain ⟨rfl, rfl⟩ := lookM_one g1
    simp only [upd, if_true, Option.some.injEq] at g2
    subst g2
    have := (Loc.has_one (fun _ => rfl) g3).1
    cases this
  · intro k hk1
    have hk0 : k ≠ 0 := by simp at hk1; omega
    exact ⟨by simp [memOf, memFrom, lookM, Ne.symm hk0], by simp [upd, hk0]; exact (hent.fresh k (by simp)).2⟩
  · intro k o l1 b g1 g2 g3
    obtain ⟨rfl, rfl⟩ := lookM_one g1
    simp only [upd, if_true, Option.some.injEq] at g2
    subst g2
    have := (Loc.has_one (fun _ => rfl) g3).1
    cases this

theorem grow_spec (n : Nat) (hn : n ≤ 4294967296) : CallsA Try.prog 23 [.v (.slice none 0 0), I n] (.arr 0 0 0) [.arr 1 []] := by
  have w0 : IntKind.i64.wrap (((0 : Nat) : Int) - ((0 : Nat) : Int)) = 0 := by decide
  have w1 : IntKind.i64.wrap ((n : Int) - 0) = n := by rw [wrap_id] <;> omega
  have e1 : decide ((n : Int) < 0) = false := by simp
  by_cases h0 : n = 0
  · refine CallsA.nilArr 1 (fn_of0 comp23 (by simp) ?_)
    unfold code23
    have e2 : decide ((n : Int) > 0) = false := by simp; omega
    simp only [e1, w0, w1, e2, encL, encG, EA, EB, EC, ED, EE, EF, EG, EH, XA, XB, XC, XD, XE, XF, XG, XH, XI, XJ, XK, XL, XM, reduceIte, ↓reduceIte, Nat.reduceAdd, Nat.reduceLeDiff, Nat.reduceEqDiff, Nat.reduceLT, Nat.reduceSub, Nat.reduceBEq, forall_const, reduceCtorEq, implies_true, exists_eq_left', exists_eq_left, if_true, if_false, undef]
  · have e2 : decide ((n : Int) > 0) = true := by simp; omega
    refine CallsA.trunc (len := 0) (xs := List.replicate n (I 0)) (fn_of comp23 (by simp) ?_) (by simp)
    unfold code23
    simp only [e1, w0, w1, e2, encL, encG, EA, EB, EC, ED, EE, EF, EG, EH, XA, XB, XC, XD, XE, XF, XG, XH, XI, XJ, XK, XL, XM, reduceIte, ↓reduceIte, Nat.reduceAdd, Nat.reduceLeDiff, Nat.reduceEqDiff, Nat.reduceLT, Nat.reduceSub, Nat.reduceBEq, forall_const, reduceCtorEq, implies_true, exists_eq_left', exists_eq_left, if_true, if_false, undef]
    refine ⟨rfl, rfl, by omega, by omega, by simp, by simp, by simp, [18], by simp [encL, encG, EA, EB, EC, ED, EE, EF, EG, EH, XA, XB, XC, XD, XE, XF, XG, XH, XI, XJ, XK, XL, XM, reduceIte, ↓reduceIte, Nat.reduceAdd, Nat.reduceLeDiff, Nat.reduceEqDiff, Nat.reduceLT, Nat.reduceSub, Nat.reduceBEq, forall_const, reduceCtorEq, implies_true, exists_eq_left', exists_eq_left, if_true, if_false, undef], rfl, by simp, fun i k o h1 h2 => ?_⟩
    cases i with
    | zero => simp at h1 h2; subst h1 h2; simp
    | succ i => simp at h1

theorem concat_spec (xs : List (List Int)) (hx : (xs.length : Int) < 2 ^ 63) (hf : xs.flatten.length ≤ 4294967296) :
    CallsA Try.prog 22 [.ro 1 (xs.map encL)] (.ro 1 (xs.flatten.map I)) [] := by
  refine fn_of0 comp22 (by simp) ?_
  unfold code22
  have hxx : ((xs.map encL).length : Int) = xs.length := by simp
  have hmono : ∀ k, (xs.take k).flatten.length ≤ xs.flatten.length := fun k => by
    have : xs.flatten = (xs.take k).flatten ++ (xs.drop k).flatten := by rw [← List.flatten_append, List.take_append_drop]
    rw [this, List.length_append]; omega
  have hstep : ∀ k (h : k < xs.length), (xs.take (k + 1)).flatten = (xs.take k).flatten ++ xs[k] := fun k h => by
    rw [List.take_add_one, List.getElem?_eq_getElem h, List.flatten_append]; simp
  simp only [hxx, encL, encG, EA, EB, EC, ED, EE, EF, EG, EH, XA, XB, XC, XD, XE, XF, XG, XH, XI, XJ, XK, XL, XM, reduceIte, ↓reduceIte, Nat.reduceAdd, Nat.reduceLeDiff, Nat.reduceEqDiff, Nat.reduceLT, Nat.reduceSub, Nat.reduceBEq, forall_const, reduceCtorEq, implies_true, exists_eq_left', exists_eq_left, if_true, if_false, undef]
  refine loop0 Nat [11, 3] (fun k => [I k, I (xs.take k).flatten.length]) (fun k => k ≤ xs.length) (fun k => xs.length - k) (by decide) 0 (by simp) (by simp [Back, BackF, fzT, fzM, fzU, fz, fzL, fzO, kin, SubT, Sub, SubL, SubM, SubO, keepM, srcOk, look, lookM, ev, evs, putT, argT, encL, encG, EA, EB, EC, ED, EE, EF, EG, EH, XA, XB, XC, XD, XE, XF, XG, XH, XI, XJ, XK, XL, XM, reduceIte, ↓reduceIte, Nat.reduceAdd, Nat.reduceLeDiff, Nat.reduceEqDiff, Nat.reduceLT, Nat.reduceSub, Nat.reduceBEq, forall_const, reduceCtorEq, implies_true, exists_eq_left', exists_eq_left, if_true, if_false, undef]) (fun k hk => ?_)
  by_cases h : k < xs.length
  · have f1 : decide ((k : Int) < (xs.length : Int)) = true := by simp [h]
    simp (maxSteps := 1000000) only [f1, hxx, encL, encG, EA, EB, EC, ED, EE, EF, EG, EH, XA, XB, XC, XD, XE, XF, XG, XH, XI, XJ, XK, XL, XM, reduceIte, ↓reduceIte, Nat.reduceAdd, Nat.reduceLeDiff, Nat.reduceEqDiff, Nat.reduceLT, Nat.reduceSub, Nat.reduceBEq, forall_const, reduceCtorEq, implies_true, exists_eq_left', exists_eq_left, if_true, if_false, undef]
    refine ⟨by omega, pickM h ?_⟩
    have hw : IntKind.i64.wrap ((k : Int) + 1) = ((k + 1 : Nat) : Int) := by rw [wrap_id] <;> omega
    have hl : (((xs[k]).map I).length : Int) = (xs[k]).length := by simp
    have h1 := hmono (k + 1)
    have h2 : (xs.take (k + 1)).flatten.length = (xs.take k).flatten.length + (xs[k]).length := by rw [hstep k h, List.length_append]
    have hs : IntKind.i64.wrap (((xs.take k).flatten.length : Int) + ((xs[k]).length : Int)) = ((xs.take (k + 1)).flatten.length : Int) := by rw [wrap_id] <;> omega
    have f2 : decide (((xs.take (k + 1)).flatten.length : Int) < 0) = false := by simp
    simp (maxSteps := 1000000) only [encL, hl, hs, f2, hw, encL, encG, EA, EB, EC, ED, EE, EF, EG, EH, XA, XB, XC, XD, XE, XF, XG, XH, XI, XJ, XK, XL, XM, reduceIte, ↓reduceIte, Nat.reduceAdd, Nat.reduceLeDiff, Nat.reduceEqDiff, Nat.reduceLT, Nat.reduceSub, Nat.reduceBEq, forall_const, reduceCtorEq, implies_true, exists_eq_left', exists_eq_left, if_true, if_false, undef]
    exact ⟨k + 1, by omega, by omega, by simp [Back, BackF, fzT, fzM, fzU, fz, fzL, fzO, kin, SubT, Sub, SubL, SubM, SubO, keepM, srcOk, look, lookM, ev, evs, putT, argT, encL, encG, EA, EB, EC, ED, EE, EF, EG, EH, XA, XB, XC, XD, XE, XF, XG, XH, XI, XJ, XK, XL, XM, reduceIte, ↓reduceIte, Nat.reduceAdd, Nat.reduceLeDiff, Nat.reduceEqDiff, Nat.reduceLT, Nat.reduceSub, Nat.reduceBEq, forall_const, reduceCtorEq, implies_true, exists_eq_left', exists_eq_left, if_true, if_false, undef]⟩
  have f1 : decide ((k : Int) < (xs.length : Int)) = false := by simp [h]
  have : k = xs.length := by omega
  subst this
  simp (maxSteps := 1000000) only [f1, hxx, List.take_length, encL, encG, EA, EB, EC, ED, EE, EF, EG, EH, XA, XB, XC, XD, XE, XF, XG, XH, XI, XJ, XK, XL, XM, reduceIte, ↓reduceIte, Nat.reduceAdd, Nat.reduceLeDiff, Nat.reduceEqDiff, Nat.reduceLT, Nat.reduceSub, Nat.reduceBEq, forall_const, reduceCtorEq, implies_true, exists_eq_left', exists_eq_left, if_true, if_false, undef]
  refine callA (CallsA.args (grow_spec xs.flatten.length hf) (by simp [encL, encG, EA, EB, EC, ED, EE, EF, EG, EH, XA, XB, XC, XD, XE, XF, XG, XH, XI, XJ, XK, XL, XM, reduceIte, ↓reduceIte, Nat.reduceAdd, Nat.reduceLeDiff, Nat.reduceEqDiff, Nat.reduceLT, Nat.reduceSub, Nat.reduceBEq, forall_const, reduceCtorEq, implies_true, exists_eq_left', exists_eq_left, if_true, if_false, undef])) rfl ?_
  simp (maxSteps := 1000000) only [hxx, encL, encG, EA, EB, EC, ED, EE, EF, EG, EH, XA, XB, XC, XD, XE, XF, XG, XH, XI, XJ, XK, XL, XM, reduceIte, ↓reduceIte, Nat.reduceAdd, Nat.reduceLeDiff, Nat.reduceEqDiff, Nat.reduceLT, Nat.reduceSub, Nat.reduceBEq, forall_const, reduceCtorEq, implies_true, exists_eq_left', exists_eq_left, if_true, if_false, undef]
  refine loopR Nat [27, 6] (fun k => [I k, .arr 13 0 (xs.take k).flatten.length]) (fun k => [(13, some (.arr 1 ((xs.take k).flatten.map I))), (7, none)]) 1 (fun k => k ≤ xs.length) (fun k => xs.length - k)
    (by decide) 0 [some 7] rfl (by simp) (by simp [Back, BackF, fzT, fzM, fzU, fz, fzL, fzO, kin, SubT, Sub, SubL, SubM, SubO, keepM, srcOk, look, lookM, ev, evs, putT, argT, encL, encG, EA, EB, EC, ED, EE, EF, EG, EH, XA, XB, XC, XD, XE, XF, XG, XH, XI, XJ, XK, XL, XM, reduceIte, ↓reduceIte, Nat.reduceAdd, Nat.reduceLeDiff, Nat.reduceEqDiff, Nat.reduceLT, Nat.reduceSub, Nat.reduceBEq, forall_const, reduceCtorEq, implies_true, exists_eq_left', exists_eq_left, if_true, if_false, undef]) (fun k hk => ?_)
  by_cases h : k < xs.length
  · have f1 : decide ((k : Int) < (xs.length : Int)) = true := by simp [h]
    simp (maxSteps := 1000000) only [f1, hxx, encL, encG, EA, EB, EC, ED, EE, EF, EG, EH, XA, XB, XC, XD, XE, XF, XG, XH, XI, XJ, XK, XL, XM, reduceIte, ↓reduceIte, Nat.reduceAdd, Nat.reduceLeDiff, Nat.reduceEqDiff, Nat.reduceLT, Nat.reduceSub, Nat.reduceBEq, forall_const, reduceCtorEq, implies_true, exists_eq_left', exists_eq_left, if_true, if_false, undef]
    refine ⟨by omega, pickM h ?_⟩
    have hw : IntKind.i64.wrap ((k : Int) + 1) = ((k + 1 : Nat) : Int) := by rw [wrap_id] <;> omega
    have hl : ((xs[k]).map I).length = (xs[k]).length := by simp
    have hl2 : (((xs.take k).flatten).map I).length = (xs.take k).flatten.length := List.length_map ..
    have h1 := hmono (k + 1)
    have h2 : (xs.take (k + 1)).flatten.length = (xs.take k).flatten.length + (xs[k]).length := by rw [hstep k h, List.length_append]
    simp (maxSteps := 1000000) only [encL, hl, hl2, hw, encL, encG, EA, EB, EC, ED, EE, EF, EG, EH, XA, XB, XC, XD, XE, XF, XG, XH, XI, XJ, XK, XL, XM, reduceIte, ↓reduceIte, Nat.reduceAdd, Nat.reduceLeDiff, Nat.reduceEqDiff, Nat.reduceLT, Nat.reduceSub, Nat.reduceBEq, forall_const, reduceCtorEq, implies_true, exists_eq_left', exists_eq_left, if_true, if_false, undef]
    refine ⟨by omega, ?_⟩
    refine ⟨k + 1, [some 20], rfl, by omega, by omega, ?_⟩
    simp [Back, BackF, fzT, fzM, fzU, fz, fzL, fzO, kin, SubT, Sub, SubL, SubM, SubO, keepM, srcOk, look, lookM, ev, evs, putT, argT, encL, encG, EA, EB, EC, ED, EE, EF, EG, EH, XA, XB, XC, XD, XE, XF, XG, XH, XI, XJ, XK, XL, XM, reduceIte, ↓reduceIte, Nat.reduceAdd, Nat.reduceLeDiff, Nat.reduceEqDiff, Nat.reduceLT, Nat.reduceSub, Nat.reduceBEq, forall_const, reduceCtorEq, implies_true, exists_eq_left', exists_eq_left, if_true, if_false, undef, hstep k h]
  · have f1 : decide ((k : Int) < (xs.length : Int)) = false := by simp [h]
    have : k = xs.length := by omega
    subst this
    simp (maxSteps := 1000000) only [f1, hxx, List.take_length, encL, encG, EA, EB, EC, ED, EE, EF, EG, EH, XA, XB, XC, XD, XE, XF, XG, XH, XI, XJ, XK, XL, XM, reduceIte, ↓reduceIte, Nat.reduceAdd, Nat.reduceLeDiff, Nat.reduceEqDiff, Nat.reduceLT, Nat.reduceSub, Nat.reduceBEq, forall_const, reduceCtorEq, implies_true, exists_eq_left', exists_eq_left, if_true, if_false, undef]
    exact List.take_of_length_le (Nat.le_of_eq (List.length_map ..))

theorem concatM (a b : List Int) (h : (a ++ b).length ≤ 4294967296) : CallsM Try.prog 22 [.arr 0 0 2] [.arr 1 [encL a, encL b]] (.ro 1 ((a ++ b).map I)) [none] := by
  have := concat_spec [a, b] (by simp) (by simpa using h)
  simp only [List.flatten_cons, List.flatten_nil, List.append_nil] at this
  exact CallsM.ofA this (by simp [frzL, frz, pos, memOf, memFrom, lookM]) rfl

theorem clone0_spec (l : List Int) (hl : l.length ≤ 4294967296) : CallsA Try.prog 15 [.ro 1 (l.map I)] (.ro 1 (l.map I)) [] := by
  have hll : (l.map I).length = l.length := by simp
  refine fn_of0 comp15 (by simp) ?_
  unfold code15
  simp (maxSteps := 1000000) only [encL, encG, EA, EB, EC, ED, EE, EF, EG, EH, XA, XB, XC, XD, XE, XF, XG, XH, XI, XJ, XK, XL, XM, reduceIte, ↓reduceIte, Nat.reduceAdd, Nat.reduceLeDiff, Nat.reduceEqDiff, Nat.reduceLT, Nat.reduceSub, Nat.reduceBEq, forall_const, reduceCtorEq, implies_true, exists_eq_left', exists_eq_left, if_true, if_false, undef]
  refine ⟨?_, fun h0 => ?_⟩
  · simp (maxSteps := 1000000) only [bne_self_eq_false, hll, encL, encG, EA, EB, EC, ED, EE, EF, EG, EH, XA, XB, XC, XD, XE, XF, XG, XH, XI, XJ, XK, XL, XM, reduceIte, ↓reduceIte, Nat.reduceAdd, Nat.reduceLeDiff, Nat.reduceEqDiff, Nat.reduceLT, Nat.reduceSub, Nat.reduceBEq, forall_const, reduceCtorEq, implies_true, exists_eq_left', exists_eq_left, if_true, if_false, undef]
    exact ⟨hl, List.take_of_length_le (by simp)⟩
  · have : l = [] := by simpa using h0
    subst this
    simp [encL, encG, EA, EB, EC, ED, EE, EF, EG, EH, XA, XB, XC, XD, XE, XF, XG, XH, XI, XJ, XK, XL, XM, reduceIte, ↓reduceIte, Nat.reduceAdd, Nat.reduceLeDiff, Nat.reduceEqDiff, Nat.reduceLT, Nat.reduceSub, Nat.reduceBEq, forall_const, reduceCtorEq, implies_true, exists_eq_left', exists_eq_left, if_true, if_false, undef]

/-- one transition -/
def tstp (g : TagS) (w : List Int) : List Int := w.drop g.drop.toNat ++ (g.bring[(w.headD 0).toNat]?).getD []

/-- a system and a word that a transition is for -/
structure TagGo (g : TagS) (w : List Int) : Prop where
  d : 1 ≤ g.drop ∧ g.drop ≤ 4
  b : 1 ≤ g.bring.length ∧ g.bring.length ≤ 4
  l : ∀ x ∈ g.bring, x.length ≤ 8
  i : ∀ x ∈ w, 0 ≤ x ∧ x < g.bring.length
  w : w.length ≤ 40

theorem transform_spec (g : TagS) (w : List Int) (h : TagGo g w) (hd : g.drop ≤ w.length) : CallsA Try.prog 17 [encG g, .ro 1 (w.map I)] (.ro 1 ((tstp g w).map I)) [] := by
  have hdd := h.d
  have hw40 := h.w
  have h0 : 0 < w.length := by omega
  have hx := h.i w[0] (List.getElem_mem h0)
  have hxl : (w[0]).toNat < g.bring.length := by omega
  have hsl : List.drop g.drop.toNat (List.take ((w.map I).length : Int).toNat (w.map I)) = (w.drop g.drop.toNat).map I := by
    rw [Int.toNat_natCast, List.take_length, List.map_drop]
  have hww : ((w.map I).length : Int) = w.length := by simp
  have hst : tstp g w = [w.drop g.drop.toNat, g.bring[(w[0]).toNat]].flatten := by
    have : w.headD 0 = w[0] := by cases w with | nil => simp at h0 | cons x r => rfl
    simp only [tstp, this, List.getElem?_eq_getElem hxl, Option.getD_some, List.flatten_cons, List.flatten_nil, List.append_nil]
  have hbl := h.l _ (List.getElem_mem hxl)
  refine fn_of0 comp17 (by simp) ?_
  unfold code17
  simp (maxSteps := 1000000) only [hsl, encL, encG, EA, EB, EC, ED, EE, EF, EG, EH, XA, XB, XC, XD, XE, XF, XG, XH, XI, XJ, XK, XL, XM, reduceIte, ↓reduceIte, Nat.reduceAdd, Nat.reduceLeDiff, Nat.reduceEqDiff, Nat.reduceLT, Nat.reduceSub, Nat.reduceBEq, forall_const, reduceCtorEq, implies_true, exists_eq_left', exists_eq_left, if_true, if_false, undef]
  refine ⟨by omega, by rw [hww]; omega, Int.le_refl _, by omega, ?_⟩
  refine pickI (k := 0) h0 ?_
  simp (maxSteps := 1000000) only [Int.toNat_zero, hsl, encL, encG, EA, EB, EC, ED, EE, EF, EG, EH, XA, XB, XC, XD, XE, XF, XG, XH, XI, XJ, XK, XL, XM, reduceIte, ↓reduceIte, Nat.reduceAdd, Nat.reduceLeDiff, Nat.reduceEqDiff, Nat.reduceLT, Nat.reduceSub, Nat.reduceBEq, forall_const, reduceCtorEq, implies_true, exists_eq_left', exists_eq_left, if_true, if_false, undef]
  refine ⟨hx.1, ?_⟩
  refine pickI hxl ?_
  simp (maxSteps := 1000000) only [encL, encL, encG, EA, EB, EC, ED, EE, EF, EG, EH, XA, XB, XC, XD, XE, XF, XG, XH, XI, XJ, XK, XL, XM, reduceIte, ↓reduceIte, Nat.reduceAdd, Nat.reduceLeDiff, Nat.reduceEqDiff, Nat.reduceLT, Nat.reduceSub, Nat.reduceBEq, forall_const, reduceCtorEq, implies_true, exists_eq_left', exists_eq_left, if_true, if_false, undef]
  refine callX [13] [] (concatM (w.drop g.drop.toNat) g.bring[(w[0]).toNat] (by simp; omega)) (by simp [encL, encG, EA, EB, EC, ED, EE, EF, EG, EH, XA, XB, XC, XD, XE, XF, XG, XH, XI, XJ, XK, XL, XM, reduceIte, ↓reduceIte, Nat.reduceAdd, Nat.reduceLeDiff, Nat.reduceEqDiff, Nat.reduceLT, Nat.reduceSub, Nat.reduceBEq, forall_const, reduceCtorEq, implies_true, exists_eq_left', exists_eq_left, if_true, if_false, undef]) (by simp [ encL,encL, encG, EA, EB, EC, ED, EE, EF, EG, EH, XA, XB, XC, XD, XE, XF, XG, XH, XI, XJ, XK, XL, XM, reduceIte, ↓reduceIte, Nat.reduceAdd, Nat.reduceLeDiff, Nat.reduceEqDiff, Nat.reduceLT, Nat.reduceSub, Nat.reduceBEq, forall_const, reduceCtorEq, implies_true, exists_eq_left', exists_eq_left, if_true, if_false, undef]) (by simp) (by simp [ encL,encL, encG, EA, EB, EC, ED, EE, EF, EG, EH, XA, XB, XC, XD, XE, XF, XG, XH, XI, XJ, XK, XL, XM, reduceIte, ↓reduceIte, Nat.reduceAdd, Nat.reduceLeDiff, Nat.reduceEqDiff, Nat.reduceLT, Nat.reduceSub, Nat.reduceBEq, forall_const, reduceCtorEq, implies_true, exists_eq_left', exists_eq_left, if_true, if_false, undef]) (by simp [encL, encG, EA, EB, EC, ED, EE, EF, EG, EH, XA, XB, XC, XD, XE, XF, XG, XH, XI, XJ, XK, XL, XM, reduceIte, ↓reduceIte, Nat.reduceAdd, Nat.reduceLeDiff, Nat.reduceEqDiff, Nat.reduceLT, Nat.reduceSub, Nat.reduceBEq, forall_const, reduceCtorEq, implies_true, exists_eq_left', exists_eq_left, if_true, if_false, undef]) (by simp [encL, encG, EA, EB, EC, ED, EE, EF, EG, EH, XA, XB, XC, XD, XE, XF, XG, XH, XI, XJ, XK, XL, XM, reduceIte, ↓reduceIte, Nat.reduceAdd, Nat.reduceLeDiff, Nat.reduceEqDiff, Nat.reduceLT, Nat.reduceSub, Nat.reduceBEq, forall_const, reduceCtorEq, implies_true, exists_eq_left', exists_eq_left, if_true, if_false, undef]) (by simp [encL, encG, EA, EB, EC, ED, EE, EF, EG, EH, XA, XB, XC, XD, XE, XF, XG, XH, XI, XJ, XK, XL, XM, reduceIte, ↓reduceIte, Nat.reduceAdd, Nat.reduceLeDiff, Nat.reduceEqDiff, Nat.reduceLT, Nat.reduceSub, Nat.reduceBEq, forall_const, reduceCtorEq, implies_true, exists_eq_left', exists_eq_left, if_true, if_false, undef]) (by simp) ?_
  simp (maxSteps := 1000000) only [hst, List.flatten_cons, List.flatten_nil, List.append_nil, encL, encG, EA, EB, EC, ED, EE, EF, EG, EH, XA, XB, XC, XD, XE, XF, XG, XH, XI, XJ, XK, XL, XM, reduceIte, ↓reduceIte, Nat.reduceAdd, Nat.reduceLeDiff, Nat.reduceEqDiff, Nat.reduceLT, Nat.reduceSub, Nat.reduceBEq, forall_const, reduceCtorEq, implies_true, exists_eq_left', exists_eq_left, if_true, if_false, undef]

theorem tagged_spec (g : TagS) (w : List Int) (h : TagGo g w) (hd : g.drop ≤ w.length) : CallsA Try.prog 10 [encG g, .ro 1 (w.map I)] (.ro 1 ((tstp g w).map I)) [] := by
  have hdd := h.d
  have hw40 := h.w
  have h0 : 0 < w.length := by omega
  have hx := h.i w[0] (List.getElem_mem h0)
  have hxl : (w[0]).toNat < g.bring.length := by omega
  have hsl : List.drop g.drop.toNat (List.take ((w.map I).length : Int).toNat (w.map I)) = (w.drop g.drop.toNat).map I := by
    rw [Int.toNat_natCast, List.take_length, List.map_drop]
  have hww : ((w.map I).length : Int) = w.length := by simp
  have hst : tstp g w = w.drop g.drop.toNat ++ g.bring[(w[0]).toNat] := by
    have : w.headD 0 = w[0] := by cases w with | nil => simp at h0 | cons x r => rfl
    simp only [tstp, this, List.getElem?_eq_getElem hxl, Option.getD_some, List.flatten_cons, List.flatten_nil, List.append_nil]
  have hbl := h.l _ (List.getElem_mem hxl)
  refine fn_of0 comp10 (by simp) ?_
  unfold code10
  simp (maxSteps := 1000000) only [hsl, encL, encG, EA, EB, EC, ED, EE, EF, EG, EH, XA, XB, XC, XD, XE, XF, XG, XH, XI, XJ, XK, XL, XM, reduceIte, ↓reduceIte, Nat.reduceAdd, Nat.reduceLeDiff, Nat.reduceEqDiff, Nat.reduceLT, Nat.reduceSub, Nat.reduceBEq, forall_const, reduceCtorEq, implies_true, exists_eq_left', exists_eq_left, if_true, if_false, undef]
  have hdl : ((w.drop g.drop.toNat).map I).length = (w.drop g.drop.toNat).length := List.length_map ..
  have hdl2 : (w.drop g.drop.toNat).length ≤ 40 := by rw [List.length_drop]; omega
  have hel : ((g.bring[(w[0]).toNat]).map I).length = (g.bring[(w[0]).toNat]).length := List.length_map ..
  refine ⟨by omega, by rw [hww]; omega, Int.le_refl _, by rw [hdl]; omega, by omega, ?_⟩
  refine pickI (k := 0) h0 ?_
  simp (maxSteps := 1000000) only [Int.toNat_zero, hsl, hdl, encL, encG, EA, EB, EC, ED, EE, EF, EG, EH, XA, XB, XC, XD, XE, XF, XG, XH, XI, XJ, XK, XL, XM, reduceIte, ↓reduceIte, Nat.reduceAdd, Nat.reduceLeDiff, Nat.reduceEqDiff, Nat.reduceLT, Nat.reduceSub, Nat.reduceBEq, forall_const, reduceCtorEq, implies_true, exists_eq_left', exists_eq_left, if_true, if_false, undef]
  refine ⟨hx.1, ?_⟩
  refine pickI hxl ?_
  simp (maxSteps := 1000000) only [encL, hsl, hdl, hel, encL, encG, EA, EB, EC, ED, EE, EF, EG, EH, XA, XB, XC, XD, XE, XF, XG, XH, XI, XJ, XK, XL, XM, reduceIte, ↓reduceIte, Nat.reduceAdd, Nat.reduceLeDiff, Nat.reduceEqDiff, Nat.reduceLT, Nat.reduceSub, Nat.reduceBEq, forall_const, reduceCtorEq, implies_true, exists_eq_left', exists_eq_left, if_true, if_false, undef]
  refine ⟨by omega, ?_⟩
  simp (maxSteps := 1000000) only [Option.toList_some, Option.toList_none, encL, encG, EA, EB, EC, ED, EE, EF, EG, EH, XA, XB, XC, XD, XE, XF, XG, XH, XI, XJ, XK, XL, XM, reduceIte, ↓reduceIte, Nat.reduceAdd, Nat.reduceLeDiff, Nat.reduceEqDiff, Nat.reduceLT, Nat.reduceSub, Nat.reduceBEq, forall_const, reduceCtorEq, implies_true, exists_eq_left', exists_eq_left, if_true, if_false, undef]
  refine ⟨by decide, ?_⟩
  simp (maxSteps := 1000000) only [hst, encL, encG, EA, EB, EC, ED, EE, EF, EG, EH, XA, XB, XC, XD, XE, XF, XG, XH, XI, XJ, XK, XL, XM, reduceIte, ↓reduceIte, Nat.reduceAdd, Nat.reduceLeDiff, Nat.reduceEqDiff, Nat.reduceLT, Nat.reduceSub, Nat.reduceBEq, forall_const, reduceCtorEq, implies_true, exists_eq_left', exists_eq_left, if_true, if_false, undef]
  rw [List.map_append, List.take_of_length_le (by simp)]

def u8w (l : List Int) : Prop := ∀ x ∈ l, 0 ≤ x ∧ x < 256

abbrev B8 (n : Int) : AV := .v (.int .u8 n)
def padw (w : List Int) (k : Nat) : List Int := w.take k ++ List.replicate (w.length - k) 0
theorem padw_length {w : List Int} {k : Nat} (h : k ≤ w.length) : (padw w k).length = w.length := by simp [padw]; omega
theorem padw_set {w : List Int} {k : Nat} (h : k < w.length) : (padw w k).set k w[k] = padw w (k + 1) := by
  unfold padw
  have hk : (w.take k).length = k := by simp; omega
  have ht : w.take (k + 1) = w.take k ++ [w[k]] := by rw [List.take_add_one, List.getElem?_eq_getElem h]; rfl
  rw [List.set_append_right _ _ (by omega), hk, Nat.sub_self, ht, List.append_assoc]
  obtain ⟨q, hq⟩ : ∃ q, w.length - k = q + 1 := ⟨w.length - k - 1, by omega⟩
  rw [hq, List.replicate_succ, show w.length - (k + 1) = q by omega]
  simp

theorem wrap_u8 {x : Int} (h0 : 0 ≤ x) (h1 : x < 256) : IntKind.u8.wrap x = x := by
  simp only [IntKind.wrap, IntKind.bits, IntKind.signed]
  first | omega | (simp; omega)

theorem key_spec (w : List Int) (h : u8w w) (hw : w.length ≤ 40) : CallsA Try.prog 19 [.ro 1 (w.map I)] (.v (.string (bstr w))) [] := by
  have hll : ((w.map I).length : Int) = w.length := by simp
  refine fn_of0 comp19 (by simp) ?_
  unfold code19
  simp (maxSteps := 1000000) only [hll, encL, encG, EA, EB, EC, ED, EE, EF, EG, EH, XA, XB, XC, XD, XE, XF, XG, XH, XI, XJ, XK, XL, XM, reduceIte, ↓reduceIte, Nat.reduceAdd, Nat.reduceLeDiff, Nat.reduceEqDiff, Nat.reduceLT, Nat.reduceSub, Nat.reduceBEq, forall_const, reduceCtorEq, implies_true, exists_eq_left', exists_eq_left, if_true, if_false, undef]
  refine ⟨by omega, by omega, by omega, ?_⟩
  refine loopO Nat [11] (fun k => [I k]) (fun k => [(3, some (.arr 1 ((padw w k).map B8)))]) (fun k => k ≤ w.length) (fun k => w.length - k) (by decide) 0 (by simp) (by simp [Back, BackF, fzT, fzM, fzU, fz, fzL, fzO, kin, SubT, Sub, SubL, SubM, SubO, keepM, srcOk, look, lookM, ev, evs, putT, argT, encL, encG, EA, EB, EC, ED, EE, EF, EG, EH, XA, XB, XC, XD, XE, XF, XG, XH, XI, XJ, XK, XL, XM, reduceIte, ↓reduceIte, Nat.reduceAdd, Nat.reduceLeDiff, Nat.reduceEqDiff, Nat.reduceLT, Nat.reduceSub, Nat.reduceBEq, forall_const, reduceCtorEq, implies_true, exists_eq_left', exists_eq_left, if_true, if_false, undef, padw]) (fun k hk => ?_)
  have hpl : ((padw w k).map B8).length = w.length := by rw [List.length_map, padw_length hk]
  by_cases g : k < w.length
  · have f1 : decide ((k : Int) < (w.length : Int)) = true := by simp [g]
    have hx := h w[k] (List.getElem_mem g)
    have hu := wrap_u8 hx.1 hx.2
    have hw1 : IntKind.i64.wrap ((k : Int) + 1) = ((k + 1 : Nat) : Int) := by rw [wrap_id] <;> omega
    simp (maxSteps := 1000000) only [f1, hll, Int.toNat_natCast, encL, encG, EA, EB, EC, ED, EE, EF, EG, EH, XA, XB, XC, XD, XE, XF, XG, XH, XI, XJ, XK, XL, XM, reduceIte, ↓reduceIte, Nat.reduceAdd, Nat.reduceLeDiff, Nat.reduceEqDiff, Nat.reduceLT, Nat.reduceSub, Nat.reduceBEq, forall_const, reduceCtorEq, implies_true, exists_eq_left', exists_eq_left, if_true, if_false, undef]
    refine ⟨by omega, pickM g ?_⟩
    simp (maxSteps := 1000000) only [hu, hw1, Int.toNat_natCast, hpl, encL, encG, EA, EB, EC, ED, EE, EF, EG, EH, XA, XB, XC, XD, XE, XF, XG, XH, XI, XJ, XK, XL, XM, reduceIte, ↓reduceIte, Nat.reduceAdd, Nat.reduceLeDiff, Nat.reduceEqDiff, Nat.reduceLT, Nat.reduceSub, Nat.reduceBEq, forall_const, reduceCtorEq, implies_true, exists_eq_left', exists_eq_left, if_true, if_false, undef]
    refine ⟨by omega, by omega, g, ?_⟩
    refine ⟨k + 1, by omega, by omega, ?_⟩
    simp [Back, BackF, fzT, fzM, fzU, fz, fzL, fzO, kin, SubT, Sub, SubL, SubM, SubO, keepM, srcOk, look, lookM, ev, evs, putT, argT, encL, encG, EA, EB, EC, ED, EE, EF, EG, EH, XA, XB, XC, XD, XE, XF, XG, XH, XI, XJ, XK, XL, XM, reduceIte, ↓reduceIte, Nat.reduceAdd, Nat.reduceLeDiff, Nat.reduceEqDiff, Nat.reduceLT, Nat.reduceSub, Nat.reduceBEq, forall_const, reduceCtorEq, implies_true, exists_eq_left', exists_eq_left, if_true, if_false, undef, ← padw_set g]
  · have f1 : decide ((k : Int) < (w.length : Int)) = false := by simp [g]
    have : k = w.length := by omega
    subst this
    have hp : padw w w.length = w := by simp [padw]
    rw [hp] at hpl
    simp (maxSteps := 1000000) only [f1, hll, hp, Int.toNat_natCast, encL, encG, EA, EB, EC, ED, EE, EF, EG, EH, XA, XB, XC, XD, XE, XF, XG, XH, XI, XJ, XK, XL, XM, reduceIte, ↓reduceIte, Nat.reduceAdd, Nat.reduceLeDiff, Nat.reduceEqDiff, Nat.reduceLT, Nat.reduceSub, Nat.reduceBEq, forall_const, reduceCtorEq, implies_true, exists_eq_left', exists_eq_left, if_true, if_false, undef]
    refine Bytes.mk w (by rw [List.drop_zero, List.take_of_length_le (by omega)]) ?_
    simp (maxSteps := 1000000) only [encL, encG, EA, EB, EC, ED, EE, EF, EG, EH, XA, XB, XC, XD, XE, XF, XG, XH, XI, XJ, XK, XL, XM, reduceIte, ↓reduceIte, Nat.reduceAdd, Nat.reduceLeDiff, Nat.reduceEqDiff, Nat.reduceLT, Nat.reduceSub, Nat.reduceBEq, forall_const, reduceCtorEq, implies_true, exists_eq_left', exists_eq_left, if_true, if_false, undef]

end Go.Av
