/- Functions: their ranks, the program's and the document's. -/
import Derived.Test.YtpkgddjmhgcjjaaFunH
set_option linter.unusedSimpArgs false
set_option linter.unusedVariables false
set_option maxRecDepth 100000
namespace Go.Av
open Go.Proofs

/-- a list that passed the check -/
structure Good (l : List Fn) : Prop where
  len : 1 ≤ l.length ∧ l.length ≤ 12
  ok : ∀ k (h : k < l.length), fErr (l.take k) l[k] = 0

theorem firstErr_zero {α : Type} {f : α → Int} : ∀ {l : List α}, firstErr f l = 0 → ∀ x ∈ l, f x = 0
  | [], _, x, hx => by simp at hx
  | y :: l, h, x, hx => by
    simp only [firstErr] at h
    split at h
    · rename_i hy; exact (hy h).elim
    · rename_i hy
      rcases List.mem_cons.1 hx with rfl | hx
      · exact Classical.not_not.1 hy
      · exact firstErr_zero h x hx
theorem good_of {l : List Fn} (h : chk l = 0) : Good l := by
  unfold chk at h
  split at h
  · cases h
  · rename_i h0
    refine ⟨by omega, fun k hk => ?_⟩
    have := firstErr_zero h k (by simpa using hk)
    rwa [errAt, List.getElem?_eq_getElem hk] at this

structure OkF (k : Nat) (f : Fn) : Prop where
  kind : 1 ≤ f.kind ∧ f.kind ≤ 5
  args : 0 ≤ f.args ∧ f.args ≤ 4
  next : f.kind = 2 → f.args = 1
  again : f.kind = 5 → 1 ≤ f.args
  into : f.kind = 4 → f.into.length ≤ 4
  pick : f.kind = 3 → 0 ≤ f.pick ∧ f.pick < f.args
  uses : ∀ u ∈ usL f, 0 ≤ u.1 ∧ u.1 < (k : Int)
theorem fErr_zero {bf : List Fn} {f : Fn} (h : fErr bf f = 0) : OkF bf.length f ∧ ∀ u ∈ usL f, argsAt bf u.1 = u.2 := by
  unfold fErr at h
  cases h1 : kindBad f with
  | true => rw [h1] at h; cases h
  | false =>
  cases h2 : lgB f with
  | true => rw [h1, h2] at h; cases h
  | false =>
  cases h3 : pickBad f with
  | true => rw [h1, h2, h3] at h; cases h
  | false =>
  cases h4 : (usL f).any (outB bf.length) with
  | true => rw [h1, h2, h3, h4] at h; cases h
  | false =>
  cases h5 : (usL f).any (badB bf) with
  | true => rw [h1, h2, h3, h4, h5] at h; cases h
  | false =>
  obtain ⟨ha, hb, hc, hd⟩ := lgB_false h2
  refine ⟨⟨?_, ha, hb, hc, hd, fun hk => ?_, fun u hu => ?_⟩, fun u hu => ?_⟩
  · simp only [kindBad, Bool.or_eq_false_iff, decide_eq_false_iff_not] at h1; omega
  · simp only [pickBad, hk, beq_self_eq_true, Bool.true_and, Bool.or_eq_false_iff, decide_eq_false_iff_not] at h3; omega
  · have := (List.any_eq_false.1 h4) u hu
    simp only [outB, Bool.or_eq_true, decide_eq_true_eq, not_or] at this; omega
  · have := (List.any_eq_false.1 h5) u hu
    simpa [badB, argsAt] using this
theorem Good.okF {l : List Fn} (h : Good l) {k : Nat} (hk : k < l.length) : OkF k l[k] := by
  have := (fErr_zero (h.ok k hk)).1
  rwa [List.length_take, Nat.min_eq_left (by omega)] at this

/-- the greatest of some ranks -/
def mx (acc : List Nat) (js : List Int) : Nat := js.foldl (fun m j => max m (acc.getD j.toNat 0)) 0
def grw (kind : Int) : Nat := if kind = 4 then 2 else if kind = 5 then 3 else 1
def blw (f : Fn) : List Int := (usL f).map (·.1)
def rkF (acc : List Nat) (f : Fn) : Nat := mx acc (blw f) + grw f.kind
def rks : List Nat → List Fn → List Nat
  | acc, [] => acc
  | acc, f :: r => rks (acc ++ [rkF acc f]) r
def ranks (l : List Fn) : List Nat := rks [] l
theorem rks_snoc : ∀ (l : List Fn) (acc : List Nat) (f : Fn), rks acc (l ++ [f]) = rks acc l ++ [rkF (rks acc l) f]
  | [], acc, f => rfl
  | g :: l, acc, f => by simp only [List.cons_append, rks]; exact rks_snoc l _ f
theorem rks_len : ∀ (l : List Fn) (acc : List Nat), (rks acc l).length = acc.length + l.length
  | [], acc => rfl
  | g :: l, acc => by simp only [rks]; rw [rks_len l]; simp; omega
theorem ranks_len (l : List Fn) : (ranks l).length = l.length := by rw [ranks, rks_len]; simp
theorem ranks_take {l : List Fn} {k : Nat} (h : k < l.length) : ranks (l.take (k + 1)) = ranks (l.take k) ++ [rkF (ranks (l.take k)) l[k]] := by
  rw [List.take_add_one, List.getElem?_eq_getElem h]
  exact rks_snoc _ _ _
theorem mx_le {acc : List Nat} {B : Nat} (h : ∀ x ∈ acc, x ≤ B) (js : List Int) : mx acc js ≤ B := by
  have : ∀ (js : List Int) (m : Nat), m ≤ B → js.foldl (fun m j => max m (acc.getD j.toNat 0)) m ≤ B := by
    intro js
    induction js with
    | nil => intro m hm; exact hm
    | cons j js ih =>
      intro m hm
      refine ih _ (Nat.max_le.2 ⟨hm, ?_⟩)
      rw [List.getD_eq_getElem?_getD]
      cases hj : acc[j.toNat]? with
      | none => simp
      | some x => exact h x (List.mem_of_getElem? hj)
  exact this js 0 (Nat.zero_le _)
theorem mx_snoc (acc : List Nat) (js : List Int) (j : Int) : mx acc (js ++ [j]) = max (mx acc js) (acc.getD j.toNat 0) := by simp [mx]
theorem grw_le (k : Int) : 1 ≤ grw k ∧ grw k ≤ 3 := by unfold grw; split <;> (try split) <;> omega
theorem ranks_le : ∀ (k : Nat) (l : List Fn), k ≤ l.length → ∀ x ∈ ranks (l.take k), 1 ≤ x ∧ x ≤ 3 * k
  | 0, l, _ => by simp [ranks, rks]
  | k + 1, l, h => by
    have ih := ranks_le k l (by omega)
    rw [ranks_take (by omega)]
    intro x hx
    rcases List.mem_append.1 hx with hx | hx
    · have := ih x hx; omega
    · simp only [List.mem_singleton] at hx
      subst hx
      have h1 := mx_le (acc := ranks (l.take k)) (B := 3 * k) (fun x hx => (ih x hx).2) (blw (l[k]'(by omega)))
      have h2 := grw_le (l[k]'(by omega)).kind
      unfold rkF; omega
def rankV (l : List Fn) : Nat := (ranks l).getD (l.length - 1) 0
theorem rankV_le {l : List Fn} (h : 1 ≤ l.length ∧ l.length ≤ 12) : 1 ≤ rankV l ∧ rankV l ≤ 36 := by
  have hl := ranks_len l
  have := ranks_le l.length l (Nat.le_refl _)
  rw [List.take_length] at this
  have h2 := this (rankV l) (by rw [rankV, List.getD_eq_getElem?_getD, List.getElem?_eq_getElem (by omega)]; exact List.getElem_mem _)
  omega

theorem growth_spec (k : Int) : CallsA Try.prog 23 [I k] (IN (grw k)) [] := by
  refine fn_of0 comp23 (by simp) ?_
  unfold code23
  by_cases h4 : k = 4
  · have g4 : (k == 4) = true := by simpa using h4
    have e : grw k = 2 := by rw [grw, if_pos h4]
    rw [e]
    simp (maxSteps := 1000000) only [g4, encF, encU, EA, EB, EC, ED, EE, EF, EG, EH, XA, XB, XC, XD, XE, XF, XG, XH, XI, XJ, XK, XL, XM, reduceIte, ↓reduceIte, Nat.reduceAdd, Nat.reduceLeDiff, Nat.reduceEqDiff, Nat.reduceLT, Nat.reduceSub, Nat.reduceBEq, forall_const, reduceCtorEq, implies_true, exists_eq_left', exists_eq_left, if_true, if_false, undef]
    rfl
  have g4 : (k == 4) = false := by simpa using h4
  by_cases h5 : k = 5
  · have g5 : (k == 5) = true := by simpa using h5
    have e : grw k = 3 := by rw [grw, if_neg h4, if_pos h5]
    rw [e]
    simp (maxSteps := 1000000) only [g4, g5, encF, encU, EA, EB, EC, ED, EE, EF, EG, EH, XA, XB, XC, XD, XE, XF, XG, XH, XI, XJ, XK, XL, XM, reduceIte, ↓reduceIte, Nat.reduceAdd, Nat.reduceLeDiff, Nat.reduceEqDiff, Nat.reduceLT, Nat.reduceSub, Nat.reduceBEq, forall_const, reduceCtorEq, implies_true, exists_eq_left', exists_eq_left, if_true, if_false, undef]
    rfl
  have g5 : (k == 5) = false := by simpa using h5
  have e : grw k = 1 := by rw [grw, if_neg h4, if_neg h5]
  rw [e]
  simp (maxSteps := 1000000) only [g4, g5, encF, encU, EA, EB, EC, ED, EE, EF, EG, EH, XA, XB, XC, XD, XE, XF, XG, XH, XI, XJ, XK, XL, XM, reduceIte, ↓reduceIte, Nat.reduceAdd, Nat.reduceLeDiff, Nat.reduceEqDiff, Nat.reduceLT, Nat.reduceSub, Nat.reduceBEq, forall_const, reduceCtorEq, implies_true, exists_eq_left', exists_eq_left, if_true, if_false, undef]
  rfl

theorem rank_err (l : List Fn) (h : chk l ≠ 0) : CallsA Try.prog 15 [.ro 6 (l.map encF)] (.tup [I 0, I (chk l)]) [] := by
  refine fn_of0 comp15 (by simp) ?_
  unfold code15
  have g : (chk l != 0) = true := by simpa using h
  simp (maxSteps := 1000000) only [encF, encU, EA, EB, EC, ED, EE, EF, EG, EH, XA, XB, XC, XD, XE, XF, XG, XH, XI, XJ, XK, XL, XM, reduceIte, ↓reduceIte, Nat.reduceAdd, Nat.reduceLeDiff, Nat.reduceEqDiff, Nat.reduceLT, Nat.reduceSub, Nat.reduceBEq, forall_const, reduceCtorEq, implies_true, exists_eq_left', exists_eq_left, if_true, if_false, undef]
  refine callF (CallsA.args (check_spec l) (by simp [encF, encU, EA, EB, EC, ED, EE, EF, EG, EH, XA, XB, XC, XD, XE, XF, XG, XH, XI, XJ, XK, XL, XM, reduceIte, ↓reduceIte, Nat.reduceAdd, Nat.reduceLeDiff, Nat.reduceEqDiff, Nat.reduceLT, Nat.reduceSub, Nat.reduceBEq, forall_const, reduceCtorEq, implies_true, exists_eq_left', exists_eq_left, if_true, if_false, undef])) rfl (by simp [flat, encF, encU, EA, EB, EC, ED, EE, EF, EG, EH, XA, XB, XC, XD, XE, XF, XG, XH, XI, XJ, XK, XL, XM, reduceIte, ↓reduceIte, Nat.reduceAdd, Nat.reduceLeDiff, Nat.reduceEqDiff, Nat.reduceLT, Nat.reduceSub, Nat.reduceBEq, forall_const, reduceCtorEq, implies_true, exists_eq_left', exists_eq_left, if_true, if_false, undef]) ?_
  simp (maxSteps := 1000000) only [g, encF, encU, EA, EB, EC, ED, EE, EF, EG, EH, XA, XB, XC, XD, XE, XF, XG, XH, XI, XJ, XK, XL, XM, reduceIte, ↓reduceIte, Nat.reduceAdd, Nat.reduceLeDiff, Nat.reduceEqDiff, Nat.reduceLT, Nat.reduceSub, Nat.reduceBEq, forall_const, reduceCtorEq, implies_true, exists_eq_left', exists_eq_left, if_true, if_false, undef]

def rkO (l : List Fn) (k : Nat) : List Nat := ranks (l.take k) ++ List.replicate (l.length - k) 0
theorem rkO_len {l : List Fn} {k : Nat} (h : k ≤ l.length) : (rkO l k).length = l.length := by rw [rkO, List.length_append, ranks_len, List.length_take, List.length_replicate]; omega
theorem rkO_succ {l : List Fn} {k : Nat} (h : k < l.length) : rkO l (k + 1) = (rkO l k).set k (rkF (ranks (l.take k)) l[k]) := by
  have hl : (ranks (l.take k)).length = k := by rw [ranks_len, List.length_take]; omega
  rw [rkO, rkO, ranks_take h, List.set_append_right _ _ (by omega), hl, Nat.sub_self, show l.length - k = (l.length - (k + 1)) + 1 by omega, List.replicate_succ, List.set_cons_zero, List.append_assoc]
  rfl
theorem rkO_get {l : List Fn} {k : Nat} {j : Int} (hk : k ≤ l.length) (hj : 0 ≤ j ∧ j < (k : Int)) : ((rkO l k).map IN)[j.toNat]? = some (IN ((ranks (l.take k)).getD j.toNat 0)) := by
  have hl : (ranks (l.take k)).length = k := by rw [ranks_len, List.length_take]; omega
  rw [List.getElem?_map, rkO, List.getElem?_append_left (by omega), List.getD_eq_getElem?_getD, List.getElem?_eq_getElem (by omega)]; rfl
theorem max_eq (a b : Nat) : (if (b : Int) > (a : Int) then (b : Int) else (a : Int)) = ((max a b : Nat) : Int) := by split <;> omega

theorem rank_spec (l : List Fn) (h : chk l = 0) : CallsA Try.prog 15 [.ro 6 (l.map encF)] (.tup [IN (rankV l), I 0]) [] := by
  have hg := good_of h
  have hlen := hg.len
  refine fn_of0 comp15 (by simp) ?_
  unfold code15
  have hll : ((l.map encF).length : Int) = l.length := by simp
  have g : (chk l != 0) = false := by simpa using h
  have h00 : List.replicate ((l.length : Nat) : Int).toNat (.v (.int .i64 0)) = (rkO l 0).map IN := by simp [rkO, ranks, rks, IN, I]
  simp (maxSteps := 1000000) only [encF, encU, EA, EB, EC, ED, EE, EF, EG, EH, XA, XB, XC, XD, XE, XF, XG, XH, XI, XJ, XK, XL, XM, reduceIte, ↓reduceIte, Nat.reduceAdd, Nat.reduceLeDiff, Nat.reduceEqDiff, Nat.reduceLT, Nat.reduceSub, Nat.reduceBEq, forall_const, reduceCtorEq, implies_true, exists_eq_left', exists_eq_left, if_true, if_false, undef]
  refine callF (CallsA.args (check_spec l) (by simp [encF, encU, EA, EB, EC, ED, EE, EF, EG, EH, XA, XB, XC, XD, XE, XF, XG, XH, XI, XJ, XK, XL, XM, reduceIte, ↓reduceIte, Nat.reduceAdd, Nat.reduceLeDiff, Nat.reduceEqDiff, Nat.reduceLT, Nat.reduceSub, Nat.reduceBEq, forall_const, reduceCtorEq, implies_true, exists_eq_left', exists_eq_left, if_true, if_false, undef])) rfl (by simp [flat, encF, encU, EA, EB, EC, ED, EE, EF, EG, EH, XA, XB, XC, XD, XE, XF, XG, XH, XI, XJ, XK, XL, XM, reduceIte, ↓reduceIte, Nat.reduceAdd, Nat.reduceLeDiff, Nat.reduceEqDiff, Nat.reduceLT, Nat.reduceSub, Nat.reduceBEq, forall_const, reduceCtorEq, implies_true, exists_eq_left', exists_eq_left, if_true, if_false, undef]) ?_
  simp (maxSteps := 1000000) only [g, hll, h00, encF, encU, EA, EB, EC, ED, EE, EF, EG, EH, XA, XB, XC, XD, XE, XF, XG, XH, XI, XJ, XK, XL, XM, reduceIte, ↓reduceIte, Nat.reduceAdd, Nat.reduceLeDiff, Nat.reduceEqDiff, Nat.reduceLT, Nat.reduceSub, Nat.reduceBEq, forall_const, reduceCtorEq, implies_true, exists_eq_left', exists_eq_left, if_true, if_false, undef]
  refine ⟨by omega, by omega, by omega, ?_⟩
  refine loopO Nat [21] (fun k => [I (k : Nat)]) (fun k => [(9, some (.arr 1 ((rkO l k).map IN)))]) (fun k => k ≤ l.length) (fun k => l.length - k) (by decide) 0 (by simp) (by simp [Back, BackF, fzT, fzM, fzU, fz, fzL, fzO, kin, SubT, Sub, SubL, SubM, SubO, keepM, srcOk, look, lookM, ev, evs, putT, argT, encF, encU, EA, EB, EC, ED, EE, EF, EG, EH, XA, XB, XC, XD, XE, XF, XG, XH, XI, XJ, XK, XL, XM, reduceIte, ↓reduceIte, Nat.reduceAdd, Nat.reduceLeDiff, Nat.reduceEqDiff, Nat.reduceLT, Nat.reduceSub, Nat.reduceBEq, forall_const, reduceCtorEq, implies_true, exists_eq_left', exists_eq_left, if_true, if_false, undef]) (fun k hk => ?_)
  have hrl := rkO_len hk
  by_cases c1 : k < l.length
  rotate_left
  · have g1 : decide ((k : Int) < (l.length : Int)) = false := by simp [c1]
    have : k = l.length := by omega
    subst this
    have w1 : IntKind.i64.wrap ((l.length : Int) - 1) = ((l.length - 1 : Nat) : Int) := by rw [wrap_id] <;> omega
    have hgt := rkO_get (l := l) (k := l.length) (j := ((l.length - 1 : Nat) : Int)) (Nat.le_refl _) (by omega)
    rw [List.take_length, Int.toNat_natCast] at hgt
    simp (maxSteps := 1000000) only [hll, g1, w1, Int.toNat_natCast, Nat.zero_add, encF, encU, EA, EB, EC, ED, EE, EF, EG, EH, XA, XB, XC, XD, XE, XF, XG, XH, XI, XJ, XK, XL, XM, reduceIte, ↓reduceIte, Nat.reduceAdd, Nat.reduceLeDiff, Nat.reduceEqDiff, Nat.reduceLT, Nat.reduceSub, Nat.reduceBEq, forall_const, reduceCtorEq, implies_true, exists_eq_left', exists_eq_left, if_true, if_false, undef]
    refine ⟨by omega, by omega, _, hgt, ?_⟩
    simp (maxSteps := 1000000) only [rankV, encF, encU, EA, EB, EC, ED, EE, EF, EG, EH, XA, XB, XC, XD, XE, XF, XG, XH, XI, XJ, XK, XL, XM, reduceIte, ↓reduceIte, Nat.reduceAdd, Nat.reduceLeDiff, Nat.reduceEqDiff, Nat.reduceLT, Nat.reduceSub, Nat.reduceBEq, forall_const, reduceCtorEq, implies_true, exists_eq_left', exists_eq_left, if_true, if_false, undef]
  have g1 : decide ((k : Int) < (l.length : Int)) = true := by simp [c1]
  have hw : IntKind.i64.wrap ((k : Int) + 1) = ((k + 1 : Nat) : Int) := by rw [wrap_id] <;> omega
  have hof := hg.okF c1
  have hsu := rkO_succ c1
  have hb := ranks_le k l hk
  have hget : ∀ j : Int, 0 ≤ j ∧ j < (k : Int) → _ := fun j hj => rkO_get hk hj
  simp (maxSteps := 1000000) only [hll, g1, encF, encU, EA, EB, EC, ED, EE, EF, EG, EH, XA, XB, XC, XD, XE, XF, XG, XH, XI, XJ, XK, XL, XM, reduceIte, ↓reduceIte, Nat.reduceAdd, Nat.reduceLeDiff, Nat.reduceEqDiff, Nat.reduceLT, Nat.reduceSub, Nat.reduceBEq, forall_const, reduceCtorEq, implies_true, exists_eq_left', exists_eq_left, if_true, if_false, undef]
  refine ⟨by omega, pickM c1 ?_⟩
  generalize l[k] = f at hof hsu
  generalize rkO l k = ro at hrl hsu hget
  generalize ranks (l.take k) = acc at hsu hb hget
  have hul : (((usL f).map encU).length : Int) = (usL f).length := by simp
  have hus := usL_len f hof.into
  simp (maxSteps := 1000000) only [encF, encU, EA, EB, EC, ED, EE, EF, EG, EH, XA, XB, XC, XD, XE, XF, XG, XH, XI, XJ, XK, XL, XM, reduceIte, ↓reduceIte, Nat.reduceAdd, Nat.reduceLeDiff, Nat.reduceEqDiff, Nat.reduceLT, Nat.reduceSub, Nat.reduceBEq, forall_const, reduceCtorEq, implies_true, exists_eq_left', exists_eq_left, if_true, if_false, undef]
  refine callA (CallsA.args (uses_spec f hof.args hof.into ) (by simp [ encF,encF, encU, EA, EB, EC, ED, EE, EF, EG, EH, XA, XB, XC, XD, XE, XF, XG, XH, XI, XJ, XK, XL, XM, reduceIte, ↓reduceIte, Nat.reduceAdd, Nat.reduceLeDiff, Nat.reduceEqDiff, Nat.reduceLT, Nat.reduceSub, Nat.reduceBEq, forall_const, reduceCtorEq, implies_true, exists_eq_left', exists_eq_left, if_true, if_false, undef])) rfl ?_
  simp (maxSteps := 1000000) only [encF, encU, EA, EB, EC, ED, EE, EF, EG, EH, XA, XB, XC, XD, XE, XF, XG, XH, XI, XJ, XK, XL, XM, reduceIte, ↓reduceIte, Nat.reduceAdd, Nat.reduceLeDiff, Nat.reduceEqDiff, Nat.reduceLT, Nat.reduceSub, Nat.reduceBEq, forall_const, reduceCtorEq, implies_true, exists_eq_left', exists_eq_left, if_true, if_false, undef]
  refine loopO Nat [29, 8] (fun j => [I (j : Nat), IN (mx acc ((blw f).take j))]) (fun _ => []) (fun j => j ≤ (usL f).length) (fun j => (usL f).length - j) (by decide) 0 (by simp) (by simp [Back, BackF, fzT, fzM, fzU, fz, fzL, fzO, kin, SubT, Sub, SubL, SubM, SubO, keepM, srcOk, look, lookM, ev, evs, putT, argT, encF, encU, EA, EB, EC, ED, EE, EF, EG, EH, XA, XB, XC, XD, XE, XF, XG, XH, XI, XJ, XK, XL, XM, reduceIte, ↓reduceIte, Nat.reduceAdd, Nat.reduceLeDiff, Nat.reduceEqDiff, Nat.reduceLT, Nat.reduceSub, Nat.reduceBEq, forall_const, reduceCtorEq, implies_true, exists_eq_left', exists_eq_left, if_true, if_false, undef, mx]) (fun j hj => ?_)
  have hm3 := mx_le (acc := acc) (B := 3 * k) (fun x hx => (hb x hx).2) ((blw f).take j)
  by_cases d1 : j < (usL f).length
  rotate_left
  · have g2 : decide ((j : Int) < ((usL f).length : Int)) = false := by simp [d1]
    have : j = (usL f).length := by omega
    subst this
    have hgl := grw_le f.kind
    rw [List.take_of_length_le (by simp [blw])] at hm3 ⊢
    have w2 : IntKind.i64.wrap ((mx acc (blw f) : Int) + (grw f.kind : Int)) = ((rkF acc f : Nat) : Int) := by rw [wrap_id, rkF] <;> omega
    simp (maxSteps := 1000000) only [hul, g2, encF, encU, EA, EB, EC, ED, EE, EF, EG, EH, XA, XB, XC, XD, XE, XF, XG, XH, XI, XJ, XK, XL, XM, reduceIte, ↓reduceIte, Nat.reduceAdd, Nat.reduceLeDiff, Nat.reduceEqDiff, Nat.reduceLT, Nat.reduceSub, Nat.reduceBEq, forall_const, reduceCtorEq, implies_true, exists_eq_left', exists_eq_left, if_true, if_false, undef]
    refine callF (CallsA.args (growth_spec f.kind) (by simp [encF, encU, EA, EB, EC, ED, EE, EF, EG, EH, XA, XB, XC, XD, XE, XF, XG, XH, XI, XJ, XK, XL, XM, reduceIte, ↓reduceIte, Nat.reduceAdd, Nat.reduceLeDiff, Nat.reduceEqDiff, Nat.reduceLT, Nat.reduceSub, Nat.reduceBEq, forall_const, reduceCtorEq, implies_true, exists_eq_left', exists_eq_left, if_true, if_false, undef])) rfl (by simp [flat, encF, encU, EA, EB, EC, ED, EE, EF, EG, EH, XA, XB, XC, XD, XE, XF, XG, XH, XI, XJ, XK, XL, XM, reduceIte, ↓reduceIte, Nat.reduceAdd, Nat.reduceLeDiff, Nat.reduceEqDiff, Nat.reduceLT, Nat.reduceSub, Nat.reduceBEq, forall_const, reduceCtorEq, implies_true, exists_eq_left', exists_eq_left, if_true, if_false, undef]) ?_
    simp (maxSteps := 1000000) only [w2, hw, Int.toNat_natCast, Nat.zero_add, encF, encU, EA, EB, EC, ED, EE, EF, EG, EH, XA, XB, XC, XD, XE, XF, XG, XH, XI, XJ, XK, XL, XM, reduceIte, ↓reduceIte, Nat.reduceAdd, Nat.reduceLeDiff, Nat.reduceEqDiff, Nat.reduceLT, Nat.reduceSub, Nat.reduceBEq, forall_const, reduceCtorEq, implies_true, exists_eq_left', exists_eq_left, if_true, if_false, undef]
    refine ⟨by omega, by omega, by simp [hrl]; omega, k + 1, by omega, by omega, ?_⟩
    rw [hsu, List.map_set]
    simp [Back, BackF, fzT, fzM, fzU, fz, fzL, fzO, kin, SubT, Sub, SubL, SubM, SubO, keepM, srcOk, look, lookM, ev, evs, putT, argT, encF, encU, EA, EB, EC, ED, EE, EF, EG, EH, XA, XB, XC, XD, XE, XF, XG, XH, XI, XJ, XK, XL, XM, reduceIte, ↓reduceIte, Nat.reduceAdd, Nat.reduceLeDiff, Nat.reduceEqDiff, Nat.reduceLT, Nat.reduceSub, Nat.reduceBEq, forall_const, reduceCtorEq, implies_true, exists_eq_left', exists_eq_left, if_true, if_false, undef]
  have g2 : decide ((j : Int) < ((usL f).length : Int)) = true := by simp [d1]
  have hw2 : IntKind.i64.wrap ((j : Int) + 1) = ((j + 1 : Nat) : Int) := by rw [wrap_id] <;> omega
  have hu := hof.uses _ (List.getElem_mem d1)
  have hgu := hget _ hu
  have hnx : (blw f).take (j + 1) = (blw f).take j ++ [((usL f)[j]).1] := by
    rw [List.take_add_one]
    have : (blw f)[j]? = some ((usL f)[j]).1 := by rw [blw, List.getElem?_map, List.getElem?_eq_getElem d1]; rfl
    rw [this]; rfl
  have hmx := mx_snoc acc ((blw f).take j) ((usL f)[j]).1
  rw [← hnx] at hmx
  simp (maxSteps := 1000000) only [hul, g2, encF, encU, EA, EB, EC, ED, EE, EF, EG, EH, XA, XB, XC, XD, XE, XF, XG, XH, XI, XJ, XK, XL, XM, reduceIte, ↓reduceIte, Nat.reduceAdd, Nat.reduceLeDiff, Nat.reduceEqDiff, Nat.reduceLT, Nat.reduceSub, Nat.reduceBEq, forall_const, reduceCtorEq, implies_true, exists_eq_left', exists_eq_left, if_true, if_false, undef]
  refine ⟨by omega, pickM d1 ?_⟩
  generalize (usL f)[j] = u at *
  simp (maxSteps := 1000000) only [encF, encU, EA, EB, EC, ED, EE, EF, EG, EH, XA, XB, XC, XD, XE, XF, XG, XH, XI, XJ, XK, XL, XM, reduceIte, ↓reduceIte, Nat.reduceAdd, Nat.reduceLeDiff, Nat.reduceEqDiff, Nat.reduceLT, Nat.reduceSub, Nat.reduceBEq, forall_const, reduceCtorEq, implies_true, exists_eq_left', exists_eq_left, if_true, if_false, undef]
  refine ⟨hu.1, by simp; omega, _, by rw [Nat.zero_add]; exact hgu, ?_⟩
  simp (maxSteps := 1000000) only [max_eq, hw2, encF, encU, EA, EB, EC, ED, EE, EF, EG, EH, XA, XB, XC, XD, XE, XF, XG, XH, XI, XJ, XK, XL, XM, reduceIte, ↓reduceIte, Nat.reduceAdd, Nat.reduceLeDiff, Nat.reduceEqDiff, Nat.reduceLT, Nat.reduceSub, Nat.reduceBEq, forall_const, reduceCtorEq, implies_true, exists_eq_left', exists_eq_left, if_true, if_false, undef]
  exact ⟨j + 1, by omega, by omega, by simp [Back, BackF, fzT, fzM, fzU, fz, fzL, fzO, kin, SubT, Sub, SubL, SubM, SubO, keepM, srcOk, look, lookM, ev, evs, putT, argT, encF, encU, EA, EB, EC, ED, EE, EF, EG, EH, XA, XB, XC, XD, XE, XF, XG, XH, XI, XJ, XK, XL, XM, reduceIte, ↓reduceIte, Nat.reduceAdd, Nat.reduceLeDiff, Nat.reduceEqDiff, Nat.reduceLT, Nat.reduceSub, Nat.reduceBEq, forall_const, reduceCtorEq, implies_true, exists_eq_left', exists_eq_left, if_true, if_false, undef, hmx]⟩

end Go.Av
