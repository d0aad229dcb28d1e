/- Tag systems: the first word that was there before. -/
import Derived.Test.YtgpdiifihleldaaTagR
set_option linter.unusedSimpArgs false
set_option linter.unusedVariables false
set_option maxRecDepth 100000
namespace Go.Av
open Go.Proofs

/-- the first word before the k-th that is equal to it -/
def fnd (g : TagS) (w : List Int) (k : Nat) : Option Nat := (List.range k).find? fun i => decide (tw g w i = tw g w k)

def trnd (g : TagS) (w : List Int) : Nat → Nat → Int × Int × Int
  | 0, k => if ((tw g w k).length : Int) < g.drop then (0, 0, 5) else match fnd g w k with
    | some i => ((k : Int), (k : Int) - (i : Int), 0)
    | none => (0, 0, 7)
  | f + 1, k => if ((tw g w k).length : Int) < g.drop then (0, 0, 5) else match fnd g w k with
    | some i => ((k : Int), (k : Int) - (i : Int), 0)
    | none => if 40 < (tw g w (k + 1)).length then (0, 0, 7) else trnd g w f (k + 1)

theorem trnd_fin {g : TagS} {w : List Int} {f k : Nat} (h : ((tw g w k).length : Int) < g.drop) : trnd g w f k = (0, 0, 5) := by
  cases f <;> rw [trnd, if_pos h]
theorem trnd_found {g : TagS} {w : List Int} {f k i : Nat} (h : ¬ ((tw g w k).length : Int) < g.drop) (hf : fnd g w k = some i) : trnd g w f k = ((k : Int), (k : Int) - (i : Int), 0) := by
  cases f <;> rw [trnd, if_neg h, hf]
theorem trnd_end {g : TagS} {w : List Int} {k : Nat} (h : ¬ ((tw g w k).length : Int) < g.drop) (hf : fnd g w k = none) : trnd g w 0 k = (0, 0, 7) := by
  rw [trnd, if_neg h, hf]
theorem trnd_on {g : TagS} {w : List Int} {f k : Nat} (h : ¬ ((tw g w k).length : Int) < g.drop) (hf : fnd g w k = none) : trnd g w (f + 1) k = if 40 < (tw g w (k + 1)).length then (0, 0, 7) else trnd g w f (k + 1) := by
  rw [trnd, if_neg h, hf]

def tagRound (signs : Int) (g : TagS) (w : List Int) : Int × Int × Int := if tagErr signs g w ≠ 0 then (0, 0, tagErr signs g w) else trnd g w 400 0

/-- what has been seen -/
def seen (g : TagS) (w : List Int) (k : Nat) : List (Value × AV) := (List.range k).map fun j => (.string (bstr (tw g w j)), I j)

theorem u8_inj {x y : Int} (hx : 0 ≤ x ∧ x < 256) (hy : 0 ≤ y ∧ y < 256) (h : UInt8.ofNat x.toNat = UInt8.ofNat y.toNat) : x = y := by
  have := congrArg UInt8.toNat h
  simp only [UInt8.toNat_ofNat'] at this
  omega

theorem bstr_inj : ∀ {a b : List Int}, u8w a → u8w b → bstr a = bstr b → a = b := by
  have key : ∀ (a b : List Int), u8w a → u8w b → (a.map fun b => UInt8.ofNat b.toNat) = (b.map fun b => UInt8.ofNat b.toNat) → a = b := by
    intro a
    induction a with
    | nil => intro b _ _ h; cases b with
      | nil => rfl
      | cons y b => simp at h
    | cons x a ih =>
      intro b ha hb h
      cases b with
      | nil => simp at h
      | cons y b =>
        simp only [List.map_cons, List.cons.injEq] at h
        rw [u8_inj (ha x (by simp)) (hb y (by simp)) h.1, ih b (fun z hz => ha z (by simp [hz])) (fun z hz => hb z (by simp [hz])) h.2]
  intro a b ha hb h
  refine key a b ha hb ?_
  unfold bstr at h
  simp only [ByteArray.mk.injEq] at h
  simpa using h

theorem seen_keys (g : TagS) (w : List Int) (k : Nat) : SKeys (seen g w k) = True := by
  refine eq_true (fun p hp => ?_)
  simp only [seen, List.mem_map] at hp
  obtain ⟨j, _, rfl⟩ := hp
  exact ⟨_, rfl⟩

theorem sfind_map (f : Nat → ByteArray) (s : ByteArray) : ∀ l : List Nat, sfind s (l.map fun j => (.string (f j), I j)) = (l.find? fun j => decide (f j = s)).map fun (j : Nat) => I (j : Int) := by
  intro l
  induction l with
  | nil => rfl
  | cons x l ih =>
    simp only [List.map_cons, sfind, skeyIs, List.find?_cons]
    cases h : decide (f x = s) with
    | true => rfl
    | false => exact ih

theorem sput_new (s : ByteArray) (y : AV) : ∀ es : List (Value × AV), sfind s es = none → sput s y es = es ++ [(.string s, y)] := by
  intro es
  induction es with
  | nil => intro _; rfl
  | cons p es ih =>
    obtain ⟨q, x⟩ := p
    intro h
    simp only [sfind] at h
    cases hq : skeyIs s q with
    | true => rw [hq] at h; cases h
    | false =>
      rw [hq] at h
      simp only [cond_false] at h
      simp only [sput, hq, cond_false, List.cons_append, ih h]

theorem tw_u8 {g : TagS} {w : List Int} (h : TagOk g w) (k : Nat) : u8w (tw g w k) := fun x hx => by
  have := tw_in h k x hx
  have := h.b
  omega

theorem seen_find {g : TagS} {w : List Int} (h : TagOk g w) (k : Nat) : sfind (bstr (tw g w k)) (seen g w k) = (fnd g w k).map fun (j : Nat) => I (j : Int) := by
  unfold seen fnd
  rw [sfind_map (fun j => bstr (tw g w j))]
  have : (fun j => decide (bstr (tw g w j) = bstr (tw g w k))) = fun j => decide (tw g w j = tw g w k) := funext fun j => by
    have : bstr (tw g w j) = bstr (tw g w k) ↔ tw g w j = tw g w k := ⟨fun hh => bstr_inj (tw_u8 h j) (tw_u8 h k) hh, fun hh => by rw [hh]⟩
    simp [this]
  rw [this]

theorem seen_succ {g : TagS} {w : List Int} (h : TagOk g w) {k : Nat} (hf : fnd g w k = none) : sput (bstr (tw g w k)) (I k) (seen g w k) = seen g w (k + 1) := by
  rw [sput_new _ _ _ (by rw [seen_find h, hf]; rfl)]
  simp [seen, List.range_succ]

theorem fnd_lt {g : TagS} {w : List Int} {k i : Nat} (h : fnd g w k = some i) : i < k ∧ tw g w i = tw g w k := by
  refine ⟨?_, ?_⟩
  · have := List.mem_of_find?_eq_some h
    simpa using this
  · have := List.find?_some h
    simpa using this

def tagRoundAns (r : Int × Int × Int) : AV := .tup [I r.1, I r.2.1, I r.2.2]

theorem tagRound_spec (signs : Int) (g : TagS) (w : List Int) (hl : TagLen g w) : CallsA Try.prog 12 [I signs, encG g, .ro 1 (w.map I)] (tagRoundAns (tagRound signs g w)) [] := by
  refine fn_of0 comp12 (by simp) ?_
  unfold code12
  simp (maxSteps := 1000000) only [encL, encG, EA, EB, EC, ED, EE, EF, EG, EH, XA, XB, XC, XD, XE, XF, XG, XH, XI, XJ, XK, XL, XM, reduceIte, ↓reduceIte, Nat.reduceAdd, Nat.reduceLeDiff, Nat.reduceEqDiff, Nat.reduceLT, Nat.reduceSub, Nat.reduceBEq, forall_const, reduceCtorEq, implies_true, exists_eq_left', exists_eq_left, if_true, if_false, undef]
  refine callF (CallsA.args (tagcheck_spec signs g w hl ) (by simp [ encG,encL, encG, EA, EB, EC, ED, EE, EF, EG, EH, XA, XB, XC, XD, XE, XF, XG, XH, XI, XJ, XK, XL, XM, reduceIte, ↓reduceIte, Nat.reduceAdd, Nat.reduceLeDiff, Nat.reduceEqDiff, Nat.reduceLT, Nat.reduceSub, Nat.reduceBEq, forall_const, reduceCtorEq, implies_true, exists_eq_left', exists_eq_left, if_true, if_false, undef])) rfl (by simp [flat, encL, encG, EA, EB, EC, ED, EE, EF, EG, EH, XA, XB, XC, XD, XE, XF, XG, XH, XI, XJ, XK, XL, XM, reduceIte, ↓reduceIte, Nat.reduceAdd, Nat.reduceLeDiff, Nat.reduceEqDiff, Nat.reduceLT, Nat.reduceSub, Nat.reduceBEq, forall_const, reduceCtorEq, implies_true, exists_eq_left', exists_eq_left, if_true, if_false, undef]) ?_
  by_cases h1 : tagErr signs g w = 0
  rotate_left
  · have e1 : (tagErr signs g w != 0) = true := by simp [h1]
    have hr : tagRound signs g w = (0, 0, tagErr signs g w) := by rw [tagRound, if_pos h1]
    rw [hr]
    simp (maxSteps := 1000000) only [e1, tagRoundAns, encL, encG, EA, EB, EC, ED, EE, EF, EG, EH, XA, XB, XC, XD, XE, XF, XG, XH, XI, XJ, XK, XL, XM, reduceIte, ↓reduceIte, Nat.reduceAdd, Nat.reduceLeDiff, Nat.reduceEqDiff, Nat.reduceLT, Nat.reduceSub, Nat.reduceBEq, forall_const, reduceCtorEq, implies_true, exists_eq_left', exists_eq_left, if_true, if_false, undef]
  have e1 : (tagErr signs g w != 0) = false := by simp [h1]
  obtain ⟨ok, _⟩ := tagErr_ok h1
  have hw40 := ok.w
  have hr : tagRound signs g w = trnd g w 400 0 := by rw [tagRound, if_neg (by simp [h1])]
  rw [hr]
  simp (maxSteps := 1000000) only [e1, encL, encG, EA, EB, EC, ED, EE, EF, EG, EH, XA, XB, XC, XD, XE, XF, XG, XH, XI, XJ, XK, XL, XM, reduceIte, ↓reduceIte, Nat.reduceAdd, Nat.reduceLeDiff, Nat.reduceEqDiff, Nat.reduceLT, Nat.reduceSub, Nat.reduceBEq, forall_const, reduceCtorEq, implies_true, exists_eq_left', exists_eq_left, if_true, if_false, undef]
  refine loopO Nat [11, 12] (fun k => [.ro 1 ((tw g w k).map I), I (k : Nat)]) (fun k => [(11, some (.map (seen g w k)))]) (fun k => k ≤ 400 ∧ (tw g w k).length ≤ 40 ∧ trnd g w (400 - k) k = trnd g w 400 0) (fun k => 400 - k) (by decide) 0
    (by simp [tw]; omega) (by simp [Back, BackF, fzT, fzM, fzU, fz, fzL, fzO, kin, SubT, Sub, SubL, SubM, SubO, keepM, srcOk, look, lookM, ev, evs, putT, argT, encL, encG, EA, EB, EC, ED, EE, EF, EG, EH, XA, XB, XC, XD, XE, XF, XG, XH, XI, XJ, XK, XL, XM, reduceIte, ↓reduceIte, Nat.reduceAdd, Nat.reduceLeDiff, Nat.reduceEqDiff, Nat.reduceLT, Nat.reduceSub, Nat.reduceBEq, forall_const, reduceCtorEq, implies_true, exists_eq_left', exists_eq_left, if_true, if_false, undef, tw, seen]) (fun k hk => ?_)
  obtain ⟨hk, h40, hrun⟩ := hk
  simp (maxSteps := 1000000) only [encL, encG, EA, EB, EC, ED, EE, EF, EG, EH, XA, XB, XC, XD, XE, XF, XG, XH, XI, XJ, XK, XL, XM, reduceIte, ↓reduceIte, Nat.reduceAdd, Nat.reduceLeDiff, Nat.reduceEqDiff, Nat.reduceLT, Nat.reduceSub, Nat.reduceBEq, forall_const, reduceCtorEq, implies_true, exists_eq_left', exists_eq_left, if_true, if_false, undef]
  refine callF (CallsA.args (isFinal_spec g (tw g w k) ) (by simp [ encG,encL, encG, EA, EB, EC, ED, EE, EF, EG, EH, XA, XB, XC, XD, XE, XF, XG, XH, XI, XJ, XK, XL, XM, reduceIte, ↓reduceIte, Nat.reduceAdd, Nat.reduceLeDiff, Nat.reduceEqDiff, Nat.reduceLT, Nat.reduceSub, Nat.reduceBEq, forall_const, reduceCtorEq, implies_true, exists_eq_left', exists_eq_left, if_true, if_false, undef])) rfl (by simp [flat, encL, encG, EA, EB, EC, ED, EE, EF, EG, EH, XA, XB, XC, XD, XE, XF, XG, XH, XI, XJ, XK, XL, XM, reduceIte, ↓reduceIte, Nat.reduceAdd, Nat.reduceLeDiff, Nat.reduceEqDiff, Nat.reduceLT, Nat.reduceSub, Nat.reduceBEq, forall_const, reduceCtorEq, implies_true, exists_eq_left', exists_eq_left, if_true, if_false, undef]) ?_
  by_cases c2 : ((tw g w k).length : Int) < g.drop
  · have f2 : decide (((tw g w k).length : Int) < g.drop) = true := by simp [c2]
    rw [trnd_fin c2] at hrun
    rw [← hrun]
    simp (maxSteps := 1000000) only [f2, tagRoundAns, encL, encG, EA, EB, EC, ED, EE, EF, EG, EH, XA, XB, XC, XD, XE, XF, XG, XH, XI, XJ, XK, XL, XM, reduceIte, ↓reduceIte, Nat.reduceAdd, Nat.reduceLeDiff, Nat.reduceEqDiff, Nat.reduceLT, Nat.reduceSub, Nat.reduceBEq, forall_const, reduceCtorEq, implies_true, exists_eq_left', exists_eq_left, if_true, if_false, undef]
  have f2 : decide (((tw g w k).length : Int) < g.drop) = false := by simp [c2]
  simp (maxSteps := 1000000) only [f2, encL, encG, EA, EB, EC, ED, EE, EF, EG, EH, XA, XB, XC, XD, XE, XF, XG, XH, XI, XJ, XK, XL, XM, reduceIte, ↓reduceIte, Nat.reduceAdd, Nat.reduceLeDiff, Nat.reduceEqDiff, Nat.reduceLT, Nat.reduceSub, Nat.reduceBEq, forall_const, reduceCtorEq, implies_true, exists_eq_left', exists_eq_left, if_true, if_false, undef]
  refine callF (CallsA.args (key_spec (tw g w k) (tw_u8 ok k) h40) (by simp [encL, encG, EA, EB, EC, ED, EE, EF, EG, EH, XA, XB, XC, XD, XE, XF, XG, XH, XI, XJ, XK, XL, XM, reduceIte, ↓reduceIte, Nat.reduceAdd, Nat.reduceLeDiff, Nat.reduceEqDiff, Nat.reduceLT, Nat.reduceSub, Nat.reduceBEq, forall_const, reduceCtorEq, implies_true, exists_eq_left', exists_eq_left, if_true, if_false, undef])) rfl (by simp [flat, encL, encG, EA, EB, EC, ED, EE, EF, EG, EH, XA, XB, XC, XD, XE, XF, XG, XH, XI, XJ, XK, XL, XM, reduceIte, ↓reduceIte, Nat.reduceAdd, Nat.reduceLeDiff, Nat.reduceEqDiff, Nat.reduceLT, Nat.reduceSub, Nat.reduceBEq, forall_const, reduceCtorEq, implies_true, exists_eq_left', exists_eq_left, if_true, if_false, undef]) ?_
  cases hf : fnd g w k with
  | some i =>
    have hi := fnd_lt hf
    have hw1 : IntKind.i64.wrap ((k : Int) - (i : Int)) = (k : Int) - (i : Int) := by rw [wrap_id] <;> omega
    rw [trnd_found c2 hf] at hrun
    rw [← hrun]
    simp (maxSteps := 1000000) only [seen_keys, seen_find ok, hf, Option.map_some, Option.isSome_some, hw1, tagRoundAns, encL, encG, EA, EB, EC, ED, EE, EF, EG, EH, XA, XB, XC, XD, XE, XF, XG, XH, XI, XJ, XK, XL, XM, reduceIte, ↓reduceIte, Nat.reduceAdd, Nat.reduceLeDiff, Nat.reduceEqDiff, Nat.reduceLT, Nat.reduceSub, Nat.reduceBEq, forall_const, reduceCtorEq, implies_true, exists_eq_left', exists_eq_left, if_true, if_false, undef]
  | none =>
    by_cases c3 : k = 400
    · subst c3
      have f3 : (((400 : Nat) : Int) == 400) = true := by decide
      rw [Nat.sub_self, trnd_end c2 hf] at hrun
      rw [← hrun]
      simp (maxSteps := 1000000) only [seen_keys, seen_find ok, hf, f3, Option.map_none, Option.isSome_none, tagRoundAns, encL, encG, EA, EB, EC, ED, EE, EF, EG, EH, XA, XB, XC, XD, XE, XF, XG, XH, XI, XJ, XK, XL, XM, reduceIte, ↓reduceIte, Nat.reduceAdd, Nat.reduceLeDiff, Nat.reduceEqDiff, Nat.reduceLT, Nat.reduceSub, Nat.reduceBEq, forall_const, reduceCtorEq, implies_true, exists_eq_left', exists_eq_left, if_true, if_false, undef]
      exact ⟨_, rfl⟩
    have f3 : (((k : Nat) : Int) == 400) = false := by simp; omega
    obtain ⟨q, hq⟩ : ∃ q, 400 - k = q + 1 := ⟨400 - k - 1, by omega⟩
    rw [hq, trnd_on c2 hf] at hrun
    simp (maxSteps := 1000000) only [seen_keys, seen_find ok, hf, f3, Option.map_none, Option.isSome_none, encL, encG, EA, EB, EC, ED, EE, EF, EG, EH, XA, XB, XC, XD, XE, XF, XG, XH, XI, XJ, XK, XL, XM, reduceIte, ↓reduceIte, Nat.reduceAdd, Nat.reduceLeDiff, Nat.reduceEqDiff, Nat.reduceLT, Nat.reduceSub, Nat.reduceBEq, forall_const, reduceCtorEq, implies_true, exists_eq_left', exists_eq_left, if_true, if_false, undef]
    refine callF (CallsA.args (key_spec (tw g w k) (tw_u8 ok k) h40) (by simp [encL, encG, EA, EB, EC, ED, EE, EF, EG, EH, XA, XB, XC, XD, XE, XF, XG, XH, XI, XJ, XK, XL, XM, reduceIte, ↓reduceIte, Nat.reduceAdd, Nat.reduceLeDiff, Nat.reduceEqDiff, Nat.reduceLT, Nat.reduceSub, Nat.reduceBEq, forall_const, reduceCtorEq, implies_true, exists_eq_left', exists_eq_left, if_true, if_false, undef])) rfl (by simp [flat, encL, encG, EA, EB, EC, ED, EE, EF, EG, EH, XA, XB, XC, XD, XE, XF, XG, XH, XI, XJ, XK, XL, XM, reduceIte, ↓reduceIte, Nat.reduceAdd, Nat.reduceLeDiff, Nat.reduceEqDiff, Nat.reduceLT, Nat.reduceSub, Nat.reduceBEq, forall_const, reduceCtorEq, implies_true, exists_eq_left', exists_eq_left, if_true, if_false, undef]) ?_
    simp (maxSteps := 1000000) only [seen_keys, seen_succ ok hf, encL, encG, EA, EB, EC, ED, EE, EF, EG, EH, XA, XB, XC, XD, XE, XF, XG, XH, XI, XJ, XK, XL, XM, reduceIte, ↓reduceIte, Nat.reduceAdd, Nat.reduceLeDiff, Nat.reduceEqDiff, Nat.reduceLT, Nat.reduceSub, Nat.reduceBEq, forall_const, reduceCtorEq, implies_true, exists_eq_left', exists_eq_left, if_true, if_false, undef]
    refine callA (CallsA.args (transform_spec g (tw g w k) (tw_go ok h40) (by omega) ) (by simp [ encG,encL, encG, EA, EB, EC, ED, EE, EF, EG, EH, XA, XB, XC, XD, XE, XF, XG, XH, XI, XJ, XK, XL, XM, reduceIte, ↓reduceIte, Nat.reduceAdd, Nat.reduceLeDiff, Nat.reduceEqDiff, Nat.reduceLT, Nat.reduceSub, Nat.reduceBEq, forall_const, reduceCtorEq, implies_true, exists_eq_left', exists_eq_left, if_true, if_false, undef])) rfl ?_
    have hlen : (((tstp g (tw g w k)).map I).length : Int) = ((tw g w (k + 1)).length : Nat) := by simp [tw]
    have hw1 : IntKind.i64.wrap ((k : Int) + 1) = ((k + 1 : Nat) : Int) := by rw [wrap_id] <;> omega
    by_cases c4 : 40 < (tw g w (k + 1)).length
    · have f4 : decide (((tw g w (k + 1)).length : Int) > 40) = true := by simp; omega
      rw [if_pos c4] at hrun
      rw [← hrun]
      simp (maxSteps := 1000000) only [hlen, f4, tagRoundAns, encL, encG, EA, EB, EC, ED, EE, EF, EG, EH, XA, XB, XC, XD, XE, XF, XG, XH, XI, XJ, XK, XL, XM, reduceIte, ↓reduceIte, Nat.reduceAdd, Nat.reduceLeDiff, Nat.reduceEqDiff, Nat.reduceLT, Nat.reduceSub, Nat.reduceBEq, forall_const, reduceCtorEq, implies_true, exists_eq_left', exists_eq_left, if_true, if_false, undef]
    · have f4 : decide (((tw g w (k + 1)).length : Int) > 40) = false := by simp; omega
      rw [if_neg c4] at hrun
      simp (maxSteps := 1000000) only [hlen, f4, hw1, encL, encG, EA, EB, EC, ED, EE, EF, EG, EH, XA, XB, XC, XD, XE, XF, XG, XH, XI, XJ, XK, XL, XM, reduceIte, ↓reduceIte, Nat.reduceAdd, Nat.reduceLeDiff, Nat.reduceEqDiff, Nat.reduceLT, Nat.reduceSub, Nat.reduceBEq, forall_const, reduceCtorEq, implies_true, exists_eq_left', exists_eq_left, if_true, if_false, undef]
      exact ⟨k + 1, ⟨by omega, by omega, by rw [show 400 - (k + 1) = q by omega]; exact hrun⟩, by omega, by simp [Back, BackF, fzT, fzM, fzU, fz, fzL, fzO, kin, SubT, Sub, SubL, SubM, SubO, keepM, srcOk, look, lookM, ev, evs, putT, argT, encL, encG, EA, EB, EC, ED, EE, EF, EG, EH, XA, XB, XC, XD, XE, XF, XG, XH, XI, XJ, XK, XL, XM, reduceIte, ↓reduceIte, Nat.reduceAdd, Nat.reduceLeDiff, Nat.reduceEqDiff, Nat.reduceLT, Nat.reduceSub, Nat.reduceBEq, forall_const, reduceCtorEq, implies_true, exists_eq_left', exists_eq_left, if_true, if_false, undef, tw]⟩

end Go.Av
