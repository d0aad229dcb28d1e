/- Cells: the program's search for a word that has none ahead. -/
import Derived.Test.YtlemkfgipbfjhaaCellH
set_option linter.unusedSimpArgs false
set_option linter.unusedVariables false
set_option maxRecDepth 100000
namespace Go.Av
open Go.Proofs

/-- a set of last two cells as a number: what it becomes -/
def eF (rule set : Nat) (x : Bool) : Nat → Nat
  | 0 => 0
  | k + 1 => if (set.testBit (k / 2) && (rule.testBit k == x)) = true then eF rule set x k ||| 2 ^ (k % 4) else eF rule set x k
def endsN (rule set : Nat) (x : Bool) : Nat := eF rule set x 8

theorem eF_lt (rule set : Nat) (x : Bool) : ∀ k, eF rule set x k < 16
  | 0 => by simp [eF]
  | k + 1 => by
    have ih := eF_lt rule set x k
    simp only [eF]
    split
    · have h4 : (2 : Nat) ^ (k % 4) < 2 ^ 4 := Nat.pow_lt_pow_right (by omega) (Nat.mod_lt _ (by omega))
      exact Nat.or_lt_two_pow (n := 4) ih h4
    · exact ih

theorem or_bit {w p : Nat} (hw : w < 16) (hp : p < 16) :
    IntKind.i64.wrap ((BitVec.ofInt IntKind.i64.bits (w : Int) ||| BitVec.ofInt IntKind.i64.bits (p : Int)).toNat : Int) = ((w ||| p : Nat) : Int) := by
  have hb : IntKind.i64.bits = 64 := rfl
  have e1 : (BitVec.ofInt 64 (w : Int)).toNat = w := by rw [BitVec.ofInt_natCast, BitVec.toNat_ofNat]; omega
  have e2 : (BitVec.ofInt 64 (p : Int)).toNat = p := by rw [BitVec.ofInt_natCast, BitVec.toNat_ofNat]; omega
  have e3 : w ||| p < 2 ^ 4 := Nat.or_lt_two_pow hw hp
  rw [hb, BitVec.toNat_or, e1, e2, wrap_id] <;> omega

theorem ends_spec (rule set : Nat) (hr : rule < 256) (hs : set < 16) (x : Bool) : CallsA Try.prog 32 [I rule, I set, Bo x] (I (endsN rule set x : Nat)) [] := by
  refine fn_of0 comp32 (by simp) ?_
  unfold code32
  simp (maxSteps := 1000000) only [EA, EB, EC, ED, EE, EF, EG, EH, XA, XB, XC, XD, XE, XF, XG, XH, XI, XJ, XK, XL, XM, reduceIte, ↓reduceIte, Nat.reduceAdd, Nat.reduceLeDiff, Nat.reduceEqDiff, Nat.reduceLT, Nat.reduceSub, Nat.reduceBEq, forall_const, reduceCtorEq, implies_true, exists_eq_left', exists_eq_left, if_true, if_false, undef]
  refine loop0 Nat [9, 7] (fun k => [I (k : Nat), I (eF rule set x k : Nat)]) (fun k => k ≤ 8) (fun k => 8 - k) (by decide) 0 (by simp) (by simp [Back, BackF, fzT, fzM, fzU, fz, fzL, fzO, kin, SubT, Sub, SubL, SubM, SubO, keepM, srcOk, look, lookM, ev, evs, putT, argT, EA, EB, EC, ED, EE, EF, EG, EH, XA, XB, XC, XD, XE, XF, XG, XH, XI, XJ, XK, XL, XM, reduceIte, ↓reduceIte, Nat.reduceAdd, Nat.reduceLeDiff, Nat.reduceEqDiff, Nat.reduceLT, Nat.reduceSub, Nat.reduceBEq, forall_const, reduceCtorEq, implies_true, exists_eq_left', exists_eq_left, if_true, if_false, undef, eF]) (fun k hk => ?_)
  by_cases c1 : k < 8
  rotate_left
  · have f1 : decide ((k : Int) < 8) = false := by simp; omega
    have : k = 8 := by omega
    subst this
    simp (maxSteps := 1000000) only [f1, endsN, EA, EB, EC, ED, EE, EF, EG, EH, XA, XB, XC, XD, XE, XF, XG, XH, XI, XJ, XK, XL, XM, reduceIte, ↓reduceIte, Nat.reduceAdd, Nat.reduceLeDiff, Nat.reduceEqDiff, Nat.reduceLT, Nat.reduceSub, Nat.reduceBEq, forall_const, reduceCtorEq, implies_true, exists_eq_left', exists_eq_left, if_true, if_false, undef]
  have f1 : decide ((k : Int) < 8) = true := by simp; omega
  have hst : eF rule set x (k + 1) = if (set.testBit (k / 2) && (rule.testBit k == x)) = true then eF rule set x k ||| 2 ^ (k % 4) else eF rule set x k := rfl
  have hlt := eF_lt rule set x k
  generalize eF rule set x k = E at hst hlt
  have hw : IntKind.i64.wrap ((k : Int) + 1) = ((k + 1 : Nat) : Int) := by rw [wrap_id] <;> omega
  have t : ∀ i : Nat, i < 8 → Int.tmod (i : Int) 4 = ((i % 4 : Nat) : Int) ∧ Int.tdiv (i : Int) 2 = ((i / 2 : Nat) : Int) := by decide
  obtain ⟨t1, t2⟩ := t k c1
  have wq : IntKind.i64.wrap ((k / 2 : Nat) : Int) = ((k / 2 : Nat) : Int) := by rw [wrap_id] <;> omega
  have hb : IntKind.i64.bits = 64 := rfl
  have s1 : Int.fdiv (set : Int) (2 ^ min (((k / 2 : Nat) : Int)).toNat IntKind.i64.bits) = ((set / 2 ^ (k / 2) : Nat) : Int) := by
    rw [hb, Int.toNat_natCast, Nat.min_eq_left (by omega), show (2 : Int) ^ (k / 2) = ((2 ^ (k / 2) : Nat) : Int) by simp, Int.fdiv_eq_ediv_of_nonneg _ (Int.natCast_nonneg _)]
    rfl
  have hle : set / 2 ^ (k / 2) ≤ set := Nat.div_le_self _ _
  have s2 := and_bit (w := set / 2 ^ (k / 2)) (i := 0) (by omega) (by omega)
  have s3 : (((set / 2 ^ (k / 2) &&& 2 ^ 0 : Nat) : Int) == 1) = set.testBit (k / 2) := by
    rw [show (2 : Nat) ^ 0 = 1 from rfl, Nat.and_one_is_mod, Nat.testBit_eq_decide_div_mod_eq]
    generalize set / 2 ^ (k / 2) = y
    rcases Nat.mod_two_eq_zero_or_one y with h | h <;> rw [h] <;> rfl
  rw [show ((2 ^ 0 : Nat) : Int) = 1 from rfl] at s2
  simp (maxSteps := 1000000) only [f1, t1, t2, wq, s1, s2, s3, EA, EB, EC, ED, EE, EF, EG, EH, XA, XB, XC, XD, XE, XF, XG, XH, XI, XJ, XK, XL, XM, reduceIte, ↓reduceIte, Nat.reduceAdd, Nat.reduceLeDiff, Nat.reduceEqDiff, Nat.reduceLT, Nat.reduceSub, Nat.reduceBEq, forall_const, reduceCtorEq, implies_true, exists_eq_left', exists_eq_left, if_true, if_false, undef]
  refine ⟨by decide, by omega, ?_⟩
  cases hb1 : set.testBit (k / 2)
  · rw [hb1, Bool.false_and, if_neg (by simp)] at hst
    simp (maxSteps := 1000000) only [hw, EA, EB, EC, ED, EE, EF, EG, EH, XA, XB, XC, XD, XE, XF, XG, XH, XI, XJ, XK, XL, XM, reduceIte, ↓reduceIte, Nat.reduceAdd, Nat.reduceLeDiff, Nat.reduceEqDiff, Nat.reduceLT, Nat.reduceSub, Nat.reduceBEq, forall_const, reduceCtorEq, implies_true, exists_eq_left', exists_eq_left, if_true, if_false, undef]
    exact ⟨k + 1, by omega, by omega, by simp [Back, BackF, fzT, fzM, fzU, fz, fzL, fzO, kin, SubT, Sub, SubL, SubM, SubO, keepM, srcOk, look, lookM, ev, evs, putT, argT, EA, EB, EC, ED, EE, EF, EG, EH, XA, XB, XC, XD, XE, XF, XG, XH, XI, XJ, XK, XL, XM, reduceIte, ↓reduceIte, Nat.reduceAdd, Nat.reduceLeDiff, Nat.reduceEqDiff, Nat.reduceLT, Nat.reduceSub, Nat.reduceBEq, forall_const, reduceCtorEq, implies_true, exists_eq_left', exists_eq_left, if_true, if_false, undef, hst]⟩
  simp (maxSteps := 1000000) only [hw, EA, EB, EC, ED, EE, EF, EG, EH, XA, XB, XC, XD, XE, XF, XG, XH, XI, XJ, XK, XL, XM, reduceIte, ↓reduceIte, Nat.reduceAdd, Nat.reduceLeDiff, Nat.reduceEqDiff, Nat.reduceLT, Nat.reduceSub, Nat.reduceBEq, forall_const, reduceCtorEq, implies_true, exists_eq_left', exists_eq_left, if_true, if_false, undef]
  refine callF (CallsA.args (becomes_spec rule k hr c1) (by simp [EA, EB, EC, ED, EE, EF, EG, EH, XA, XB, XC, XD, XE, XF, XG, XH, XI, XJ, XK, XL, XM, reduceIte, ↓reduceIte, Nat.reduceAdd, Nat.reduceLeDiff, Nat.reduceEqDiff, Nat.reduceLT, Nat.reduceSub, Nat.reduceBEq, forall_const, reduceCtorEq, implies_true, exists_eq_left', exists_eq_left, if_true, if_false, undef])) rfl (by simp [flat, EA, EB, EC, ED, EE, EF, EG, EH, XA, XB, XC, XD, XE, XF, XG, XH, XI, XJ, XK, XL, XM, reduceIte, ↓reduceIte, Nat.reduceAdd, Nat.reduceLeDiff, Nat.reduceEqDiff, Nat.reduceLT, Nat.reduceSub, Nat.reduceBEq, forall_const, reduceCtorEq, implies_true, exists_eq_left', exists_eq_left, if_true, if_false, undef]) ?_
  cases hx : (rule.testBit k == x)
  · rw [hx, Bool.and_false, if_neg (by simp)] at hst
    simp (maxSteps := 1000000) only [hx, hw, EA, EB, EC, ED, EE, EF, EG, EH, XA, XB, XC, XD, XE, XF, XG, XH, XI, XJ, XK, XL, XM, reduceIte, ↓reduceIte, Nat.reduceAdd, Nat.reduceLeDiff, Nat.reduceEqDiff, Nat.reduceLT, Nat.reduceSub, Nat.reduceBEq, forall_const, reduceCtorEq, implies_true, exists_eq_left', exists_eq_left, if_true, if_false, undef]
    exact ⟨k + 1, by omega, by omega, by simp [Back, BackF, fzT, fzM, fzU, fz, fzL, fzO, kin, SubT, Sub, SubL, SubM, SubO, keepM, srcOk, look, lookM, ev, evs, putT, argT, EA, EB, EC, ED, EE, EF, EG, EH, XA, XB, XC, XD, XE, XF, XG, XH, XI, XJ, XK, XL, XM, reduceIte, ↓reduceIte, Nat.reduceAdd, Nat.reduceLeDiff, Nat.reduceEqDiff, Nat.reduceLT, Nat.reduceSub, Nat.reduceBEq, forall_const, reduceCtorEq, implies_true, exists_eq_left', exists_eq_left, if_true, if_false, undef, hst]⟩
  rw [hb1, hx, Bool.and_true, if_pos rfl] at hst
  have u1 : IntKind.i64.wrap (1 * 2 ^ min (((k % 4 : Nat) : Int)).toNat IntKind.i64.bits) = ((2 ^ (k % 4) : Nat) : Int) := by
    have : ∀ i : Nat, i < 4 → IntKind.i64.wrap (1 * 2 ^ min ((i : Nat) : Int).toNat IntKind.i64.bits) = ((2 ^ i : Nat) : Int) := by decide
    exact this _ (Nat.mod_lt _ (by omega))
  have h4 : (2 : Nat) ^ (k % 4) < 2 ^ 4 := Nat.pow_lt_pow_right (by omega) (Nat.mod_lt _ (by omega))
  have u2 := or_bit (w := E) (p := 2 ^ (k % 4)) hlt h4
  simp (maxSteps := 1000000) only [hx, hw, t1, u1, u2, EA, EB, EC, ED, EE, EF, EG, EH, XA, XB, XC, XD, XE, XF, XG, XH, XI, XJ, XK, XL, XM, reduceIte, ↓reduceIte, Nat.reduceAdd, Nat.reduceLeDiff, Nat.reduceEqDiff, Nat.reduceLT, Nat.reduceSub, Nat.reduceBEq, forall_const, reduceCtorEq, implies_true, exists_eq_left', exists_eq_left, if_true, if_false, undef]
  exact ⟨by decide, by omega, k + 1, by omega, by omega, by simp [Back, BackF, fzT, fzM, fzU, fz, fzL, fzO, kin, SubT, Sub, SubL, SubM, SubO, keepM, srcOk, look, lookM, ev, evs, putT, argT, EA, EB, EC, ED, EE, EF, EG, EH, XA, XB, XC, XD, XE, XF, XG, XH, XI, XJ, XK, XL, XM, reduceIte, ↓reduceIte, Nat.reduceAdd, Nat.reduceLeDiff, Nat.reduceEqDiff, Nat.reduceLT, Nat.reduceSub, Nat.reduceBEq, forall_const, reduceCtorEq, implies_true, exists_eq_left', exists_eq_left, if_true, if_false, undef, hst]⟩

theorem CallsA.nilArr {P : Program} {f : FuncId} {args : List AV} (sz : Nat) (h : CallsA P f args (.v (.slice none 0 0)) []) : CallsA P f args (.arr 0 0 0) [.arr sz []] := by
  refine ⟨h.1, fun w S vals hS hL hR => (h.2 w S vals hS hL hR).mono ?_⟩
  rintro e w' ⟨v, S', κ', he, hr, hent, hs, ho, hb⟩
  have hv := hr.v_inv
  subst hv
  refine ⟨_, S', upd κ' 0 ⟨0, 0, 0, 0, 0, true, fun _ => none⟩, he, .arrNil (l := ⟨0, 0, 0, 0, 0, true, fun _ => none⟩) (by simp [upd]) rfl, ⟨?_, ?_, ?_, ?_, hent.sb⟩, hs, ?_, hb⟩
  · intro k o g
    obtain ⟨rfl, rfl⟩ := lookM_one g
    exact ⟨⟨0, 0, 0, 0, 0, true, fun _ => none⟩, by simp [upd], .inl ⟨rfl, rfl⟩⟩
  · intro k k' o o' l1 l2 b g1 g2 _ _ _ _
    rw [(lookM_one g1).1, (lookM_one g2).1]
  · intro k o l1 b g1 g2 g3
    obtain ⟨rfl, rfl⟩ := lookM_one g1
    simp only [upd, if_true, Option.some.injEq] at g2
    subst g2
    have := (Loc.has_one (fun _ => rfl) g3).1
    cases this
  · intro k hk1
    have hk0 : k ≠ 0 := by simp at hk1; omega
    exact ⟨by simp [memOf, memFrom, lookM, Ne.symm hk0], by simp [upd, hk0]; exact (hent.fresh k (by simp)).2⟩
  · intro k o l1 b g1 g2 g3
    obtain ⟨rfl, rfl⟩ := lookM_one g1
    simp only [upd, if_true, Option.some.injEq] at g2
    subst g2
    have := (Loc.has_one (fun _ => rfl) g3).1
    cases this

theorem cloneB_nil : CallsA Try.prog 33 [.v (.slice none 0 0)] (.v (.slice none 0 0)) [] := by
  refine fn_of0 comp33 (by simp) ?_
  unfold code33
  simp [EA, EB, EC, ED, EE, EF, EG, EH, XA, XB, XC, XD, XE, XF, XG, XH, XI, XJ, XK, XL, XM, reduceIte, ↓reduceIte, Nat.reduceAdd, Nat.reduceLeDiff, Nat.reduceEqDiff, Nat.reduceLT, Nat.reduceSub, Nat.reduceBEq, forall_const, reduceCtorEq, implies_true, exists_eq_left', exists_eq_left, if_true, if_false, undef]
theorem cloneB_spec (l : List Bool) (h0 : l ≠ []) (hl : l.length ≤ 4294967296) : CallsA Try.prog 33 [.ro 1 (l.map Bo)] (.arr 0 0 l.length) [.arr 1 (l.map Bo)] := by
  have hll : (l.map Bo).length = l.length := by simp
  refine fn_of comp33 (by simp) ?_
  unfold code33
  simp (maxSteps := 1000000) only [EA, EB, EC, ED, EE, EF, EG, EH, XA, XB, XC, XD, XE, XF, XG, XH, XI, XJ, XK, XL, XM, reduceIte, ↓reduceIte, Nat.reduceAdd, Nat.reduceLeDiff, Nat.reduceEqDiff, Nat.reduceLT, Nat.reduceSub, Nat.reduceBEq, forall_const, reduceCtorEq, implies_true, exists_eq_left', exists_eq_left, if_true, if_false, undef]
  refine NilVC.ro (by simpa using h0) ?_
  simp (maxSteps := 1000000) only [bne_self_eq_false, hll, EA, EB, EC, ED, EE, EF, EG, EH, XA, XB, XC, XD, XE, XF, XG, XH, XI, XJ, XK, XL, XM, reduceIte, ↓reduceIte, Nat.reduceAdd, Nat.reduceLeDiff, Nat.reduceEqDiff, Nat.reduceLT, Nat.reduceSub, Nat.reduceBEq, forall_const, reduceCtorEq, implies_true, exists_eq_left', exists_eq_left, if_true, if_false, undef]
  refine ⟨hl, [5], by simp [EA, EB, EC, ED, EE, EF, EG, EH, XA, XB, XC, XD, XE, XF, XG, XH, XI, XJ, XK, XL, XM, reduceIte, ↓reduceIte, Nat.reduceAdd, Nat.reduceLeDiff, Nat.reduceEqDiff, Nat.reduceLT, Nat.reduceSub, Nat.reduceBEq, forall_const, reduceCtorEq, implies_true, exists_eq_left', exists_eq_left, if_true, if_false, undef], rfl, by simp, fun i k o h1 h2 => ?_⟩
  cases i with
  | zero => simp at h1 h2; subst h1 h2; simp
  | succ i => simp at h1

def encW (w : List Bool) : AV := match w with
  | [] => .v (.slice none 0 0)
  | w => .ro 1 (w.map Bo)
theorem cloneU_spec (w : List Bool) (hl : w.length ≤ 4294967296) : CallsA Try.prog 33 [encW w] (.arr 0 0 w.length) [.arr 1 (w.map Bo)] := by
  cases w with
  | nil => exact CallsA.nilArr 1 cloneB_nil
  | cons x w => exact cloneB_spec (x :: w) (by simp) hl

/-- a word that waits, and its set -/
abbrev Wt : Type := Nat × List Bool
def encQ (p : Wt) : AV := .agg [I (p.1 : Nat), encW p.2]

/-- one cell more: a word that has none ahead, or what is visited and waits then -/
def wStep (rule : Nat) (now : Wt) (x : Bool) (vis : List Bool) (q : List Wt) : List Bool ⊕ (List Bool × List Wt) :=
  let s := endsN rule now.1 x
  if s = 0 then .inl (now.2 ++ [x]) else if vis.getD s false = true then .inr (vis, q) else .inr (vis.set s true, q ++ [(s, now.2 ++ [x])])
def wRun (rule : Nat) : Nat → List Bool → List Wt → Option (Option (List Bool))
  | 0, _, _ => none
  | _ + 1, _, [] => some none
  | f + 1, vis, now :: q => match wStep rule now false vis q with
    | .inl w => some (some w)
    | .inr (vis, q) => match wStep rule now true vis q with
      | .inl w => some (some w)
      | .inr (vis, q) => wRun rule f vis q
def vis0 : List Bool := List.replicate 15 false ++ [true]
def wAns : Option (List Bool) → AV
  | some w => .tup [.ro 1 (w.map Bo), Bo true]
  | none => .tup [.v (.slice none 0 0), Bo false]

def wCont (rule f : Nat) (now : Wt) (k : Nat) (vis : List Bool) (q : List Wt) : Option (Option (List Bool)) :=
  if k = 0 then match wStep rule now false vis q with
    | .inl w => some (some w)
    | .inr p => match wStep rule now true p.1 p.2 with
      | .inl w => some (some w)
      | .inr p => wRun rule f p.1 p.2
  else if k = 1 then match wStep rule now true vis q with
    | .inl w => some (some w)
    | .inr p => wRun rule f p.1 p.2
  else wRun rule f vis q
theorem wCont_step {rule f : Nat} {now : Wt} {k : Nat} (hk : k < 2) (vis : List Bool) (q : List Wt) : wCont rule f now k vis q = match wStep rule now (k == 1) vis q with
    | .inl w => some (some w)
    | .inr p => wCont rule f now (k + 1) p.1 p.2 := by
  match k, hk with
  | 0, _ => rfl
  | 1, _ => rfl
theorem wRun_cont (rule f : Nat) (now : Wt) (vis : List Bool) (q : List Wt) : wRun rule (f + 1) vis (now :: q) = wCont rule f now 0 vis q := by
  simp only [wRun, wCont, if_pos]
  rcases wStep rule now false vis q with w | ⟨vis, q⟩
  · rfl
  · simp only
    rcases wStep rule now true vis q with w | ⟨vis, q⟩ <;> rfl
theorem encW_snoc (w : List Bool) (x : Bool) : encW (w ++ [x]) = .ro 1 ((w ++ [x]).map Bo) := by cases w <;> rfl

theorem Sub_encW (n : Nat) (rho : List (Option Nat)) (w : List Bool) : Sub n rho (encW w) (encW w) := by cases w <;> simp [encW, Sub]
theorem SubL_encQ (n : Nat) (rho : List (Option Nat)) (l : List Wt) : SubL n rho (l.map encQ) (l.map encQ) := by
  induction l with
  | nil => simp [SubL]
  | cons a l ih => simp only [List.map_cons, SubL, encQ, Sub]; exact ⟨⟨by simp [I], Sub_encW _ _ _, trivial⟩, ih⟩
theorem SubL_Bo (n : Nat) (rho : List (Option Nat)) (l : List Bool) : SubL n rho (l.map Bo) (l.map Bo) := by
  induction l with
  | nil => simp [SubL]
  | cons a l ih => simp only [List.map_cons, SubL, Sub, Bo]; exact ⟨trivial, ih⟩
theorem frz_encW (rho : List Nat) (m : Mem) (w : List Bool) : frz rho m (encW w) = encW w := by cases w <;> rfl
theorem kys_encW (w : List Bool) : kys (encW w) = [] := by cases w <;> simp [encW, kys]
theorem Wk_encW (w : List Bool) : Wk (encW w) (encW w) := by cases w <;> simp [encW, Wk]
theorem fz_encW (ks : List Nat) (m : Mem) (w : List Bool) : fz ks m (encW w) = encW w := by cases w <;> simp [encW, fz]
theorem fzL_Bo (ks : List Nat) (m : Mem) (l : List Bool) : fzL ks m (l.map Bo) = l.map Bo := by
  induction l with
  | nil => simp [fzL]
  | cons a l ih => simp [fzL, ih, fz, Bo]
theorem keysIn_encW (w : List Bool) : keysIn (encW w) = [] := by cases w <;> simp [encW, keysIn]
theorem encW_cell (w : List Bool) : (encW w).isCell = true := by cases w <;> rfl

theorem findOrphan_spec (rule : Nat) (hr : rule < 256) (R : Option (List Bool)) (hR : wRun rule 17 vis0 [(15, [])] = some R) : CallsA Try.prog 28 [I rule] (wAns R) [] := by
  refine fn_of0 comp28 (by simp) ?_
  unfold code28
  simp (maxSteps := 1000000) only [EA, EB, EC, ED, EE, EF, EG, EH, XA, XB, XC, XD, XE, XF, XG, XH, XI, XJ, XK, XL, XM, reduceIte, ↓reduceIte, Nat.reduceAdd, Nat.reduceLeDiff, Nat.reduceEqDiff, Nat.reduceLT, Nat.reduceSub, Nat.reduceBEq, forall_const, reduceCtorEq, implies_true, exists_eq_left', exists_eq_left, if_true, if_false, undef]
  refine ⟨by decide, by decide, by decide, ?_⟩
  refine loopR (Nat × List Bool × List Wt × List Wt) [5] (fun s => [.arr 8 s.2.2.1.length s.2.2.2.length]) (fun s => [(8, some (.arr 2 ((s.2.2.1 ++ s.2.2.2).map encQ))), (6, none), (2, some (.box (s.2.1.map Bo)))]) 1
    (fun s => wRun rule s.1 s.2.1 s.2.2.2 = some R ∧ s.2.1.length = 16 ∧ s.2.2.2.length + 2 * s.1 ≤ 40 ∧ ∀ p ∈ s.2.2.2, p.1 < 16 ∧ p.2.length + s.1 ≤ 17) (fun s => s.1) (by decide) (17, vis0, [], [(15, [])]) [some 6] rfl ⟨hR, rfl, by simp, by simp⟩
    (by simp [Back, BackF, fzT, fzM, fzU, fz, fzL, fzO, kin, SubT, Sub, SubL, SubM, SubO, keepM, srcOk, look, lookM, ev, evs, putT, argT, EA, EB, EC, ED, EE, EF, EG, EH, XA, XB, XC, XD, XE, XF, XG, XH, XI, XJ, XK, XL, XM, reduceIte, ↓reduceIte, Nat.reduceAdd, Nat.reduceLeDiff, Nat.reduceEqDiff, Nat.reduceLT, Nat.reduceSub, Nat.reduceBEq, forall_const, reduceCtorEq, implies_true, exists_eq_left', exists_eq_left, if_true, if_false, undef, encQ, encW, splice, vis0, Bo, I]) ?_
  rintro ⟨f, vis, pre, q⟩ ⟨hrun, hv, hql, hq⟩
  simp only at hrun hv hql hq
  cases f with
  | zero => simp [wRun] at hrun
  | succ f =>
  cases q with
  | nil =>
    simp only [wRun, Option.some.injEq] at hrun
    subst hrun
    have f1 : decide (((0 : Nat) : Int) > 0) = false := by decide
    simp (maxSteps := 1000000) only [List.length_nil, f1, wAns, Bo, EA, EB, EC, ED, EE, EF, EG, EH, XA, XB, XC, XD, XE, XF, XG, XH, XI, XJ, XK, XL, XM, reduceIte, ↓reduceIte, Nat.reduceAdd, Nat.reduceLeDiff, Nat.reduceEqDiff, Nat.reduceLT, Nat.reduceSub, Nat.reduceBEq, forall_const, reduceCtorEq, implies_true, exists_eq_left', exists_eq_left, if_true, if_false, undef]
  | cons now q =>
  have f1 : decide (((q.length + 1 : Nat) : Int) > 0) = true := by rw [decide_eq_true_iff]; omega
  simp (maxSteps := 1000000) only [List.length_cons, f1, EA, EB, EC, ED, EE, EF, EG, EH, XA, XB, XC, XD, XE, XF, XG, XH, XI, XJ, XK, XL, XM, reduceIte, ↓reduceIte, Nat.reduceAdd, Nat.reduceLeDiff, Nat.reduceEqDiff, Nat.reduceLT, Nat.reduceSub, Nat.reduceBEq, forall_const, reduceCtorEq, implies_true, exists_eq_left', exists_eq_left, if_true, if_false, undef]
  have hnow := hq now (by simp)
  obtain ⟨set, word⟩ := now
  simp only at hnow
  refine ⟨by omega, by omega, encQ (set, word), by simp, ?_⟩
  have d1 : (encQ (set, word)).cells = [I set, encW word] := rfl
  simp (maxSteps := 1000000) only [d1, EA, EB, EC, ED, EE, EF, EG, EH, XA, XB, XC, XD, XE, XF, XG, XH, XI, XJ, XK, XL, XM, reduceIte, ↓reduceIte, Nat.reduceAdd, Nat.reduceLeDiff, Nat.reduceEqDiff, Nat.reduceLT, Nat.reduceSub, Nat.reduceBEq, forall_const, reduceCtorEq, implies_true, exists_eq_left', exists_eq_left, if_true, if_false, undef]
  refine ⟨encW_cell word, by omega, by omega, by omega, ?_⟩
  have hc0 : wCont rule f (set, word) 0 vis q = some R := by rw [← hrun, wRun_cont]
  refine loopR (Nat × List Bool × List Wt × List Wt) [23, 5] (fun s => [I (s.1 : Nat), .arr 22 s.2.2.1.length s.2.2.2.length]) (fun s => [(22, some (.arr 2 ((s.2.2.1 ++ s.2.2.2).map encQ))), (8, none), (2, some (.box (s.2.1.map Bo)))]) 1
    (fun s => s.1 ≤ 2 ∧ wCont rule f (set, word) s.1 s.2.1 s.2.2.2 = some R ∧ s.2.1.length = 16 ∧ s.2.2.2.length + (2 - s.1) + 2 * f ≤ 40 ∧ ∀ p ∈ s.2.2.2, p.1 < 16 ∧ p.2.length + f ≤ 17) (fun s => 2 - s.1) (by decide) (0, vis, pre ++ [(set, word)], q) [some 8] rfl
    ⟨by simp, hc0, hv, by simp only [List.length_cons] at hql ⊢; omega, fun p hp => by have := hq p (by simp [hp]); omega⟩ ?_ ?_
  · simp [Back, BackF, fzT, fzM, fzU, fz, fzL, fzO, kin, SubT, Sub, SubL, SubM, SubO, keepM, srcOk, look, lookM, ev, evs, putT, argT, EA, EB, EC, ED, EE, EF, EG, EH, XA, XB, XC, XD, XE, XF, XG, XH, XI, XJ, XK, XL, XM, reduceIte, ↓reduceIte, Nat.reduceAdd, Nat.reduceLeDiff, Nat.reduceEqDiff, Nat.reduceLT, Nat.reduceSub, Nat.reduceBEq, forall_const, reduceCtorEq, implies_true, exists_eq_left', exists_eq_left, if_true, if_false, undef, SubL_encQ, SubL_Bo]
  rintro ⟨k, vis, pre, q⟩ ⟨hk2, hrun, hv, hql, hq⟩
  simp only at hk2 hrun hv hql hq
  by_cases c1 : k < 2
  rotate_left
  · have f1 : decide ((k : Int) < 2) = false := by simp; omega
    have : k = 2 := by omega
    subst this
    simp (maxSteps := 1000000) only [f1, EA, EB, EC, ED, EE, EF, EG, EH, XA, XB, XC, XD, XE, XF, XG, XH, XI, XJ, XK, XL, XM, reduceIte, ↓reduceIte, Nat.reduceAdd, Nat.reduceLeDiff, Nat.reduceEqDiff, Nat.reduceLT, Nat.reduceSub, Nat.reduceBEq, forall_const, reduceCtorEq, implies_true, exists_eq_left', exists_eq_left, if_true, if_false, undef]
    exact ⟨(f, vis, pre, q), [some 22], rfl, ⟨hrun, hv, by simp only; omega, hq⟩, by simp, by simp [Back, BackF, fzT, fzM, fzU, fz, fzL, fzO, kin, SubT, Sub, SubL, SubM, SubO, keepM, srcOk, look, lookM, ev, evs, putT, argT, EA, EB, EC, ED, EE, EF, EG, EH, XA, XB, XC, XD, XE, XF, XG, XH, XI, XJ, XK, XL, XM, reduceIte, ↓reduceIte, Nat.reduceAdd, Nat.reduceLeDiff, Nat.reduceEqDiff, Nat.reduceLT, Nat.reduceSub, Nat.reduceBEq, forall_const, reduceCtorEq, implies_true, exists_eq_left', exists_eq_left, if_true, if_false, undef, SubL_encQ, SubL_Bo]⟩
  have f1 : decide ((k : Int) < 2) = true := by simp; omega
  have hw : IntKind.i64.wrap ((k : Int) + 1) = ((k + 1 : Nat) : Int) := by rw [wrap_id] <;> omega
  rw [wCont_step c1] at hrun
  simp (maxSteps := 1000000) only [f1, EA, EB, EC, ED, EE, EF, EG, EH, XA, XB, XC, XD, XE, XF, XG, XH, XI, XJ, XK, XL, XM, reduceIte, ↓reduceIte, Nat.reduceAdd, Nat.reduceLeDiff, Nat.reduceEqDiff, Nat.reduceLT, Nat.reduceSub, Nat.reduceBEq, forall_const, reduceCtorEq, implies_true, exists_eq_left', exists_eq_left, if_true, if_false, undef]
  refine ⟨by omega, by omega, Bo (k == 1), by match k, c1 with | 0, _ => rfl | 1, _ => rfl, ?_⟩
  generalize (k == 1) = x at hrun
  simp (maxSteps := 1000000) only [EA, EB, EC, ED, EE, EF, EG, EH, XA, XB, XC, XD, XE, XF, XG, XH, XI, XJ, XK, XL, XM, reduceIte, ↓reduceIte, Nat.reduceAdd, Nat.reduceLeDiff, Nat.reduceEqDiff, Nat.reduceLT, Nat.reduceSub, Nat.reduceBEq, forall_const, reduceCtorEq, implies_true, exists_eq_left', exists_eq_left, if_true, if_false, undef]
  refine callF (CallsA.args (ends_spec rule set hr hnow.1 x) (by simp [EA, EB, EC, ED, EE, EF, EG, EH, XA, XB, XC, XD, XE, XF, XG, XH, XI, XJ, XK, XL, XM, reduceIte, ↓reduceIte, Nat.reduceAdd, Nat.reduceLeDiff, Nat.reduceEqDiff, Nat.reduceLT, Nat.reduceSub, Nat.reduceBEq, forall_const, reduceCtorEq, implies_true, exists_eq_left', exists_eq_left, if_true, if_false, undef])) rfl (by simp [flat, EA, EB, EC, ED, EE, EF, EG, EH, XA, XB, XC, XD, XE, XF, XG, XH, XI, XJ, XK, XL, XM, reduceIte, ↓reduceIte, Nat.reduceAdd, Nat.reduceLeDiff, Nat.reduceEqDiff, Nat.reduceLT, Nat.reduceSub, Nat.reduceBEq, forall_const, reduceCtorEq, implies_true, exists_eq_left', exists_eq_left, if_true, if_false, undef]) ?_
  simp (maxSteps := 1000000) only [EA, EB, EC, ED, EE, EF, EG, EH, XA, XB, XC, XD, XE, XF, XG, XH, XI, XJ, XK, XL, XM, reduceIte, ↓reduceIte, Nat.reduceAdd, Nat.reduceLeDiff, Nat.reduceEqDiff, Nat.reduceLT, Nat.reduceSub, Nat.reduceBEq, forall_const, reduceCtorEq, implies_true, exists_eq_left', exists_eq_left, if_true, if_false, undef]
  refine callA (CallsA.args (cloneU_spec word (by omega) ) (by simp [ frz_encW, Wk_encW,EA, EB, EC, ED, EE, EF, EG, EH, XA, XB, XC, XD, XE, XF, XG, XH, XI, XJ, XK, XL, XM, reduceIte, ↓reduceIte, Nat.reduceAdd, Nat.reduceLeDiff, Nat.reduceEqDiff, Nat.reduceLT, Nat.reduceSub, Nat.reduceBEq, forall_const, reduceCtorEq, implies_true, exists_eq_left', exists_eq_left, if_true, if_false, undef])) rfl ?_
  have hwl : word.length = (word.map Bo).length := by simp
  have hes := eF_lt rule set x 8
  cases hs0 : ((endsN rule set x : Int) == 0) with
  | true =>
    have h0 : endsN rule set x = 0 := by simpa using hs0
    have hws : wStep rule (set, word) x vis q = .inl (word ++ [x]) := by simp [wStep, h0]
    rw [hws] at hrun
    simp only [Option.some.injEq] at hrun
    subst hrun
    have htk : List.take (word.length + 1) (word.map Bo ++ [Bo x]) = (word ++ [x]).map Bo := by rw [List.take_of_length_le (by simp)]; simp
    simp (maxSteps := 1000000) only [hs0, kys_encW, kills, wAns, htk, EA, EB, EC, ED, EE, EF, EG, EH, XA, XB, XC, XD, XE, XF, XG, XH, XI, XJ, XK, XL, XM, reduceIte, ↓reduceIte, Nat.reduceAdd, Nat.reduceLeDiff, Nat.reduceEqDiff, Nat.reduceLT, Nat.reduceSub, Nat.reduceBEq, forall_const, reduceCtorEq, implies_true, exists_eq_left', exists_eq_left, if_true, if_false, undef]
    exact ⟨hwl, by omega⟩
  | false =>
  have h0 : endsN rule set x ≠ 0 := by simpa using hs0
  simp (maxSteps := 1000000) only [hs0, kys_encW, kills, EA, EB, EC, ED, EE, EF, EG, EH, XA, XB, XC, XD, XE, XF, XG, XH, XI, XJ, XK, XL, XM, reduceIte, ↓reduceIte, Nat.reduceAdd, Nat.reduceLeDiff, Nat.reduceEqDiff, Nat.reduceLT, Nat.reduceSub, Nat.reduceBEq, forall_const, reduceCtorEq, implies_true, exists_eq_left', exists_eq_left, if_true, if_false, undef]
  have hlt : endsN rule set x < vis.length := by rw [hv]; exact hes
  have hvg : (vis.map Bo)[(endsN rule set x : Int).toNat * 1]? = some (Bo (vis.getD (endsN rule set x) false)) := by
    rw [Int.toNat_natCast, Nat.mul_one, List.getElem?_map, List.getD_eq_getElem?_getD, List.getElem?_eq_getElem hlt]; rfl
  refine ⟨hwl, by omega, by omega, by rw [hv] at hlt; omega, _, hvg, ?_⟩
  cases hvs : vis.getD (endsN rule set x) false with
  | true =>
    have hws : wStep rule (set, word) x vis q = .inr (vis, q) := by simp only [wStep]; rw [if_neg h0, if_pos hvs]
    rw [hws] at hrun
    simp (maxSteps := 1000000) only [hw, EA, EB, EC, ED, EE, EF, EG, EH, XA, XB, XC, XD, XE, XF, XG, XH, XI, XJ, XK, XL, XM, reduceIte, ↓reduceIte, Nat.reduceAdd, Nat.reduceLeDiff, Nat.reduceEqDiff, Nat.reduceLT, Nat.reduceSub, Nat.reduceBEq, forall_const, reduceCtorEq, implies_true, exists_eq_left', exists_eq_left, if_true, if_false, undef]
    exact ⟨(k + 1, vis, pre, q), [some 22], rfl, ⟨by simp only; omega, hrun, hv, by simp only; omega, hq⟩, by simp only; omega, by simp [Back, BackF, fzT, fzM, fzU, fz, fzL, fzO, kin, SubT, Sub, SubL, SubM, SubO, keepM, srcOk, look, lookM, ev, evs, putT, argT, EA, EB, EC, ED, EE, EF, EG, EH, XA, XB, XC, XD, XE, XF, XG, XH, XI, XJ, XK, XL, XM, reduceIte, ↓reduceIte, Nat.reduceAdd, Nat.reduceLeDiff, Nat.reduceEqDiff, Nat.reduceLT, Nat.reduceSub, Nat.reduceBEq, forall_const, reduceCtorEq, implies_true, exists_eq_left', exists_eq_left, if_true, if_false, undef, SubL_encQ, SubL_Bo]⟩
  | false =>
  have hws : wStep rule (set, word) x vis q = .inr (vis.set (endsN rule set x) true, q ++ [(endsN rule set x, word ++ [x])]) := by simp only [wStep]; rw [if_neg h0, if_neg (by rw [hvs]; simp)]
  rw [hws] at hrun
  simp (maxSteps := 1000000) only [EA, EB, EC, ED, EE, EF, EG, EH, XA, XB, XC, XD, XE, XF, XG, XH, XI, XJ, XK, XL, XM, reduceIte, ↓reduceIte, Nat.reduceAdd, Nat.reduceLeDiff, Nat.reduceEqDiff, Nat.reduceLT, Nat.reduceSub, Nat.reduceBEq, forall_const, reduceCtorEq, implies_true, exists_eq_left', exists_eq_left, if_true, if_false, undef]
  refine ⟨by omega, by rw [hv] at hlt; omega, by simp [hv]; rw [hv] at hlt; omega, ?_⟩
  refine FzVC.mk [38] (by simp [fzKeep, kno, keysIn, keysInL, kin, keysIn_encW, I, Bo]) ?_
  have hvset : (vis.set (endsN rule set x) true).map Bo = splice (vis.map Bo) ((endsN rule set x : Int).toNat * 1) [.v (.bool true)] := by
    rw [splice_set, Int.toNat_natCast, Nat.mul_one, List.map_set]
  simp (maxSteps := 1000000) only [fzT, fzM, fzU, fz, fzL, fzO, kin, fz_encW, fzL_Bo, ← hvset, EA, EB, EC, ED, EE, EF, EG, EH, XA, XB, XC, XD, XE, XF, XG, XH, XI, XJ, XK, XL, XM, reduceIte, ↓reduceIte, Nat.reduceAdd, Nat.reduceLeDiff, Nat.reduceEqDiff, Nat.reduceLT, Nat.reduceSub, Nat.reduceBEq, forall_const, reduceCtorEq, implies_true, exists_eq_left', exists_eq_left, if_true, if_false, undef]
  have htk : List.take (word.length + 1) (word.map Bo ++ [Bo x]) = (word ++ [x]).map Bo := by rw [List.take_of_length_le (by simp)]; simp
  have hdr : List.drop pre.length ((pre ++ q).map encQ) = q.map encQ := by rw [List.map_append, List.drop_append_of_le_length (by simp), List.drop_of_length_le (by simp)]; simp
  have hen : .agg [I (endsN rule set x : Nat), .ro 1 ((word ++ [x]).map Bo)] = encQ (endsN rule set x, word ++ [x]) := by rw [encQ, encW_snoc]
  have hqa : q.map encQ ++ [encQ (endsN rule set x, word ++ [x])] = (q ++ [(endsN rule set x, word ++ [x])]).map encQ := by simp
  simp only [htk, hdr, hen, hqa, hw]
  refine ⟨by simp, by omega, (k + 1, vis.set (endsN rule set x) true, [], q ++ [(endsN rule set x, word ++ [x])]), [some 54], rfl, ⟨by simp only; omega, hrun, by simp [hv], by simp; omega, fun p hp => ?_⟩, by simp only; omega, ?_⟩
  · rcases List.mem_append.1 hp with hp | hp
    · exact hq p hp
    · simp only [List.mem_singleton] at hp
      subst hp
      exact ⟨hes, by simp; omega⟩
  · generalize vis.set (endsN rule set x) true = V
    simp [Back, BackF, fzT, fzM, fzU, fz, fzL, fzO, kin, SubT, Sub, SubL, SubM, SubO, keepM, srcOk, look, lookM, ev, evs, putT, argT, EA, EB, EC, ED, EE, EF, EG, EH, XA, XB, XC, XD, XE, XF, XG, XH, XI, XJ, XK, XL, XM, reduceIte, ↓reduceIte, Nat.reduceAdd, Nat.reduceLeDiff, Nat.reduceEqDiff, Nat.reduceLT, Nat.reduceSub, Nat.reduceBEq, forall_const, reduceCtorEq, implies_true, exists_eq_left', exists_eq_left, if_true, if_false, undef, SubL_encQ, SubL_Bo]

end Go.Av
