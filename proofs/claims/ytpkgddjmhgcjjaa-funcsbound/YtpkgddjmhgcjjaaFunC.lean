/- Functions: what the program checks. -/
import Derived.Test.YtpkgddjmhgcjjaaHas
import Derived.Test.YtpkgddjmhgcjjaaLend
set_option linter.unusedSimpArgs false
set_option linter.unusedVariables false
set_option maxRecDepth 100000
namespace Go.Av
open Go.Proofs

/-- a function of a list -/
structure Fn where
  kind : Int
  args : Int
  pick : Int
  a : Int
  b : Int
  into : List Int
def encF (f : Fn) : AV := .agg [I f.kind, I f.args, I f.pick, I f.a, I f.b, .ro 1 (f.into.map I)]
def encU (u : Int × Int) : AV := .agg [I u.1, I u.2]
theorem encF_def (f : Fn) : encF f = .agg [I f.kind, I f.args, I f.pick, I f.a, I f.b, .ro 1 (f.into.map I)] := rfl

def lgB (f : Fn) : Bool := (decide (f.args < 0) || decide (f.args > 4)) || (bif f.kind == 2 then f.args != 1 else bif f.kind == 5 then decide (f.args < 1) else bif f.kind == 4 then decide (4 < f.into.length) else false)
theorem isLarge_spec (f : Fn) : CallsA Try.prog 26 [encF f] (Bo (lgB f)) [] := by
  refine fn_of0 comp26 (by simp) ?_
  unfold code26
  have hll : ((f.into.map I).length : Int) = f.into.length := by simp
  unfold lgB
  cases h1 : decide (f.args < 0)
  rotate_left
  · simp (maxSteps := 1000000) only [h1, Bool.true_or, Bo, encF, encU, EA, EB, EC, ED, EE, EF, EG, EH, XA, XB, XC, XD, XE, XF, XG, XH, XI, XJ, XK, XL, XM, reduceIte, ↓reduceIte, Nat.reduceAdd, Nat.reduceLeDiff, Nat.reduceEqDiff, Nat.reduceLT, Nat.reduceSub, Nat.reduceBEq, forall_const, reduceCtorEq, implies_true, exists_eq_left', exists_eq_left, if_true, if_false, undef]
  cases h2 : decide (f.args > 4)
  rotate_left
  · simp (maxSteps := 1000000) only [h1, h2, Bool.true_or, Bool.or_true, Bo, encF, encU, EA, EB, EC, ED, EE, EF, EG, EH, XA, XB, XC, XD, XE, XF, XG, XH, XI, XJ, XK, XL, XM, reduceIte, ↓reduceIte, Nat.reduceAdd, Nat.reduceLeDiff, Nat.reduceEqDiff, Nat.reduceLT, Nat.reduceSub, Nat.reduceBEq, forall_const, reduceCtorEq, implies_true, exists_eq_left', exists_eq_left, if_true, if_false, undef]
  cases h3 : (f.kind == 2)
  rotate_left
  · simp (maxSteps := 1000000) only [h1, h2, h3, Bool.false_or, cond_true, Bo, encF, encU, EA, EB, EC, ED, EE, EF, EG, EH, XA, XB, XC, XD, XE, XF, XG, XH, XI, XJ, XK, XL, XM, reduceIte, ↓reduceIte, Nat.reduceAdd, Nat.reduceLeDiff, Nat.reduceEqDiff, Nat.reduceLT, Nat.reduceSub, Nat.reduceBEq, forall_const, reduceCtorEq, implies_true, exists_eq_left', exists_eq_left, if_true, if_false, undef]
  cases h4 : (f.kind == 5)
  rotate_left
  · simp (maxSteps := 1000000) only [h1, h2, h3, h4, Bool.false_or, cond_true, cond_false, Bo, encF, encU, EA, EB, EC, ED, EE, EF, EG, EH, XA, XB, XC, XD, XE, XF, XG, XH, XI, XJ, XK, XL, XM, reduceIte, ↓reduceIte, Nat.reduceAdd, Nat.reduceLeDiff, Nat.reduceEqDiff, Nat.reduceLT, Nat.reduceSub, Nat.reduceBEq, forall_const, reduceCtorEq, implies_true, exists_eq_left', exists_eq_left, if_true, if_false, undef]
  cases h5 : (f.kind == 4)
  rotate_left
  · have e : decide ((f.into.length : Int) > 4) = decide (4 < f.into.length) := by rw [decide_eq_decide]; omega
    simp (maxSteps := 1000000) only [h1, h2, h3, h4, h5, hll, e, Bool.false_or, cond_true, cond_false, Bo, encF, encU, EA, EB, EC, ED, EE, EF, EG, EH, XA, XB, XC, XD, XE, XF, XG, XH, XI, XJ, XK, XL, XM, reduceIte, ↓reduceIte, Nat.reduceAdd, Nat.reduceLeDiff, Nat.reduceEqDiff, Nat.reduceLT, Nat.reduceSub, Nat.reduceBEq, forall_const, reduceCtorEq, implies_true, exists_eq_left', exists_eq_left, if_true, if_false, undef]
  simp (maxSteps := 1000000) only [h1, h2, h3, h4, h5, Bool.false_or, cond_true, cond_false, Bo, encF, encU, EA, EB, EC, ED, EE, EF, EG, EH, XA, XB, XC, XD, XE, XF, XG, XH, XI, XJ, XK, XL, XM, reduceIte, ↓reduceIte, Nat.reduceAdd, Nat.reduceLeDiff, Nat.reduceEqDiff, Nat.reduceLT, Nat.reduceSub, Nat.reduceBEq, forall_const, reduceCtorEq, implies_true, exists_eq_left', exists_eq_left, if_true, if_false, undef]

def usL (f : Fn) : List (Int × Int) := if f.kind = 4 then (f.a, (f.into.length : Int)) :: f.into.map (fun j => (j, f.args)) else if f.kind = 5 then [(f.a, f.args - 1), (f.b, f.args + 1)] else []
theorem uses_spec (f : Fn) (ha : 0 ≤ f.args ∧ f.args ≤ 4) (hi : f.kind = 4 → f.into.length ≤ 4) : CallsA Try.prog 22 [encF f] (.ro 2 ((usL f).map encU)) [] := by
  refine fn_of0 comp22 (by simp) ?_
  unfold code22
  have hll : ((f.into.map I).length : Int) = f.into.length := by simp
  by_cases h4 : f.kind = 4
  · have g4 : (f.kind == 4) = true := by simpa using h4
    have hi := hi h4
    have hu : usL f = (f.a, (f.into.length : Int)) :: f.into.map (fun j => (j, f.args)) := by rw [usL, if_pos h4]
    simp (maxSteps := 1000000) only [g4, hll, encF, encU, EA, EB, EC, ED, EE, EF, EG, EH, XA, XB, XC, XD, XE, XF, XG, XH, XI, XJ, XK, XL, XM, reduceIte, ↓reduceIte, Nat.reduceAdd, Nat.reduceLeDiff, Nat.reduceEqDiff, Nat.reduceLT, Nat.reduceSub, Nat.reduceBEq, forall_const, reduceCtorEq, implies_true, exists_eq_left', exists_eq_left, if_true, if_false, undef]
    have hl1 : (usL f).length = f.into.length + 1 := by simp [hu]
    have h0 : (usL f).take 1 = [(f.a, (f.into.length : Int))] := by rw [hu]; rfl
    refine loopR Nat [20, 3] (fun k => [I (k : Nat), .arr 18 0 (k + 1)]) (fun k => [(18, some (.arr 2 (((usL f).take (k + 1)).map encU))), (12, none)]) 1 (fun k => k ≤ f.into.length) (fun k => f.into.length - k) (by decide) 0 [some 12] rfl (by simp)
      (by simp [Back, BackF, fzT, fzM, fzU, fz, fzL, fzO, kin, SubT, Sub, SubL, SubM, SubO, keepM, srcOk, look, lookM, ev, evs, putT, argT, encF, encU, EA, EB, EC, ED, EE, EF, EG, EH, XA, XB, XC, XD, XE, XF, XG, XH, XI, XJ, XK, XL, XM, reduceIte, ↓reduceIte, Nat.reduceAdd, Nat.reduceLeDiff, Nat.reduceEqDiff, Nat.reduceLT, Nat.reduceSub, Nat.reduceBEq, forall_const, reduceCtorEq, implies_true, exists_eq_left', exists_eq_left, if_true, if_false, undef, h0, splice, AV.cells]) (fun k hk => ?_)
    by_cases c1 : k < f.into.length
    rotate_left
    · have f1 : decide ((k : Int) < (f.into.length : Int)) = false := by simp [c1]
      have : k = f.into.length := by omega
      subst this
      simp (maxSteps := 1000000) only [hll, f1, encF, encU, EA, EB, EC, ED, EE, EF, EG, EH, XA, XB, XC, XD, XE, XF, XG, XH, XI, XJ, XK, XL, XM, reduceIte, ↓reduceIte, Nat.reduceAdd, Nat.reduceLeDiff, Nat.reduceEqDiff, Nat.reduceLT, Nat.reduceSub, Nat.reduceBEq, forall_const, reduceCtorEq, implies_true, exists_eq_left', exists_eq_left, if_true, if_false, undef]
      rw [List.take_of_length_le (by simp; omega), List.take_of_length_le (by omega)]
    have f1 : decide ((k : Int) < (f.into.length : Int)) = true := by simp [c1]
    have hw : IntKind.i64.wrap ((k : Int) + 1) = ((k + 1 : Nat) : Int) := by rw [wrap_id] <;> omega
    have hn : (usL f).take (k + 1 + 1) = (usL f).take (k + 1) ++ [(f.into[k], f.args)] := by
      rw [List.take_add_one (i := k + 1), hu, List.getElem?_cons_succ, List.getElem?_map, List.getElem?_eq_getElem c1]; rfl
    have hlt : ((usL f).take (k + 1)).length = k + 1 := by rw [List.length_take]; omega
    simp (maxSteps := 1000000) only [hll, f1, encF, encU, EA, EB, EC, ED, EE, EF, EG, EH, XA, XB, XC, XD, XE, XF, XG, XH, XI, XJ, XK, XL, XM, reduceIte, ↓reduceIte, Nat.reduceAdd, Nat.reduceLeDiff, Nat.reduceEqDiff, Nat.reduceLT, Nat.reduceSub, Nat.reduceBEq, forall_const, reduceCtorEq, implies_true, exists_eq_left', exists_eq_left, if_true, if_false, undef]
    refine ⟨by omega, pickM c1 ?_⟩
    generalize f.into[k] = y at *
    simp (maxSteps := 1000000) only [List.length_map, hlt, hw, encF, encU, EA, EB, EC, ED, EE, EF, EG, EH, XA, XB, XC, XD, XE, XF, XG, XH, XI, XJ, XK, XL, XM, reduceIte, ↓reduceIte, Nat.reduceAdd, Nat.reduceLeDiff, Nat.reduceEqDiff, Nat.reduceLT, Nat.reduceSub, Nat.reduceBEq, forall_const, reduceCtorEq, implies_true, exists_eq_left', exists_eq_left, if_true, if_false, undef]
    refine ⟨by omega, k + 1, [some 29], rfl, by omega, by omega, ?_⟩
    rw [hn]
    simp [Back, BackF, fzT, fzM, fzU, fz, fzL, fzO, kin, SubT, Sub, SubL, SubM, SubO, keepM, srcOk, look, lookM, ev, evs, putT, argT, encF, encU, EA, EB, EC, ED, EE, EF, EG, EH, XA, XB, XC, XD, XE, XF, XG, XH, XI, XJ, XK, XL, XM, reduceIte, ↓reduceIte, Nat.reduceAdd, Nat.reduceLeDiff, Nat.reduceEqDiff, Nat.reduceLT, Nat.reduceSub, Nat.reduceBEq, forall_const, reduceCtorEq, implies_true, exists_eq_left', exists_eq_left, if_true, if_false, undef, splice, AV.cells]
  have g4 : (f.kind == 4) = false := by simpa using h4
  by_cases h5 : f.kind = 5
  · have g5 : (f.kind == 5) = true := by simpa using h5
    have hu : usL f = [(f.a, f.args - 1), (f.b, f.args + 1)] := by rw [usL, if_neg h4, if_pos h5]
    have w1 : IntKind.i64.wrap (f.args - 1) = f.args - 1 := by rw [wrap_id] <;> omega
    have w2 : IntKind.i64.wrap (f.args + 1) = f.args + 1 := by rw [wrap_id] <;> omega
    simp (maxSteps := 1000000) only [g4, g5, hu, w1, w2, List.map_cons, List.map_nil, encF, encU, EA, EB, EC, ED, EE, EF, EG, EH, XA, XB, XC, XD, XE, XF, XG, XH, XI, XJ, XK, XL, XM, reduceIte, ↓reduceIte, Nat.reduceAdd, Nat.reduceLeDiff, Nat.reduceEqDiff, Nat.reduceLT, Nat.reduceSub, Nat.reduceBEq, forall_const, reduceCtorEq, implies_true, exists_eq_left', exists_eq_left, if_true, if_false, undef]
  have g5 : (f.kind == 5) = false := by simpa using h5
  have hu : usL f = [] := by rw [usL, if_neg h4, if_neg h5]
  simp (maxSteps := 1000000) only [g4, g5, hu, List.map_nil, encF, encU, EA, EB, EC, ED, EE, EF, EG, EH, XA, XB, XC, XD, XE, XF, XG, XH, XI, XJ, XK, XL, XM, reduceIte, ↓reduceIte, Nat.reduceAdd, Nat.reduceLeDiff, Nat.reduceEqDiff, Nat.reduceLT, Nat.reduceSub, Nat.reduceBEq, forall_const, reduceCtorEq, implies_true, exists_eq_left', exists_eq_left, if_true, if_false, undef]

def outB (n : Nat) (u : Int × Int) : Bool := decide (u.1 < 0) || decide (u.1 ≥ (n : Int))
theorem out_spec (bf : List Fn) (u : Int × Int) : CallsM Try.prog 28 [encU u, .ptr 0 0] [.box [.ro 6 (bf.map encF)]] (Bo (outB bf.length u)) [some (.box [.ro 6 (bf.map encF)])] := by
  refine fnM_of comp28 (by simp) (by simp) ?_
  unfold code28
  have hll : ((bf.map encF).length : Int) = bf.length := by simp
  unfold outB
  cases h1 : decide (u.1 < 0)
  rotate_left
  · simp (maxSteps := 1000000) only [h1, Bool.true_or, Bo, encF, encU, EA, EB, EC, ED, EE, EF, EG, EH, XA, XB, XC, XD, XE, XF, XG, XH, XI, XJ, XK, XL, XM, reduceIte, ↓reduceIte, Nat.reduceAdd, Nat.reduceLeDiff, Nat.reduceEqDiff, Nat.reduceLT, Nat.reduceSub, Nat.reduceBEq, forall_const, reduceCtorEq, implies_true, exists_eq_left', exists_eq_left, if_true, if_false, undef]
    exact ⟨[], by simp, by simp [encF, encU, EA, EB, EC, ED, EE, EF, EG, EH, XA, XB, XC, XD, XE, XF, XG, XH, XI, XJ, XK, XL, XM, reduceIte, ↓reduceIte, Nat.reduceAdd, Nat.reduceLeDiff, Nat.reduceEqDiff, Nat.reduceLT, Nat.reduceSub, Nat.reduceBEq, forall_const, reduceCtorEq, implies_true, exists_eq_left', exists_eq_left, if_true, if_false, undef]⟩
  · simp (maxSteps := 1000000) only [h1, hll, Bool.false_or, Bo, encF, encU, EA, EB, EC, ED, EE, EF, EG, EH, XA, XB, XC, XD, XE, XF, XG, XH, XI, XJ, XK, XL, XM, reduceIte, ↓reduceIte, Nat.reduceAdd, Nat.reduceLeDiff, Nat.reduceEqDiff, Nat.reduceLT, Nat.reduceSub, Nat.reduceBEq, forall_const, reduceCtorEq, implies_true, exists_eq_left', exists_eq_left, if_true, if_false, undef]
    exact ⟨[], by simp, by simp [encF, encU, EA, EB, EC, ED, EE, EF, EG, EH, XA, XB, XC, XD, XE, XF, XG, XH, XI, XJ, XK, XL, XM, reduceIte, ↓reduceIte, Nat.reduceAdd, Nat.reduceLeDiff, Nat.reduceEqDiff, Nat.reduceLT, Nat.reduceSub, Nat.reduceBEq, forall_const, reduceCtorEq, implies_true, exists_eq_left', exists_eq_left, if_true, if_false, undef]⟩

def badB (bf : List Fn) (u : Int × Int) : Bool := ((bf[u.1.toNat]?).map (·.args)).getD 0 != u.2
theorem bad_spec (bf : List Fn) (u : Int × Int) (hu : 0 ≤ u.1 ∧ u.1 < bf.length) : CallsM Try.prog 29 [encU u, .ptr 0 0] [.box [.ro 6 (bf.map encF)]] (Bo (badB bf u)) [some (.box [.ro 6 (bf.map encF)])] := by
  refine fnM_of comp29 (by simp) (by simp) ?_
  unfold code29
  have hll : ((bf.map encF).length : Int) = bf.length := by simp
  have hlt : u.1.toNat < bf.length := by omega
  have hb : badB bf u = (bf[u.1.toNat].args != u.2) := by rw [badB, List.getElem?_eq_getElem hlt]; rfl
  simp (maxSteps := 1000000) only [encF, encU, EA, EB, EC, ED, EE, EF, EG, EH, XA, XB, XC, XD, XE, XF, XG, XH, XI, XJ, XK, XL, XM, reduceIte, ↓reduceIte, Nat.reduceAdd, Nat.reduceLeDiff, Nat.reduceEqDiff, Nat.reduceLT, Nat.reduceSub, Nat.reduceBEq, forall_const, reduceCtorEq, implies_true, exists_eq_left', exists_eq_left, if_true, if_false, undef]
  refine ⟨hu.1, pickI hlt ?_⟩
  generalize bf[u.1.toNat] = g at *
  simp (maxSteps := 1000000) only [hb, encF, encU, EA, EB, EC, ED, EE, EF, EG, EH, XA, XB, XC, XD, XE, XF, XG, XH, XI, XJ, XK, XL, XM, reduceIte, ↓reduceIte, Nat.reduceAdd, Nat.reduceLeDiff, Nat.reduceEqDiff, Nat.reduceLT, Nat.reduceSub, Nat.reduceBEq, forall_const, reduceCtorEq, implies_true, exists_eq_left', exists_eq_left, if_true, if_false, undef]
  exact ⟨[], by simp, by simp [encF, encU, EA, EB, EC, ED, EE, EF, EG, EH, XA, XB, XC, XD, XE, XF, XG, XH, XI, XJ, XK, XL, XM, reduceIte, ↓reduceIte, Nat.reduceAdd, Nat.reduceLeDiff, Nat.reduceEqDiff, Nat.reduceLT, Nat.reduceSub, Nat.reduceBEq, forall_const, reduceCtorEq, implies_true, exists_eq_left', exists_eq_left, if_true, if_false, undef]⟩

theorem any_take {α : Type} {l : List α} {p : α → Bool} {k : Nat} (h : k < l.length) (hp : (l.take k).any p = false) (hx : p l[k] = false) : (l.take (k + 1)).any p = false := by
  rw [List.take_add_one, List.getElem?_eq_getElem h, List.any_append, hp]; simp [hx]
theorem index_spec (g : Nat) (bf : List Fn) (p : Int × Int → Bool) (us : List (Int × Int)) (hl : us.length ≤ 100)
    (hp : ∀ u ∈ us, CallsM Try.prog g [encU u, .ptr 0 0] [.box [.ro 6 (bf.map encF)]] (Bo (p u)) [some (.box [.ro 6 (bf.map encF)])]) :
    ∃ i : Int, (decide (i ≥ 0) = us.any p) ∧ CallsM Try.prog 32 [.ro 2 (us.map encU), .fn g [.ptr 0 0]] [.box [.ro 6 (bf.map encF)]] (I i) [some (.box [.ro 6 (bf.map encF)])] := by
  have hll : ((us.map encU).length : Int) = us.length := by simp
  have key : ∀ i : Int, (us.any p = false → i = -1) → (∀ k (hk : k < us.length), (us.take k).any p = false → p us[k] = true → i = k) →
      CallsM Try.prog 32 [.ro 2 (us.map encU), .fn g [.ptr 0 0]] [.box [.ro 6 (bf.map encF)]] (I i) [some (.box [.ro 6 (bf.map encF)])] := by
    intro i hno hyes
    refine fnM_of comp32 (by simp) (by simp) ?_
    unfold code32
    simp (maxSteps := 1000000) only [encF, encU, EA, EB, EC, ED, EE, EF, EG, EH, XA, XB, XC, XD, XE, XF, XG, XH, XI, XJ, XK, XL, XM, reduceIte, ↓reduceIte, Nat.reduceAdd, Nat.reduceLeDiff, Nat.reduceEqDiff, Nat.reduceLT, Nat.reduceSub, Nat.reduceBEq, forall_const, reduceCtorEq, implies_true, exists_eq_left', exists_eq_left, if_true, if_false, undef]
    refine loopO Nat [8] (fun k => [I (k : Nat)]) (fun k => []) (fun k => k ≤ us.length ∧ (us.take k).any p = false) (fun k => us.length - k) (by decide) 0 ⟨by simp, by simp⟩ (by simp [Back, BackF, fzT, fzM, fzU, fz, fzL, fzO, kin, SubT, Sub, SubL, SubM, SubO, keepM, srcOk, look, lookM, ev, evs, putT, argT, encF, encU, EA, EB, EC, ED, EE, EF, EG, EH, XA, XB, XC, XD, XE, XF, XG, XH, XI, XJ, XK, XL, XM, reduceIte, ↓reduceIte, Nat.reduceAdd, Nat.reduceLeDiff, Nat.reduceEqDiff, Nat.reduceLT, Nat.reduceSub, Nat.reduceBEq, forall_const, reduceCtorEq, implies_true, exists_eq_left', exists_eq_left, if_true, if_false, undef]) (fun k hk => ?_)
    obtain ⟨hk, hbef⟩ := hk
    by_cases c1 : k < us.length
    rotate_left
    · have f1 : decide ((k : Int) < (us.length : Int)) = false := by simp [c1]
      have : k = us.length := by omega
      subst this
      rw [List.take_length] at hbef
      have := hno hbef
      subst this
      simp (maxSteps := 1000000) only [hll, f1, encF, encU, EA, EB, EC, ED, EE, EF, EG, EH, XA, XB, XC, XD, XE, XF, XG, XH, XI, XJ, XK, XL, XM, reduceIte, ↓reduceIte, Nat.reduceAdd, Nat.reduceLeDiff, Nat.reduceEqDiff, Nat.reduceLT, Nat.reduceSub, Nat.reduceBEq, forall_const, reduceCtorEq, implies_true, exists_eq_left', exists_eq_left, if_true, if_false, undef]
      exact ⟨[], by simp, by simp [encF, encU, EA, EB, EC, ED, EE, EF, EG, EH, XA, XB, XC, XD, XE, XF, XG, XH, XI, XJ, XK, XL, XM, reduceIte, ↓reduceIte, Nat.reduceAdd, Nat.reduceLeDiff, Nat.reduceEqDiff, Nat.reduceLT, Nat.reduceSub, Nat.reduceBEq, forall_const, reduceCtorEq, implies_true, exists_eq_left', exists_eq_left, if_true, if_false, undef]⟩
    have f1 : decide ((k : Int) < (us.length : Int)) = true := by simp [c1]
    have hw : IntKind.i64.wrap ((k : Int) + 1) = ((k + 1 : Nat) : Int) := by rw [wrap_id] <;> omega
    have hc := hp us[k] (List.getElem_mem c1)
    simp (maxSteps := 1000000) only [hll, f1, encF, encU, EA, EB, EC, ED, EE, EF, EG, EH, XA, XB, XC, XD, XE, XF, XG, XH, XI, XJ, XK, XL, XM, reduceIte, ↓reduceIte, Nat.reduceAdd, Nat.reduceLeDiff, Nat.reduceEqDiff, Nat.reduceLT, Nat.reduceSub, Nat.reduceBEq, forall_const, reduceCtorEq, implies_true, exists_eq_left', exists_eq_left, if_true, if_false, undef]
    refine ⟨by omega, pickM c1 ?_⟩
    simp (maxSteps := 1000000) only [encF, encU, EA, EB, EC, ED, EE, EF, EG, EH, XA, XB, XC, XD, XE, XF, XG, XH, XI, XJ, XK, XL, XM, reduceIte, ↓reduceIte, Nat.reduceAdd, Nat.reduceLeDiff, Nat.reduceEqDiff, Nat.reduceLT, Nat.reduceSub, Nat.reduceBEq, forall_const, reduceCtorEq, implies_true, exists_eq_left', exists_eq_left, if_true, if_false, undef]
    refine callM [some 0] (hc) (by simp [encF, encU, EA, EB, EC, ED, EE, EF, EG, EH, XA, XB, XC, XD, XE, XF, XG, XH, XI, XJ, XK, XL, XM, reduceIte, ↓reduceIte, Nat.reduceAdd, Nat.reduceLeDiff, Nat.reduceEqDiff, Nat.reduceLT, Nat.reduceSub, Nat.reduceBEq, forall_const, reduceCtorEq, implies_true, exists_eq_left', exists_eq_left, if_true, if_false, undef]) (by simp [encF, encU, EA, EB, EC, ED, EE, EF, EG, EH, XA, XB, XC, XD, XE, XF, XG, XH, XI, XJ, XK, XL, XM, reduceIte, ↓reduceIte, Nat.reduceAdd, Nat.reduceLeDiff, Nat.reduceEqDiff, Nat.reduceLT, Nat.reduceSub, Nat.reduceBEq, forall_const, reduceCtorEq, implies_true, exists_eq_left', exists_eq_left, if_true, if_false, undef]) (by simp [encF, encU, EA, EB, EC, ED, EE, EF, EG, EH, XA, XB, XC, XD, XE, XF, XG, XH, XI, XJ, XK, XL, XM, reduceIte, ↓reduceIte, Nat.reduceAdd, Nat.reduceLeDiff, Nat.reduceEqDiff, Nat.reduceLT, Nat.reduceSub, Nat.reduceBEq, forall_const, reduceCtorEq, implies_true, exists_eq_left', exists_eq_left, if_true, if_false, undef]) ?_
    cases hpu : p us[k] with
    | true =>
      have := hyes k c1 hbef hpu
      subst this
      simp (maxSteps := 1000000) only [Bo, encF, encU, EA, EB, EC, ED, EE, EF, EG, EH, XA, XB, XC, XD, XE, XF, XG, XH, XI, XJ, XK, XL, XM, reduceIte, ↓reduceIte, Nat.reduceAdd, Nat.reduceLeDiff, Nat.reduceEqDiff, Nat.reduceLT, Nat.reduceSub, Nat.reduceBEq, forall_const, reduceCtorEq, implies_true, exists_eq_left', exists_eq_left, if_true, if_false, undef]
      exact ⟨[], by simp, by simp [encF, encU, EA, EB, EC, ED, EE, EF, EG, EH, XA, XB, XC, XD, XE, XF, XG, XH, XI, XJ, XK, XL, XM, reduceIte, ↓reduceIte, Nat.reduceAdd, Nat.reduceLeDiff, Nat.reduceEqDiff, Nat.reduceLT, Nat.reduceSub, Nat.reduceBEq, forall_const, reduceCtorEq, implies_true, exists_eq_left', exists_eq_left, if_true, if_false, undef]⟩
    | false =>
      simp (maxSteps := 1000000) only [hw, Bo, encF, encU, EA, EB, EC, ED, EE, EF, EG, EH, XA, XB, XC, XD, XE, XF, XG, XH, XI, XJ, XK, XL, XM, reduceIte, ↓reduceIte, Nat.reduceAdd, Nat.reduceLeDiff, Nat.reduceEqDiff, Nat.reduceLT, Nat.reduceSub, Nat.reduceBEq, forall_const, reduceCtorEq, implies_true, exists_eq_left', exists_eq_left, if_true, if_false, undef]
      exact ⟨k + 1, ⟨by omega, any_take c1 hbef hpu⟩, by omega, by simp [Back, BackF, fzT, fzM, fzU, fz, fzL, fzO, kin, SubT, Sub, SubL, SubM, SubO, keepM, srcOk, look, lookM, ev, evs, putT, argT, encF, encU, EA, EB, EC, ED, EE, EF, EG, EH, XA, XB, XC, XD, XE, XF, XG, XH, XI, XJ, XK, XL, XM, reduceIte, ↓reduceIte, Nat.reduceAdd, Nat.reduceLeDiff, Nat.reduceEqDiff, Nat.reduceLT, Nat.reduceSub, Nat.reduceBEq, forall_const, reduceCtorEq, implies_true, exists_eq_left', exists_eq_left, if_true, if_false, undef]⟩
  cases ha : us.any p with
  | false =>
    refine ⟨-1, by decide, key (-1) (fun _ => rfl) (fun k hk _ h => ?_)⟩
    have : us.any p = true := List.any_eq_true.2 ⟨us[k], List.getElem_mem hk, h⟩
    rw [ha] at this; cases this
  | true =>
    obtain ⟨k, hk, hb, hpk⟩ : ∃ k, ∃ hk : k < us.length, (us.take k).any p = false ∧ p us[k] = true := by
      clear key hp hll
      induction us with
      | nil => simp at ha
      | cons u us ih =>
        cases hu : p u with
        | true => exact ⟨0, by simp, by simp, by simpa using hu⟩
        | false =>
          simp only [List.any_cons, hu, Bool.false_or] at ha
          obtain ⟨k, hk, h1, h2⟩ := ih (by simp at hl; omega) ha
          exact ⟨k + 1, by simp; omega, by rw [List.take_succ_cons, List.any_cons, hu, h1]; rfl, by simpa using h2⟩
    refine ⟨k, by simp, key k (fun h => ?_) (fun k' hk' hb' hp' => ?_)⟩
    · rw [ha] at h; cases h
    · rcases Nat.lt_trichotomy k k' with h | h | h
      · have : (us.take k').any p = true := List.any_eq_true.2 ⟨us[k], List.mem_take_iff_getElem.2 ⟨k, by omega, rfl⟩, hpk⟩
        rw [hb'] at this; cases this
      · rw [h]
      · have : (us.take k).any p = true := List.any_eq_true.2 ⟨us[k'], List.mem_take_iff_getElem.2 ⟨k', by omega, rfl⟩, hp'⟩
        rw [hb] at this; cases this

theorem contains_spec (g : Nat) (bf : List Fn) (p : Int × Int → Bool) (us : List (Int × Int)) (hl : us.length ≤ 100)
    (hp : ∀ u ∈ us, CallsM Try.prog g [encU u, .ptr 0 0] [.box [.ro 6 (bf.map encF)]] (Bo (p u)) [some (.box [.ro 6 (bf.map encF)])]) :
    CallsM Try.prog 27 [.ro 2 (us.map encU), .fn g [.ptr 0 0]] [.box [.ro 6 (bf.map encF)]] (Bo (us.any p)) [some (.box [.ro 6 (bf.map encF)])] := by
  obtain ⟨i, hi, hc⟩ := index_spec g bf p us hl hp
  refine fnM_of comp27 (by simp) (by simp) ?_
  unfold code27
  simp (maxSteps := 1000000) only [encF, encU, EA, EB, EC, ED, EE, EF, EG, EH, XA, XB, XC, XD, XE, XF, XG, XH, XI, XJ, XK, XL, XM, reduceIte, ↓reduceIte, Nat.reduceAdd, Nat.reduceLeDiff, Nat.reduceEqDiff, Nat.reduceLT, Nat.reduceSub, Nat.reduceBEq, forall_const, reduceCtorEq, implies_true, exists_eq_left', exists_eq_left, if_true, if_false, undef]
  refine callM [some 0] (hc) (by simp [encF, encU, EA, EB, EC, ED, EE, EF, EG, EH, XA, XB, XC, XD, XE, XF, XG, XH, XI, XJ, XK, XL, XM, reduceIte, ↓reduceIte, Nat.reduceAdd, Nat.reduceLeDiff, Nat.reduceEqDiff, Nat.reduceLT, Nat.reduceSub, Nat.reduceBEq, forall_const, reduceCtorEq, implies_true, exists_eq_left', exists_eq_left, if_true, if_false, undef]) (by simp [encF, encU, EA, EB, EC, ED, EE, EF, EG, EH, XA, XB, XC, XD, XE, XF, XG, XH, XI, XJ, XK, XL, XM, reduceIte, ↓reduceIte, Nat.reduceAdd, Nat.reduceLeDiff, Nat.reduceEqDiff, Nat.reduceLT, Nat.reduceSub, Nat.reduceBEq, forall_const, reduceCtorEq, implies_true, exists_eq_left', exists_eq_left, if_true, if_false, undef]) (by simp [encF, encU, EA, EB, EC, ED, EE, EF, EG, EH, XA, XB, XC, XD, XE, XF, XG, XH, XI, XJ, XK, XL, XM, reduceIte, ↓reduceIte, Nat.reduceAdd, Nat.reduceLeDiff, Nat.reduceEqDiff, Nat.reduceLT, Nat.reduceSub, Nat.reduceBEq, forall_const, reduceCtorEq, implies_true, exists_eq_left', exists_eq_left, if_true, if_false, undef]) ?_
  simp (maxSteps := 1000000) only [hi, Bo, encF, encU, EA, EB, EC, ED, EE, EF, EG, EH, XA, XB, XC, XD, XE, XF, XG, XH, XI, XJ, XK, XL, XM, reduceIte, ↓reduceIte, Nat.reduceAdd, Nat.reduceLeDiff, Nat.reduceEqDiff, Nat.reduceLT, Nat.reduceSub, Nat.reduceBEq, forall_const, reduceCtorEq, implies_true, exists_eq_left', exists_eq_left, if_true, if_false, undef]
  exact ⟨[], by simp, by simp [encF, encU, EA, EB, EC, ED, EE, EF, EG, EH, XA, XB, XC, XD, XE, XF, XG, XH, XI, XJ, XK, XL, XM, reduceIte, ↓reduceIte, Nat.reduceAdd, Nat.reduceLeDiff, Nat.reduceEqDiff, Nat.reduceLT, Nat.reduceSub, Nat.reduceBEq, forall_const, reduceCtorEq, implies_true, exists_eq_left', exists_eq_left, if_true, if_false, undef]⟩

end Go.Av
