/- Functions: what the document checks of a list. -/
import Derived.Test.YtpkgddjmhgcjjaaFunD
set_option linter.unusedSimpArgs false
set_option linter.unusedVariables false
set_option maxRecDepth 100000
namespace Go.Av
open Go.Proofs

def argsAt (bf : List Fn) (j : Int) : Int := ((bf[j.toNat]?).map (·.args)).getD 0
def inB (k : Nat) (j : Int) : Bool := decide (0 ≤ j ∧ j < (k : Int))
theorem outB_in (k : Nat) (u : Int × Int) : outB k u = !inB k u.1 := by
  rw [Bool.eq_iff_iff]; simp only [outB, inB, Bool.or_eq_true, decide_eq_true_eq, Bool.not_eq_true', decide_eq_false_iff_not]; omega
theorem any_out (k : Nat) (us : List (Int × Int)) : us.any (outB k) = !us.all (fun u => inB k u.1) := by
  induction us with
  | nil => rfl
  | cons u us ih => simp only [List.any_cons, List.all_cons, ih, outB_in, Bool.not_and]

theorem fErr_kind {bf : List Fn} {f : Fn} (h : ¬ (1 ≤ f.kind ∧ f.kind ≤ 5)) : fErr bf f = 6 := by
  have : kindBad f = true := by simp only [kindBad, Bool.or_eq_true, decide_eq_true_eq]; omega
  rw [fErr, this]; rfl
theorem kind_ok {f : Fn} (h : 1 ≤ f.kind ∧ f.kind ≤ 5) : kindBad f = false := by simp only [kindBad, Bool.or_eq_false_iff, decide_eq_false_iff_not]; omega
theorem lg_iff (f : Fn) : lgB f = !(decide (0 ≤ f.args ∧ f.args ≤ 4) && (bif f.kind == 2 then f.args == 1 else bif f.kind == 5 then decide (1 ≤ f.args) else bif f.kind == 4 then decide (f.into.length ≤ 4) else true)) := by
  have e1 : (decide (f.args < 0) || decide (f.args > 4)) = !decide (0 ≤ f.args ∧ f.args ≤ 4) := by
    rw [Bool.eq_iff_iff]; simp only [Bool.or_eq_true, decide_eq_true_eq, Bool.not_eq_true', decide_eq_false_iff_not]; omega
  have e2 : decide (f.args < 1) = !decide (1 ≤ f.args) := by rw [Bool.eq_iff_iff]; simp only [decide_eq_true_eq, Bool.not_eq_true', decide_eq_false_iff_not]; omega
  have e3 : decide (4 < f.into.length) = !decide (f.into.length ≤ 4) := by rw [Bool.eq_iff_iff]; simp only [decide_eq_true_eq, Bool.not_eq_true', decide_eq_false_iff_not]; omega
  unfold lgB
  rw [e1, e2, e3, Bool.not_and]
  cases f.kind == 2 <;> cases f.kind == 5 <;> cases f.kind == 4 <;> rfl

/-- the rest, where the numbers of arguments fit -/
theorem fErr_other {bf : List Fn} {f : Fn} (hk : f.kind = 1 ∨ f.kind = 2) : fErr bf f = bif lgB f then 1 else 0 := by
  have hu : usL f = [] := by rw [usL, if_neg (by omega), if_neg (by omega)]
  have hp : pickBad f = false := by rw [pickBad]; rcases hk with h | h <;> rw [h] <;> rfl
  rw [fErr, kind_ok (by omega), hp, hu]; cases lgB f <;> rfl
theorem fErr_pick {bf : List Fn} {f : Fn} (hk : f.kind = 3) : fErr bf f = bif lgB f then 1 else bif decide (0 ≤ f.pick ∧ f.pick < f.args) then 0 else 4 := by
  have hu : usL f = [] := by rw [usL, if_neg (by omega), if_neg (by omega)]
  have hp : pickBad f = !decide (0 ≤ f.pick ∧ f.pick < f.args) := by
    rw [pickBad, hk]
    rw [Bool.eq_iff_iff]; simp only [beq_self_eq_true, Bool.true_and, Bool.or_eq_true, decide_eq_true_eq, Bool.not_eq_true', decide_eq_false_iff_not]; omega
  rw [fErr, kind_ok (by omega), hp, hu]
  cases lgB f <;> cases decide (0 ≤ f.pick ∧ f.pick < f.args) <;> rfl
theorem fErr_of {bf : List Fn} {f : Fn} (hk : f.kind = 4) : fErr bf f = bif lgB f then 1 else bif inB bf.length f.a && f.into.all (inB bf.length) then (bif argsAt bf f.a != (f.into.length : Int) then 3 else bif f.into.any (fun j => argsAt bf j != f.args) then 3 else 0) else 2 := by
  have hp : pickBad f = false := by rw [pickBad, hk]; rfl
  have hu : usL f = (f.a, (f.into.length : Int)) :: f.into.map (fun j => (j, f.args)) := by rw [usL, if_pos hk]
  have h1 : (usL f).any (outB bf.length) = !(inB bf.length f.a && f.into.all (inB bf.length)) := by
    rw [any_out, hu, List.all_cons, List.all_map]; rfl
  have h2 : (usL f).any (badB bf) = ((argsAt bf f.a != (f.into.length : Int)) || f.into.any (fun j => argsAt bf j != f.args)) := by
    rw [hu, List.any_cons, List.any_map]; rfl
  rw [fErr, kind_ok (by omega), hp, h1, h2]
  cases lgB f <;> cases (inB bf.length f.a && f.into.all (inB bf.length)) <;> cases (argsAt bf f.a != (f.into.length : Int)) <;> cases (f.into.any (fun j => argsAt bf j != f.args)) <;> rfl
theorem fErr_again {bf : List Fn} {f : Fn} (hk : f.kind = 5) : fErr bf f = bif lgB f then 1 else bif inB bf.length f.a && inB bf.length f.b then (bif argsAt bf f.a != f.args - 1 then 3 else bif argsAt bf f.b != f.args + 1 then 3 else 0) else 2 := by
  have hp : pickBad f = false := by rw [pickBad, hk]; rfl
  have hu : usL f = [(f.a, f.args - 1), (f.b, f.args + 1)] := by rw [usL, if_neg (by omega), if_pos hk]
  have h1 : (usL f).any (outB bf.length) = !(inB bf.length f.a && inB bf.length f.b) := by
    rw [any_out, hu]; simp [List.all_cons]
  have h2 : (usL f).any (badB bf) = ((argsAt bf f.a != f.args - 1) || (argsAt bf f.b != f.args + 1)) := by
    rw [hu]; simp [List.any_cons, badB, argsAt]
  rw [fErr, kind_ok (by omega), hp, h1, h2]
  cases lgB f <;> cases (inB bf.length f.a && inB bf.length f.b) <;> cases (argsAt bf f.a != f.args - 1) <;> cases (argsAt bf f.b != f.args + 1) <;> rfl

theorem argsAt_take {l : List Fn} {k : Nat} {j : Int} (hj : 0 ≤ j ∧ j < (k : Int)) (hk : k ≤ l.length) : ∃ h : j.toNat < l.length, argsAt (l.take k) j = l[j.toNat].args := by
  refine ⟨by omega, ?_⟩
  rw [argsAt, List.getElem?_take_of_lt (by omega), List.getElem?_eq_getElem (by omega)]; rfl
theorem inB_all (k : Nat) (l : List Int) : (l.all fun i => decide (0 ≤ i ∧ i < (k : Int))) = l.all (inB k) := rfl

end Go.Av
