/- The tape's functions, and the document's. -/
import Derived.Test.YtblakcgmngdhmaaCode
set_option linter.unusedSimpArgs false
set_option linter.unusedVariables false
set_option maxRecDepth 100000
namespace Go.Av
open Go.Proofs

abbrev I (n : Int) : AV := .v (.int .i64 n)
abbrev Bo (b : Bool) : AV := .v (.bool b)

structure Rule where
  w : Int
  m : Int
  n : Int

structure Mach where
  states : Int
  signs : Int
  rules : List (List Rule)

def encR (r : Rule) : AV := .agg [I r.w, I r.m, I r.n]
def encRow (l : List Rule) : AV := .ro 3 (l.map encR)
def encM (m : Mach) : AV := .agg [I m.states, I m.signs, .ro 1 (m.rules.map encRow)]

theorem pickM {α : Type} {l : List α} {f : α → AV} {k : Nat} {K : AV → Prop} (h : k < l.length) (hK : K (f l[k])) : Pick (l.map f) (k : Int).toNat K := ⟨f l[k], by simp [h], hK⟩

theorem all_take {α : Type} {l : List α} {p : α → Bool} {k : Nat} (h : k < l.length) (hp : (l.take k).all p = true) (hx : p l[k] = true) : (l.take (k + 1)).all p = true := by
  rw [List.take_add_one, List.all_append, hp]; simp [h, hx]

theorem all_no {α : Type} {l : List α} {p : α → Bool} {k : Nat} (h : k < l.length) (hx : p l[k] = false) : l.all p = false := by
  rw [List.all_eq_false]; exact ⟨l[k], List.getElem_mem h, by simp [hx]⟩

theorem wrap_id {x : Int} (h1 : -(2 ^ 63) ≤ x) (h2 : x < 2 ^ 63) : IntKind.i64.wrap x = x := by
  rw [IntKind.wrap_i64]; omega

theorem within_spec (low x high : Int) : CallsA Try.prog 15 [I low, I x, I high] (Bo (decide (low ≤ x ∧ x ≤ high))) [] := by
  refine fn_of0 comp15 (by simp) ?_
  unfold code15
  simp only [encR, encRow, encM, XX, reduceIte, ↓reduceIte, Nat.reduceAdd, Nat.reduceLeDiff, Nat.reduceEqDiff, Nat.reduceLT, Nat.reduceSub, Nat.reduceBEq, forall_const, reduceCtorEq, implies_true, exists_eq_left', exists_eq_left, if_true, if_false, undef]
  refine ⟨fun h => ?_, fun h => ?_⟩ <;> try simp (maxSteps := 1000000) only [encR, encRow, encM, XX, reduceIte, ↓reduceIte, Nat.reduceAdd, Nat.reduceLeDiff, Nat.reduceEqDiff, Nat.reduceLT, Nat.reduceSub, Nat.reduceBEq, forall_const, reduceCtorEq, implies_true, exists_eq_left', exists_eq_left, if_true, if_false, undef]
  · simp at h; simp [h]
  · simp at h; simp; omega

theorem inside_spec (n : Int) (l : List Int) (hl : (l.length : Int) < 2 ^ 63) : CallsA Try.prog 16 [I n, .ro 1 (l.map I)] (Bo (l.all fun i => decide (0 ≤ i ∧ i < n))) [] := by
  refine fn_of0 comp16 (by simp) ?_
  unfold code16
  simp only [encR, encRow, encM, XX, reduceIte, ↓reduceIte, Nat.reduceAdd, Nat.reduceLeDiff, Nat.reduceEqDiff, Nat.reduceLT, Nat.reduceSub, Nat.reduceBEq, forall_const, reduceCtorEq, implies_true, exists_eq_left', exists_eq_left, if_true, if_false, undef]
  refine loop0 Nat [9] (fun k => [I k]) (fun k => k ≤ l.length ∧ (l.take k).all (fun i => decide (0 ≤ i ∧ i < n)) = true) (fun k => l.length - k) (by decide) 0 (by simp) (by simp [Back, BackF, fzT, fzM, fzU, fz, fzL, fzO, kin, SubT, Sub, SubL, SubM, SubO, keepM, srcOk, look, lookM, ev, evs, putT, argT]) (fun k hk => ?_)
  obtain ⟨hk, hp⟩ := hk
  simp only [encR, encRow, encM, XX, reduceIte, ↓reduceIte, Nat.reduceAdd, Nat.reduceLeDiff, Nat.reduceEqDiff, Nat.reduceLT, Nat.reduceSub, Nat.reduceBEq, forall_const, reduceCtorEq, implies_true, exists_eq_left', exists_eq_left, if_true, if_false, undef]
  refine ⟨fun h => ?_, fun h => ?_⟩
  · simp only [encR, encRow, encM, XX, reduceIte, ↓reduceIte, Nat.reduceAdd, Nat.reduceLeDiff, Nat.reduceEqDiff, Nat.reduceLT, Nat.reduceSub, Nat.reduceBEq, forall_const, reduceCtorEq, implies_true, exists_eq_left', exists_eq_left, if_true, if_false, undef]
    refine ⟨by omega, ?_⟩
    simp only [decide_eq_true_eq, List.length_map, Int.ofNat_lt] at h
    refine pickM h ?_
    simp only [encR, encRow, encM, XX, reduceIte, ↓reduceIte, Nat.reduceAdd, Nat.reduceLeDiff, Nat.reduceEqDiff, Nat.reduceLT, Nat.reduceSub, Nat.reduceBEq, forall_const, reduceCtorEq, implies_true, exists_eq_left', exists_eq_left, if_true, if_false, undef]
    have hw : IntKind.i64.wrap ((k : Int) + 1) = ((k + 1 : Nat) : Int) := by rw [wrap_id] <;> omega
    refine ⟨fun h1 => ?_, fun h1 => ?_⟩ <;> try simp (maxSteps := 1000000) only [encR, encRow, encM, XX, reduceIte, ↓reduceIte, Nat.reduceAdd, Nat.reduceLeDiff, Nat.reduceEqDiff, Nat.reduceLT, Nat.reduceSub, Nat.reduceBEq, forall_const, reduceCtorEq, implies_true, exists_eq_left', exists_eq_left, if_true, if_false, undef]
    · refine ⟨fun h2 => ?_, fun h2 => ?_⟩ <;> try simp (maxSteps := 1000000) only [encR, encRow, encM, XX, reduceIte, ↓reduceIte, Nat.reduceAdd, Nat.reduceLeDiff, Nat.reduceEqDiff, Nat.reduceLT, Nat.reduceSub, Nat.reduceBEq, forall_const, reduceCtorEq, implies_true, exists_eq_left', exists_eq_left, if_true, if_false, undef]
      · rw [all_no h]; simp at h2; simp; omega
      · refine ⟨k + 1, ⟨by omega, all_take h hp ?_⟩, by omega, by simp [Back, BackF, fzT, fzM, fzU, fz, fzL, fzO, kin, SubT, Sub, SubL, SubM, SubO, keepM, srcOk, look, lookM, ev, evs, putT, argT, hw]⟩
        simp at h1 h2; simp; omega
    · rw [all_no h]; simp at h1; simp; omega
  · simp only [encR, encRow, encM, XX, reduceIte, ↓reduceIte, Nat.reduceAdd, Nat.reduceLeDiff, Nat.reduceEqDiff, Nat.reduceLT, Nat.reduceSub, Nat.reduceBEq, forall_const, reduceCtorEq, implies_true, exists_eq_left', exists_eq_left, if_true, if_false, undef]
    simp only [decide_eq_false_iff_not, List.length_map, Int.ofNat_lt] at h
    have : k = l.length := by omega
    subst this
    simpa using hp

def firstErr {α : Type} (f : α → Int) : List α → Int
  | [] => 0
  | x :: l => if f x ≠ 0 then f x else firstErr f l

theorem firstErr_at {α : Type} {f : α → Int} : ∀ {l : List α} {k : Nat} (h : k < l.length), firstErr f (l.take k) = 0 → f l[k] ≠ 0 → firstErr f l = f l[k]
  | x :: l, 0, _, _, hx => by simp only [firstErr]; exact if_pos hx
  | x :: l, k + 1, h, hp, hx => by
    simp only [firstErr, List.take_succ_cons] at hp ⊢
    split at hp
    · contradiction
    · rename_i h0
      rw [if_neg h0]
      exact firstErr_at (by simpa using h) hp hx

theorem firstErr_take {α : Type} {f : α → Int} : ∀ {l : List α} {k : Nat} (h : k < l.length), firstErr f (l.take k) = 0 → f l[k] = 0 → firstErr f (l.take (k + 1)) = 0
  | x :: l, 0, _, _, hx => by simp only [List.getElem_cons_zero] at hx; simp [firstErr, hx]
  | x :: l, k + 1, h, hp, hx => by
    simp only [firstErr, List.take_succ_cons] at hp ⊢
    split at hp
    · contradiction
    · rename_i h0
      rw [if_neg h0]
      exact firstErr_take (by simpa using h) hp hx

def ruleErr (signs states : Int) (r : Rule) : Int :=
  if ¬(0 ≤ r.w ∧ r.w < signs) then 2 else if ¬(-1 ≤ r.m ∧ r.m ≤ 1) then 4 else if ¬(0 ≤ r.n ∧ r.n < states + 1) then 2 else 0

def sizeOk (m : Mach) : Bool := decide (1 ≤ m.states ∧ m.states ≤ 5) && decide (2 ≤ m.signs ∧ m.signs ≤ 4)
def formOk (m : Mach) : Bool := decide ((m.rules.length : Int) = m.states) && m.rules.all fun l => decide ((l.length : Int) = m.signs)
def rulesErr (m : Mach) : Int := firstErr (firstErr (ruleErr m.signs m.states)) m.rules
def machErr (m : Mach) : Int := if sizeOk m = false then 1 else if formOk m = false then 3 else rulesErr m
theorem sizeOk_iff {m : Mach} : sizeOk m = true ↔ (1 ≤ m.states ∧ m.states ≤ 5) ∧ 2 ≤ m.signs ∧ m.signs ≤ 4 := by simp [sizeOk]
theorem formOk_iff {m : Mach} : formOk m = true ↔ (m.rules.length : Int) = m.states ∧ ∀ l ∈ m.rules, (l.length : Int) = m.signs := by simp [formOk]

end Go.Av
