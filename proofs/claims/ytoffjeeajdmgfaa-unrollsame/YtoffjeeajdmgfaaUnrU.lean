/- Machines and circuits: the document's check and its run on few cells. -/
import Derived.Test.YtoffjeeajdmgfaaTape2
import Derived.Test.YtoffjeeajdmgfaaOpen
import Derived.Test.YtoffjeeajdmgfaaGateE
set_option linter.unusedSimpArgs false
set_option linter.unusedVariables false
set_option maxRecDepth 100000
namespace Go.Av
open Go.Proofs

structure Uc where
  w : Nat
  head : Nat
  st : Int
/-- the head stays on the cells -/
def clampN (cells : Nat) (h : Int) : Nat := if h < 0 then 0 else if h ≥ cells then cells - 1 else h.toNat
def usign (c : Uc) : Int := if c.w.testBit c.head then 1 else 0
def urule (M : Mach) (c : Uc) : Rule := ruleAt M c.st (usign c)
def ustep (M : Mach) (cells : Nat) (c : Uc) : Uc :=
  ⟨((c.w : Int) - usign c * 2 ^ c.head + (urule M c).w * 2 ^ c.head).toNat, clampN cells (c.head + (urule M c).m), (urule M c).n⟩
def urun (M : Mach) (cells w : Nat) : Nat → Uc
  | 0 => ⟨w, 0, 0⟩
  | k + 1 => if (urun M cells w k).st < M.states then ustep M cells (urun M cells w k) else urun M cells w k
def asked (M : Mach) (cells steps w : Nat) : Bool := decide ((urun M cells w steps).st = M.states) && (urun M cells w steps).w.testBit (urun M cells w steps).head

structure UOk (M : Mach) (cells B : Nat) (c : Uc) : Prop where
  w : c.w ≤ B
  head : c.head < cells
  st : 0 ≤ c.st ∧ c.st ≤ M.states
theorem usign_01 (c : Uc) : 0 ≤ usign c ∧ usign c ≤ 1 := by unfold usign; split <;> omega
theorem usign_le {c : Uc} : usign c * 2 ^ c.head ≤ (c.w : Int) := by
  unfold usign
  split
  · rename_i h
    have := Nat.ge_two_pow_of_testBit h
    simp only [Int.one_mul]
    exact_mod_cast this
  · simp
theorem ustep_ok {M : Mach} {cells B : Nat} {c : Uc} (hM : MOk M) (h2 : M.signs = 2) (hc : UOk M cells B c) (h5 : cells ≤ 5) (hl : c.st < M.states) :
    UOk M cells (B + 16) (ustep M cells c) ∧ (((ustep M cells c).w : Nat) : Int) = (c.w : Int) - usign c * 2 ^ c.head + (urule M c).w * 2 ^ c.head := by
  have h01 := usign_01 c
  obtain ⟨⟨w0, w1⟩, ⟨m0, m1⟩, n0, n1⟩ := hM.ruleAt hc.st.1 hl h01.1 (by omega)
  have hle := usign_le (c := c)
  have hhd := hc.head
  have hp : (2 : Int) ^ c.head ≤ 16 := by
    have : (2 : Nat) ^ c.head ≤ 2 ^ 4 := Nat.pow_le_pow_right (by decide) (by omega)
    exact_mod_cast this
  have hp0 : (0 : Int) < 2 ^ c.head := by
    have : (0 : Nat) < 2 ^ c.head := Nat.pow_pos (by decide)
    exact_mod_cast this
  have hw : (urule M c).w = 0 ∨ (urule M c).w = 1 := by unfold urule; omega
  have hs : usign c = 0 ∨ usign c = 1 := by omega
  have hb := hc.w
  have key : 0 ≤ (c.w : Int) - usign c * 2 ^ c.head + (urule M c).w * 2 ^ c.head ∧ (c.w : Int) - usign c * 2 ^ c.head + (urule M c).w * 2 ^ c.head ≤ c.w + 16 := by
    have hwn : 0 ≤ (c.w : Int) := Int.natCast_nonneg _
    generalize (2 : Int) ^ c.head = p at *
    rcases hw with e | e <;> rcases hs with e' | e' <;> simp only [e, e'] at hle ⊢ <;> omega
  refine ⟨⟨?_, ?_, n0, n1⟩, ?_⟩
  · simp only [ustep]; omega
  · simp only [ustep, clampN]
    split
    · omega
    · split <;> omega
  · simp only [ustep]; omega
theorem urun_ok {M : Mach} {cells w : Nat} (hM : MOk M) (h2 : M.signs = 2) (h1 : 1 ≤ cells) (h5 : cells ≤ 5) : ∀ k, UOk M cells (w + 16 * k) (urun M cells w k)
  | 0 => ⟨by simp [urun], by simp only [urun]; omega, by simp only [urun]; have := hM.s1; omega⟩
  | k + 1 => by
    have ih := urun_ok (w := w) hM h2 h1 h5 k
    rw [urun]
    split
    · rename_i hl
      have := (ustep_ok hM h2 ih h5 hl).1
      rwa [show w + 16 * (k + 1) = w + 16 * k + 16 by omega]
    · exact ⟨by have := ih.w; omega, ih.head, ih.st⟩
theorem urun_halt {M : Mach} {cells w k : Nat} (h : ¬ (urun M cells w k).st < M.states) : ∀ {j}, k ≤ j → urun M cells w j = urun M cells w k
  | 0, hj => by obtain rfl : k = 0 := by omega
                rfl
  | j + 1, hj => by
    by_cases hk : k = j + 1
    · rw [hk]
    · have ih := urun_halt h (j := j) (by omega)
      rw [urun, ih, if_neg h]
theorem asked_more {M : Mach} {cells steps w : Nat} (h : asked M cells steps w = true) : asked M cells (steps + 1) w = true := by
  simp only [asked, Bool.and_eq_true, decide_eq_true_eq] at h ⊢
  rw [urun_halt (k := steps) (by omega) (by omega)]
  exact h

def unrollErr (M : Mach) (cells steps : Int) : Int :=
  if machErr M ≠ 0 then machErr M else if M.signs ≠ 2 ∨ M.states > 2 then 3 else if ¬(1 ≤ cells ∧ cells ≤ 5) then 1 else if ¬(0 ≤ steps ∧ steps ≤ 6) then 7 else 0
theorem unroll_ok {M : Mach} {cells steps : Int} (h : unrollErr M cells steps = 0) : MOk M ∧ M.signs = 2 ∧ M.states ≤ 2 ∧ (1 ≤ cells ∧ cells ≤ 5) ∧ 0 ≤ steps ∧ steps ≤ 6 := by
  rw [unrollErr] at h
  split at h
  · rename_i h1; exact (h1 h).elim
  · rename_i h1
    split at h
    · omega
    · split at h
      · omega
      · split at h
        · omega
        · exact ⟨mach_ok (by simpa using h1), by omega, by omega, by omega, by omega, by omega⟩

theorem unrollCheck_spec (M : Mach) (cells steps : Int) : CallsA Try.prog 20 [encM M, I cells, I steps] (I (unrollErr M cells steps)) [] := by
  refine fn_of0 comp20 (by simp) ?_
  unfold code20
  simp (maxSteps := 1000000) only [encM, encR, encRow, encM, encG, XX, reduceIte, ↓reduceIte, Nat.reduceAdd, Nat.reduceLeDiff, Nat.reduceEqDiff, Nat.reduceLT, Nat.reduceSub, Nat.reduceBEq, forall_const, reduceCtorEq, implies_true, exists_eq_left', exists_eq_left, if_true, if_false, undef]
  refine callF (CallsA.args (mcheck_spec M ) (by simp [ encM,encR, encRow, encM, encG, XX, undef])) rfl (by simp [flat, encR, encRow, encM, encG, XX, undef]) ?_
  by_cases h0 : machErr M = 0
  rotate_left
  · have f : (machErr M != 0) = true := by simpa using h0
    rw [unrollErr, if_pos h0]
    simp (maxSteps := 1000000) only [f, encR, encRow, encM, encG, XX, reduceIte, ↓reduceIte, Nat.reduceAdd, Nat.reduceLeDiff, Nat.reduceEqDiff, Nat.reduceLT, Nat.reduceSub, Nat.reduceBEq, forall_const, reduceCtorEq, implies_true, exists_eq_left', exists_eq_left, if_true, if_false, undef]
  have f0 : (machErr M != 0) = false := by simpa using h0
  simp (maxSteps := 1000000) only [f0, encR, encRow, encM, encG, XX, reduceIte, ↓reduceIte, Nat.reduceAdd, Nat.reduceLeDiff, Nat.reduceEqDiff, Nat.reduceLT, Nat.reduceSub, Nat.reduceBEq, forall_const, reduceCtorEq, implies_true, exists_eq_left', exists_eq_left, if_true, if_false, undef]
  by_cases h1 : M.signs = 2
  rotate_left
  · have f : (M.signs != 2) = true := by simpa using h1
    rw [unrollErr, if_neg (by simpa using h0), if_pos (.inl h1)]
    simp (maxSteps := 1000000) only [f, encR, encRow, encM, encG, XX, reduceIte, ↓reduceIte, Nat.reduceAdd, Nat.reduceLeDiff, Nat.reduceEqDiff, Nat.reduceLT, Nat.reduceSub, Nat.reduceBEq, forall_const, reduceCtorEq, implies_true, exists_eq_left', exists_eq_left, if_true, if_false, undef]
  have f1 : (M.signs != 2) = false := by simpa using h1
  by_cases h2 : M.states > 2
  · have f : decide (M.states > 2) = true := by simpa using h2
    rw [unrollErr, if_neg (by simpa using h0), if_pos (.inr h2)]
    simp (maxSteps := 1000000) only [f1, f, encR, encRow, encM, encG, XX, reduceIte, ↓reduceIte, Nat.reduceAdd, Nat.reduceLeDiff, Nat.reduceEqDiff, Nat.reduceLT, Nat.reduceSub, Nat.reduceBEq, forall_const, reduceCtorEq, implies_true, exists_eq_left', exists_eq_left, if_true, if_false, undef]
  have f2 : decide (M.states > 2) = false := by simpa using h2
  rw [unrollErr, if_neg (by simpa using h0), if_neg (by omega)]
  simp (maxSteps := 1000000) only [f1, f2, encR, encRow, encM, encG, XX, reduceIte, ↓reduceIte, Nat.reduceAdd, Nat.reduceLeDiff, Nat.reduceEqDiff, Nat.reduceLT, Nat.reduceSub, Nat.reduceBEq, forall_const, reduceCtorEq, implies_true, exists_eq_left', exists_eq_left, if_true, if_false, undef]
  refine callF (CallsA.args (within_spec 1 cells 5) (by simp [encR, encRow, encM, encG, XX, undef])) rfl (by simp [flat, encR, encRow, encM, encG, XX, undef]) ?_
  by_cases h3 : 1 ≤ cells ∧ cells ≤ 5
  rotate_left
  · have f : decide (1 ≤ cells ∧ cells ≤ 5) = false := by rw [decide_eq_false_iff_not]; exact h3
    rw [if_pos h3]
    simp (maxSteps := 1000000) only [f, Bo, encR, encRow, encM, encG, XX, reduceIte, ↓reduceIte, Nat.reduceAdd, Nat.reduceLeDiff, Nat.reduceEqDiff, Nat.reduceLT, Nat.reduceSub, Nat.reduceBEq, forall_const, reduceCtorEq, implies_true, exists_eq_left', exists_eq_left, if_true, if_false, undef]
  have f3 : decide (1 ≤ cells ∧ cells ≤ 5) = true := by rw [decide_eq_true_iff]; exact h3
  rw [if_neg (by simpa using h3)]
  simp (maxSteps := 1000000) only [f3, Bo, encR, encRow, encM, encG, XX, reduceIte, ↓reduceIte, Nat.reduceAdd, Nat.reduceLeDiff, Nat.reduceEqDiff, Nat.reduceLT, Nat.reduceSub, Nat.reduceBEq, forall_const, reduceCtorEq, implies_true, exists_eq_left', exists_eq_left, if_true, if_false, undef]
  refine callF (CallsA.args (within_spec 0 steps 6) (by simp [encR, encRow, encM, encG, XX, undef])) rfl (by simp [flat, encR, encRow, encM, encG, XX, undef]) ?_
  by_cases h4 : 0 ≤ steps ∧ steps ≤ 6
  · have f : decide (0 ≤ steps ∧ steps ≤ 6) = true := by rw [decide_eq_true_iff]; exact h4
    rw [if_neg (by simpa using h4)]
    simp (maxSteps := 1000000) only [f, Bo, encR, encRow, encM, encG, XX, reduceIte, ↓reduceIte, Nat.reduceAdd, Nat.reduceLeDiff, Nat.reduceEqDiff, Nat.reduceLT, Nat.reduceSub, Nat.reduceBEq, forall_const, reduceCtorEq, implies_true, exists_eq_left', exists_eq_left, if_true, if_false, undef]
  · have f : decide (0 ≤ steps ∧ steps ≤ 6) = false := by rw [decide_eq_false_iff_not]; exact h4
    rw [if_pos h4]
    simp (maxSteps := 1000000) only [f, Bo, encR, encRow, encM, encG, XX, reduceIte, ↓reduceIte, Nat.reduceAdd, Nat.reduceLeDiff, Nat.reduceEqDiff, Nat.reduceLT, Nat.reduceSub, Nat.reduceBEq, forall_const, reduceCtorEq, implies_true, exists_eq_left', exists_eq_left, if_true, if_false, undef]

theorem shl01 {x : Int} (hx : 0 ≤ x ∧ x ≤ 1) {i : Nat} (hi : i < 62) : IntKind.i64.wrap (x * 2 ^ min ((i : Int)).toNat IntKind.i64.bits) = x * 2 ^ i := by
  have h1 := shl_one hi
  rcases (by omega : x = 0 ∨ x = 1) with rfl | rfl
  · rw [Int.zero_mul, Int.zero_mul]; decide
  · rw [h1]; simp
theorem wrap0 : IntKind.i64.wrap 0 = 0 := by decide
theorem asked_spec (M : Mach) (cells steps w : Nat) (hM : MOk M) (h2 : M.signs = 2) (h1 : 1 ≤ cells) (h5 : cells ≤ 5) (hs : steps ≤ 6) (hw : w < 2 ^ 40) :
    CallsA Try.prog 21 [encM M, IN cells, IN steps, IN w] (Bo (asked M cells steps w)) [] := by
  refine fn_of0 comp21 (by simp) ?_
  unfold code21
  simp (maxSteps := 1000000) only [encM, encR, encRow, encM, encG, XX, reduceIte, ↓reduceIte, Nat.reduceAdd, Nat.reduceLeDiff, Nat.reduceEqDiff, Nat.reduceLT, Nat.reduceSub, Nat.reduceBEq, forall_const, reduceCtorEq, implies_true, exists_eq_left', exists_eq_left, if_true, if_false, undef]
  refine loop0 Nat [3, 9, 10, 11] (fun k => [IN (urun M cells w k).w, IN (urun M cells w k).head, I (urun M cells w k).st, IN k]) (fun k => k ≤ steps) (fun k => steps - k) (by decide) 0 (by simp) (by simp [Back, BackF, fzT, fzM, fzU, fz, fzL, fzO, kin, SubT, Sub, SubL, SubM, SubO, keepM, srcOk, look, lookM, ev, evs, putT, argT, encR, encRow, encM, encG, XX, undef, urun]) (fun k hk => ?_)
  have hok := urun_ok (w := w) hM h2 h1 h5 k
  have hlast : (k = steps ∨ ¬ (urun M cells w k).st < M.states) → urun M cells w steps = urun M cells w k := fun h => by
    rcases h with rfl | h
    · rfl
    · exact urun_halt h hk
  have hfin : urun M cells w steps = urun M cells w k → asked M cells steps w = (decide ((urun M cells w k).st = M.states) && (urun M cells w k).w.testBit (urun M cells w k).head) := fun h => by rw [asked, h]
  have hnx : urun M cells w (k + 1) = if (urun M cells w k).st < M.states then ustep M cells (urun M cells w k) else urun M cells w k := rfl
  have hwk : (urun M cells w k).w < 2 ^ 41 := by have := hok.w; omega
  generalize urun M cells w k = c at *
  have hhd := hok.head
  have hst := hok.st
  by_cases c1 : k < steps
  rotate_left
  · have g1 : decide ((k : Int) < (steps : Int)) = false := by simp; omega
    rw [hfin (hlast (.inl (by omega)))]
    simp (maxSteps := 1000000) only [g1, encR, encRow, encM, encG, XX, reduceIte, ↓reduceIte, Nat.reduceAdd, Nat.reduceLeDiff, Nat.reduceEqDiff, Nat.reduceLT, Nat.reduceSub, Nat.reduceBEq, forall_const, reduceCtorEq, implies_true, exists_eq_left', exists_eq_left, if_true, if_false, undef]
    cases hst2 : (c.st == M.states) with
    | false =>
      have g : decide (c.st = M.states) = false := by simpa using hst2
      simp (maxSteps := 1000000) only [g, Bool.false_and, Bo, encR, encRow, encM, encG, XX, reduceIte, ↓reduceIte, Nat.reduceAdd, Nat.reduceLeDiff, Nat.reduceEqDiff, Nat.reduceLT, Nat.reduceSub, Nat.reduceBEq, forall_const, reduceCtorEq, implies_true, exists_eq_left', exists_eq_left, if_true, if_false, undef]
    | true =>
      have g : decide (c.st = M.states) = true := by simpa using hst2
      simp (maxSteps := 1000000) only [g, Bool.true_and, encR, encRow, encM, encG, XX, reduceIte, ↓reduceIte, Nat.reduceAdd, Nat.reduceLeDiff, Nat.reduceEqDiff, Nat.reduceLT, Nat.reduceSub, Nat.reduceBEq, forall_const, reduceCtorEq, implies_true, exists_eq_left', exists_eq_left, if_true, if_false, undef]
      refine callF (CallsA.args (bit_spec c.w c.head (by omega) (by omega)) (by simp [encR, encRow, encM, encG, XX, undef])) rfl (by simp [flat, encR, encRow, encM, encG, XX, undef]) ?_
      simp (maxSteps := 1000000) only [g, Bool.true_and, Bo, encR, encRow, encM, encG, XX, reduceIte, ↓reduceIte, Nat.reduceAdd, Nat.reduceLeDiff, Nat.reduceEqDiff, Nat.reduceLT, Nat.reduceSub, Nat.reduceBEq, forall_const, reduceCtorEq, implies_true, exists_eq_left', exists_eq_left, if_true, if_false, undef]
  have g1 : decide ((k : Int) < (steps : Int)) = true := by simp; omega
  have hw1 : IntKind.i64.wrap ((k : Int) + 1) = ((k + 1 : Nat) : Int) := by rw [wrap_id] <;> omega
  by_cases c2 : c.st < M.states
  rotate_left
  · have g2 : decide (c.st < M.states) = false := by simpa using c2
    rw [hfin (hlast (.inr c2))]
    simp (maxSteps := 1000000) only [g1, g2, encR, encRow, encM, encG, XX, reduceIte, ↓reduceIte, Nat.reduceAdd, Nat.reduceLeDiff, Nat.reduceEqDiff, Nat.reduceLT, Nat.reduceSub, Nat.reduceBEq, forall_const, reduceCtorEq, implies_true, exists_eq_left', exists_eq_left, if_true, if_false, undef]
    cases hst2 : (c.st == M.states) with
    | false =>
      have g : decide (c.st = M.states) = false := by simpa using hst2
      simp (maxSteps := 1000000) only [g, Bool.false_and, Bo, encR, encRow, encM, encG, XX, reduceIte, ↓reduceIte, Nat.reduceAdd, Nat.reduceLeDiff, Nat.reduceEqDiff, Nat.reduceLT, Nat.reduceSub, Nat.reduceBEq, forall_const, reduceCtorEq, implies_true, exists_eq_left', exists_eq_left, if_true, if_false, undef]
    | true =>
      have g : decide (c.st = M.states) = true := by simpa using hst2
      simp (maxSteps := 1000000) only [g, Bool.true_and, encR, encRow, encM, encG, XX, reduceIte, ↓reduceIte, Nat.reduceAdd, Nat.reduceLeDiff, Nat.reduceEqDiff, Nat.reduceLT, Nat.reduceSub, Nat.reduceBEq, forall_const, reduceCtorEq, implies_true, exists_eq_left', exists_eq_left, if_true, if_false, undef]
      refine callF (CallsA.args (bit_spec c.w c.head (by omega) (by omega)) (by simp [encR, encRow, encM, encG, XX, undef])) rfl (by simp [flat, encR, encRow, encM, encG, XX, undef]) ?_
      simp (maxSteps := 1000000) only [g, Bool.true_and, Bo, encR, encRow, encM, encG, XX, reduceIte, ↓reduceIte, Nat.reduceAdd, Nat.reduceLeDiff, Nat.reduceEqDiff, Nat.reduceLT, Nat.reduceSub, Nat.reduceBEq, forall_const, reduceCtorEq, implies_true, exists_eq_left', exists_eq_left, if_true, if_false, undef]
  have g2 : decide (c.st < M.states) = true := by simpa using c2
  obtain ⟨hus, hwe⟩ := ustep_ok hM h2 hok h5 c2
  rw [if_pos c2] at hnx
  have h01 := usign_01 c
  obtain ⟨⟨r1, r2⟩, ⟨r3, r4⟩, r5, r6⟩ := hM.ruleAt hst.1 c2 h01.1 (by omega)
  obtain ⟨ha, hb, he⟩ := hM.at hst.1 c2 h01.1 (by omega)
  have hsg : usign c = if c.w.testBit c.head then 1 else 0 := rfl
  simp (maxSteps := 1000000) only [g1, g2, encR, encRow, encM, encG, XX, reduceIte, ↓reduceIte, Nat.reduceAdd, Nat.reduceLeDiff, Nat.reduceEqDiff, Nat.reduceLT, Nat.reduceSub, Nat.reduceBEq, forall_const, reduceCtorEq, implies_true, exists_eq_left', exists_eq_left, if_true, if_false, undef]
  refine callF (CallsA.args (bit_spec c.w c.head (by omega) (by omega)) (by simp [encR, encRow, encM, encG, XX, undef])) rfl (by simp [flat, encR, encRow, encM, encG, XX, undef]) ?_
  obtain ⟨hr1, hr2, hr3⟩ : (ustep M cells c).w = ((c.w : Int) - usign c * 2 ^ c.head + (ruleAt M c.st (usign c)).w * 2 ^ c.head).toNat ∧ (ustep M cells c).head = clampN cells (c.head + (ruleAt M c.st (usign c)).m) ∧ (ustep M cells c).st = (ruleAt M c.st (usign c)).n := ⟨rfl, rfl, rfl⟩
  have hcv : IntKind.u64.wrap (c.head : Int) = (c.head : Int) := wrap_u64 (by omega) (by omega)
  have hs1 := shl01 h01 (show c.head < 62 by omega)
  have hs2 := shl01 (x := (ruleAt M c.st (usign c)).w) ⟨r1, by omega⟩ (show c.head < 62 by omega)
  have hle := usign_le (c := c)
  have hp : (2 : Int) ^ c.head ≤ 16 := by
    have : (2 : Nat) ^ c.head ≤ 2 ^ 4 := Nat.pow_le_pow_right (by decide) (by omega)
    exact_mod_cast this
  have hp0 : (0 : Int) < 2 ^ c.head := by
    have : (0 : Nat) < 2 ^ c.head := Nat.pow_pos (by decide)
    exact_mod_cast this
  have hwe2 : ((ustep M cells c).w : Int) = (c.w : Int) - usign c * 2 ^ c.head + (ruleAt M c.st (usign c)).w * 2 ^ c.head := hwe
  have hub := hus.w
  have hx1 : IntKind.i64.wrap ((c.w : Int) - usign c * 2 ^ c.head) = (c.w : Int) - usign c * 2 ^ c.head := by
    have : 0 ≤ usign c * 2 ^ c.head := Int.mul_nonneg h01.1 (by omega)
    rw [wrap_id] <;> omega
  have hx2 : IntKind.i64.wrap ((c.w : Int) - usign c * 2 ^ c.head + (ruleAt M c.st (usign c)).w * 2 ^ c.head) = ((ustep M cells c).w : Int) := by
    rw [← hwe2, wrap_id] <;> omega
  have hx3 : IntKind.i64.wrap ((c.head : Int) + (ruleAt M c.st (usign c)).m) = (c.head : Int) + (ruleAt M c.st (usign c)).m := by rw [wrap_id] <;> omega
  have hx4 : IntKind.i64.wrap ((cells : Int) - 1) = (cells : Int) - 1 := by rw [wrap_id] <;> omega
  have hcl : clampN cells (c.head + (ruleAt M c.st (usign c)).m) = (ustep M cells c).head := rfl
  rw [he] at hx2 hx3 hs2 hr3 hcl
  cases hbit : c.w.testBit c.head with
  | false =>
    have hu : usign c = 0 := by rw [hsg, hbit]; rfl
    simp only [hu] at hx1 hx2 hx3 hs1 hs2 hr3 hcl hb
    simp (maxSteps := 1000000) only [Bo, encR, encRow, encM, encG, XX, reduceIte, ↓reduceIte, Nat.reduceAdd, Nat.reduceLeDiff, Nat.reduceEqDiff, Nat.reduceLT, Nat.reduceSub, Nat.reduceBEq, forall_const, reduceCtorEq, implies_true, exists_eq_left', exists_eq_left, if_true, if_false, undef]
    refine ⟨by omega, pickI ha ?_⟩
    generalize M.rules[c.st.toNat] = row at *
    simp (maxSteps := 1000000) only [encRow, encR, encRow, encM, encG, XX, reduceIte, ↓reduceIte, Nat.reduceAdd, Nat.reduceLeDiff, Nat.reduceEqDiff, Nat.reduceLT, Nat.reduceSub, Nat.reduceBEq, forall_const, reduceCtorEq, implies_true, exists_eq_left', exists_eq_left, if_true, if_false, undef]
    refine ⟨by omega, pickI hb ?_⟩
    generalize row[(0 : Int).toNat] = r at *
    obtain ⟨rw_, rm_, rn_⟩ := r
    simp only at hx2 hx3 hs2 hr3 hcl
    simp (maxSteps := 1000000) only [encR, splice, AV.cells, hcv, hs1, hs2, hx1, hx2, hx3, encR, encRow, encM, encG, XX, reduceIte, ↓reduceIte, Nat.reduceAdd, Nat.reduceLeDiff, Nat.reduceEqDiff, Nat.reduceLT, Nat.reduceSub, Nat.reduceBEq, forall_const, reduceCtorEq, implies_true, exists_eq_left', exists_eq_left, if_true, if_false, undef]
    refine ⟨by omega, by omega, ?_⟩
    by_cases q1 : (c.head : Int) + rm_ < 0
    · have f1 : decide ((c.head : Int) + rm_ < 0) = true := by simpa using q1
      have f2 : decide ((0 : Int) ≥ (cells : Int)) = false := by simp; omega
      have hh : (ustep M cells c).head = 0 := by rw [← hcl, clampN, if_pos q1]
      simp (maxSteps := 1000000) only [f1, f2, hw1, hx1, hx2, hx3, hs1, hs2, encR, encRow, encM, encG, XX, reduceIte, ↓reduceIte, Nat.reduceAdd, Nat.reduceLeDiff, Nat.reduceEqDiff, Nat.reduceLT, Nat.reduceSub, Nat.reduceBEq, forall_const, reduceCtorEq, implies_true, exists_eq_left', exists_eq_left, if_true, if_false, undef]
      exact ⟨k + 1, by omega, by omega, by rw [hnx, hh, hr3]; simp [Back, BackF, fzT, fzM, fzU, fz, fzL, fzO, kin, SubT, Sub, SubL, SubM, SubO, keepM, srcOk, look, lookM, ev, evs, putT, argT, encR, encRow, encM, encG, XX, reduceIte, ↓reduceIte, Nat.reduceAdd, Nat.reduceLeDiff, Nat.reduceEqDiff, Nat.reduceLT, Nat.reduceSub, Nat.reduceBEq, forall_const, reduceCtorEq, implies_true, exists_eq_left', exists_eq_left, if_true, if_false, undef, hs1, hs2, hx1, hx2]⟩
    have f1 : decide ((c.head : Int) + rm_ < 0) = false := by simpa using q1
    by_cases q2 : (c.head : Int) + rm_ ≥ cells
    · have f2 : decide ((c.head : Int) + rm_ ≥ (cells : Int)) = true := by simpa using q2
      have hh : (((ustep M cells c).head : Nat) : Int) = (cells : Int) - 1 := by rw [← hcl, clampN, if_neg q1, if_pos q2]; omega
      simp (maxSteps := 1000000) only [f1, f2, hw1, hx1, hx2, hx3, hx4, hs1, hs2, encR, encRow, encM, encG, XX, reduceIte, ↓reduceIte, Nat.reduceAdd, Nat.reduceLeDiff, Nat.reduceEqDiff, Nat.reduceLT, Nat.reduceSub, Nat.reduceBEq, forall_const, reduceCtorEq, implies_true, exists_eq_left', exists_eq_left, if_true, if_false, undef]
      exact ⟨k + 1, by omega, by omega, by rw [hnx, hr3]; simp [Back, BackF, fzT, fzM, fzU, fz, fzL, fzO, kin, SubT, Sub, SubL, SubM, SubO, keepM, srcOk, look, lookM, ev, evs, putT, argT, encR, encRow, encM, encG, XX, reduceIte, ↓reduceIte, Nat.reduceAdd, Nat.reduceLeDiff, Nat.reduceEqDiff, Nat.reduceLT, Nat.reduceSub, Nat.reduceBEq, forall_const, reduceCtorEq, implies_true, exists_eq_left', exists_eq_left, if_true, if_false, undef, hh, hs1, hs2, hx1, hx2, hx4]⟩
    have f2 : decide ((c.head : Int) + rm_ ≥ (cells : Int)) = false := by simpa using q2
    have hh : (((ustep M cells c).head : Nat) : Int) = (c.head : Int) + rm_ := by rw [← hcl, clampN, if_neg q1, if_neg q2]; omega
    simp (maxSteps := 1000000) only [f1, f2, hw1, hx1, hx2, hx3, hx4, hs1, hs2, encR, encRow, encM, encG, XX, reduceIte, ↓reduceIte, Nat.reduceAdd, Nat.reduceLeDiff, Nat.reduceEqDiff, Nat.reduceLT, Nat.reduceSub, Nat.reduceBEq, forall_const, reduceCtorEq, implies_true, exists_eq_left', exists_eq_left, if_true, if_false, undef]
    exact ⟨k + 1, by omega, by omega, by rw [hnx, hr3]; simp [Back, BackF, fzT, fzM, fzU, fz, fzL, fzO, kin, SubT, Sub, SubL, SubM, SubO, keepM, srcOk, look, lookM, ev, evs, putT, argT, encR, encRow, encM, encG, XX, reduceIte, ↓reduceIte, Nat.reduceAdd, Nat.reduceLeDiff, Nat.reduceEqDiff, Nat.reduceLT, Nat.reduceSub, Nat.reduceBEq, forall_const, reduceCtorEq, implies_true, exists_eq_left', exists_eq_left, if_true, if_false, undef, hh, hs1, hs2, hx1, hx2, hx3]⟩
  | true =>
    have hu : usign c = 1 := by rw [hsg, hbit]; rfl
    simp only [hu] at hx1 hx2 hx3 hs1 hs2 hr3 hcl hb
    simp (maxSteps := 1000000) only [Bo, encR, encRow, encM, encG, XX, reduceIte, ↓reduceIte, Nat.reduceAdd, Nat.reduceLeDiff, Nat.reduceEqDiff, Nat.reduceLT, Nat.reduceSub, Nat.reduceBEq, forall_const, reduceCtorEq, implies_true, exists_eq_left', exists_eq_left, if_true, if_false, undef]
    refine ⟨by omega, pickI ha ?_⟩
    generalize M.rules[c.st.toNat] = row at *
    simp (maxSteps := 1000000) only [encRow, encR, encRow, encM, encG, XX, reduceIte, ↓reduceIte, Nat.reduceAdd, Nat.reduceLeDiff, Nat.reduceEqDiff, Nat.reduceLT, Nat.reduceSub, Nat.reduceBEq, forall_const, reduceCtorEq, implies_true, exists_eq_left', exists_eq_left, if_true, if_false, undef]
    refine ⟨by omega, pickI hb ?_⟩
    generalize row[(1 : Int).toNat] = r at *
    obtain ⟨rw_, rm_, rn_⟩ := r
    simp only at hx2 hx3 hs2 hr3 hcl
    simp (maxSteps := 1000000) only [encR, splice, AV.cells, hcv, hs1, hs2, hx1, hx2, hx3, encR, encRow, encM, encG, XX, reduceIte, ↓reduceIte, Nat.reduceAdd, Nat.reduceLeDiff, Nat.reduceEqDiff, Nat.reduceLT, Nat.reduceSub, Nat.reduceBEq, forall_const, reduceCtorEq, implies_true, exists_eq_left', exists_eq_left, if_true, if_false, undef]
    refine ⟨by omega, by omega, ?_⟩
    by_cases q1 : (c.head : Int) + rm_ < 0
    · have f1 : decide ((c.head : Int) + rm_ < 0) = true := by simpa using q1
      have f2 : decide ((0 : Int) ≥ (cells : Int)) = false := by simp; omega
      have hh : (ustep M cells c).head = 0 := by rw [← hcl, clampN, if_pos q1]
      simp (maxSteps := 1000000) only [f1, f2, hw1, hx1, hx2, hx3, hs1, hs2, encR, encRow, encM, encG, XX, reduceIte, ↓reduceIte, Nat.reduceAdd, Nat.reduceLeDiff, Nat.reduceEqDiff, Nat.reduceLT, Nat.reduceSub, Nat.reduceBEq, forall_const, reduceCtorEq, implies_true, exists_eq_left', exists_eq_left, if_true, if_false, undef]
      exact ⟨k + 1, by omega, by omega, by rw [hnx, hh, hr3]; simp [Back, BackF, fzT, fzM, fzU, fz, fzL, fzO, kin, SubT, Sub, SubL, SubM, SubO, keepM, srcOk, look, lookM, ev, evs, putT, argT, encR, encRow, encM, encG, XX, reduceIte, ↓reduceIte, Nat.reduceAdd, Nat.reduceLeDiff, Nat.reduceEqDiff, Nat.reduceLT, Nat.reduceSub, Nat.reduceBEq, forall_const, reduceCtorEq, implies_true, exists_eq_left', exists_eq_left, if_true, if_false, undef, hs1, hs2, hx1, hx2]⟩
    have f1 : decide ((c.head : Int) + rm_ < 0) = false := by simpa using q1
    by_cases q2 : (c.head : Int) + rm_ ≥ cells
    · have f2 : decide ((c.head : Int) + rm_ ≥ (cells : Int)) = true := by simpa using q2
      have hh : (((ustep M cells c).head : Nat) : Int) = (cells : Int) - 1 := by rw [← hcl, clampN, if_neg q1, if_pos q2]; omega
      simp (maxSteps := 1000000) only [f1, f2, hw1, hx1, hx2, hx3, hx4, hs1, hs2, encR, encRow, encM, encG, XX, reduceIte, ↓reduceIte, Nat.reduceAdd, Nat.reduceLeDiff, Nat.reduceEqDiff, Nat.reduceLT, Nat.reduceSub, Nat.reduceBEq, forall_const, reduceCtorEq, implies_true, exists_eq_left', exists_eq_left, if_true, if_false, undef]
      exact ⟨k + 1, by omega, by omega, by rw [hnx, hr3]; simp [Back, BackF, fzT, fzM, fzU, fz, fzL, fzO, kin, SubT, Sub, SubL, SubM, SubO, keepM, srcOk, look, lookM, ev, evs, putT, argT, encR, encRow, encM, encG, XX, reduceIte, ↓reduceIte, Nat.reduceAdd, Nat.reduceLeDiff, Nat.reduceEqDiff, Nat.reduceLT, Nat.reduceSub, Nat.reduceBEq, forall_const, reduceCtorEq, implies_true, exists_eq_left', exists_eq_left, if_true, if_false, undef, hh, hs1, hs2, hx1, hx2, hx4]⟩
    have f2 : decide ((c.head : Int) + rm_ ≥ (cells : Int)) = false := by simpa using q2
    have hh : (((ustep M cells c).head : Nat) : Int) = (c.head : Int) + rm_ := by rw [← hcl, clampN, if_neg q1, if_neg q2]; omega
    simp (maxSteps := 1000000) only [f1, f2, hw1, hx1, hx2, hx3, hx4, hs1, hs2, encR, encRow, encM, encG, XX, reduceIte, ↓reduceIte, Nat.reduceAdd, Nat.reduceLeDiff, Nat.reduceEqDiff, Nat.reduceLT, Nat.reduceSub, Nat.reduceBEq, forall_const, reduceCtorEq, implies_true, exists_eq_left', exists_eq_left, if_true, if_false, undef]
    exact ⟨k + 1, by omega, by omega, by rw [hnx, hr3]; simp [Back, BackF, fzT, fzM, fzU, fz, fzL, fzO, kin, SubT, Sub, SubL, SubM, SubO, keepM, srcOk, look, lookM, ev, evs, putT, argT, encR, encRow, encM, encG, XX, reduceIte, ↓reduceIte, Nat.reduceAdd, Nat.reduceLeDiff, Nat.reduceEqDiff, Nat.reduceLT, Nat.reduceSub, Nat.reduceBEq, forall_const, reduceCtorEq, implies_true, exists_eq_left', exists_eq_left, if_true, if_false, undef, hh, hs1, hs2, hx1, hx2, hx3]⟩

def askAns (M : Mach) (cells steps : Int) (v : List Bool) : AV :=
  if unrollErr M cells steps ≠ 0 then .tup [Bo false, I (unrollErr M cells steps)] else if (v.length : Int) ≠ cells then .tup [Bo false, I 2] else .tup [Bo (asked M cells.toNat steps.toNat (wordN v)), I 0]

theorem wordN_bitsL {n k : Nat} (h : k < 2 ^ n) : wordN (bitsL n k) = k := by
  apply Nat.eq_of_testBit_eq
  intro i
  rw [wordN_bit, bitsL, List.getD_eq_getElem?_getD]
  by_cases hi : i < n
  · simp [hi]
  · have : k.testBit i = false := Nat.testBit_lt_two_pow (Nat.lt_of_lt_of_le h (Nat.pow_le_pow_right (by decide) (by omega)))
    simp [hi, this]
theorem hasBoolsU {x : AV} (h : Has (.slice 1 .bool) x) : ∃ l : List Bool, x = .ro 1 (l.map Bo) ∧ (l.length : Int) < 2 ^ 63 := by
  cases h with
  | slice hl hh =>
    obtain ⟨l, rfl⟩ := listOf (enc := Bo) (fun i x hx => by cases hh i x hx with | bool b => exact ⟨b, rfl⟩)
    refine ⟨l, rfl, ?_⟩
    simp only [List.length_map] at hl
    have : maxLen < 2 ^ 63 := by decide
    omega

end Go.Av
