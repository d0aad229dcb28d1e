/- Cells: bits, the truth of three cells; lists of truths compared. -/
import Derived.Test.YtblakcgmngdhmaaHas
set_option linter.unusedSimpArgs false
set_option linter.unusedVariables false
set_option maxRecDepth 100000
namespace Go.Av
open Go.Proofs

theorem wrap_u64 {x : Int} (h0 : 0 ≤ x) (h1 : x < 2 ^ 64) : IntKind.u64.wrap x = x := by
  simp only [IntKind.wrap, IntKind.bits, IntKind.signed]
  first | omega | (simp; omega)

theorem shl_one {i : Nat} (h : i < 62) : IntKind.i64.wrap (1 * 2 ^ min ((i : Int)).toNat IntKind.i64.bits) = ((2 ^ i : Nat) : Int) := by
  have hb : IntKind.i64.bits = 64 := rfl
  have h2 : (2 : Nat) ^ i ≤ 2 ^ 62 := Nat.pow_le_pow_right (by omega) (by omega)
  rw [hb, Int.toNat_natCast, Nat.min_eq_left (by omega), Int.one_mul, show (2 : Int) ^ i = ((2 ^ i : Nat) : Int) by simp]
  generalize 2 ^ i = p at h2
  rw [wrap_id] <;> omega

theorem and_bit {w i : Nat} (hw : w < 2 ^ 62) (hi : i < 62) :
    IntKind.i64.wrap ((BitVec.ofInt IntKind.i64.bits (w : Int) &&& BitVec.ofInt IntKind.i64.bits ((2 ^ i : Nat) : Int)).toNat : Int) = ((w &&& 2 ^ i : Nat) : Int) := by
  have h2 : (2 : Nat) ^ i ≤ 2 ^ 62 := Nat.pow_le_pow_right (by omega) (by omega)
  have hb : IntKind.i64.bits = 64 := rfl
  have e1 : (BitVec.ofInt 64 (w : Int)).toNat = w := by rw [BitVec.ofInt_natCast, BitVec.toNat_ofNat]; omega
  have e2 : (BitVec.ofInt 64 ((2 ^ i : Nat) : Int)).toNat = 2 ^ i := by
    rw [BitVec.ofInt_natCast, BitVec.toNat_ofNat]
    generalize 2 ^ i = p at h2
    omega
  have e3 : w &&& 2 ^ i ≤ w := Nat.and_le_left
  rw [hb, BitVec.toNat_and, e1, e2, wrap_id] <;> omega

theorem and_bit_ne (w i : Nat) : (((w &&& 2 ^ i : Nat) : Int) != 0) = w.testBit i := by
  cases h : w.testBit i with
  | true =>
    have h1 : (w &&& 2 ^ i).testBit i = true := by rw [Nat.testBit_and, h, Nat.testBit_two_pow_self]; rfl
    have : w &&& 2 ^ i ≠ 0 := fun hh => by rw [hh] at h1; simp at h1
    simp only [bne_iff_ne, ne_eq]
    omega
  | false =>
    have : w &&& 2 ^ i = 0 := by
      apply Nat.eq_of_testBit_eq
      intro j
      rw [Nat.testBit_and, Nat.zero_testBit]
      by_cases hj : j = i
      · subst hj; rw [h]; rfl
      · rw [Nat.testBit_two_pow_of_ne (Ne.symm hj), Bool.and_false]
    rw [this]; rfl

theorem bit_spec (w i : Nat) (hw : w < 2 ^ 62) (hi : i < 62) : CallsA Try.prog 27 [I w, I i] (Bo (w.testBit i)) [] := by
  refine fn_of0 comp27 (by simp) ?_
  unfold code27
  have e1 : decide ((i : Int) ≥ 0) = true := by simp
  have e2 : decide ((i : Int) < 63) = true := by simp; omega
  have e3 : IntKind.u64.wrap (i : Int) = i := wrap_u64 (by omega) (by omega)
  simp (maxSteps := 1000000) only [e1, e2, e3, shl_one hi, and_bit hw hi, and_bit_ne, XX, reduceIte, ↓reduceIte, Nat.reduceAdd, Nat.reduceLeDiff, Nat.reduceEqDiff, Nat.reduceLT, Nat.reduceSub, Nat.reduceBEq, forall_const, reduceCtorEq, implies_true, exists_eq_left', exists_eq_left, if_true, if_false, undef]
  omega

/-- bits as a number -/
def wordN : List Bool → Nat
  | [] => 0
  | b :: l => b.toNat + 2 * wordN l
theorem wordN_snoc : ∀ (l : List Bool) (b : Bool), wordN (l ++ [b]) = wordN l + b.toNat * 2 ^ l.length
  | [], b => by simp [wordN]
  | c :: l, b => by
    rw [List.cons_append, wordN, wordN, wordN_snoc l b, List.length_cons, Nat.pow_succ]
    cases b <;> simp <;> omega
theorem wordN_lt : ∀ l : List Bool, wordN l < 2 ^ l.length
  | [] => by simp [wordN]
  | b :: l => by
    have := wordN_lt l
    rw [wordN, List.length_cons, Nat.pow_succ]
    cases b <;> simp <;> omega
theorem wordN_bit : ∀ (l : List Bool) (i : Nat), (wordN l).testBit i = l.getD i false
  | [], i => by simp [wordN]
  | b :: l, 0 => by cases b <;> simp [wordN, Nat.testBit_zero] <;> omega
  | b :: l, i + 1 => by
    rw [wordN, Nat.testBit_succ, show (b.toNat + 2 * wordN l) / 2 = wordN l by cases b <;> simp <;> omega, wordN_bit l i]
    simp
end Go.Av
