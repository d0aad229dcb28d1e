/- Small machines on a blank tape: pure. -/
import Derived.Test.YtegokadlkgghlaaHas
set_option linter.unusedSimpArgs false
set_option linter.unusedVariables false
namespace Go.Av

structure Bz where
  st : Nat
  head : Nat
  tape : List Nat

/-- the digit of a place -/
def dgt (s n k : Nat) : Nat := n / (4 * (s + 1)) ^ (2 * s - 1 - k) % (4 * (s + 1))
def bstp (s : Nat) (D : Nat → Nat) (z : Bz) : Bz :=
  let d := D (2 * z.st + z.tape.getD z.head 0)
  ⟨d % (s + 1), if d / (s + 1) % 2 = 1 then z.head + 1 else z.head - 1, z.tape.set z.head (d / (s + 1) / 2)⟩
def brun (s : Nat) (D : Nat → Nat) (z : Bz) : Nat → Bz
  | 0 => z
  | k + 1 => if (brun s D z k).st < s then bstp s D (brun s D z k) else brun s D z k
def bdon (s : Nat) (D : Nat → Nat) (z : Bz) : Nat → Nat
  | 0 => 0
  | k + 1 => if (brun s D z k).st < s then bdon s D z k + 1 else bdon s D z k
def bz0 (S : Nat) : Bz := ⟨0, S, List.replicate (2 * S + 1) 0⟩
def bfin (s S n : Nat) : Bz := brun s (dgt s n) (bz0 S) S
def bdn (s S n : Nat) : Nat := bdon s (dgt s n) (bz0 S) S
/-- the most of the first machines: steps, signs, and how many halt -/
def btr (s S : Nat) : Nat → Nat × Nat × Nat
  | 0 => (0, 0, 0)
  | n + 1 => if (bfin s S n).st < s then btr s S n else (max (btr s S n).1 (bdn s S n), max (btr s S n).2.1 (bfin s S n).tape.sum, (btr s S n).2.2 + 1)
def busyF (s S : Nat) : Nat × Nat × Nat := btr s S ((4 * (s + 1)) ^ (2 * s))

/-- all digits are digits -/
def DOk (s : Nat) (D : Nat → Nat) : Prop := ∀ k, D k < 4 * (s + 1)
theorem dgt_ok (s n : Nat) : DOk s (dgt s n) := fun k => Nat.mod_lt _ (by omega)

structure ZOk (s S k : Nat) (z : Bz) : Prop where
  st : z.st ≤ s
  lo : S ≤ z.head + k
  hi : z.head ≤ S + k
  len : z.tape.length = 2 * S + 1
  cells : ∀ x ∈ z.tape, x ≤ 1

theorem bstp_ok {s S k : Nat} {D : Nat → Nat} (hs : 1 ≤ s) (hD : DOk s D) {z : Bz} (h : ZOk s S k z) (hk : k < S) : ZOk s S (k + 1) (bstp s D z) := by
  have hd := hD (2 * z.st + z.tape.getD z.head 0)
  have h1 := h.lo
  have h2 := h.hi
  unfold bstp
  generalize D (2 * z.st + z.tape.getD z.head 0) = d at *
  have hm := Nat.mod_lt d (show 0 < s + 1 by omega)
  have hq : d / (s + 1) < 4 := Nat.div_lt_of_lt_mul (by omega)
  refine ⟨by simp only; omega, ?_, ?_, by simp only [List.length_set]; exact h.len, fun x hx => ?_⟩
  · simp only; split <;> omega
  · simp only; split <;> omega
  · rcases List.mem_or_eq_of_mem_set hx with hx | rfl
    · exact h.cells x hx
    · omega
theorem bz0_ok (s S : Nat) : ZOk s S 0 (bz0 S) := ⟨by simp [bz0], by simp [bz0], by simp [bz0], by simp [bz0], fun x hx => by simp [bz0] at hx; omega⟩
theorem ZOk.more {s S k j : Nat} {z : Bz} (h : ZOk s S k z) (hj : k ≤ j) : ZOk s S j z := ⟨h.st, by have := h.lo; omega, by have := h.hi; omega, h.len, h.cells⟩
theorem brun_ok {s S : Nat} {D : Nat → Nat} (hs : 1 ≤ s) (hD : DOk s D) : ∀ {k : Nat}, k ≤ S → ZOk s S k (brun s D (bz0 S) k)
  | 0, _ => bz0_ok s S
  | k + 1, hk => by
    have ih := brun_ok hs hD (S := S) (k := k) (by omega)
    rw [brun]; split
    · exact bstp_ok hs hD ih (by omega)
    · exact ih.more (k := k) (by omega)

theorem bdon_le (s : Nat) (D : Nat → Nat) (z : Bz) : ∀ k, bdon s D z k ≤ k
  | 0 => Nat.le_refl _
  | k + 1 => by have := bdon_le s D z k; rw [bdon]; split <;> omega
theorem bdon_live {s : Nat} {D : Nat → Nat} {z : Bz} : ∀ {k : Nat}, (brun s D z k).st < s → bdon s D z k = k
  | 0, _ => rfl
  | k + 1, h => by
    rw [brun] at h
    split at h
    · rename_i h1; rw [bdon, if_pos h1, bdon_live h1]
    · rename_i h1; exact (h1 h).elim
theorem brun_stop {s : Nat} {D : Nat → Nat} {z : Bz} {k : Nat} (h : ¬ (brun s D z k).st < s) : ∀ {j : Nat}, k ≤ j → brun s D z j = brun s D z k ∧ bdon s D z j = bdon s D z k
  | 0, hj => by obtain rfl : k = 0 := by omega
                exact ⟨rfl, rfl⟩
  | j + 1, hj => by
    by_cases hk : k = j + 1
    · subst hk; exact ⟨rfl, rfl⟩
    · obtain ⟨a, b⟩ := brun_stop h (j := j) (by omega)
      rw [brun, bdon, a, b, if_neg h, if_neg h]
      exact ⟨rfl, rfl⟩
theorem brun_front (s : Nat) (D : Nat → Nat) (z : Bz) : ∀ k, brun s D z (k + 1) = (if z.st < s then brun s D (bstp s D z) k else z) ∧ bdon s D z (k + 1) = (if z.st < s then bdon s D (bstp s D z) k + 1 else 0)
  | 0 => ⟨rfl, rfl⟩
  | k + 1 => by
    obtain ⟨a, b⟩ := brun_front s D z k
    rw [brun, bdon, a, b]
    by_cases h : z.st < s
    · simp only [if_pos h, brun, bdon]
      constructor
      · trivial
      · split <;> rfl
    · simp only [if_neg h]
      exact ⟨trivial, trivial⟩

/-- a step writes at most one sign -/
theorem sum_set (l : List Nat) (i v : Nat) (hv : v ≤ 1) : (l.set i v).sum ≤ l.sum + 1 := by
  induction l generalizing i with
  | nil => simp
  | cons x l ih =>
    cases i with
    | zero => simp; omega
    | succ i => have := ih i; simp; omega
theorem brun_sum {s S : Nat} {D : Nat → Nat} (hs : 1 ≤ s) (hD : DOk s D) : ∀ k, (brun s D (bz0 S) k).tape.sum ≤ bdon s D (bz0 S) k
  | 0 => by simp [brun, bdon, bz0]
  | k + 1 => by
    have ih := brun_sum hs hD (S := S) k
    rw [brun, bdon]
    split
    · have hd := hD (2 * (brun s D (bz0 S) k).st + (brun s D (bz0 S) k).tape.getD (brun s D (bz0 S) k).head 0)
      have hq : D (2 * (brun s D (bz0 S) k).st + (brun s D (bz0 S) k).tape.getD (brun s D (bz0 S) k).head 0) / (s + 1) < 4 := Nat.div_lt_of_lt_mul (by omega)
      have := sum_set (brun s D (bz0 S) k).tape (brun s D (bz0 S) k).head (D (2 * (brun s D (bz0 S) k).st + (brun s D (bz0 S) k).tape.getD (brun s D (bz0 S) k).head 0) / (s + 1) / 2) (by omega)
      simp only [bstp]; omega
    · exact ih

theorem btr_bounds {s S : Nat} (hs : 1 ≤ s) : ∀ n, (btr s S n).1 ≤ S ∧ (btr s S n).2.1 ≤ (btr s S n).1 ∧ (btr s S n).2.2 ≤ n
  | 0 => by simp [btr]
  | n + 1 => by
    obtain ⟨a, b, c⟩ := btr_bounds hs (S := S) n
    rw [btr]
    split
    · exact ⟨a, b, by omega⟩
    · have h1 := bdon_le s (dgt s n) (bz0 S) S
      have h2 := brun_sum hs (dgt_ok s n) (S := S) S
      have e1 : bdn s S n = bdon s (dgt s n) (bz0 S) S := rfl
      have e2 : bfin s S n = brun s (dgt s n) (bz0 S) S := rfl
      rw [← e1, ← e2] at h2
      rw [← e1] at h1
      exact ⟨by simp only; omega, by simp only; omega, by simp only; omega⟩

/-- more room changes nothing -/
structure Rm (a : Nat) (z y : Bz) : Prop where
  st : y.st = z.st
  head : y.head = z.head + a
  tape : y.tape = List.replicate a 0 ++ z.tape ++ List.replicate a 0
theorem rm_step {s S k a : Nat} {D : Nat → Nat} {z y : Bz} (h : Rm a z y) (hz : ZOk s S k z) (hk : k < S) : Rm a (bstp s D z) (bstp s D y) := by
  obtain ⟨st, hd, tp⟩ := h
  have h1 := hz.lo
  have h2 := hz.hi
  have h3 := hz.len
  have hget : y.tape.getD y.head 0 = z.tape.getD z.head 0 := by
    rw [tp, hd, List.getD_eq_getElem?_getD, List.getD_eq_getElem?_getD, List.append_assoc, List.getElem?_append_right (by simp), List.getElem?_append_left (by simp; omega)]
    simp
  have hset : ∀ v, y.tape.set y.head v = List.replicate a 0 ++ z.tape.set z.head v ++ List.replicate a 0 := fun v => by
    rw [tp, hd, List.append_assoc, List.set_append_right _ _ (by simp), List.set_append_left _ _ (by simp; omega), List.append_assoc]
    simp
  unfold bstp
  rw [st, hget]
  refine ⟨rfl, ?_, hset _⟩
  simp only
  split <;> omega
theorem rm_run {s S S' : Nat} {D : Nat → Nat} (hs : 1 ≤ s) (hD : DOk s D) (hS : S ≤ S') : ∀ {k : Nat}, k ≤ S → Rm (S' - S) (brun s D (bz0 S) k) (brun s D (bz0 S') k) ∧ bdon s D (bz0 S') k = bdon s D (bz0 S) k
  | 0, _ => by
    refine ⟨⟨rfl, by simp only [brun, bz0]; omega, ?_⟩, rfl⟩
    simp only [brun, bz0, List.replicate_append_replicate]
    congr 1; omega
  | k + 1, hk => by
    obtain ⟨ih, ih2⟩ := rm_run hs hD hS (k := k) (by omega)
    have hz := brun_ok hs hD (S := S) (k := k) (by omega)
    rw [brun, brun, bdon, bdon, ih.st, ih2]
    split
    · exact ⟨rm_step ih hz (by omega), rfl⟩
    · exact ⟨ih, rfl⟩
theorem rm_sum {a : Nat} {z y : Bz} (h : Rm a z y) : y.tape.sum = z.tape.sum := by rw [h.tape]; simp

end Go.Av
