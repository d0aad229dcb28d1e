/- Small machines: machines and their numbers. -/
import Derived.Test.YtegokadlkgghlaaBusyN
import Derived.Test.YtegokadlkgghlaaBusyD
import Derived.Test.YtegokadlkgghlaaOpen
set_option linter.unusedSimpArgs false
set_option linter.unusedVariables false
set_option maxRecDepth 100000
namespace Go.Av
open Go.Proofs

def bldR (s d : Nat) : Rule := ⟨(d / (s + 1) / 2 : Nat), if d / (s + 1) % 2 = 1 then 1 else -1, (d % (s + 1) : Nat)⟩
def bldM (s n : Nat) : Mach := ⟨s, 2, (List.range s).map fun i => [bldR s (dgt s n (2 * i)), bldR s (dgt s n (2 * i + 1))]⟩
def bldTop (s : Nat) : Nat := (4 * (s + 1)) ^ (2 * s)

theorem bldR_num (s d : Nat) (n : Int) (l : List Rule) : numG s n (bldR s d :: l) = numG s (n * 4 * ((s : Int) + 1) + (d : Int)) l := by
  have h1 := Nat.div_add_mod d (s + 1)
  have h2 := Nat.div_add_mod (d / (s + 1)) 2
  rw [numG]
  have hm : ¬ (bldR s d).m = 0 := by simp only [bldR]; split <;> omega
  rw [if_neg hm]
  congr 1
  have key : (2 * (bldR s d).w + (if (bldR s d).m > 0 then 1 else 0)) = ((d / (s + 1) : Nat) : Int) := by
    have hw : (bldR s d).w = ((d / (s + 1) / 2 : Nat) : Int) := rfl
    by_cases hq : d / (s + 1) % 2 = 1
    · have em : (bldR s d).m = 1 := by simp [bldR, hq]
      rw [if_pos (by rw [em]; decide), hw]; omega
    · have em : (bldR s d).m = -1 := by simp [bldR, hq]
      rw [if_neg (by rw [em]; decide), hw]; omega
  rw [key]
  have hn : (bldR s d).n = ((d % (s + 1) : Nat) : Int) := rfl
  rw [hn]
  have : ((d / (s + 1) : Nat) : Int) * ((s : Int) + 1) + ((d % (s + 1) : Nat) : Int) = (d : Int) := by
    rw [show (s : Int) + 1 = ((s + 1 : Nat) : Int) by omega, ← Int.natCast_mul, Nat.mul_comm]; omega
  omega
theorem bldM_num {s n : Nat} (hs : s = 1 ∨ s = 2) (hn : n < bldTop s) : digM (bldM s n) = n := by
  rcases hs with rfl | rfl
  · have e : (bldM 1 n).rules.flatten = [bldR 1 (dgt 1 n 0), bldR 1 (dgt 1 n 1)] := by simp [bldM]
    have ht : bldTop 1 = 64 := rfl
    have d0 : dgt 1 n 0 = n / 8 % 8 := rfl
    have d1 : dgt 1 n 1 = n / 1 % 8 := rfl
    rw [digM, e]
    show numG ((1 : Nat) : Int) 0 _ = _
    rw [bldR_num, bldR_num, numG, d0, d1]
    omega
  · have e : (bldM 2 n).rules.flatten = [bldR 2 (dgt 2 n 0), bldR 2 (dgt 2 n 1), bldR 2 (dgt 2 n 2), bldR 2 (dgt 2 n 3)] := by simp [bldM, List.range_succ]
    have ht : bldTop 2 = 20736 := rfl
    have d0 : dgt 2 n 0 = n / 1728 % 12 := rfl
    have d1 : dgt 2 n 1 = n / 144 % 12 := rfl
    have d2 : dgt 2 n 2 = n / 12 % 12 := rfl
    have d3 : dgt 2 n 3 = n / 1 % 12 := rfl
    rw [digM, e]
    show numG ((2 : Nat) : Int) 0 _ = _
    rw [bldR_num, bldR_num, bldR_num, bldR_num, numG, d0, d1, d2, d3]
    omega
theorem bldR_ok {s d : Nat} (hd : d < 4 * (s + 1)) : ruleErr 2 s (bldR s d) = 0 := by
  have hq : d / (s + 1) < 4 := Nat.div_lt_of_lt_mul (by omega)
  have hm := Nat.mod_lt d (show 0 < s + 1 by omega)
  have e1 : (bldR s d).w = ((d / (s + 1) / 2 : Nat) : Int) := rfl
  have e2 : (bldR s d).n = ((d % (s + 1) : Nat) : Int) := rfl
  have e3 : -1 ≤ (bldR s d).m ∧ (bldR s d).m ≤ 1 := by simp only [bldR]; split <;> omega
  generalize d / (s + 1) = u at *
  unfold ruleErr
  rw [if_neg (by rw [e1]; omega), if_neg (by omega), if_neg (by rw [e2]; omega)]
theorem bldM_ok {s n : Nat} (hs : s = 1 ∨ s = 2) : machErr (bldM s n) = 0 := by
  have hD := dgt_ok s n
  have hr : rulesErr (bldM s n) = 0 := by
    rcases hs with rfl | rfl
    · simp [rulesErr, bldM, firstErr, bldR_ok (hD _)]
      have h0 := bldR_ok (hD 0); have h1 := bldR_ok (hD 1)
      simp at h0 h1; simp [h0, h1]
    · simp [rulesErr, bldM, firstErr, List.range_succ]
      have h0 := bldR_ok (hD 0); have h1 := bldR_ok (hD 1); have h2 := bldR_ok (hD 2); have h3 := bldR_ok (hD 3)
      simp at h0 h1 h2 h3; simp [h0, h1, h2, h3]
  rw [machErr, if_neg, if_neg, hr]
  · rcases hs with rfl | rfl <;> simp [formOk, bldM, List.range_succ]
  · rcases hs with rfl | rfl <;> simp [sizeOk, bldM]

def bldErr (s n : Int) : Int := if ¬(1 ≤ s ∧ s ≤ 2) then 1 else if n < 0 ∨ (bldTop s.toNat : Int) ≤ n then 4 else 0
def buildAnsM (s n : Int) : AV := if bldErr s n ≠ 0 then .tup [.agg [I 0, I 0, .ro 1 []], I (bldErr s n)] else .tup [encM (bldM s.toNat n.toNat), I 0]
def nbrErr (m : Mach) : Int := if machErr m ≠ 0 then machErr m else if m.states > 2 ∨ m.signs ≠ 2 ∨ digM m < 0 then 3 else 0
def numberAns (m : Mach) : AV := if nbrErr m ≠ 0 then .tup [I 0, I (nbrErr m)] else .tup [I (digM m), I 0]

theorem bldErr_ok {s n : Int} (h : bldErr s n = 0) : (s = 1 ∨ s = 2) ∧ 0 ≤ n ∧ n < (bldTop s.toNat : Int) := by
  rw [bldErr] at h
  split at h
  · omega
  · split at h
    · omega
    · rename_i h1 h2; omega
theorem nbr_bld {s n : Int} (h : bldErr s n = 0) : numberAns (bldM s.toNat n.toNat) = .tup [I n, I 0] := by
  obtain ⟨h1, h2, h3⟩ := bldErr_ok h
  have hs : s.toNat = 1 ∨ s.toNat = 2 := by omega
  have hd := bldM_num (n := n.toNat) hs (by omega)
  have hn : nbrErr (bldM s.toNat n.toNat) = 0 := by
    rw [nbrErr, if_neg (by rw [bldM_ok hs]; simp), if_neg]
    rw [hd]
    rintro (h | h | h)
    · have : (bldM s.toNat n.toNat).states = s.toNat := rfl
      omega
    · exact h rfl
    · omega
  rw [numberAns, if_neg (by rw [hn]; simp), hd, Int.toNat_of_nonneg h2]

end Go.Av
