/- Functions, without programs: the rows of the Ackermann function. -/
import Derived.Test.YtpkgddjmhgcjjaaHas
set_option linter.unusedSimpArgs false
set_option linter.unusedVariables false
set_option maxRecDepth 100000
namespace Go.Av
open Go.Proofs

def fr (k : Nat) : List Nat := (List.range k).map (· + 1) ++ List.replicate (1000 - k) 0
theorem fr_length {k : Nat} (h : k ≤ 1000) : (fr k).length = 1000 := by simp [fr]; omega
theorem fr_succ {k : Nat} (h : k < 1000) : (fr k).set k (k + 1) = fr (k + 1) := by
  unfold fr
  rw [List.set_append_right _ _ (by simp), List.length_map, List.length_range, Nat.sub_self, show 1000 - k = (1000 - (k + 1)) + 1 by omega, List.replicate_succ, List.set_cons_zero, List.range_succ, List.map_append]
  simp
def row0 : List Nat := (List.range 1000).map (· + 1)
def nxt (row : List Nat) : Nat → Nat → List Nat
  | 0, _ => []
  | f + 1, p => if p < row.length then row.getD p 0 :: nxt row f (row.getD p 0) else []
def nextL (row : List Nat) : List Nat := nxt row 1001 1
/-- a row that may be gone through -/
def ackRow (row : List Nat) : Prop := row.length ≤ 1000 ∧ ∀ i, i < row.length → i < row.getD i 0 ∧ row.getD i 0 ≤ 1000
def rowM : Nat → List Nat
  | 0 => row0
  | m + 1 => nextL (rowM m)
def rowC : Nat → List Nat
  | 0 => (List.range 1000).map (· + 1)
  | 1 => (List.range 999).map (· + 2)
  | 2 => (List.range 499).map (fun n => 2 * n + 3)
  | 3 => [5, 13, 29, 61, 125, 253, 509]
  | 4 => [13]
  | _ => []
theorem row_1 : nextL (rowC 0) = rowC 1 := by kernel_rfl
theorem row_2 : nextL (rowC 1) = rowC 2 := by kernel_rfl
theorem row_3 : nextL (rowC 2) = rowC 3 := by kernel_rfl
theorem row_4 : nextL (rowC 3) = rowC 4 := by kernel_rfl
theorem rowM_C : ∀ m, m ≤ 4 → rowM m = rowC m
  | 0, _ => rfl
  | 1, _ => row_1
  | 2, _ => by rw [rowM, rowM_C 1 (by omega), row_2]
  | 3, _ => by rw [rowM, rowM_C 2 (by omega), row_3]
  | 4, _ => by rw [rowM, rowM_C 3 (by omega), row_4]
theorem rangeMap_getD (f : Nat → Nat) {n i : Nat} (h : i < n) : ((List.range n).map f).getD i 0 = f i := by
  rw [List.getD_eq_getElem?_getD, List.getElem?_map, List.getElem?_range h]; rfl
theorem rowC_ok : ∀ m, m ≤ 4 → ackRow (rowC m)
  | 0, _ => ⟨by simp [rowC], fun i hi => by simp only [rowC, List.length_map, List.length_range] at hi ⊢; rw [rangeMap_getD _ hi]; omega⟩
  | 1, _ => ⟨by simp [rowC], fun i hi => by simp only [rowC, List.length_map, List.length_range] at hi ⊢; rw [rangeMap_getD _ hi]; omega⟩
  | 2, _ => ⟨by simp [rowC], fun i hi => by simp only [rowC, List.length_map, List.length_range] at hi ⊢; rw [rangeMap_getD _ hi]; omega⟩
  | 3, _ => ⟨by simp [rowC], by decide⟩
  | 4, _ => ⟨by simp [rowC], by decide⟩

end Go.Av
