/- Circuits: how deep; what the functions tell. -/
import Derived.Test.YtblakcgmngdhmaaGateB
set_option linter.unusedSimpArgs false
set_option linter.unusedVariables false
set_option maxRecDepth 100000
namespace Go.Av
open Go.Proofs

def dev (v : List Nat) (g : Gt) : Nat :=
  if g.kind = 1 then 0 else if g.kind = 2 then v.getD g.a.toNat 0 + 1 else max (v.getD g.a.toNat 0) (v.getD g.b.toNat 0) + 1
def dpk (l : List Gt) : Nat → List Nat
  | 0 => []
  | k + 1 => dpk l k ++ [dev (dpk l k) (gAt l k)]
theorem dpk_length (l : List Gt) : ∀ k, (dpk l k).length = k
  | 0 => rfl
  | k + 1 => by simp [dpk, dpk_length l k]
theorem dpk_le (l : List Gt) : ∀ k, ∀ x ∈ dpk l k, x ≤ k
  | 0, x, hx => by simp [dpk] at hx
  | k + 1, x, hx => by
    have ih := dpk_le l k
    have hg : ∀ i, (dpk l k).getD i 0 ≤ k := fun i => by
      rw [List.getD_eq_getElem?_getD]
      cases h : (dpk l k)[i]? with
      | none => simp
      | some y => exact ih y (List.mem_of_getElem? h)
    rw [dpk] at hx
    rcases List.mem_append.1 hx with hx | hx
    · have := ih x hx; omega
    · have h1 := hg (gAt l k).a.toNat
      have h2 := hg (gAt l k).b.toNat
      simp only [List.mem_singleton] at hx
      subst hx
      simp only [dev]; split
      · omega
      · split <;> omega
def dpArr (l : List Gt) (k : Nat) : List AV := (dpk l k).map IN ++ List.replicate (l.length - k) (I 0)
theorem dpArr_length {l : List Gt} {k : Nat} (h : k ≤ l.length) : (dpArr l k).length = l.length := by simp [dpArr, dpk_length]; omega
theorem dpArr_get {l : List Gt} {k i : Nat} (h : i < k) : (dpArr l k)[i]? = some (IN ((dpk l k).getD i 0)) := by
  have hl := dpk_length l k
  rw [dpArr, List.getElem?_append_left (by simp [hl]; exact h), List.getElem?_map, List.getElem?_eq_getElem (by omega), List.getD_eq_getElem?_getD, List.getElem?_eq_getElem (by omega)]; rfl
theorem dpArr_set {l : List Gt} {k : Nat} (h : k < l.length) : (dpArr l k).set k (IN (dev (dpk l k) (gAt l k))) = dpArr l (k + 1) := by
  have hl := dpk_length l k
  rw [dpArr, List.set_append_right _ _ (by simp [hl]), List.length_map, hl, Nat.sub_self, show l.length - k = (l.length - (k + 1)) + 1 by omega, List.replicate_succ, List.set_cons_zero, dpArr, dpk, List.map_append, List.append_assoc]
  rfl
theorem dpArr_skip {l : List Gt} {k : Nat} (h : k < l.length) (hd : dev (dpk l k) (gAt l k) = 0) : dpArr l k = dpArr l (k + 1) := by
  rw [dpArr, show l.length - k = (l.length - (k + 1)) + 1 by omega, List.replicate_succ, dpArr, dpk, hd, List.map_append, List.append_assoc]
  rfl

theorem gate_ok {inn : Int} {l : List Gt} (h : gateErr inn l = 0) : (0 ≤ inn ∧ inn ≤ 5) ∧ (1 ≤ l.length ∧ l.length ≤ 40) ∧ GsOk inn l := by
  rw [gateErr] at h
  split at h
  · omega
  · rename_i h1
    exact ⟨by omega, by omega, gs_ok.1 h⟩
/-- the circuit's value at a word -/
def gval (w : Nat) (l : List Gt) : Bool := (gvk w l l.length).getD (l.length - 1) false
def gdeep (l : List Gt) : Nat := (dpk l l.length).getD (l.length - 1) 0
def valueAns (inn : Int) (l : List Gt) (v : List Bool) : AV :=
  if gateErr inn l ≠ 0 then .tup [Bo false, I (gateErr inn l)] else if (v.length : Int) ≠ inn then .tup [Bo false, I 3] else .tup [Bo (gval (wordN v) l), I 0]
def deepAns (inn : Int) (l : List Gt) : AV := if gateErr inn l ≠ 0 then .tup [I 0, I (gateErr inn l)] else .tup [IN (gdeep l), I 0]
theorem gval_get {w : Nat} {l : List Gt} (h : 1 ≤ l.length) : ((gvk w l l.length).map Bo)[l.length - 1]? = some (Bo (gval w l)) := by
  have hl := gvk_length w l l.length
  rw [List.getElem?_map, List.getElem?_eq_getElem (by omega), gval, List.getD_eq_getElem?_getD, List.getElem?_eq_getElem (by omega)]; rfl
theorem gdeep_get {l : List Gt} (h : 1 ≤ l.length) : ((dpk l l.length).map IN)[l.length - 1]? = some (IN (gdeep l)) := by
  have hl := dpk_length l l.length
  rw [List.getElem?_map, List.getElem?_eq_getElem (by omega), gdeep, List.getD_eq_getElem?_getD, List.getElem?_eq_getElem (by omega)]; rfl
theorem hasGates {x : AV} (h : Has (.slice 3 (.agg [.int .i64, .int .i64, .int .i64])) x) : ∃ l : List Gt, x = .ro 3 (l.map encG) ∧ (l.length : Int) < 2 ^ 63 := by
  cases h with
  | slice hl hh =>
    obtain ⟨l, rfl⟩ := listOf (enc := encG) (fun i x hx => by
      obtain ⟨y, z, w, h1, h2, h3, rfl⟩ := hasAgg3 (hh i x hx)
      obtain ⟨a, rfl, _⟩ := hasInt h1
      obtain ⟨b, rfl, _⟩ := hasInt h2
      obtain ⟨c, rfl, _⟩ := hasInt h3
      exact ⟨⟨a, b, c⟩, rfl⟩)
    refine ⟨l, rfl, ?_⟩
    simp only [List.length_map] at hl
    have : maxLen < 2 ^ 63 := by decide
    omega
def bldErr (inn : Int) (t : List Bool) : Int := if ¬(1 ≤ inn ∧ inn ≤ 5) then 1 else if t.length ≠ 2 ^ inn.toNat then 3 else 0
def shGates : Sh := .slice 3 (.agg [.int .i64, .int .i64, .int .i64])

end Go.Av
