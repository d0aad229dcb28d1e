/- The compiled code, place by place. -/
import Derived.Test.YtjehogambhkpgaaDoorTwoF
import Derived.Test.YtjehogambhkpgaaDoorTwoS
set_option linter.unusedSimpArgs false
set_option linter.unusedVariables false
set_option maxRecDepth 100000
namespace Go.Av
open Go.Proofs

/-- where the code of an instruction starts -/
def psn : List Ord → Nat → Nat
  | _, 0 => 0
  | [], _ + 1 => 0
  | o :: l, i + 1 => blkLen o + psn l i
theorem psn_zero (l : List Ord) : psn l 0 = 0 := by cases l <;> rfl
theorem psn_append {l r : List Ord} : ∀ {i : Nat}, i ≤ l.length → psn (l ++ r) i = psn l i := by
  induction l with
  | nil => intro i hi; simp at hi; subst hi; simp [psn_zero]
  | cons o l ih =>
    intro i hi
    cases i with
    | zero => simp [psn_zero]
    | succ i => simp only [List.cons_append, psn]; rw [ih (by simpa using hi)]
theorem psn_succ : ∀ {l : List Ord} {i : Nat} (h : i < l.length), psn l (i + 1) = psn l i + blkLen l[i]
  | o :: l, 0, _ => by simp [psn, psn_zero]
  | o :: l, i + 1, h => by
    have := psn_succ (l := l) (i := i) (by simpa using h)
    simp only [psn, List.getElem_cons_succ] at this ⊢
    omega
theorem psn_lt {l : List Ord} : ∀ {i j : Nat}, i < j → j ≤ l.length → psn l i < psn l j := by
  intro i j hij
  induction j with
  | zero => omega
  | succ j ih =>
    intro hj
    have h1 := psn_succ (l := l) (i := j) (by omega)
    have h2 := blkLen_le l[j]
    by_cases c : i = j
    · subst c; omega
    · have := ih (by omega) (by omega); omega
theorem psn_le {l : List Ord} {i j : Nat} (h : i ≤ j) (hj : j ≤ l.length) : psn l i ≤ psn l j := by
  by_cases c : i = j
  · subst c; omega
  · exact Nat.le_of_lt (psn_lt (by omega) hj)

def bgs (l : List Ord) : List Nat := (List.range (l.length + 1)).map (psn l)
theorem bgs_get {l : List Ord} {i : Nat} (h : i ≤ l.length) : (bgs l)[i]? = some (psn l i) := by
  simp [bgs, List.getElem?_range (show i < l.length + 1 by omega)]
theorem bgs_mem {l : List Ord} {i : Nat} (h : i ≤ l.length) : psn l i ∈ bgs l := List.mem_of_getElem? (bgs_get h)
theorem bgs_not {l : List Ord} {i j : Nat} (hi : i < l.length) (h1 : 1 ≤ j) (h2 : j < blkLen l[i]) : psn l i + j ∉ bgs l := by
  intro hm
  simp only [bgs, List.mem_map, List.mem_range] at hm
  obtain ⟨k, hk, he⟩ := hm
  have hs := psn_succ hi
  by_cases c : k ≤ i
  · have := psn_le c (show i ≤ l.length by omega); omega
  · have := psn_le (l := l) (show i + 1 ≤ k by omega) (by omega); omega

theorem bld_psn (l : List Ord) : (bld l).1.length = psn l l.length ∧ (bld l).2.2 = (List.range l.length).map (psn l) := by
  refine snocInd (P := fun l => (bld l).1.length = psn l l.length ∧ (bld l).2.2 = (List.range l.length).map (psn l)) (by simp [bld_nil, psn_zero]) (fun l o ih => ?_) l
  obtain ⟨h1, h2⟩ := ih
  have e1 : psn (l ++ [o]) l.length = psn l l.length := psn_append (Nat.le_refl _)
  have e2 := psn_succ (l := l ++ [o]) (i := l.length) (by simp)
  rw [bld_snoc]
  refine ⟨?_, ?_⟩
  · simp only [List.length_append, blk0_length, List.length_cons, List.length_nil]
    rw [e2, e1, h1]; simp
  · simp only [List.length_append, List.length_cons, List.length_nil, List.range_succ, List.map_append, List.map_cons, List.map_nil]
    rw [h2, h1, e1]
    congr 1
    refine List.map_congr_left fun i hi => ?_
    rw [psn_append (by have := List.mem_range.1 hi; omega)]
theorem sts_eq (l : List Ord) : sts l = (bgs l).map Int.ofNat := by
  obtain ⟨h1, h2⟩ := bld_psn l
  rw [sts, h1, h2, bgs, List.range_succ]; simp

/-- at which places of its code an instruction leaves it -/
def ptAt (o : Ord) (j : Nat) : Option Int := if j = prm o + 1 then some o.next else if o.kind ≠ 1 ∧ j = 2 * prm o + 2 then some o.zero else none

theorem pts_old {es : List (Int × Int)} {q : Nat} {o : Ord} {a : Nat} (h : a < q) : afind (pts es q o) (a : Nat) = afind es (a : Nat) := by
  have := prm_range o
  unfold pts
  split
  · rw [afind_aset, if_neg (by omega)]
  · rw [afind_aset, if_neg (by omega), afind_aset, if_neg (by omega)]
theorem pts_new {es : List (Int × Int)} {q : Nat} {o : Ord} {j : Nat} (h : afind es ((q + j : Nat) : Int) = none) : afind (pts es q o) ((q + j : Nat) : Int) = ptAt o j := by
  have := prm_range o
  unfold pts ptAt
  split
  · rename_i hk
    rw [afind_aset]
    by_cases c : j = prm o + 1
    · rw [if_pos (by omega), if_pos c]
    · rw [if_neg (by omega), if_neg c, if_neg (fun hh => hh.1 hk), h]
  · rename_i hk
    rw [afind_aset, afind_aset]
    by_cases c : j = prm o + 1
    · rw [if_neg (by omega), if_pos (by omega), if_pos c]
    · by_cases c2 : j = 2 * prm o + 2
      · rw [if_pos (by omega), if_neg c, if_pos ⟨hk, c2⟩]
      · rw [if_neg (by omega), if_neg (by omega), if_neg c, if_neg (fun hh => c2 hh.2), h]

theorem ptAt_lt {o : Ord} {j : Nat} (h : blkLen o ≤ j) : ptAt o j = none := by
  have := prm_range o
  unfold blkLen at h
  unfold ptAt
  split at h
  · rename_i hk; rw [if_neg (by omega), if_neg (fun hh => hh.1 hk)]
  · rw [if_neg (by omega), if_neg (fun hh => by omega)]

theorem bld_far (l : List Ord) : ∀ a : Nat, (bld l).1.length ≤ a → afind (bld l).2.1 (a : Nat) = none := by
  refine snocInd (P := fun l => ∀ a : Nat, (bld l).1.length ≤ a → afind (bld l).2.1 (a : Nat) = none) (by intro a _; rfl) (fun l o ih a ha => ?_) l
  rw [bld_snoc] at ha ⊢
  simp only [List.length_append, blk0_length] at ha
  obtain ⟨j, rfl⟩ : ∃ j, a = (bld l).1.length + j := ⟨a - (bld l).1.length, by omega⟩
  have h1 := pts_new (o := o) (ih ((bld l).1.length + j) (by omega))
  rw [h1, ptAt_lt (by omega)]

theorem bld_at (l : List Ord) : ∀ (i : Nat) (hi : i < l.length), At (bld l).1 (psn l i) (blk0 (psn l i) l[i]) ∧ ∀ j, j < blkLen l[i] → afind (bld l).2.1 ((psn l i + j : Nat) : Int) = ptAt l[i] j := by
  refine snocInd (P := fun l => ∀ (i : Nat) (hi : i < l.length), At (bld l).1 (psn l i) (blk0 (psn l i) l[i]) ∧ ∀ j, j < blkLen l[i] → afind (bld l).2.1 ((psn l i + j : Nat) : Int) = ptAt l[i] j)
    (by intro i hi; simp at hi) (fun l o ih i hi => ?_) l
  have hps := (bld_psn l).1
  rw [bld_snoc]
  by_cases c : i < l.length
  · obtain ⟨h1, h2⟩ := ih i c
    have e1 : psn (l ++ [o]) i = psn l i := psn_append (by omega)
    have e2 : (l ++ [o])[i] = l[i] := by simp [c]
    have hs := psn_succ c
    have hle := psn_le (l := l) (show i + 1 ≤ l.length by omega) (Nat.le_refl _)
    rw [e1, e2]
    refine ⟨fun j x hx => ?_, fun j hj => ?_⟩
    · have := h1 j x hx
      rw [List.getElem?_append_left (List.getElem?_eq_some_iff.1 this).1]; exact this
    · rw [pts_old (by omega)]; exact h2 j hj
  · have hil : i = l.length := by simp at hi; omega
    subst hil
    have e1 : psn (l ++ [o]) l.length = psn l l.length := psn_append (Nat.le_refl _)
    have e2 : (l ++ [o])[l.length] = o := by simp
    rw [e1, e2, ← hps]
    refine ⟨fun j x hx => ?_, fun j hj => ?_⟩
    · rw [List.getElem?_append_right (by omega)]; simpa using hx
    · exact pts_new (bld_far l _ (by omega))

theorem bld_cover (l : List Ord) : ∀ a, a < (bld l).1.length → ∃ (i j : Nat) (hi : i < l.length), a = psn l i + j ∧ j < blkLen l[i] := by
  intro a ha
  rw [(bld_psn l).1] at ha
  have : ∀ k, k ≤ l.length → a < psn l k → ∃ (i j : Nat) (hi : i < l.length), a = psn l i + j ∧ j < blkLen l[i] := by
    intro k
    induction k with
    | zero => intro _ h; rw [psn_zero] at h; omega
    | succ k ih =>
      intro hk h
      by_cases c : a < psn l k
      · exact ih (by omega) c
      · have := psn_succ (l := l) (i := k) (by omega)
        exact ⟨k, a - psn l k, by omega, by omega, by omega⟩
  exact this l.length (Nat.le_refl _) ha

end Go.Av
