/- Cells, without programs: which rules have a word that has none ahead. -/
import Derived.Test.YtlemkfgipbfjhaaCellO
set_option linter.unusedSimpArgs false
set_option linter.unusedVariables false
set_option maxRecDepth 100000
namespace Go.Av

/-- the first word of n cells, from a set of last two cells on, that has none ahead -/
def fo (rule : Nat) : Nat → List Bool → Option (List Bool)
  | 0, s => if s.any id = true then none else some []
  | n + 1, s => match fo rule n (rf rule s false 8) with
    | some r => some (false :: r)
    | none => (fo rule n (rf rule s true 8)).map (true :: ·)

theorem wd_low {k w : Nat} (h : w < 2 ^ k) : wd (k + 1) w = false :: wd k w := by
  unfold wd
  rw [List.range_succ_eq_map, List.map_cons, List.map_map]
  refine congr (congrArg _ ?_) (List.map_congr_left fun j hj => ?_)
  · simp only [Nat.add_sub_cancel, Nat.sub_zero]
    exact Nat.testBit_lt_two_pow h
  · have : j < k := by simpa using hj
    simp only [Function.comp, Nat.succ_eq_add_one]
    rw [show k + 1 - 1 - (j + 1) = k - 1 - j by omega]
theorem wd_high {k w : Nat} (h : w < 2 ^ k) : wd (k + 1) (2 ^ k + w) = true :: wd k w := by
  unfold wd
  rw [List.range_succ_eq_map, List.map_cons, List.map_map]
  refine congr (congrArg _ ?_) (List.map_congr_left fun j hj => ?_)
  · simp only [Nat.add_sub_cancel, Nat.sub_zero]
    rw [Nat.testBit_two_pow_add_eq, Nat.testBit_lt_two_pow h]; rfl
  · have hj' : j < k := by simpa using hj
    simp only [Function.comp, Nat.succ_eq_add_one]
    rw [show k + 1 - 1 - (j + 1) = k - 1 - j by omega, Nat.testBit_two_pow_add_gt (by omega)]

theorem findSome_add {α : Type} (f : Nat → Option α) (a b : Nat) : (List.range (a + b)).findSome? f = ((List.range a).findSome? f).or ((List.range b).findSome? fun j => f (a + j)) := by
  rw [List.range_add, List.findSome?_append, List.findSome?_map]; rfl

theorem findSome_congr {α β : Type} {f g : α → Option β} {l : List α} (h : ∀ x ∈ l, f x = g x) : l.findSome? f = l.findSome? g := by
  induction l with
  | nil => rfl
  | cons x l ih =>
    simp only [List.findSome?_cons]
    rw [h x (by simp), ih (fun y hy => h y (by simp [hy]))]

theorem fo_eq (rule : Nat) : ∀ (k : Nat) (s : List Bool), ((List.range (2 ^ k)).findSome? fun w => if (rset rule s (wd k w)).any id = true then none else some (wd k w)) = fo rule k s := by
  intro k
  induction k with
  | zero => intro s; simp [wd, rset, fo]
  | succ k ih =>
    intro s
    rw [show 2 ^ (k + 1) = 2 ^ k + 2 ^ k by rw [Nat.pow_succ]; omega, findSome_add, fo, ← ih, ← ih]
    have e1 : ((List.range (2 ^ k)).findSome? fun w => if (rset rule s (wd (k + 1) w)).any id = true then none else some (wd (k + 1) w)) =
        ((List.range (2 ^ k)).findSome? fun w => if (rset rule (rf rule s false 8) (wd k w)).any id = true then none else some (wd k w)).map (false :: ·) := by
      rw [List.map_findSome?]
      refine findSome_congr fun w hw => ?_
      rw [wd_low (by simpa using hw)]
      have e : rset rule s (false :: wd k w) = rset rule (rf rule s false 8) (wd k w) := rfl
      rw [e]
      show _ = Option.map (false :: ·) (if _ then _ else _)
      by_cases hh : (rset rule (rf rule s false 8) (wd k w)).any id = true
      · rw [if_pos hh, if_pos hh]; rfl
      · rw [if_neg hh, if_neg hh]; rfl
    have e2 : ((List.range (2 ^ k)).findSome? fun w => if (rset rule s (wd (k + 1) (2 ^ k + w))).any id = true then none else some (wd (k + 1) (2 ^ k + w))) =
        ((List.range (2 ^ k)).findSome? fun w => if (rset rule (rf rule s true 8) (wd k w)).any id = true then none else some (wd k w)).map (true :: ·) := by
      rw [List.map_findSome?]
      refine findSome_congr fun w hw => ?_
      rw [wd_high (by simpa using hw)]
      have e : rset rule s (true :: wd k w) = rset rule (rf rule s true 8) (wd k w) := rfl
      rw [e]
      show _ = Option.map (true :: ·) (if _ then _ else _)
      by_cases hh : (rset rule (rf rule s true 8) (wd k w)).any id = true
      · rw [if_pos hh, if_pos hh]; rfl
      · rw [if_neg hh, if_neg hh]; rfl
    rw [e1, e2]
    cases (List.range (2 ^ k)).findSome? fun w => if (rset rule (rf rule s false 8) (wd k w)).any id = true then none else some (wd k w) <;> rfl

theorem orphK_fo (rule k : Nat) : orphK rule k = fo rule k canT := fo_eq rule k canT

/-- the first word of at most n cells that has none ahead, found by sets -/
def orphF (rule n : Nat) : Option (List Bool) := (List.range n).findSome? fun k => fo rule (k + 1) canT
theorem orph_F (rule n : Nat) : orph rule n = orphF rule n := findSome_congr fun k _ => orphK_fo rule (k + 1)

/-- all sets that are come to -/
def clo (rule : Nat) : Nat → List (List Bool) → List (List Bool) → List (List Bool)
  | 0, _, seen => seen
  | _ + 1, [], seen => seen
  | f + 1, s :: q, seen =>
    let s0 := rf rule s false 8
    let s1 := rf rule s true 8
    let n0 := if seen.contains s0 = true then [] else [s0]
    let n1 := if (n0 ++ seen).contains s1 = true then [] else [s1]
    clo rule f (q ++ (n0 ++ n1)) (n1 ++ (n0 ++ seen))
def closedB (rule : Nat) (R : List (List Bool)) : Bool := R.contains canT && R.all fun s => s.any id && (R.contains (rf rule s false 8) && R.contains (rf rule s true 8))
def ontoB (rule : Nat) : Bool := closedB rule (clo rule 16 [canT] [canT])

theorem closed_all {rule : Nat} {R : List (List Bool)} (h : closedB rule R = true) : ∀ (word : List Bool) (s : List Bool), s ∈ R → rset rule s word ∈ R := by
  simp only [closedB, Bool.and_eq_true, List.all_eq_true, List.contains_iff_mem] at h
  intro word
  induction word with
  | nil => intro s hs; exact hs
  | cons x r ih =>
    intro s hs
    have := (h.2 s hs).2
    cases x
    · exact ih _ this.1
    · exact ih _ this.2
theorem onto_reached {rule : Nat} (h : ontoB rule = true) (word : List Bool) : reachedB rule word = true := by
  have h1 := h
  simp only [ontoB, closedB, Bool.and_eq_true, List.all_eq_true, List.contains_iff_mem] at h1
  exact (h1.2 _ (closed_all h word canT h1.1)).1
theorem onto_orph {rule : Nat} (h : ontoB rule = true) (n : Nat) : orph rule n = none :=
  findSome_no fun k _ => findSome_no fun w _ => by rw [orphW, onto_reached h, if_pos rfl]

theorem all_rules : ((List.range 256).all fun r => ontoB r || (orphF r 9).isSome) = true := by kernel_rfl

theorem rules {rule : Nat} (hr : rule < 256) : ontoB rule = true ∨ ∃ w, orphF rule 9 = some w := by
  have := (List.all_eq_true.1 all_rules) rule (by simpa using hr)
  rw [Bool.or_eq_true, Option.isSome_iff_exists] at this
  exact this

theorem orph_more {rule n m : Nat} {w : List Bool} (h : orphF rule n = some w) (hm : n ≤ m) : orphF rule m = some w := by
  obtain ⟨q, rfl⟩ : ∃ q, m = n + q := ⟨m - n, by omega⟩
  rw [orphF, findSome_add]
  rw [orphF] at h
  rw [h]; rfl

end Go.Av
