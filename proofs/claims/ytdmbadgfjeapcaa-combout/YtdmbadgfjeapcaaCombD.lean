/- Terms of combinators: what the functions tell; lists that are laid. -/
import Derived.Test.YtdmbadgfjeapcaaCombC
set_option linter.unusedSimpArgs false
set_option linter.unusedVariables false
set_option maxRecDepth 100000
namespace Go.Av
open Go.Proofs

theorem prt_size {t u : Tm} (h : prtT t = some u) : u.size ≤ 2 * t.size := by
  unfold prtT at h
  split at h
  · cases h; simp only [Tm.size]; omega
  · cases h; simp only [Tm.size]; omega
  · cases h
theorem step_size {t u : Tm} (h : stepT t = some u) : u.size ≤ 2 * t.size := by
  induction t generalizing u with
  | put a b iha ihb =>
    rw [stepT] at h
    split at h
    · rename_i p hp; cases h; exact prt_size hp
    · split at h
      · rename_i a' ha; cases h; have := iha ha; simp only [Tm.size]; omega
      · split at h
        · rename_i b' hb; cases h; have := ihb hb; simp only [Tm.size]; omega
        · cases h
  | _ => simp [stepT] at h
theorem out_size (w : Int) : ∀ t : Tm, (outT w t).size ≤ 5 * t.size
  | .put a b => by
    have ha := out_size w a
    have hb := out_size w b
    have pa := a.size_pos
    have pb := b.size_pos
    rw [outT]; split
    · simp only [Tm.size]; omega
    · simp only [Tm.size]; omega
  | .v n => by simp only [outT]; split <;> simp [Tm.size]
  | .s => by simp [outT, standsT, Tm.size]
  | .k => by simp [outT, standsT, Tm.size]

/-- steps, as long as the tree is not too great -/
def nrmT (t : Tm) : Nat → Option (Tm × Nat)
  | 0 => some (t, 0)
  | n + 1 => match nrmT t n with
    | none => none
    | some (u, k) => match stepT u with
      | none => some (u, k)
      | some u' => if 300 < u'.size then none else some (u', k + 1)
theorem nrm_none {t : Tm} {n : Nat} (h : nrmT t n = none) : ∀ {m : Nat}, n ≤ m → nrmT t m = none
  | 0, hm => by obtain rfl : n = 0 := by omega
                exact h
  | m + 1, hm => by
    by_cases he : n = m + 1
    · subst he; exact h
    · rw [nrmT, nrm_none h (m := m) (by omega)]
theorem nrm_stop {t u : Tm} {n k : Nat} (h : nrmT t n = some (u, k)) (hs : stepT u = none) : ∀ {m : Nat}, n ≤ m → nrmT t m = some (u, k)
  | 0, hm => by obtain rfl : n = 0 := by omega
                exact h
  | m + 1, hm => by
    by_cases he : n = m + 1
    · subst he; exact h
    · rw [nrmT, nrm_stop h hs (m := m) (by omega)]
      simp only [hs]
theorem nrm_run {t u : Tm} : ∀ {n k : Nat}, nrmT t n = some (u, k) → runT t n = (u, k)
  | 0, k, h => by simp only [nrmT, Option.some.injEq] at h; exact h
  | n + 1, k, h => by
    rw [nrmT] at h
    split at h
    · cases h
    · rename_i v j hv
      have ih := nrm_run hv
      rw [runT, ih]
      simp only
      split at h
      · rename_i hs; rw [hs]; simp only [Option.some.injEq] at h; exact h
      · rename_i u' hs
        rw [hs]
        split at h
        · cases h
        · simp only [Option.some.injEq] at h; exact h
theorem nrm_le {t u : Tm} (ht : t.size ≤ 300) : ∀ {n k : Nat}, nrmT t n = some (u, k) → u.size ≤ 300 ∧ k ≤ n
  | 0, k, h => by simp only [nrmT, Option.some.injEq, Prod.mk.injEq] at h; obtain ⟨rfl, rfl⟩ := h; exact ⟨ht, Nat.le_refl _⟩
  | n + 1, k, h => by
    rw [nrmT] at h
    split at h
    · cases h
    · rename_i v j hv
      have ih := nrm_le ht hv
      split at h
      · simp only [Option.some.injEq, Prod.mk.injEq] at h; obtain ⟨rfl, rfl⟩ := h; exact ⟨ih.1, by omega⟩
      · split at h
        · cases h
        · rename_i hs; simp only [Option.some.injEq, Prod.mk.injEq] at h; obtain ⟨rfl, rfl⟩ := h; exact ⟨by omega, by omega⟩

/-- the tree of the last node -/
def lastT (l : List Cb) : Tm := treeT l (l.length - 1)
abbrev noC : AV := .ro 4 []
def stepAns (l : List Cb) : AV :=
  if combErr l ≠ 0 then .tup [noC, I (combErr l)] else match stepT (lastT l) with
    | none => .tup [noC, I 5]
    | some u => if 300 < u.size then .tup [noC, I 7] else .tup [.ro 4 ((wrT u []).map encC), I 0]
def normAns (l : List Cb) (steps : Int) : AV :=
  if combErr l ≠ 0 then .tup [noC, I 0, I (combErr l)] else if ¬(0 ≤ steps ∧ steps ≤ 60) then .tup [noC, I 0, I 4] else match nrmT (lastT l) steps.toNat with
    | none => .tup [noC, I 0, I 7]
    | some (u, k) => .tup [.ro 4 ((wrT u []).map encC), IN k, I 0]
def outAns (l : List Cb) (w : Int) : AV :=
  if combErr l ≠ 0 then .tup [noC, I (combErr l)] else if ¬(0 ≤ w ∧ w ≤ 1000) then .tup [noC, I 4] else if 300 < (outT w (lastT l)).size then .tup [noC, I 7] else .tup [.ro 4 ((wrT (outT w (lastT l)) []).map encC), I 0]

theorem stepAns_err {l : List Cb} (h : combErr l ≠ 0) : stepAns l = .tup [noC, I (combErr l)] := by rw [stepAns, if_pos h]
theorem stepAns_none {l : List Cb} (h : combErr l = 0) (hs : stepT (lastT l) = none) : stepAns l = .tup [noC, I 5] := by simp [stepAns, h, hs]
theorem stepAns_long {l : List Cb} {u : Tm} (h : combErr l = 0) (hs : stepT (lastT l) = some u) (hu : 300 < u.size) : stepAns l = .tup [noC, I 7] := by simp [stepAns, h, hs, hu]
theorem stepAns_ok {l : List Cb} {u : Tm} (h : combErr l = 0) (hs : stepT (lastT l) = some u) (hu : ¬ 300 < u.size) : stepAns l = .tup [.ro 4 ((wrT u []).map encC), I 0] := by simp [stepAns, h, hs, hu]
theorem normAns_err {l : List Cb} {n : Int} (h : combErr l ≠ 0) : normAns l n = .tup [noC, I 0, I (combErr l)] := by rw [normAns, if_pos h]
theorem normAns_range {l : List Cb} {n : Int} (h : combErr l = 0) (hn : ¬(0 ≤ n ∧ n ≤ 60)) : normAns l n = .tup [noC, I 0, I 4] := by rw [normAns, if_neg (by simp [h]), if_pos hn]
theorem normAns_long {l : List Cb} {n : Nat} (h : combErr l = 0) (hn : n ≤ 60) (hs : nrmT (lastT l) n = none) : normAns l n = .tup [noC, I 0, I 7] := by
  rw [normAns, if_neg (by simp [h]), if_neg (by omega), Int.toNat_natCast, hs]
theorem normAns_ok {l : List Cb} {n k : Nat} {u : Tm} (h : combErr l = 0) (hn : n ≤ 60) (hs : nrmT (lastT l) n = some (u, k)) : normAns l n = .tup [.ro 4 ((wrT u []).map encC), IN k, I 0] := by
  rw [normAns, if_neg (by simp [h]), if_neg (by omega), Int.toNat_natCast, hs]
theorem outAns_err {l : List Cb} {w : Int} (h : combErr l ≠ 0) : outAns l w = .tup [noC, I (combErr l)] := by rw [outAns, if_pos h]
theorem outAns_range {l : List Cb} {w : Int} (h : combErr l = 0) (hn : ¬(0 ≤ w ∧ w ≤ 1000)) : outAns l w = .tup [noC, I 4] := by rw [outAns, if_neg (by simp [h]), if_pos hn]
theorem outAns_long {l : List Cb} {w : Int} (h : combErr l = 0) (hn : 0 ≤ w ∧ w ≤ 1000) (hs : 300 < (outT w (lastT l)).size) : outAns l w = .tup [noC, I 7] := by rw [outAns, if_neg (by simp [h]), if_neg (by omega), if_pos hs]
theorem outAns_ok {l : List Cb} {w : Int} (h : combErr l = 0) (hn : 0 ≤ w ∧ w ≤ 1000) (hs : ¬ 300 < (outT w (lastT l)).size) : outAns l w = .tup [.ro 4 ((wrT (outT w (lastT l)) []).map encC), I 0] := by rw [outAns, if_neg (by simp [h]), if_neg (by omega), if_neg hs]

theorem comb_ok {l : List Cb} (h : combErr l = 0) : (1 ≤ l.length ∧ l.length ≤ 40) ∧ LstOk l ∧ (lastT l).size ≤ 300 := by
  rw [combErr] at h
  split at h
  · omega
  · rename_i h1
    split at h
    · rename_i h2; exact (h2 h).elim
    · rename_i h2
      split at h
      · omega
      · rename_i h3
        exact ⟨by omega, lst_ok (by simpa using h2), by rw [lastT]; omega⟩

theorem lst_app {l r : List Cb} (h : LstOk l) (hr : ∀ (j : Nat) (hj : j < r.length), CbOk (l.length + j) r[j]) : LstOk (l ++ r) := fun i hi => by
  rw [List.length_append] at hi
  by_cases c : i < l.length
  · rw [List.getElem_append_left c]; exact h i c
  · rw [List.getElem_append_right (by omega)]
    have := hr (i - l.length) (by omega)
    rwa [show l.length + (i - l.length) = i by omega] at this
theorem tree_app {l r : List Cb} (h : LstOk l) (hlr : LstOk (l ++ r)) {i : Nat} (hi : i < l.length) : treeT (l ++ r) i = treeT l i := by
  induction i using Nat.strongRecOn with
  | _ i ih =>
    rw [tree_eq hlr (by rw [List.length_append]; omega), tree_eq h hi]
    have he : (l ++ r)[i]'(by rw [List.length_append]; omega) = l[i] := List.getElem_append_left hi
    rw [he]
    have hok := h i hi
    by_cases h4 : l[i].kind = 4
    · obtain ⟨p1, p2⟩ := hok.parts h4
      rw [if_pos h4, if_pos h4, ih _ (by omega) (by omega), ih _ (by omega) (by omega)]
    · rw [if_neg h4, if_neg h4]

theorem snoc_last {l : List Cb} {c : Cb} (h : LstOk (l ++ [c])) : treeT (l ++ [c]) l.length = if c.kind = 4 then .put (treeT (l ++ [c]) c.a.toNat) (treeT (l ++ [c]) c.b.toNat) else if c.kind = 3 then .v c.var else if c.kind = 2 then .k else .s := by
  rw [tree_eq h (by simp)]
  simp

theorem wr_ok : ∀ (t : Tm) {l : List Cb}, LstOk l → LstOk (wrT t l) ∧ (∃ r, wrT t l = l ++ r) ∧ treeT (wrT t l) ((wrT t l).length - 1) = t
  | .put a b, l, h => by
    obtain ⟨a1, ⟨ra, a2⟩, a3⟩ := wr_ok a h
    obtain ⟨b1, ⟨rb, b2⟩, b3⟩ := wr_ok b a1
    have la := wrT_length a l
    have lb := wrT_length b (wrT a l)
    have pa := a.size_pos
    have pb := b.size_pos
    have hok : LstOk (wrT (.put a b) l) := by
      rw [wrT]
      refine lst_app b1 (fun j hj => ?_)
      obtain rfl : j = 0 := by simpa using hj
      exact ⟨by simp, fun _ => by simp only [List.getElem_cons_zero]; omega⟩
    refine ⟨hok, ⟨ra ++ rb ++ [⟨4, ((wrT a l).length : Int) - 1, ((wrT b (wrT a l)).length : Int) - 1, 0⟩], by rw [wrT, b2, a2]; simp⟩, ?_⟩
    rw [wrT] at hok ⊢
    rw [List.length_append, List.length_singleton, Nat.add_sub_cancel, snoc_last hok]
    simp only [if_true]
    have e1 : (((wrT a l).length : Int) - 1).toNat = (wrT a l).length - 1 := by omega
    have e2 : (((wrT b (wrT a l)).length : Int) - 1).toNat = (wrT b (wrT a l)).length - 1 := by omega
    rw [e1, e2, tree_app b1 hok (by omega), tree_app b1 hok (by omega), b3]
    congr 1
    rw [b2] at b1 ⊢
    rw [tree_app a1 b1 (by omega), a3]
  | .v n, l, h => by
    have hok : LstOk (wrT (.v n) l) := by
      rw [wrT]
      refine lst_app h (fun j hj => ?_)
      obtain rfl : j = 0 := by simpa using hj
      exact ⟨by simp, fun hh => by simp at hh⟩
    refine ⟨hok, ⟨_, rfl⟩, ?_⟩
    rw [wrT] at hok ⊢
    rw [List.length_append, List.length_singleton, Nat.add_sub_cancel, snoc_last hok]; simp
  | .k, l, h => by
    have hok : LstOk (wrT .k l) := by
      rw [wrT]
      refine lst_app h (fun j hj => ?_)
      obtain rfl : j = 0 := by simpa using hj
      exact ⟨by simp, fun hh => by simp at hh⟩
    refine ⟨hok, ⟨_, rfl⟩, ?_⟩
    rw [wrT] at hok ⊢
    rw [List.length_append, List.length_singleton, Nat.add_sub_cancel, snoc_last hok]; simp
  | .s, l, h => by
    have hok : LstOk (wrT .s l) := by
      rw [wrT]
      refine lst_app h (fun j hj => ?_)
      obtain rfl : j = 0 := by simpa using hj
      exact ⟨by simp, fun hh => by simp at hh⟩
    refine ⟨hok, ⟨_, rfl⟩, ?_⟩
    rw [wrT] at hok ⊢
    rw [List.length_append, List.length_singleton, Nat.add_sub_cancel, snoc_last hok]; simp

theorem nil_ok : LstOk [] := fun i hi => by simp at hi
theorem wr_len (t : Tm) : (wrT t []).length = t.size := by rw [wrT_length]; simp
theorem wr_last (t : Tm) : lastT (wrT t []) = t := (wr_ok t nil_ok).2.2
theorem wr_ne (t : Tm) : wrT t [] ≠ [] := fun h => by
  have h1 := wr_len t
  have h2 := t.size_pos
  rw [h] at h1; simp at h1; omega

theorem hasCombs {x : AV} (h : Has (.slice 4 (.agg [.int .i64, .int .i64, .int .i64, .int .i64])) x) : ∃ l : List Cb, x = .ro 4 (l.map encC) ∧ (l.length : Int) < 2 ^ 63 := by
  cases h with
  | slice hl hh =>
    obtain ⟨l, rfl⟩ := listOf (enc := encC) (fun i x hx => by
      obtain ⟨y, z, w, v, h1, h2, h3, h4, rfl⟩ := hasAgg4 (hh i x hx)
      obtain ⟨a, rfl, _⟩ := hasInt h1
      obtain ⟨b, rfl, _⟩ := hasInt h2
      obtain ⟨c, rfl, _⟩ := hasInt h3
      obtain ⟨d, rfl, _⟩ := hasInt h4
      exact ⟨⟨a, b, c, d⟩, rfl⟩)
    refine ⟨l, rfl, ?_⟩
    simp only [List.length_map] at hl
    have : maxLen < 2 ^ 63 := by decide
    omega
def shCombs : Sh := .slice 4 (.agg [.int .i64, .int .i64, .int .i64, .int .i64])

end Go.Av
