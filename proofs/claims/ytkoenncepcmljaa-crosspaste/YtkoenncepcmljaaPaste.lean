/- Two runs with the same crossing sequence, put together. -/
import Derived.Test.YtkoenncepcmljaaCrossA
import Derived.Test.YtkoenncepcmljaaTapeM2
set_option linter.unusedSimpArgs false
set_option linter.unusedVariables false
namespace Go.Av
open Go.Proofs

/-- the crossings of k steps are the first ones of those of more steps -/
theorem crL_pre (M : Mach) (c : Cfg) (b : Int) {k : Nat} : ∀ {j : Nat}, k ≤ j → ∃ r, crL M c b j = crL M c b k ++ r
  | 0, h => ⟨[], by have : k = 0 := by omega
                    subst this; simp⟩
  | j + 1, h => by
    by_cases hk : k = j + 1
    · subst hk; exact ⟨[], by simp⟩
    · obtain ⟨r, hr⟩ := crL_pre M c b (k := k) (j := j) (by omega)
      simp only [crL]
      split
      · exact ⟨r ++ [(runC M c (j + 1)).st], by rw [hr, List.append_assoc]⟩
      · exact ⟨r, hr⟩

theorem crL_halt {M : Mach} {c : Cfg} (b : Int) {k : Nat} (h : ¬(runC M c k).st < M.states) : ∀ {j : Nat}, k ≤ j → crL M c b j = crL M c b k
  | 0, hj => by have : k = 0 := by omega
                subst this; rfl
  | j + 1, hj => by
    by_cases hk : k = j + 1
    · subst hk; rfl
    · rw [← crL_halt b h (j := j) (by omega)]
      simp only [crL]
      rw [if_neg]
      rintro ⟨h1, _⟩
      have e1 := (halt_stays h j (by omega)).1
      have e2 := (halt_stays h (j + 1) (by omega)).1
      rw [e1, e2] at h1; exact h1 rfl

/-- the side of the border -/
theorem side_same {M : Mach} {c : Cfg} (hm : MOk M) (hc : COk M 120 c) {b : Int} {k : Nat} (h : crL M c b (k + 1) = crL M c b k) : (runC M c (k + 1)).head < b ↔ (runC M c k).head < b := by
  have hn := head_near hm hc k
  have hi := cross_iff hm hc b k
  have : ¬((runC M c (k + 1)).head ≠ (runC M c k).head ∧ crAt M c k = b) := fun q => by
    simp only [crL] at h
    rw [if_pos q] at h
    have := congrArg List.length h
    simp at this
  rw [hi] at this
  omega

theorem tape_other {M : Mach} {c : Cfg} {k : Nat} {x : Int} (h : x ≠ (runC M c k).head) : (runC M c (k + 1)).f x = (runC M c k).f x := by
  simp only [runC]
  split
  · simp only [stepC]; rw [if_neg h]
  · rfl

/-- on to the next crossing: till then it is on its side -/
theorem next_cross {M : Mach} {c : Cfg} (hm : MOk M) (hc : COk M 120 c) {b : Int} {β : Nat} : ∀ (d : Nat), (crL M c b β).length < (crL M c b (β + d)).length →
    ∃ k, β ≤ k ∧ crL M c b k = crL M c b β ∧ crL M c b (k + 1) = crL M c b β ++ [(runC M c (k + 1)).st] ∧
      ((runC M c k).head < b ↔ (runC M c β).head < b) ∧ (∀ x, ((runC M c β).head < b → b ≤ x) → ((runC M c β).head ≥ b → x < b) → (runC M c (k + 1)).f x = (runC M c β).f x)
  | 0, h => by simp at h
  | d + 1, h => by
    by_cases hs : (crL M c b β).length < (crL M c b (β + d)).length
    · exact next_cross hm hc d hs
    · obtain ⟨r, hr⟩ := crL_pre M c b (k := β) (j := β + d) (by omega)
      have hr0 : r = [] := by
        rw [hr] at hs; simp at hs; exact hs
      subst hr0
      rw [List.append_nil] at hr
      have key : ∀ e, e ≤ d → crL M c b (β + e) = crL M c b β ∧ ((runC M c (β + e)).head < b ↔ (runC M c β).head < b) ∧
          ∀ x, ((runC M c β).head < b → b ≤ x) → ((runC M c β).head ≥ b → x < b) → (runC M c (β + e)).f x = (runC M c β).f x := by
        intro e
        induction e with
        | zero => intro _; exact ⟨rfl, Iff.rfl, fun _ _ _ => rfl⟩
        | succ e ih =>
          intro he
          obtain ⟨i1, i2, i3⟩ := ih (by omega)
          have e1 : crL M c b (β + (e + 1)) = crL M c b β := by
            obtain ⟨r1, h1⟩ := crL_pre M c b (k := β) (j := β + (e + 1)) (by omega)
            obtain ⟨r2, h2⟩ := crL_pre M c b (k := β + (e + 1)) (j := β + d) (by omega)
            rw [hr, h1] at h2
            have := congrArg List.length h2
            simp at this
            rw [h1, this.1, List.append_nil]
          refine ⟨e1, ?_, fun x h1 h2 => ?_⟩
          · have := side_same hm hc (b := b) (k := β + e) (by rw [show β + e + 1 = β + (e + 1) by omega, e1, i1])
            rw [show β + (e + 1) = β + e + 1 by omega, this]; exact i2
          · rw [show β + (e + 1) = β + e + 1 by omega, tape_other, i3 x h1 h2]
            by_cases hside : (runC M c β).head < b
            · have := h1 hside
              have := i2.2 hside
              omega
            · have := h2 (by omega)
              have : ¬(runC M c (β + e)).head < b := fun q => hside (i2.1 q)
              omega
      obtain ⟨k1, k2, k3⟩ := key d (Nat.le_refl _)
      refine ⟨β + d, by omega, k1, ?_, k2, fun x h1 h2 => ?_⟩
      · have hlen : (crL M c b (β + d)).length < (crL M c b (β + d + 1)).length := by rw [k1]; exact h
        have : crL M c b (β + d + 1) = if (runC M c (β + d + 1)).head ≠ (runC M c (β + d)).head ∧ crAt M c (β + d) = b then crL M c b (β + d) ++ [(runC M c (β + d + 1)).st] else crL M c b (β + d) := rfl
        rw [this] at hlen ⊢
        split at hlen
        · rename_i hq; rw [if_pos hq, k1]
        · omega
      · rw [tape_other, k3 x h1 h2]
        by_cases hside : (runC M c β).head < b
        · have := h1 hside
          have := k2.2 hside
          omega
        · have := h2 (by omega)
          have : ¬(runC M c (β + d)).head < b := fun q => hside (k2.1 q)
          omega

/-- where a crossing leads -/
theorem cross_to {M : Mach} {c : Cfg} (hm : MOk M) (hc : COk M 120 c) {b : Int} {k : Nat} {s : Int} (h : crL M c b (k + 1) = crL M c b k ++ [s]) :
    ((runC M c k).head < b → (runC M c (k + 1)).head = b) ∧ ((runC M c k).head ≥ b → (runC M c (k + 1)).head = b - 1) := by
  have hi := cross_iff hm hc b k
  have : ((runC M c (k + 1)).head ≠ (runC M c k).head ∧ crAt M c k = b) := Classical.byContradiction fun q => by
    simp only [crL] at h
    rw [if_neg q] at h
    have := congrArg List.length h
    simp at this
  rw [hi] at this
  omega

theorem crosses {M : Mach} {c : Cfg} (hm : MOk M) (hc : COk M 120 c) {b : Int} {k : Nat} (h : ¬((runC M c (k + 1)).head < b ↔ (runC M c k).head < b)) : crL M c b (k + 1) = crL M c b k ++ [(runC M c (k + 1)).st] := by
  have hn := head_near hm hc k
  have hi := cross_iff hm hc b k
  simp only [crL]
  rw [if_pos]
  rw [hi]; omega
theorem crosses_not {M : Mach} {c : Cfg} (hm : MOk M) (hc : COk M 120 c) {b : Int} {k : Nat} (h : (runC M c (k + 1)).head < b ↔ (runC M c k).head < b) : crL M c b (k + 1) = crL M c b k := by
  have hi := cross_iff hm hc b k
  simp only [crL]
  rw [if_neg]
  rw [hi]; omega

/-- the run C goes with A on the first side, with B on the second one -/
structure Sim (A B C : Cfg) (la lb : List Int) (p q : Int) : Prop where
  tl : ∀ x, x < p → C.f x = A.f x
  tr : ∀ x, p ≤ x → C.f x = B.f (x - p + q)
  cr : la = lb
  sd : (C.head < p ∧ A.head = C.head ∧ A.st = C.st ∧ B.head < q) ∨ (C.head ≥ p ∧ B.head = C.head - p + q ∧ B.st = C.st ∧ A.head ≥ p)

theorem sim_step {M : Mach} {a b c : Cfg} (hm : MOk M) (ha : COk M 120 a) (hb : COk M 120 b) (hc : COk M 120 c) {p q : Int} {NA NB : Nat} (hW : crL M a p NA = crL M b q NB)
    (hA : ¬(runC M a NA).st < M.states) (hB : ¬(runC M b NB).st < M.states) {α β t : Nat}
    (s : Sim (runC M a α) (runC M b β) (runC M c t) (crL M a p α) (crL M b q β) p q) :
    ∃ α' β', Sim (runC M a α') (runC M b β') (runC M c (t + 1)) (crL M a p α') (crL M b q β') p q := by
  by_cases hl : (runC M c t).st < M.states
  · have hC : runC M c (t + 1) = stepC M (runC M c t) := by simp only [runC]; rw [if_pos hl]
    -- all crossings, whenever, are the first ones of all there are
    have preA : ∀ k, ∃ r, crL M a p NA = crL M a p k ++ r := fun k => by
      by_cases h : k ≤ NA
      · exact crL_pre M a p h
      · exact ⟨[], by rw [List.append_nil]; exact (crL_halt p hA (by omega)).symm⟩
    have preB : ∀ k, ∃ r, crL M b q NB = crL M b q k ++ r := fun k => by
      by_cases h : k ≤ NB
      · exact crL_pre M b q h
      · exact ⟨[], by rw [List.append_nil]; exact (crL_halt q hB (by omega)).symm⟩
    rcases s.sd with ⟨s1, s2, s3, s4⟩ | ⟨s1, s2, s3, s4⟩
    · have hAl : (runC M a α).st < M.states := by rw [s3]; exact hl
      have hA1 : runC M a (α + 1) = stepC M (runC M a α) := by simp only [runC]; rw [if_pos hAl]
      have hread : (runC M a α).f (runC M a α).head = (runC M c t).f (runC M c t).head := by rw [s2, s.tl _ s1]
      have est : (runC M a (α + 1)).st = (runC M c (t + 1)).st := by rw [hA1, hC]; simp only [stepC]; rw [s3, hread]
      have ehd : (runC M a (α + 1)).head = (runC M c (t + 1)).head := by rw [hA1, hC]; simp only [stepC]; rw [s3, hread, s2]
      have etl : ∀ x, x < p → (runC M c (t + 1)).f x = (runC M a (α + 1)).f x := fun x hx => by
        rw [hA1, hC]; simp only [stepC]; rw [s3, hread, s2, s.tl x hx]
      have etr : ∀ x, p ≤ x → (runC M c (t + 1)).f x = (runC M b β).f (x - p + q) := fun x hx => by
        rw [tape_other (by omega)]; exact s.tr x hx
      by_cases hh : (runC M c (t + 1)).head < p
      · refine ⟨α + 1, β, etl, etr, ?_, .inl ⟨hh, ehd, est, s4⟩⟩
        rw [crosses_not hm ha (by rw [ehd, s2]; simp [hh, s1]), s.cr]
      · have hcr := crosses hm ha (b := p) (k := α) (by rw [ehd, s2]; simp [hh, s1])
        obtain ⟨r, hr⟩ := preA (α + 1)
        have hlen : (crL M b q β).length < (crL M b q (β + NB)).length := by
          obtain ⟨r2, hr2⟩ := crL_pre M b q (k := NB) (j := β + NB) (by omega)
          rw [hr2, ← hW, hr, hcr, ← s.cr]; simp
        obtain ⟨k, k1, k2, k3, k4, k5⟩ := next_cross hm hb NB hlen
        have hkl : (runC M b k).head < q := k4.2 s4
        have hto := (cross_to hm hb (b := q) (k := k) (s := (runC M b (k + 1)).st) (by rw [k3, k2])).1 hkl
        have hto2 : (runC M c (t + 1)).head = p := by
          have := (cross_to hm ha hcr).1 (by omega); omega
        have hst : (runC M b (k + 1)).st = (runC M a (α + 1)).st := by
          obtain ⟨r3, hr3⟩ := preB (k + 1)
          rw [← hW, hr, hcr, k3, s.cr, List.append_assoc, List.append_assoc] at hr3
          have := List.append_cancel_left hr3
          simp at this; exact this.1.symm
        refine ⟨α + 1, k + 1, etl, fun x hx => ?_, by rw [hcr, k3, s.cr, hst], .inr ⟨by omega, by omega, by rw [hst, est], by omega⟩⟩
        rw [etr x hx]
        exact (k5 _ (fun _ => by omega) (fun h => by omega)).symm
    · have hBl : (runC M b β).st < M.states := by rw [s3]; exact hl
      have hB1 : runC M b (β + 1) = stepC M (runC M b β) := by simp only [runC]; rw [if_pos hBl]
      have hread : (runC M b β).f (runC M b β).head = (runC M c t).f (runC M c t).head := by rw [s2, s.tr _ s1]
      have est : (runC M b (β + 1)).st = (runC M c (t + 1)).st := by rw [hB1, hC]; simp only [stepC]; rw [s3, hread]
      have ehd : (runC M b (β + 1)).head = (runC M c (t + 1)).head - p + q := by rw [hB1, hC]; simp only [stepC]; rw [s3, hread, s2]; omega
      have etr : ∀ x, p ≤ x → (runC M c (t + 1)).f x = (runC M b (β + 1)).f (x - p + q) := fun x hx => by
        rw [hB1, hC]; simp only [stepC]; rw [s3, hread, s2, s.tr x hx]
        by_cases hx2 : x = (runC M c t).head
        · rw [if_pos hx2, if_pos (by omega)]
        · rw [if_neg hx2, if_neg (by omega)]
      have etl : ∀ x, x < p → (runC M c (t + 1)).f x = (runC M a α).f x := fun x hx => by
        rw [tape_other (by omega)]; exact s.tl x hx
      by_cases hh : (runC M c (t + 1)).head ≥ p
      · refine ⟨α, β + 1, etl, etr, ?_, .inr ⟨hh, ehd, est, s4⟩⟩
        rw [crosses_not hm hb (by rw [ehd, s2]; omega), s.cr]
      · have hcr := crosses hm hb (b := q) (k := β) (by rw [ehd, s2]; omega)
        obtain ⟨r, hr⟩ := preB (β + 1)
        have hlen : (crL M a p α).length < (crL M a p (α + NA)).length := by
          obtain ⟨r2, hr2⟩ := crL_pre M a p (k := NA) (j := α + NA) (by omega)
          rw [hr2, hW, hr, hcr, s.cr]; simp
        obtain ⟨k, k1, k2, k3, k4, k5⟩ := next_cross hm ha NA hlen
        have hkl : (runC M a k).head ≥ p := by have : ¬(runC M a k).head < p := fun h => by have := k4.1 h; omega
                                               omega
        have hto := (cross_to hm ha (b := p) (k := k) (s := (runC M a (k + 1)).st) (by rw [k3, k2])).2 hkl
        have hto2 : (runC M c (t + 1)).head = p - 1 := by
          have := (cross_to hm hb hcr).2 (by omega); omega
        have hst : (runC M a (k + 1)).st = (runC M b (β + 1)).st := by
          obtain ⟨r3, hr3⟩ := preA (k + 1)
          rw [hW, hr, hcr, k3, s.cr, List.append_assoc, List.append_assoc] at hr3
          have := List.append_cancel_left hr3
          simp at this; exact this.1.symm
        refine ⟨k + 1, β + 1, fun x hx => ?_, etr, by rw [hcr, k3, s.cr, hst], .inl ⟨by omega, by omega, by rw [hst, est], by omega⟩⟩
        rw [etl x hx]
        exact (k5 _ (fun h => by omega) (fun _ => hx)).symm
  · have hC : runC M c (t + 1) = runC M c t := by simp only [runC]; rw [if_neg hl]
    exact ⟨α, β, by rw [hC]; exact s⟩

theorem sim_all {M : Mach} {a b c : Cfg} (hm : MOk M) (ha : COk M 120 a) (hb : COk M 120 b) (hc : COk M 120 c) {p q : Int} {NA NB : Nat} (hW : crL M a p NA = crL M b q NB)
    (hA : ¬(runC M a NA).st < M.states) (hB : ¬(runC M b NB).st < M.states) (s : Sim a b c [] [] p q) : ∀ t, ∃ α β, Sim (runC M a α) (runC M b β) (runC M c t) (crL M a p α) (crL M b q β) p q
  | 0 => ⟨0, 0, s⟩
  | t + 1 => by
    obtain ⟨α, β, h⟩ := sim_all hm ha hb hc hW hA hB s t
    exact sim_step hm ha hb hc hW hA hB h

/-- Hennie -/
theorem hennie {M : Mach} {a b c : Cfg} (hm : MOk M) (ha : COk M 120 a) (hb : COk M 120 b) (hc : COk M 120 c) {p q : Int} {NA NB NC : Nat} (hW : crL M a p NA = crL M b q NB)
    (hA : ¬(runC M a NA).st < M.states) (hB : ¬(runC M b NB).st < M.states) (hC : ¬(runC M c NC).st < M.states) (hBh : (runC M b NB).head < q)
    (s : Sim a b c [] [] p q) : (runC M c NC).head = (runC M a NA).head ∧ ∀ x, x < p → (runC M c NC).f x = (runC M a NA).f x := by
  obtain ⟨α, β, h⟩ := sim_all hm ha hb hc hW hA hB s NC
  have same : ∀ {d : Cfg} {i j : Nat}, ¬(runC M d i).st < M.states → ¬(runC M d j).st < M.states → runC M d i = runC M d j := fun {d i j} h1 h2 => by
    by_cases hij : i ≤ j
    · exact ((halt_stays h1 j hij).1).symm
    · exact (halt_stays h2 i (by omega)).1
  rcases h.sd with ⟨s1, s2, s3, s4⟩ | ⟨s1, s2, s3, s4⟩
  · have := same (d := a) (i := α) (j := NA) (by rw [s3]; exact hC) hA
    rw [this] at s2
    refine ⟨s2.symm, fun x hx => ?_⟩
    rw [h.tl x hx, this]
  · have := same (d := b) (i := β) (j := NB) (by rw [s3]; exact hC) hB
    rw [this] at s2
    omega

/-- the start of three runs -/
theorem sim_start (la lb : List Int) (p q : Nat) (hp : 0 < p) (hq : 0 < q) (hpl : p ≤ la.length) (hql : q ≤ lb.length) :
    Sim (startC ⟨0, 0, 0, la⟩) (startC ⟨0, 0, 0, lb⟩) (startC ⟨0, 0, 0, la.take p ++ lb.drop q⟩) [] [] (p : Int) (q : Int) := by
  refine ⟨fun x hx => ?_, fun x hx => ?_, rfl, .inl ⟨by simp [startC]; omega, rfl, rfl, by simp [startC]; omega⟩⟩
  · simp only [startC, tapeF]
    by_cases h : 0 ≤ x
    · rw [if_pos h, if_pos h, List.getElem?_append_left (by simp; omega), List.getElem?_take_of_lt (by omega)]
    · rw [if_neg h, if_neg h]
  · simp only [startC, tapeF]
    rw [if_pos (by omega), if_pos (by omega), List.getElem?_append_right (by simp; omega), List.getElem?_drop]
    congr 2
    simp; omega

end Go.Av
