/- Code: what is asked is enough. -/
import Derived.Test.YtelcipdpfoipiaaAvS
namespace Go.Av
open Go.RowKit (Below)

variable {P : Program} {X : Ctx} {N : Nat}

theorem look_append (u t : Tmps) (i : Nat) (h : ∀ p ∈ u, p.1 ≠ i) : look (u ++ t) i = look t i := by
  induction u with
  | nil => rfl
  | cons p u ih =>
    obtain ⟨k, x⟩ := p
    rw [List.cons_append, look_cons_ne _ _ (h (k, x) (by simp))]
    exact ih (fun q hq => h q (by simp [hq]))

theorem zipT_mem {ss : List Nat} {vs : List AV} {p : Nat × AV} (h : p ∈ zipT ss vs) : p.1 ∈ ss := by
  induction ss generalizing vs with
  | nil => simp [zipT] at h
  | cons i ss ih =>
    cases vs with
    | nil => simp [zipT] at h
    | cons x vs =>
      simp only [zipT, List.mem_cons] at h
      rcases h with rfl | h
      · simp
      · exact List.mem_cons_of_mem _ (ih h)

theorem deads_mem {D : List Nat} {p : Nat × AV} (h : p ∈ deads D) : p.1 ∈ D := by
  induction D with
  | nil => simp [deads] at h
  | cons i D ih =>
    simp only [deads, List.mem_cons] at h
    rcases h with rfl | h
    · simp
    · exact List.mem_cons_of_mem _ (ih h)

theorem look_deads {D : List Nat} {t : Tmps} {i : Nat} (h : i ∈ D) : look (deads D ++ t) i = .dead := by
  induction D with
  | nil => simp at h
  | cons k D ih =>
    simp only [deads, List.cons_append]
    by_cases hk : k = i
    · subst hk; rw [look_cons_eq]
    · rw [look_cons_ne _ _ hk]
      exact ih ((List.mem_cons.1 h).resolve_left (fun e => hk e.symm))

/-- the temporaries at a loop's head -/
theorem head_other {ss D : List Nat} {vs : List AV} {t : Tmps} {i : Nat} (hs : (ss.all fun i => D.contains i) = true) (h : i ∉ D) : look (zipT ss vs ++ (deads D ++ t)) i = look t i := by
  have hss : i ∉ ss := fun hi => h (by simpa using (List.all_eq_true.1 hs) i hi)
  have h1 : look (zipT ss vs ++ (deads D ++ t)) i = look (deads D ++ t) i := look_append _ _ i (fun p hp e => hss (e ▸ zipT_mem hp))
  have h2 : look (deads D ++ t) i = look t i := look_append _ _ i (fun p hp e => h (e ▸ deads_mem hp))
  rw [h1, h2]

theorem vcg_frame : ∀ (c : MCode) (Q : WP) (t : Tmps) (m : Mem) (n : Nat), vcg P c Q t m n → vcg P c (fun e t' m' n' => Q e t' m' n' ∧ ∀ i, i ∉ asg c → look t' i = look t i) t m n := by
  intro c
  induction c with
  | skip => intro Q t m n h; exact ⟨h, fun _ _ => rfl⟩
  | reg is => intro Q t m n h; exact vregs_frame is _ _ _ h
  | draw is => intro Q t m n h; exact vregsD_frame is _ _ _ h
  | drawc is cs =>
    intro Q t m n h
    exact vregsD_mono (fun t' m' n' hh => ⟨hh.1.1, hh.1.2, hh.2⟩) is _ _ _ (vregsD_frame is _ _ _ h)
  | seq a b iha ihb =>
    intro Q t m n h
    refine vcg_mono a _ _ _ _ _ (fun e t' m' n' hh => ?_) (iha _ _ _ _ h)
    cases e with
    | norm =>
      refine vcg_mono _ _ _ _ _ _ (fun e' t2 m2 n2 h2 => ⟨h2.1, fun i hi => ?_⟩) (ihb _ _ _ _ hh.1)
      simp only [asg, List.mem_append, not_or] at hi
      rw [h2.2 i hi.2, hh.2 i hi.1]
    | ex id => exact ⟨hh.1, fun i hi => hh.2 i (fun h => hi (by simp [asg, h]))⟩
    | ret => exact ⟨hh.1, fun i hi => hh.2 i (fun h => hi (by simp [asg, h]))⟩
  | cond c a b iha ihb =>
    intro Q t m n h
    simp only [vcg] at h ⊢
    split at h
    · exact ⟨fun hc => vcg_mono _ _ _ _ _ _ (fun e t' m' n' hh => ⟨hh.1, fun i hi => hh.2 i (fun h => hi (by simp [asg, h]))⟩) (iha _ _ _ _ (h.1 hc)),
        fun hc => vcg_mono _ _ _ _ _ _ (fun e t' m' n' hh => ⟨hh.1, fun i hi => hh.2 i (fun h => hi (by simp [asg, h]))⟩) (ihb _ _ _ _ (h.2 hc))⟩
    · exact h.elim
  | block id b ih =>
    intro Q t m n h
    refine vcg_mono b _ _ _ _ _ (fun e t' m' n' hh => ?_) (ih _ _ _ _ h)
    cases e with
    | ex id' =>
      obtain ⟨h1, h2⟩ := hh
      simp only at h1 ⊢
      by_cases hid : id' = id
      · rw [if_pos hid] at h1 ⊢; exact ⟨h1, h2⟩
      · rw [if_neg hid] at h1 ⊢; exact ⟨h1, h2⟩
    | norm => exact hh
    | ret => exact hh
  | loop b ih =>
    intro Q t m n h
    obtain ⟨ι, ss, vs, ob, r, inv, μ, h0, h1, h2⟩ := h
    refine ⟨ι, ss, vs, ob, r, inv, μ, h0, h1, fun x hx => vcg_mono _ _ _ _ _ _ (fun e t' m' n' hh => ?_) (ih _ _ _ _ (h2 x hx))⟩
    cases e with
    | norm => exact hh.1
    | ex id => exact ⟨hh.1, fun i hi => by rw [hh.2 i hi]; exact head_other h0 hi⟩
    | ret => exact ⟨hh.1, fun i hi => by rw [hh.2 i hi]; exact head_other h0 hi⟩
  | fz L b ih =>
    intro Q t m n h
    obtain ⟨ks, h1, h2⟩ := h
    refine ⟨ks, h1, vcg_mono _ _ _ _ _ _ (fun e t' m' n' hh => ⟨hh.1, fun i hi => ?_⟩) (ih _ _ _ _ h2)⟩
    simp only [asg, List.mem_append, not_or] at hi
    rw [hh.2 i hi.2, look_fzT]
    exact fzKeep_look h1 hi.1
  | gv L b ih =>
    intro Q t m n h
    refine vcg_mono b _ _ _ _ _ (fun e t' m' n' hh => ?_) (ih _ _ _ _ h)
    cases e with
    | norm => exact gvVC_mono hh.1 (fun m h => ⟨h, hh.2⟩)
    | ex id => exact hh
    | ret => exact hh
  | exit id => intro Q t m n h; exact ⟨h, fun _ _ => rfl⟩
  | ret => intro Q t m n h; exact ⟨h, fun _ _ => rfl⟩

/-- the places at a loop's head -/
def headκ (n : Nat) (rho : List (Option Nat)) (κ : Nat → Option Loc) (k : Nat) : Option Loc :=
  if k < n then κ k else match rho[k - n]? with
    | some (some k') => κ k'
    | some none => some ⟨0, 0, 0, 0, 0, true, fun _ => none⟩
    | none => none

variable {w : World} {S : Nat → Prop} {κ : Nat → Option Loc} {n : Nat} {rho : List (Option Nat)}

theorem Sub_R : (∀ (h s : AV) (v : Value), Sub n rho h s → R w S κ s v → R w S (headκ n rho κ) h v) ∧
    (∀ (xs ys : List AV), SubL n rho xs ys → xs.length = ys.length ∧ ∀ (i : Nat) x, xs[i]? = some x → ∃ y, ys[i]? = some y ∧ ∀ v, R w S κ y v → R w S (headκ n rho κ) x v) := by
  have r0 : ∀ {s : AV} {v : Value}, R0 w S s v → R w S (headκ n rho κ) s v := fun h => .base h
  have key : ∀ h : AV, ∀ (s : AV) (v : Value), Sub n rho h s → R w S κ s v → R w S (headκ n rho κ) h v := by
    intro h
    refine AV.rec (motive_1 := fun h => ∀ (s : AV) (v : Value), Sub n rho h s → R w S κ s v → R w S (headκ n rho κ) h v)
      (motive_2 := fun xs => ∀ ys : List AV, SubL n rho xs ys → xs.length = ys.length ∧ ∀ (i : Nat) x, xs[i]? = some x → ∃ y, ys[i]? = some y ∧ ∀ v, R w S κ y v → R w S (headκ n rho κ) x v)
      (motive_3 := fun _ => True) (motive_4 := fun _ => True) ?_ ?_ ?_ ?_ ?_ ?_ ?_ ?_ ?_ ?_ ?_ ?_ ?_ ?_ ?_ ?_ ?_ h
    · intro x s v hs hr; simp only [Sub] at hs; subst hs; cases hr with | base h => exact .base h
    · intro xs ih s v hs hr
      simp only [Sub] at hs
      split at hs
      · rename_i ys
        obtain ⟨vs, rfl, hl, h2⟩ := hr.agg_inv
        obtain ⟨g1, g2⟩ := ih ys hs
        refine .agg (by omega) (fun i x y hx hy => ?_)
        obtain ⟨y', hy', g3⟩ := g2 i x hx
        exact g3 y (h2 i y' y hy' hy)
      · exact hs.elim
    · intro xs ih s v hs hr
      simp only [Sub] at hs
      split at hs
      · rename_i ys
        obtain ⟨vs, rfl, hl, h2⟩ := hr.tup_inv
        obtain ⟨g1, g2⟩ := ih ys hs
        refine .tup (by omega) (fun i x y hx hy => ?_)
        obtain ⟨y', hy', g3⟩ := g2 i x hx
        exact g3 y (h2 i y' y hy' hy)
      · exact hs.elim
    · intro sz xs _ s v hs hr; simp only [Sub] at hs; subst hs; cases hr with | base h => exact .base h
    · intro xs _ s v hs hr; simp only [Sub] at hs; subst hs; cases hr with | base h => exact .base h
    · intro f xs ih s v hs hr
      simp only [Sub] at hs
      split at hs
      · rename_i g ys
        obtain ⟨rfl, hs⟩ := hs
        obtain ⟨vs, rfl, hl, h2⟩ := hr.fn_inv
        obtain ⟨g1, g2⟩ := ih ys hs
        refine .fn (by omega) (fun i x y hx hy => ?_)
        obtain ⟨y', hy', g3⟩ := g2 i x hx
        exact g3 y (h2 i y' y hy' hy)
      · exact hs.elim
    · intro k off s v hs hr
      simp only [Sub] at hs
      split at hs
      · rename_i hk
        subst hs
        obtain ⟨l, hl, rfl⟩ := hr.ptr_inv
        exact .ptr (by simp [headκ, hk, hl])
      · rename_i hk
        split at hs
        · rename_i k' hrho
          subst hs
          obtain ⟨l, hl, rfl⟩ := hr.ptr_inv
          exact .ptr (by simp [headκ, hk, hrho, hl])
        · exact hs.elim
    · intro k off len s v hs hr
      simp only [Sub] at hs
      have go : ∀ k', s = .arr k' off len → headκ n rho κ k = κ k' → R w S (headκ n rho κ) (.arr k off len) v := fun k' he hκ => by
        subst he
        cases hr with
        | base h => cases h
        | arrNil hk hn => exact .arrNil (hκ.trans hk) hn
        | arr hk hn h1 h2 h3 => exact .arr (hκ.trans hk) hn h1 h2 h3
        | arr0 hk => exact .arr0 (hκ.trans hk)
      split at hs
      · rename_i hk; exact go k hs (by simp [headκ, hk])
      · rename_i hk
        split at hs
        · rename_i k' hrho; exact go k' hs (by simp [headκ, hk, hrho])
        · rename_i hrho
          obtain ⟨rfl, rfl, rfl⟩ := hs
          rw [hr.v_inv]
          exact .arrNil (l := ⟨0, 0, 0, 0, 0, true, fun _ => none⟩) (by simp [headκ, hk, hrho]) rfl
        · exact hs.elim
    · intro k i j s v hs hr; simp only [Sub] at hs
    · intro k s v hs hr
      simp only [Sub] at hs
      have go : ∀ k', s = .mp k' → headκ n rho κ k = κ k' → R w S (headκ n rho κ) (.mp k) v := fun k' he hκ => by
        subst he
        cases hr with
        | base h => cases h
        | mp hk hn => exact .mp (hκ.trans hk) hn
      split at hs
      · rename_i hk; exact go k hs (by simp [headκ, hk])
      · rename_i hk
        split at hs
        · rename_i k' hrho; exact go k' hs (by simp [headκ, hk, hrho])
        · exact hs.elim
    · intro es _ s v hs hr; simp only [Sub] at hs; subst hs; cases hr with | base h => exact .base h
    · intro s v hs hr; exact .base (.dead _)
    · intro ys hs; simp only [SubL] at hs; subst hs; simp
    · intro x xs ihx ihxs ys hs
      cases ys with
      | nil => simp [SubL] at hs
      | cons y ys =>
        simp only [SubL] at hs
        obtain ⟨g1, g2⟩ := ihxs ys hs.2
        refine ⟨by simp [g1], fun i z hz => ?_⟩
        cases i with
        | zero => simp at hz; subst hz; exact ⟨y, by simp, fun v hv => ihx y v hs.1 hv⟩
        | succ i => simpa using g2 i z (by simpa using hz)
    all_goals (intros; trivial)
  refine ⟨key, fun xs => ?_⟩
  induction xs with
  | nil => intro ys hs; simp only [SubL] at hs; subst hs; simp
  | cons x xs ih =>
    intro ys hs
    cases ys with
    | nil => simp [SubL] at hs
    | cons y ys =>
      simp only [SubL] at hs
      obtain ⟨g1, g2⟩ := ih ys hs.2
      refine ⟨by simp [g1], fun i z hz => ?_⟩
      cases i with
      | zero => simp at hz; subst hz; exact ⟨y, by simp, fun v hv => key x y v hs.1 hv⟩
      | succ i => simpa using g2 i z (by simpa using hz)

end Go.Av
