/- Regions that draw their order: what an operation finds hangs on what it looks at. -/
import Derived.Test.YtblakcgmngdhmaaAvM
namespace Go.Av

variable {P : Program} {w w' : World} {S S' Sc : Nat → Prop} {κ κ' : Nat → Option Loc} {m m' : Mem} {n N : Nat} {F : Nat → Prop} {t t' : Tmps} {a : Act} {X : Ctx}
  {Q : Exit → Act → World → Prop} {K : AV → Mem → Prop}

def rdM : MOp → Bool
  | .ld _ _ => true
  | .ldm _ => true
  | .st _ _ _ => true
  | .iaddr _ _ _ => true
  | .app _ _ _ => true
  | .mget _ _ _ _ _ => true
  | .mset _ _ _ _ => true
  | .sget _ _ _ _ => true
  | .sset _ _ _ => true
  | .aget _ _ _ _ _ => true
  | .aset _ _ _ _ => true
  | .b2s _ => true
  | .bldo _ _ => true
  | .mlen _ => true
  | .entry _ => true
  | .slc _ _ _ _ => true
  | .call _ _ => true
  | .callv _ _ => true
  | .callx _ _ => true
  | .callvx _ _ => true
  | .cally _ _ _ => true
  | _ => false

def wrM : MOp → Bool
  | .st _ _ _ => true
  | .bldo _ _ => true
  | .ldm _ => true
  | .app _ _ _ => true
  | .mset _ _ _ _ => true
  | .sset _ _ _ => true
  | .aset _ _ _ _ => true
  | .callx _ _ => true
  | .callvx _ _ => true
  | .cally _ _ _ => true
  | _ => false

theorem evs_congr {l : List Opd} (h : ∀ x ∈ l, ev t' x = ev t x) : evs t' l = evs t l := by
  induction l with
  | nil => rfl
  | cons x l ih => simp only [evs]; rw [h x (by simp), ih (fun y hy => h y (by simp [hy]))]

theorem fillL_congr {ps : List (Nat × Nat × Opd)} {cs : List AV} {G : List AV → Prop} (h : ∀ x ∈ ps.map (·.2.2), ev t' x = ev t x) (hf : fillL t cs ps G) : fillL t' cs ps G := by
  induction ps generalizing cs with
  | nil => exact hf
  | cons p ps ih =>
    obtain ⟨off, k, x⟩ := p
    simp only [fillL] at hf ⊢
    rw [h x (by simp)]
    exact ⟨hf.1, hf.2.1, ih (fun y hy => h y (by simp at hy ⊢; exact .inr hy)) hf.2.2⟩

theorem evs_mem {l : List Opd} {y : AV} (h : y ∈ evs t l) : ∃ x ∈ l, y = ev t x := by
  induction l with
  | nil => simp [evs] at h
  | cons x l ih =>
    simp only [evs, List.mem_cons] at h
    rcases h with h | h
    · exact ⟨x, by simp, h⟩
    · obtain ⟨z, hz, h⟩ := ih h; exact ⟨z, by simp [hz], h⟩

theorem frz_all {rho : List Nat} : (∀ x, (∀ k ∈ kys x, pos rho k ≠ none) → frz rho m' x = frz rho m x) ∧ (∀ xs, (∀ k ∈ kysL xs, pos rho k ≠ none) → frzL rho m' xs = frzL rho m xs) := by
  have h1 : ∀ x, (∀ k ∈ kys x, pos rho k ≠ none) → frz rho m' x = frz rho m x := by
    intro x
    refine AV.rec (motive_1 := fun x => (∀ k ∈ kys x, pos rho k ≠ none) → frz rho m' x = frz rho m x)
      (motive_2 := fun xs => (∀ k ∈ kysL xs, pos rho k ≠ none) → frzL rho m' xs = frzL rho m xs) (motive_3 := fun _ => True) (motive_4 := fun _ => True)
      ?_ ?_ ?_ ?_ ?_ ?_ ?_ ?_ ?_ ?_ ?_ ?_ ?_ ?_ ?_ ?_ ?_ x
    case refine_7 | refine_8 | refine_10 =>
      intros
      rename_i hk
      simp only [kys, List.mem_cons, List.not_mem_nil, or_false, forall_eq] at hk
      simp only [frz]
      split
      · rfl
      · rename_i hp; exact (hk hp).elim
    all_goals (intros; first | trivial | simp_all [kys, kysL, frz, frzL])
  refine ⟨h1, fun xs => ?_⟩
  induction xs with
  | nil => intro _; simp [frzL]
  | cons x xs ih =>
    intro h
    simp only [kysL, List.mem_append] at h
    simp only [frzL]
    rw [h1 x (fun k hk => h k (.inl hk)), ih (fun k hk => h k (.inr hk))]

theorem pos_of_mem {rho : List Nat} {k : Nat} (h : k ∈ rho) : pos rho k ≠ none := fun hp => pos_none hp h

theorem kfs_frz {rho : List Nat} : ∀ {cs : List AV}, kfs cs = true → frzL rho m cs = cs := by
  intro cs
  induction cs with
  | nil => intro _; rfl
  | cons c cs ih =>
    intro h
    simp only [kfs, Bool.and_eq_true] at h
    simp only [frzL, ih h.2]
    cases c <;> simp_all [AV.kf, frz]
theorem plainO_frz {rho : List Nat} {o : MObj} (h : plainO (some o) = true) : frzO rho m o = o := by
  cases o with
  | box cs => simp only [frzO]; rw [kfs_frz (by simpa [plainO] using h)]
  | _ => simp_all [plainO, frzO]

theorem shutO_frz {rho : List Nat} {o : MObj} (h : shutO rho (some o) = true) : frzO rho m' o = frzO rho m o := by
  cases o with
  | box cs =>
    simp only [frzO]
    rw [frz_all.2 cs (fun k hk => ?_)]
    simp only [shutO, List.all_eq_true] at h
    have := h k hk
    rw [List.contains_eq_mem] at this
    exact pos_of_mem (by simpa using this)
  | _ => simp_all [shutO, frzO]

theorem lendOk_shut {rho : List Nat} : ∀ {l : List Nat} {os : List MObj}, (l.all fun k => shutO rho (lookM m k)) = true → (∀ k ∈ l, ∀ o, lookM m k = some o → lookM m' k = some o) →
    lendOk [] rho m (somes l) os → lendOk [] rho m' (somes l) os := by
  intro l
  induction l with
  | nil => intro os _ _ h; exact h
  | cons k l ih =>
    intro os hp hm h
    cases os with
    | nil => simp [somes, lendOk] at h
    | cons o' os =>
      simp only [List.all_cons, Bool.and_eq_true] at hp
      simp only [somes, lendOk] at h ⊢
      refine ⟨?_, ih hp.2 (fun q hq => hm q (by simp [hq])) h.2⟩
      have h1 := h.1
      split at h1
      · rename_i o ho
        rw [hm k (by simp) o ho]
        rw [ho] at hp
        simp only [shutO_frz (m := m) (m' := m') hp.1]
        exact h1
      · exact h1.elim

theorem keepOk_local {rho fl : List Nat} (hf : (fl.all fun k => rho.contains k) = true) (hm : ∀ k ∈ rho, lookM m' k = lookM m k) : ∀ {u : Mem}, keepOk m fl u → keepOk m' fl u
  | [], _ => trivial
  | (k, v) :: r, h => by
    simp only [keepOk] at h ⊢
    refine ⟨?_, keepOk_local hf hm h.2⟩
    cases hb : fl.contains k with
    | false => trivial
    | true =>
      rw [hb] at h
      simp only [cond_true] at h ⊢
      rw [List.contains_eq_mem] at hb
      have := (List.all_eq_true.1 hf) k (by simpa using hb)
      rw [List.contains_eq_mem] at this
      rw [hm k (by simpa using this)]; exact h.1

theorem CallXr_local {f : FuncId} {args : List AV} {rho : List Nat} (hm : ∀ k ∈ rch m 3 (kysL args), ∀ o, lookM m k = some o → lookM m' k = some o) (h : CallXr P f args m n rho K) : CallXr P f args m' n rho K := by
  obtain ⟨args', m0, r, gv, rm, fl, h1, h2, h3, h4, h5, h6, h7, h8, h9, h10, h11⟩ := h
  have hin0 : ∀ k ∈ rho, k ∈ rch m 3 (kysL args) := fun k hk => by
    have := (List.all_eq_true.1 h6) k hk
    rw [List.contains_eq_mem] at this
    simpa using this
  have hin : ∀ k ∈ rho, ∀ o, lookM m k = some o → lookM m' k = some o := fun k hk o ho => hm k (hin0 k hk) o ho
  have hsame : ∀ k ∈ rho, lookM m' k = lookM m k := fun k hk => by
    have := (List.all_eq_true.1 h5) k hk
    cases ho : lookM m k with
    | none => rw [ho] at this; simp [shutO] at this
    | some o => exact hin k hk o ho
  have hall : ∀ k ∈ kysL args, pos rho k ≠ none := fun k hk => by
    have := (List.all_eq_true.1 h7) k hk
    rw [List.contains_eq_mem] at this
    exact pos_of_mem (by simpa using this)
  refine ⟨args', m0, r, gv, rm, fl, h1, lendOk_shut h5 hin h2, h3, by rw [frz_all.2 args hall]; exact h4, ?_, ?_, h7, h8, h9, keepOk_local h9 hsame h10, h11⟩
  · rw [List.all_eq_true] at h5 ⊢
    intro k hk
    rw [hsame k hk]; exact h5 k hk
  · rw [List.all_eq_true]
    intro k hk
    rw [List.contains_eq_mem]
    simpa using rch_more hm k (hin0 k hk)

theorem cons_shut {rho : List Nat} {k0 : Nat} {c : List AV} (hnd : (k0 :: rho).Nodup) (h0 : ((kysL c).all fun q => (k0 :: rho).contains q) = true) (h : (rho.all fun k => shutO (k0 :: rho) (lookM m k)) = true) :
    ((k0 :: rho).all fun k => shutO (k0 :: rho) (lookM ((k0, some (.box c)) :: m) k)) = true := by
  simp only [List.all_cons, Bool.and_eq_true]
  refine ⟨by rw [lookM_cons_eq]; exact h0, ?_⟩
  rw [List.all_eq_true] at h ⊢
  intro k hk
  rw [lookM_cons_ne _ _ (fun hh => by subst hh; exact (List.nodup_cons.1 hnd).1 hk)]
  exact h k hk

theorem CallXq_local {f : FuncId} {args : List AV} {e lim : Nat} (hm : ∀ k ∈ rch m 3 (kysL args), ∀ o, lookM m k = some o → lookM m' k = some o) (h : CallXq P f args m n e lim K) : CallXq P f args m' n e lim K := by
  obtain ⟨k0, rho, cs, c0, c1, args', ms0, r, g1, rm, fl, h1, ⟨h0, hd⟩, h2, h3, h4, h5, h5', h6, h7, h8, h9, h10, h11⟩ := h
  have hin0 : ∀ k ∈ k0 :: rho, k ∈ rch m 3 (kysL args) := fun k hk => by
    have := (List.all_eq_true.1 h6) k hk
    rw [List.contains_eq_mem] at this
    simpa using this
  have hin : ∀ k ∈ k0 :: rho, ∀ o, lookM m k = some o → lookM m' k = some o := fun k hk o ho => hm k (hin0 k hk) o ho
  have hsame : ∀ k ∈ rho, lookM m' k = lookM m k := fun k hk => by
    have := (List.all_eq_true.1 h5') k hk
    cases ho : lookM m k with
    | none => rw [ho] at this; simp [shutO] at this
    | some o => exact hin k (by simp [hk]) o ho
  have hall : ∀ k ∈ kysL args, pos (k0 :: rho) k ≠ none := fun k hk => by
    have := (List.all_eq_true.1 h7) k hk
    rw [List.contains_eq_mem] at this
    exact pos_of_mem (by simpa using this)
  refine ⟨k0, rho, cs, c0, c1, args', ms0, r, g1, rm, fl, h1, ⟨hin k0 (by simp) _ h0, hd⟩, lendOk_shut (cons_shut h3 h5 h5') (fun k hk o ho => ?_) h2, h3, by rw [frz_all.2 args hall]; exact h4, h5, ?_, ?_, h7, h8, h9, keepOk_local h9 hsame h10, h11⟩
  · by_cases hkk : k0 = k
    · subst hkk; rw [lookM_cons_eq] at ho ⊢; exact ho
    · rw [lookM_cons_ne _ _ hkk] at ho ⊢; exact hin k hk o ho
  · rw [List.all_eq_true] at h5' ⊢
    intro k hk
    rw [hsame k hk]; exact h5' k hk
  · rw [List.all_eq_true]
    intro k hk
    rw [List.contains_eq_mem]
    simpa using rch_more hm k (hin0 k hk)

theorem CallXr_nil_local {f : FuncId} {args : List AV} (hm : ∀ x ∈ args, ∀ k ∈ keysIn x, ∀ o, lookM m k = some o → lookM m' k = some o) (h : CallXr P f args m n [] K) : CallXr P f args m' n [] K := by
  have h7 : kysL args = [] := by
    obtain ⟨_, _, _, _, _, _, _, _, _, _, _, _, h7, _⟩ := h
    apply List.eq_nil_iff_forall_not_mem.2
    intro k hk
    have := (List.all_eq_true.1 h7) k hk
    simp at this
  refine CallXr_local (fun k hk => ?_) h
  rw [h7] at hk
  simp [rch, bks] at hk

theorem CallD_local {f : FuncId} {args : List AV} (hm : ∀ x ∈ args, ∀ k ∈ keysIn x, ∀ o, lookM m k = some o → lookM m' k = some o) (h : CallD P f args m n K) : CallD P f args m' n K := by
  rcases h with ⟨r, h1, h2, h3, h4⟩ | h
  · left
    have hall : ∀ k ∈ kysL args, lookM m' k = lookM m k := fun k hk => by
      obtain ⟨x, hx, hk'⟩ := keysInL_mem.1 (kys_sub.2 args k hk)
      have := (List.all_eq_true.1 h3) k hk
      obtain ⟨o, ho⟩ := Option.isSome_iff_exists.1 this
      rw [ho]; exact hm x hx k hk' o ho
    refine ⟨r, by rw [frz_congr.2 args hall]; exact h1, h2, ?_, h4⟩
    rw [List.all_eq_true] at h3 ⊢
    intro k hk
    rw [hall k hk]; exact h3 k hk
  · exact .inr (CallXr_nil_local hm h)

theorem CallX_local {f : FuncId} {args : List AV} (hm : ∀ x ∈ args, ∀ k ∈ keysIn x, ∀ o, lookM m k = some o → lookM m' k = some o) (hr : ∀ k ∈ rch m 3 (kysL args), ∀ o, lookM m k = some o → lookM m' k = some o)
    (h : CallX P f args m n K) : CallX P f args m' n K := by
  rcases h with h | ⟨rho, h⟩ | h
  · exact .inl (CallD_local hm h)
  · exact .inr (.inl ⟨rho, CallXr_local hr h⟩)
  · exact .inr (.inr (CallXq_local hr h))
theorem CallY_local {f : FuncId} {args : List AV} {e : Nat} (hm : ∀ x ∈ args, ∀ k ∈ keysIn x, ∀ o, lookM m k = some o → lookM m' k = some o) (hr : ∀ k ∈ rch m 3 (kysL args), ∀ o, lookM m k = some o → lookM m' k = some o)
    (h : CallY P f args m n e K) : CallY P f args m' n e K := h.imp (CallX_local hm hr) (CallXq_local hr)

theorem srcE_local {sz : Nat} {x : AV} {G : List AV → Prop} (hm : ∀ k ∈ keysIn x, ∀ o, lookM m k = some o → lookM m' k = some o) (h : srcE sz m x G) : srcE sz m' x G := by
  unfold srcE at h ⊢
  split at h
  · exact h
  · exact h
  · rename_i k off len
    split at h
    · rename_i s ys hk
      simp only [hm k (by simp [keysIn]) _ hk]; exact h
    · exact h.elim
  · exact h.elim

theorem srcE_exact {sz : Nat} {x : AV} {G : List AV → Prop} (h : srcE sz m x G) : ∃ ys, G ys ∧ ∀ G' : List AV → Prop, G' ys → srcE sz m x G' := by
  unfold srcE at h ⊢
  split at h
  · exact ⟨_, h.2, fun G' hG => ⟨h.1, hG⟩⟩
  · exact ⟨_, h, fun G' hG => hG⟩
  · split at h
    · exact ⟨_, h.2, fun G' hG => ⟨h.1, hG⟩⟩
    · exact h.elim
  · exact h.elim

theorem vapp_local {sz : Nat} {s x : AV} (hs : ∀ k ∈ keysIn s, ∀ o, lookM m k = some o → lookM m' k = some o) (hx : ∀ k ∈ keysIn x, ∀ o, lookM m k = some o → lookM m' k = some o) (h : vapp sz m n s x K) : vapp sz m' n s x K := by
  unfold vapp at h ⊢
  split at h
  · exact srcE_local hx h
  · rename_i k off len
    split at h
    · rename_i s' xs hk
      simp only [hs k (by simp [keysIn]) _ hk]
      exact ⟨h.1, h.2.1, srcE_local hx h.2.2⟩
    · exact h.elim
  · exact h.elim

theorem mapE_local {x : AV} {G : List (Value × AV) → Prop} (hm : ∀ k ∈ keysIn x, ∀ o, lookM m k = some o → lookM m' k = some o) (h : mapE m x G) : mapE m' x G := by
  unfold mapE at h ⊢
  split at h
  · exact h
  · exact h
  · rename_i k
    split at h
    · rename_i es hk
      simp only [hm k (by simp [keysIn]) _ hk]; exact h
    · exact h.elim
  · exact h.elim

theorem mapE_exact {x : AV} {G : List (Value × AV) → Prop} (h : mapE m x G) : ∃ es, G es ∧ ∀ G' : List (Value × AV) → Prop, G' es → mapE m x G' := by
  unfold mapE at h ⊢
  split at h
  · exact ⟨_, h, fun G' hG => hG⟩
  · exact ⟨_, h, fun G' hG => hG⟩
  · split at h
    · exact ⟨_, h, fun G' hG => hG⟩
    · exact h.elim
  · exact h.elim

theorem vld_local {c : Option Nat} {x : AV} (hm : ∀ k ∈ keysIn x, ∀ o, lookM m k = some o → lookM m' k = some o) (h : vld c m n x K) : vld c m' n x K ∧ (noMat m x → noMat m' x) := by
  unfold vld at h ⊢
  split at h
  · rename_i k off
    split at h
    · rename_i cs hk
      simp only [hm k (by simp [keysIn]) _ hk]; exact ⟨h, fun _ => trivial⟩
    · exact h.elim
  · exact ⟨h, fun _ => trivial⟩
  · rename_i k i j
    split at h
    · rename_i sz xs hk
      have hk' := hm k (by simp [keysIn]) _ hk
      simp only [hk']; exact ⟨h, fun _ => by simp only [noMat, hk']⟩
    · rename_i sz rows hk
      have hk' := hm k (by simp [keysIn]) _ hk
      simp only [hk']; exact ⟨h, fun hn => by simp only [noMat, hk] at hn⟩
    · rename_i sz rows i0 q0 hk
      have hk' := hm k (by simp [keysIn]) _ hk
      simp only [hk']; exact ⟨h, fun hn => by simp only [noMat, hk] at hn⟩
    · exact h.elim
  · exact h.elim

theorem stRow_local {sz : Nat} {x : AV} {G : MRow → Mem → Prop} (hm : ∀ k ∈ keysIn x, ∀ o, lookM m k = some o → lookM m' k = some o) (h : stRow m sz x G) : stRow m' sz x G := by
  unfold stRow at h ⊢
  split at h
  · rename_i q off len
    split at h
    · rename_i s xs hq
      simp only [hm q (by simp [keysIn]) _ hq]; exact h
    · exact h.elim
  · exact h

theorem stRow_exact {sz : Nat} {x : AV} {G : MRow → Mem → Prop} (h : stRow m sz x G) : ∃ r u, G r u ∧ (∀ G' : MRow → Mem → Prop, G' r u → stRow m sz x G') ∧ ∀ p ∈ u, p.1 ∈ keysIn x ∧ lookM m p.1 ≠ none := by
  unfold stRow at h ⊢
  split at h
  · rename_i q off len
    split at h
    · rename_i s xs hq
      refine ⟨_, _, h.2.2.2, fun G' hG => ⟨h.1, h.2.1, h.2.2.1, hG⟩, fun p hp => ?_⟩
      simp at hp; subst hp
      exact ⟨by simp [keysIn], by simp [hq]⟩
    · exact h.elim
  · exact ⟨_, _, h.2.2, fun G' hG => ⟨h.1, h.2.1, hG⟩, fun p hp => by simp at hp⟩

theorem bnd_congr {x : Option Opd} {d : Nat} {G : Int → Prop} (h : ∀ y ∈ x.toList, ev t' y = ev t y) (hb : bnd t d x G) : bnd t' d x G := by
  cases x with
  | none => exact hb
  | some x => simp only [bnd] at hb ⊢; rw [h x (by simp)]; exact hb

theorem bnd_mono {x : Option Opd} {d : Nat} {G G' : Int → Prop} (hb : bnd t d x G) (h : ∀ a, G a → G' a) : bnd t d x G' := by
  cases x with
  | none => exact h _ hb
  | some x =>
    simp only [bnd] at hb ⊢
    split at hb
    · exact h _ hb
    · exact hb.elim

theorem bnd_exact {x : Option Opd} {d : Nat} {G : Int → Prop} (hb : bnd t d x G) : ∃ a, G a ∧ ∀ G' : Int → Prop, G' a → bnd t d x G' := by
  cases x with
  | none => exact ⟨_, hb, fun G' h => h⟩
  | some x =>
    simp only [bnd] at hb ⊢
    split at hb
    · exact ⟨_, hb, fun G' h => h⟩
    · exact hb.elim

/-- a call that may lead on from what it is given -/
def deepM : MOp → Bool
  | .callx _ _ => true
  | .callvx _ _ => true
  | .cally _ _ _ => true
  | _ => false
/-- the keys that an operation looks at, or leads to -/
def TK (op : MOp) (t : Tmps) (m : Mem) (k : Nat) : Prop := (∃ y ∈ opnds op, k ∈ keysIn (ev t y)) ∨ (deepM op = true ∧ k ∈ rch m 3 (keysInL (evs t (opnds op))))

theorem evs_keys {t : Tmps} : ∀ {l : List Opd} {y : Opd} {k : Nat}, y ∈ l → k ∈ keysIn (ev t y) → k ∈ keysInL (evs t l) := by
  intro l y k hy hk
  refine keysInL_mem.2 ⟨ev t y, ?_, hk⟩
  induction l with
  | nil => simp at hy
  | cons z l ih =>
    rcases List.mem_cons.1 hy with rfl | hy
    · simp [evs]
    · simp [evs, ih hy]

theorem callvx_keys {g : Opd} {l : List Opd} {f : FuncId} {caps : List AV} (e : ev t g = .fn f caps) : ∀ k ∈ kysL (evs t l ++ caps), k ∈ keysInL (evs t (opnds (.callvx g l))) := fun k hk => by
  obtain ⟨x, hx, hk⟩ := keysInL_mem.1 (kys_sub.2 _ k hk)
  rcases List.mem_append.1 hx with hx | hx
  · obtain ⟨z, hz, rfl⟩ := evs_mem hx
    exact evs_keys (by simp [opnds, hz]) hk
  · refine evs_keys (y := g) (by simp [opnds]) ?_
    rw [e]; simp only [keysIn]; exact keysInL_mem.2 ⟨x, hx, hk⟩

theorem vrunD_local {op : MOp} (hop : ∀ x ∈ opnds op, ev t' x = ev t x) (hmT : rdM op = true → ∀ k, TK op t m k → ∀ o, lookM m k = some o → lookM m' k = some o)
    (h : vrunD P op t m n K) : vrunD P op t' m' n K := by
  have hm : rdM op = true → ∀ x ∈ opnds op, ∀ k ∈ keysIn (ev t x), ∀ o, lookM m k = some o → lookM m' k = some o := fun hr x hx k hk => hmT hr k (.inl ⟨x, hx, hk⟩)
  cases op with
  | mov x => simp only [vrunD, vop, opnds] at *; rw [hop x (by simp)]; exact h
  | pick c x y => simp only [vrunD, vop, opnds] at *; rw [hop c (by simp), hop x (by simp), hop y (by simp)]; exact h
  | bin op x y => simp only [vrunD, vop, opnds] at *; rw [hop x (by simp), hop y (by simp)]; exact h
  | eqb ng x y => simp only [vrunD, vop, opnds] at *; rw [hop x (by simp), hop y (by simp)]; exact h
  | not x => simp only [vrunD, vop, opnds] at *; rw [hop x (by simp)]; exact h
  | neg x => simp only [vrunD, vop, opnds] at *; rw [hop x (by simp)]; exact h
  | conv k x => simp only [vrunD, vop, opnds] at *; rw [hop x (by simp)]; exact h
  | new zs => exact h
  | box x => simp only [vrunD, vop, opnds] at *; rw [hop x (by simp)]; exact h
  | build zs ps =>
    simp only [vrunD, vop, opnds] at *
    refine ⟨?_, fillL_congr hop h.2⟩
    have := h.1
    rw [List.all_eq_true] at this ⊢
    intro p hp
    rw [hop p.2.2 (List.mem_map.2 ⟨p, hp, rfl⟩)]; exact this p hp
  | ld c x =>
    simp only [vrunD, vop, opnds] at *
    rw [hop x (by simp)]
    have := vld_local (hm rfl x (by simp)) h.2
    exact ⟨this.2 h.1, this.1⟩
  | ldm x =>
    simp only [vrunD, vop, opnds] at *
    rw [hop x (by simp)]
    exact (vld_local (hm rfl x (by simp)) h).1
  | st c x y =>
    simp only [vrunD, vop, opnds] at *
    rw [hop x (by simp), hop y (by simp)]
    have hm' := hm rfl x (by simp)
    split at h
    · rename_i k off e
      split at h
      · rename_i cs hk
        rw [e] at hm'
        rw [hm' k (by simp [keysIn]) _ hk]; exact h
      · exact h.elim
    · rename_i k i e
      split at h
      · rename_i sz xs hk
        rw [e] at hm'
        rw [hm' k (by simp [keysIn]) _ hk]; exact h
      · rename_i sz rows hk
        rw [e] at hm'
        rw [hm' k (by simp [keysIn]) _ hk]; exact ⟨h.1, h.2.1, stRow_local (hm rfl y (by simp)) h.2.2⟩
      · rename_i sz rows i0 q0 hk
        rw [e] at hm'
        rw [hm' k (by simp [keysIn]) _ hk]; exact ⟨h.1, h.2.1, stRow_local (hm rfl y (by simp)) h.2.2⟩
      · exact h.elim
    · rename_i k i j _ e
      split at h
      · rename_i sz xs hk
        rw [e] at hm'
        rw [hm' k (by simp [keysIn]) _ hk]; exact h
      · exact h.elim
    · exact h.elim
  | faddr off x => simp only [vrunD, vop, opnds] at *; rw [hop x (by simp)]; exact h
  | fld c off x => simp only [vrunD, vop, opnds] at *; rw [hop x (by simp)]; exact h
  | iaddr sz x i =>
    simp only [vrunD, vop, opnds] at *
    rw [hop x (by simp), hop i (by simp)]
    have hm' := hm rfl x (by simp)
    split at h
    · exact h
    · rename_i k off len k' j e1 e2
      split at h
      · rename_i s xs hk
        rw [e1] at hm'
        rw [hm' k (by simp [keysIn]) _ hk]; exact h
      · rename_i s xs hk
        rw [e1] at hm'
        rw [hm' k (by simp [keysIn]) _ hk]; exact h
      · rename_i hk
        rw [e1] at hm'
        rw [hm' k (by simp [keysIn]) _ hk]; exact h
      · exact h.elim
    · exact h.elim
  | nchk x => simp only [vrunD, vop, opnds] at *; rw [hop x (by simp)]; exact h
  | aaddr c L x i => simp only [vrunD, vop, opnds] at *; rw [hop x (by simp), hop i (by simp)]; exact h
  | idx L x i => simp only [vrunD, vop, opnds] at *; rw [hop x (by simp), hop i (by simp)]; exact h
  | ext i x => simp only [vrunD, vop, opnds] at *; rw [hop x (by simp)]; exact h
  | len x => simp only [vrunD, vop, opnds] at *; rw [hop x (by simp)]; exact h
  | mkfn f l => simp only [vrunD, vop, opnds] at *; rw [evs_congr hop]; exact h
  | blds sz l => simp only [vrunD, vop, opnds] at *; rw [evs_congr hop]; exact h
  | bldo sz l =>
    simp only [vrunD, vop, opnds] at *
    rw [evs_congr hop]
    obtain ⟨h1, h2, h3⟩ := h
    have hall : ∀ k ∈ kysL (evs t l), lookM m' k = lookM m k := fun k hk => by
      obtain ⟨y, hy, hk'⟩ := keysInL_mem.1 (kys_sub.2 _ k hk)
      obtain ⟨x, hx, rfl⟩ := evs_mem hy
      have := (List.all_eq_true.1 h2) k hk
      obtain ⟨o, ho⟩ := Option.isSome_iff_exists.1 this
      rw [ho]; exact hm rfl x hx k hk' o ho
    rw [frz_congr.2 _ hall]
    refine ⟨h1, ?_, h3⟩
    rw [List.all_eq_true] at h2 ⊢
    intro k hk
    rw [hall k hk]; exact h2 k hk
  | bldr sz l => simp only [vrunD, vop, opnds] at *; rw [evs_congr hop]; exact h
  | mm b x y => simp only [vrunD, vop, opnds] at *; rw [hop x (by simp), hop y (by simp)]; exact h
  | app sz s x =>
    simp only [vrunD, vop, opnds] at *
    rw [hop s (by simp), hop x (by simp)]
    exact vapp_local (hm rfl s (by simp)) (hm rfl x (by simp)) h
  | mks z l c => simp only [vrunD, vop, opnds] at *; rw [hop l (by simp), hop c (by simp)]; exact h
  | mkm z l c => simp only [vrunD, vop, opnds] at *; rw [hop l (by simp), hop c (by simp)]; exact h
  | mnew => exact h
  | mget kk z ok x i =>
    simp only [vrunD, vop, opnds] at *
    rw [hop x (by simp), hop i (by simp)]
    split at h
    · exact ⟨h.1, mapE_local (hm rfl x (by simp)) h.2⟩
    · exact h.elim
  | mset kk x i y =>
    simp only [vrunD, vop, opnds] at *
    rw [hop x (by simp), hop i (by simp), hop y (by simp)]
    have hm' := hm rfl x (by simp)
    split at h
    · rename_i k' k a e1 e2
      split at h
      · rename_i es hk
        rw [e1] at hm'
        rw [hm' k' (by simp [keysIn]) _ hk]; exact h
      · exact h.elim
    · exact h.elim
  | cap x => simp only [vrunD, vop, opnds] at *; rw [hop x (by simp)]; exact h
  | appz z s x => simp only [vrunD, vop, opnds] at *; rw [hop s (by simp), hop x (by simp)]; exact h
  | b2s x =>
    simp only [vrunD, vop, opnds] at *
    rw [hop x (by simp)]
    exact srcE_local (hm rfl x (by simp)) h
  | never => exact h.elim
  | sget z ok x i =>
    simp only [vrunD, vop, opnds] at *
    rw [hop x (by simp), hop i (by simp)]
    split at h
    · exact mapE_local (hm rfl x (by simp)) h
    · exact h.elim
  | aget ks z ok x i =>
    simp only [vrunD, vop, opnds] at *
    rw [hop x (by simp), hop i (by simp)]
    split at h
    · exact mapE_local (hm rfl x (by simp)) h
    · exact h.elim
  | aset ks x i y =>
    simp only [vrunD, vop, opnds] at *
    rw [hop x (by simp), hop i (by simp), hop y (by simp)]
    have hm' := hm rfl x (by simp)
    split at h
    · rename_i k' a e1 e2
      split at h
      · rename_i es hk
        rw [e1] at hm'
        rw [hm' k' (by simp [keysIn]) _ hk]; exact h
      · exact h.elim
    · exact h.elim
  | sset x i y =>
    simp only [vrunD, vop, opnds] at *
    rw [hop x (by simp), hop i (by simp), hop y (by simp)]
    have hm' := hm rfl x (by simp)
    split at h
    · rename_i k' a e1 e2
      split at h
      · rename_i es hk
        rw [e1] at hm'
        rw [hm' k' (by simp [keysIn]) _ hk]; exact h
      · exact h.elim
    · exact h.elim
  | mlen x =>
    simp only [vrunD, vop, opnds] at *
    rw [hop x (by simp)]
    exact mapE_local (hm rfl x (by simp)) h
  | mrng x => simp only [vrunD, vop, opnds] at *; rw [hop x (by simp)]; exact h
  | next x => exact h.elim
  | entry x =>
    simp only [vrunD, vop, opnds] at *
    rw [hop x (by simp)]
    have hm' := hm rfl x (by simp)
    split at h
    · rename_i k e
      split at h
      · rename_i l p hk
        rw [e] at hm'
        rw [hm' k (by simp [keysIn]) _ hk]; exact h
      · exact h.elim
    · exact h.elim
  | isnil ng x => simp only [vrunD, vop, opnds] at *; rw [hop x (by simp)]; exact h
  | nilm ng x => simp only [vrunD, vop, opnds] at *; rw [hop x (by simp)]; exact h
  | eqa sz ng x y => simp only [vrunD, vop, opnds] at *; rw [hop x (by simp), hop y (by simp)]; exact h
  | slc sz x lo hi =>
    simp only [vrunD, vop, opnds] at *
    rw [hop x (by simp)]
    have hm' := hm rfl x (by simp)
    have hlo : ∀ y ∈ lo.toList, ev t' y = ev t y := fun y hy => hop y (by simp at hy; simp [hy])
    have hhi : ∀ y ∈ hi.toList, ev t' y = ev t y := fun y hy => hop y (by simp at hy; simp [hy])
    split at h
    · exact bnd_congr hlo (bnd_mono h fun l hl => bnd_congr hhi hl)
    · rename_i k off len e
      split at h
      · rename_i s xs hk
        rw [e] at hm'
        rw [hm' k (by simp [keysIn]) _ hk]
        exact bnd_congr hlo (bnd_mono h fun l hl => bnd_congr hhi hl)
      · exact h.elim
    · exact bnd_congr hlo (bnd_mono h fun l hl => bnd_congr hhi hl)
    · exact h.elim
  | call f l =>
    simp only [vrunD, opnds] at *
    rw [evs_congr hop]
    refine CallD_local (fun x hx k hk o ho => ?_) h
    obtain ⟨z, hz, rfl⟩ := evs_mem hx
    exact hm rfl z hz k hk o ho
  | callv g l =>
    simp only [vrunD, opnds] at *
    rw [hop g (by simp)]
    split at h
    · rename_i f caps e
      rw [evs_congr (fun x hx => hop x (by simp [hx]))]
      refine CallD_local (fun x hx k hk o ho => ?_) h
      rcases List.mem_append.1 hx with hx | hx
      · obtain ⟨z, hz, rfl⟩ := evs_mem hx
        exact hm rfl z (by simp [hz]) k hk o ho
      · refine hm rfl g (by simp) k ?_ o ho
        rw [e]; simp only [keysIn]; exact keysInL_mem.2 ⟨x, hx, hk⟩
    · exact h.elim
  | callx f l =>
    simp only [vrunD, opnds] at *
    rw [evs_congr hop]
    refine CallX_local (fun x hx k hk o ho => ?_) (fun k hk => hmT rfl k (.inr ⟨rfl, rch_sub (fun q hq => kys_sub.2 _ q hq) k hk⟩)) h
    obtain ⟨z, hz, rfl⟩ := evs_mem hx
    exact hm rfl z hz k hk o ho
  | cally k f l =>
    simp only [vrunD, opnds] at *
    rw [evs_congr hop]
    refine CallY_local (fun x hx k hk o ho => ?_) (fun k hk => hmT rfl k (.inr ⟨rfl, rch_sub (fun q hq => kys_sub.2 _ q hq) k hk⟩)) h
    obtain ⟨z, hz, rfl⟩ := evs_mem hx
    exact hm rfl z hz k hk o ho
  | callvx g l =>
    simp only [vrunD, opnds] at *
    rw [hop g (by simp)]
    split at h
    · rename_i f caps e
      rw [evs_congr (fun x hx => hop x (by simp [hx]))]
      refine CallX_local (fun x hx k hk o ho => ?_) (fun k hk => hmT rfl k (.inr ⟨rfl, rch_sub (callvx_keys e) k hk⟩)) h
      rcases List.mem_append.1 hx with hx | hx
      · obtain ⟨z, hz, rfl⟩ := evs_mem hx
        exact hm rfl z (by simp [hz]) k hk o ho
      · refine hm rfl g (by simp) k ?_ o ho
        rw [e]; simp only [keysIn]; exact keysInL_mem.2 ⟨x, hx, hk⟩
    · exact h.elim

/-- which objects an operation may turn -/
def Wr0 (op : MOp) (t : Tmps) (m : Mem) (n : Nat) (u : Mem) : Prop :=
  ∀ p ∈ u, p.1 = n ∨ (wrM op = true ∧ TK op t m p.1 ∧ lookM m p.1 ≠ none)
/-- how far the second new key of an operation is -/
def yk : MOp → Option Nat
  | .cally k _ _ => some k
  | _ => none
def Wr (op : MOp) (t : Tmps) (m : Mem) (n : Nat) (u : Mem) : Prop :=
  ∀ p ∈ u, (p.1 = n ∨ ∃ k, yk op = some k ∧ p.1 = n + k) ∨ (wrM op = true ∧ TK op t m p.1 ∧ lookM m p.1 ≠ none)
theorem Wr_of {op : MOp} {t : Tmps} {m : Mem} {n : Nat} {u : Mem} (h : Wr0 op t m n u) : Wr op t m n u := fun p hp => (h p hp).imp .inl id

abbrev Ex (x : AV) (u : Mem) : AV → Mem → Prop := fun x' u' => x' = x ∧ u' = u

theorem Wr0_nil {op : MOp} : Wr0 op t m n [] := fun p hp => by simp at hp
theorem Wr_nil {op : MOp} : Wr op t m n [] := fun p hp => by simp at hp

theorem vbin_exact {op : BinOp} {k : IntKind} {c d : Int} {G : Value → Prop} (h : vbin op k c d G) : ∃ v, G v ∧ ∀ G' : Value → Prop, G' v → vbin op k c d G' := by
  cases op <;> simp only [vbin] at h ⊢
  case quo => exact ⟨_, h.2, fun G' hG => ⟨h.1, hG⟩⟩
  case rem => exact ⟨_, h.2, fun G' hG => ⟨h.1, hG⟩⟩
  all_goals first | exact h.elim | exact ⟨_, h, fun G' hG => hG⟩

theorem ldc_exact {c : Option Nat} {cs : List AV} {off : Nat} {G : AV → Prop} (h : ldc c cs off G) : ∃ y, G y ∧ ∀ G' : AV → Prop, G' y → ldc c cs off G' := by
  cases c with
  | none => obtain ⟨y, h1, h2⟩ := h; exact ⟨y, h2, fun G' hG => ⟨y, h1, hG⟩⟩
  | some k => exact ⟨_, h.2, fun G' hG => ⟨h.1, hG⟩⟩

theorem fillL_exact {ps : List (Nat × Nat × Opd)} {cs : List AV} {G : List AV → Prop} (h : fillL t cs ps G) : ∃ y, G y ∧ ∀ G' : List AV → Prop, G' y → fillL t cs ps G' := by
  induction ps generalizing cs with
  | nil => exact ⟨cs, h, fun G' hG => hG⟩
  | cons p ps ih =>
    obtain ⟨off, k, x⟩ := p
    simp only [fillL] at h ⊢
    obtain ⟨y, h1, h2⟩ := ih h.2.2
    exact ⟨y, h1, fun G' hG => ⟨h.1, h.2.1, h2 G' hG⟩⟩

theorem outM_mem {g : Nat → Nat} : ∀ {l : List (Option MObj)} {i0 : Nat} {p : Nat × Option MObj}, p ∈ outM g i0 l → ∃ i, i < l.length ∧ p.1 = g (i0 + i) := by
  intro l
  induction l with
  | nil => intro i0 p h; simp [outM] at h
  | cons o l ih =>
    intro i0 p h
    cases o with
    | none =>
      simp only [outM, List.mem_cons] at h
      rcases h with rfl | h
      · exact ⟨0, by simp, rfl⟩
      · obtain ⟨i, h1, h2⟩ := ih h; exact ⟨i + 1, by simp; omega, by rw [h2]; congr 1; omega⟩
    | some o =>
      simp only [outM, List.mem_cons] at h
      rcases h with rfl | h
      · exact ⟨0, by simp, rfl⟩
      · obtain ⟨i, h1, h2⟩ := ih h; exact ⟨i + 1, by simp; omega, by rw [h2]; congr 1; omega⟩

theorem CallXr_exact {f : FuncId} {args : List AV} {rho : List Nat} (h : CallXr P f args m n rho K) : ∃ x u, K x u ∧ CallXr P f args m n rho (Ex x u) ∧
    ∀ p ∈ u, p.1 = n ∨ (p.1 ∈ rho ∧ p.1 ∈ rch m 3 (kysL args) ∧ lookM m p.1 ≠ none) := by
  obtain ⟨args', m0, r, gv, rm, fl, h1, h2, h3, h4, h5, h6, h7, h8, h9, h10, h11⟩ := h
  refine ⟨_, _, h11, ⟨args', m0, r, gv, rm, fl, h1, h2, h3, h4, h5, h6, h7, h8, h9, h10, rfl, rfl⟩, fun p hp => ?_⟩
  obtain ⟨i, hi, hpi⟩ := outM_mem (filtM_mem hp)
  rw [Nat.zero_add] at hpi
  by_cases hir : i < rho.length
  · right
    have hk : p.1 = rho[i] := by rw [hpi]; simp [gx, hir]
    have hmem : p.1 ∈ rho := hk ▸ List.getElem_mem hir
    refine ⟨hmem, ?_, ?_⟩
    · have := (List.all_eq_true.1 h6) _ hmem
      rw [List.contains_eq_mem] at this
      simpa using this
    · intro hn
      have := (List.all_eq_true.1 h5) _ hmem
      rw [hn] at this; simp [shutO] at this
  · left; rw [hpi]; simp [gx, List.getElem?_eq_none (Nat.le_of_not_lt hir)]

theorem CallXq_exact {f : FuncId} {args : List AV} {e lim : Nat} (h : CallXq P f args m n e lim K) : ∃ x u, K x u ∧ CallXq P f args m n e lim (Ex x u) ∧
    ∀ p ∈ u, p.1 = n ∨ (2 ≤ lim ∧ p.1 = e) ∨ (p.1 ∈ rch m 3 (kysL args) ∧ lookM m p.1 ≠ none) := by
  obtain ⟨k0, rho, cs, c0, c1, args', ms0, r, g1, rm, fl, h1, ⟨h0, hd⟩, h2, h3, h4, h5, h5', h6, h7, h8, h9, h10, h11⟩ := h
  refine ⟨_, _, h11, ⟨k0, rho, cs, c0, c1, args', ms0, r, g1, rm, fl, h1, ⟨h0, hd⟩, h2, h3, h4, h5, h5', h6, h7, h8, h9, h10, rfl, rfl⟩, fun p hp => ?_⟩
  have hin : ∀ k ∈ k0 :: rho, k ∈ rch m 3 (kysL args) := fun k hk => by
    have := (List.all_eq_true.1 h6) k hk
    rw [List.contains_eq_mem] at this
    simpa using this
  rcases List.mem_cons.1 hp with rfl | hp
  · exact .inr (.inr ⟨hin k0 (by simp), by show lookM m k0 ≠ none; rw [h0]; simp⟩)
  obtain ⟨i, hi, hpi⟩ := outM_mem (filtM_mem hp)
  by_cases hir : i < rho.length
  · right; right
    have hk : p.1 = rho[i] := by rw [hpi]; simp [gy, Nat.add_comm 1 i, hir]
    have hmem : p.1 ∈ rho := hk ▸ List.getElem_mem hir
    refine ⟨hin _ (by simp [hmem]), fun hn => ?_⟩
    have := (List.all_eq_true.1 h5') _ hmem
    rw [hn] at this; simp [shutO] at this
  · have hnone : (k0 :: rho)[1 + i]? = none := List.getElem?_eq_none (by simp; omega)
    by_cases hil : i = rho.length
    · left; rw [hpi]; simp only [gy, hnone, Option.getD_none]; rw [if_pos (by simp; omega)]
    · right; left
      have hlen := h1.2
      simp only [List.length_append] at hi
      refine ⟨by omega, ?_⟩
      rw [hpi]; simp only [gy, hnone, Option.getD_none]; rw [if_neg (by simp; omega)]

theorem CallD_exact {f : FuncId} {args : List AV} (h : CallD P f args m n K) : ∃ x u, K x u ∧ CallD P f args m n (Ex x u) ∧ ∀ p ∈ u, p.1 = n := by
  rcases h with ⟨r, h1, h2, h3, h4⟩ | h
  · exact ⟨r, [], h4, .inl ⟨r, h1, h2, h3, rfl, rfl⟩, fun p hp => by simp at hp⟩
  · obtain ⟨x, u, h1, h2, h3⟩ := CallXr_exact h
    exact ⟨x, u, h1, .inr h2, fun p hp => (h3 p hp).elim id (fun h => by simp at h)⟩

theorem CallX_exact {f : FuncId} {args : List AV} (h : CallX P f args m n K) : ∃ x u, K x u ∧ CallX P f args m n (Ex x u) ∧
    ∀ p ∈ u, p.1 = n ∨ (p.1 ∈ rch m 3 (kysL args) ∧ lookM m p.1 ≠ none) := by
  rcases h with h | ⟨rho, h⟩ | h
  · obtain ⟨x, u, h1, h2, h3⟩ := CallD_exact h
    exact ⟨x, u, h1, .inl h2, fun p hp => .inl (h3 p hp)⟩
  · obtain ⟨x, u, h1, h2, h3⟩ := CallXr_exact h
    exact ⟨x, u, h1, .inr (.inl ⟨rho, h2⟩), fun p hp => (h3 p hp).imp id (fun hh => hh.2)⟩
  · obtain ⟨x, u, h1, h2, h3⟩ := CallXq_exact h
    exact ⟨x, u, h1, .inr (.inr h2), fun p hp => (h3 p hp).imp id (fun hh => hh.resolve_left (fun hh => by omega))⟩
theorem CallY_exact {f : FuncId} {args : List AV} {e : Nat} (h : CallY P f args m n e K) : ∃ x u, K x u ∧ CallY P f args m n e (Ex x u) ∧
    ∀ p ∈ u, (p.1 = n ∨ p.1 = e) ∨ (p.1 ∈ rch m 3 (kysL args) ∧ lookM m p.1 ≠ none) := by
  rcases h with h | h
  · obtain ⟨x, u, h1, h2, h3⟩ := CallX_exact h
    exact ⟨x, u, h1, .inl h2, fun p hp => (h3 p hp).imp .inl id⟩
  · obtain ⟨x, u, h1, h2, h3⟩ := CallXq_exact h
    exact ⟨x, u, h1, .inr h2, fun p hp => by
      rcases h3 p hp with h | h | h
      · exact .inl (.inl h)
      · exact .inl (.inr h.2)
      · exact .inr h⟩

theorem vrunD_exact0 {op : MOp} (hy : yk op = none) (h : vrunD P op t m n K) : ∃ x u, K x u ∧ vrunD P op t m n (Ex x u) ∧ Wr0 op t m n u := by
  cases op with
  | mov x => exact ⟨_, _, h, ⟨rfl, rfl⟩, Wr0_nil⟩
  | pick c x y =>
    simp only [vrunD, vop] at h ⊢
    split at h
    · rename_i b e
      cases b with
      | true => exact ⟨_, _, h.1 rfl, ⟨fun _ => ⟨rfl, rfl⟩, (fun h => by cases h)⟩, Wr0_nil⟩
      | false => exact ⟨_, _, h.2 rfl, ⟨(fun h => by cases h), fun _ => ⟨rfl, rfl⟩⟩, Wr0_nil⟩
    · exact h.elim
  | bin op x y =>
    simp only [vrunD, vop] at h ⊢
    split at h
    · split at h
      · exact ⟨_, _, h.2, ⟨h.1, rfl, rfl⟩, Wr0_nil⟩
      · exact ⟨_, _, h.2, ⟨h.1, rfl, rfl⟩, Wr0_nil⟩
      · obtain ⟨v, h1, h2⟩ := vbin_exact h.2
        exact ⟨_, _, h1, ⟨h.1, h2 _ ⟨rfl, rfl⟩⟩, Wr0_nil⟩
    · exact h.elim
  | eqb ng x y =>
    simp only [vrunD, vop] at h ⊢
    split at h
    · exact ⟨_, _, h, ⟨rfl, rfl⟩, Wr0_nil⟩
    · exact h.elim
  | not x =>
    simp only [vrunD, vop] at h ⊢
    split at h
    · exact ⟨_, _, h, ⟨rfl, rfl⟩, Wr0_nil⟩
    · exact h.elim
  | neg x =>
    simp only [vrunD, vop] at h ⊢
    split at h
    · exact ⟨_, _, h, ⟨rfl, rfl⟩, Wr0_nil⟩
    · exact h.elim
  | conv k x =>
    simp only [vrunD, vop] at h ⊢
    split at h
    · exact ⟨_, _, h, ⟨rfl, rfl⟩, Wr0_nil⟩
    · exact h.elim
  | new zs => exact ⟨_, _, h, ⟨rfl, rfl⟩, fun p hp => .inl (by simp at hp; rw [hp])⟩
  | box x => exact ⟨_, _, h.2, ⟨h.1, rfl, rfl⟩, fun p hp => .inl (by simp at hp; rw [hp])⟩
  | build zs ps =>
    obtain ⟨y, h1, h2⟩ := fillL_exact h.2
    exact ⟨_, _, h1, ⟨h.1, h2 _ ⟨rfl, rfl⟩⟩, Wr0_nil⟩
  | ld c x =>
    simp only [vrunD, vop] at h ⊢
    obtain ⟨h0, h⟩ := h
    generalize ev t x = y at h h0 ⊢
    unfold vld at h ⊢
    split at h
    · split at h
      · obtain ⟨y, h1, h2⟩ := ldc_exact h
        exact ⟨_, _, h1, ⟨h0, h2 _ ⟨rfl, rfl⟩⟩, Wr0_nil⟩
      · exact h.elim
    · obtain ⟨y, h1, h2⟩ := ldc_exact h
      exact ⟨_, _, h1, ⟨h0, h2 _ ⟨rfl, rfl⟩⟩, Wr0_nil⟩
    · split at h
      · obtain ⟨z, hz, h⟩ := h
        obtain ⟨y, h1, h2⟩ := ldc_exact h
        exact ⟨_, _, h1, ⟨h0, Pick.mk z hz (h2 _ ⟨rfl, rfl⟩)⟩, Wr0_nil⟩
      · rename_i sz rows hk
        simp only [noMat, hk] at h0
      · rename_i sz rows i0 q0 hk
        simp only [noMat, hk] at h0
      · exact h.elim
    · exact h.elim
  | ldm x =>
    simp only [vrunD, vop] at h ⊢
    unfold vld at h ⊢
    split at h
    · split at h
      · obtain ⟨y, h1, h2⟩ := ldc_exact h
        exact ⟨_, _, h1, h2 _ ⟨rfl, rfl⟩, Wr0_nil⟩
      · exact h.elim
    · obtain ⟨y, h1, h2⟩ := ldc_exact h
      exact ⟨_, _, h1, h2 _ ⟨rfl, rfl⟩, Wr0_nil⟩
    · rename_i k i j e
      split at h
      · obtain ⟨z, hz, h⟩ := h
        obtain ⟨y, h1, h2⟩ := ldc_exact h
        exact ⟨_, _, h1, Pick.mk z hz (h2 _ ⟨rfl, rfl⟩), Wr0_nil⟩
      · rename_i sz rows hk
        obtain ⟨h1, h2, rr, h3, h4⟩ := h
        split at h4
        · refine ⟨_, _, h4, ⟨h1, h2, PickR.mk _ h3 ⟨rfl, rfl⟩⟩, fun p hp => ?_⟩
          simp only [List.mem_cons, List.not_mem_nil, or_false] at hp
          rcases hp with rfl | rfl
          · exact .inl rfl
          · exact .inr ⟨rfl, .inl ⟨x, by simp [opnds], by rw [e]; simp [keysIn]⟩, by simp [hk]⟩
        · exact ⟨_, _, h4, ⟨h1, h2, PickR.mk _ h3 ⟨rfl, rfl⟩⟩, Wr0_nil⟩
        · exact h4.elim
      · rename_i sz rows i0 q0 hk
        obtain ⟨h1, h2, rr, h3, h4⟩ := h
        split at h4
        · refine ⟨_, _, h4, ⟨h1, h2, PickR.mk _ h3 ⟨rfl, rfl⟩⟩, fun p hp => ?_⟩
          simp only [List.mem_cons, List.not_mem_nil, or_false] at hp
          rcases hp with rfl | rfl
          · exact .inl rfl
          · exact .inr ⟨rfl, .inl ⟨x, by simp [opnds], by rw [e]; simp [keysIn]⟩, by simp [hk]⟩
        · exact ⟨_, _, h4, ⟨h1, h2, PickR.mk _ h3 ⟨rfl, rfl⟩⟩, Wr0_nil⟩
        · exact h4.elim
      · exact h.elim
    · exact h.elim
  | st c x y =>
    simp only [vrunD, vop] at h ⊢
    split at h
    · rename_i k off e
      split at h
      · rename_i cs hk
        refine ⟨_, _, h.2.2.2, ⟨h.1, h.2.1, h.2.2.1, rfl, rfl⟩, fun p hp => .inr ⟨rfl, .inl ⟨x, by simp [opnds], ?_⟩, ?_⟩⟩
        · simp at hp; rw [hp, e]; simp [keysIn]
        · simp at hp; rw [hp]; simp [hk]
      · exact h.elim
    · rename_i k i e
      split at h
      · rename_i sz xs hk
        refine ⟨_, _, h.2.2.2.2.2, ⟨h.1, h.2.1, h.2.2.1, h.2.2.2.1, h.2.2.2.2.1, rfl, rfl⟩, fun p hp => .inr ⟨rfl, .inl ⟨x, by simp [opnds], ?_⟩, ?_⟩⟩
        · simp at hp; rw [hp, e]; simp [keysIn]
        · simp at hp; rw [hp]; simp [hk]
      · rename_i sz rows hk
        obtain ⟨rr, u, h1, h2, h3⟩ := stRow_exact h.2.2
        refine ⟨_, _, h1, ⟨h.1, h.2.1, h2 _ ⟨rfl, rfl⟩⟩, fun p hp => .inr ⟨rfl, ?_⟩⟩
        rcases List.mem_cons.1 hp with rfl | hp
        · exact ⟨.inl ⟨x, by simp [opnds], by rw [e]; simp [keysIn]⟩, by simp [hk]⟩
        · exact ⟨.inl ⟨y, by simp [opnds], (h3 p hp).1⟩, (h3 p hp).2⟩
      · rename_i sz rows i0 q0 hk
        obtain ⟨rr, u, h1, h2, h3⟩ := stRow_exact h.2.2
        refine ⟨_, _, h1, ⟨h.1, h.2.1, h2 _ ⟨rfl, rfl⟩⟩, fun p hp => .inr ⟨rfl, ?_⟩⟩
        rcases List.mem_cons.1 hp with rfl | hp
        · exact ⟨.inl ⟨x, by simp [opnds], by rw [e]; simp [keysIn]⟩, by simp [hk]⟩
        · exact ⟨.inl ⟨y, by simp [opnds], (h3 p hp).1⟩, (h3 p hp).2⟩
      · exact h.elim
    · rename_i k i j _ e
      split at h
      · rename_i sz xs hk
        obtain ⟨h1, h2, h3, h4, e0, h5, h6⟩ := h
        refine ⟨_, _, h6, ⟨h1, h2, h3, h4, Pick.mk e0 h5 ⟨rfl, rfl⟩⟩, fun p hp => .inr ⟨rfl, .inl ⟨x, by simp [opnds], ?_⟩, ?_⟩⟩
        · simp at hp; rw [hp, e]; simp [keysIn]
        · simp at hp; rw [hp]; simp [hk]
      · exact h.elim
    · exact h.elim
  | faddr off x =>
    simp only [vrunD, vop] at h ⊢
    split at h
    · exact ⟨_, _, h, ⟨rfl, rfl⟩, Wr0_nil⟩
    · exact ⟨_, _, h.2, ⟨h.1, rfl, rfl⟩, Wr0_nil⟩
    · exact ⟨_, _, h, ⟨rfl, rfl⟩, Wr0_nil⟩
    · exact h.elim
  | fld c off x =>
    simp only [vrunD, vop] at h ⊢
    split at h
    · obtain ⟨y, h1, h2⟩ := ldc_exact h
      exact ⟨_, _, h1, h2 _ ⟨rfl, rfl⟩, Wr0_nil⟩
    · exact h.elim
  | iaddr sz x i =>
    simp only [vrunD, vop] at h ⊢
    split at h
    · obtain ⟨h1, h2, y, h3, h4⟩ := h
      exact ⟨_, _, h4, ⟨h1, h2, Pick.mk y h3 ⟨rfl, rfl⟩⟩, Wr0_nil⟩
    · split at h
      · exact ⟨_, _, h.2.2.2, ⟨h.1, h.2.1, h.2.2.1, rfl, rfl⟩, Wr0_nil⟩
      · exact ⟨_, _, h.2.2.2, ⟨h.1, h.2.1, h.2.2.1, rfl, rfl⟩, Wr0_nil⟩
      · exact ⟨_, _, h.2.2.2, ⟨h.1, h.2.1, h.2.2.1, rfl, rfl⟩, Wr0_nil⟩
      · exact h.elim
    · exact h.elim
  | nchk x =>
    simp only [vrunD, vop] at h ⊢
    split at h
    · exact ⟨_, _, h, ⟨rfl, rfl⟩, Wr0_nil⟩
    · exact ⟨_, _, h, ⟨rfl, rfl⟩, Wr0_nil⟩
    · exact ⟨_, _, h, ⟨rfl, rfl⟩, Wr0_nil⟩
    · exact h.elim
  | aaddr c L x i =>
    simp only [vrunD, vop] at h ⊢
    split at h
    · exact ⟨_, _, h.2.2, ⟨h.1, h.2.1, rfl, rfl⟩, Wr0_nil⟩
    · obtain ⟨ys, h3, h4⟩ := h.2.2.exact
      exact ⟨_, _, h3, ⟨h.1, h.2.1, h4 _ ⟨rfl, rfl⟩⟩, Wr0_nil⟩
    · exact h.elim
  | idx L x i =>
    simp only [vrunD, vop] at h ⊢
    split at h
    · obtain ⟨h1, h2, y, h5, h6⟩ := h
      exact ⟨_, _, h6, ⟨h1, h2, y, h5, rfl, rfl⟩, Wr0_nil⟩
    · exact h.elim
  | ext i x =>
    simp only [vrunD, vop] at h ⊢
    split at h
    · obtain ⟨y, h1, h2⟩ := h
      exact ⟨_, _, h2, ⟨y, h1, rfl, rfl⟩, Wr0_nil⟩
    · exact h.elim
  | len x =>
    simp only [vrunD, vop] at h ⊢
    split at h
    · exact ⟨_, _, h, ⟨rfl, rfl⟩, Wr0_nil⟩
    · exact ⟨_, _, h, ⟨rfl, rfl⟩, Wr0_nil⟩
    · exact ⟨_, _, h, ⟨rfl, rfl⟩, Wr0_nil⟩
    · exact h.elim
  | mkfn f l => exact ⟨_, _, h, ⟨rfl, rfl⟩, Wr0_nil⟩
  | blds sz l => exact ⟨_, _, h.2, ⟨h.1, rfl, rfl⟩, fun p hp => .inl (by simp at hp; rw [hp])⟩
  | bldo sz l =>
    obtain ⟨h1, h2, h3⟩ := h
    refine ⟨_, _, h3, ⟨h1, h2, rfl, rfl⟩, fun p hp => ?_⟩
    rcases List.mem_cons.1 hp with rfl | hp
    · exact .inl rfl
    · right
      have hk : p.1 ∈ kysL (evs t l) := by
        have : ∀ ks : List Nat, p ∈ kills ks → p.1 ∈ ks := by
          intro ks
          induction ks with
          | nil => intro h; simp [kills] at h
          | cons k ks ih =>
            intro h
            simp only [kills, List.mem_cons] at h
            rcases h with rfl | h
            · simp
            · exact List.mem_cons_of_mem _ (ih h)
        exact this _ hp
      obtain ⟨y, hy, hk'⟩ := keysInL_mem.1 (kys_sub.2 _ _ hk)
      obtain ⟨x, hx, rfl⟩ := evs_mem hy
      refine ⟨rfl, .inl ⟨x, hx, hk'⟩, ?_⟩
      have := (List.all_eq_true.1 h2) _ hk
      intro hn; rw [hn] at this; cases this
  | bldr sz l => exact ⟨_, _, h.2, ⟨h.1, rfl, rfl⟩, Wr0_nil⟩
  | mm b x y =>
    simp only [vrunD, vop] at h ⊢
    split at h
    · exact ⟨_, _, h.2, ⟨h.1, rfl, rfl⟩, Wr0_nil⟩
    · exact h.elim
  | mks z l c =>
    simp only [vrunD, vop] at h ⊢
    split at h
    · exact ⟨_, _, h.2.2.2, ⟨h.1, h.2.1, h.2.2.1, rfl, rfl⟩, fun p hp => .inl (by simp at hp; rw [hp])⟩
    · exact h.elim
  | mkm sz l c =>
    simp only [vrunD, vop] at h ⊢
    split at h
    · obtain ⟨h1, h2, h3, h⟩ := h
      rcases h with h | h
      · exact ⟨_, _, h, ⟨h1, h2, h3, .inl ⟨rfl, rfl⟩⟩, fun p hp => .inl (by simp at hp; rw [hp])⟩
      · exact ⟨_, _, h, ⟨h1, h2, h3, .inr ⟨rfl, rfl⟩⟩, fun p hp => .inl (by simp at hp; rw [hp])⟩
    · exact h.elim
  | app sz s x =>
    simp only [vrunD, vop, vapp] at h ⊢
    split at h
    · obtain ⟨ys, ⟨h1, h2⟩, h3⟩ := srcE_exact h
      exact ⟨_, _, h2, h3 _ ⟨h1, rfl, rfl⟩, fun p hp => .inl (by simp at hp; rw [hp])⟩
    · rename_i k off len e
      split at h
      · rename_i s' xs hk
        obtain ⟨ys, ⟨h1, h2⟩, h3⟩ := srcE_exact h.2.2
        refine ⟨_, _, h2, ⟨h.1, h.2.1, h3 _ ⟨h1, rfl, rfl⟩⟩, fun p hp => ?_⟩
        simp only [List.mem_cons, List.not_mem_nil, or_false] at hp
        rcases hp with rfl | rfl
        · exact .inl rfl
        · exact .inr ⟨rfl, .inl ⟨s, by simp [opnds], by rw [e]; simp [keysIn]⟩, by simp [hk]⟩
      · exact h.elim
    · exact h.elim
  | mnew => exact ⟨_, _, h, ⟨rfl, rfl⟩, fun p hp => .inl (by simp at hp; rw [hp])⟩
  | mget kk z ok x i =>
    simp only [vrunD, vop] at h ⊢
    split at h
    · obtain ⟨es, h1, h2⟩ := mapE_exact h.2
      exact ⟨_, _, h1.2, ⟨h.1, h2 _ ⟨h1.1, rfl, rfl⟩⟩, Wr0_nil⟩
    · exact h.elim
  | mset kk x i y =>
    simp only [vrunD, vop] at h ⊢
    split at h
    · rename_i k' k a e1 e2
      split at h
      · rename_i es hk
        refine ⟨_, _, h.2.2.2, ⟨h.1, h.2.1, h.2.2.1, rfl, rfl⟩, fun p hp => .inr ⟨rfl, .inl ⟨x, by simp [opnds], ?_⟩, ?_⟩⟩
        · simp at hp; rw [hp, e1]; simp [keysIn]
        · simp at hp; rw [hp]; simp [hk]
      · exact h.elim
    · exact h.elim
  | cap x =>
    simp only [vrunD, vop] at h ⊢
    split at h
    · exact ⟨_, _, h, ⟨rfl, rfl⟩, Wr0_nil⟩
    · exact h.elim
  | appz z s x =>
    simp only [vrunD, vop] at h ⊢
    split at h
    · exact ⟨_, _, h.2.2, ⟨h.1, h.2.1, rfl, rfl⟩, fun p hp => .inl (by simp at hp; rw [hp])⟩
    · exact h.elim
  | b2s x =>
    simp only [vrunD, vop] at h ⊢
    obtain ⟨ys, ⟨bs, h1, h2⟩, h3⟩ := srcE_exact h
    exact ⟨_, _, h2, h3 _ ⟨bs, h1, rfl, rfl⟩, Wr0_nil⟩
  | never => exact h.elim
  | sget z ok x i =>
    simp only [vrunD, vop] at h ⊢
    split at h
    · obtain ⟨es, h1, h2⟩ := mapE_exact h
      exact ⟨_, _, h1.2, h2 _ ⟨h1.1, rfl, rfl⟩, Wr0_nil⟩
    · exact h.elim
  | aget ks z ok x i =>
    simp only [vrunD, vop] at h ⊢
    split at h
    · obtain ⟨es, ⟨c, h1, h2, h3, h4⟩, h5⟩ := mapE_exact h
      exact ⟨_, _, h4, h5 _ ⟨c, h1, h2, h3, rfl, rfl⟩, Wr0_nil⟩
    · exact h.elim
  | aset ks x i y =>
    simp only [vrunD, vop] at h ⊢
    split at h
    · rename_i k' a e1 e2
      split at h
      · rename_i es hk
        obtain ⟨c, h1, h2, h3, h4, h5⟩ := h
        refine ⟨_, _, h5, ⟨c, h1, h2, h3, h4, rfl, rfl⟩, fun p hp => .inr ⟨rfl, .inl ⟨x, by simp [opnds], ?_⟩, ?_⟩⟩
        · simp at hp; rw [hp, e1]; simp [keysIn]
        · simp at hp; rw [hp]; simp [hk]
      · exact h.elim
    · exact h.elim
  | sset x i y =>
    simp only [vrunD, vop] at h ⊢
    split at h
    · rename_i k' a e1 e2
      split at h
      · rename_i es hk
        refine ⟨_, _, h.2.2, ⟨h.1, h.2.1, rfl, rfl⟩, fun p hp => .inr ⟨rfl, .inl ⟨x, by simp [opnds], ?_⟩, ?_⟩⟩
        · simp at hp; rw [hp, e1]; simp [keysIn]
        · simp at hp; rw [hp]; simp [hk]
      · exact h.elim
    · exact h.elim
  | mlen x =>
    simp only [vrunD, vop] at h ⊢
    obtain ⟨es, h1, h2⟩ := mapE_exact h
    exact ⟨_, _, h1, h2 _ ⟨rfl, rfl⟩, Wr0_nil⟩
  | mrng x =>
    simp only [vrunD, vop] at h ⊢
    split at h
    · exact ⟨_, _, h, ⟨rfl, rfl⟩, fun p hp => .inl (by simp at hp; rw [hp])⟩
    · exact ⟨_, _, h, ⟨rfl, rfl⟩, fun p hp => .inl (by simp at hp; rw [hp])⟩
    · exact h.elim
  | next x => exact h.elim
  | entry x =>
    simp only [vrunD, vop] at h ⊢
    split at h
    · split at h
      · exact ⟨_, _, h, ⟨rfl, rfl⟩, Wr0_nil⟩
      · exact h.elim
    · exact h.elim
  | isnil ng x =>
    simp only [vrunD, vop] at h ⊢
    obtain ⟨h0, h⟩ := h
    generalize ev t x = y at h h0 ⊢
    unfold NilVC at h ⊢
    split at h
    · exact ⟨_, _, h, ⟨h0, rfl, rfl⟩, Wr0_nil⟩
    · exact ⟨_, _, h, ⟨h0, rfl, rfl⟩, Wr0_nil⟩
    · exact ⟨_, _, h.1, ⟨h0, ⟨rfl, rfl⟩, fun h' => (h0 h').elim⟩, Wr0_nil⟩
    · exact ⟨_, _, h.1, ⟨h0, ⟨rfl, rfl⟩, fun h' => (h0 h').elim⟩, Wr0_nil⟩
    · exact h.elim
  | eqa sz ng x y =>
    simp only [vrunD, vop] at h ⊢
    split at h
    · obtain ⟨hl, b, h1, h2⟩ := h
      exact ⟨_, _, h2, ⟨hl, b, h1, rfl, rfl⟩, Wr0_nil⟩
    · exact h.elim
  | slc sz x lo hi =>
    simp only [vrunD, vop] at h ⊢
    split at h
    · obtain ⟨l, h, hl⟩ := bnd_exact h
      obtain ⟨r, h, hr⟩ := bnd_exact h
      exact ⟨_, _, h.2.2.2.2, hl _ (hr _ ⟨h.1, h.2.1, h.2.2.1, h.2.2.2.1, rfl, rfl⟩), Wr0_nil⟩
    · split at h
      · obtain ⟨l, h, hl⟩ := bnd_exact h
        obtain ⟨r, h, hr⟩ := bnd_exact h
        exact ⟨_, _, h.2.2.2.2, hl _ (hr _ ⟨h.1, h.2.1, h.2.2.1, h.2.2.2.1, rfl, rfl⟩), Wr0_nil⟩
      · exact h.elim
    · obtain ⟨l, h, hl⟩ := bnd_exact h
      obtain ⟨r, h, hr⟩ := bnd_exact h
      exact ⟨_, _, h.2.2, hl _ (hr _ ⟨h.1, h.2.1, rfl, rfl⟩), Wr0_nil⟩
    · exact h.elim
  | call f l =>
    obtain ⟨x, u, h1, h2, h3⟩ := CallD_exact h
    exact ⟨x, u, h1, h2, fun p hp => .inl (h3 p hp)⟩
  | callv g l =>
    simp only [vrunD] at h ⊢
    split at h
    · obtain ⟨x, u, h1, h2, h3⟩ := CallD_exact h
      exact ⟨x, u, h1, h2, fun p hp => .inl (h3 p hp)⟩
    · exact h.elim
  | nilm ng x =>
    simp only [vrunD, vop] at h ⊢
    split at h
    · exact ⟨_, _, h, ⟨rfl, rfl⟩, Wr0_nil⟩
    · exact ⟨_, _, h, ⟨rfl, rfl⟩, Wr0_nil⟩
    · exact ⟨_, _, h, ⟨rfl, rfl⟩, Wr0_nil⟩
    · exact h.elim
  | cally k f l => cases hy
  | callx f l =>
    obtain ⟨x, u, h1, h2, h3⟩ := CallX_exact h
    exact ⟨x, u, h1, h2, fun p hp => (h3 p hp).imp id (fun hh => ⟨rfl, .inr ⟨rfl, rch_sub (fun q hq => kys_sub.2 _ q hq) _ hh.1⟩, hh.2⟩)⟩
  | callvx g l =>
    simp only [vrunD] at h ⊢
    split at h
    · rename_i f caps e
      obtain ⟨x, u, h1, h2, h3⟩ := CallX_exact h
      exact ⟨x, u, h1, h2, fun p hp => (h3 p hp).imp id (fun hh => ⟨rfl, .inr ⟨rfl, rch_sub (callvx_keys e) _ hh.1⟩, hh.2⟩)⟩
    · exact h.elim

theorem vrunD_exact {op : MOp} (h : vrunD P op t m n K) : ∃ x u, K x u ∧ vrunD P op t m n (Ex x u) ∧ Wr op t m n u := by
  cases hy : yk op with
  | none =>
    obtain ⟨x, u, h1, h2, h3⟩ := vrunD_exact0 hy h
    exact ⟨x, u, h1, h2, Wr_of h3⟩
  | some k =>
    cases op <;> simp only [yk, reduceCtorEq, Option.some.injEq] at hy
    subst hy
    obtain ⟨x, u, h1, h2, h3⟩ := CallY_exact h
    exact ⟨x, u, h1, h2, fun p hp => (h3 p hp).imp (fun hh => hh.imp id (fun h => ⟨_, rfl, h⟩)) (fun hh => ⟨rfl, .inr ⟨rfl, rch_sub (fun q hq => kys_sub.2 _ q hq) _ hh.1⟩, hh.2⟩)⟩

end Go.Av
