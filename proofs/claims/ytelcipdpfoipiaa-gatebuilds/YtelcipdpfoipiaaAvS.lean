/- Code: monotone; temporaries that are not assigned stand. -/
import Derived.Test.YtelcipdpfoipiaaAvR
namespace Go.Av
open Go.RowKit (Below)

variable {P : Program} {t : Tmps} {m : Mem} {n : Nat}

theorem vbin_mono {op : BinOp} {k : IntKind} {c d : Int} {G G' : Value → Prop} (h : vbin op k c d G) (hG : ∀ v, G v → G' v) : vbin op k c d G' := by
  obtain ⟨v, h1, h2⟩ := vbin_exact h
  exact h2 _ (hG v h1)
theorem ldc_mono {c : Option Nat} {cs : List AV} {off : Nat} {G G' : AV → Prop} (h : ldc c cs off G) (hG : ∀ v, G v → G' v) : ldc c cs off G' := by
  obtain ⟨v, h1, h2⟩ := ldc_exact h
  exact h2 _ (hG v h1)
theorem fillL_mono {ps : List (Nat × Nat × Opd)} {cs : List AV} {G G' : List AV → Prop} (h : fillL t cs ps G) (hG : ∀ v, G v → G' v) : fillL t cs ps G' := by
  obtain ⟨v, h1, h2⟩ := fillL_exact h
  exact h2 _ (hG v h1)

theorem vld_mono {c : Option Nat} {x : AV} {K K' : AV → Mem → Prop} (h : vld c m n x K) (hK : ∀ x u, K x u → K' x u) : vld c m n x K' := by
  unfold vld at h ⊢
  split at h
  · split at h
    · exact ldc_mono h (fun v hv => hK _ _ hv)
    · exact h.elim
  · exact ldc_mono h (fun v hv => hK _ _ hv)
  · split at h
    · obtain ⟨z, hz, h⟩ := h
      exact Pick.mk z hz (ldc_mono h (fun v hv => hK _ _ hv))
    · obtain ⟨h1, h2, rr, h3, h4⟩ := h
      refine ⟨h1, h2, PickR.mk rr h3 ?_⟩
      split at h4
      · exact hK _ _ h4
      · exact hK _ _ h4
      · exact h4.elim
    · obtain ⟨h1, h2, rr, h3, h4⟩ := h
      refine ⟨h1, h2, PickR.mk rr h3 ?_⟩
      split at h4
      · exact hK _ _ h4
      · exact hK _ _ h4
      · exact h4.elim
    · exact h.elim
  · exact h.elim

theorem vop_mono {op : MOp} {K K' : AV → Mem → Prop} (h : vop op t m n K) (hK : ∀ x u, K x u → K' x u) : vop op t m n K' := by
  cases op with
  | mov x => exact hK _ _ h
  | pick c x y =>
    simp only [vop] at h ⊢
    split at h
    · exact ⟨fun hc => hK _ _ (h.1 hc), fun hc => hK _ _ (h.2 hc)⟩
    · exact h.elim
  | bin op x y =>
    simp only [vop] at h ⊢
    split at h
    · split at h
      · exact ⟨h.1, hK _ _ h.2⟩
      · exact ⟨h.1, hK _ _ h.2⟩
      · exact ⟨h.1, vbin_mono h.2 (fun v hv => hK _ _ hv)⟩
    · exact h.elim
  | eqb ng x y => simp only [vop] at h ⊢; split at h <;> first | exact hK _ _ h | exact h.elim
  | not x => simp only [vop] at h ⊢; split at h <;> first | exact hK _ _ h | exact h.elim
  | neg x => simp only [vop] at h ⊢; split at h <;> first | exact hK _ _ h | exact h.elim
  | conv k x => simp only [vop] at h ⊢; split at h <;> first | exact hK _ _ h | exact h.elim
  | new zs => exact hK _ _ h
  | box x => exact ⟨h.1, hK _ _ h.2⟩
  | build zs ps => exact ⟨h.1, fillL_mono h.2 (fun v hv => hK _ _ hv)⟩
  | ld c x => exact vld_mono h hK
  | ldm x => exact vld_mono h hK
  | st c x y =>
    simp only [vop] at h ⊢
    split at h
    · split at h
      · exact ⟨h.1, h.2.1, h.2.2.1, hK _ _ h.2.2.2⟩
      · exact h.elim
    · split at h
      · exact ⟨h.1, h.2.1, h.2.2.1, h.2.2.2.1, h.2.2.2.2.1, hK _ _ h.2.2.2.2.2⟩
      · obtain ⟨rr, u, h1, h2, _⟩ := stRow_exact h.2.2
        exact ⟨h.1, h.2.1, h2 _ (hK _ _ h1)⟩
      · obtain ⟨rr, u, h1, h2, _⟩ := stRow_exact h.2.2
        exact ⟨h.1, h.2.1, h2 _ (hK _ _ h1)⟩
      · exact h.elim
    · split at h
      · obtain ⟨h1, h2, h3, h4, e, h5, h6⟩ := h
        exact ⟨h1, h2, h3, h4, Pick.mk e h5 (hK _ _ h6)⟩
      · exact h.elim
    · exact h.elim
  | faddr off x =>
    simp only [vop] at h ⊢
    split at h
    · exact hK _ _ h
    · exact ⟨h.1, hK _ _ h.2⟩
    · exact hK _ _ h
    · exact h.elim
  | fld c off x =>
    simp only [vop] at h ⊢
    split at h
    · exact ldc_mono h (fun v hv => hK _ _ hv)
    · exact h.elim
  | iaddr sz x i =>
    simp only [vop] at h ⊢
    split at h
    · obtain ⟨h1, h2, y, h3, h4⟩ := h
      exact ⟨h1, h2, Pick.mk y h3 (hK _ _ h4)⟩
    · split at h
      · exact ⟨h.1, h.2.1, h.2.2.1, hK _ _ h.2.2.2⟩
      · exact ⟨h.1, h.2.1, h.2.2.1, hK _ _ h.2.2.2⟩
      · exact ⟨h.1, h.2.1, h.2.2.1, hK _ _ h.2.2.2⟩
      · exact h.elim
    · exact h.elim
  | nchk x =>
    simp only [vop] at h ⊢
    split at h
    · exact hK _ _ h
    · exact hK _ _ h
    · exact hK _ _ h
    · exact h.elim
  | idx L x i =>
    simp only [vop] at h ⊢
    split at h
    · obtain ⟨h1, h2, y, h5, h6⟩ := h
      exact ⟨h1, h2, y, h5, hK _ _ h6⟩
    · exact h.elim
  | aaddr c L x i =>
    simp only [vop] at h ⊢
    split at h
    · exact ⟨h.1, h.2.1, hK _ _ h.2.2⟩
    · exact ⟨h.1, h.2.1, h.2.2.mono fun ys h => hK _ _ h⟩
    · exact h.elim
  | ext i x =>
    simp only [vop] at h ⊢
    split at h
    · obtain ⟨y, h1, h2⟩ := h
      exact ⟨y, h1, hK _ _ h2⟩
    · exact h.elim
  | len x => simp only [vop] at h ⊢; split at h <;> first | exact hK _ _ h | exact h.elim
  | mkfn f l => exact hK _ _ h
  | blds sz l => exact ⟨h.1, hK _ _ h.2⟩
  | bldo sz l => exact ⟨h.1, h.2.1, hK _ _ h.2.2⟩
  | bldr sz l => exact ⟨h.1, hK _ _ h.2⟩
  | mm b x y => simp only [vop] at h ⊢; split at h <;> first | exact ⟨h.1, hK _ _ h.2⟩ | exact h.elim
  | mks z l c => simp only [vop] at h ⊢; split at h <;> first | exact ⟨h.1, h.2.1, h.2.2.1, hK _ _ h.2.2.2⟩ | exact h.elim
  | mkm z l c =>
    simp only [vop] at h ⊢
    split at h
    · exact ⟨h.1, h.2.1, h.2.2.1, h.2.2.2.imp (hK _ _) (hK _ _)⟩
    · exact h.elim
  | app sz s x =>
    simp only [vop, vapp] at h ⊢
    split at h
    · obtain ⟨ys, ⟨h1, h2⟩, h3⟩ := srcE_exact h
      exact h3 _ ⟨h1, hK _ _ h2⟩
    · split at h
      · obtain ⟨ys, ⟨h1, h2⟩, h3⟩ := srcE_exact h.2.2
        exact ⟨h.1, h.2.1, h3 _ ⟨h1, hK _ _ h2⟩⟩
      · exact h.elim
    · exact h.elim
  | mnew => exact hK _ _ h
  | mget kk z ok x i =>
    simp only [vop] at h ⊢
    split at h
    · obtain ⟨es, h1, h2⟩ := mapE_exact h.2
      exact ⟨h.1, h2 _ ⟨h1.1, hK _ _ h1.2⟩⟩
    · exact h.elim
  | mset kk x i y =>
    simp only [vop] at h ⊢
    split at h
    · split at h
      · exact ⟨h.1, h.2.1, h.2.2.1, hK _ _ h.2.2.2⟩
      · exact h.elim
    · exact h.elim
  | cap x => simp only [vop] at h ⊢; split at h <;> first | exact hK _ _ h | exact h.elim
  | appz z s x => simp only [vop] at h ⊢; split at h <;> first | exact ⟨h.1, h.2.1, hK _ _ h.2.2⟩ | exact h.elim
  | b2s x =>
    simp only [vop] at h ⊢
    obtain ⟨ys, ⟨bs, h1, h2⟩, h3⟩ := srcE_exact h
    exact h3 _ ⟨bs, h1, hK _ _ h2⟩
  | never => exact h.elim
  | sget z ok x i =>
    simp only [vop] at h ⊢
    split at h
    · obtain ⟨es, h1, h2⟩ := mapE_exact h
      exact h2 _ ⟨h1.1, hK _ _ h1.2⟩
    · exact h.elim
  | aget ks z ok x i =>
    simp only [vop] at h ⊢
    split at h
    · obtain ⟨es, ⟨c, h1, h2, h3, h4⟩, h5⟩ := mapE_exact h
      exact h5 _ ⟨c, h1, h2, h3, hK _ _ h4⟩
    · exact h.elim
  | aset ks x i y =>
    simp only [vop] at h ⊢
    split at h
    · split at h
      · obtain ⟨c, h1, h2, h3, h4, h5⟩ := h
        exact ⟨c, h1, h2, h3, h4, hK _ _ h5⟩
      · exact h.elim
    · exact h.elim
  | sset x i y =>
    simp only [vop] at h ⊢
    split at h
    · split at h
      · exact ⟨h.1, h.2.1, hK _ _ h.2.2⟩
      · exact h.elim
    · exact h.elim
  | mlen x =>
    simp only [vop] at h ⊢
    obtain ⟨es, h1, h2⟩ := mapE_exact h
    exact h2 _ (hK _ _ h1)
  | mrng x =>
    simp only [vop] at h ⊢
    split at h
    · exact hK _ _ h
    · exact hK _ _ h
    · exact h.elim
  | next x =>
    simp only [vop] at h ⊢
    split at h
    · split at h
      · exact ⟨fun hr => hK _ _ (h.1 hr), fun j p hp => hK _ _ (h.2 j p hp)⟩
      · exact h.elim
    · exact h.elim
  | entry x =>
    simp only [vop] at h ⊢
    split at h
    · split at h
      · exact hK _ _ h
      · exact h.elim
    · exact h.elim
  | eqa sz ng x y =>
    simp only [vop] at h ⊢
    split at h
    · exact EqVC.mono h fun b hb => hK _ _ hb
    · exact h.elim
  | isnil ng x =>
    simp only [vop] at h ⊢
    generalize ev t x = y at h ⊢
    unfold NilVC at h ⊢
    split at h
    · exact hK _ _ h
    · exact hK _ _ h
    · exact ⟨hK _ _ h.1, fun h' => hK _ _ (h.2 h')⟩
    · exact ⟨hK _ _ h.1, fun h' => hK _ _ (h.2 h')⟩
    · exact h.elim
  | slc sz x lo hi =>
    simp only [vop] at h ⊢
    split at h
    · exact bnd_mono h fun l h => bnd_mono h fun r h => ⟨h.1, h.2.1, h.2.2.1, h.2.2.2.1, hK _ _ h.2.2.2.2⟩
    · split at h
      · exact bnd_mono h fun l h => bnd_mono h fun r h => ⟨h.1, h.2.1, h.2.2.1, h.2.2.2.1, hK _ _ h.2.2.2.2⟩
      · exact h.elim
    · exact bnd_mono h fun l h => bnd_mono h fun r h => ⟨h.1, h.2.1, hK _ _ h.2.2⟩
    · exact h.elim
  | call f l => exact h.elim
  | callv g l => exact h.elim
  | callx f l => exact h.elim
  | callvx g l => exact h.elim

theorem CallVC.mono {f : FuncId} {args : List AV} {K K' : AV → Mem → Nat → Prop} (h : CallVC P f args m n K) (hK : ∀ x m' n', K x m' n' → K' x m' n') : CallVC P f args m n K' := by
  refine ⟨h.1, fun X N w S κ t a vals r hl hR => (h.2 X N w S κ t a vals r hl hR).mono ?_⟩
  rintro e w' ⟨v, x, m', n', S', κ', h1, h2, h3, h4⟩
  exact ⟨v, x, m', n', S', κ', h1, hK _ _ _ h2, h3, h4⟩

theorem CallXr.mono {f : FuncId} {args : List AV} {rho : List Nat} {K K' : AV → Mem → Prop} (h : CallXr P f args m n rho K) (hK : ∀ x u, K x u → K' x u) : CallXr P f args m n rho K' := by
  obtain ⟨args', m0, r, gv, rm, fl, h1, h2, h3, h4, h5, h6, h7, h8, h9, h10, h11⟩ := h
  exact ⟨args', m0, r, gv, rm, fl, h1, h2, h3, h4, h5, h6, h7, h8, h9, h10, hK _ _ h11⟩

theorem CallD.mono {f : FuncId} {args : List AV} {K K' : AV → Mem → Prop} (h : CallD P f args m n K) (hK : ∀ x u, K x u → K' x u) : CallD P f args m n K' := by
  rcases h with ⟨r, h1, h2, h3, h4⟩ | h
  · exact .inl ⟨r, h1, h2, h3, hK _ _ h4⟩
  · exact .inr (h.mono hK)

theorem CallX.mono {f : FuncId} {args : List AV} {K K' : AV → Mem → Prop} (h : CallX P f args m n K) (hK : ∀ x u, K x u → K' x u) : CallX P f args m n K' := by
  rcases h with h | ⟨rho, h⟩
  · exact .inl (CallD.mono h hK)
  · exact .inr ⟨rho, h.mono hK⟩

theorem vrun_mono {d : Option Nat} {op : MOp} {K K' : Tmps → Mem → Nat → Prop} (h : vrun P d op K t m n) (hK : ∀ x m' n', K (putT d x t) m' n' → K' (putT d x t) m' n') : vrun P d op K' t m n := by
  cases op with
  | call f l => exact CallVC.mono h (fun x m' n' hh => hK x m' n' hh)
  | callv g l =>
    simp only [vrun] at h ⊢
    split at h
    · exact CallVC.mono h (fun x m' n' hh => hK x m' n' hh)
    · exact h.elim
  | _ => simp only [vrun] at h ⊢; exact vop_mono h (fun x u hh => hK _ _ _ hh)

theorem vins_mono {i : MI} {K K' : Tmps → Mem → Nat → Prop} (h : vins P i K t m n) (hK : ∀ t2 x m' n', (∀ s, look t2 s = look t s) → K (putT i.d x t2) m' n' → K' (putT i.d x t2) m' n') : vins P i K' t m n := by
  obtain ⟨d, op, g⟩ := i
  cases g with
  | none => exact vrun_mono h (fun x m' n' => hK t x m' n' (fun _ => rfl))
  | some sw =>
    obtain ⟨s, want⟩ := sw
    simp only [vins] at h ⊢
    split at h
    · rename_i b e
      exact ⟨fun hb => vrun_mono (h.1 hb) (fun x m' n' => hK _ x m' n' (look_same (by rw [e, hb]))), fun hb => hK _ _ _ _ (look_same (by rw [e, hb])) (h.2 hb)⟩
    · exact hK t _ _ _ (fun _ => rfl) h
    · exact h.elim

theorem vrunD_mono {op : MOp} {K K' : AV → Mem → Prop} (h : vrunD P op t m n K) (hK : ∀ x u, K x u → K' x u) : vrunD P op t m n K' := by
  cases op with
  | call f l => exact CallD.mono h hK
  | callv g l =>
    simp only [vrunD] at h ⊢
    split at h
    · exact CallD.mono h hK
    · exact h.elim
  | callx f l => exact CallX.mono h hK
  | callvx g l =>
    simp only [vrunD] at h ⊢
    split at h
    · exact CallX.mono h hK
    · exact h.elim
  | next x => exact h.elim
  | isnil ng x => exact ⟨h.1, vop_mono h.2 hK⟩
  | ld c x => exact ⟨h.1, vop_mono h.2 hK⟩
  | _ => simp only [vrunD] at h ⊢; exact vop_mono h hK

theorem vstepD_mono {i : MI} {K K' : AV → Mem → Tmps → Prop} (h : vstepD P i K t m n) (hK : ∀ x u t2, (∀ s, look t2 s = look t s) → K x u t2 → K' x u t2) : vstepD P i K' t m n := by
  obtain ⟨d, op, g⟩ := i
  cases g with
  | none => exact vrunD_mono h (fun x u => hK x u t (fun _ => rfl))
  | some sw =>
    obtain ⟨s, want⟩ := sw
    simp only [vstepD] at h ⊢
    split at h
    · rename_i b e
      exact ⟨fun hb => vrunD_mono (h.1 hb) (fun x u => hK x u _ (look_same (by rw [e, hb]))), fun hb => hK _ _ _ (look_same (by rw [e, hb])) (h.2 hb)⟩
    · exact hK _ _ _ (fun _ => rfl) h
    · exact h.elim

theorem putT_other {d : Option Nat} {x : AV} {t : Tmps} {i : Nat} (h : d ≠ some i) : look (putT d x t) i = look t i := by rw [look_putT, if_neg h]

theorem asgI_cons {i : MI} {is : List MI} {k : Nat} (h : k ∉ asgI (i :: is)) : i.d ≠ some k ∧ k ∉ asgI is := by
  obtain ⟨d, op, g⟩ := i
  cases d with
  | none => exact ⟨by simp, h⟩
  | some d => simp only [asgI, List.mem_cons, not_or] at h; exact ⟨by simpa using Ne.symm h.1, h.2⟩

theorem vregs_mono {K K' : Tmps → Mem → Nat → Prop} (hK : ∀ t m n, K t m n → K' t m n) : ∀ (is : List MI) (t : Tmps) (m : Mem) (n : Nat), vregs P is K t m n → vregs P is K' t m n := by
  intro is
  induction is with
  | nil => intro t m n h; exact hK _ _ _ h
  | cons i is ih => intro t m n h; exact vins_mono h (fun t2 x m' n' _ hh => ih _ _ _ hh)

theorem vregs_frame {K : Tmps → Mem → Nat → Prop} : ∀ (is : List MI) (t : Tmps) (m : Mem) (n : Nat), vregs P is K t m n →
    vregs P is (fun t' m' n' => K t' m' n' ∧ ∀ i, i ∉ asgI is → look t' i = look t i) t m n := by
  intro is
  induction is with
  | nil => intro t m n h; exact ⟨h, fun _ _ => rfl⟩
  | cons i is ih =>
    intro t m n h
    refine vins_mono h (fun t2 x m' n' ht2 hh => ?_)
    refine vregs_mono (fun t' m'' n'' hh2 => ⟨hh2.1, fun k hk => ?_⟩) is _ _ _ (ih _ _ _ hh)
    rw [hh2.2 k (asgI_cons hk).2, putT_other (asgI_cons hk).1, ht2]

theorem vregsD_mono {K K' : Tmps → Mem → Nat → Prop} (hK : ∀ t m n, K t m n → K' t m n) : ∀ (is : List MI) (t : Tmps) (m : Mem) (n : Nat), vregsD P is K t m n → vregsD P is K' t m n := by
  intro is
  induction is with
  | nil => intro t m n h; exact hK _ _ _ h
  | cons i is ih => intro t m n h; exact vstepD_mono h (fun x u t2 _ hh => ih _ _ _ hh)

theorem vregsD_frame {K : Tmps → Mem → Nat → Prop} : ∀ (is : List MI) (t : Tmps) (m : Mem) (n : Nat), vregsD P is K t m n →
    vregsD P is (fun t' m' n' => K t' m' n' ∧ ∀ i, i ∉ asgI is → look t' i = look t i) t m n := by
  intro is
  induction is with
  | nil => intro t m n h; exact ⟨h, fun _ _ => rfl⟩
  | cons i is ih =>
    intro t m n h
    refine vstepD_mono h (fun x u t2 ht2 hh => ?_)
    refine vregsD_mono (fun t' m'' n'' hh2 => ⟨hh2.1, fun k hk => ?_⟩) is _ _ _ (ih _ _ _ hh)
    rw [hh2.2 k (asgI_cons hk).2, putT_other (asgI_cons hk).1, ht2]

theorem vcg_mono : ∀ (c : MCode) (Q Q' : WP) (t : Tmps) (m : Mem) (n : Nat), (∀ e t m n, Q e t m n → Q' e t m n) → vcg P c Q t m n → vcg P c Q' t m n := by
  intro c
  induction c with
  | skip => intro Q Q' t m n hQ h; exact hQ _ _ _ _ h
  | reg is => intro Q Q' t m n hQ h; exact vregs_mono (hQ .norm) is _ _ _ h
  | draw is => intro Q Q' t m n hQ h; exact vregsD_mono (hQ .norm) is _ _ _ h
  | drawc is cs => intro Q Q' t m n hQ h; exact vregsD_mono (fun t m n hh => ⟨hh.1, hQ .norm t m n hh.2⟩) is _ _ _ h
  | seq a b iha ihb =>
    intro Q Q' t m n hQ h
    refine iha _ _ _ _ _ (fun e t m n hh => ?_) h
    cases e with
    | norm => exact ihb _ _ _ _ _ hQ hh
    | _ => exact hQ _ _ _ _ hh
  | cond c a b iha ihb =>
    intro Q Q' t m n hQ h
    simp only [vcg] at h ⊢
    split at h
    · exact ⟨fun hc => iha _ _ _ _ _ hQ (h.1 hc), fun hc => ihb _ _ _ _ _ hQ (h.2 hc)⟩
    · exact h.elim
  | block id b ih =>
    intro Q Q' t m n hQ h
    refine ih _ _ _ _ _ (fun e t m n hh => ?_) h
    cases e with
    | ex id' =>
      simp only at hh ⊢
      by_cases hid : id' = id
      · rw [if_pos hid] at hh ⊢; exact hQ _ _ _ _ hh
      · rw [if_neg hid] at hh ⊢; exact hQ _ _ _ _ hh
    | _ => exact hQ _ _ _ _ hh
  | loop b ih =>
    intro Q Q' t m n hQ h
    obtain ⟨ι, ss, vs, ob, r, inv, μ, h0, h1, h2⟩ := h
    refine ⟨ι, ss, vs, ob, r, inv, μ, h0, h1, fun x hx => ih _ _ _ _ _ (fun e t m n hh => ?_) (h2 x hx)⟩
    cases e with
    | norm => exact hh
    | _ => exact hQ _ _ _ _ hh
  | fz L b ih => intro Q Q' t m n hQ h; obtain ⟨ks, h1, h2⟩ := h; exact ⟨ks, h1, ih _ _ _ _ _ hQ h2⟩
  | gv L b ih => intro Q Q' t m n hQ h; exact ih _ _ _ _ _ (gvQ_mono hQ) h
  | exit id => intro Q Q' t m n hQ h; exact hQ _ _ _ _ h
  | ret => intro Q Q' t m n hQ h; exact hQ _ _ _ _ h

end Go.Av
