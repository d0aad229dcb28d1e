/- Loops and code: what is asked is enough. -/
import Derived.Test.YtblakcgmngdhmaaAvT
namespace Go.Av
open Go.RowKit (Below)

variable {P : Program} {X : Ctx} {N : Nat} {w : World} {S : Nat → Prop} {κ κ' : Nat → Option Loc} {n : Nat} {rho : List (Option Nat)}

theorem R.keys {x : AV} {v : Value} (h : R w S κ x v) (hk : ∀ k ∈ keysIn x, κ' k = κ k) : R w S κ' x v := by
  have aux : ∀ (xs : List AV) (vs : Array Value), (∀ k ∈ keysInL xs, κ' k = κ k) → (∀ (i : Nat) x y, xs[i]? = some x → vs[i]? = some y → (∀ k ∈ keysIn x, κ' k = κ k) → R w S κ' x y) →
      ∀ (i : Nat) x y, xs[i]? = some x → vs[i]? = some y → R w S κ' x y := fun xs vs hk ih i x y h1 h2 =>
    ih i x y h1 h2 (fun k hk' => hk k (keysInL_mem.2 ⟨x, List.mem_of_getElem? h1, hk'⟩))
  induction h with
  | base h => exact .base h
  | agg hl _ ih => exact .agg hl (aux _ _ hk ih)
  | tup hl _ ih => exact .tup hl (aux _ _ hk ih)
  | fn hl _ ih => exact .fn hl (aux _ _ hk ih)
  | ptr h1 => exact .ptr ((hk _ (by simp [keysIn])).trans h1)
  | elt h1 h2 => exact .elt ((hk _ (by simp [keysIn])).trans h1) h2
  | arrNil h1 h2 => exact .arrNil ((hk _ (by simp [keysIn])).trans h1) h2
  | arr h1 h2 h3 h4 h5 => exact .arr ((hk _ (by simp [keysIn])).trans h1) h2 h3 h4 h5
  | arr0 h1 => exact .arr0 ((hk _ (by simp [keysIn])).trans h1)
  | mp h1 h2 => exact .mp ((hk _ (by simp [keysIn])).trans h1) h2

def keysO : MObj → List Nat
  | .box cs => keysInL cs
  | .lent _ _ _ q => [q]
  | _ => []

theorem ObjR.keys {k k' : Nat} {o : MObj} (h : ObjR w S κ k o) (hk : κ' k' = κ k) (hks : ∀ q ∈ keysO o, κ' q = κ q) : ObjR w S κ' k' o := by
  cases o with
  | box cs =>
    obtain ⟨l, h1, hn, vs, T, h2, h3, h4⟩ := h
    refine ⟨l, hk.trans h1, hn, vs, T, h2, h3, fun j y hj => ?_⟩
    obtain ⟨c, hc, hr⟩ := h4 j y hj
    exact ⟨c, hc, hr.keys (fun q hq => hks q (keysInL_mem.2 ⟨y, List.mem_of_getElem? hj, hq⟩))⟩
  | arr sz xs => obtain ⟨l, h1, h2⟩ := h; exact ⟨l, hk.trans h1, h2⟩
  | mat sz rows => obtain ⟨l, h1, h2⟩ := h; exact ⟨l, hk.trans h1, h2⟩
  | lent sz rows i0 q0 =>
    obtain ⟨l, h0, hn, h1, h2, h3, h4, h5, vs, T, h6, h7, h8, h9, c0, h10, lq, h11, h12⟩ := h
    exact ⟨l, hk.trans h0, hn, h1, h2, h3, h4, h5, vs, T, h6, h7, h8, h9, c0, h10, lq, (hks q0 (by simp [keysO])).trans h11, h12⟩
  | map es => obtain ⟨l, h1, h2⟩ := h; exact ⟨l, hk.trans h1, h2⟩
  | iter l c => obtain ⟨l, h1, h2⟩ := h; exact ⟨l, hk.trans h1, h2⟩

theorem SubO_ObjR {k k' : Nat} {o o' : MObj} (hs : SubO n rho o o') (h : ObjR w S κ k' o') (hk : headκ n rho κ k = κ k') : ObjR w S (headκ n rho κ) k o := by
  cases o with
  | box xs =>
    cases o' with
    | box ys =>
      simp only [SubO] at hs
      obtain ⟨g1, g2⟩ := (Sub_R (w := w) (S := S) (κ := κ)).2 xs ys hs
      obtain ⟨l, h1, hn, vs, T, h2, h3, h4⟩ := h
      refine ⟨l, hk.trans h1, hn, vs, T, h2, by omega, fun j y hj => ?_⟩
      obtain ⟨y', hy', g3⟩ := g2 j y hj
      obtain ⟨c, hc, hr⟩ := h4 j y' hy'
      exact ⟨c, hc, g3 c hr⟩
    | arr => simp [SubO] at hs
    | mat => simp [SubO] at hs
    | lent => simp [SubO] at hs
    | map => simp [SubO] at hs
    | iter => simp [SubO] at hs
  | arr sz xs => simp only [SubO] at hs; subst hs; obtain ⟨l, h1, h2⟩ := h; exact ⟨l, hk.trans h1, h2⟩
  | mat sz rows => simp only [SubO] at hs; subst hs; obtain ⟨l, h1, h2⟩ := h; exact ⟨l, hk.trans h1, h2⟩
  | lent sz rows i0 q0 => simp [SubO] at hs
  | map es => simp only [SubO] at hs; subst hs; obtain ⟨l, h1, h2⟩ := h; exact ⟨l, hk.trans h1, h2⟩
  | iter l c => simp only [SubO] at hs; subst hs; obtain ⟨l, h1, h2⟩ := h; exact ⟨l, hk.trans h1, h2⟩

theorem SubT_get {t : Tmps} : ∀ (ss : List Nat) (vs : List AV) (rest : Tmps) (i : Nat), SubT n rho t ss vs → i ∈ ss → Sub n rho (look (zipT ss vs ++ rest) i) (look t i) := by
  intro ss
  induction ss with
  | nil => intro vs rest i _ hi; simp at hi
  | cons j ss ih =>
    intro vs rest i h hi
    cases vs with
    | nil => simp [SubT] at h
    | cons x vs =>
      simp only [SubT] at h
      simp only [zipT, List.cons_append]
      by_cases hj : j = i
      · subst hj; rw [look_cons_eq]; exact h.1
      · rw [look_cons_ne _ _ hj]
        exact ih vs rest i h.2 ((List.mem_cons.1 hi).resolve_left (fun e => hj e.symm))

theorem SubM_get {m' : Mem} : ∀ (ob : Mem) (k : Nat) (o : MObj), SubM n rho m' ob → lookU ob k = some (some o) →
    (k < n ∧ ∃ o', lookM m' k = some o' ∧ SubO n rho o o') ∨ (n ≤ k ∧ ∃ k' o', rho[k - n]? = some (some k') ∧ lookM m' k' = some o' ∧ SubO n rho o o') ∨
      (n ≤ k ∧ rho[k - n]? = some none ∧ ∃ sz, o = .arr sz []) := by
  intro ob
  induction ob with
  | nil => intro k o _ h; simp [lookU] at h
  | cons p ob ih =>
    intro k o h hu
    obtain ⟨k0, o0⟩ := p
    simp only [lookU] at hu
    by_cases hk : k0 = k
    · subst hk
      rw [if_pos rfl] at hu
      simp at hu; subst hu
      simp only [SubM] at h
      have h := h.1
      split at h
      · rename_i hlt
        split at h
        · rename_i o' ho'; exact .inl ⟨hlt, o', ho', h⟩
        · exact h.elim
      · rename_i hlt
        split at h
        · rename_i k' hr
          split at h
          · rename_i o' ho'; exact .inr (.inl ⟨by omega, k', o', hr, ho', h⟩)
          · exact h.elim
        · rename_i hr; exact .inr (.inr ⟨by omega, hr, h⟩)
        · exact h.elim
    · rw [if_neg hk] at hu
      cases o0 with
      | none => exact ih k o h hu
      | some o0 => exact ih k o h.2 hu

theorem keepM_get {m' : Mem} : ∀ (m : Mem) (ks : List Nat) (k : Nat) (o : MObj), keepM ks m' m → k ∉ ks → lookM m k = some o → lookM m' k = some o := by
  intro m
  induction m with
  | nil => intro ks k o _ _ h; simp [lookM] at h
  | cons p m ih =>
    intro ks k o h hk hl
    obtain ⟨k0, o0⟩ := p
    simp only [keepM] at h
    by_cases hkk : k0 = k
    · subst hkk
      rw [lookM_cons_eq] at hl
      rcases h.1 with h1 | h1
      · exact (hk (by simpa using h1)).elim
      · rw [h1, hl]
    · rw [lookM_cons_ne _ _ hkk] at hl
      exact ih (k0 :: ks) k o h.2 (by simp [hk, Ne.symm hkk]) hl

theorem lookU_none_mem {u : Mem} {k : Nat} (h : lookU u k = none) : k ∉ u.map (·.1) := by
  induction u with
  | nil => simp
  | cons p u ih =>
    obtain ⟨k0, o0⟩ := p
    simp only [lookU] at h
    by_cases hk : k0 = k
    · rw [if_pos hk] at h; cases h
    · rw [if_neg hk] at h
      simp only [List.map_cons, List.mem_cons, not_or]
      exact ⟨Ne.symm hk, ih h⟩

theorem srcOk_inj {h : Mem} : ∀ (rho : List (Option Nat)), srcOk n h rho → ∀ (i j : Nat) k, rho[i]? = some (some k) → rho[j]? = some (some k) → i = j := by
  intro rho
  induction rho with
  | nil => intro _ i j k hi; simp at hi
  | cons x rho ih =>
    intro hs i j k hi hj
    have hr : srcOk n h rho := by cases x with
      | none => exact hs
      | some k' => exact hs.2.2
    have hx : ∀ q : Nat, x = some k → rho[q]? = some (some k) → False := fun q hx hq => by
      subst hx
      have := hs.2.1
      rw [List.contains_eq_mem] at this
      simp at this
      exact this (List.mem_of_getElem? hq)
    cases i with
    | zero => cases j with
      | zero => rfl
      | succ j => exact (hx j (by simpa using hi) (by simpa using hj)).elim
    | succ i => cases j with
      | zero => exact (hx i (by simpa using hj) (by simpa using hi)).elim
      | succ j => rw [ih hr i j k (by simpa using hi) (by simpa using hj)]

theorem srcOk_lt {h : Mem} : ∀ (rho : List (Option Nat)), srcOk n h rho → ∀ (i : Nat) k, rho[i]? = some (some k) → k < n → lookM h k = none := by
  intro rho
  induction rho with
  | nil => intro _ i k hi; simp at hi
  | cons x rho ih =>
    intro hs i k hi hk
    cases i with
    | zero => simp at hi; subst hi; exact hs.1 hk
    | succ i =>
      refine ih ?_ i k (by simpa using hi) hk
      cases x with
      | none => exact hs
      | some k' => exact hs.2.2

theorem back_ok {t t' : Tmps} {m m' : Mem} {F : Nat → Prop} {a : Act} {ss D : List Nat} {vs : List AV} {ob : Mem} (r : Rel X N w S κ t' m' F a)
    (b1 : ∀ i, ∀ k ∈ keysIn (look t i), k < n) (b2 : ∀ k o, lookM m k = some o → k < n ∧ ∀ q ∈ keysO o, q < n)
    (hn0 : ∀ k l, X.K0 k = some l → k < n) (hfr : ∀ i, i ∉ D → look t' i = look t i) (hb : Back n ss vs ob m rho t' m') :
    Rel X N w S (headκ n rho κ) (zipT ss vs ++ (deads D ++ t)) (ob ++ m) (n + rho.length ≤ ·) a := by
  obtain ⟨hT, hM, hkeep, hsrc⟩ := hb
  have hlow : ∀ k, k < n → headκ n rho κ k = κ k := fun k hk => by simp [headκ, hk]
  -- where an object at the head comes from
  have src : ∀ k o, lookM (ob ++ m) k = some o → ObjR w S (headκ n rho κ) k o ∧
      ((n ≤ k ∧ rho[k - n]? = some none) ∨ ∃ k' o', lookM m' k' = some o' ∧ headκ n rho κ k = κ k' ∧ ((k < n ∧ k' = k) ∨ (n ≤ k ∧ rho[k - n]? = some (some k')))) := fun k o hk => by
    rw [lookM_append] at hk
    cases hu : lookU ob k with
    | none =>
      rw [hu] at hk
      simp only [Option.getD_none] at hk
      have hk' := keepM_get m _ k o hkeep (lookU_none_mem hu) hk
      obtain ⟨hlt, hq⟩ := b2 k o hk
      exact ⟨(r.ent.mm k o hk').keys (hlow k hlt) (fun q hq' => hlow q (hq q hq')), .inr ⟨k, o, hk', hlow k hlt, .inl ⟨hlt, rfl⟩⟩⟩
    | some v =>
      rw [hu] at hk
      simp only [Option.getD_some] at hk
      subst hk
      rcases SubM_get ob k o hM hu with ⟨hlt, o', ho', hs⟩ | ⟨hge, k', o', hr, ho', hs⟩ | ⟨hge, hr, sz, rfl⟩
      · exact ⟨SubO_ObjR hs (r.ent.mm k o' ho') (hlow k hlt), .inr ⟨k, o', ho', hlow k hlt, .inl ⟨hlt, rfl⟩⟩⟩
      · have hκ : headκ n rho κ k = κ k' := by simp [headκ, show ¬ k < n by omega, hr]
        exact ⟨SubO_ObjR hs (r.ent.mm k' o' ho') hκ, .inr ⟨k', o', ho', hκ, .inr ⟨hge, hr⟩⟩⟩
      · exact ⟨⟨⟨0, 0, 0, 0, 0, true, fun _ => none⟩, by simp [headκ, show ¬ k < n by omega, hr], .inl ⟨rfl, rfl⟩⟩, .inl ⟨hge, hr⟩⟩
  have notnil : ∀ k l b, n ≤ k → rho[k - n]? = some none → headκ n rho κ k = some l → l.has b → False := fun k l b h1 h2 h3 h4 => by
    simp only [headκ, show ¬ k < n by omega, if_false, h2, Option.some.injEq] at h3
    subst h3; have := (Loc.has_one (fun _ => rfl) h4).1; cases this
  refine ⟨r.size, r.defers, fun i => ?_, ⟨fun k o hk => (src k o hk).1, ?_, ?_, ?_, r.ent.sb⟩, ⟨?_, r.since.s0, r.since.os, r.since.tape, r.since.output, r.since.ge, r.since.keep, fun k l hk => ?_⟩⟩
  · by_cases hi : i ∈ ss
    · exact Sub_R.1 _ _ _ (SubT_get ss vs _ i hT hi) (r.tm i)
    · have h1 : look (zipT ss vs ++ (deads D ++ t)) i = look (deads D ++ t) i := look_append _ _ i (fun p hp e => hi (e ▸ zipT_mem hp))
      rw [h1]
      by_cases hd : i ∈ D
      · rw [look_deads hd]; exact .base (.dead _)
      · have h2 : look (deads D ++ t) i = look t i := look_append _ _ i (fun p hp e => hd (e ▸ deads_mem hp))
        rw [h2]
        have := r.tm i
        rw [hfr i hd] at this
        exact this.keys (fun k hk => hlow k (b1 i k hk))
  · intro k1 k2 o1 o2 l1 l2 b h1 h2 hk1 hk2 hn1 hn2
    rcases (src k1 o1 h1).2 with ⟨g1, g2⟩ | ⟨s1, q1, e1, e2, e3⟩
    · exact (notnil k1 l1 b g1 g2 hk1 hn1).elim
    · rcases (src k2 o2 h2).2 with ⟨g1, g2⟩ | ⟨s2, q2, f1, f2, f3⟩
      · exact (notnil k2 l2 b g1 g2 hk2 hn2).elim
      · have hs : s1 = s2 := r.ent.inj s1 s2 q1 q2 l1 l2 b e1 f1 (e2.symm.trans hk1) (f2.symm.trans hk2) hn1 hn2
        subst hs
        rcases e3 with ⟨c1, rfl⟩ | ⟨c1, c2⟩ <;> rcases f3 with ⟨d1, d2⟩ | ⟨d1, d2⟩
        · exact d2
        · have := srcOk_lt rho hsrc _ _ d2 c1; rw [this] at h1; cases h1
        · subst d2; have := srcOk_lt rho hsrc _ _ c2 d1; rw [this] at h2; cases h2
        · have := srcOk_inj rho hsrc _ _ _ c2 d2; omega
  · intro k o l b h1 hk hn
    rcases (src k o h1).2 with ⟨g1, g2⟩ | ⟨s1, q1, e1, e2, e3⟩
    · exact (notnil k l b g1 g2 hk hn).elim
    · exact r.ent.own s1 q1 l b e1 (e2.symm.trans hk) hn
  · intro k hk
    have hk' : n + rho.length ≤ k := hk
    have hrho : rho[k - n]? = none := List.getElem?_eq_none (by omega)
    refine ⟨?_, by simp [headκ, show ¬ k < n by omega, hrho]⟩
    cases hl : lookM (ob ++ m) k with
    | none => rfl
    | some o =>
      rcases (src k o hl).2 with ⟨_, g2⟩ | ⟨s1, q1, e1, e2, ⟨c1, _⟩ | ⟨_, c2⟩⟩
      · rw [hrho] at g2; cases g2
      · omega
      · rw [hrho] at c2; cases c2
  · intro k o l b h1 hk hn
    rcases (src k o h1).2 with ⟨g1, g2⟩ | ⟨s1, q1, e1, e2, e3⟩
    · exact (notnil k l b g1 g2 hk hn).elim
    · exact r.since.own s1 q1 l b e1 (e2.symm.trans hk) hn
  · have hkn : k < n := hn0 k l hk
    rw [hlow k hkn]; exact r.since.kp k l hk

theorem wp_loop_ghost {c : Code} {ι : Type} {Q : Exit → Act → World → Prop} {a : Act} (I : ι → Act → World → Prop) (μ : ι → Nat) (x0 : ι) (h₀ : I x0 a w)
    (round : ∀ x a w, I x a w → c.wp P (Exit.then (fun a' w' => ∃ x', I x' a' w' ∧ μ x' < μ x) Q) a w) : (Code.loop c).wp P Q a w := by
  intro b k cs
  have key : ∀ n x a w, μ x = n → I x a w →
      ∃ e a' w', Q e a' w' ∧ Arrives P (lone (b.at a (.code c :: .inLoop c :: k)) cs w) b k cs e a' w' := by
    intro n
    induction n using Nat.strongRecOn with
    | _ n ih =>
      intro x a w hn hI
      obtain ⟨e, a₁, w₁, hq, harr⟩ := round x a w hI b (.inLoop c :: k) cs
      cases e with
      | normal =>
        obtain ⟨x', hI₁, hlt⟩ := hq
        obtain ⟨e₂, a₂, w₂, hq₂, harr₂⟩ := ih (μ x') (hn ▸ hlt) x' a₁ w₁ rfl hI₁
        exact ⟨e₂, a₂, w₂, hq₂, .of_steps (Steps.trans harr (.one step_inLoop)) harr₂⟩
      | exit id => exact ⟨_, a₁, w₁, hq, .pass (x := .inLoop c) rfl (fun _ _ => .inl (by simp)) harr⟩
      | goto l => exact ⟨_, a₁, w₁, hq, .pass (x := .inLoop c) rfl (fun _ _ => .inl (by simp)) harr⟩
      | ret => exact ⟨_, a₁, w₁, hq, .pass (x := .inLoop c) rfl (fun _ _ => .inl (by simp)) harr⟩
      | panic ch => exact ⟨_, a₁, w₁, hq, .pass (x := .inLoop c) rfl (fun _ _ => .inl (by simp)) harr⟩
      | outgrown => exact ⟨_, a₁, w₁, hq, .pass (x := .inLoop c) rfl (fun _ _ => .inl (by simp)) harr⟩
  obtain ⟨e, a', w', hq, harr⟩ := key _ x0 a w rfl h₀
  exact ⟨e, a', w', hq, .of_steps (.one step_loop) harr⟩

def Qw (X : Ctx) (N : Nat) (Q : WP) : Exit → Act → World → Prop := fun e a w => match e with
  | .normal => After X N (Q .norm) a w
  | .exit id => After X N (Q (.ex id)) a w
  | .ret => After X N (Q .ret) a w
  | _ => False

theorem After.imp {K K' : Tmps → Mem → Nat → Prop} {a : Act} (h : After X N K a w) (hK : ∀ t m n, K t m n → K' t m n) : After X N K' a w := by
  obtain ⟨t, m, n, S, κ, h1, h2⟩ := h
  exact ⟨t, m, n, S, κ, hK _ _ _ h1, h2⟩

theorem fzW_ok {c : Code} {A : List Nat} {ops : Array Oper} {b : MCode} (hb : ∀ (Q : WP) (t : Tmps) (m : Mem) (n : Nat) (a : Act) (w : World) (S : Nat → Prop) (κ : Nat → Option Loc),
    Rel X N w S κ t m (n ≤ ·) a → vcg P b Q t m n → c.wp P (Qw X N Q) a w) {Q : WP} {t : Tmps} {m : Mem} {n : Nat} {a : Act} {w : World} {S : Nat → Prop} {κ : Nat → Option Loc}
    (r : Rel X N w S κ t m (n ≤ ·) a) (h : vcg P (fzW P A ops b) Q t m n) : c.wp P (Qw X N Q) a w := by
  unfold fzW at h
  split at h
  · obtain ⟨ks, _, h⟩ := h
    exact hb Q _ _ n a w _ κ (r.fz ks) h
  · exact hb Q t m n a w S κ r h

theorem gvVC_ok {t : Tmps} {n N : Nat} {a : Act} {w : World} {S : Nat → Prop} {X : Ctx} : ∀ (L : List Opd) (m : Mem) (κ : Nat → Option Loc) (K : Mem → Prop), Rel X N w S κ t m (n ≤ ·) a → gvVC L t m K →
    ∃ m' κ', K m' ∧ Rel X N w S κ' t m' (n ≤ ·) a := by
  intro L
  induction L with
  | nil => intro m κ K r h; exact ⟨m, κ, h, r⟩
  | cons x L ih =>
    intro m κ K r h
    simp only [gvVC] at h
    unfold gvRow at h
    split at h
    · split at h
      · split at h
        · rename_i hk _ s xs hq
          obtain ⟨rfl, h⟩ := h
          obtain ⟨κ', r'⟩ := r.layback hk hq
          exact ih _ κ' K r' h
        · exact ih _ κ K r h
      · exact ih _ κ K r h
    · exact ih _ κ K r h

theorem gvQ_ok {L : List Opd} {Q : WP} {e : Exit} {a : Act} {w : World} (h : Qw X N (gvQ L Q) e a w) : Qw X N Q e a w := by
  cases e with
  | normal =>
    obtain ⟨t, m, n, S, κ, h1, h2⟩ := h
    obtain ⟨m', κ', h3, h4⟩ := gvVC_ok L m κ _ h2 h1
    exact ⟨t, m', n, S, κ', h3, h4⟩
  | exit id => exact h
  | ret => exact h
  | _ => exact h.elim

theorem gvW_ok {c : Code} {A : List Nat} {ops : Array Oper} {is : List MI} {b : MCode} (hb : ∀ (Q : WP) (t : Tmps) (m : Mem) (n : Nat) (a : Act) (w : World) (S : Nat → Prop) (κ : Nat → Option Loc),
    Rel X N w S κ t m (n ≤ ·) a → vcg P b Q t m n → c.wp P (Qw X N Q) a w) (Q : WP) (t : Tmps) (m : Mem) (n : Nat) (a : Act) (w : World) (S : Nat → Prop) (κ : Nat → Option Loc)
    (r : Rel X N w S κ t m (n ≤ ·) a) (h : vcg P (gvW P A ops is b) Q t m n) : c.wp P (Qw X N Q) a w := by
  unfold gvW at h
  split at h
  · exact hb Q t m n a w S κ r h
  · exact wp_mono (hb (gvQ _ Q) t m n a w S κ r h) (fun e a w hh => gvQ_ok hh)

theorem gvWB_ok {c : Code} {A : List Nat} {is : List MI} {b : MCode} (hb : ∀ (Q : WP) (t : Tmps) (m : Mem) (n : Nat) (a : Act) (w : World) (S : Nat → Prop) (κ : Nat → Option Loc),
    Rel X N w S κ t m (n ≤ ·) a → vcg P b Q t m n → c.wp P (Qw X N Q) a w) (Q : WP) (t : Tmps) (m : Mem) (n : Nat) (a : Act) (w : World) (S : Nat → Prop) (κ : Nat → Option Loc)
    (r : Rel X N w S κ t m (n ≤ ·) a) (h : vcg P (gvWB A is b) Q t m n) : c.wp P (Qw X N Q) a w := by
  unfold gvWB at h
  split at h
  · exact hb Q t m n a w S κ r h
  · exact wp_mono (hb (gvQ _ Q) t m n a w S κ r h) (fun e a w hh => gvQ_ok hh)

theorem vcg_ok : ∀ (c : Code) (A : List Nat) (mc : MCode), cCode P N A c = some mc → ∀ (Q : WP) (t : Tmps) (m : Mem) (n : Nat) (a : Act) (w : World) (S : Nat → Prop) (κ : Nat → Option Loc),
    Rel X N w S κ t m (n ≤ ·) a → vcg P mc Q t m n → c.wp P (Qw X N Q) a w := by
  intro c
  induction c with
  | skip => intro A mc hc Q t m n a w S κ r h; simp [cCode] at hc; subst hc; exact wp_skip ⟨t, m, n, S, κ, h, r⟩
  | region id ops draw =>
    intro A mc hc Q t m n a w S κ r h
    cases draw with
    | false =>
      simp only [cCode] at hc
      split at hc
      · rename_i is his
        simp at hc; subst hc
        refine fzW_ok (gvWB_ok (gvW_ok (fun Q t m n a w S κ r h => ?_))) r h
        refine wp_region ?_
        have := regs_ok (P := P) (X := X) (N := N) (Q := Qw X N Q) (K := Q .norm) (fun a w h => h) ops.toList is 0 t m n a w S κ (fun j => by simp) his r h
        rwa [show List.range ops.size = List.range' 0 ops.toList.length from by rw [List.range_eq_range']; simp]
      · cases hc
    | true =>
      simp only [cCode] at hc
      split at hc
      · rename_i is his
        split at hc
        · split at hc
          · rename_i hok
            simp only [Bool.and_eq_true] at hok
            simp only [Option.some.injEq] at hc; subst hc
            exact fzW_ok (gvWB_ok (gvW_ok (b := .drawy (markY P ops is) (flags ops (markY P ops is)) (zsOf ops (markY P ops is))) (fun Q t m n a w S κ r h => drawy_ok hok.2.2 his rfl rfl hok.1 hok.2.1.1 hok.2.1.2 r h (fun a w h => h)))) r h
          · cases hc
        · split at hc
          · rename_i hok
            simp only [Bool.and_eq_true] at hok
            simp only [Option.some.injEq] at hc; subst hc
            exact fzW_ok (gvWB_ok (b := .draw (markX P ops is)) (fun Q t m n a w S κ r h => draw_ok hok.2 his rfl hok.1.2.1 hok.1.2.2 r h (fun a w h => h))) r h
          · split at hc
            · rename_i hok
              simp only [Bool.and_eq_true] at hok
              simp only [Option.some.injEq] at hc; subst hc
              exact fzW_ok (gvWB_ok (gvW_ok (b := .drawc (markM P ops is) (flags ops (markM P ops is))) (fun Q t m n a w S κ r h => drawc_ok hok.2.2 his rfl hok.1 hok.2.1.1 hok.2.1.2 r h (fun a w h => h)))) r h
            · cases hc
      · cases hc
  | seq x y ihx ihy =>
    intro A mc hc Q t m n a w S κ r h
    simp only [cCode] at hc
    split at hc
    · rename_i x' y' hx hy
      simp at hc; subst hc
      refine wp_seq (wp_mono (ihx _ x' hx _ t m n a w S κ r h) (fun e a w hh => ?_))
      cases e with
      | normal =>
        obtain ⟨t', m', n', S', κ', h1, h2⟩ := hh
        exact ihy _ y' hy Q t' m' n' a w S' κ' h2 h1
      | exit id => exact hh
      | ret => exact hh
      | _ => exact hh.elim
    · cases hc
  | cond c x y ihx ihy =>
    intro A mc hc Q t m n a w S κ r h
    simp only [cCode] at hc
    split at hc
    · rename_i c' x' y' h1 hx hy
      simp at hc; subst hc
      simp only [vcg] at h
      split at h
      · rename_i b e
        exact wp_cond_split (ev_v h1 r e) (fun hb => ihx _ x' hx Q t m n a w S κ r (h.1 hb)) (fun hb => ihy _ y' hy Q t m n a w S κ r (h.2 hb))
      · exact h.elim
    · cases hc
  | block id b ih =>
    intro A mc hc Q t m n a w S κ r h
    simp only [cCode] at hc
    split at hc
    · rename_i b' hb
      simp at hc; subst hc
      refine wp_block (wp_mono (ih _ b' hb _ t m n a w S κ r h) (fun e a w hh => ?_))
      cases e with
      | exit id' =>
        simp only [Exit.inBlock]
        by_cases hid : id' = id
        · rw [if_pos hid]
          exact After.imp hh (fun t m n h => by simpa [hid] using h)
        · rw [if_neg hid]
          exact After.imp hh (fun t m n h => by simpa [hid] using h)
      | normal => exact hh
      | ret => exact hh
      | _ => exact hh.elim
    · cases hc
  | loop b ih =>
    intro A mc hc Q t m n a w S κ r h
    simp only [cCode] at hc
    split at hc
    · rename_i b' hb
      simp at hc; subst hc
      obtain ⟨ι, ss, vs, ob, rr, inv, μ, hss, ⟨x0, rho0, hr0, hi0, hb0⟩, hround⟩ := h
      have b1 : ∀ i, ∀ k ∈ keysIn (look t i), k < n := fun i k hk => by
        apply Nat.lt_of_not_le; intro hh; exact keysIn_place (r.tm i) k hk (r.ent.fresh k hh).2
      have b2 : ∀ k o, lookM m k = some o → k < n ∧ ∀ q ∈ keysO o, q < n := fun k o hk => by
        refine ⟨?_, fun q hq => ?_⟩
        · apply Nat.lt_of_not_le; intro hh; rw [(r.ent.fresh k hh).1] at hk; cases hk
        · cases o with
          | box cs =>
            obtain ⟨l, _, _, vs, T, _, _, h3⟩ := r.ent.mm k _ hk
            obtain ⟨y, hy, hq⟩ := keysInL_mem.1 hq
            obtain ⟨j, hj, rfl⟩ := List.getElem_of_mem hy
            obtain ⟨c, _, hR⟩ := h3 j cs[j] (by simp)
            apply Nat.lt_of_not_le; intro hh; exact keysIn_place hR q hq (r.ent.fresh q hh).2
          | arr => simp [keysO] at hq
          | mat => simp [keysO] at hq
          | lent sz rows i0 q0 =>
            obtain ⟨l, _, _, _, _, _, _, _, vs, T, _, _, _, _, c0, _, lq, h11, _⟩ := r.ent.mm k _ hk
            simp only [keysO, List.mem_singleton] at hq
            subst hq
            apply Nat.lt_of_not_le; intro hh; rw [(r.ent.fresh q hh).2] at h11; cases h11
          | map => simp [keysO] at hq
          | iter => simp [keysO] at hq
      have b3 : ∀ k l, X.K0 k = some l → k < n := fun k l hk => by
        apply Nat.lt_of_not_le; intro hh; have h1 := (r.ent.fresh k hh).2; obtain ⟨l2, g1, _⟩ := r.since.kp k l hk; rw [g1] at h1; cases h1
      refine wp_loop_ghost (fun x a w => inv x ∧ ∃ S κ, Rel X N w S κ (zipT ss (vs x) ++ (deads (asg b') ++ t)) (ob x ++ m) (n + rr ≤ ·) a) μ x0 ⟨hi0, S, headκ n rho0 κ, ?_⟩ (fun x a w hI => ?_)
      · have := back_ok (D := asg b') r b1 b2 b3 (fun _ _ => rfl) hb0
        rwa [hr0] at this
      · obtain ⟨hix, S', κ', r'⟩ := hI
        have hv := vcg_frame b' _ _ _ _ (hround x hix)
        refine wp_mono (ih _ b' hb _ _ _ _ a w S' κ' r' hv) (fun e a w hh => ?_)
        cases e with
        | normal =>
          obtain ⟨t', m', n', S2, κ2, ⟨⟨x', rho, ks, hr, hi', hμ, hks, hbk⟩, hfr⟩, r2⟩ := hh
          refine ⟨x', ⟨hi', fun b => S2 b ∨ blocksOf m' κ2 ks b, headκ n rho κ2, ?_⟩, hμ⟩
          have := back_ok (D := asg b') (r2.fz ks) b1 b2 b3 (fun i hi => by
            rw [look_fzT, hfr i hi, head_other hss hi]
            exact fz_id _ (fun k hk hh => by have := b1 i k hk; have := hks k hh; omega)) hbk
          rwa [hr] at this
        | exit id => exact After.imp hh (fun t m n h => h.1)
        | ret => exact After.imp hh (fun t m n h => h.1)
        | _ => exact hh.elim
    · cases hc
  | exit id => intro A mc hc Q t m n a w S κ r h; simp [cCode] at hc; subst hc; exact wp_exit ⟨t, m, n, S, κ, h, r⟩
  | ret => intro A mc hc Q t m n a w S κ r h; simp [cCode] at hc; subst hc; exact wp_ret ⟨t, m, n, S, κ, h, r⟩
  | rangeFunc => intro A mc hc; simp [cCode] at hc
  | scope => intro A mc hc; simp [cCode] at hc
  | label => intro A mc hc; simp [cCode] at hc
  | goto => intro A mc hc; simp [cCode] at hc
  | refuse => intro A mc hc; simp [cCode] at hc

end Go.Av
/- A function: from what is asked of its code to what is told of it. -/
namespace Go.Av
open Go.RowKit (Below)

variable {P : Program} {w : World} {S : Nat → Prop} {κ : Nat → Option Loc}

/-- how a result is found -/
inductive RV where
  | t (s : Nat)
  | c (s : Nat) (n : Option Nat)

def cRV (P : Program) : ResultVar → Option RV
  | .tmp t => some (.t t)
  | .cell a T => (ldT P T).map (.c a)

def cRVs (P : Program) : List ResultVar → Option (List RV)
  | [] => some []
  | x :: r => match cRV P x, cRVs P r with
    | some x', some r' => some (x' :: r')
    | _, _ => none

def vres (t : Tmps) (m : Mem) : RV → (AV → Prop) → Prop
  | .t s, K => K (look t s)
  | .c s n, K => match look t s with
    | .ptr k off => match lookM m k with
      | some (.box cs) => ldc n cs off K
      | _ => False
    | _ => False

def vress (t : Tmps) (m : Mem) : List RV → (List AV → Prop) → Prop
  | [], K => K []
  | x :: r, K => vres t m x fun y => vress t m r fun ys => K (y :: ys)

def one : List AV → AV
  | [x] => x
  | xs => .tup xs

def argT : Nat → List AV → Tmps
  | _, [] => []
  | i, x :: r => (i, x) :: argT (i + 1) r

theorem look_argT (xs : List AV) (j i : Nat) : look (argT j xs) i = if j ≤ i then (xs[i - j]?).getD .dead else .dead := by
  induction xs generalizing j with
  | nil => simp [argT, look]
  | cons x xs ih =>
    simp only [argT]
    by_cases h : j = i
    · subst h; rw [look_cons_eq]; simp
    · rw [look_cons_ne _ _ h, ih]
      by_cases h2 : j + 1 ≤ i
      · rw [if_pos h2, if_pos (by omega), show i - j = (i - (j + 1)) + 1 by omega, List.getElem?_cons_succ]
      · rw [if_neg h2, if_neg (by omega)]

/-- what is handed back: the objects rho are the caller's from then on -/
def Told (r : AV) (rm : List MObj) (rvs : List RV) (t : Tmps) (m : Mem) : Prop :=
  vress t m rvs fun xs => ∃ rho : List Nat, Wk (frz rho m (one xs)) r ∧ rho.length = rm.length ∧ (rho.Nodup) ∧
    ∀ (i : Nat) k o, rho[i]? = some k → rm[i]? = some o → lookM m k = some o ∧ (match o with | .box _ => False | .iter _ _ => False | .lent _ _ _ _ => False | _ => True)

def resG (tmps : Array Value) : ResultVar → Sem Value
  | .tmp t => pure (tmps.getD t undef)
  | .cell a t => do loadVar t (← asAddr (tmps.getD a undef))

theorem results_eq (fn : Func) (tmps : Array Value) : results fn tmps = (do
    let vs ← fn.results.mapM (resG tmps)
    pure (if h : vs.size = 1 then vs[0] else .tuple vs)) := by
  unfold results
  congr 1

theorem vres_run {X : Ctx} {N : Nat} {F : Nat → Prop} {t : Tmps} {m : Mem} {a : Act} {x : ResultVar} {x' : RV} {G : AV → Prop} (hx : cRV P x = some x') (r : Rel X N w S κ t m F a) (h : vres t m x' G) :
    ∃ v y, (resG a.tmps x).run P w = .ok v w ∧ R w S κ y v ∧ G y := by
  cases x with
  | tmp s => simp [cRV] at hx; subst hx; exact ⟨_, _, rfl, r.tm s, h⟩
  | cell s T =>
    simp only [cRV, Option.map_eq_some_iff] at hx
    obtain ⟨c, hT, rfl⟩ := hx
    simp only [vres] at h
    have hr := r.tm s
    split at h
    · rename_i k off e
      rw [e] at hr
      obtain ⟨l, hk, hv⟩ := hr.ptr_inv
      split at h
      · rename_i cs hm
        obtain ⟨l', hk', hn, vs, T', h1, h2, h3⟩ := r.ent.mm _ _ hm
        rw [hk] at hk'; cases hk'
        obtain ⟨v, y, h4, h5, h6⟩ := loadVar_run (P := P) (w := w) (S := S) (κ := κ) (b := l.b) (off := l.base) (cs := cs) (f := fun j => (vs[l.base + j]?).getD undef) hT
          (fun j hj => by rw [cell_of h1]; rw [Array.getElem?_eq_getElem (by omega)]; rfl)
          (fun j y hj => by obtain ⟨c, hc, hR⟩ := h3 j y hj; rw [hc]; exact hR) h
        exact ⟨v, y, by simp [resG, hv, asAddr, h4], h5, h6⟩
      · exact h.elim
    · exact h.elim

theorem vress_run {X : Ctx} {N : Nat} {F : Nat → Prop} {t : Tmps} {m : Mem} {a : Act} : ∀ (l : List ResultVar) (l' : List RV) (G : List AV → Prop), cRVs P l = some l' → Rel X N w S κ t m F a → vress t m l' G →
    ∃ vs ys, (l.mapM (resG a.tmps)).run P w = .ok vs w ∧
      ys.length = vs.length ∧ (∀ (i : Nat) y v, ys[i]? = some y → vs[i]? = some v → R w S κ y v) ∧ G ys := by
  intro l
  induction l with
  | nil => intro l' G hl r h; simp [cRVs] at hl; subst hl; exact ⟨[], [], rfl, rfl, fun i y v h => by simp at h, h⟩
  | cons x l ih =>
    intro l' G hl r h
    simp only [cRVs] at hl
    split at hl
    · rename_i x' r' h1 h2
      simp at hl; subst hl
      obtain ⟨v, y, e1, e2, e3⟩ := vres_run h1 r h
      obtain ⟨vs, ys, f1, f2, f3, f4⟩ := ih r' _ h2 r e3
      refine ⟨v :: vs, y :: ys, ?_, by simp [f2], fun i z v' hz hv => ?_, f4⟩
      · rw [List.mapM_cons, Sem.run_bind, e1]
        simp only [Result.andThen_ok, Sem.run_bind, f1, Sem.run_pure]
      · cases i with
        | zero => simp at hz hv; subst hz hv; exact e2
        | succ i => exact f3 i z v' (by simpa using hz) (by simpa using hv)
    · cases hl

/-- the blocks that are only read behind the call -/
def outS (S : Nat → Prop) (κ : Nat → Option Loc) (m : Mem) (rho : List Nat) (b : Nat) : Prop :=
  S b ∨ ∃ k o l, k ∉ rho ∧ lookM m k = some o ∧ κ k = some l ∧ l.has b

def outκ (κ : Nat → Option Loc) (rho : List Nat) (i : Nat) : Option Loc := (rho[i]?).bind κ

theorem frz_R {x : AV} {v : Value} {m : Mem} {F : Nat → Prop} {rho : List Nat} (e : Ent w S κ m F) (h : R w S κ x v) : R w (outS S κ m rho) (outκ κ rho) (frz rho m x) v := by
  have hκ : ∀ {k i l}, pos rho k = some i → κ k = some l → outκ κ rho i = some l := fun {k i l} h1 h2 => by simp [outκ, pos_some h1, h2]
  induction h with
  | base h => rw [frz_R0_self h]; exact .base (h.mono (fun _ _ => rfl) (fun _ h => .inl h))
  | agg hl _ ih =>
    simp only [frz]
    refine .agg (by rw [frzL_length, hl]) (fun i x y h1 h2 => ?_)
    rw [frzL_get, Option.map_eq_some_iff] at h1
    obtain ⟨x', h1, rfl⟩ := h1
    exact ih i x' y h1 h2
  | tup hl _ ih =>
    simp only [frz]
    refine .tup (by rw [frzL_length, hl]) (fun i x y h1 h2 => ?_)
    rw [frzL_get, Option.map_eq_some_iff] at h1
    obtain ⟨x', h1, rfl⟩ := h1
    exact ih i x' y h1 h2
  | fn hl _ ih =>
    simp only [frz]
    refine .fn (by rw [frzL_length, hl]) (fun i x y h1 h2 => ?_)
    rw [frzL_get, Option.map_eq_some_iff] at h1
    obtain ⟨x', h1, rfl⟩ := h1
    exact ih i x' y h1 h2
  | elt hk hn => simp only [frz]; exact .base (.dead _)
  | ptr hk =>
    rename_i k off l
    simp only [frz]
    split
    · rename_i i hp; exact .ptr (hκ hp hk)
    · rename_i hp
      split
      · rename_i cs hm
        split
        · rename_i hkf
          obtain ⟨l', hk', hn, vs, T, h1, h2, h3⟩ := e.mm _ _ hm
          rw [hk] at hk'; cases hk'
          refine .base (.rp (c := fun j => (vs[l.base + (off + j)]?).getD undef) (.inr ⟨k, _, l, pos_none hp, hm, hk, .inl ⟨hn, rfl⟩⟩) (fun j hj => ?_) (fun j y hj => ?_))
          · rw [cell_of h1, Nat.add_assoc, Array.getElem?_eq_getElem (by simp at hj; omega)]; rfl
          · rw [List.getElem?_drop] at hj
            obtain ⟨c, hc, hR⟩ := h3 _ y hj
            rw [hc]
            exact (kf_R0 hR (kfs_get hkf hj)).mono (fun _ _ => rfl) (fun _ h => .inl h)
        · exact .base (.dead _)
      · exact .base (.dead _)
  | arrNil hk hn =>
    rename_i k l
    simp only [frz]
    split
    · rename_i i hp; exact .arrNil (hκ hp hk) hn
    · split
      · simp only [List.take_zero]; exact .base .roNil
      · rename_i sz rows _
        cases rowsOk rows
        · exact .base (.dead _)
        · simp only [cond_true, List.take_zero]; exact .base .roNil
      · exact .base (.dead _)
  | arr0 hk =>
    simp only [frz]
    split
    · rename_i i hp; exact .arr0 (hκ hp hk)
    · split
      · simp only [List.take_zero]; exact .base .roNil
      · rename_i sz rows _
        cases rowsOk rows
        · exact .base (.dead _)
        · simp only [cond_true, List.take_zero]; exact .base .roNil
      · exact .base (.dead _)
  | arr hk hn hlen hcap hu =>
    rename_i k off len cap l
    simp only [frz]
    split
    · rename_i i hp; exact .arr (hκ hp hk) hn hlen hcap hu
    · rename_i hp
      split
      · rename_i sz xs hm
        obtain ⟨l', hk', h0⟩ := e.mm _ _ hm
        rw [hk] at hk'; cases hk'
        rcases h0 with ⟨h0, _⟩ | ⟨_, rfl, h1, h1', vs, T', h2, h3, h4, h5⟩
        · rw [hn] at h0; cases h0
        · have hlen' : ((xs.drop off).take len).length = len := by simp; omega
          have hget : ∀ (i : Nat) x, ((xs.drop off).take len)[i]? = some x → i < len ∧ xs[off + i]? = some x := fun i x h => by
            have hi : i < len := by have := (List.getElem?_eq_some_iff.1 h).1; omega
            rw [List.getElem?_take_of_lt hi, List.getElem?_drop] at h
            exact ⟨hi, h⟩
          have := R0.ro (w := w) (S := outS S κ m rho) (sz := l.sz) (xs := (xs.drop off).take len) (b := l.b) (off := l.base + off * l.sz) (cap := cap)
            (c := fun q => (vs[l.base + off * l.sz + q]?).getD undef) (.inr ⟨k, _, l, pos_none hp, hm, hk, .inl ⟨hn, rfl⟩⟩) (by omega)
            (fun i x hx => h4 _ _ (hget i x hx).2)
            (fun q hq => by
              rw [hlen'] at hq
              have : (off + len) * l.sz ≤ l.cap * l.sz := Nat.mul_le_mul_right _ (by omega)
              rw [Nat.add_mul] at this
              rw [cell_of h2, Array.getElem?_eq_getElem (by omega)]; rfl)
            (fun i x j y hx hy => by
              obtain ⟨c, hc, hR⟩ := h5 _ x j y (hget i x hx).2 hy
              rw [show l.base + off * l.sz + (i * l.sz + j) = l.base + (off + i) * l.sz + j from by rw [Nat.add_mul]; omega, hc]
              exact hR.mono (fun _ _ => rfl) (fun _ h => .inl h))
          rw [hlen'] at this
          exact .base this
      · rename_i sz rows hm
        cases hok : rowsOk rows
        · exact .base (.dead _)
        · exact .base (mat_R0 (e.mm _ _ hm) hk (fun _ h => .inl h) (fun b hb => .inr ⟨k, _, l, pos_none hp, hm, hk, hb⟩) hok hlen hcap hu)
      · exact .base (.dead _)
  | mp hk hn =>
    rename_i k l
    simp only [frz]
    split
    · rename_i i hp; exact .mp (hκ hp hk) hn
    · rename_i hp
      split
      · rename_i es hm
        obtain ⟨l', hk', hn', ents, clock, h1, h2, h3, h4, h5⟩ := e.mm _ _ hm
        rw [hk] at hk'; cases hk'
        exact .base (.rm (.inr ⟨k, _, l, pos_none hp, hm, hk, .inl ⟨hn, rfl⟩⟩) h1 h2 (fun i p e hp he => (h5 i p e hp he).1) h3 h4
          (fun i p e hp he => (h5 i p e hp he).2.mono (fun _ _ => rfl) (fun _ h => .inl h)))
      · exact .base (.dead _)

/-- a function -/
theorem fn_ok {f : FuncId} {fn : Func} {c : Code} {mc : MCode} {rvs : List RV} {args : List AV} {r : AV} {rm : List MObj} (hf : P.funcs[f]? = some fn) (hb : fn.body = some c)
    (hcall : callable P f = true) (hc : cCode P fn.ntmps (topA P fn.ntmps c) c = some mc) (hr : cRVs P fn.results.toList = some rvs) (hn : args.length ≤ fn.ntmps)
    (h : vcg P mc (fun e t m _ => match e with | .ex _ => False | _ => Told r rm rvs t m) (argT 0 args) [] 0) : CallsA P f args r rm := by
  refine ⟨hcall, fun w S vals hS hl hR => ?_⟩
  refine calls_of_wp hf hb ?_
  have hrel : Rel ⟨w, S, fun _ => False, fun _ => none⟩ fn.ntmps w S (fun _ => none) (argT 0 args) [] (0 ≤ ·) { tmps := vals ++ Array.replicate (fn.ntmps - vals.size) undef, defers := [] } := by
    refine ⟨by simp; omega, rfl, fun i => ?_, ⟨fun k o h => by simp [lookM] at h, fun k k' o o' l l' b h => by simp [lookM] at h, fun k o l b h => by simp [lookM] at h, fun k _ => ⟨rfl, rfl⟩, hS⟩,
      ⟨fun k o l b h => by simp [lookM] at h, fun b hb => .inl hb, rfl, rfl, rfl, Nat.le_refl _, fun _ _ _ => rfl, fun _ _ h => by cases h⟩⟩
    rw [look_argT, if_pos (Nat.zero_le _), Nat.sub_zero]
    by_cases hi : i < args.length
    · have hv : vals[i]? = some (vals[i]'(by omega)) := by simp
      have := hR i args[i] _ (by simp [hi]) hv
      rw [List.getElem?_eq_getElem hi, Option.getD_some]
      have e : (vals ++ Array.replicate (fn.ntmps - vals.size) undef).getD i undef = vals[i]'(by omega) := by
        rw [Array.getD_eq_getD_getElem?, Array.getElem?_append_left (by omega), hv]; rfl
      simp only [e]
      exact .base this
    · rw [List.getElem?_eq_none (by omega)]; exact .base (.dead _)
  refine wp_mono (vcg_ok c _ mc hc _ _ _ _ _ _ _ _ hrel h) (fun e a' w' hh => ?_)
  have fin : After ⟨w, S, fun _ => False, fun _ => none⟩ fn.ntmps (fun t m _ => Told r rm rvs t m) a' w' → a'.defers = [] ∧ ∃ v, (results fn a'.tmps).run P w' = .ok v w' ∧
      ∃ v' S' κ', Ending.returned v = .returned v' ∧ R w' S' κ' r v' ∧ Ent w' S' κ' (memOf rm) (rm.length ≤ ·) ∧ (∀ b, S' b → S b ∨ w.heap.size ≤ b) ∧
        (∀ k o l b, lookM (memOf rm) k = some o → κ' k = some l → l.has b → w.heap.size ≤ b) ∧ Below w.heap.size w w' := by
    rintro ⟨t, m, n, S1, κ1, hT, r1⟩
    obtain ⟨vs, ys, g1, g2, g3, rho, hfr, hrl, hnd, hob⟩ := vress_run fn.results.toList rvs _ hr r1 hT
    refine ⟨r1.defers, ?_⟩
    have hrun : ∃ v, (results fn a'.tmps).run P w' = .ok v w' ∧ R w' S1 κ1 (one ys) v := by
      rw [results_eq, Sem.run_bind, Array.mapM_eq_mapM_toList]
      simp only [Sem.run_map, g1, Result.andThen_ok, Sem.run_pure]
      by_cases h1 : vs.length = 1
      · match vs, ys, h1, g2 with
        | [v], [y], _, _ =>
          refine ⟨v, by simp, ?_⟩
          exact g3 0 y v (by simp) (by simp)
      · refine ⟨.tuple vs.toArray, by simp [h1], ?_⟩
        have : one ys = .tup ys := by
          match ys, g2 with
          | [], _ => rfl
          | [y], g2 => simp at g2; omega
          | _ :: _ :: _, _ => rfl
        rw [this]
        exact .tup (by simpa using g2) (fun i x y h1 h2 => g3 i x y h1 (by simpa using h2))
    obtain ⟨v, hv, hRv⟩ := hrun
    refine ⟨v, hv, v, outS S1 κ1 m rho, outκ κ1 rho, rfl, Wk_R (frz_R r1.ent hRv) hfr, ⟨?_, ?_, ?_, ?_, ?_⟩, ?_, ?_, ?_⟩
    · intro i o hi
      rw [lookM_memOf] at hi
      have hil : i < rho.length := by rw [hrl]; exact (List.getElem?_eq_some_iff.1 hi).1
      have hk : rho[i]? = some rho[i] := by simp [hil]
      obtain ⟨hm, hnb⟩ := hob i _ o hk hi
      have hκ : outκ κ1 rho i = κ1 rho[i] := by simp [outκ, hil]
      cases o with
      | box => exact hnb.elim
      | iter => exact hnb.elim
      | lent => exact hnb.elim
      | arr sz xs =>
        obtain ⟨l, h1, h2⟩ := r1.ent.mm _ _ hm
        refine ⟨l, hκ.trans h1, ?_⟩
        rcases h2 with h2 | ⟨q1, q2, q3, q4, vs', T, q5, q6, q7, q8⟩
        · exact .inl h2
        · refine .inr ⟨q1, q2, q3, q4, vs', T, q5, q6, q7, fun i x j y hx hy => ?_⟩
          obtain ⟨c, hc, hr⟩ := q8 i x j y hx hy
          exact ⟨c, hc, hr.mono (fun _ _ => rfl) (fun _ h => .inl h)⟩
      | mat sz rows =>
        obtain ⟨l, hk, hn, h1, h2, h3, h4, h5, vs, T, h6, h7, h8⟩ := r1.ent.mm _ _ hm
        refine ⟨l, hκ.trans hk, hn, h1, h2, h3, h4, h5, vs, T, h6, h7, fun i r hr => ?_⟩
        obtain ⟨c, hc, hR⟩ := h8 i r hr
        exact ⟨c, hc, hR.mono (fun _ _ => rfl) (fun _ h => .inl h) (fun _ _ => rfl)⟩
      | map es =>
        obtain ⟨l, h1, hn1, ents, clock, q1, q2, q3, q4, q5⟩ := r1.ent.mm _ _ hm
        exact ⟨l, hκ.trans h1, hn1, ents, clock, q1, q2, q3, q4, fun i p e hp he => ⟨(q5 i p e hp he).1, (q5 i p e hp he).2.mono (fun _ _ => rfl) (fun _ h => .inl h)⟩⟩
    · intro i j o o' l l' b hi hj hli hlj n1 n2
      rw [lookM_memOf] at hi hj
      have hil : i < rho.length := by rw [hrl]; exact (List.getElem?_eq_some_iff.1 hi).1
      have hjl : j < rho.length := by rw [hrl]; exact (List.getElem?_eq_some_iff.1 hj).1
      have hki : rho[i]? = some rho[i] := by simp [hil]
      have hkj : rho[j]? = some rho[j] := by simp [hjl]
      have e1 : κ1 rho[i] = some l := by simpa [outκ, hil] using hli
      have e2 : κ1 rho[j] = some l' := by simpa [outκ, hjl] using hlj
      have := r1.ent.inj _ _ _ _ l l' b (hob i _ o hki hi).1 (hob j _ o' hkj hj).1 e1 e2 n1 n2
      exact (List.getElem_inj hnd).1 this
    · intro i o l b hi hli hn1
      rw [lookM_memOf] at hi
      have hil : i < rho.length := by rw [hrl]; exact (List.getElem?_eq_some_iff.1 hi).1
      have hki : rho[i]? = some rho[i] := by simp [hil]
      have e1 : κ1 rho[i] = some l := by simpa [outκ, hil] using hli
      have hm := (hob i _ o hki hi).1
      have ho := r1.ent.own _ _ l b hm e1 hn1
      refine ⟨fun hS => ?_, ho.2⟩
      rcases hS with hS | ⟨k2, o2, l2, q1, q2, q3, q4⟩
      · exact ho.1 hS
      · have := r1.ent.inj k2 _ o2 o l2 l b q2 hm q3 e1 q4 hn1
        exact q1 (this ▸ List.getElem_mem hil)
    · intro k hk
      have hk' : rm.length ≤ k := hk
      refine ⟨by rw [lookM_memOf]; exact List.getElem?_eq_none hk', ?_⟩
      simp [outκ, List.getElem?_eq_none (show rho.length ≤ k by omega)]
    · refine r1.ent.sb.mono (fun _ _ => rfl) (fun _ h => .inl h) (fun b hS => ?_)
      rcases hS with hS | ⟨k2, o2, l2, q1, q2, q3, q4⟩
      · exact r1.ent.sb.lt b hS
      · exact (r1.ent.own k2 o2 l2 b q2 q3 q4).2
    · intro b hS
      rcases hS with hS | ⟨k2, o2, l2, q1, q2, q3, q4⟩
      · rcases r1.since.s0 b hS with h | h | h
        · exact .inl h
        · exact .inr h
        · exact h.elim
      · rcases r1.since.own k2 o2 l2 b q2 q3 q4 with h | h
        · exact .inr h
        · exact h.elim
    · intro i o l b hi hli hn1
      rw [lookM_memOf] at hi
      have hil : i < rho.length := by rw [hrl]; exact (List.getElem?_eq_some_iff.1 hi).1
      have hki : rho[i]? = some rho[i] := by simp [hil]
      have e1 : κ1 rho[i] = some l := by simpa [outκ, hil] using hli
      rcases r1.since.own _ _ l b (hob i _ o hki hi).1 e1 hn1 with h | h
      · exact h
      · exact h.elim
    · exact ⟨r1.since.os, r1.since.tape, r1.since.output, r1.since.ge, fun k hk => r1.since.keep k hk (fun h => h)⟩
  cases e with
  | normal => exact fin hh
  | ret => exact fin hh
  | exit id =>
    obtain ⟨t, m, n, S1, κ1, hT, r1⟩ := hh
    exact hT.elim
  | _ => exact hh.elim

end Go.Av
/- What a function's compiled code is; the words of the reckoning. -/
namespace Go.Av

/-- a function's code, its results, how many temporaries -/
def compiled (P : Program) (f : FuncId) : Option (MCode × List RV × Nat) :=
  match P.funcs[f]? with
  | some fn => match fn.body with
    | some c => match cCode P fn.ntmps (topA P fn.ntmps c) c, cRVs P fn.results.toList, callable P f with
      | some mc, some rvs, true => some (mc, rvs, fn.ntmps)
      | _, _, _ => none
    | none => none
  | none => none

def Ends (r : AV) (rm : List MObj) (rvs : List RV) : WP := fun e t m _ => match e with
  | .ex _ => False
  | _ => Told r rm rvs t m

theorem fn_of {P : Program} {f : FuncId} {mc : MCode} {rvs : List RV} {N : Nat} {args : List AV} {r : AV} {rm : List MObj} (h : compiled P f = some (mc, rvs, N)) (hn : args.length ≤ N)
    (hv : vcg P mc (Ends r rm rvs) (argT 0 args) [] 0) : CallsA P f args r rm := by
  unfold compiled at h
  split at h
  · rename_i fn hf
    split at h
    · rename_i c hb
      split at h
      · rename_i mc' rvs' h1 h2 h3
        simp only [Option.some.injEq, Prod.mk.injEq] at h
        obtain ⟨rfl, rfl, rfl⟩ := h
        exact fn_ok hf hb h3 h1 h2 hn hv
      · cases h
    · cases h
  · cases h

/-- nothing that is the caller's from then on -/
def Ends0 (r : AV) (rvs : List RV) : WP := fun e t m _ => match e with
  | .ex _ => False
  | _ => vress t m rvs fun xs => Wk (frz [] m (one xs)) r

theorem vress_mono {t : Tmps} {m : Mem} : ∀ {l : List RV} {G G' : List AV → Prop}, vress t m l G → (∀ xs, G xs → G' xs) → vress t m l G' := by
  intro l
  induction l with
  | nil => intro G G' h hG; exact hG _ h
  | cons x l ih =>
    intro G G' h hG
    have up : ∀ {H H' : AV → Prop}, vres t m x H → (∀ y, H y → H' y) → vres t m x H' := fun {H H'} h hH => by
      cases x with
      | t s => exact hH _ h
      | c s n =>
        simp only [vres] at h ⊢
        split at h
        · split at h
          · exact ldc_mono h hH
          · exact h.elim
        · exact h.elim
    exact up h (fun y hy => ih hy (fun ys h2 => hG _ h2))

theorem fn_of0 {P : Program} {f : FuncId} {mc : MCode} {rvs : List RV} {N : Nat} {args : List AV} {r : AV} (h : compiled P f = some (mc, rvs, N)) (hn : args.length ≤ N)
    (hv : vcg P mc (Ends0 r rvs) (argT 0 args) [] 0) : CallsA P f args r [] := by
  refine fn_of h hn (vcg_mono mc _ _ _ _ _ (fun e t m n hh => ?_) hv)
  have go : vress t m rvs (fun xs => Wk (frz [] m (one xs)) r) → Told r [] rvs t m := fun h2 =>
    vress_mono h2 (fun xs hx => ⟨[], hx, rfl, List.nodup_nil, fun i k o hi => by simp at hi⟩)
  cases e with
  | norm => exact go hh
  | ret => exact go hh
  | ex id => exact hh.elim

/-- a loop that makes nothing -/
theorem loop0 {P : Program} {b : MCode} {D : List Nat} {Q : WP} {t : Tmps} {m : Mem} {n : Nat} (ι : Type) (ss : List Nat) (vs : ι → List AV) (inv : ι → Prop) (μ : ι → Nat)
    (hD : (ss.all fun i => D.contains i) = true) (x0 : ι) (h0 : inv x0) (hb : Back n ss (vs x0) [] m [] t m)
    (body : ∀ x, inv x → vcg P b (fun e t' m' n' => match e with
      | .norm => ∃ x', inv x' ∧ μ x' < μ x ∧ Back n ss (vs x') [] m [] t' m'
      | e => Q e t' m' n') (zipT ss (vs x) ++ (deads D ++ t)) m n) : LoopVC (vcg P b) D Q t m n := by
  refine ⟨ι, ss, vs, fun _ => [], 0, inv, μ, hD, ⟨x0, [], rfl, h0, hb⟩, fun x hx => vcg_mono b _ _ _ _ _ (fun e t m n h => ?_) (body x hx)⟩
  cases e with
  | norm => exact match h with | ⟨x', h1, h2, h3⟩ => ⟨x', [], [], rfl, h1, h2, h3.f⟩
  | _ => exact h

end Go.Av
