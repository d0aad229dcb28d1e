/- What the own objects are behind a new one, a change of one, one that is given up. -/
import Derived.Test.YtblakcgmngdhmaaAvB
set_option linter.unusedSimpArgs false
namespace Go.Av

variable {w w' : World} {S S' : Nat → Prop} {κ κ' : Nat → Option Loc} {m : Mem} {n N : Nat} {F F' : Nat → Prop} {t : Tmps} {a : Act} {X : Ctx}

theorem lookM_cons_eq (k : Nat) (o : Option MObj) (m : Mem) : lookM ((k, o) :: m) k = o := by simp [lookM]
theorem lookM_cons_ne {k k' : Nat} (o : Option MObj) (m : Mem) (h : k ≠ k') : lookM ((k, o) :: m) k' = lookM m k' := by
  simp [lookM, h]
theorem look_cons_eq (k : Nat) (o : AV) (m : Tmps) : look ((k, o) :: m) k = o := by simp [look]
theorem look_cons_ne {k k' : Nat} (o : AV) (m : Tmps) (h : k ≠ k') : look ((k, o) :: m) k' = look m k' := by
  simp [look, h]

theorem ObjR.mono {k : Nat} {o : MObj} (h : ObjR w S κ k o) (hw : ∀ b, S b → w'.heap[b]? = w.heap[b]?) (hS : ∀ b, S b → S' b)
    (hκ : ∀ k l, κ k = some l → κ' k = some l) (hb : ∀ l b, κ k = some l → l.has b → w'.heap[b]? = w.heap[b]?) : ObjR w' S' κ' k o := by
  cases o with
  | box cs =>
    obtain ⟨l, hk, hn, vs, T, h1, h2, h3⟩ := h
    refine ⟨l, hκ _ _ hk, hn, vs, T, ?_, h2, fun j y hj => ?_⟩
    · rw [hb l _ hk (.inl ⟨hn, rfl⟩)]; exact h1
    · obtain ⟨c, hc, hr⟩ := h3 j y hj
      exact ⟨c, hc, hr.mono hw hS hκ⟩
  | arr sz xs =>
    obtain ⟨l, hk, h⟩ := h
    refine ⟨l, hκ _ _ hk, ?_⟩
    rcases h with h | ⟨hn, h1, h2, h2', vs, T, h3, h4, h5, h6⟩
    · exact .inl h
    · refine .inr ⟨hn, h1, h2, h2', vs, T, (hb l _ hk (.inl ⟨hn, rfl⟩)).trans h3, h4, h5, fun i x j y hx hy => ?_⟩
      obtain ⟨c, hc, hr⟩ := h6 i x j y hx hy
      exact ⟨c, hc, hr.mono hw hS⟩
  | mat sz rows =>
    obtain ⟨l, hk, hn, h1, h2, h3, h4, h5, vs, T, h6, h7, h8⟩ := h
    refine ⟨l, hκ _ _ hk, hn, h1, h2, h3, h4, h5, vs, T, (hb l _ hk (.inl ⟨hn, rfl⟩)).trans h6, h7, fun i r hr => ?_⟩
    obtain ⟨c, hc, hR⟩ := h8 i r hr
    exact ⟨c, hc, hR.mono hw hS (fun b hb' => hb l b hk (.inr ⟨i, hb'⟩))⟩
  | lent sz rows i0 q =>
    obtain ⟨l, hk, hn, h1, h2, h3, h4, h5, vs, T, h6, h7, h8, h9, c0, h10, h11⟩ := h
    refine ⟨l, hκ _ _ hk, hn, h1, h2, h3, h4, h5, vs, T, (hb l _ hk (.inl ⟨hn, rfl⟩)).trans h6, h7, fun i r hr => ?_, h9, c0, h10, h11.core (fun k l hk => ⟨l, hκ _ _ hk, Loc.same_refl l⟩)⟩
    obtain ⟨c, hc, hR⟩ := h8 i r hr
    exact ⟨c, hc, hR.mono hw hS (fun b hb' => hb l b hk (.inr ⟨i, hb'⟩))⟩
  | map es =>
    obtain ⟨l, hk, hn, ents, clock, h1, h2, h3, h4, h5⟩ := h
    refine ⟨l, hκ _ _ hk, hn, ents, clock, ?_, h2, h3, h4, fun i p e hp he => ?_⟩
    · rw [hb l _ hk (.inl ⟨hn, rfl⟩)]; exact h1
    · exact ⟨(h5 i p e hp he).1, (h5 i p e hp he).2.mono hw hS⟩
  | iter rest cur =>
    obtain ⟨l, hk, hn, h0, h1⟩ := h
    exact ⟨l, hκ _ _ hk, hn, h0, h1.mono hw hS (hb l _ hk (.inl ⟨hn, rfl⟩))⟩

theorem R.monoC {x : AV} {v : Value} (h : R w S κ x v) (hw : ∀ b, S b → w'.heap[b]? = w.heap[b]?) (hS : ∀ b, S b → S' b)
    (hκ : ∀ k l, κ k = some l → ∃ l', κ' k = some l' ∧ l'.same l) : R w' S' κ' x v := (h.mono hw hS (fun _ _ h => h)).core hκ

theorem ObjR.monoC {k : Nat} {o : MObj} (h : ObjR w S κ k o) (hw : ∀ b, S b → w'.heap[b]? = w.heap[b]?) (hS : ∀ b, S b → S' b)
    (hκ : ∀ k l, κ k = some l → ∃ l', κ' k = some l' ∧ l'.same l) (hκk : ∀ l, κ k = some l → κ' k = some l)
    (hb : ∀ l b, κ k = some l → l.has b → w'.heap[b]? = w.heap[b]?) : ObjR w' S' κ' k o := by
  have h' := h.mono hw hS (fun _ _ h => h) hb
  cases o with
  | box cs =>
    obtain ⟨l, hk, hn, vs, T, h1, h2, h3⟩ := h'
    refine ⟨l, hκk _ hk, hn, vs, T, h1, h2, fun j y hj => ?_⟩
    obtain ⟨c, hc, hr⟩ := h3 j y hj
    exact ⟨c, hc, hr.core hκ⟩
  | lent sz rows i0 q =>
    obtain ⟨l, hk, hn, h1, h2, h3, h4, h5, vs, T, h6, h7, h8, h9, c0, h10, h11⟩ := h'
    exact ⟨l, hκk _ hk, hn, h1, h2, h3, h4, h5, vs, T, h6, h7, h8, h9, c0, h10, h11.core hκ⟩
  | _ => obtain ⟨l, hk, h1⟩ := h'; exact ⟨l, hκk _ hk, h1⟩

/-- a key that has an object has a place -/
theorem ObjR.has {k : Nat} {o : MObj} (h : ObjR w S κ k o) : ∃ l, κ k = some l := by
  cases o <;> (obtain ⟨l, hk, _⟩ := h; exact ⟨l, hk⟩)

def upd (κ : Nat → Option Loc) (n : Nat) (l : Loc) : Nat → Option Loc := fun k => if k = n then some l else κ k

theorem upd_ext (h : κ n = none) (l : Loc) : ∀ k l', κ k = some l' → upd κ n l k = some l' := by
  intro k l' hk
  unfold upd
  split
  · subst_vars; rw [h] at hk; cases hk
  · exact hk

/-- a new object, in a block of its own (or in none) -/
theorem Ent.new (e : Ent w S κ m F) (hF : F n) {o : MObj} {l : Loc} (hs : w.heap.size ≤ w'.heap.size) (hw : ∀ b, b < w.heap.size → w'.heap[b]? = w.heap[b]?)
    (ho : ObjR w' S (upd κ n l) n o) (hl : ∀ b, l.has b → w.heap.size ≤ b ∧ b < w'.heap.size) :
    Ent w' S (upd κ n l) ((n, some o) :: m) (fun k => F k ∧ k ≠ n) := by
  have hn := e.fresh n hF
  have hext := upd_ext hn.2 l
  have hne : ∀ k o', lookM m k = some o' → n ≠ k := fun k o' h hk => by subst hk; rw [hn.1] at h; cases h
  have hold : ∀ k l', k ≠ n → upd κ n l k = some l' → κ k = some l' := fun k l' hk h => by simpa [upd, hk] using h
  have hnew : ∀ l', upd κ n l n = some l' → l' = l := fun l' h => by simpa [upd, eq_comm] using h
  refine ⟨fun k o' h => ?_, fun k k' o1 o2 l1 l2 b h1 h2 hk1 hk2 hn1 hn2 => ?_, fun k o' l' b h hk hn' => ?_, fun k hk => ?_, e.sb.mono (fun b hb => hw b (e.sb.lt b hb)) (fun _ h => h) (fun b hb => Nat.lt_of_lt_of_le (e.sb.lt b hb) hs)⟩
  · by_cases hk : k = n
    · subst hk; rw [lookM_cons_eq] at h; cases h; exact ho
    · rw [lookM_cons_ne _ _ (Ne.symm hk)] at h
      exact (e.mm k o' h).mono (fun b hb => hw b (e.sb.lt b hb)) (fun _ h => h) hext (fun l' b hl' hn' => hw _ (e.own k o' l' b h hl' hn').2)
  · by_cases c1 : k = n <;> by_cases c2 : k' = n
    · rw [c1, c2]
    · subst c1
      rw [lookM_cons_ne _ _ (Ne.symm c2)] at h2
      have e1 := hnew _ hk1
      subst e1
      have := (e.own k' o2 l2 b h2 (hold _ _ c2 hk2) hn2).2
      have := (hl b hn1).1
      omega
    · subst c2
      rw [lookM_cons_ne _ _ (Ne.symm c1)] at h1
      have e1 := hnew _ hk2
      subst e1
      have := (e.own k o1 l1 b h1 (hold _ _ c1 hk1) hn1).2
      have := (hl b hn2).1
      omega
    · rw [lookM_cons_ne _ _ (Ne.symm c1)] at h1
      rw [lookM_cons_ne _ _ (Ne.symm c2)] at h2
      exact e.inj k k' o1 o2 l1 l2 b h1 h2 (hold _ _ c1 hk1) (hold _ _ c2 hk2) hn1 hn2
  · by_cases c1 : k = n
    · subst c1
      have e1 := hnew _ hk
      subst e1
      refine ⟨fun hS => ?_, (hl b hn').2⟩
      have := e.sb.lt _ hS
      have := (hl b hn').1
      omega
    · rw [lookM_cons_ne _ _ (Ne.symm c1)] at h
      have := e.own k o' l' b h (hold _ _ c1 hk) hn'
      exact ⟨this.1, Nat.lt_of_lt_of_le this.2 hs⟩
  · have := e.fresh k hk.1
    rw [lookM_cons_ne _ _ (Ne.symm hk.2)]
    exact ⟨this.1, by simp [upd, hk.2, this.2]⟩

/-- an object that has turned -/
theorem Ent.set (e : Ent w S κ m F) {k : Nat} {o o' : MObj} {l : Loc} (hk : lookM m k = some o) (hl : κ k = some l) (hn : l.isNil = false)
    (hs : w'.heap.size = w.heap.size) (hw : ∀ b, b ≠ l.b → w'.heap[b]? = w.heap[b]?) (ho : ObjR w' S κ k o') :
    Ent w' S κ ((k, some o') :: m) F := by
  have hSl := (e.own1 k o l hk hl hn).1
  have hSw : ∀ b, S b → w'.heap[b]? = w.heap[b]? := fun b hb => hw b (fun h => hSl (h ▸ hb))
  have hlive : ∀ k' o1, lookM ((k, some o') :: m) k' = some o1 → ∃ o2, lookM m k' = some o2 := fun k' o1 h => by
    by_cases c : k' = k
    · subst c; exact ⟨o, hk⟩
    · rw [lookM_cons_ne _ _ (Ne.symm c)] at h; exact ⟨o1, h⟩
  refine ⟨fun k' o1 h => ?_, fun k1 k2 o1 o2 l1 l2 b h1 h2 hk1 hk2 hn1 hn2 => ?_, fun k' o1 l' b h hk' hn' => ?_, fun k' hk' => ?_, e.sb.mono hSw (fun _ h => h) (fun b hb => hs ▸ e.sb.lt b hb)⟩
  · by_cases c : k' = k
    · subst c; rw [lookM_cons_eq] at h; cases h; exact ho
    · rw [lookM_cons_ne _ _ (Ne.symm c)] at h
      refine (e.mm k' o1 h).mono hSw (fun _ h => h) (fun _ _ h => h) (fun l' b hl' hn' => hw _ (fun hb => c ?_))
      exact e.inj k' k o1 o l' l b h hk hl' hl hn' (.inl ⟨hn, hb.symm⟩)
  · obtain ⟨o1', h1'⟩ := hlive _ _ h1
    obtain ⟨o2', h2'⟩ := hlive _ _ h2
    exact e.inj k1 k2 o1' o2' l1 l2 b h1' h2' hk1 hk2 hn1 hn2
  · obtain ⟨o1', h1'⟩ := hlive _ _ h
    have := e.own k' o1' l' b h1' hk' hn'
    exact ⟨this.1, hs ▸ this.2⟩
  · have := e.fresh k' hk'
    have c : k ≠ k' := fun c => by subst c; rw [this.1] at hk; cases hk
    rw [lookM_cons_ne _ _ c]
    exact this

/-- an object that is given up -/
theorem Ent.kill (e : Ent w S κ m F) (k : Nat) : Ent w S κ ((k, none) :: m) F := by
  have hlive : ∀ k' o1, lookM ((k, none) :: m) k' = some o1 → lookM m k' = some o1 := fun k' o1 h => by
    by_cases c : k' = k
    · subst c; rw [lookM_cons_eq] at h; cases h
    · rwa [lookM_cons_ne _ _ (Ne.symm c)] at h
  refine ⟨fun k' o1 h => e.mm _ _ (hlive _ _ h), fun k1 k2 o1 o2 l1 l2 b h1 h2 => e.inj k1 k2 o1 o2 l1 l2 b (hlive _ _ h1) (hlive _ _ h2),
    fun k' o1 l' b h => e.own k' o1 l' b (hlive _ _ h), fun k' hk' => ?_, e.sb⟩
  by_cases c : k' = k
  · subst c; exact ⟨lookM_cons_eq _ _ _, (e.fresh _ hk').2⟩
  · rw [lookM_cons_ne _ _ (Ne.symm c)]; exact e.fresh _ hk'

/-- the same heap -/
theorem Ent.heap (e : Ent w S κ m F) (hh : w'.heap = w.heap) : Ent w' S κ m F := by
  refine ⟨fun k o h => (e.mm k o h).mono (fun b _ => by rw [hh]) (fun _ h => h) (fun _ _ h => h) (fun l b _ _ => by rw [hh]), e.inj, fun k o l b h1 h2 h3 => ?_, e.fresh, e.sb.mono (fun b _ => by rw [hh]) (fun _ h => h) (fun b hb => by rw [hh]; exact e.sb.lt b hb)⟩
  rw [hh]; exact e.own k o l b h1 h2 h3

def putT (d : Option Nat) (x : AV) (t : Tmps) : Tmps :=
  match d with
  | some d => (d, x) :: t
  | none => t

theorem tm_put {d : Option Nat} {x : AV} {v : Value} (h : ∀ i, R w S κ (look t i) (a.tmps.getD i undef)) (hr : R w S κ x v)
    (hd : ∀ i, d = some i → i < a.tmps.size) : ∀ i, R w S κ (look (putT d x t) i) ((a.put d v).tmps.getD i undef) := by
  intro i
  cases d with
  | none => exact h i
  | some d =>
    have hd := hd d rfl
    by_cases c : d = i
    · subst c
      simp only [putT, look_cons_eq, Act.put]
      rw [Array.getD_eq_getD_getElem?]
      simpa [hd] using hr
    · simp only [putT, look_cons_ne _ _ c, Act.put]
      have : (a.tmps.setIfInBounds d v).getD i undef = a.tmps.getD i undef := by
        rw [Array.getD_eq_getD_getElem?, Array.getD_eq_getD_getElem?, Array.getElem?_setIfInBounds_ne c]
      rw [this]; exact h i

theorem put_size (d : Option Nat) (v : Value) : (a.put d v).tmps.size = a.tmps.size := by cases d <;> simp [Act.put]
theorem put_defers (d : Option Nat) (v : Value) : (a.put d v).defers = a.defers := by cases d <;> simp [Act.put]

/-- nothing turned but a temporary -/
theorem Rel.put (r : Rel X N w S κ t m F a) {d : Option Nat} {x : AV} {v : Value} (hr : R w S κ x v) (hd : ∀ i, d = some i → i < N) :
    Rel X N w S κ (putT d x t) m F (a.put d v) :=
  ⟨by rw [put_size, r.size], by rw [put_defers, r.defers], tm_put r.tm hr (fun i h => r.size ▸ hd i h), r.ent, r.since⟩

/-- a new object -/
theorem Rel.new (r : Rel X N w S κ t m F a) (hF : F n) {d : Option Nat} {x : AV} {v : Value} {o : MObj} {l : Loc} (hs : w.heap.size ≤ w'.heap.size)
    (hw : ∀ b, b < w.heap.size → w'.heap[b]? = w.heap[b]?) (ho : ObjR w' S (upd κ n l) n o) (hl : ∀ b, l.has b → w.heap.size ≤ b ∧ b < w'.heap.size)
    (hr : R w' S (upd κ n l) x v) (hd : ∀ i, d = some i → i < N) (h1 : w'.os = w.os) (h2 : w'.tape = w.tape) (h3 : w'.output = w.output) :
    Rel X N w' S (upd κ n l) (putT d x t) ((n, some o) :: m) (fun k => F k ∧ k ≠ n) (a.put d v) := by
  have hn := r.ent.fresh n hF
  refine ⟨by rw [put_size, r.size], by rw [put_defers, r.defers], tm_put (fun i => ?_) hr (fun i h => r.size ▸ hd i h), r.ent.new hF hs hw ho hl, ?_⟩
  · exact (r.tm i).mono (fun b hb => hw b (r.ent.sb.lt b hb)) (fun _ h => h) (upd_ext hn.2 l)
  · refine ⟨fun k o' l' b h hk hn' => ?_, r.since.s0, h1.trans r.since.os, h2.trans r.since.tape, h3.trans r.since.output, Nat.le_trans r.since.ge hs, fun b hb hL => ?_, fun k l' hk => by
      obtain ⟨l2, g1, g2⟩ := r.since.kp k l' hk
      exact ⟨l2, upd_ext hn.2 l k l2 g1, g2⟩⟩
    · by_cases c : k = n
      · subst c
        have : l' = l := by simpa [upd, eq_comm] using hk
        subst this
        exact .inl (Nat.le_trans r.since.ge (hl b hn').1)
      · rw [lookM_cons_ne _ _ (Ne.symm c)] at h
        exact r.since.own k o' l' b h (by simpa [upd, c] using hk) hn'
    · rw [hw b (Nat.lt_of_lt_of_le hb r.since.ge)]; exact r.since.keep b hb hL

/-- an object that has turned -/
theorem Rel.set (r : Rel X N w S κ t m F a) {d : Option Nat} {x : AV} {v : Value} {k : Nat} {o o' : MObj} {l : Loc} (hk : lookM m k = some o) (hl : κ k = some l)
    (hn : l.isNil = false) (hs : w'.heap.size = w.heap.size) (hw : ∀ b, b ≠ l.b → w'.heap[b]? = w.heap[b]?) (ho : ObjR w' S κ k o')
    (hr : R w' S κ x v) (hd : ∀ i, d = some i → i < N) (h1 : w'.os = w.os) (h2 : w'.tape = w.tape) (h3 : w'.output = w.output) :
    Rel X N w' S κ (putT d x t) ((k, some o') :: m) F (a.put d v) := by
  have hSl := (r.ent.own1 k o l hk hl hn).1
  refine ⟨by rw [put_size, r.size], by rw [put_defers, r.defers], tm_put (fun i => ?_) hr (fun i h => r.size ▸ hd i h), r.ent.set hk hl hn hs hw ho, ?_⟩
  · exact (r.tm i).mono (fun b hb => hw b (fun h => hSl (h ▸ hb))) (fun _ h => h) (fun _ _ h => h)
  · have hown := r.since.own k o l l.b hk hl (.inl ⟨hn, rfl⟩)
    refine ⟨fun k' o1 l' b h hk' hn' => ?_, r.since.s0, h1.trans r.since.os, h2.trans r.since.tape, h3.trans r.since.output, hs ▸ r.since.ge, fun b hb hL => ?_, r.since.kp⟩
    · by_cases c : k' = k
      · subst c; exact r.since.own k' o l' b hk hk' hn'
      · rw [lookM_cons_ne _ _ (Ne.symm c)] at h
        exact r.since.own k' o1 l' b h hk' hn'
    · rw [hw b (fun h => ?_)]
      · exact r.since.keep b hb hL
      · subst h
        rcases hown with h | h
        · omega
        · exact hL h

/-- a block that nobody has -/
def Free (X : Ctx) (w : World) (S : Nat → Prop) (κ : Nat → Option Loc) (m : Mem) (b : Nat) : Prop :=
  (∀ q oq lq, lookM m q = some oq → κ q = some lq → ¬ lq.has b) ∧ ¬ S b ∧ b < w.heap.size ∧ (X.w0.heap.size ≤ b ∨ X.L b)

/-- an object that has turned, and its rows with it -/
theorem Rel.reset (r : Rel X N w S κ t m F a) {d : Option Nat} {x : AV} {v : Value} {k : Nat} {o o' : MObj} {l l' : Loc} (hk : lookM m k = some o) (hl : κ k = some l) (hsame : l'.same l)
    (hn : l.isNil = false) (hs : w'.heap.size = w.heap.size) (hw : ∀ b, b ≠ l.b → w'.heap[b]? = w.heap[b]?) (hfree : ∀ b, l'.has b → l.has b ∨ Free X w S κ m b)
    (ho : ObjR w' S (upd κ k l') k o') (hr : R w' S (upd κ k l') x v) (hd : ∀ i, d = some i → i < N) (h1 : w'.os = w.os) (h2 : w'.tape = w.tape) (h3 : w'.output = w.output) :
    Rel X N w' S (upd κ k l') (putT d x t) ((k, some o') :: m) F (a.put d v) := by
  have e := r.ent
  have hSl := (e.own1 k o l hk hl hn).1
  have hSw : ∀ b, S b → w'.heap[b]? = w.heap[b]? := fun b hb => hw b (fun h => hSl (h ▸ hb))
  have hext : ∀ q lq, κ q = some lq → ∃ l2, upd κ k l' q = some l2 ∧ l2.same lq := fun q lq hq => by
    by_cases c : q = k
    · subst c; rw [hl] at hq; cases hq; exact ⟨l', by simp [upd], hsame⟩
    · exact ⟨lq, by simp [upd, c, hq], Loc.same_refl lq⟩
  have hold : ∀ q lq, q ≠ k → upd κ k l' q = some lq → κ q = some lq := fun q lq c h => by simpa [upd, c] using h
  have hnew : ∀ lq, upd κ k l' k = some lq → lq = l' := fun lq h => by simpa [upd, eq_comm] using h
  have hlive : ∀ q o1, q ≠ k → lookM ((k, some o') :: m) q = some o1 → lookM m q = some o1 := fun q o1 c h => by
    rwa [lookM_cons_ne _ _ (Ne.symm c)] at h
  have apart : ∀ q oq lq b, q ≠ k → lookM m q = some oq → κ q = some lq → lq.has b → l'.has b → False := fun q oq lq b c g1 g2 g3 g4 => by
    rcases hfree b g4 with h | h
    · exact c (e.inj q k oq o lq l b g1 hk g2 hl g3 h)
    · exact h.1 q oq lq g1 g2 g3
  refine ⟨by rw [put_size, r.size], by rw [put_defers, r.defers], tm_put (fun i => (r.tm i).monoC hSw (fun _ h => h) hext) hr (fun i h => r.size ▸ hd i h), ⟨?_, ?_, ?_, ?_, e.sb.mono hSw (fun _ h => h) (fun b hb => hs ▸ e.sb.lt b hb)⟩, ?_⟩
  · intro q o1 h
    by_cases c : q = k
    · subst c; rw [lookM_cons_eq] at h; cases h; exact ho
    · have g := hlive q o1 c h
      refine (e.mm q o1 g).monoC hSw (fun _ h => h) hext (fun lq hq => by simp [upd, c, hq]) (fun lq b hq hb => hw b (fun hh => c ?_))
      exact e.inj q k o1 o lq l b g hk hq hl hb (.inl ⟨hn, hh.symm⟩)
  · intro q1 q2 o1 o2 l1 l2 b g1 g2 k1 k2 b1 b2
    by_cases c1 : q1 = k <;> by_cases c2 : q2 = k
    · rw [c1, c2]
    · subst c1; have := hnew _ k1; subst this
      exact (apart q2 o2 l2 b c2 (hlive _ _ c2 g2) (hold _ _ c2 k2) b2 b1).elim
    · subst c2; have := hnew _ k2; subst this
      exact (apart q1 o1 l1 b c1 (hlive _ _ c1 g1) (hold _ _ c1 k1) b1 b2).elim
    · exact e.inj q1 q2 o1 o2 l1 l2 b (hlive _ _ c1 g1) (hlive _ _ c2 g2) (hold _ _ c1 k1) (hold _ _ c2 k2) b1 b2
  · intro q o1 l1 b g1 k1 b1
    by_cases c : q = k
    · subst c; have := hnew _ k1; subst this
      rcases hfree b b1 with h | h
      · have := e.own q o l b hk hl h; exact ⟨this.1, hs ▸ this.2⟩
      · exact ⟨h.2.1, hs ▸ h.2.2.1⟩
    · have := e.own q o1 l1 b (hlive _ _ c g1) (hold _ _ c k1) b1
      exact ⟨this.1, hs ▸ this.2⟩
  · intro q hq
    have := e.fresh q hq
    have c : k ≠ q := fun c => by subst c; rw [this.1] at hk; cases hk
    rw [lookM_cons_ne _ _ c]
    exact ⟨this.1, by simp [upd, Ne.symm c, this.2]⟩
  · have hown := r.since.own k o l l.b hk hl (.inl ⟨hn, rfl⟩)
    refine ⟨fun q o1 l1 b g1 k1 b1 => ?_, r.since.s0, h1.trans r.since.os, h2.trans r.since.tape, h3.trans r.since.output, hs ▸ r.since.ge, fun b hb hL => ?_, fun q lq hq => ?_⟩
    · by_cases c : q = k
      · subst c; have := hnew _ k1; subst this
        rcases hfree b b1 with h | h
        · exact r.since.own q o l b hk hl h
        · exact h.2.2.2
      · exact r.since.own q o1 l1 b (hlive _ _ c g1) (hold _ _ c k1) b1
    · rw [hw b (fun h => ?_)]
      · exact r.since.keep b hb hL
      · subst h
        rcases hown with h | h
        · omega
        · exact hL h
    · obtain ⟨l2, g1, g2⟩ := r.since.kp q lq hq
      obtain ⟨l3, g3, g4⟩ := hext q l2 g1
      exact ⟨l3, g3, g4.trans g2⟩

/-- a block that nobody has gets a key -/
theorem Rel.give (r : Rel X N w S κ t m F a) (hF : F n) {d : Option Nat} {x : AV} {v : Value} {o : MObj} {l : Loc} (hfree : ∀ b, l.has b → Free X w S κ m b)
    (ho : ObjR w S (upd κ n l) n o) (hr : R w S (upd κ n l) x v) (hd : ∀ i, d = some i → i < N) :
    Rel X N w S (upd κ n l) (putT d x t) ((n, some o) :: m) (fun k => F k ∧ k ≠ n) (a.put d v) := by
  have e := r.ent
  have hn := e.fresh n hF
  have hext := upd_ext hn.2 l
  have hne : ∀ k o', lookM m k = some o' → n ≠ k := fun k o' h hk => by subst hk; rw [hn.1] at h; cases h
  have hold : ∀ k l', k ≠ n → upd κ n l k = some l' → κ k = some l' := fun k l' hk h => by simpa [upd, hk] using h
  have hnew : ∀ l', upd κ n l n = some l' → l' = l := fun l' h => by simpa [upd, eq_comm] using h
  have hlive : ∀ q o1, q ≠ n → lookM ((n, some o) :: m) q = some o1 → lookM m q = some o1 := fun q o1 c h => by
    rwa [lookM_cons_ne _ _ (Ne.symm c)] at h
  refine ⟨by rw [put_size, r.size], by rw [put_defers, r.defers], tm_put (fun i => (r.tm i).mono (fun _ _ => rfl) (fun _ h => h) hext) hr (fun i h => r.size ▸ hd i h), ⟨?_, ?_, ?_, ?_, e.sb⟩, ?_⟩
  · intro q o1 h
    by_cases c : q = n
    · subst c; rw [lookM_cons_eq] at h; cases h; exact ho
    · exact (e.mm q o1 (hlive q o1 c h)).mono (fun _ _ => rfl) (fun _ h => h) hext (fun _ _ _ _ => rfl)
  · intro q1 q2 o1 o2 l1 l2 b g1 g2 k1 k2 b1 b2
    by_cases c1 : q1 = n <;> by_cases c2 : q2 = n
    · rw [c1, c2]
    · subst c1; have := hnew _ k1; subst this
      exact ((hfree b b1).1 q2 o2 l2 (hlive _ _ c2 g2) (hold _ _ c2 k2) b2).elim
    · subst c2; have := hnew _ k2; subst this
      exact ((hfree b b2).1 q1 o1 l1 (hlive _ _ c1 g1) (hold _ _ c1 k1) b1).elim
    · exact e.inj q1 q2 o1 o2 l1 l2 b (hlive _ _ c1 g1) (hlive _ _ c2 g2) (hold _ _ c1 k1) (hold _ _ c2 k2) b1 b2
  · intro q o1 l1 b g1 k1 b1
    by_cases c : q = n
    · subst c; have := hnew _ k1; subst this
      exact ⟨(hfree b b1).2.1, (hfree b b1).2.2.1⟩
    · exact e.own q o1 l1 b (hlive _ _ c g1) (hold _ _ c k1) b1
  · intro q hq
    have := e.fresh q hq.1
    rw [lookM_cons_ne _ _ (Ne.symm hq.2)]
    exact ⟨this.1, by simp [upd, hq.2, this.2]⟩
  · refine ⟨fun q o1 l1 b g1 k1 b1 => ?_, r.since.s0, r.since.os, r.since.tape, r.since.output, r.since.ge, r.since.keep, fun q lq hq => ?_⟩
    · by_cases c : q = n
      · subst c; have := hnew _ k1; subst this
        exact (hfree b b1).2.2.2
      · exact r.since.own q o1 l1 b (hlive _ _ c g1) (hold _ _ c k1) b1
    · obtain ⟨l2, g1, g2⟩ := r.since.kp q lq hq
      exact ⟨l2, hext q l2 g1, g2⟩

/-- an object that is given up -/
theorem Rel.kill (r : Rel X N w S κ t m F a) (k : Nat) : Rel X N w S κ t ((k, none) :: m) F a := by
  refine ⟨r.size, r.defers, r.tm, r.ent.kill k, fun k' o1 l' b h => ?_, r.since.s0, r.since.os, r.since.tape, r.since.output, r.since.ge, r.since.keep, r.since.kp⟩
  by_cases c : k' = k
  · subst c; rw [lookM_cons_eq] at h; cases h
  · rw [lookM_cons_ne _ _ (Ne.symm c)] at h
    exact r.since.own k' o1 l' b h

/-- an object is another one as well -/
theorem Rel.swap (r : Rel X N w S κ t m F a) {k : Nat} {o o' : MObj} (hk : lookM m k = some o) (ho : ObjR w S κ k o') : Rel X N w S κ t ((k, some o') :: m) F a := by
  have hlive : ∀ q o1, lookM ((k, some o') :: m) q = some o1 → ∃ o2, lookM m q = some o2 := fun q o1 h => by
    by_cases c : q = k
    · subst c; exact ⟨o, hk⟩
    · rw [lookM_cons_ne _ _ (Ne.symm c)] at h; exact ⟨o1, h⟩
  refine ⟨r.size, r.defers, r.tm, ⟨fun q o1 h => ?_, fun q1 q2 o1 o2 l1 l2 b h1 h2 => ?_, fun q o1 l b h => ?_, fun q hq => ?_, r.ent.sb⟩,
    fun q o1 l b h => ?_, r.since.s0, r.since.os, r.since.tape, r.since.output, r.since.ge, r.since.keep, r.since.kp⟩
  · by_cases c : q = k
    · subst c; rw [lookM_cons_eq] at h; cases h; exact ho
    · rw [lookM_cons_ne _ _ (Ne.symm c)] at h; exact r.ent.mm q o1 h
  · obtain ⟨p1, h1⟩ := hlive _ _ h1
    obtain ⟨p2, h2⟩ := hlive _ _ h2
    exact r.ent.inj q1 q2 p1 p2 l1 l2 b h1 h2
  · obtain ⟨p, h⟩ := hlive _ _ h
    exact r.ent.own q p l b h
  · have := r.ent.fresh q hq
    have c : k ≠ q := fun c => by subst c; rw [this.1] at hk; cases hk
    rw [lookM_cons_ne _ _ c]
    exact this
  · obtain ⟨p, h⟩ := hlive _ _ h
    exact r.since.own q p l b h

/-- a row that was taken out is laid back -/
theorem Rel.layback (r : Rel X N w S κ t m F a) {k q sz i : Nat} {rows : List MRow} {xs : List AV} (hk : lookM m k = some (.lent sz rows i q)) (hq : lookM m q = some (.arr sz xs)) :
    ∃ κ', Rel X N w S κ' t ((k, some (.mat sz (rows.set i (.own xs)))) :: (q, none) :: m) F a := by
  have hqk : q ≠ k := fun hh => by subst hh; rw [hq] at hk; cases hk
  obtain ⟨l, hl, hn, h1, h2, h3, h4, h5, vs, T, h6, h7, h8, h9, c0, h10, lq, hlq, hc0⟩ := r.ent.mm k _ hk
  have hil : i < rows.length := (List.getElem?_eq_some_iff.1 h9).1
  have hmk : lookM ((q, none) :: m) k = some (.lent sz rows i q) := by rw [lookM_cons_ne _ _ hqk]; exact hk
  obtain ⟨lq', hlq', hob⟩ := r.ent.mm q _ hq
  have hE : lq = lq' := by rw [hlq] at hlq'; exact Option.some.inj hlq'
  subst hE
  have core : ∀ l2 : Loc, l2.same l → (∀ j, j ≠ i → l2.subs j = l.subs j) →
      (∀ b j, l2.subs i = some b → l.subs j = some b → j = i) → (∀ b, l2.subs i = some b → b ≠ l.b) → (∀ b, l2.subs i = some b → Free X w S κ ((q, none) :: m) b) →
      RowR w S sz (l2.subs i) c0 (.own xs) → Rel X N w S (upd κ k l2) t ((k, some (.mat sz (rows.set i (.own xs)))) :: (q, none) :: m) F a := by
    intro l2 q2 q3 q5 q6 q7 hrow
    have := (r.kill q).reset (d := none) (x := .dead) (v := undef) (l' := l2) (w' := w) hmk hl q2 hn rfl (fun _ _ => rfl) (fun b hb => ?_) (o' := .mat sz (rows.set i (.own xs))) ?_ (.base (.dead _)) (fun _ h => by cases h) rfl rfl rfl
    · exact this
    · rcases hb with hb | ⟨j, hj⟩
      · exact .inl (.inl ⟨q2.isNil.symm.trans hb.1, q2.b.symm.trans hb.2⟩)
      · by_cases c1 : j = i
        · subst c1; exact .inr (q7 b hj)
        · rw [q3 j c1] at hj; exact .inl (.inr ⟨j, hj⟩)
    · refine ⟨l2, by simp [upd], q2.isNil.trans hn, q2.sz.trans h1, by rw [List.length_set, q2.used]; exact h2, by rw [q2.used, q2.cap]; exact h3, fun p p' b g1 g2 => ?_, fun p b g1 => ?_, vs, T, by rw [q2.b]; exact h6, by rw [q2.base, q2.cap]; exact h7, fun p rr hp => ?_⟩
      · by_cases c1 : p = i <;> by_cases c2 : p' = i
        · rw [c1, c2]
        · subst c1; rw [q3 p' c2] at g2; exact (q5 b p' g1 g2).symm
        · subst c2; rw [q3 p c1] at g1; exact q5 b p g2 g1
        · rw [q3 p c1] at g1; rw [q3 p' c2] at g2; exact h4 p p' b g1 g2
      · rw [List.length_set, q2.b]
        by_cases c1 : p = i
        · subst c1; exact ⟨q6 b g1, hil⟩
        · rw [q3 p c1] at g1; exact h5 p b g1
      · rw [q2.base]
        rw [List.getElem?_set] at hp
        by_cases c1 : i = p
        · subst c1
          rw [if_pos rfl, if_pos hil] at hp
          simp at hp; subst hp
          exact ⟨c0, h10, hrow⟩
        · rw [if_neg c1] at hp
          rw [q3 p (Ne.symm c1)]; exact h8 p rr hp
  rcases hob with ⟨hob, rfl⟩ | ⟨hob, g1, g2, g3, vs2, T2, g4, g5, g6, g7⟩
  · rcases hc0 with ⟨_, ad, hc0⟩ | ⟨hc0, _⟩
    · obtain ⟨l0, hl0⟩ : ∃ l0 : Loc, l0 = { l with subs := fun j => if j = i then none else l.subs j } := ⟨_, rfl⟩
      refine ⟨_, core l0 (by rw [hl0]; exact ⟨rfl, rfl, rfl, rfl, rfl, rfl⟩) (fun j hj => by rw [hl0]; simp [hj]) ?_ ?_ ?_ ?_⟩
      · intro b j hb; rw [hl0] at hb; simp at hb
      · intro b hb; rw [hl0] at hb; simp at hb
      · intro b hb; rw [hl0] at hb; simp at hb
      · exact .inl ⟨rfl, by rw [hl0]; simp, ad, hc0⟩
    · rw [hob] at hc0; cases hc0
  · rcases hc0 with ⟨hc0, _⟩ | ⟨_, e1, cap, e2, e3, hc0⟩
    · rw [hob] at hc0; cases hc0
    have hbq : lq.has lq.b := .inl ⟨hob, rfl⟩
    have hne : lq.b ≠ l.b := fun hh => hqk (r.ent.inj q k _ _ lq l lq.b hq hk hlq hl hbq (.inl ⟨hn, hh.symm⟩))
    obtain ⟨l2, hl2⟩ : ∃ l2 : Loc, l2 = { l with subs := fun j => if j = i then some lq.b else l.subs j } := ⟨_, rfl⟩
    have hs2 : l2.subs i = some lq.b := by rw [hl2]; simp
    refine ⟨_, core l2 (by rw [hl2]; exact ⟨rfl, rfl, rfl, rfl, rfl, rfl⟩) (fun j hj => by rw [hl2]; simp [hj]) ?_ ?_ ?_ ?_⟩
    · intro b j hb hj
      rw [hs2] at hb; cases hb
      exact (hqk (r.ent.inj q k _ _ lq l lq.b hq hk hlq hl hbq (.inr ⟨j, hj⟩))).elim
    · intro b hb; rw [hs2] at hb; cases hb; exact hne
    · intro b hb; rw [hs2] at hb; cases hb
      refine ⟨fun p op lp c1 c2 c3 => ?_, (r.ent.own q _ lq _ hq hlq hbq).1, (r.ent.own q _ lq _ hq hlq hbq).2, r.since.own q _ lq _ hq hlq hbq⟩
      by_cases c4 : p = q
      · subst c4; rw [lookM_cons_eq] at c1; cases c1
      · rw [lookM_cons_ne _ _ (Ne.symm c4)] at c1
        exact c4 (r.ent.inj p q op _ lp lq lq.b c1 hq c2 hlq c3 hbq)
    · rw [hs2]
      refine .inr ⟨lq.b, lq.base, cap, rfl, by rw [g2]; exact hc0, by rw [g2]; exact e2, vs2, T2, g4, ?_, g6, g7⟩
      have : cap * sz ≤ lq.cap * sz := Nat.mul_le_mul_right _ e3
      omega

/-- a world with the same heap (an answer has been drawn) -/
theorem Rel.heap (r : Rel X N w S κ t m F a) (hh : w'.heap = w.heap) (h1 : w'.os = w.os) (h2 : w'.tape = w.tape) (h3 : w'.output = w.output) : Rel X N w' S κ t m F a :=
  ⟨r.size, r.defers, fun i => (r.tm i).mono (fun b _ => by rw [hh]) (fun _ h => h) (fun _ _ h => h), r.ent.heap hh,
    r.since.own, r.since.s0, h1.trans r.since.os, h2.trans r.since.tape, h3.trans r.since.output, by rw [hh]; exact r.since.ge, fun b hb hL => by rw [hh]; exact r.since.keep b hb hL, r.since.kp⟩

/-- fewer free keys -/
theorem Ent.free (e : Ent w S κ m F) (h : ∀ k, F' k → F k) : Ent w S κ m F' := ⟨e.mm, e.inj, e.own, fun k hk => e.fresh k (h k hk), e.sb⟩
theorem Rel.free (r : Rel X N w S κ t m F a) (h : ∀ k, F' k → F k) : Rel X N w S κ t m F' a := ⟨r.size, r.defers, r.tm, r.ent.free h, r.since⟩

/-- it is by what is looked up that temporaries and objects count -/
theorem Ent.congr {m' : Mem} (e : Ent w S κ m F) (h : ∀ k, lookM m' k = lookM m k) : Ent w S κ m' F :=
  ⟨fun k o hk => e.mm k o (h k ▸ hk), fun k k' o o' l l' b h1 h2 => e.inj k k' o o' l l' b (h k ▸ h1) (h k' ▸ h2), fun k o l b h1 => e.own k o l b (h k ▸ h1),
    fun k hk => by rw [h]; exact e.fresh k hk, e.sb⟩
theorem Rel.congr {t' : Tmps} {m' : Mem} (r : Rel X N w S κ t m F a) (ht : ∀ i, look t' i = look t i) (hm : ∀ k, lookM m' k = lookM m k) : Rel X N w S κ t' m' F a :=
  ⟨r.size, r.defers, fun i => by rw [ht]; exact r.tm i, r.ent.congr hm, fun k o l b h1 => r.since.own k o l b (hm k ▸ h1), r.since.s0, r.since.os, r.since.tape, r.since.output, r.since.ge, r.since.keep, r.since.kp⟩

mutual
/-- one value stands for the other one: an empty slice, however it came to be; what is not looked at -/
def Wk : AV → AV → Prop
  | _, .dead => True
  | .agg xs, y => match y with
    | .agg ys => WkL xs ys
    | _ => False
  | .tup xs, y => match y with
    | .tup ys => WkL xs ys
    | _ => False
  | .fn f xs, y => match y with
    | .fn g ys => f = g ∧ WkL xs ys
    | _ => False
  | .rp xs, y => match y with
    | .rp ys => WkL xs ys
    | _ => False
  | .v x, y => y = .v x ∨ (x = .slice none 0 0 ∧ ∃ s, y = .ro s [])
  | x, y => x = y
def WkL : List AV → List AV → Prop
  | [], ys => ys = []
  | x :: xs, ys => match ys with
    | [] => False
    | y :: ys => Wk x y ∧ WkL xs ys
end

theorem Wk_both : (∀ x, Wk x x) ∧ ∀ xs, WkL xs xs := by
  have h1 : ∀ x, Wk x x := by
    intro x
    refine AV.rec (motive_1 := fun x => Wk x x) (motive_2 := fun xs => WkL xs xs) (motive_3 := fun _ => True) (motive_4 := fun _ => True)
      ?_ ?_ ?_ ?_ ?_ ?_ ?_ ?_ ?_ ?_ ?_ ?_ ?_ ?_ ?_ ?_ ?_ x
    all_goals (intros; first | trivial | simp_all [Wk, WkL])
  refine ⟨h1, fun xs => ?_⟩
  induction xs with
  | nil => simp [WkL]
  | cons x xs ih => simp [WkL, h1 x, ih]

theorem Wk_refl (x : AV) : Wk x x = True := eq_true (Wk_both.1 x)
theorem WkL_refl (x : List AV) : WkL x x = True := eq_true (Wk_both.2 x)
theorem Wk_dead (x : AV) : Wk x .dead = True := by cases x <;> simp [Wk]
theorem Wk_nil (s : Nat) (ys : List AV) : Wk (.v (.slice none 0 0)) (.ro s ys) = (ys = []) := by simp [Wk]
theorem Wk_v (x y : Value) : Wk (.v x) (.v y) = (x = y) := by simp [Wk, eq_comm]
theorem Wk_agg (xs ys : List AV) : Wk (.agg xs) (.agg ys) = WkL xs ys := by simp [Wk]
theorem Wk_tup (xs ys : List AV) : Wk (.tup xs) (.tup ys) = WkL xs ys := by simp [Wk]
theorem Wk_fn (f g : FuncId) (xs ys : List AV) : Wk (.fn f xs) (.fn g ys) = (f = g ∧ WkL xs ys) := by simp [Wk]
theorem Wk_rp (xs ys : List AV) : Wk (.rp xs) (.rp ys) = WkL xs ys := by simp [Wk]
theorem Wk_ro (s s' : Nat) (xs ys : List AV) : Wk (.ro s xs) (.ro s' ys) = (s = s' ∧ xs = ys) := by simp [Wk]
theorem Wk_rm (xs ys : List (Value × AV)) : Wk (.rm xs) (.rm ys) = (xs = ys) := by simp [Wk]
theorem Wk_arr (a b c a' b' c' : Nat) : Wk (.arr a b c) (.arr a' b' c') = (a = a' ∧ b = b' ∧ c = c') := by simp [Wk]
theorem Wk_ptr (a b a' b' : Nat) : Wk (.ptr a b) (.ptr a' b') = (a = a' ∧ b = b') := by simp [Wk]
theorem Wk_mp (a a' : Nat) : Wk (.mp a) (.mp a') = (a = a') := by simp [Wk]
theorem WkL_nil (ys : List AV) : WkL [] ys = (ys = []) := by simp [WkL]
theorem WkL_cons (x y : AV) (xs ys : List AV) : WkL (x :: xs) (y :: ys) = (Wk x y ∧ WkL xs ys) := by simp [WkL]

theorem WkL_get : ∀ {xs ys : List AV}, WkL xs ys → xs.length = ys.length ∧ ∀ (i : Nat) x y, xs[i]? = some x → ys[i]? = some y → Wk x y
  | [], ys, h => by simp only [WkL] at h; subst h; simp
  | x :: xs, ys, h => by
    cases ys with
    | nil => simp [WkL] at h
    | cons y ys =>
      simp only [WkL] at h
      have := WkL_get h.2
      refine ⟨by simp [this.1], fun i x' y' h1 h2 => ?_⟩
      cases i with
      | zero => simp at h1 h2; subst h1 h2; exact h.1
      | succ i => exact this.2 i x' y' (by simpa using h1) (by simpa using h2)

theorem Wk_R0 {x : AV} {v : Value} (h : R0 w S x v) : ∀ {y : AV}, Wk x y → R0 w S y v := by
  have aux : ∀ {xs ys : List AV} {vs : Array Value}, xs.length = vs.size → (∀ (i : Nat) x y, xs[i]? = some x → vs[i]? = some y → ∀ {z : AV}, Wk x z → R0 w S z y) → WkL xs ys →
      ys.length = vs.size ∧ ∀ (i : Nat) x y, ys[i]? = some x → vs[i]? = some y → R0 w S x y := fun {xs ys vs} hl ih hw => by
    obtain ⟨h1, h2⟩ := WkL_get hw
    refine ⟨by omega, fun i z y hz hy => ?_⟩
    have hi : i < xs.length := by have := (List.getElem?_eq_some_iff.1 hz).1; omega
    exact ih i xs[i] y (by simp [hi]) hy (h2 i _ z (by simp [hi]) hz)
  have eqc : ∀ {x y : AV} {v : Value}, R0 w S x v → x = y → R0 w S y v := fun h e => e ▸ h
  induction h with
  | v x =>
    intro y hy
    cases y with
    | dead => exact .dead _
    | v z => rw [Wk_v] at hy; subst hy; exact .v _
    | ro s ys => simp only [Wk, reduceCtorEq, false_or] at hy; obtain ⟨rfl, s', hs⟩ := hy; cases hs; exact .roNil
    | _ => simp [Wk] at hy
  | dead x =>
    intro y hy
    cases y <;> simp [Wk] at hy
    exact .dead _
  | agg hl _ ih =>
    intro y hy
    cases y with
    | dead => exact .dead _
    | agg ys => rw [Wk_agg] at hy; obtain ⟨g1, g2⟩ := aux hl (fun i x y h1 h2 {z} hz => ih i x y h1 h2 hz) hy; exact .agg g1 g2
    | _ => simp [Wk] at hy
  | tup hl _ ih =>
    intro y hy
    cases y with
    | dead => exact .dead _
    | tup ys => rw [Wk_tup] at hy; obtain ⟨g1, g2⟩ := aux hl (fun i x y h1 h2 {z} hz => ih i x y h1 h2 hz) hy; exact .tup g1 g2
    | _ => simp [Wk] at hy
  | fn hl _ ih =>
    intro y hy
    cases y with
    | dead => exact .dead _
    | fn g ys => rw [Wk_fn] at hy; obtain ⟨rfl, hy⟩ := hy; obtain ⟨g1, g2⟩ := aux hl (fun i x y h1 h2 {z} hz => ih i x y h1 h2 hz) hy; exact .fn g1 g2
    | _ => simp [Wk] at hy
  | rp hb hc _ ih =>
    intro y hy
    cases y with
    | dead => exact .dead _
    | rp ys =>
      rw [Wk_rp] at hy
      obtain ⟨g1, g2⟩ := WkL_get hy
      refine .rp hb (fun j hj => hc j (by omega)) (fun j z hz => ?_)
      rename_i cs _ _ _ _
      have hj : j < cs.length := by have := (List.getElem?_eq_some_iff.1 hz).1; omega
      exact ih j cs[j] (by simp [hj]) (g2 j _ z (by simp [hj]) hz)
    | _ => simp [Wk] at hy
  | roNil =>
    intro y hy
    cases y <;> simp [Wk] at hy
    · obtain ⟨rfl, rfl⟩ := hy; exact .roNil
    · exact .dead _
  | ro hb hcap hs hc h _ =>
    intro y hy
    cases y <;> simp [Wk] at hy
    · obtain ⟨rfl, rfl⟩ := hy; exact .ro hb hcap hs hc h
    · exact .dead _
  | rm hb hw hl hk hn hi h _ =>
    intro y hy
    cases y <;> simp [Wk] at hy
    · subst hy; exact .rm hb hw hl hk hn hi h
    · exact .dead _

theorem Wk_R {x : AV} {v : Value} (h : R w S κ x v) : ∀ {y : AV}, Wk x y → R w S κ y v := by
  have aux : ∀ {xs ys : List AV} {vs : Array Value}, xs.length = vs.size → (∀ (i : Nat) x y, xs[i]? = some x → vs[i]? = some y → ∀ {z : AV}, Wk x z → R w S κ z y) → WkL xs ys →
      ys.length = vs.size ∧ ∀ (i : Nat) x y, ys[i]? = some x → vs[i]? = some y → R w S κ x y := fun {xs ys vs} hl ih hw => by
    obtain ⟨h1, h2⟩ := WkL_get hw
    refine ⟨by omega, fun i z y hz hy => ?_⟩
    have hi : i < xs.length := by have := (List.getElem?_eq_some_iff.1 hz).1; omega
    exact ih i xs[i] y (by simp [hi]) hy (h2 i _ z (by simp [hi]) hz)
  induction h with
  | base h => intro y hy; exact .base (Wk_R0 h hy)
  | agg hl _ ih =>
    intro y hy
    cases y with
    | dead => exact .base (.dead _)
    | agg ys => rw [Wk_agg] at hy; obtain ⟨g1, g2⟩ := aux hl (fun i x y h1 h2 {z} hz => ih i x y h1 h2 hz) hy; exact .agg g1 g2
    | _ => simp [Wk] at hy
  | tup hl _ ih =>
    intro y hy
    cases y with
    | dead => exact .base (.dead _)
    | tup ys => rw [Wk_tup] at hy; obtain ⟨g1, g2⟩ := aux hl (fun i x y h1 h2 {z} hz => ih i x y h1 h2 hz) hy; exact .tup g1 g2
    | _ => simp [Wk] at hy
  | fn hl _ ih =>
    intro y hy
    cases y with
    | dead => exact .base (.dead _)
    | fn g ys => rw [Wk_fn] at hy; obtain ⟨rfl, hy⟩ := hy; obtain ⟨g1, g2⟩ := aux hl (fun i x y h1 h2 {z} hz => ih i x y h1 h2 hz) hy; exact .fn g1 g2
    | _ => simp [Wk] at hy
  | ptr hk =>
    intro y hy
    cases y <;> simp [Wk] at hy
    · obtain ⟨rfl, rfl⟩ := hy; exact .ptr hk
    · exact .base (.dead _)
  | elt hk hn =>
    intro y hy
    cases y <;> simp [Wk] at hy
    · obtain ⟨rfl, rfl, rfl⟩ := hy; exact .elt hk hn
    · exact .base (.dead _)
  | arrNil hk hn =>
    intro y hy
    cases y <;> simp [Wk] at hy
    · obtain ⟨rfl, rfl, rfl⟩ := hy; exact .arrNil hk hn
    · exact .base (.dead _)
  | arr hk hn h1 h2 h3 =>
    intro y hy
    cases y <;> simp [Wk] at hy
    · obtain ⟨rfl, rfl, rfl⟩ := hy; exact .arr hk hn h1 h2 h3
    · exact .base (.dead _)
  | arr0 hk =>
    intro y hy
    cases y <;> simp [Wk] at hy
    · obtain ⟨rfl, rfl, rfl⟩ := hy; exact .arr0 hk
    · exact .base (.dead _)
  | mp hk hn =>
    intro y hy
    cases y <;> simp [Wk] at hy
    · subst hy; exact .mp hk hn
    · exact .base (.dead _)

end Go.Av
