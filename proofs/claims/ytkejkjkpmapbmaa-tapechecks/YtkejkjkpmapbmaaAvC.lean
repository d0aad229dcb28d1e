/- What the own objects are behind a new one, a change of one, one that is given up. -/
import Derived.Test.YtkejkjkpmapbmaaAvB
namespace Go.Av

variable {w w' : World} {S S' : Nat → Prop} {κ κ' : Nat → Option Loc} {m : Mem} {n N : Nat} {F F' : Nat → Prop} {t : Tmps} {a : Act} {X : Ctx}

theorem lookM_cons_eq (k : Nat) (o : Option MObj) (m : Mem) : lookM ((k, o) :: m) k = o := by simp [lookM]
theorem lookM_cons_ne {k k' : Nat} (o : Option MObj) (m : Mem) (h : k ≠ k') : lookM ((k, o) :: m) k' = lookM m k' := by
  simp [lookM, h]
theorem look_cons_eq (k : Nat) (o : AV) (m : Tmps) : look ((k, o) :: m) k = o := by simp [look]
theorem look_cons_ne {k k' : Nat} (o : AV) (m : Tmps) (h : k ≠ k') : look ((k, o) :: m) k' = look m k' := by
  simp [look, h]

theorem ObjR.mono {k : Nat} {o : MObj} (h : ObjR w S κ k o) (hw : ∀ b, S b → w'.heap[b]? = w.heap[b]?) (hS : ∀ b, S b → S' b)
    (hκ : ∀ k l, κ k = some l → κ' k = some l) (hb : ∀ l, κ k = some l → l.isNil = false → w'.heap[l.b]? = w.heap[l.b]?) : ObjR w' S' κ' k o := by
  cases o with
  | box cs =>
    obtain ⟨l, hk, hn, vs, T, h1, h2, h3⟩ := h
    refine ⟨l, hκ _ _ hk, hn, vs, T, ?_, h2, fun j y hj => ?_⟩
    · rw [hb l hk hn]; exact h1
    · obtain ⟨c, hc, hr⟩ := h3 j y hj
      exact ⟨c, hc, hr.mono hw hS hκ⟩
  | arr sz xs =>
    obtain ⟨l, hk, h⟩ := h
    refine ⟨l, hκ _ _ hk, ?_⟩
    rcases h with h | ⟨hn, h1, h2, h2', vs, T, h3, h4, h5, h6⟩
    · exact .inl h
    · refine .inr ⟨hn, h1, h2, h2', vs, T, (hb l hk hn).trans h3, h4, h5, fun i x j y hx hy => ?_⟩
      obtain ⟨c, hc, hr⟩ := h6 i x j y hx hy
      exact ⟨c, hc, hr.mono hw hS⟩
  | map es =>
    obtain ⟨l, hk, hn, ents, clock, h1, h2, h3, h4, h5⟩ := h
    refine ⟨l, hκ _ _ hk, hn, ents, clock, ?_, h2, h3, h4, fun i p e hp he => ?_⟩
    · rw [hb l hk hn]; exact h1
    · exact ⟨(h5 i p e hp he).1, (h5 i p e hp he).2.mono hw hS⟩

/-- a key that has an object has a place -/
theorem ObjR.has {k : Nat} {o : MObj} (h : ObjR w S κ k o) : ∃ l, κ k = some l := by
  cases o <;> (obtain ⟨l, hk, _⟩ := h; exact ⟨l, hk⟩)

def upd (κ : Nat → Option Loc) (n : Nat) (l : Loc) : Nat → Option Loc := fun k => if k = n then some l else κ k

theorem upd_ext (h : κ n = none) (l : Loc) : ∀ k l', κ k = some l' → upd κ n l k = some l' := by
  intro k l' hk
  unfold upd
  split
  · subst_vars; rw [h] at hk; cases hk
  · exact hk

/-- a new object, in a block of its own (or in none) -/
theorem Ent.new (e : Ent w S κ m F) (hF : F n) {o : MObj} {l : Loc} (hs : w.heap.size ≤ w'.heap.size) (hw : ∀ b, b < w.heap.size → w'.heap[b]? = w.heap[b]?)
    (ho : ObjR w' S (upd κ n l) n o) (hl : l.isNil = false → w.heap.size ≤ l.b ∧ l.b < w'.heap.size) :
    Ent w' S (upd κ n l) ((n, some o) :: m) (fun k => F k ∧ k ≠ n) := by
  have hn := e.fresh n hF
  have hext := upd_ext hn.2 l
  have hne : ∀ k o', lookM m k = some o' → n ≠ k := fun k o' h hk => by subst hk; rw [hn.1] at h; cases h
  have hold : ∀ k l', k ≠ n → upd κ n l k = some l' → κ k = some l' := fun k l' hk h => by simpa [upd, hk] using h
  have hnew : ∀ l', upd κ n l n = some l' → l' = l := fun l' h => by simpa [upd, eq_comm] using h
  refine ⟨fun k o' h => ?_, fun k k' o1 o2 l1 l2 h1 h2 hk1 hk2 hn1 hn2 hb => ?_, fun k o' l' h hk hn' => ?_, fun k hk => ?_, fun b hb => Nat.lt_of_lt_of_le (e.sb b hb) hs⟩
  · by_cases hk : k = n
    · subst hk; rw [lookM_cons_eq] at h; cases h; exact ho
    · rw [lookM_cons_ne _ _ (Ne.symm hk)] at h
      exact (e.mm k o' h).mono (fun b hb => hw b (e.sb b hb)) (fun _ h => h) hext (fun l' hl' hn' => hw _ (e.own k o' l' h hl' hn').2)
  · by_cases c1 : k = n <;> by_cases c2 : k' = n
    · rw [c1, c2]
    · subst c1
      rw [lookM_cons_ne _ _ (Ne.symm c2)] at h2
      have e1 := hnew _ hk1
      subst e1
      have := (e.own k' o2 l2 h2 (hold _ _ c2 hk2) hn2).2
      have := (hl hn1).1
      omega
    · subst c2
      rw [lookM_cons_ne _ _ (Ne.symm c1)] at h1
      have e1 := hnew _ hk2
      subst e1
      have := (e.own k o1 l1 h1 (hold _ _ c1 hk1) hn1).2
      have := (hl hn2).1
      omega
    · rw [lookM_cons_ne _ _ (Ne.symm c1)] at h1
      rw [lookM_cons_ne _ _ (Ne.symm c2)] at h2
      exact e.inj k k' o1 o2 l1 l2 h1 h2 (hold _ _ c1 hk1) (hold _ _ c2 hk2) hn1 hn2 hb
  · by_cases c1 : k = n
    · subst c1
      have e1 := hnew _ hk
      subst e1
      refine ⟨fun hS => ?_, (hl hn').2⟩
      have := e.sb _ hS
      have := (hl hn').1
      omega
    · rw [lookM_cons_ne _ _ (Ne.symm c1)] at h
      have := e.own k o' l' h (hold _ _ c1 hk) hn'
      exact ⟨this.1, Nat.lt_of_lt_of_le this.2 hs⟩
  · have := e.fresh k hk.1
    rw [lookM_cons_ne _ _ (Ne.symm hk.2)]
    exact ⟨this.1, by simp [upd, hk.2, this.2]⟩

/-- an object that has turned -/
theorem Ent.set (e : Ent w S κ m F) {k : Nat} {o o' : MObj} {l : Loc} (hk : lookM m k = some o) (hl : κ k = some l) (hn : l.isNil = false)
    (hs : w'.heap.size = w.heap.size) (hw : ∀ b, b ≠ l.b → w'.heap[b]? = w.heap[b]?) (ho : ObjR w' S κ k o') :
    Ent w' S κ ((k, some o') :: m) F := by
  have hSl := (e.own k o l hk hl hn).1
  have hSw : ∀ b, S b → w'.heap[b]? = w.heap[b]? := fun b hb => hw b (fun h => hSl (h ▸ hb))
  have hlive : ∀ k' o1, lookM ((k, some o') :: m) k' = some o1 → ∃ o2, lookM m k' = some o2 := fun k' o1 h => by
    by_cases c : k' = k
    · subst c; exact ⟨o, hk⟩
    · rw [lookM_cons_ne _ _ (Ne.symm c)] at h; exact ⟨o1, h⟩
  refine ⟨fun k' o1 h => ?_, fun k1 k2 o1 o2 l1 l2 h1 h2 hk1 hk2 hn1 hn2 hb => ?_, fun k' o1 l' h hk' hn' => ?_, fun k' hk' => ?_, fun b hb => hs ▸ e.sb b hb⟩
  · by_cases c : k' = k
    · subst c; rw [lookM_cons_eq] at h; cases h; exact ho
    · rw [lookM_cons_ne _ _ (Ne.symm c)] at h
      refine (e.mm k' o1 h).mono hSw (fun _ h => h) (fun _ _ h => h) (fun l' hl' hn' => hw _ (fun hb => c ?_))
      exact e.inj k' k o1 o l' l h hk hl' hl hn' hn hb
  · obtain ⟨o1', h1'⟩ := hlive _ _ h1
    obtain ⟨o2', h2'⟩ := hlive _ _ h2
    exact e.inj k1 k2 o1' o2' l1 l2 h1' h2' hk1 hk2 hn1 hn2 hb
  · obtain ⟨o1', h1'⟩ := hlive _ _ h
    have := e.own k' o1' l' h1' hk' hn'
    exact ⟨this.1, hs ▸ this.2⟩
  · have := e.fresh k' hk'
    have c : k ≠ k' := fun c => by subst c; rw [this.1] at hk; cases hk
    rw [lookM_cons_ne _ _ c]
    exact this

/-- an object that is given up -/
theorem Ent.kill (e : Ent w S κ m F) (k : Nat) : Ent w S κ ((k, none) :: m) F := by
  have hlive : ∀ k' o1, lookM ((k, none) :: m) k' = some o1 → lookM m k' = some o1 := fun k' o1 h => by
    by_cases c : k' = k
    · subst c; rw [lookM_cons_eq] at h; cases h
    · rwa [lookM_cons_ne _ _ (Ne.symm c)] at h
  refine ⟨fun k' o1 h => e.mm _ _ (hlive _ _ h), fun k1 k2 o1 o2 l1 l2 h1 h2 => e.inj k1 k2 o1 o2 l1 l2 (hlive _ _ h1) (hlive _ _ h2),
    fun k' o1 l' h => e.own k' o1 l' (hlive _ _ h), fun k' hk' => ?_, e.sb⟩
  by_cases c : k' = k
  · subst c; exact ⟨lookM_cons_eq _ _ _, (e.fresh _ hk').2⟩
  · rw [lookM_cons_ne _ _ (Ne.symm c)]; exact e.fresh _ hk'

/-- the same heap -/
theorem Ent.heap (e : Ent w S κ m F) (hh : w'.heap = w.heap) : Ent w' S κ m F := by
  refine ⟨fun k o h => (e.mm k o h).mono (fun b _ => by rw [hh]) (fun _ h => h) (fun _ _ h => h) (fun l _ _ => by rw [hh]), e.inj, fun k o l h1 h2 h3 => ?_, e.fresh, fun b hb => ?_⟩
  · rw [hh]; exact e.own k o l h1 h2 h3
  · rw [hh]; exact e.sb b hb

def putT (d : Option Nat) (x : AV) (t : Tmps) : Tmps :=
  match d with
  | some d => (d, x) :: t
  | none => t

theorem tm_put {d : Option Nat} {x : AV} {v : Value} (h : ∀ i, R w S κ (look t i) (a.tmps.getD i undef)) (hr : R w S κ x v)
    (hd : ∀ i, d = some i → i < a.tmps.size) : ∀ i, R w S κ (look (putT d x t) i) ((a.put d v).tmps.getD i undef) := by
  intro i
  cases d with
  | none => exact h i
  | some d =>
    have hd := hd d rfl
    by_cases c : d = i
    · subst c
      simp only [putT, look_cons_eq, Act.put]
      rw [Array.getD_eq_getD_getElem?]
      simpa [hd] using hr
    · simp only [putT, look_cons_ne _ _ c, Act.put]
      have : (a.tmps.setIfInBounds d v).getD i undef = a.tmps.getD i undef := by
        rw [Array.getD_eq_getD_getElem?, Array.getD_eq_getD_getElem?, Array.getElem?_setIfInBounds_ne c]
      rw [this]; exact h i

theorem put_size (d : Option Nat) (v : Value) : (a.put d v).tmps.size = a.tmps.size := by cases d <;> simp [Act.put]
theorem put_defers (d : Option Nat) (v : Value) : (a.put d v).defers = a.defers := by cases d <;> simp [Act.put]

/-- nothing turned but a temporary -/
theorem Rel.put (r : Rel X N w S κ t m F a) {d : Option Nat} {x : AV} {v : Value} (hr : R w S κ x v) (hd : ∀ i, d = some i → i < N) :
    Rel X N w S κ (putT d x t) m F (a.put d v) :=
  ⟨by rw [put_size, r.size], by rw [put_defers, r.defers], tm_put r.tm hr (fun i h => r.size ▸ hd i h), r.ent, r.since⟩

/-- a new object -/
theorem Rel.new (r : Rel X N w S κ t m F a) (hF : F n) {d : Option Nat} {x : AV} {v : Value} {o : MObj} {l : Loc} (hs : w.heap.size ≤ w'.heap.size)
    (hw : ∀ b, b < w.heap.size → w'.heap[b]? = w.heap[b]?) (ho : ObjR w' S (upd κ n l) n o) (hl : l.isNil = false → w.heap.size ≤ l.b ∧ l.b < w'.heap.size)
    (hr : R w' S (upd κ n l) x v) (hd : ∀ i, d = some i → i < N) (h1 : w'.os = w.os) (h2 : w'.tape = w.tape) (h3 : w'.output = w.output) :
    Rel X N w' S (upd κ n l) (putT d x t) ((n, some o) :: m) (fun k => F k ∧ k ≠ n) (a.put d v) := by
  have hn := r.ent.fresh n hF
  refine ⟨by rw [put_size, r.size], by rw [put_defers, r.defers], tm_put (fun i => ?_) hr (fun i h => r.size ▸ hd i h), r.ent.new hF hs hw ho hl, ?_⟩
  · exact (r.tm i).mono (fun b hb => hw b (r.ent.sb b hb)) (fun _ h => h) (upd_ext hn.2 l)
  · refine ⟨fun k o' l' h hk hn' => ?_, r.since.s0, h1.trans r.since.os, h2.trans r.since.tape, h3.trans r.since.output, Nat.le_trans r.since.ge hs, fun b hb hL => ?_⟩
    · by_cases c : k = n
      · subst c
        have : l' = l := by simpa [upd, eq_comm] using hk
        subst this
        exact .inl (Nat.le_trans r.since.ge (hl hn').1)
      · rw [lookM_cons_ne _ _ (Ne.symm c)] at h
        exact r.since.own k o' l' h (by simpa [upd, c] using hk) hn'
    · rw [hw b (Nat.lt_of_lt_of_le hb r.since.ge)]; exact r.since.keep b hb hL

/-- an object that has turned -/
theorem Rel.set (r : Rel X N w S κ t m F a) {d : Option Nat} {x : AV} {v : Value} {k : Nat} {o o' : MObj} {l : Loc} (hk : lookM m k = some o) (hl : κ k = some l)
    (hn : l.isNil = false) (hs : w'.heap.size = w.heap.size) (hw : ∀ b, b ≠ l.b → w'.heap[b]? = w.heap[b]?) (ho : ObjR w' S κ k o')
    (hr : R w' S κ x v) (hd : ∀ i, d = some i → i < N) (h1 : w'.os = w.os) (h2 : w'.tape = w.tape) (h3 : w'.output = w.output) :
    Rel X N w' S κ (putT d x t) ((k, some o') :: m) F (a.put d v) := by
  have hSl := (r.ent.own k o l hk hl hn).1
  refine ⟨by rw [put_size, r.size], by rw [put_defers, r.defers], tm_put (fun i => ?_) hr (fun i h => r.size ▸ hd i h), r.ent.set hk hl hn hs hw ho, ?_⟩
  · exact (r.tm i).mono (fun b hb => hw b (fun h => hSl (h ▸ hb))) (fun _ h => h) (fun _ _ h => h)
  · have hown := r.since.own k o l hk hl hn
    refine ⟨fun k' o1 l' h hk' hn' => ?_, r.since.s0, h1.trans r.since.os, h2.trans r.since.tape, h3.trans r.since.output, hs ▸ r.since.ge, fun b hb hL => ?_⟩
    · by_cases c : k' = k
      · subst c; rw [hl] at hk'; cases hk'; exact hown
      · rw [lookM_cons_ne _ _ (Ne.symm c)] at h
        exact r.since.own k' o1 l' h hk' hn'
    · rw [hw b (fun h => ?_)]
      · exact r.since.keep b hb hL
      · subst h
        rcases hown with h | h
        · omega
        · exact hL h

/-- an object that is given up -/
theorem Rel.kill (r : Rel X N w S κ t m F a) (k : Nat) : Rel X N w S κ t ((k, none) :: m) F a := by
  refine ⟨r.size, r.defers, r.tm, r.ent.kill k, fun k' o1 l' h => ?_, r.since.s0, r.since.os, r.since.tape, r.since.output, r.since.ge, r.since.keep⟩
  by_cases c : k' = k
  · subst c; rw [lookM_cons_eq] at h; cases h
  · rw [lookM_cons_ne _ _ (Ne.symm c)] at h
    exact r.since.own k' o1 l' h

/-- a world with the same heap (an answer has been drawn) -/
theorem Rel.heap (r : Rel X N w S κ t m F a) (hh : w'.heap = w.heap) (h1 : w'.os = w.os) (h2 : w'.tape = w.tape) (h3 : w'.output = w.output) : Rel X N w' S κ t m F a :=
  ⟨r.size, r.defers, fun i => (r.tm i).mono (fun b _ => by rw [hh]) (fun _ h => h) (fun _ _ h => h), r.ent.heap hh,
    r.since.own, r.since.s0, h1.trans r.since.os, h2.trans r.since.tape, h3.trans r.since.output, by rw [hh]; exact r.since.ge, fun b hb hL => by rw [hh]; exact r.since.keep b hb hL⟩

/-- fewer free keys -/
theorem Ent.free (e : Ent w S κ m F) (h : ∀ k, F' k → F k) : Ent w S κ m F' := ⟨e.mm, e.inj, e.own, fun k hk => e.fresh k (h k hk), e.sb⟩
theorem Rel.free (r : Rel X N w S κ t m F a) (h : ∀ k, F' k → F k) : Rel X N w S κ t m F' a := ⟨r.size, r.defers, r.tm, r.ent.free h, r.since⟩

/-- it is by what is looked up that temporaries and objects count -/
theorem Ent.congr {m' : Mem} (e : Ent w S κ m F) (h : ∀ k, lookM m' k = lookM m k) : Ent w S κ m' F :=
  ⟨fun k o hk => e.mm k o (h k ▸ hk), fun k k' o o' l l' h1 h2 => e.inj k k' o o' l l' (h k ▸ h1) (h k' ▸ h2), fun k o l h1 => e.own k o l (h k ▸ h1),
    fun k hk => by rw [h]; exact e.fresh k hk, e.sb⟩
theorem Rel.congr {t' : Tmps} {m' : Mem} (r : Rel X N w S κ t m F a) (ht : ∀ i, look t' i = look t i) (hm : ∀ k, lookM m' k = lookM m k) : Rel X N w S κ t' m' F a :=
  ⟨r.size, r.defers, fun i => by rw [ht]; exact r.tm i, r.ent.congr hm, fun k o l h1 => r.since.own k o l (hm k ▸ h1), r.since.s0, r.since.os, r.since.tape, r.since.output, r.since.ge, r.since.keep⟩

end Go.Av
