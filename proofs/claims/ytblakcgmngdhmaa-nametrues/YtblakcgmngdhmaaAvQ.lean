/- Regions that draw their order: every order comes to the same. -/
import Derived.Test.YtblakcgmngdhmaaAvP
namespace Go.Av
open Go.RowKit (Below)

variable {P : Program} {N : Nat} {X : Ctx} {Q : Exit → Act → World → Prop}

theorem cMIs_get {ops : Array Oper} : ∀ (l : List Oper) (is : List MI), cMIs P N ops l = some is → is.length = l.length ∧ ∀ (j : Nat) o, l[j]? = some o → ∃ i, is[j]? = some i ∧ cMI P N ops o = some i := by
  intro l
  induction l with
  | nil => intro is h; simp [cMIs] at h; subst h; simp
  | cons o l ih =>
    intro is h
    simp only [cMIs] at h
    split at h
    · rename_i i is' h1 h2
      simp at h; subst h
      have := ih is' h2
      refine ⟨by simp [this.1], fun j o' hj => ?_⟩
      cases j with
      | zero => simp at hj; subst hj; exact ⟨i, by simp, h1⟩
      | succ j => simpa using this.2 j o' (by simpa using hj)
    · cases h

/-- how many are left -/
def left (E : Nat → Bool) : Nat → Nat
  | 0 => 0
  | j + 1 => left E j + (bif E j then 0 else 1)

theorem left_zero {E : Nat → Bool} : ∀ l, left E l = 0 → ∀ i, i < l → E i = true
  | 0, _, i, hi => by omega
  | l + 1, h, i, hi => by
    simp only [left] at h
    cases hl : E l with
    | true =>
      by_cases hil : i = l
      · subst hil; exact hl
      · exact left_zero l (by omega) i (by omega)
    | false => simp [hl] at h

theorem left_same {E E' : Nat → Bool} : ∀ l, (∀ i, i < l → E i = E' i) → left E l = left E' l
  | 0, _ => rfl
  | l + 1, h => by simp only [left]; rw [left_same l (fun i hi => h i (by omega)), h l (by omega)]

def mark (E : Nat → Bool) (i : Nat) : Nat → Bool := fun j => bif Nat.beq j i then true else E j

theorem mark_self (E : Nat → Bool) (i : Nat) : mark E i i = true := by simp [mark]
theorem mark_ne (E : Nat → Bool) {i j : Nat} (h : j ≠ i) : mark E i j = E j := by
  have : Nat.beq j i = false := by cases hb : Nat.beq j i <;> simp_all
  simp [mark, this]

theorem left_set {E : Nat → Bool} {i : Nat} (hi : E i = false) : ∀ l, i < l → left (mark E i) l + 1 = left E l
  | 0, h => by omega
  | l + 1, h => by
    simp only [left]
    by_cases hil : i = l
    · subst hil
      rw [left_same (E := mark E i) (E' := E) i (fun j hj => mark_ne E (by omega)), mark_self, hi]
      simp
    · have := left_set hi l (by omega)
      rw [mark_ne E (show l ≠ i by omega)]
      omega

section
variable {ops : Array Oper} {is : List MI} {x : Nat → AV} {u : Nat → Mem} {t0 : Tmps} {m0 : Mem} {n0 : Nat}

/-- the keys that are not taken yet; the operation y, if the region has it, takes the one behind the region's too -/
def free (n0 l y : Nat) (E : Nat → Bool) (k : Nat) : Prop := n0 + l < k ∨ (k = n0 + l ∧ (y < l → E y = false)) ∨ ∃ i, i < l ∧ E i = false ∧ k = n0 + i
def taken (n0 l y : Nat) (E : Nat → Bool) (k : Nat) : Prop := k < n0 ∨ (k = n0 + l ∧ y < l ∧ E y = true) ∨ ∃ i, i < l ∧ E i = true ∧ k = n0 + i

theorem free_not {n0 l y : Nat} {E : Nat → Bool} {k : Nat} (h : ¬ free n0 l y E k) : taken n0 l y E k := by
  by_cases hk : k < n0
  · exact .inl hk
  · right
    by_cases hkl : k = n0 + l
    · left
      refine ⟨hkl, ?_⟩
      by_cases hy : y < l
      · refine ⟨hy, ?_⟩
        cases he : E y with
        | true => rfl
        | false => exact (h (.inr (.inl ⟨hkl, fun _ => he⟩))).elim
      · exact (h (.inr (.inl ⟨hkl, fun hh => (hy hh).elim⟩))).elim
    · right
      have h1 : ¬ n0 + l < k := fun hh => h (.inl hh)
      refine ⟨k - n0, by omega, ?_, by omega⟩
      cases he : E (k - n0) with
      | true => rfl
      | false => exact (h (.inr (.inr ⟨k - n0, by omega, he, by omega⟩))).elim
/-- where the new keys of an operation are -/
theorem new_key {is : List MI} {y j n0 : Nat} {i : MI} {k : Nat} (hy : ∀ (j : Nat) i k, is[j]? = some i → yk i.op = some k → j = y ∧ j + k = is.length) (hi : is[j]? = some i)
    (h : k = n0 + j ∨ ∃ q, yk i.op = some q ∧ k = n0 + j + q) : k = n0 + j ∨ (j = y ∧ k = n0 + is.length) := by
  rcases h with h | ⟨q, h1, h2⟩
  · exact .inl h
  · obtain ⟨h3, h4⟩ := hy j i q hi h1
    exact .inr ⟨h3, by omega⟩

structure DInv (P : Program) (X : Ctx) (N : Nat) (ops : Array Oper) (is : List MI) (x : Nat → AV) (u : Nat → Mem) (t0 : Tmps) (m0 : Mem) (n0 y : Nat) (E : Nat → Bool) (a : Act) (w : World) : Prop where
  rel : ∃ S κ t m, Rel X N w S κ t m (free n0 is.length y E) a ∧ (∀ s, look t s = valT is x t0 E is.length s) ∧ (∀ k, lookM m k = valM u m0 E is.length k)
  closed : ∀ j, j < is.length → E j = true → ∀ e ∈ direct ops j, E e = true
  written : ∀ j, j < is.length → E j = true → ∀ p ∈ u j, taken n0 is.length y E p.1

theorem preW_closed {E : Nat → Bool} (hlen : is.length = ops.size) (hc : ∀ j, j < is.length → E j = true → ∀ e ∈ direct ops j, E e = true) :
    ∀ f acc todo, (∀ e ∈ acc, E e = true) → (∀ e ∈ todo, E e = true) → ∀ i ∈ preW ops f acc todo, E i = true := by
  intro f
  induction f with
  | zero => intro acc todo h1 _ i hi; exact h1 i hi
  | succ f ih =>
    intro acc todo h1 h2 i hi
    cases todo with
    | nil => exact h1 i hi
    | cons j r =>
      simp only [preW] at hi
      cases hb : acc.contains j with
      | true =>
        rw [hb] at hi
        exact ih acc r h1 (fun e he => h2 e (by simp [he])) i hi
      | false =>
        rw [hb] at hi
        have hj := h2 j (by simp)
        refine ih (j :: acc) (direct ops j ++ r) (fun e he => (List.mem_cons.1 he).elim (fun h => h ▸ hj) (h1 e)) (fun e he => ?_) i hi
        rcases List.mem_append.1 he with he | he
        · by_cases hjl : j < is.length
          · exact hc j hjl hj e he
          · have : direct ops j = [] := by simp [direct, Array.getElem?_eq_none (show ops.size ≤ j by omega)]
            rw [this] at he; simp at he
        · exact h2 e (by simp [he])

theorem pre_closed {E : Nat → Bool} (hlen : is.length = ops.size) (hc : ∀ j, j < is.length → E j = true → ∀ e ∈ direct ops j, E e = true) :
    ∀ f j, (∀ e ∈ direct ops j, E e = true) → ∀ i ∈ pre ops f j, E i = true := fun f j hj i hi =>
  preW_closed hlen hc (f * f + f) [] (direct ops j) (fun e he => by simp at he) hj i hi

variable {cs : List (Nat × Nat)}

theorem drawOk_direct (h : drawOkC ops is cs = true) {j : Nat} (hj : j < is.length) : ∀ e ∈ direct ops j, e < j := by
  simp only [drawOkC, List.all_eq_true, List.mem_range, Bool.and_eq_true] at h
  intro e he
  simpa using (h.2 j hj).1 e he

theorem drawOk_slot (h : drawOkC ops is cs = true) {i j : Nat} {mi mj : MI} (hij : i < j) (hi : is[i]? = some mi) (hj : is[j]? = some mj) (hc : slotConf mi mj = true) : i ∈ pre ops is.length j := by
  simp only [drawOkC, List.all_eq_true, List.mem_range, Bool.and_eq_true] at h
  have hjl : j < is.length := (List.getElem?_eq_some_iff.1 hj).1
  have := (h.2 j hjl).2 i hij
  rw [hi, hj] at this
  simp [hc] at this
  exact this.1

theorem drawOk_mem (h : drawOkC ops is cs = true) {i j : Nat} {mi mj : MI} (hij : i < j) (hi : is[i]? = some mi) (hj : is[j]? = some mj) (hc : memConf mi mj = true) : i ∈ pre ops is.length j ∨ (i, j) ∈ cs := by
  simp only [drawOkC, List.all_eq_true, List.mem_range, Bool.and_eq_true] at h
  have hjl : j < is.length := (List.getElem?_eq_some_iff.1 hj).1
  have := (h.2 j hjl).2 i hij
  rw [hi, hj] at this
  simp [hc] at this
  exact this.2

/-- what comes before an operation has a smaller number -/
theorem preW_lt (hd : ∀ j, ∀ e ∈ direct ops j, e < j) : ∀ (f : Nat) (acc todo : List Nat) (B : Nat), (∀ e ∈ acc, e < B) → (∀ e ∈ todo, e < B) → ∀ i ∈ preW ops f acc todo, i < B := by
  intro f
  induction f with
  | zero => intro acc todo B h1 _ i hi; exact h1 i hi
  | succ f ih =>
    intro acc todo B h1 h2 i hi
    cases todo with
    | nil => exact h1 i hi
    | cons j r =>
      simp only [preW] at hi
      have hj := h2 j (by simp)
      cases hb : acc.contains j with
      | true =>
        rw [hb] at hi
        exact ih acc r B h1 (fun e he => h2 e (by simp [he])) i hi
      | false =>
        rw [hb] at hi
        refine ih (j :: acc) (direct ops j ++ r) B (fun e he => (List.mem_cons.1 he).elim (fun h => h ▸ hj) (h1 e)) (fun e he => ?_) i hi
        rcases List.mem_append.1 he with he | he
        · have := hd j e he; omega
        · exact h2 e (by simp [he])
theorem pre_lt (hlen : is.length = ops.size) (h : drawOkC ops is cs = true) {f i j : Nat} (hi : i ∈ pre ops f j) : i < j := by
  have hd : ∀ j, ∀ e ∈ direct ops j, e < j := fun j e he => by
    by_cases hjl : j < is.length
    · exact drawOk_direct h hjl e he
    · have : direct ops j = [] := by simp [direct, Array.getElem?_eq_none (show ops.size ≤ j by omega)]
      rw [this] at he; simp at he
  exact preW_lt hd _ _ _ j (fun e he => by simp at he) (hd j) i hi

/-- the operation i reads one cell of a struct, and this cell is the same all along, but for what i comes before -/
def CellOk (ops : Array Oper) (i l : Nat) (u : Nat → Mem) (m0 : Mem) (t : Tmps) (mi : MI) : Prop :=
  ∃ z k off c, mi.op = .ld none z ∧ ev t z = .ptr k off ∧ (∃ cs, lookM m0 k = some (.box cs) ∧ cs[off]? = some c) ∧ ∀ q, q < l → i ∈ pre ops l q ∨ ∀ e ∈ u q, e.1 = k → ∃ cs, e.2 = some (.box cs) ∧ cs[off]? = some c
/-- what the pairs cs look at in common, the region does not write -/
def Apart (ops : Array Oper) (is : List MI) (x : Nat → AV) (u : Nat → Mem) (t0 : Tmps) (m0 : Mem) (cs : List (Nat × Nat)) : Prop :=
  ∀ p ∈ cs, ∀ mi mj, is[p.1]? = some mi → is[p.2]? = some mj → (∀ k, TK mi.op (tT is x t0 p.1) (mT u m0 p.1) k → TK mj.op (tT is x t0 p.2) (mT u m0 p.2) k →
    ∀ q, q < is.length → ∀ e ∈ u q, e.1 ≠ k) ∨ CellOk ops p.1 is.length u m0 (tT is x t0 p.1) mi ∨ CellOk ops p.2 is.length u m0 (tT is x t0 p.2) mj

theorem lookU_in {u : Mem} {k : Nat} {v : Option MObj} (h : lookU u k = some v) : (k, v) ∈ u := by
  induction u with
  | nil => simp [lookU] at h
  | cons p u ih =>
    obtain ⟨k', v'⟩ := p
    simp only [lookU] at h
    split at h
    · rename_i hk; subst hk; cases h; simp
    · exact List.mem_cons_of_mem _ (ih h)
theorem valM_cell {l : Nat} {u : Nat → Mem} {m0 : Mem} {k off : Nat} {c : AV} {E : Nat → Bool} (h0 : ∃ cs, lookM m0 k = some (.box cs) ∧ cs[off]? = some c)
    (h : ∀ q, q < l → E q = true → ∀ e ∈ u q, e.1 = k → ∃ cs, e.2 = some (.box cs) ∧ cs[off]? = some c) : ∀ j, j ≤ l → ∃ cs, valM u m0 E j k = some (.box cs) ∧ cs[off]? = some c
  | 0, _ => h0
  | j + 1, hj => by
    have ih := valM_cell (E := E) h0 h j (by omega)
    simp only [valM]
    split
    · rename_i hE
      cases hu : lookU (u j) k with
      | none => exact ih
      | some v => exact h j (by omega) hE (k, v) (lookU_in hu) rfl
    · exact ih
theorem CellOk.wr {i l : Nat} {u : Nat → Mem} {m0 : Mem} {t : Tmps} {mi : MI} (h : CellOk ops i l u m0 t mi) : wrM mi.op = false := by
  obtain ⟨_, _, _, _, h, _⟩ := h; rw [h]; rfl
theorem CellOk.deep {i l : Nat} {u : Nat → Mem} {m0 : Mem} {t : Tmps} {mi : MI} (h : CellOk ops i l u m0 t mi) : deepM mi.op = false := by
  obtain ⟨_, _, _, _, h, _⟩ := h; rw [h]; rfl

/-- an own key that is there has been made -/
theorem mT_made {y : Nat} (hy : ∀ (j : Nat) i k, is[j]? = some i → yk i.op = some k → j = y ∧ j + k = is.length) (hfresh : ∀ k, n0 ≤ k → lookM m0 k = none) (hst : ∀ (j : Nat) i, is[j]? = some i → StepD P i (tT is x t0 j) (mT u m0 j) (n0 + j) (x j) (u j)) :
    ∀ j, j ≤ is.length → ∀ k, n0 ≤ k → lookM (mT u m0 j) k ≠ none → k < n0 + j ∨ (k = n0 + is.length ∧ y < j) := by
  intro j
  induction j with
  | zero => intro _ k hk h; exact (h (hfresh k hk)).elim
  | succ j ih =>
    intro hj k hk h
    simp only [mT, lookM_append] at h
    by_cases hu : lookU (u j) k = none
    · rw [hu] at h
      have := ih (by omega) k hk h; omega
    · obtain ⟨p, hp, rfl⟩ := lookU_mem hu
      have hmi : is[j]? = some is[j] := by simp
      rcases (hst j _ hmi).2 p hp with h1 | ⟨_, _, h1⟩
      · have := new_key hy hmi h1; omega
      · have := ih (by omega) _ hk h1; omega

theorem draw_step (hlen : is.length = ops.size) (hcm : ∀ (j : Nat) o, ops[j]? = some o → ∃ i i0, is[j]? = some i ∧ cMI P N ops o = some i0 ∧ IsX i0 i) (hok : drawOkC ops is cs = true) (HA : Apart ops is x u t0 m0 cs)
    {Y : Nat} (hyy : ∀ (j : Nat) i k, is[j]? = some i → yk i.op = some k → j = Y ∧ j + k = is.length)
    (hfresh : ∀ k, n0 ≤ k → lookM m0 k = none)
    (hst : ∀ (j : Nat) i, is[j]? = some i → StepD P i (tT is x t0 j) (mT u m0 j) (n0 + j) (x j) (u j))
    {E : Nat → Bool} {a : Act} {w : World} (I : DInv P X N ops is x u t0 m0 n0 Y E a w) {i : Nat} (hil : i < is.length) (hE : E i = false) (hready : ∀ e ∈ direct ops i, E e = true)
    {K' : Act → World → Prop} (hK : ∀ a w, DInv P X N ops is x u t0 m0 n0 Y (mark E i) a w → K' a w) : wpOp P ops Q i K' a w := by
  obtain ⟨S, κ, t, m, r, ht, hm⟩ := I.rel
  have ho : ∃ o, ops[i]? = some o := ⟨ops[i]'(by omega), by simp⟩
  obtain ⟨o, ho⟩ := ho
  obtain ⟨mi, mi0, hmi, hci, hix⟩ := hcm i o ho
  have hcl := I.closed
  -- what is before i is done
  have hpre : ∀ j mj, j < i → is[j]? = some mj → slotConf mj mi = true → E j = true := fun j mj hj hmj hc =>
    pre_closed hlen hcl _ i hready j (drawOk_slot hok hj hmj hmi hc)
  have hpreM : ∀ j mj, j < i → is[j]? = some mj → memConf mj mi = true → E j = true ∨ (j, i) ∈ cs := fun j mj hj hmj hc =>
    (drawOk_mem hok hj hmj hmi hc).imp (fun h => pre_closed hlen hcl _ i hready j h) id
  -- what is behind i is not done
  have notYet : ∀ j mj, is[j]? = some mj → i ∈ pre ops is.length j → E j = false := fun j mj hmj hc => by
    cases hej : E j with
    | false => rfl
    | true =>
      have hjl : j < is.length := (List.getElem?_eq_some_iff.1 hmj).1
      have := pre_closed hlen hcl _ j (hcl j hjl hej) i hc
      rw [hE] at this; cases this
  have hpost : ∀ j mj, i < j → is[j]? = some mj → slotConf mi mj = true → E j = false := fun j mj hj hmj hc => notYet j mj hmj (drawOk_slot hok hj hmi hmj hc)
  have hpostM : ∀ j mj, i < j → is[j]? = some mj → memConf mi mj = true → E j = false ∨ (i, j) ∈ cs := fun j mj hj hmj hc =>
    (drawOk_mem hok hj hmi hmj hc).imp (notYet j mj hmj) id
  have hget : ∀ j (hj : j < is.length), is[j]? = some is[j] := fun j hj => by simp [hj]
  have hdOf : ∀ {j s}, dOf is j = some s → ∃ mj, is[j]? = some mj ∧ mj.d = some s := fun {j s} h => by
    simp only [dOf, Option.bind_eq_some_iff] at h
    exact h
  have hslot : ∀ s ∈ slotsOf mi, look t s = look (tT is x t0 i) s := fun s hs => by
    rw [ht, tT_val, valT_above (j := i) is.length (by omega) (fun j hj hjl hd => ?_)]
    · refine valT_congr i (fun j hj hd => ?_)
      obtain ⟨mj, hmj, hd⟩ := hdOf hd
      exact hpre j mj hj hmj (by simp [slotConf, hd, hs])
    · by_cases hji : j = i
      · subst hji; exact hE
      · obtain ⟨mj, hmj, hd⟩ := hdOf hd
        exact hpost j mj (by omega) hmj (by simp [slotConf, hd, hs])
  have hev : ∀ y ∈ opnds mi.op, ev t y = ev (tT is x t0 i) y := fun y hy => by
    cases y with
    | t s => exact hslot s (by simp only [slotsOf, List.mem_append, List.mem_filterMap]; exact .inl ⟨.t s, hy, rfl⟩)
    | c v => rfl
  have hplace0 : ∀ y ∈ opnds mi.op, ∀ k ∈ keysIn (ev (tT is x t0 i) y), ¬ free n0 is.length Y E k := fun y hy k hk hf => by
    rw [← hev y hy] at hk
    cases y with
    | t s => exact keysIn_place (r.tm s) k hk (r.ent.fresh k hf).2
    | c v =>
      have hcon : constOk mi = true := by
        simp only [drawOkC, Bool.and_eq_true, List.all_eq_true] at hok
        exact hok.1 mi (List.mem_of_getElem? hmi)
      simp only [constOk, List.all_eq_true] at hcon
      have := hcon _ hy
      simp only [List.isEmpty_iff] at this
      simp only [ev] at hk
      rw [this] at hk; simp at hk
  have hstay : ¬ CellOk ops i is.length u m0 (tT is x t0 i) mi → rdI mi = true → ∀ k, TK mi.op (tT is x t0 i) (mT u m0 i) k → ¬ free n0 is.length Y E k → ∀ ob, lookM (mT u m0 i) k = some ob → lookM m k = some ob := fun hnc hrd k hk hnf ob hob => by
    rw [hm, ← hob, mT_val, valM_above (j := i) is.length (by omega) (fun j hj hjl hu => ?_)]
    · refine valM_congr i (fun j hj hu => ?_)
      have hmj := hget j (by omega)
      obtain ⟨p, hp, hpk⟩ := lookU_mem hu
      rcases (hst j _ hmj).2 p hp with h1 | ⟨h1, hkz, _⟩
      · have h1 := new_key hyy hmj h1
        rcases free_not hnf with h2 | ⟨h2, h3, h4⟩ | ⟨i2, _, h3, h4⟩
        · omega
        · have : j = Y := by omega
          subst this; exact h4
        · have : i2 = j := by omega
          subst this; exact h3
      · rcases hpreM j _ hj hmj (by simp [memConf, wrI, h1, hrd]) with hh | hh
        · exact hh
        · rcases HA (j, i) hh _ _ hmj hmi with ha | ha | ha
          · exact (ha k (hpk ▸ hkz) hk j (by omega) p hp hpk).elim
          · have := ha.wr; rw [h1] at this; cases this
          · exact (hnc ha).elim
    · by_cases hji : j = i
      · subst hji; exact hE
      · have hmj := hget j (by omega)
        obtain ⟨p, hp, hpk⟩ := lookU_mem hu
        rcases (hst j _ hmj).2 p hp with h1 | ⟨h1, hkz, _⟩
        · have h1 := new_key hyy hmj h1
          have := mT_made hyy hfresh hst i (by omega) k (by omega) (by rw [hob]; simp)
          omega
        · rcases hpostM j _ (by omega) hmj (by simp [memConf, wrI, h1, hrd]) with hh | hh
          · exact hh
          · rcases HA (i, j) hh _ _ hmi hmj with ha | ha | ha
            · exact (ha k hk (hpk ▸ hkz) j (by omega) p hp hpk).elim
            · exact (hnc ha).elim
            · have := ha.wr; rw [h1] at this; cases this
  have hdeep : deepM mi.op = true → rdI mi = true → ∀ (f : Nat) (ks : List Nat), (∀ k ∈ ks, ¬ free n0 is.length Y E k) → (∀ k ∈ rch (mT u m0 i) f ks, TK mi.op (tT is x t0 i) (mT u m0 i) k) →
      ∀ k ∈ rch (mT u m0 i) f ks, ¬ free n0 is.length Y E k := fun hdp hrd f => by
    induction f with
    | zero => intro ks h1 _ k hk; exact h1 k hk
    | succ f ih =>
      intro ks h1 h2 k hk
      simp only [rch, List.mem_append] at hk h2
      rcases hk with hk | hk
      · exact h1 k hk
      · refine ih (bks (mT u m0 i) ks) (fun q hq hf => ?_) (fun q hq => h2 q (.inr hq)) k hk
        obtain ⟨k0, hk0, hq⟩ := bks_mem.1 hq
        cases ho : lookM (mT u m0 i) k0 with
        | none => rw [ho] at hq; simp [bk] at hq
        | some o =>
          have hs := hstay (fun hc => by have := hc.deep; rw [hdp] at this; cases this) hrd k0 (h2 k0 (.inl hk0)) (h1 k0 hk0) o ho
          rw [ho] at hq
          cases o with
          | box cs =>
            simp only [bk] at hq
            obtain ⟨y, hy, hqy⟩ := keysInL_mem.1 (kys_sub.2 cs q hq)
            obtain ⟨l, _, _, vs, T, _, _, hc⟩ := r.ent.mm _ _ hs
            obtain ⟨j, hj, rfl⟩ := List.getElem_of_mem hy
            obtain ⟨c, _, hR⟩ := hc j cs[j] (by simp [hj])
            exact keysIn_place hR q hqy (r.ent.fresh q hf).2
          | _ => simp [bk] at hq
  have hplace : ∀ k, TK mi.op (tT is x t0 i) (mT u m0 i) k → ¬ free n0 is.length Y E k := fun k hk => by
    rcases hk with ⟨y, hy, hk⟩ | ⟨hd, hk⟩
    · exact hplace0 y hy k hk
    · have hrd : rdI mi = true := by
        unfold rdI
        cases hop : mi.op <;> simp [hop, deepM, rdM] at hd ⊢
      refine hdeep hd hrd 3 _ (fun q hq => ?_) (fun q hq => .inr ⟨hd, hq⟩) k hk
      obtain ⟨z, hz, hqz⟩ := keysInL_mem.1 hq
      obtain ⟨y, hy, rfl⟩ := evs_mem hz
      exact hplace0 y hy q hqz
  have hmem : ¬ CellOk ops i is.length u m0 (tT is x t0 i) mi → rdI mi = true → ∀ k, TK mi.op (tT is x t0 i) (mT u m0 i) k → ∀ ob, lookM (mT u m0 i) k = some ob → lookM m k = some ob := fun hnc hrd k hk ob hob => hstay hnc hrd k hk (hplace k hk) ob hob
  have hstep := hst i mi hmi
  have hFi : free n0 is.length Y E (n0 + i) := .inr (.inr ⟨i, hil, hE, rfl⟩)
  have hFe : ∀ q, yk mi.op = some q → free n0 is.length Y E (n0 + i + q) ∧ n0 + i + q ≠ n0 + i := fun q hq => by
    obtain ⟨h1, h2⟩ := hyy i mi q hmi hq
    exact ⟨.inr (.inl ⟨by omega, fun _ => h1 ▸ hE⟩), by omega⟩
  have hvins : vinsD P mi (Ex (x i) (u i)) t m (n0 + i) := by
    by_cases hcell : CellOk ops i is.length u m0 (tT is x t0 i) mi
    · obtain ⟨z, k, off, c, hop, hz, hc0, hcu⟩ := hcell
      obtain ⟨cs1, e1, e2⟩ := valM_cell (l := i) (E := fun _ => true) hc0 (fun q hq _ => (hcu q (by omega)).elim (fun h => by have := pre_lt hlen hok h; omega) id) i (by omega)
      obtain ⟨cs2, e3, e4⟩ := valM_cell (l := is.length) (E := E) hc0 (fun q hq hEq => (hcu q hq).elim (fun h => by have := notYet q _ (hget q hq) h; rw [hEq] at this; cases this) id) is.length (Nat.le_refl _)
      rw [← mT_val] at e1
      rw [← hm] at e3
      have hzt := hev z (by rw [hop]; simp [opnds])
      have hone : vrunD P mi.op (tT is x t0 i) (mT u m0 i) (n0 + i) (Ex (x i) (u i)) → vrunD P mi.op t m (n0 + i) (Ex (x i) (u i)) := fun h => by
        rw [hop] at h ⊢
        simp only [vrunD, vop, hzt, hz, vld, e1, e3, noMat, ldc, true_and, e2, e4] at h ⊢
        exact h
      have hs1 := hstep.1
      have hgs : ∀ s w0, mi.g = some (s, w0) → look t s = look (tT is x t0 i) s := fun s w0 hg => hslot s (by simp [slotsOf, hg])
      obtain ⟨d', op', g'⟩ := mi
      cases g' with
      | none => exact hone hs1
      | some sw =>
        obtain ⟨s, want⟩ := sw
        simp only [vinsD] at hs1 ⊢
        rw [hgs s want rfl]
        split at hs1
        · exact ⟨fun hb => hone (hs1.1 hb), hs1.2⟩
        · exact hs1
        · exact hs1.elim
    · exact vinsD_local hslot (hmem hcell) hstep.1
  simp only [wpOp, ho]
  refine insD_ok hci hix r hFi hFe hvins (fun a' w' => ?_)
  rintro ⟨S', κ', r'⟩
  refine hK a' w' ⟨⟨S', κ', _, _, r'.free fun k hk => ?_, fun s => ?_, fun k => ?_⟩, fun j hj hej e he => ?_, fun j hj hej p hp => ?_⟩
  · rcases hk with hk | ⟨hk, hky⟩ | ⟨i2, h1, h2, rfl⟩
    · exact ⟨.inl hk, by omega, fun q hq => by have := (hyy i mi q hmi hq).2; omega⟩
    · refine ⟨.inr (.inl ⟨hk, fun hyl => ?_⟩), by omega, fun q hq => ?_⟩
      · have := hky hyl
        by_cases hyi : Y = i
        · subst hyi; exact hE
        · rwa [mark_ne E hyi] at this
      · obtain ⟨g1, g2⟩ := hyy i mi q hmi hq
        have := hky (by omega)
        rw [← g1, mark_self] at this; cases this
    · have hne : i2 ≠ i := fun h => by subst h; rw [mark_self] at h2; cases h2
      rw [mark_ne E hne] at h2
      exact ⟨.inr (.inr ⟨i2, h1, h2, rfl⟩), by omega, fun q hq => by have := (hyy i mi q hmi hq).2; omega⟩
  · have hdi : dOf is i = mi.d := by simp [dOf, hmi]
    rw [look_putT]
    by_cases hd : mi.d = some s
    · rw [if_pos hd, valT_above (j := i + 1) is.length (by omega) (fun j hj hjl hdj => ?_)]
      · simp only [valT]; rw [if_pos ⟨mark_self E i, by rw [hdi]; exact hd⟩]
      · rw [mark_ne E (by omega)]
        obtain ⟨mj, hmj, hdj⟩ := hdOf hdj
        exact hpost j mj (by omega) hmj (by simp [slotConf, hd, hdj])
    · rw [if_neg hd, ht]
      refine valT_congr _ (fun j hj hdj => ?_)
      rw [mark_ne E (fun h => hd (by subst h; rw [hdi] at hdj; exact hdj))]
  · rw [lookM_append]
    by_cases hu : lookU (u i) k = none
    · rw [hu, hm]
      refine valM_congr _ (fun j hj huj => ?_)
      rw [mark_ne E (fun h => huj (by subst h; exact hu))]
    · rw [valM_above (j := i + 1) is.length (by omega) (fun j hj hjl huj => ?_)]
      · simp only [valM, mark_self, if_true]
        cases hv : lookU (u i) k with
        | none => exact (hu hv).elim
        | some v => rfl
      · rw [mark_ne E (by omega)]
        have hmj := hget j (by omega)
        obtain ⟨p, hp, hpk⟩ := lookU_mem hu
        obtain ⟨q, hq, hqk⟩ := lookU_mem huj
        rcases hstep.2 p hp with h1 | ⟨h1, hky, hlive⟩
        · have h1 := new_key hyy hmi h1
          cases hej : E j with
          | false => rfl
          | true =>
            rcases I.written j (by omega) hej q hq with h2 | ⟨h2, h3, h4⟩ | ⟨i2, _, h3, h4⟩
            · omega
            · have : i = Y := by omega
              rw [← this, hE] at h4; cases h4
            · have : i2 = i := by omega
              subst this; rw [hE] at h3; cases h3
        · rcases (hst j _ hmj).2 q hq with h2 | ⟨h2, hkz, _⟩
          · have h2 := new_key hyy hmj h2
            have := mT_made hyy hfresh hst i (by omega) p.1 (by omega) hlive
            omega
          · rcases hpostM j _ (by omega) hmj (by simp [memConf, wrI, h1, h2]) with hh | hh
            · exact hh
            · rcases HA (i, j) hh _ _ hmi hmj with ha | ha | ha
              · exact (ha p.1 hky (by rw [hpk, ← hqk]; exact hkz) i (by omega) p hp rfl).elim
              · have := ha.wr; rw [h1] at this; cases this
              · have := ha.wr; rw [h2] at this; cases this
  · by_cases hji : j = i
    · subst hji
      by_cases hei : e = j
      · subst hei; exact mark_self _ _
      · rw [mark_ne E hei]; exact hready e he
    · rw [mark_ne E hji] at hej
      by_cases hei : e = i
      · subst hei; exact mark_self _ _
      · rw [mark_ne E hei]; exact hcl j hj hej e he
  · have up1 : ∀ i2, E i2 = true → mark E i i2 = true := fun i2 h2 => by
      by_cases hh : i2 = i
      · subst hh; exact mark_self _ _
      · rw [mark_ne E hh]; exact h2
    have up : ∀ {k : Nat}, taken n0 is.length Y E k → taken n0 is.length Y (mark E i) k := fun {k} h => by
      rcases h with h | ⟨h1, h2, h3⟩ | ⟨i2, h1, h2, h3⟩
      · exact .inl h
      · exact .inr (.inl ⟨h1, h2, up1 _ h3⟩)
      · exact .inr (.inr ⟨i2, h1, up1 _ h2, h3⟩)
    by_cases hji : j = i
    · subst hji
      rcases hstep.2 p hp with h1 | ⟨h1, hky, hlive⟩
      · rcases new_key hyy hmi h1 with h1 | ⟨h1, h2⟩
        · exact .inr (.inr ⟨j, hil, mark_self _ _, h1⟩)
        · exact .inr (.inl ⟨h2, by omega, by rw [← h1]; exact mark_self _ _⟩)
      · exact up (free_not (hplace _ hky))
    · rw [mark_ne E hji] at hej
      exact up (I.written j hj hej p hp)

/-- behind a region: the keys from there on, or from one later, are free -/
def AfterY (X : Ctx) (N : Nat) (K : Tmps → Mem → Nat → Prop) (e : Nat) (a : Act) (w : World) : Prop := ∃ t m n S κ, K t m n ∧ Rel X N w S κ t m (n + e ≤ ·) a

theorem draw_all (hlen : is.length = ops.size) (hcm : ∀ (j : Nat) o, ops[j]? = some o → ∃ i i0, is[j]? = some i ∧ cMI P N ops o = some i0 ∧ IsX i0 i) (hok : drawOkC ops is cs = true) (HA : Apart ops is x u t0 m0 cs)
    {y : Nat} (hyy : ∀ (j : Nat) i k, is[j]? = some i → yk i.op = some k → j = y ∧ j + k = is.length)
    (hfresh : ∀ k, n0 ≤ k → lookM m0 k = none)
    (hst : ∀ (j : Nat) i, is[j]? = some i → StepD P i (tT is x t0 j) (mT u m0 j) (n0 + j) (x j) (u j)) {K : Tmps → Mem → Nat → Prop}
    {tf : Tmps} (htf : ∀ s, look tf s = look (tT is x t0 is.length) s) (hK : K tf (mT u m0 is.length) (n0 + is.length)) (hQ : ∀ a w, AfterY X N K (if y < is.length then 1 else 0) a w → Q .normal a w) :
    ∀ (fuel : Nat) (listed : Array Bool) (E : Nat → Bool) (a : Act) (w : World), listed.size = ops.size → (∀ i, i < ops.size → listed[i]? = some (E i)) → left E is.length ≤ fuel →
      DInv P X N ops is x u t0 m0 n0 y E a w → wpAny P .any ops Q fuel listed a w := by
  have fin : ∀ (E : Nat → Bool) (a : Act) (w : World), (∀ i, i < is.length → E i = true) → DInv P X N ops is x u t0 m0 n0 y E a w → Q .normal a w := fun E a w hall I => by
    obtain ⟨S, κ, t, m, r, ht, hm⟩ := I.rel
    refine hQ _ _ ⟨_, _, _, S, κ, hK, ?_⟩
    refine Rel.congr (t := t) (m := m) (r.free fun k hk => ?_) (fun s => ?_) (fun k => ?_)
    · by_cases hyl : y < is.length
      · rw [if_pos hyl] at hk
        exact .inl (by omega)
      · rw [if_neg hyl] at hk
        by_cases hkl : k = n0 + is.length
        · exact .inr (.inl ⟨hkl, fun h => (hyl h).elim⟩)
        · exact .inl (by omega)
    · rw [ht, htf, tT_val]; exact (valT_congr _ (fun i hi _ => (hall i hi).symm))
    · rw [hm, mT_val]; exact (valM_congr _ (fun i hi _ => (hall i hi).symm))
  have hrd : ∀ (listed : Array Bool) (E : Nat → Bool), listed.size = ops.size → (∀ i, i < ops.size → listed[i]? = some (E i)) → ∀ i, i ∈ Region.ready .any ops listed ↔ i < ops.size ∧ E i = false ∧ ∀ e ∈ direct ops i, e < ops.size ∧ E e = true := fun listed E hs hl i => by
    simp only [Region.ready, List.mem_filter, List.mem_range, Bool.and_eq_true]
    constructor
    · rintro ⟨h1, h2, h3⟩
      have ho : ops[i]? = some ops[i] := by simp
      refine ⟨h1, ?_, fun e he => ?_⟩
      · simpa [Array.getD_eq_getD_getElem?, hl i h1] using h2
      · rw [ho] at h3
        simp only [Option.map_some, Option.getD_some] at h3
        simp only [direct, ho, List.mem_map, List.mem_filter] at he
        obtain ⟨ed, ⟨hed, hb⟩, rfl⟩ := he
        have := (Array.all_eq_true_iff_forall_mem.1 h3) ed (by simpa using hed)
        simp only [hb, Bool.not_true, Bool.false_or] at this
        by_cases hee : ed.on < ops.size
        · exact ⟨hee, by simpa [Array.getD_eq_getD_getElem?, hl _ hee] using this⟩
        · rw [Array.getD_eq_getD_getElem?, Array.getElem?_eq_none (by omega)] at this; simp at this
    · rintro ⟨h1, h2, h3⟩
      have ho : ops[i]? = some ops[i] := by simp
      refine ⟨h1, by simp [Array.getD_eq_getD_getElem?, hl i h1, h2], ?_⟩
      rw [ho]
      simp only [Option.map_some, Option.getD_some]
      rw [Array.all_eq_true_iff_forall_mem]
      intro ed hed
      cases hb : Region.binds .any ed with
      | false => simp
      | true =>
        have := h3 ed.on (by simp only [direct, ho, List.mem_map, List.mem_filter]; exact ⟨ed, ⟨by simpa using hed, hb⟩, rfl⟩)
        simp [Array.getD_eq_getD_getElem?, hl _ this.1, this.2]
  have hmin : ∀ (E : Nat → Bool), (∃ i, i < ops.size ∧ E i = false) → ∃ i, i < ops.size ∧ E i = false ∧ ∀ j, j < i → E j = true := fun E => by
    rintro ⟨i, hi, he⟩
    induction i using Nat.strongRecOn with
    | _ i ih =>
      by_cases h : ∃ j, j < i ∧ E j = false
      · obtain ⟨j, hj, hej⟩ := h
        exact ih j hj (by omega) hej
      · refine ⟨i, hi, he, fun j hj => ?_⟩
        cases hej : E j with
        | true => rfl
        | false => exact (h ⟨j, hj, hej⟩).elim
  intro fuel
  induction fuel with
  | zero =>
    intro listed E a w hs hl hfu I
    have hall := left_zero (E := E) is.length (by omega)
    refine ⟨?_, fin E a w hall I⟩
    apply List.eq_nil_iff_forall_not_mem.2
    intro i hi
    have := (hrd listed E hs hl i).1 hi
    rw [hall i (by omega)] at this
    cases this.2.1
  | succ fuel ih =>
    intro listed E a w hs hl hfu I
    refine ⟨fun hr => ?_, fun i hi => ?_⟩
    · by_cases h : ∃ i, i < ops.size ∧ E i = false
      · obtain ⟨i, h1, h2, h3⟩ := hmin E h
        have : i ∈ Region.ready .any ops listed := (hrd listed E hs hl i).2 ⟨h1, h2, fun e he => by
          have := drawOk_direct hok (show i < is.length by omega) e he
          exact ⟨by omega, h3 e this⟩⟩
        rw [hr] at this; simp at this
      · refine fin E a w (fun i hi => ?_) I
        cases hei : E i with
        | true => rfl
        | false => exact (h ⟨i, by omega, hei⟩).elim
    · obtain ⟨h1, h2, h3⟩ := (hrd listed E hs hl i).1 hi
      refine draw_step hlen hcm hok HA hyy hfresh hst I (by omega) h2 (fun e he => (h3 e he).2) (fun a' w' I' => ?_)
      refine ih _ (mark E i) a' w' (by simp [hs]) (fun j hj => ?_) ?_ I'
      · by_cases hji : j = i
        · subst hji; rw [mark_self]; simp [hs, hj]
        · rw [mark_ne E hji, Array.getElem?_setIfInBounds_ne (fun h => hji h.symm)]; exact hl j hj
      · have := left_set h2 is.length (by omega); omega

end

/-- a region that draws its order -/
theorem draw_any {ops : Array Oper} {is : List MI} {cs : List (Nat × Nat)} {K : Tmps → Mem → Nat → Prop} {w : World} {S : Nat → Prop} {κ : Nat → Option Loc} {t : Tmps} {m : Mem} {n : Nat} {a : Act} {id : Nat}
    (hmix : P.follows .mixedOrders = true) (hlen : is.length = ops.size) (hcm : ∀ (j : Nat) o, ops[j]? = some o → ∃ i i0, is[j]? = some i ∧ cMI P N ops o = some i0 ∧ IsX i0 i)
    (hok : drawOkC ops is cs = true) (r : Rel X N w S κ t m (n ≤ ·) a) (h : vregsD P is K t m n)
    {y : Nat} (hyy : ∀ (j : Nat) i k, is[j]? = some i → yk i.op = some k → j = y ∧ j + k = is.length)
    (HA : ∀ (x : Nat → AV) (u : Nat → Mem) (tf : Tmps) (nf : Nat), (∀ (j : Nat) i, is[j]? = some i → StepD P i (tT is x t j) (mT u m j) (n + j) (x j) (u j)) → (∀ s, look tf s = look (tT is x t is.length) s) → K tf (mT u m is.length) nf → Apart ops is x u t m cs)
    (hQ : ∀ a w, AfterY X N K (if y < is.length then 1 else 0) a w → Q .normal a w) : (Code.region id ops true).wp P Q a w := by
  obtain ⟨x, u, tf, hst, htf, hK⟩ := table is t t m n (fun _ => rfl) h
  refine wp_region_any hmix ?_
  refine draw_all hlen hcm hok (HA x u tf _ hst htf hK) hyy (fun k hk => (r.ent.fresh k hk).1) hst htf hK hQ ops.size _ (fun _ => false) a _ (by simp) (fun i hi => by simp [hi]) ?_ ?_
  · have : ∀ l, left (fun _ => false) l ≤ l := by
      intro l; induction l with
      | zero => simp [left]
      | succ l ih => simp only [left, cond_false]; omega
    have := this is.length; omega
  · refine ⟨⟨S, κ, t, m, (r.heap (w' := { w with drawn := w.drawn + 1 }) rfl rfl rfl rfl).free fun k hk => ?_, fun s => ?_, fun k => ?_⟩, (fun j _ h => by cases h), (fun j _ h => by cases h)⟩
    · rcases hk with hk | ⟨hk, _⟩ | ⟨i, _, _, rfl⟩ <;> (show n ≤ _; omega)
    · have : ∀ l, valT is x t (fun _ => false) l s = look t s := by
        intro l; induction l with
        | zero => rfl
        | succ l ih => simp [valT, ih]
      rw [this]
    · have : ∀ l, valM u m (fun _ => false) l k = lookM m k := by
        intro l; induction l with
        | zero => rfl
        | succ l ih => simp [valM, ih]
      rw [this]

theorem after_n {K : Tmps → Mem → Nat → Prop} {l : Nat} {a : Act} {w : World} (h : AfterY X N K (if l < l then 1 else 0) a w) : After X N K a w := by
  rw [if_neg (Nat.lt_irrefl l)] at h
  exact h

theorem draw_ok {ops : Array Oper} {is : List MI} {K : Tmps → Mem → Nat → Prop} {w : World} {S : Nat → Prop} {κ : Nat → Option Loc} {t : Tmps} {m : Mem} {n : Nat} {a : Act} {id : Nat}
    {is0 : List MI} (hmix : P.follows .mixedOrders = true) (hc : cMIs P N ops ops.toList = some is0) (his : is = markX P ops is0) (hok : drawOk ops is = true) (hno : noY is = true) (r : Rel X N w S κ t m (n ≤ ·) a) (h : vregsD P is K t m n)
    (hQ : ∀ a w, After X N K a w → Q .normal a w) : (Code.region id ops true).wp P Q a w := by
  have hg := cMIs_get ops.toList is0 hc
  have hx := markXs_get (is0.any (deepCall P)) ops is0 is0 0
  have hlen : is.length = ops.size := by rw [his]; simpa [markX, hx.1] using hg.1
  refine draw_any (cs := []) (y := is.length) hmix hlen (fun j o ho => ?_) hok r h (fun j i k hi hk => (noY_get hno hi hk).elim) (fun _ _ _ _ _ _ _ p hp => by simp at hp) (fun a w hh => hQ a w (after_n hh))
  obtain ⟨i0, h1, h2⟩ := hg.2 j o (by simpa using ho)
  obtain ⟨i, h3, h4⟩ := hx.2 j i0 h1
  exact ⟨i, i0, by rw [his]; exact h3, h2, h4.imp (fun h => h) .inl⟩

theorem hstep_mem {ks : List Nat} {k q : Nat} {l : List Nat} : ∀ {s : List (Nat × List Nat)}, (k, l) ∈ s → k ∈ ks → q ∈ l → q ∈ hstep ks s
  | (k', l') :: s, h, hk, hq => by
    simp only [hstep]
    rcases List.mem_cons.1 h with h | h
    · cases h
      have : ks.contains k = true := by rw [List.contains_eq_mem]; simpa using hk
      rw [this]
      exact List.mem_append.2 (.inl hq)
    · have ih := hstep_mem h hk hq
      cases ks.contains k' with
      | true => exact List.mem_append.2 (.inr ih)
      | false => exact ih
theorem hch_sub {s : List (Nat × List Nat)} : ∀ {f : Nat} {ks ks' : List Nat}, (∀ k ∈ ks, k ∈ ks') → ∀ k ∈ hch s f ks, k ∈ hch s f ks'
  | 0, _, _, h, k, hk => h k hk
  | f + 1, ks, ks', h, k, hk => by
    simp only [hch, List.mem_append] at hk ⊢
    refine hk.imp (h k) (hch_sub (fun q hq => ?_) k)
    have : ∀ {s : List (Nat × List Nat)}, q ∈ hstep ks s → q ∈ hstep ks' s := fun {s} hq => by
      induction s with
      | nil => simp [hstep] at hq
      | cons e s ih =>
        obtain ⟨k1, l1⟩ := e
        simp only [hstep] at hq ⊢
        cases hb : ks.contains k1 with
        | true =>
          rw [hb] at hq
          rw [List.contains_eq_mem] at hb
          have hb' : ks'.contains k1 = true := by rw [List.contains_eq_mem]; simpa using h k1 (by simpa using hb)
          rw [hb']
          exact (List.mem_append.1 hq).elim (fun h => List.mem_append.2 (.inl h)) (fun h => List.mem_append.2 (.inr (ih h)))
        | false =>
          rw [hb] at hq
          cases ks'.contains k1 with
          | true => exact List.mem_append.2 (.inr (ih hq))
          | false => exact ih hq
    exact this hq
theorem shp_mem {k : Nat} {o : MObj} : ∀ {m : Mem}, lookM m k = some o → (k, bk (some o)) ∈ shp m
  | [], h => by simp [lookM] at h
  | (k', v) :: r, h => by
    simp only [shp]
    by_cases hk : k' = k
    · subst hk; rw [lookM_cons_eq] at h; subst h; simp
    · rw [lookM_cons_ne _ _ hk] at h; exact List.mem_cons_of_mem _ (shp_mem h)
theorem shp_append (a b : Mem) : shp (a ++ b) = shp a ++ shp b := by
  induction a with
  | nil => rfl
  | cons e a ih => obtain ⟨k, o⟩ := e; simp [shp, ih]
theorem shp_length (a : Mem) : (shp a).length = a.length := by
  induction a with
  | nil => rfl
  | cons e a ih => obtain ⟨k, o⟩ := e; simp [shp, ih]
theorem shp_keys {e : Nat × Option MObj} : ∀ {a : Mem}, e ∈ a → e.1 ∈ (shp a).map (·.1)
  | (k, o) :: r, h => by
    simp only [shp, List.map_cons, List.mem_cons]
    rcases List.mem_cons.1 h with rfl | h
    · exact .inl rfl
    · exact .inr (shp_keys h)
/-- what is led to now, is led to later, as far as it was ever told -/
theorem rch_hch {a m : Mem} : ∀ {f : Nat} {ks : List Nat}, ∀ k ∈ rch m f ks, k ∈ hch (shp (a ++ m)) f ks
  | 0, _, k, hk => hk
  | f + 1, ks, k, hk => by
    simp only [rch, hch, List.mem_append] at hk ⊢
    refine hk.imp id (fun h => hch_sub (fun q hq => ?_) k (rch_hch (a := a) k h))
    obtain ⟨k0, h1, h2⟩ := bks_mem.1 hq
    cases ho : lookM m k0 with
    | none => rw [ho] at h2; simp [bk] at h2
    | some o =>
      rw [ho] at h2
      exact hstep_mem (by rw [shp_append]; exact List.mem_append.2 (.inr (shp_mem ho))) h1 h2
theorem mT_pre (u : Nat → Mem) (m0 : Mem) : ∀ {i l : Nat}, i ≤ l → ∃ a, mT u m0 l = a ++ mT u m0 i
  | i, 0, h => by obtain rfl : i = 0 := by omega
                  exact ⟨[], rfl⟩
  | i, l + 1, h => by
    by_cases hi : i = l + 1
    · subst hi; exact ⟨[], rfl⟩
    · obtain ⟨a, ha⟩ := mT_pre u m0 (i := i) (l := l) (by omega)
      exact ⟨u l ++ a, by rw [mT, ha, List.append_assoc]⟩
theorem mT_all (u : Nat → Mem) (m0 : Mem) : ∀ (l : Nat), ∃ a, mT u m0 l = a ++ m0 ∧ ∀ q, q < l → ∀ e ∈ u q, e ∈ a
  | 0 => ⟨[], rfl, fun q hq => by omega⟩
  | l + 1 => by
    obtain ⟨a, ha, hh⟩ := mT_all u m0 l
    refine ⟨u l ++ a, by rw [mT, ha, List.append_assoc], fun q hq e he => List.mem_append.2 ?_⟩
    by_cases hql : q = l
    · subst hql; exact .inl he
    · exact .inr (hh q (by omega) e he)

theorem apart_get {t : Tmps} {m : Mem} {L : Nat} {is : List MI} : ∀ {cs : List (Nat × Nat)}, apart t m L is cs → ∀ p ∈ cs, (deepAt is p.1 = false ∧ deepAt is p.2 = false ∧ ∀ k ∈ opKeys t is p.1, k ∉ opKeys t is p.2) ∨
    ∀ k ∈ led (deepAt is p.1) (shp m) (opKeys t is p.1), k ∈ led (deepAt is p.2) (shp m) (opKeys t is p.2) → k ∉ ((shp m).take ((shp m).length - L)).map (·.1) := by
  intro cs
  induction cs with
  | nil => intro _ p hp; simp at hp
  | cons q cs ih =>
    intro h p hp
    obtain ⟨i, j⟩ := q
    simp only [apart] at h
    rcases List.mem_cons.1 hp with rfl | hp
    · cases hi : deepAt is i with
      | true =>
        rw [hi] at h
        right
        intro k h1 h2 h3
        have := (List.all_eq_true.1 (show pairOk _ _ _ _ _ _ = true from h.1)) k h1
        simp only [List.contains_eq_mem, Bool.or_eq_true, Bool.not_eq_true', decide_eq_false_iff_not] at this
        exact this.elim (fun hh => hh h2) (fun hh => hh h3)
      | false =>
        rw [hi] at h
        cases hj : deepAt is j with
        | true =>
          rw [hj] at h
          right
          intro k h1 h2 h3
          have := (List.all_eq_true.1 (show pairOk _ _ _ _ _ _ = true from h.1)) k h1
          simp only [List.contains_eq_mem, Bool.or_eq_true, Bool.not_eq_true', decide_eq_false_iff_not] at this
          exact this.elim (fun hh => hh h2) (fun hh => hh h3)
        | false =>
          rw [hj] at h
          refine .inl ⟨rfl, rfl, fun k hk hk2 => ?_⟩
          have := (List.all_eq_true.1 (show (opKeys t is i).all _ = true from h.1)) k hk
          rw [List.contains_eq_mem] at this
          simp at this; exact this hk2
    · exact ih h.2 p hp

theorem stable_key {is : List MI} {x : Nat → AV} {t tf : Tmps} (htf : ∀ s, look tf s = look (tT is x t is.length) s) {i : Nat} {mm : MI} (hmm : is[i]? = some mm) (hs : stableI is i = true) :
    ∀ y ∈ opnds mm.op, ev tf y = ev (tT is x t i) y := fun y hy => by
  cases y with
  | c v => rfl
  | t s =>
    have hil : i < is.length := (List.getElem?_eq_some_iff.1 hmm).1
    have hsl : s ∈ slotsOf mm := by simp only [slotsOf, List.mem_append, List.mem_filterMap]; exact .inl ⟨.t s, hy, rfl⟩
    show look tf s = look (tT is x t i) s
    rw [htf, tT_val, tT_val]
    refine valT_above is.length (by omega) (fun q hq hql hd => ?_)
    exfalso
    simp only [stableI, List.all_eq_true, List.mem_range] at hs
    have := hs q hql
    rw [hmm, hd] at this
    simp at this
    rcases this with h1 | h1
    · omega
    · exact h1 hsl

theorem pair_apart {is : List MI} {cs : List (Nat × Nat)} {x : Nat → AV} {u : Nat → Mem} {t tf : Tmps} {m : Mem} (htf : ∀ s, look tf s = look (tT is x t is.length) s) (hK : apart tf (mT u m is.length) m.length is cs)
    {p : Nat × Nat} (hp : p ∈ cs) (hst : stableI is p.1 = true ∧ stableI is p.2 = true) {mi mj : MI} (hmi : is[p.1]? = some mi) (hmj : is[p.2]? = some mj) {k : Nat}
    (hk : TK mi.op (tT is x t p.1) (mT u m p.1) k) (hk2 : TK mj.op (tT is x t p.2) (mT u m p.2) k) {q : Nat} (hq : q < is.length) {e : Nat × Option MObj} (he : e ∈ u q) (hek : e.1 = k) : False := by
  have hled : ∀ (i : Nat) (mm : MI), is[i]? = some mm → stableI is i = true → TK mm.op (tT is x t i) (mT u m i) k → k ∈ led (deepAt is i) (shp (mT u m is.length)) (opKeys tf is i) ∧ (deepAt is i = false → k ∈ opKeys tf is i) := fun i mm hmm hs hk => by
    have hil : i < is.length := (List.getElem?_eq_some_iff.1 hmm).1
    have hev : ∀ y ∈ opnds mm.op, ev (tT is x t i) y = ev tf y := fun y hy => (stable_key htf hmm hs y hy).symm
    have hok' : opKeys tf is i = keysInL (evs tf (opnds mm.op)) := by simp only [opKeys, hmm]
    have hda : deepAt is i = deepM mm.op := by simp only [deepAt, hmm]
    rcases TK_same hev hk with ⟨y, hy, hk⟩ | ⟨hd, hk⟩
    · have h0 : k ∈ opKeys tf is i := by rw [hok']; exact evs_keys hy hk
      refine ⟨?_, fun _ => h0⟩
      unfold led
      cases deepAt is i with
      | true => simp only [cond_true, hch, List.mem_append]; exact .inl h0
      | false => exact h0
    · obtain ⟨b, hb⟩ := mT_pre u m (i := i) (l := is.length) (by omega)
      rw [hda, hd]
      refine ⟨?_, fun h => by cases h⟩
      unfold led
      rw [hok', hb]
      exact rch_hch k hk
  obtain ⟨l1, l1'⟩ := hled p.1 mi hmi hst.1 hk
  obtain ⟨l2, l2'⟩ := hled p.2 mj hmj hst.2 hk2
  rcases apart_get hK p hp with ⟨d1, d2, hh⟩ | hh
  · exact hh k (l1' d1) (l2' d2)
  · refine hh k l1 l2 ?_
    obtain ⟨b, hb, hall⟩ := mT_all u m is.length
    rw [hb, shp_append, List.length_append, shp_length m, Nat.add_sub_cancel, List.take_left']
    · rw [← hek]; exact shp_keys (hall q hq e he)
    · rfl

theorem sameC_base {k off : Nat} {c : AV} {m : Mem} : ∀ {b : Mem}, sameC b.length (b ++ m) k off c → (∃ cs, lookM m k = some (.box cs) ∧ cs[off]? = some c) ∧ ∀ e ∈ b, e.1 = k → ∃ cs, e.2 = some (.box cs) ∧ cs[off]? = some c
  | [], h => by
    simp only [List.length_nil, List.nil_append, sameC] at h
    split at h
    · rename_i cs hcs; exact ⟨⟨cs, hcs, h⟩, fun e he => by simp at he⟩
    · exact h.elim
  | (k', v) :: b, h => by
    simp only [List.length_cons, List.cons_append, sameC] at h
    obtain ⟨h1, h2⟩ := sameC_base h.2
    refine ⟨h1, fun e he hk => ?_⟩
    rcases List.mem_cons.1 he with rfl | he
    · have := h.1 hk
      split at this
      · rename_i cs; exact ⟨cs, rfl, this⟩
      · exact this.elim
    · exact h2 e he hk
theorem st_cons {c : Nat} {a z : Opd} {d : Option Nat} {t : Tmps} {m : Mem} {n : Nat} {x : AV} {u : Mem} (h : vinsD P ⟨d, .st c a z, none⟩ (Ex x u) t m n) : ∃ e r, u = e :: r := by
  simp only [vinsD, vrunD, vop] at h
  repeat' split at h
  all_goals first
    | exact h.elim
    | exact ⟨_, _, h.2.2.2.2.symm⟩
    | exact ⟨_, _, h.2.2.2.2.2.2.symm⟩
    | (obtain ⟨rr, uu, h1, _⟩ := stRow_exact h.2.2; exact ⟨_, _, h1.2.symm⟩)
    | (obtain ⟨e, _, h1⟩ := h.2.2.2.2; exact ⟨_, _, h1.2.symm⟩)
theorem mT_last {is : List MI} {x : Nat → AV} {u : Nat → Mem} {t : Tmps} {m : Mem} {n : Nat} (hst : ∀ (j : Nat) i, is[j]? = some i → StepD P i (tT is x t j) (mT u m j) (n + j) (x j) (u j)) (h : lastSt is = true) :
    ∃ b, (mT u m is.length).tail = b ++ m ∧ ∀ q, q + 1 < is.length → ∀ e ∈ u q, e ∈ b := by
  unfold lastSt at h
  split at h
  · rename_i d c a z heq
    have hl : 0 < is.length := by
      cases is with
      | nil => simp at heq
      | cons i r => simp
    have hi : is[is.length - 1]? = some ⟨d, .st c a z, none⟩ := by rw [← List.getLast?_eq_getElem?]; exact heq
    obtain ⟨e, r, hr⟩ := st_cons (hst _ _ hi).1
    obtain ⟨b, hb, hall⟩ := mT_all u m (is.length - 1)
    refine ⟨r ++ b, ?_, fun q hq e he => List.mem_append.2 (.inr (hall q (by omega) e he))⟩
    have : is.length = is.length - 1 + 1 := by omega
    rw [this, mT, hr, hb]; simp
  · cases h
theorem cell_ok {ops : Array Oper} {is : List MI} {x : Nat → AV} {u : Nat → Mem} {t tf : Tmps} {m : Mem} {n : Nat} (hst : ∀ (j : Nat) i, is[j]? = some i → StepD P i (tT is x t j) (mT u m j) (n + j) (x j) (u j)) (htf : ∀ s, look tf s = look (tT is x t is.length) s) {i : Nat} {mi : MI} (hmi : is[i]? = some mi) (hs : stableI is i = true)
    (h : cellAp tf (mT u m is.length) m.length is (zsOf ops is) i) : CellOk ops i is.length u m (tT is x t i) mi := by
  unfold cellAp at h
  rw [hmi] at h
  obtain ⟨b, hb, hall⟩ := mT_all u m is.length
  split at h
  · rename_i d z g heq
    cases heq
    have hev := stable_key htf hmi hs z (by simp [opnds])
    split at h
    · rename_i k off hz
      obtain ⟨c, hc⟩ := h
      cases hzs : (zsOf ops is).contains i with
      | false =>
        rw [hzs, cond_false, hb, List.length_append, Nat.add_sub_cancel] at hc
        obtain ⟨h1, h2⟩ := sameC_base hc
        exact ⟨z, k, off, c, rfl, by rw [← hev]; exact hz, h1, fun q hq => .inr fun e he hek => h2 e (hall q hq e he) hek⟩
      | true =>
        have hls : lastSt is = true := by
          unfold zsOf at hzs
          cases hl : lastSt is with
          | true => rfl
          | false => rw [hl] at hzs; simp at hzs
        have hpz : i ∈ pre ops is.length (is.length - 1) := by
          unfold zsOf at hzs
          rw [hls, cond_true, List.contains_eq_mem] at hzs
          simpa using hzs
        obtain ⟨b', hb', hall'⟩ := mT_last hst hls
        rw [hzs, cond_true, hb', List.length_append, Nat.add_sub_cancel] at hc
        obtain ⟨h1, h2⟩ := sameC_base hc
        refine ⟨z, k, off, c, rfl, by rw [← hev]; exact hz, h1, fun q hq => ?_⟩
        by_cases hql : q = is.length - 1
        · rw [hql]; exact .inl hpz
        · exact .inr fun e he hek => h2 e (hall' q (by omega) e he) hek
    · exact h.elim
  · exact h.elim
theorem apartY_get {t : Tmps} {m : Mem} {L : Nat} {is : List MI} {zs : List Nat} : ∀ {cs : List (Nat × Nat)}, apartY t m L is zs cs → ∀ p ∈ cs, apart t m L is [p] ∨ cellAp t m L is zs p.1 ∨ cellAp t m L is zs p.2
  | [], _, p, hp => by simp at hp
  | q :: cs, h, p, hp => by
    obtain ⟨i, j⟩ := q
    simp only [apartY] at h
    rcases List.mem_cons.1 hp with rfl | hp
    · exact h.1
    · exact apartY_get h.2 p hp

/-- a region that draws its order; the objects of the pairs cs are apart -/
theorem drawc_ok {ops : Array Oper} {is : List MI} {cs : List (Nat × Nat)} {K : Tmps → Mem → Nat → Prop} {w : World} {S : Nat → Prop} {κ : Nat → Option Loc} {t : Tmps} {m : Mem} {n : Nat} {a : Act} {id : Nat}
    {is0 : List MI} (hmix : P.follows .mixedOrders = true) (hc : cMIs P N ops ops.toList = some is0) (his : is = markM P ops is0) (hok : drawOkC ops is cs = true) (hstab : stableC is cs = true) (hno : noY is = true)
    (r : Rel X N w S κ t m (n ≤ ·) a) (h : vregsD P is (fun t' m' n' => apart t' m' m.length is cs ∧ K t' m' n') t m n)
    (hQ : ∀ a w, After X N K a w → Q .normal a w) : (Code.region id ops true).wp P Q a w := by
  have hg := cMIs_get ops.toList is0 hc
  have hx := markXs_get (is0.any (deepCall P)) ops is0 is0 0
  have hr := markRs_get (P := P) ops is0 (markX P ops is0) is0 0 hx.1 hx.2
  have hlen : is.length = ops.size := by rw [his]; simpa [markM, hr.1] using hg.1
  refine draw_any (cs := cs) (y := is.length) hmix hlen (fun j o ho => ?_) hok r h (fun j i k hi hk => (noY_get hno hi hk).elim) (fun x u tf _ _ htf hK p hp mi mj hmi hmj => .inl fun k hk hk2 q hq e he hek => ?_) (fun a w hh => hQ a w ?_)
  · obtain ⟨i0, h1, h2⟩ := hg.2 j o (by simpa using ho)
    obtain ⟨i, h3, h4⟩ := hr.2 j i0 h1
    exact ⟨i, i0, by rw [his]; exact h3, h2, h4⟩
  · have hst : stableI is p.1 = true ∧ stableI is p.2 = true := by
      have := (List.all_eq_true.1 hstab) p hp
      simpa using this
    exact pair_apart htf hK.1 hp hst hmi hmj hk hk2 hq he hek
  · obtain ⟨t', m', n', S', κ', h1, h2⟩ := after_n hh
    exact ⟨t', m', n', S', κ', h1.2, h2⟩

theorem markY_get (ops : Array Oper) (is : List MI) : (markY P ops is).length = is.length ∧ ∀ (q : Nat) i0, is[q]? = some i0 → ∃ i, (markY P ops is)[q]? = some i ∧ IsX i0 i := by
  have hx := markXs_get (is.any (deepCall P)) ops is is 0
  have hr := markRs_get (P := P) ops is (markX P ops is) is 0 hx.1 hx.2
  unfold markY
  split
  · exact hr
  · rename_i j _
    split
    · rename_i i hi
      refine ⟨by rw [List.length_set]; exact hr.1, fun q i0 hq => ?_⟩
      by_cases hqj : j = q
      · subst hqj
        rw [hi] at hq; cases hq
        have hjl : j < (markM P ops is).length := by
          have : (markM P ops is).length = is.length := hr.1
          rw [this]; exact (List.getElem?_eq_some_iff.1 hi).1
        exact ⟨_, by rw [List.getElem?_set_self hjl], .inr (.inr (.inr ⟨_, rfl⟩))⟩
      · rw [List.getElem?_set_ne hqj]; exact hr.2 q i0 hq
    · exact hr

/-- a region that draws its order, with a call from which two new objects may come back -/
theorem drawy_ok {ops : Array Oper} {is : List MI} {cs : List (Nat × Nat)} {zs : List Nat} {K : Tmps → Mem → Nat → Prop} {w : World} {S : Nat → Prop} {κ : Nat → Option Loc} {t : Tmps} {m : Mem} {n : Nat} {a : Act} {id y : Nat}
    {is0 : List MI} (hmix : P.follows .mixedOrders = true) (hc : cMIs P N ops ops.toList = some is0) (his : is = markY P ops is0) (hzs : zs = zsOf ops is) (hok : drawOkC ops is cs = true) (hstab : stableC is cs = true) (hy : okY y is = true)
    (r : Rel X N w S κ t m (n ≤ ·) a) (h : vregsD P is (fun t' m' n' => apartY t' m' m.length is zs cs ∧ K t' m' (n' + 1)) t m n)
    (hQ : ∀ a w, After X N K a w → Q .normal a w) : (Code.region id ops true).wp P Q a w := by
  have hg := cMIs_get ops.toList is0 hc
  have hr := markY_get (P := P) ops is0
  have hlen : is.length = ops.size := by rw [his]; simpa [hr.1] using hg.1
  subst hzs
  refine draw_any (cs := cs) (y := y) hmix hlen (fun j o ho => ?_) hok r h (fun j i k hi hk => okY_get hy hi hk) (fun x u tf _ hsteps htf hK p hp mi mj hmi hmj => ?_) (fun a w hh => hQ a w ?_)
  · obtain ⟨i0, h1, h2⟩ := hg.2 j o (by simpa using ho)
    obtain ⟨i, h3, h4⟩ := hr.2 j i0 h1
    exact ⟨i, i0, by rw [his]; exact h3, h2, h4⟩
  · have hst : stableI is p.1 = true ∧ stableI is p.2 = true := by
      have := (List.all_eq_true.1 hstab) p hp
      simpa using this
    rcases apartY_get hK.1 p hp with hh | hh | hh
    · exact .inl fun k hk hk2 q hq e he hek => pair_apart htf hh (by simp) hst hmi hmj hk hk2 hq he hek
    · exact .inr (.inl (cell_ok hsteps htf hmi hst.1 hh))
    · exact .inr (.inr (cell_ok hsteps htf hmj hst.2 hh))
  · obtain ⟨t', m', n', S', κ', h1, h2⟩ := hh
    refine ⟨t', m', n' + 1, S', κ', h1.2, h2.free fun k hk => ?_⟩
    have : n' + 1 ≤ k := hk
    show n' + (if y < is.length then 1 else 0) ≤ k
    split <;> omega

end Go.Av
