/- Regions that draw their order: every order comes to the same. -/
import Derived.Test.YtelcipdpfoipiaaAvP
namespace Go.Av
open Go.RowKit (Below)

variable {P : Program} {N : Nat} {X : Ctx} {Q : Exit → Act → World → Prop}

theorem cMIs_get {ops : Array Oper} : ∀ (l : List Oper) (is : List MI), cMIs P N ops l = some is → is.length = l.length ∧ ∀ (j : Nat) o, l[j]? = some o → ∃ i, is[j]? = some i ∧ cMI P N ops o = some i := by
  intro l
  induction l with
  | nil => intro is h; simp [cMIs] at h; subst h; simp
  | cons o l ih =>
    intro is h
    simp only [cMIs] at h
    split at h
    · rename_i i is' h1 h2
      simp at h; subst h
      have := ih is' h2
      refine ⟨by simp [this.1], fun j o' hj => ?_⟩
      cases j with
      | zero => simp at hj; subst hj; exact ⟨i, by simp, h1⟩
      | succ j => simpa using this.2 j o' (by simpa using hj)
    · cases h

/-- how many are left -/
def left (E : Nat → Bool) : Nat → Nat
  | 0 => 0
  | j + 1 => left E j + (bif E j then 0 else 1)

theorem left_zero {E : Nat → Bool} : ∀ l, left E l = 0 → ∀ i, i < l → E i = true
  | 0, _, i, hi => by omega
  | l + 1, h, i, hi => by
    simp only [left] at h
    cases hl : E l with
    | true =>
      by_cases hil : i = l
      · subst hil; exact hl
      · exact left_zero l (by omega) i (by omega)
    | false => simp [hl] at h

theorem left_same {E E' : Nat → Bool} : ∀ l, (∀ i, i < l → E i = E' i) → left E l = left E' l
  | 0, _ => rfl
  | l + 1, h => by simp only [left]; rw [left_same l (fun i hi => h i (by omega)), h l (by omega)]

def mark (E : Nat → Bool) (i : Nat) : Nat → Bool := fun j => bif Nat.beq j i then true else E j

theorem mark_self (E : Nat → Bool) (i : Nat) : mark E i i = true := by simp [mark]
theorem mark_ne (E : Nat → Bool) {i j : Nat} (h : j ≠ i) : mark E i j = E j := by
  have : Nat.beq j i = false := by cases hb : Nat.beq j i <;> simp_all
  simp [mark, this]

theorem left_set {E : Nat → Bool} {i : Nat} (hi : E i = false) : ∀ l, i < l → left (mark E i) l + 1 = left E l
  | 0, h => by omega
  | l + 1, h => by
    simp only [left]
    by_cases hil : i = l
    · subst hil
      rw [left_same (E := mark E i) (E' := E) i (fun j hj => mark_ne E (by omega)), mark_self, hi]
      simp
    · have := left_set hi l (by omega)
      rw [mark_ne E (show l ≠ i by omega)]
      omega

section
variable {ops : Array Oper} {is : List MI} {x : Nat → AV} {u : Nat → Mem} {t0 : Tmps} {m0 : Mem} {n0 : Nat}

def free (n0 l : Nat) (E : Nat → Bool) (k : Nat) : Prop := n0 + l ≤ k ∨ ∃ i, i < l ∧ E i = false ∧ k = n0 + i

theorem free_not {n0 l : Nat} {E : Nat → Bool} {k : Nat} (h : ¬ free n0 l E k) : k < n0 ∨ ∃ i, i < l ∧ E i = true ∧ k = n0 + i := by
  by_cases hk : k < n0
  · exact .inl hk
  · right
    have h1 : k < n0 + l := Nat.lt_of_not_le fun hh => h (.inl hh)
    refine ⟨k - n0, by omega, ?_, by omega⟩
    cases he : E (k - n0) with
    | true => rfl
    | false => exact (h (.inr ⟨k - n0, by omega, he, by omega⟩)).elim

structure DInv (P : Program) (X : Ctx) (N : Nat) (ops : Array Oper) (is : List MI) (x : Nat → AV) (u : Nat → Mem) (t0 : Tmps) (m0 : Mem) (n0 : Nat) (E : Nat → Bool) (a : Act) (w : World) : Prop where
  rel : ∃ S κ t m, Rel X N w S κ t m (free n0 is.length E) a ∧ (∀ s, look t s = valT is x t0 E is.length s) ∧ (∀ k, lookM m k = valM u m0 E is.length k)
  closed : ∀ j, j < is.length → E j = true → ∀ e ∈ direct ops j, E e = true
  written : ∀ j, j < is.length → E j = true → ∀ p ∈ u j, p.1 < n0 ∨ ∃ i, i < is.length ∧ E i = true ∧ p.1 = n0 + i

theorem preW_closed {E : Nat → Bool} (hlen : is.length = ops.size) (hc : ∀ j, j < is.length → E j = true → ∀ e ∈ direct ops j, E e = true) :
    ∀ f acc todo, (∀ e ∈ acc, E e = true) → (∀ e ∈ todo, E e = true) → ∀ i ∈ preW ops f acc todo, E i = true := by
  intro f
  induction f with
  | zero => intro acc todo h1 _ i hi; exact h1 i hi
  | succ f ih =>
    intro acc todo h1 h2 i hi
    cases todo with
    | nil => exact h1 i hi
    | cons j r =>
      simp only [preW] at hi
      cases hb : acc.contains j with
      | true =>
        rw [hb] at hi
        exact ih acc r h1 (fun e he => h2 e (by simp [he])) i hi
      | false =>
        rw [hb] at hi
        have hj := h2 j (by simp)
        refine ih (j :: acc) (direct ops j ++ r) (fun e he => (List.mem_cons.1 he).elim (fun h => h ▸ hj) (h1 e)) (fun e he => ?_) i hi
        rcases List.mem_append.1 he with he | he
        · by_cases hjl : j < is.length
          · exact hc j hjl hj e he
          · have : direct ops j = [] := by simp [direct, Array.getElem?_eq_none (show ops.size ≤ j by omega)]
            rw [this] at he; simp at he
        · exact h2 e (by simp [he])

theorem pre_closed {E : Nat → Bool} (hlen : is.length = ops.size) (hc : ∀ j, j < is.length → E j = true → ∀ e ∈ direct ops j, E e = true) :
    ∀ f j, (∀ e ∈ direct ops j, E e = true) → ∀ i ∈ pre ops f j, E i = true := fun f j hj i hi =>
  preW_closed hlen hc (f * f + f) [] (direct ops j) (fun e he => by simp at he) hj i hi

variable {cs : List (Nat × Nat)}

theorem drawOk_direct (h : drawOkC ops is cs = true) {j : Nat} (hj : j < is.length) : ∀ e ∈ direct ops j, e < j := by
  simp only [drawOkC, List.all_eq_true, List.mem_range, Bool.and_eq_true] at h
  intro e he
  simpa using (h.2 j hj).1 e he

theorem drawOk_slot (h : drawOkC ops is cs = true) {i j : Nat} {mi mj : MI} (hij : i < j) (hi : is[i]? = some mi) (hj : is[j]? = some mj) (hc : slotConf mi mj = true) : i ∈ pre ops is.length j := by
  simp only [drawOkC, List.all_eq_true, List.mem_range, Bool.and_eq_true] at h
  have hjl : j < is.length := (List.getElem?_eq_some_iff.1 hj).1
  have := (h.2 j hjl).2 i hij
  rw [hi, hj] at this
  simp [hc] at this
  exact this.1

theorem drawOk_mem (h : drawOkC ops is cs = true) {i j : Nat} {mi mj : MI} (hij : i < j) (hi : is[i]? = some mi) (hj : is[j]? = some mj) (hc : memConf mi mj = true) : i ∈ pre ops is.length j ∨ (i, j) ∈ cs := by
  simp only [drawOkC, List.all_eq_true, List.mem_range, Bool.and_eq_true] at h
  have hjl : j < is.length := (List.getElem?_eq_some_iff.1 hj).1
  have := (h.2 j hjl).2 i hij
  rw [hi, hj] at this
  simp [hc] at this
  exact this.2

/-- what the pairs cs look at in common, the region does not write -/
def Apart (is : List MI) (x : Nat → AV) (u : Nat → Mem) (t0 : Tmps) (m0 : Mem) (cs : List (Nat × Nat)) : Prop :=
  ∀ p ∈ cs, ∀ mi mj, is[p.1]? = some mi → is[p.2]? = some mj → ∀ k, TK mi.op (tT is x t0 p.1) (mT u m0 p.1) k → TK mj.op (tT is x t0 p.2) (mT u m0 p.2) k →
    ∀ q, q < is.length → ∀ e ∈ u q, e.1 ≠ k

/-- an own key that is there has been made -/
theorem mT_made (hfresh : ∀ k, n0 ≤ k → lookM m0 k = none) (hst : ∀ (j : Nat) i, is[j]? = some i → StepD P i (tT is x t0 j) (mT u m0 j) (n0 + j) (x j) (u j)) :
    ∀ j, j ≤ is.length → ∀ k, n0 ≤ k → lookM (mT u m0 j) k ≠ none → k < n0 + j := by
  intro j
  induction j with
  | zero => intro _ k hk h; exact (h (hfresh k hk)).elim
  | succ j ih =>
    intro hj k hk h
    simp only [mT, lookM_append] at h
    by_cases hu : lookU (u j) k = none
    · rw [hu] at h
      have := ih (by omega) k hk h; omega
    · obtain ⟨p, hp, rfl⟩ := lookU_mem hu
      have hmi : is[j]? = some is[j] := by simp
      rcases (hst j _ hmi).2 p hp with h1 | ⟨_, _, h1⟩
      · omega
      · have := ih (by omega) _ hk h1; omega

theorem draw_step (hlen : is.length = ops.size) (hcm : ∀ (j : Nat) o, ops[j]? = some o → ∃ i i0, is[j]? = some i ∧ cMI P N ops o = some i0 ∧ IsX i0 i) (hok : drawOkC ops is cs = true) (HA : Apart is x u t0 m0 cs)
    (hfresh : ∀ k, n0 ≤ k → lookM m0 k = none)
    (hst : ∀ (j : Nat) i, is[j]? = some i → StepD P i (tT is x t0 j) (mT u m0 j) (n0 + j) (x j) (u j))
    {E : Nat → Bool} {a : Act} {w : World} (I : DInv P X N ops is x u t0 m0 n0 E a w) {i : Nat} (hil : i < is.length) (hE : E i = false) (hready : ∀ e ∈ direct ops i, E e = true)
    {K' : Act → World → Prop} (hK : ∀ a w, DInv P X N ops is x u t0 m0 n0 (mark E i) a w → K' a w) : wpOp P ops Q i K' a w := by
  obtain ⟨S, κ, t, m, r, ht, hm⟩ := I.rel
  have ho : ∃ o, ops[i]? = some o := ⟨ops[i]'(by omega), by simp⟩
  obtain ⟨o, ho⟩ := ho
  obtain ⟨mi, mi0, hmi, hci, hix⟩ := hcm i o ho
  have hcl := I.closed
  -- what is before i is done
  have hpre : ∀ j mj, j < i → is[j]? = some mj → slotConf mj mi = true → E j = true := fun j mj hj hmj hc =>
    pre_closed hlen hcl _ i hready j (drawOk_slot hok hj hmj hmi hc)
  have hpreM : ∀ j mj, j < i → is[j]? = some mj → memConf mj mi = true → E j = true ∨ (j, i) ∈ cs := fun j mj hj hmj hc =>
    (drawOk_mem hok hj hmj hmi hc).imp (fun h => pre_closed hlen hcl _ i hready j h) id
  -- what is behind i is not done
  have notYet : ∀ j mj, is[j]? = some mj → i ∈ pre ops is.length j → E j = false := fun j mj hmj hc => by
    cases hej : E j with
    | false => rfl
    | true =>
      have hjl : j < is.length := (List.getElem?_eq_some_iff.1 hmj).1
      have := pre_closed hlen hcl _ j (hcl j hjl hej) i hc
      rw [hE] at this; cases this
  have hpost : ∀ j mj, i < j → is[j]? = some mj → slotConf mi mj = true → E j = false := fun j mj hj hmj hc => notYet j mj hmj (drawOk_slot hok hj hmi hmj hc)
  have hpostM : ∀ j mj, i < j → is[j]? = some mj → memConf mi mj = true → E j = false ∨ (i, j) ∈ cs := fun j mj hj hmj hc =>
    (drawOk_mem hok hj hmi hmj hc).imp (notYet j mj hmj) id
  have hget : ∀ j (hj : j < is.length), is[j]? = some is[j] := fun j hj => by simp [hj]
  have hdOf : ∀ {j s}, dOf is j = some s → ∃ mj, is[j]? = some mj ∧ mj.d = some s := fun {j s} h => by
    simp only [dOf, Option.bind_eq_some_iff] at h
    exact h
  have hslot : ∀ s ∈ slotsOf mi, look t s = look (tT is x t0 i) s := fun s hs => by
    rw [ht, tT_val, valT_above (j := i) is.length (by omega) (fun j hj hjl hd => ?_)]
    · refine valT_congr i (fun j hj hd => ?_)
      obtain ⟨mj, hmj, hd⟩ := hdOf hd
      exact hpre j mj hj hmj (by simp [slotConf, hd, hs])
    · by_cases hji : j = i
      · subst hji; exact hE
      · obtain ⟨mj, hmj, hd⟩ := hdOf hd
        exact hpost j mj (by omega) hmj (by simp [slotConf, hd, hs])
  have hev : ∀ y ∈ opnds mi.op, ev t y = ev (tT is x t0 i) y := fun y hy => by
    cases y with
    | t s => exact hslot s (by simp only [slotsOf, List.mem_append, List.mem_filterMap]; exact .inl ⟨.t s, hy, rfl⟩)
    | c v => rfl
  have hplace0 : ∀ y ∈ opnds mi.op, ∀ k ∈ keysIn (ev (tT is x t0 i) y), ¬ free n0 is.length E k := fun y hy k hk hf => by
    rw [← hev y hy] at hk
    cases y with
    | t s => exact keysIn_place (r.tm s) k hk (r.ent.fresh k hf).2
    | c v =>
      have hcon : constOk mi = true := by
        simp only [drawOkC, Bool.and_eq_true, List.all_eq_true] at hok
        exact hok.1 mi (List.mem_of_getElem? hmi)
      simp only [constOk, List.all_eq_true] at hcon
      have := hcon _ hy
      simp only [List.isEmpty_iff] at this
      simp only [ev] at hk
      rw [this] at hk; simp at hk
  have hstay : rdI mi = true → ∀ k, TK mi.op (tT is x t0 i) (mT u m0 i) k → ¬ free n0 is.length E k → ∀ ob, lookM (mT u m0 i) k = some ob → lookM m k = some ob := fun hrd k hk hnf ob hob => by
    rw [hm, ← hob, mT_val, valM_above (j := i) is.length (by omega) (fun j hj hjl hu => ?_)]
    · refine valM_congr i (fun j hj hu => ?_)
      have hmj := hget j (by omega)
      obtain ⟨p, hp, hpk⟩ := lookU_mem hu
      rcases (hst j _ hmj).2 p hp with h1 | ⟨h1, hkz, _⟩
      · rcases free_not hnf with h2 | ⟨i2, _, h3, h4⟩
        · omega
        · have : i2 = j := by omega
          subst this; exact h3
      · rcases hpreM j _ hj hmj (by simp [memConf, wrI, h1, hrd]) with hh | hh
        · exact hh
        · exact (HA (j, i) hh _ _ hmj hmi k (hpk ▸ hkz) hk j (by omega) p hp hpk).elim
    · by_cases hji : j = i
      · subst hji; exact hE
      · have hmj := hget j (by omega)
        obtain ⟨p, hp, hpk⟩ := lookU_mem hu
        rcases (hst j _ hmj).2 p hp with h1 | ⟨h1, hkz, _⟩
        · have := mT_made hfresh hst i (by omega) k (by omega) (by rw [hob]; simp)
          omega
        · rcases hpostM j _ (by omega) hmj (by simp [memConf, wrI, h1, hrd]) with hh | hh
          · exact hh
          · exact (HA (i, j) hh _ _ hmi hmj k hk (hpk ▸ hkz) j (by omega) p hp hpk).elim
  have hdeep : rdI mi = true → ∀ (f : Nat) (ks : List Nat), (∀ k ∈ ks, ¬ free n0 is.length E k) → (∀ k ∈ rch (mT u m0 i) f ks, TK mi.op (tT is x t0 i) (mT u m0 i) k) →
      ∀ k ∈ rch (mT u m0 i) f ks, ¬ free n0 is.length E k := fun hrd f => by
    induction f with
    | zero => intro ks h1 _ k hk; exact h1 k hk
    | succ f ih =>
      intro ks h1 h2 k hk
      simp only [rch, List.mem_append] at hk h2
      rcases hk with hk | hk
      · exact h1 k hk
      · refine ih (bks (mT u m0 i) ks) (fun q hq hf => ?_) (fun q hq => h2 q (.inr hq)) k hk
        obtain ⟨k0, hk0, hq⟩ := bks_mem.1 hq
        cases ho : lookM (mT u m0 i) k0 with
        | none => rw [ho] at hq; simp [bk] at hq
        | some o =>
          have hs := hstay hrd k0 (h2 k0 (.inl hk0)) (h1 k0 hk0) o ho
          rw [ho] at hq
          cases o with
          | box cs =>
            simp only [bk] at hq
            obtain ⟨y, hy, hqy⟩ := keysInL_mem.1 (kys_sub.2 cs q hq)
            obtain ⟨l, _, _, vs, T, _, _, hc⟩ := r.ent.mm _ _ hs
            obtain ⟨j, hj, rfl⟩ := List.getElem_of_mem hy
            obtain ⟨c, _, hR⟩ := hc j cs[j] (by simp [hj])
            exact keysIn_place hR q hqy (r.ent.fresh q hf).2
          | _ => simp [bk] at hq
  have hplace : ∀ k, TK mi.op (tT is x t0 i) (mT u m0 i) k → ¬ free n0 is.length E k := fun k hk => by
    rcases hk with ⟨y, hy, hk⟩ | ⟨hd, hk⟩
    · exact hplace0 y hy k hk
    · have hrd : rdI mi = true := by
        unfold rdI
        cases hop : mi.op <;> simp [hop, deepM, rdM] at hd ⊢
      refine hdeep hrd 3 _ (fun q hq => ?_) (fun q hq => .inr ⟨hd, hq⟩) k hk
      obtain ⟨z, hz, hqz⟩ := keysInL_mem.1 hq
      obtain ⟨y, hy, rfl⟩ := evs_mem hz
      exact hplace0 y hy q hqz
  have hmem : rdI mi = true → ∀ k, TK mi.op (tT is x t0 i) (mT u m0 i) k → ∀ ob, lookM (mT u m0 i) k = some ob → lookM m k = some ob := fun hrd k hk ob hob => hstay hrd k hk (hplace k hk) ob hob
  have hstep := hst i mi hmi
  have hFi : free n0 is.length E (n0 + i) := .inr ⟨i, hil, hE, rfl⟩
  simp only [wpOp, ho]
  refine insD_ok hci hix r hFi (vinsD_local hslot hmem hstep.1) (fun a' w' => ?_)
  rintro ⟨S', κ', r'⟩
  refine hK a' w' ⟨⟨S', κ', _, _, r'.free fun k hk => ?_, fun s => ?_, fun k => ?_⟩, fun j hj hej e he => ?_, fun j hj hej p hp => ?_⟩
  · rcases hk with hk | ⟨i2, h1, h2, rfl⟩
    · exact ⟨.inl hk, by omega⟩
    · have hne : i2 ≠ i := fun h => by subst h; rw [mark_self] at h2; cases h2
      rw [mark_ne E hne] at h2
      exact ⟨.inr ⟨i2, h1, h2, rfl⟩, by omega⟩
  · have hdi : dOf is i = mi.d := by simp [dOf, hmi]
    rw [look_putT]
    by_cases hd : mi.d = some s
    · rw [if_pos hd, valT_above (j := i + 1) is.length (by omega) (fun j hj hjl hdj => ?_)]
      · simp only [valT]; rw [if_pos ⟨mark_self E i, by rw [hdi]; exact hd⟩]
      · rw [mark_ne E (by omega)]
        obtain ⟨mj, hmj, hdj⟩ := hdOf hdj
        exact hpost j mj (by omega) hmj (by simp [slotConf, hd, hdj])
    · rw [if_neg hd, ht]
      refine valT_congr _ (fun j hj hdj => ?_)
      rw [mark_ne E (fun h => hd (by subst h; rw [hdi] at hdj; exact hdj))]
  · rw [lookM_append]
    by_cases hu : lookU (u i) k = none
    · rw [hu, hm]
      refine valM_congr _ (fun j hj huj => ?_)
      rw [mark_ne E (fun h => huj (by subst h; exact hu))]
    · rw [valM_above (j := i + 1) is.length (by omega) (fun j hj hjl huj => ?_)]
      · simp only [valM, mark_self, if_true]
        cases hv : lookU (u i) k with
        | none => exact (hu hv).elim
        | some v => rfl
      · rw [mark_ne E (by omega)]
        have hmj := hget j (by omega)
        obtain ⟨p, hp, hpk⟩ := lookU_mem hu
        obtain ⟨q, hq, hqk⟩ := lookU_mem huj
        rcases hstep.2 p hp with h1 | ⟨h1, hky, hlive⟩
        · cases hej : E j with
          | false => rfl
          | true =>
            rcases I.written j (by omega) hej q hq with h2 | ⟨i2, _, h3, h4⟩
            · omega
            · have : i2 = i := by omega
              subst this; rw [hE] at h3; cases h3
        · rcases (hst j _ hmj).2 q hq with h2 | ⟨h2, hkz, _⟩
          · have := mT_made hfresh hst i (by omega) p.1 (by omega) hlive
            omega
          · rcases hpostM j _ (by omega) hmj (by simp [memConf, wrI, h1, h2]) with hh | hh
            · exact hh
            · exact (HA (i, j) hh _ _ hmi hmj p.1 hky (by rw [hpk, ← hqk]; exact hkz) i (by omega) p hp rfl).elim
  · by_cases hji : j = i
    · subst hji
      by_cases hei : e = j
      · subst hei; exact mark_self _ _
      · rw [mark_ne E hei]; exact hready e he
    · rw [mark_ne E hji] at hej
      by_cases hei : e = i
      · subst hei; exact mark_self _ _
      · rw [mark_ne E hei]; exact hcl j hj hej e he
  · have up : ∀ {k : Nat}, (k < n0 ∨ ∃ i2, i2 < is.length ∧ E i2 = true ∧ k = n0 + i2) → k < n0 ∨ ∃ i2, i2 < is.length ∧ mark E i i2 = true ∧ k = n0 + i2 := fun {k} h => by
      rcases h with h | ⟨i2, h1, h2, h3⟩
      · exact .inl h
      · refine .inr ⟨i2, h1, ?_, h3⟩
        by_cases hh : i2 = i
        · subst hh; exact mark_self _ _
        · rw [mark_ne E hh]; exact h2
    by_cases hji : j = i
    · subst hji
      rcases hstep.2 p hp with h1 | ⟨h1, hky, hlive⟩
      · exact .inr ⟨j, hil, mark_self _ _, h1⟩
      · exact up (free_not (hplace _ hky))
    · rw [mark_ne E hji] at hej
      exact up (I.written j hj hej p hp)

theorem draw_all (hlen : is.length = ops.size) (hcm : ∀ (j : Nat) o, ops[j]? = some o → ∃ i i0, is[j]? = some i ∧ cMI P N ops o = some i0 ∧ IsX i0 i) (hok : drawOkC ops is cs = true) (HA : Apart is x u t0 m0 cs)
    (hfresh : ∀ k, n0 ≤ k → lookM m0 k = none)
    (hst : ∀ (j : Nat) i, is[j]? = some i → StepD P i (tT is x t0 j) (mT u m0 j) (n0 + j) (x j) (u j)) {K : Tmps → Mem → Nat → Prop}
    {tf : Tmps} (htf : ∀ s, look tf s = look (tT is x t0 is.length) s) (hK : K tf (mT u m0 is.length) (n0 + is.length)) (hQ : ∀ a w, After X N K a w → Q .normal a w) :
    ∀ (fuel : Nat) (listed : Array Bool) (E : Nat → Bool) (a : Act) (w : World), listed.size = ops.size → (∀ i, i < ops.size → listed[i]? = some (E i)) → left E is.length ≤ fuel →
      DInv P X N ops is x u t0 m0 n0 E a w → wpAny P .any ops Q fuel listed a w := by
  have fin : ∀ (E : Nat → Bool) (a : Act) (w : World), (∀ i, i < is.length → E i = true) → DInv P X N ops is x u t0 m0 n0 E a w → Q .normal a w := fun E a w hall I => by
    obtain ⟨S, κ, t, m, r, ht, hm⟩ := I.rel
    refine hQ _ _ ⟨_, _, _, S, κ, hK, ?_⟩
    refine Rel.congr (t := t) (m := m) (r.free fun k hk => .inl hk) (fun s => ?_) (fun k => ?_)
    · rw [ht, htf, tT_val]; exact (valT_congr _ (fun i hi _ => (hall i hi).symm))
    · rw [hm, mT_val]; exact (valM_congr _ (fun i hi _ => (hall i hi).symm))
  have hrd : ∀ (listed : Array Bool) (E : Nat → Bool), listed.size = ops.size → (∀ i, i < ops.size → listed[i]? = some (E i)) → ∀ i, i ∈ Region.ready .any ops listed ↔ i < ops.size ∧ E i = false ∧ ∀ e ∈ direct ops i, e < ops.size ∧ E e = true := fun listed E hs hl i => by
    simp only [Region.ready, List.mem_filter, List.mem_range, Bool.and_eq_true]
    constructor
    · rintro ⟨h1, h2, h3⟩
      have ho : ops[i]? = some ops[i] := by simp
      refine ⟨h1, ?_, fun e he => ?_⟩
      · simpa [Array.getD_eq_getD_getElem?, hl i h1] using h2
      · rw [ho] at h3
        simp only [Option.map_some, Option.getD_some] at h3
        simp only [direct, ho, List.mem_map, List.mem_filter] at he
        obtain ⟨ed, ⟨hed, hb⟩, rfl⟩ := he
        have := (Array.all_eq_true_iff_forall_mem.1 h3) ed (by simpa using hed)
        simp only [hb, Bool.not_true, Bool.false_or] at this
        by_cases hee : ed.on < ops.size
        · exact ⟨hee, by simpa [Array.getD_eq_getD_getElem?, hl _ hee] using this⟩
        · rw [Array.getD_eq_getD_getElem?, Array.getElem?_eq_none (by omega)] at this; simp at this
    · rintro ⟨h1, h2, h3⟩
      have ho : ops[i]? = some ops[i] := by simp
      refine ⟨h1, by simp [Array.getD_eq_getD_getElem?, hl i h1, h2], ?_⟩
      rw [ho]
      simp only [Option.map_some, Option.getD_some]
      rw [Array.all_eq_true_iff_forall_mem]
      intro ed hed
      cases hb : Region.binds .any ed with
      | false => simp
      | true =>
        have := h3 ed.on (by simp only [direct, ho, List.mem_map, List.mem_filter]; exact ⟨ed, ⟨by simpa using hed, hb⟩, rfl⟩)
        simp [Array.getD_eq_getD_getElem?, hl _ this.1, this.2]
  have hmin : ∀ (E : Nat → Bool), (∃ i, i < ops.size ∧ E i = false) → ∃ i, i < ops.size ∧ E i = false ∧ ∀ j, j < i → E j = true := fun E => by
    rintro ⟨i, hi, he⟩
    induction i using Nat.strongRecOn with
    | _ i ih =>
      by_cases h : ∃ j, j < i ∧ E j = false
      · obtain ⟨j, hj, hej⟩ := h
        exact ih j hj (by omega) hej
      · refine ⟨i, hi, he, fun j hj => ?_⟩
        cases hej : E j with
        | true => rfl
        | false => exact (h ⟨j, hj, hej⟩).elim
  intro fuel
  induction fuel with
  | zero =>
    intro listed E a w hs hl hfu I
    have hall := left_zero (E := E) is.length (by omega)
    refine ⟨?_, fin E a w hall I⟩
    apply List.eq_nil_iff_forall_not_mem.2
    intro i hi
    have := (hrd listed E hs hl i).1 hi
    rw [hall i (by omega)] at this
    cases this.2.1
  | succ fuel ih =>
    intro listed E a w hs hl hfu I
    refine ⟨fun hr => ?_, fun i hi => ?_⟩
    · by_cases h : ∃ i, i < ops.size ∧ E i = false
      · obtain ⟨i, h1, h2, h3⟩ := hmin E h
        have : i ∈ Region.ready .any ops listed := (hrd listed E hs hl i).2 ⟨h1, h2, fun e he => by
          have := drawOk_direct hok (show i < is.length by omega) e he
          exact ⟨by omega, h3 e this⟩⟩
        rw [hr] at this; simp at this
      · refine fin E a w (fun i hi => ?_) I
        cases hei : E i with
        | true => rfl
        | false => exact (h ⟨i, by omega, hei⟩).elim
    · obtain ⟨h1, h2, h3⟩ := (hrd listed E hs hl i).1 hi
      refine draw_step hlen hcm hok HA hfresh hst I (by omega) h2 (fun e he => (h3 e he).2) (fun a' w' I' => ?_)
      refine ih _ (mark E i) a' w' (by simp [hs]) (fun j hj => ?_) ?_ I'
      · by_cases hji : j = i
        · subst hji; rw [mark_self]; simp [hs, hj]
        · rw [mark_ne E hji, Array.getElem?_setIfInBounds_ne (fun h => hji h.symm)]; exact hl j hj
      · have := left_set h2 is.length (by omega); omega

end

/-- a region that draws its order -/
theorem draw_any {ops : Array Oper} {is : List MI} {cs : List (Nat × Nat)} {K : Tmps → Mem → Nat → Prop} {w : World} {S : Nat → Prop} {κ : Nat → Option Loc} {t : Tmps} {m : Mem} {n : Nat} {a : Act} {id : Nat}
    (hmix : P.follows .mixedOrders = true) (hlen : is.length = ops.size) (hcm : ∀ (j : Nat) o, ops[j]? = some o → ∃ i i0, is[j]? = some i ∧ cMI P N ops o = some i0 ∧ IsX i0 i)
    (hok : drawOkC ops is cs = true) (r : Rel X N w S κ t m (n ≤ ·) a) (h : vregsD P is K t m n)
    (HA : ∀ (x : Nat → AV) (u : Nat → Mem) (tf : Tmps) (nf : Nat), (∀ s, look tf s = look (tT is x t is.length) s) → K tf (mT u m is.length) nf → Apart is x u t m cs)
    (hQ : ∀ a w, After X N K a w → Q .normal a w) : (Code.region id ops true).wp P Q a w := by
  obtain ⟨x, u, tf, hst, htf, hK⟩ := table is t t m n (fun _ => rfl) h
  refine wp_region_any hmix ?_
  refine draw_all hlen hcm hok (HA x u tf _ htf hK) (fun k hk => (r.ent.fresh k hk).1) hst htf hK hQ ops.size _ (fun _ => false) a _ (by simp) (fun i hi => by simp [hi]) ?_ ?_
  · have : ∀ l, left (fun _ => false) l ≤ l := by
      intro l; induction l with
      | zero => simp [left]
      | succ l ih => simp only [left, cond_false]; omega
    have := this is.length; omega
  · refine ⟨⟨S, κ, t, m, (r.heap (w' := { w with drawn := w.drawn + 1 }) rfl rfl rfl rfl).free fun k hk => ?_, fun s => ?_, fun k => ?_⟩, (fun j _ h => by cases h), (fun j _ h => by cases h)⟩
    · rcases hk with hk | ⟨i, _, _, rfl⟩ <;> (show n ≤ _; omega)
    · have : ∀ l, valT is x t (fun _ => false) l s = look t s := by
        intro l; induction l with
        | zero => rfl
        | succ l ih => simp [valT, ih]
      rw [this]
    · have : ∀ l, valM u m (fun _ => false) l k = lookM m k := by
        intro l; induction l with
        | zero => rfl
        | succ l ih => simp [valM, ih]
      rw [this]

theorem draw_ok {ops : Array Oper} {is : List MI} {K : Tmps → Mem → Nat → Prop} {w : World} {S : Nat → Prop} {κ : Nat → Option Loc} {t : Tmps} {m : Mem} {n : Nat} {a : Act} {id : Nat}
    {is0 : List MI} (hmix : P.follows .mixedOrders = true) (hc : cMIs P N ops ops.toList = some is0) (his : is = markX P ops is0) (hok : drawOk ops is = true) (r : Rel X N w S κ t m (n ≤ ·) a) (h : vregsD P is K t m n)
    (hQ : ∀ a w, After X N K a w → Q .normal a w) : (Code.region id ops true).wp P Q a w := by
  have hg := cMIs_get ops.toList is0 hc
  have hx := markXs_get (is0.any (deepCall P)) ops is0 is0 0
  have hlen : is.length = ops.size := by rw [his]; simpa [markX, hx.1] using hg.1
  refine draw_any (cs := []) hmix hlen (fun j o ho => ?_) hok r h (fun _ _ _ _ _ _ p hp => by simp at hp) hQ
  obtain ⟨i0, h1, h2⟩ := hg.2 j o (by simpa using ho)
  obtain ⟨i, h3, h4⟩ := hx.2 j i0 h1
  exact ⟨i, i0, by rw [his]; exact h3, h2, h4.imp (fun h => h) .inl⟩

theorem hstep_mem {ks : List Nat} {k q : Nat} {l : List Nat} : ∀ {s : List (Nat × List Nat)}, (k, l) ∈ s → k ∈ ks → q ∈ l → q ∈ hstep ks s
  | (k', l') :: s, h, hk, hq => by
    simp only [hstep]
    rcases List.mem_cons.1 h with h | h
    · cases h
      have : ks.contains k = true := by rw [List.contains_eq_mem]; simpa using hk
      rw [this]
      exact List.mem_append.2 (.inl hq)
    · have ih := hstep_mem h hk hq
      cases ks.contains k' with
      | true => exact List.mem_append.2 (.inr ih)
      | false => exact ih
theorem hch_sub {s : List (Nat × List Nat)} : ∀ {f : Nat} {ks ks' : List Nat}, (∀ k ∈ ks, k ∈ ks') → ∀ k ∈ hch s f ks, k ∈ hch s f ks'
  | 0, _, _, h, k, hk => h k hk
  | f + 1, ks, ks', h, k, hk => by
    simp only [hch, List.mem_append] at hk ⊢
    refine hk.imp (h k) (hch_sub (fun q hq => ?_) k)
    have : ∀ {s : List (Nat × List Nat)}, q ∈ hstep ks s → q ∈ hstep ks' s := fun {s} hq => by
      induction s with
      | nil => simp [hstep] at hq
      | cons e s ih =>
        obtain ⟨k1, l1⟩ := e
        simp only [hstep] at hq ⊢
        cases hb : ks.contains k1 with
        | true =>
          rw [hb] at hq
          rw [List.contains_eq_mem] at hb
          have hb' : ks'.contains k1 = true := by rw [List.contains_eq_mem]; simpa using h k1 (by simpa using hb)
          rw [hb']
          exact (List.mem_append.1 hq).elim (fun h => List.mem_append.2 (.inl h)) (fun h => List.mem_append.2 (.inr (ih h)))
        | false =>
          rw [hb] at hq
          cases ks'.contains k1 with
          | true => exact List.mem_append.2 (.inr (ih hq))
          | false => exact ih hq
    exact this hq
theorem shp_mem {k : Nat} {o : MObj} : ∀ {m : Mem}, lookM m k = some o → (k, bk (some o)) ∈ shp m
  | [], h => by simp [lookM] at h
  | (k', v) :: r, h => by
    simp only [shp]
    by_cases hk : k' = k
    · subst hk; rw [lookM_cons_eq] at h; subst h; simp
    · rw [lookM_cons_ne _ _ hk] at h; exact List.mem_cons_of_mem _ (shp_mem h)
theorem shp_append (a b : Mem) : shp (a ++ b) = shp a ++ shp b := by
  induction a with
  | nil => rfl
  | cons e a ih => obtain ⟨k, o⟩ := e; simp [shp, ih]
theorem shp_length (a : Mem) : (shp a).length = a.length := by
  induction a with
  | nil => rfl
  | cons e a ih => obtain ⟨k, o⟩ := e; simp [shp, ih]
theorem shp_keys {e : Nat × Option MObj} : ∀ {a : Mem}, e ∈ a → e.1 ∈ (shp a).map (·.1)
  | (k, o) :: r, h => by
    simp only [shp, List.map_cons, List.mem_cons]
    rcases List.mem_cons.1 h with rfl | h
    · exact .inl rfl
    · exact .inr (shp_keys h)
/-- what is led to now, is led to later, as far as it was ever told -/
theorem rch_hch {a m : Mem} : ∀ {f : Nat} {ks : List Nat}, ∀ k ∈ rch m f ks, k ∈ hch (shp (a ++ m)) f ks
  | 0, _, k, hk => hk
  | f + 1, ks, k, hk => by
    simp only [rch, hch, List.mem_append] at hk ⊢
    refine hk.imp id (fun h => hch_sub (fun q hq => ?_) k (rch_hch (a := a) k h))
    obtain ⟨k0, h1, h2⟩ := bks_mem.1 hq
    cases ho : lookM m k0 with
    | none => rw [ho] at h2; simp [bk] at h2
    | some o =>
      rw [ho] at h2
      exact hstep_mem (by rw [shp_append]; exact List.mem_append.2 (.inr (shp_mem ho))) h1 h2
theorem mT_pre (u : Nat → Mem) (m0 : Mem) : ∀ {i l : Nat}, i ≤ l → ∃ a, mT u m0 l = a ++ mT u m0 i
  | i, 0, h => by obtain rfl : i = 0 := by omega
                  exact ⟨[], rfl⟩
  | i, l + 1, h => by
    by_cases hi : i = l + 1
    · subst hi; exact ⟨[], rfl⟩
    · obtain ⟨a, ha⟩ := mT_pre u m0 (i := i) (l := l) (by omega)
      exact ⟨u l ++ a, by rw [mT, ha, List.append_assoc]⟩
theorem mT_all (u : Nat → Mem) (m0 : Mem) : ∀ (l : Nat), ∃ a, mT u m0 l = a ++ m0 ∧ ∀ q, q < l → ∀ e ∈ u q, e ∈ a
  | 0 => ⟨[], rfl, fun q hq => by omega⟩
  | l + 1 => by
    obtain ⟨a, ha, hh⟩ := mT_all u m0 l
    refine ⟨u l ++ a, by rw [mT, ha, List.append_assoc], fun q hq e he => List.mem_append.2 ?_⟩
    by_cases hql : q = l
    · subst hql; exact .inl he
    · exact .inr (hh q (by omega) e he)

theorem apart_get {t : Tmps} {m : Mem} {L : Nat} {is : List MI} : ∀ {cs : List (Nat × Nat)}, apart t m L is cs → ∀ p ∈ cs, (deepAt is p.1 = false ∧ deepAt is p.2 = false ∧ ∀ k ∈ opKeys t is p.1, k ∉ opKeys t is p.2) ∨
    ∀ k ∈ led (deepAt is p.1) (shp m) (opKeys t is p.1), k ∈ led (deepAt is p.2) (shp m) (opKeys t is p.2) → k ∉ ((shp m).take ((shp m).length - L)).map (·.1) := by
  intro cs
  induction cs with
  | nil => intro _ p hp; simp at hp
  | cons q cs ih =>
    intro h p hp
    obtain ⟨i, j⟩ := q
    simp only [apart] at h
    rcases List.mem_cons.1 hp with rfl | hp
    · cases hb : deepAt is i || deepAt is j with
      | true =>
        rw [hb] at h
        right
        intro k h1 h2 h3
        have := (List.all_eq_true.1 (show pairOk _ _ _ _ _ _ = true from h.1)) k h1
        simp only [List.contains_eq_mem, Bool.or_eq_true, Bool.not_eq_true', decide_eq_false_iff_not] at this
        exact this.elim (fun hh => hh h2) (fun hh => hh h3)
      | false =>
        rw [hb] at h
        simp only [Bool.or_eq_false_iff] at hb
        refine .inl ⟨hb.1, hb.2, fun k hk hk2 => ?_⟩
        have := (List.all_eq_true.1 (show (opKeys t is i).all _ = true from h.1)) k hk
        rw [List.contains_eq_mem] at this
        simp at this; exact this hk2
    · exact ih h.2 p hp

/-- a region that draws its order; the objects of the pairs cs are apart -/
theorem drawc_ok {ops : Array Oper} {is : List MI} {cs : List (Nat × Nat)} {K : Tmps → Mem → Nat → Prop} {w : World} {S : Nat → Prop} {κ : Nat → Option Loc} {t : Tmps} {m : Mem} {n : Nat} {a : Act} {id : Nat}
    {is0 : List MI} (hmix : P.follows .mixedOrders = true) (hc : cMIs P N ops ops.toList = some is0) (his : is = markM P ops is0) (hok : drawOkC ops is cs = true) (hstab : stableC is cs = true)
    (r : Rel X N w S κ t m (n ≤ ·) a) (h : vregsD P is (fun t' m' n' => apart t' m' m.length is cs ∧ K t' m' n') t m n)
    (hQ : ∀ a w, After X N K a w → Q .normal a w) : (Code.region id ops true).wp P Q a w := by
  have hg := cMIs_get ops.toList is0 hc
  have hx := markXs_get (is0.any (deepCall P)) ops is0 is0 0
  have hr := markRs_get (P := P) ops is0 (markX P ops is0) is0 0 hx.1 hx.2
  have hlen : is.length = ops.size := by rw [his]; simpa [markM, hr.1] using hg.1
  refine draw_any (cs := cs) hmix hlen (fun j o ho => ?_) hok r h (fun x u tf _ htf hK p hp mi mj hmi hmj k hk hk2 q hq e he hek => ?_) (fun a w hh => hQ a w ?_)
  · obtain ⟨i0, h1, h2⟩ := hg.2 j o (by simpa using ho)
    obtain ⟨i, h3, h4⟩ := hr.2 j i0 h1
    exact ⟨i, i0, by rw [his]; exact h3, h2, h4⟩
  · have hst : stableI is p.1 = true ∧ stableI is p.2 = true := by
      have := (List.all_eq_true.1 hstab) p hp
      simpa using this
    have key : ∀ (i : Nat) (mm : MI), is[i]? = some mm → stableI is i = true → ∀ y ∈ opnds mm.op, ev tf y = ev (tT is x t i) y := fun i mm hmm hs y hy => by
      cases y with
      | c v => rfl
      | t s =>
        have hil : i < is.length := (List.getElem?_eq_some_iff.1 hmm).1
        have hsl : s ∈ slotsOf mm := by simp only [slotsOf, List.mem_append, List.mem_filterMap]; exact .inl ⟨.t s, hy, rfl⟩
        show look tf s = look (tT is x t i) s
        rw [htf, tT_val, tT_val]
        refine valT_above is.length (by omega) (fun q hq hql hd => ?_)
        exfalso
        simp only [stableI, List.all_eq_true, List.mem_range] at hs
        have := hs q hql
        rw [hmm, hd] at this
        simp at this
        rcases this with h1 | h1
        · omega
        · exact h1 hsl
    have hled : ∀ (i : Nat) (mm : MI), is[i]? = some mm → stableI is i = true → TK mm.op (tT is x t i) (mT u m i) k → k ∈ led (deepAt is i) (shp (mT u m is.length)) (opKeys tf is i) ∧ (deepAt is i = false → k ∈ opKeys tf is i) := fun i mm hmm hs hk => by
      have hil : i < is.length := (List.getElem?_eq_some_iff.1 hmm).1
      have hev : ∀ y ∈ opnds mm.op, ev (tT is x t i) y = ev tf y := fun y hy => (key i mm hmm hs y hy).symm
      have hok' : opKeys tf is i = keysInL (evs tf (opnds mm.op)) := by simp only [opKeys, hmm]
      have hda : deepAt is i = deepM mm.op := by simp only [deepAt, hmm]
      rcases TK_same hev hk with ⟨y, hy, hk⟩ | ⟨hd, hk⟩
      · have h0 : k ∈ opKeys tf is i := by rw [hok']; exact evs_keys hy hk
        refine ⟨?_, fun _ => h0⟩
        unfold led
        cases deepAt is i with
        | true => simp only [cond_true, hch, List.mem_append]; exact .inl h0
        | false => exact h0
      · obtain ⟨b, hb⟩ := mT_pre u m (i := i) (l := is.length) (by omega)
        rw [hda, hd]
        refine ⟨?_, fun h => by cases h⟩
        unfold led
        rw [hok', hb]
        exact rch_hch k hk
    obtain ⟨l1, l1'⟩ := hled p.1 mi hmi hst.1 hk
    obtain ⟨l2, l2'⟩ := hled p.2 mj hmj hst.2 hk2
    rcases apart_get hK.1 p hp with ⟨d1, d2, hh⟩ | hh
    · exact hh k (l1' d1) (l2' d2)
    · refine hh k l1 l2 ?_
      obtain ⟨b, hb, hall⟩ := mT_all u m is.length
      rw [hb, shp_append, List.length_append, shp_length m, Nat.add_sub_cancel, List.take_left']
      · rw [← hek]; exact shp_keys (hall q hq e he)
      · rfl
  · obtain ⟨t', m', n', S', κ', h1, h2⟩ := hh
    exact ⟨t', m', n', S', κ', h1.2, h2⟩

end Go.Av
