/- Regions that draw their order: every order comes to the same. -/
import Derived.Test.YtegokadlkgghlaaAvP
namespace Go.Av
open Go.RowKit (Below)

variable {P : Program} {N : Nat} {X : Ctx} {Q : Exit → Act → World → Prop}

theorem cMIs_get {ops : Array Oper} : ∀ (l : List Oper) (is : List MI), cMIs P N ops l = some is → is.length = l.length ∧ ∀ (j : Nat) o, l[j]? = some o → ∃ i, is[j]? = some i ∧ cMI P N ops o = some i := by
  intro l
  induction l with
  | nil => intro is h; simp [cMIs] at h; subst h; simp
  | cons o l ih =>
    intro is h
    simp only [cMIs] at h
    split at h
    · rename_i i is' h1 h2
      simp at h; subst h
      have := ih is' h2
      refine ⟨by simp [this.1], fun j o' hj => ?_⟩
      cases j with
      | zero => simp at hj; subst hj; exact ⟨i, by simp, h1⟩
      | succ j => simpa using this.2 j o' (by simpa using hj)
    · cases h

/-- how many are left -/
def left (E : Nat → Bool) : Nat → Nat
  | 0 => 0
  | j + 1 => left E j + (bif E j then 0 else 1)

theorem left_zero {E : Nat → Bool} : ∀ l, left E l = 0 → ∀ i, i < l → E i = true
  | 0, _, i, hi => by omega
  | l + 1, h, i, hi => by
    simp only [left] at h
    cases hl : E l with
    | true =>
      by_cases hil : i = l
      · subst hil; exact hl
      · exact left_zero l (by omega) i (by omega)
    | false => simp [hl] at h

theorem left_same {E E' : Nat → Bool} : ∀ l, (∀ i, i < l → E i = E' i) → left E l = left E' l
  | 0, _ => rfl
  | l + 1, h => by simp only [left]; rw [left_same l (fun i hi => h i (by omega)), h l (by omega)]

def mark (E : Nat → Bool) (i : Nat) : Nat → Bool := fun j => bif Nat.beq j i then true else E j

theorem mark_self (E : Nat → Bool) (i : Nat) : mark E i i = true := by simp [mark]
theorem mark_ne (E : Nat → Bool) {i j : Nat} (h : j ≠ i) : mark E i j = E j := by
  have : Nat.beq j i = false := by cases hb : Nat.beq j i <;> simp_all
  simp [mark, this]

theorem left_set {E : Nat → Bool} {i : Nat} (hi : E i = false) : ∀ l, i < l → left (mark E i) l + 1 = left E l
  | 0, h => by omega
  | l + 1, h => by
    simp only [left]
    by_cases hil : i = l
    · subst hil
      rw [left_same (E := mark E i) (E' := E) i (fun j hj => mark_ne E (by omega)), mark_self, hi]
      simp
    · have := left_set hi l (by omega)
      rw [mark_ne E (show l ≠ i by omega)]
      omega

section
variable {ops : Array Oper} {is : List MI} {x : Nat → AV} {u : Nat → Mem} {t0 : Tmps} {m0 : Mem} {n0 : Nat}

def free (n0 l : Nat) (E : Nat → Bool) (k : Nat) : Prop := n0 + l ≤ k ∨ ∃ i, i < l ∧ E i = false ∧ k = n0 + i

theorem free_not {n0 l : Nat} {E : Nat → Bool} {k : Nat} (h : ¬ free n0 l E k) : k < n0 ∨ ∃ i, i < l ∧ E i = true ∧ k = n0 + i := by
  by_cases hk : k < n0
  · exact .inl hk
  · right
    have h1 : k < n0 + l := Nat.lt_of_not_le fun hh => h (.inl hh)
    refine ⟨k - n0, by omega, ?_, by omega⟩
    cases he : E (k - n0) with
    | true => rfl
    | false => exact (h (.inr ⟨k - n0, by omega, he, by omega⟩)).elim

structure DInv (P : Program) (X : Ctx) (N : Nat) (ops : Array Oper) (is : List MI) (x : Nat → AV) (u : Nat → Mem) (t0 : Tmps) (m0 : Mem) (n0 : Nat) (E : Nat → Bool) (a : Act) (w : World) : Prop where
  rel : ∃ S κ t m, Rel X N w S κ t m (free n0 is.length E) a ∧ (∀ s, look t s = valT is x t0 E is.length s) ∧ (∀ k, lookM m k = valM u m0 E is.length k)
  closed : ∀ j, j < is.length → E j = true → ∀ e ∈ direct ops j, E e = true
  written : ∀ j, j < is.length → E j = true → ∀ p ∈ u j, p.1 < n0 ∨ ∃ i, i < is.length ∧ E i = true ∧ p.1 = n0 + i

theorem pre_closed {E : Nat → Bool} (hlen : is.length = ops.size) (hc : ∀ j, j < is.length → E j = true → ∀ e ∈ direct ops j, E e = true) :
    ∀ f j, (∀ e ∈ direct ops j, E e = true) → ∀ i ∈ pre ops f j, E i = true := by
  intro f
  induction f with
  | zero => intro j _ i hi; simp [pre] at hi
  | succ f ih =>
    intro j hj i hi
    simp only [pre, List.mem_append, List.mem_flatMap] at hi
    rcases hi with hi | ⟨d, hd, hi⟩
    · exact hj i hi
    · by_cases hdl : d < is.length
      · exact ih d (hc d hdl (hj d hd)) i hi
      · have : direct ops d = [] := by simp [direct, Array.getElem?_eq_none (show ops.size ≤ d by omega)]
        cases f with
        | zero => simp [pre] at hi
        | succ f => simp [pre, this] at hi

variable {cs : List (Nat × Nat)}

theorem drawOk_direct (h : drawOkC ops is cs = true) {j : Nat} (hj : j < is.length) : ∀ e ∈ direct ops j, e < j := by
  simp only [drawOkC, List.all_eq_true, List.mem_range, Bool.and_eq_true] at h
  intro e he
  simpa using (h.2 j hj).1 e he

theorem drawOk_slot (h : drawOkC ops is cs = true) {i j : Nat} {mi mj : MI} (hij : i < j) (hi : is[i]? = some mi) (hj : is[j]? = some mj) (hc : slotConf mi mj = true) : i ∈ pre ops is.length j := by
  simp only [drawOkC, List.all_eq_true, List.mem_range, Bool.and_eq_true] at h
  have hjl : j < is.length := (List.getElem?_eq_some_iff.1 hj).1
  have := (h.2 j hjl).2 i hij
  rw [hi, hj] at this
  simp [hc] at this
  exact this.1

theorem drawOk_mem (h : drawOkC ops is cs = true) {i j : Nat} {mi mj : MI} (hij : i < j) (hi : is[i]? = some mi) (hj : is[j]? = some mj) (hc : memConf mi mj = true) : i ∈ pre ops is.length j ∨ (i, j) ∈ cs := by
  simp only [drawOkC, List.all_eq_true, List.mem_range, Bool.and_eq_true] at h
  have hjl : j < is.length := (List.getElem?_eq_some_iff.1 hj).1
  have := (h.2 j hjl).2 i hij
  rw [hi, hj] at this
  simp [hc] at this
  exact this.2

/-- the pairs cs look at nothing in common -/
def Apart (is : List MI) (x : Nat → AV) (t0 : Tmps) (cs : List (Nat × Nat)) : Prop :=
  ∀ p ∈ cs, ∀ mi mj, is[p.1]? = some mi → is[p.2]? = some mj → ∀ y ∈ opnds mi.op, ∀ z ∈ opnds mj.op, ∀ k ∈ keysIn (ev (tT is x t0 p.1) y), k ∉ keysIn (ev (tT is x t0 p.2) z)

/-- an own key that is there has been made -/
theorem mT_made (hfresh : ∀ k, n0 ≤ k → lookM m0 k = none) (hst : ∀ (j : Nat) i, is[j]? = some i → StepD P i (tT is x t0 j) (mT u m0 j) (n0 + j) (x j) (u j)) :
    ∀ j, j ≤ is.length → ∀ k, n0 ≤ k → lookM (mT u m0 j) k ≠ none → k < n0 + j := by
  intro j
  induction j with
  | zero => intro _ k hk h; exact (h (hfresh k hk)).elim
  | succ j ih =>
    intro hj k hk h
    simp only [mT, lookM_append] at h
    by_cases hu : lookU (u j) k = none
    · rw [hu] at h
      have := ih (by omega) k hk h; omega
    · obtain ⟨p, hp, rfl⟩ := lookU_mem hu
      have hmi : is[j]? = some is[j] := by simp
      rcases (hst j _ hmi).2 p hp with h1 | ⟨_, _, h1⟩
      · omega
      · have := ih (by omega) _ hk h1; omega

theorem draw_step (hlen : is.length = ops.size) (hcm : ∀ (j : Nat) o, ops[j]? = some o → ∃ i i0, is[j]? = some i ∧ cMI P N ops o = some i0 ∧ IsX i0 i) (hok : drawOkC ops is cs = true) (HA : Apart is x t0 cs)
    (hfresh : ∀ k, n0 ≤ k → lookM m0 k = none)
    (hst : ∀ (j : Nat) i, is[j]? = some i → StepD P i (tT is x t0 j) (mT u m0 j) (n0 + j) (x j) (u j))
    {E : Nat → Bool} {a : Act} {w : World} (I : DInv P X N ops is x u t0 m0 n0 E a w) {i : Nat} (hil : i < is.length) (hE : E i = false) (hready : ∀ e ∈ direct ops i, E e = true)
    {K' : Act → World → Prop} (hK : ∀ a w, DInv P X N ops is x u t0 m0 n0 (mark E i) a w → K' a w) : wpOp P ops Q i K' a w := by
  obtain ⟨S, κ, t, m, r, ht, hm⟩ := I.rel
  have ho : ∃ o, ops[i]? = some o := ⟨ops[i]'(by omega), by simp⟩
  obtain ⟨o, ho⟩ := ho
  obtain ⟨mi, mi0, hmi, hci, hix⟩ := hcm i o ho
  have hcl := I.closed
  -- what is before i is done
  have hpre : ∀ j mj, j < i → is[j]? = some mj → slotConf mj mi = true → E j = true := fun j mj hj hmj hc =>
    pre_closed hlen hcl _ i hready j (drawOk_slot hok hj hmj hmi hc)
  have hpreM : ∀ j mj, j < i → is[j]? = some mj → memConf mj mi = true → E j = true ∨ (j, i) ∈ cs := fun j mj hj hmj hc =>
    (drawOk_mem hok hj hmj hmi hc).imp (fun h => pre_closed hlen hcl _ i hready j h) id
  -- what is behind i is not done
  have notYet : ∀ j mj, is[j]? = some mj → i ∈ pre ops is.length j → E j = false := fun j mj hmj hc => by
    cases hej : E j with
    | false => rfl
    | true =>
      have hjl : j < is.length := (List.getElem?_eq_some_iff.1 hmj).1
      have := pre_closed hlen hcl _ j (hcl j hjl hej) i hc
      rw [hE] at this; cases this
  have hpost : ∀ j mj, i < j → is[j]? = some mj → slotConf mi mj = true → E j = false := fun j mj hj hmj hc => notYet j mj hmj (drawOk_slot hok hj hmi hmj hc)
  have hpostM : ∀ j mj, i < j → is[j]? = some mj → memConf mi mj = true → E j = false ∨ (i, j) ∈ cs := fun j mj hj hmj hc =>
    (drawOk_mem hok hj hmi hmj hc).imp (notYet j mj hmj) id
  have hget : ∀ j (hj : j < is.length), is[j]? = some is[j] := fun j hj => by simp [hj]
  have hdOf : ∀ {j s}, dOf is j = some s → ∃ mj, is[j]? = some mj ∧ mj.d = some s := fun {j s} h => by
    simp only [dOf, Option.bind_eq_some_iff] at h
    exact h
  have hslot : ∀ s ∈ slotsOf mi, look t s = look (tT is x t0 i) s := fun s hs => by
    rw [ht, tT_val, valT_above (j := i) is.length (by omega) (fun j hj hjl hd => ?_)]
    · refine valT_congr i (fun j hj hd => ?_)
      obtain ⟨mj, hmj, hd⟩ := hdOf hd
      exact hpre j mj hj hmj (by simp [slotConf, hd, hs])
    · by_cases hji : j = i
      · subst hji; exact hE
      · obtain ⟨mj, hmj, hd⟩ := hdOf hd
        exact hpost j mj (by omega) hmj (by simp [slotConf, hd, hs])
  have hev : ∀ y ∈ opnds mi.op, ev t y = ev (tT is x t0 i) y := fun y hy => by
    cases y with
    | t s => exact hslot s (by simp only [slotsOf, List.mem_append, List.mem_filterMap]; exact .inl ⟨.t s, hy, rfl⟩)
    | c v => rfl
  have hplace : ∀ y ∈ opnds mi.op, ∀ k ∈ keysIn (ev (tT is x t0 i) y), ¬ free n0 is.length E k := fun y hy k hk hf => by
    rw [← hev y hy] at hk
    cases y with
    | t s => exact keysIn_place (r.tm s) k hk (r.ent.fresh k hf).2
    | c v =>
      have hcon : constOk mi = true := by
        simp only [drawOkC, Bool.and_eq_true, List.all_eq_true] at hok
        exact hok.1 mi (List.mem_of_getElem? hmi)
      simp only [constOk, List.all_eq_true] at hcon
      have := hcon _ hy
      simp only [List.isEmpty_iff] at this
      simp only [ev] at hk
      rw [this] at hk; simp at hk
  have hmem : rdI mi = true → ∀ y ∈ opnds mi.op, ∀ k ∈ keysIn (ev (tT is x t0 i) y), ∀ ob, lookM (mT u m0 i) k = some ob → lookM m k = some ob := fun hrd y hy k hk ob hob => by
    have hnf := hplace y hy k hk
    rw [hm, ← hob, mT_val, valM_above (j := i) is.length (by omega) (fun j hj hjl hu => ?_)]
    · refine valM_congr i (fun j hj hu => ?_)
      have hmj := hget j (by omega)
      obtain ⟨p, hp, hpk⟩ := lookU_mem hu
      rcases (hst j _ hmj).2 p hp with h1 | ⟨h1, ⟨z, hz, hkz⟩, _⟩
      · rcases free_not hnf with h2 | ⟨i2, _, h3, h4⟩
        · omega
        · have : i2 = j := by omega
          subst this; exact h3
      · rcases hpreM j _ hj hmj (by simp [memConf, wrI, h1, hrd]) with hh | hh
        · exact hh
        · exact (HA (j, i) hh _ _ hmj hmi z hz y hy k (hpk ▸ hkz) hk).elim
    · by_cases hji : j = i
      · subst hji; exact hE
      · have hmj := hget j (by omega)
        obtain ⟨p, hp, hpk⟩ := lookU_mem hu
        rcases (hst j _ hmj).2 p hp with h1 | ⟨h1, ⟨z, hz, hkz⟩, _⟩
        · have := mT_made hfresh hst i (by omega) k (by omega) (by rw [hob]; simp)
          omega
        · rcases hpostM j _ (by omega) hmj (by simp [memConf, wrI, h1, hrd]) with hh | hh
          · exact hh
          · exact (HA (i, j) hh _ _ hmi hmj y hy z hz k hk (hpk ▸ hkz)).elim
  have hstep := hst i mi hmi
  have hFi : free n0 is.length E (n0 + i) := .inr ⟨i, hil, hE, rfl⟩
  simp only [wpOp, ho]
  refine insD_ok hci hix r hFi (vinsD_local hslot hmem hstep.1) (fun a' w' => ?_)
  rintro ⟨S', κ', r'⟩
  refine hK a' w' ⟨⟨S', κ', _, _, r'.free fun k hk => ?_, fun s => ?_, fun k => ?_⟩, fun j hj hej e he => ?_, fun j hj hej p hp => ?_⟩
  · rcases hk with hk | ⟨i2, h1, h2, rfl⟩
    · exact ⟨.inl hk, by omega⟩
    · have hne : i2 ≠ i := fun h => by subst h; rw [mark_self] at h2; cases h2
      rw [mark_ne E hne] at h2
      exact ⟨.inr ⟨i2, h1, h2, rfl⟩, by omega⟩
  · have hdi : dOf is i = mi.d := by simp [dOf, hmi]
    rw [look_putT]
    by_cases hd : mi.d = some s
    · rw [if_pos hd, valT_above (j := i + 1) is.length (by omega) (fun j hj hjl hdj => ?_)]
      · simp only [valT]; rw [if_pos ⟨mark_self E i, by rw [hdi]; exact hd⟩]
      · rw [mark_ne E (by omega)]
        obtain ⟨mj, hmj, hdj⟩ := hdOf hdj
        exact hpost j mj (by omega) hmj (by simp [slotConf, hd, hdj])
    · rw [if_neg hd, ht]
      refine valT_congr _ (fun j hj hdj => ?_)
      rw [mark_ne E (fun h => hd (by subst h; rw [hdi] at hdj; exact hdj))]
  · rw [lookM_append]
    by_cases hu : lookU (u i) k = none
    · rw [hu, hm]
      refine valM_congr _ (fun j hj huj => ?_)
      rw [mark_ne E (fun h => huj (by subst h; exact hu))]
    · rw [valM_above (j := i + 1) is.length (by omega) (fun j hj hjl huj => ?_)]
      · simp only [valM, mark_self, if_true]
        cases hv : lookU (u i) k with
        | none => exact (hu hv).elim
        | some v => rfl
      · rw [mark_ne E (by omega)]
        have hmj := hget j (by omega)
        obtain ⟨p, hp, hpk⟩ := lookU_mem hu
        obtain ⟨q, hq, hqk⟩ := lookU_mem huj
        rcases hstep.2 p hp with h1 | ⟨h1, ⟨y, hy, hky⟩, hlive⟩
        · cases hej : E j with
          | false => rfl
          | true =>
            rcases I.written j (by omega) hej q hq with h2 | ⟨i2, _, h3, h4⟩
            · omega
            · have : i2 = i := by omega
              subst this; rw [hE] at h3; cases h3
        · rcases (hst j _ hmj).2 q hq with h2 | ⟨h2, ⟨z, hz, hkz⟩, _⟩
          · have := mT_made hfresh hst i (by omega) p.1 (by omega) hlive
            omega
          · rcases hpostM j _ (by omega) hmj (by simp [memConf, wrI, h1, h2]) with hh | hh
            · exact hh
            · exact (HA (i, j) hh _ _ hmi hmj y hy z hz p.1 hky (by rw [hpk, ← hqk]; exact hkz)).elim
  · by_cases hji : j = i
    · subst hji
      by_cases hei : e = j
      · subst hei; exact mark_self _ _
      · rw [mark_ne E hei]; exact hready e he
    · rw [mark_ne E hji] at hej
      by_cases hei : e = i
      · subst hei; exact mark_self _ _
      · rw [mark_ne E hei]; exact hcl j hj hej e he
  · have up : ∀ {k : Nat}, (k < n0 ∨ ∃ i2, i2 < is.length ∧ E i2 = true ∧ k = n0 + i2) → k < n0 ∨ ∃ i2, i2 < is.length ∧ mark E i i2 = true ∧ k = n0 + i2 := fun {k} h => by
      rcases h with h | ⟨i2, h1, h2, h3⟩
      · exact .inl h
      · refine .inr ⟨i2, h1, ?_, h3⟩
        by_cases hh : i2 = i
        · subst hh; exact mark_self _ _
        · rw [mark_ne E hh]; exact h2
    by_cases hji : j = i
    · subst hji
      rcases hstep.2 p hp with h1 | ⟨h1, ⟨y, hy, hky⟩, hlive⟩
      · exact .inr ⟨j, hil, mark_self _ _, h1⟩
      · exact up (free_not (hplace y hy _ hky))
    · rw [mark_ne E hji] at hej
      exact up (I.written j hj hej p hp)

theorem draw_all (hlen : is.length = ops.size) (hcm : ∀ (j : Nat) o, ops[j]? = some o → ∃ i i0, is[j]? = some i ∧ cMI P N ops o = some i0 ∧ IsX i0 i) (hok : drawOkC ops is cs = true) (HA : Apart is x t0 cs)
    (hfresh : ∀ k, n0 ≤ k → lookM m0 k = none)
    (hst : ∀ (j : Nat) i, is[j]? = some i → StepD P i (tT is x t0 j) (mT u m0 j) (n0 + j) (x j) (u j)) {K : Tmps → Mem → Nat → Prop}
    {tf : Tmps} (htf : ∀ s, look tf s = look (tT is x t0 is.length) s) (hK : K tf (mT u m0 is.length) (n0 + is.length)) (hQ : ∀ a w, After X N K a w → Q .normal a w) :
    ∀ (fuel : Nat) (listed : Array Bool) (E : Nat → Bool) (a : Act) (w : World), listed.size = ops.size → (∀ i, i < ops.size → listed[i]? = some (E i)) → left E is.length ≤ fuel →
      DInv P X N ops is x u t0 m0 n0 E a w → wpAny P .any ops Q fuel listed a w := by
  have fin : ∀ (E : Nat → Bool) (a : Act) (w : World), (∀ i, i < is.length → E i = true) → DInv P X N ops is x u t0 m0 n0 E a w → Q .normal a w := fun E a w hall I => by
    obtain ⟨S, κ, t, m, r, ht, hm⟩ := I.rel
    refine hQ _ _ ⟨_, _, _, S, κ, hK, ?_⟩
    refine Rel.congr (t := t) (m := m) (r.free fun k hk => .inl hk) (fun s => ?_) (fun k => ?_)
    · rw [ht, htf, tT_val]; exact (valT_congr _ (fun i hi _ => (hall i hi).symm))
    · rw [hm, mT_val]; exact (valM_congr _ (fun i hi _ => (hall i hi).symm))
  have hrd : ∀ (listed : Array Bool) (E : Nat → Bool), listed.size = ops.size → (∀ i, i < ops.size → listed[i]? = some (E i)) → ∀ i, i ∈ Region.ready .any ops listed ↔ i < ops.size ∧ E i = false ∧ ∀ e ∈ direct ops i, e < ops.size ∧ E e = true := fun listed E hs hl i => by
    simp only [Region.ready, List.mem_filter, List.mem_range, Bool.and_eq_true]
    constructor
    · rintro ⟨h1, h2, h3⟩
      have ho : ops[i]? = some ops[i] := by simp
      refine ⟨h1, ?_, fun e he => ?_⟩
      · simpa [Array.getD_eq_getD_getElem?, hl i h1] using h2
      · rw [ho] at h3
        simp only [Option.map_some, Option.getD_some] at h3
        simp only [direct, ho, List.mem_map, List.mem_filter] at he
        obtain ⟨ed, ⟨hed, hb⟩, rfl⟩ := he
        have := (Array.all_eq_true_iff_forall_mem.1 h3) ed (by simpa using hed)
        simp only [hb, Bool.not_true, Bool.false_or] at this
        by_cases hee : ed.on < ops.size
        · exact ⟨hee, by simpa [Array.getD_eq_getD_getElem?, hl _ hee] using this⟩
        · rw [Array.getD_eq_getD_getElem?, Array.getElem?_eq_none (by omega)] at this; simp at this
    · rintro ⟨h1, h2, h3⟩
      have ho : ops[i]? = some ops[i] := by simp
      refine ⟨h1, by simp [Array.getD_eq_getD_getElem?, hl i h1, h2], ?_⟩
      rw [ho]
      simp only [Option.map_some, Option.getD_some]
      rw [Array.all_eq_true_iff_forall_mem]
      intro ed hed
      cases hb : Region.binds .any ed with
      | false => simp
      | true =>
        have := h3 ed.on (by simp only [direct, ho, List.mem_map, List.mem_filter]; exact ⟨ed, ⟨by simpa using hed, hb⟩, rfl⟩)
        simp [Array.getD_eq_getD_getElem?, hl _ this.1, this.2]
  have hmin : ∀ (E : Nat → Bool), (∃ i, i < ops.size ∧ E i = false) → ∃ i, i < ops.size ∧ E i = false ∧ ∀ j, j < i → E j = true := fun E => by
    rintro ⟨i, hi, he⟩
    induction i using Nat.strongRecOn with
    | _ i ih =>
      by_cases h : ∃ j, j < i ∧ E j = false
      · obtain ⟨j, hj, hej⟩ := h
        exact ih j hj (by omega) hej
      · refine ⟨i, hi, he, fun j hj => ?_⟩
        cases hej : E j with
        | true => rfl
        | false => exact (h ⟨j, hj, hej⟩).elim
  intro fuel
  induction fuel with
  | zero =>
    intro listed E a w hs hl hfu I
    have hall := left_zero (E := E) is.length (by omega)
    refine ⟨?_, fin E a w hall I⟩
    apply List.eq_nil_iff_forall_not_mem.2
    intro i hi
    have := (hrd listed E hs hl i).1 hi
    rw [hall i (by omega)] at this
    cases this.2.1
  | succ fuel ih =>
    intro listed E a w hs hl hfu I
    refine ⟨fun hr => ?_, fun i hi => ?_⟩
    · by_cases h : ∃ i, i < ops.size ∧ E i = false
      · obtain ⟨i, h1, h2, h3⟩ := hmin E h
        have : i ∈ Region.ready .any ops listed := (hrd listed E hs hl i).2 ⟨h1, h2, fun e he => by
          have := drawOk_direct hok (show i < is.length by omega) e he
          exact ⟨by omega, h3 e this⟩⟩
        rw [hr] at this; simp at this
      · refine fin E a w (fun i hi => ?_) I
        cases hei : E i with
        | true => rfl
        | false => exact (h ⟨i, by omega, hei⟩).elim
    · obtain ⟨h1, h2, h3⟩ := (hrd listed E hs hl i).1 hi
      refine draw_step hlen hcm hok HA hfresh hst I (by omega) h2 (fun e he => (h3 e he).2) (fun a' w' I' => ?_)
      refine ih _ (mark E i) a' w' (by simp [hs]) (fun j hj => ?_) ?_ I'
      · by_cases hji : j = i
        · subst hji; rw [mark_self]; simp [hs, hj]
        · rw [mark_ne E hji, Array.getElem?_setIfInBounds_ne (fun h => hji h.symm)]; exact hl j hj
      · have := left_set h2 is.length (by omega); omega

end

/-- a region that draws its order -/
theorem draw_any {ops : Array Oper} {is : List MI} {cs : List (Nat × Nat)} {K : Tmps → Mem → Nat → Prop} {w : World} {S : Nat → Prop} {κ : Nat → Option Loc} {t : Tmps} {m : Mem} {n : Nat} {a : Act} {id : Nat}
    (hmix : P.follows .mixedOrders = true) (hlen : is.length = ops.size) (hcm : ∀ (j : Nat) o, ops[j]? = some o → ∃ i i0, is[j]? = some i ∧ cMI P N ops o = some i0 ∧ IsX i0 i)
    (hok : drawOkC ops is cs = true) (r : Rel X N w S κ t m (n ≤ ·) a) (h : vregsD P is K t m n)
    (HA : ∀ (x : Nat → AV) (tf : Tmps) (mf : Mem) (nf : Nat), (∀ s, look tf s = look (tT is x t is.length) s) → K tf mf nf → Apart is x t cs)
    (hQ : ∀ a w, After X N K a w → Q .normal a w) : (Code.region id ops true).wp P Q a w := by
  obtain ⟨x, u, tf, hst, htf, hK⟩ := table is t t m n (fun _ => rfl) h
  refine wp_region_any hmix ?_
  refine draw_all hlen hcm hok (HA x tf _ _ htf hK) (fun k hk => (r.ent.fresh k hk).1) hst htf hK hQ ops.size _ (fun _ => false) a _ (by simp) (fun i hi => by simp [hi]) ?_ ?_
  · have : ∀ l, left (fun _ => false) l ≤ l := by
      intro l; induction l with
      | zero => simp [left]
      | succ l ih => simp only [left, cond_false]; omega
    have := this is.length; omega
  · refine ⟨⟨S, κ, t, m, (r.heap (w' := { w with drawn := w.drawn + 1 }) rfl rfl rfl rfl).free fun k hk => ?_, fun s => ?_, fun k => ?_⟩, (fun j _ h => by cases h), (fun j _ h => by cases h)⟩
    · rcases hk with hk | ⟨i, _, _, rfl⟩ <;> (show n ≤ _; omega)
    · have : ∀ l, valT is x t (fun _ => false) l s = look t s := by
        intro l; induction l with
        | zero => rfl
        | succ l ih => simp [valT, ih]
      rw [this]
    · have : ∀ l, valM u m (fun _ => false) l k = lookM m k := by
        intro l; induction l with
        | zero => rfl
        | succ l ih => simp [valM, ih]
      rw [this]

theorem draw_ok {ops : Array Oper} {is : List MI} {K : Tmps → Mem → Nat → Prop} {w : World} {S : Nat → Prop} {κ : Nat → Option Loc} {t : Tmps} {m : Mem} {n : Nat} {a : Act} {id : Nat}
    {is0 : List MI} (hmix : P.follows .mixedOrders = true) (hc : cMIs P N ops ops.toList = some is0) (his : is = markX ops is0) (hok : drawOk ops is = true) (r : Rel X N w S κ t m (n ≤ ·) a) (h : vregsD P is K t m n)
    (hQ : ∀ a w, After X N K a w → Q .normal a w) : (Code.region id ops true).wp P Q a w := by
  have hg := cMIs_get ops.toList is0 hc
  have hx := markXs_get ops is0 is0 0
  have hlen : is.length = ops.size := by rw [his]; simpa [markX, hx.1] using hg.1
  refine draw_any (cs := []) hmix hlen (fun j o ho => ?_) hok r h (fun _ _ _ _ _ _ p hp => by simp at hp) hQ
  obtain ⟨i0, h1, h2⟩ := hg.2 j o (by simpa using ho)
  obtain ⟨i, h3, h4⟩ := hx.2 j i0 h1
  exact ⟨i, i0, by rw [his]; exact h3, h2, h4.imp (fun h => h) .inl⟩

theorem apart_get {t : Tmps} {is : List MI} : ∀ {cs : List (Nat × Nat)}, apart t is cs → ∀ p ∈ cs, ∀ k ∈ opKeys t is p.1, k ∉ opKeys t is p.2 := by
  intro cs
  induction cs with
  | nil => intro _ p hp; simp at hp
  | cons q cs ih =>
    intro h p hp k hk hk2
    obtain ⟨i, j⟩ := q
    simp only [apart] at h
    rcases List.mem_cons.1 hp with rfl | hp
    · have := (List.all_eq_true.1 h.1) k hk
      rw [List.contains_eq_mem] at this
      simp at this; exact this hk2
    · exact ih h.2 p hp k hk hk2

theorem evs_keys {t : Tmps} : ∀ {l : List Opd} {y : Opd} {k : Nat}, y ∈ l → k ∈ keysIn (ev t y) → k ∈ keysInL (evs t l) := by
  intro l y k hy hk
  refine keysInL_mem.2 ⟨ev t y, ?_, hk⟩
  induction l with
  | nil => simp at hy
  | cons z l ih =>
    rcases List.mem_cons.1 hy with rfl | hy
    · simp [evs]
    · simp [evs, ih hy]

/-- a region that draws its order; the objects of the pairs cs are apart -/
theorem drawc_ok {ops : Array Oper} {is : List MI} {cs : List (Nat × Nat)} {K : Tmps → Mem → Nat → Prop} {w : World} {S : Nat → Prop} {κ : Nat → Option Loc} {t : Tmps} {m : Mem} {n : Nat} {a : Act} {id : Nat}
    {is0 : List MI} (hmix : P.follows .mixedOrders = true) (hc : cMIs P N ops ops.toList = some is0) (his : is = markM P ops is0) (hok : drawOkC ops is cs = true) (hstab : stableC is cs = true)
    (r : Rel X N w S κ t m (n ≤ ·) a) (h : vregsD P is (fun t m n => apart t is cs ∧ K t m n) t m n)
    (hQ : ∀ a w, After X N K a w → Q .normal a w) : (Code.region id ops true).wp P Q a w := by
  have hg := cMIs_get ops.toList is0 hc
  have hx := markXs_get ops is0 is0 0
  have hr := markRs_get (P := P) ops is0 (markX ops is0) is0 0 hx.1 hx.2
  have hlen : is.length = ops.size := by rw [his]; simpa [markM, hr.1] using hg.1
  refine draw_any (cs := cs) hmix hlen (fun j o ho => ?_) hok r h (fun x tf _ _ htf hK p hp mi mj hmi hmj y hy z hz k hk hk2 => ?_) (fun a w hh => hQ a w ?_)
  · obtain ⟨i0, h1, h2⟩ := hg.2 j o (by simpa using ho)
    obtain ⟨i, h3, h4⟩ := hr.2 j i0 h1
    exact ⟨i, i0, by rw [his]; exact h3, h2, h4⟩
  · have hst : stableI is p.1 = true ∧ stableI is p.2 = true := by
      have := (List.all_eq_true.1 hstab) p hp
      simpa using this
    have key : ∀ (i : Nat) (mm : MI), is[i]? = some mm → stableI is i = true → ∀ y ∈ opnds mm.op, ev tf y = ev (tT is x t i) y := fun i mm hmm hs y hy => by
      cases y with
      | c v => rfl
      | t s =>
        have hil : i < is.length := (List.getElem?_eq_some_iff.1 hmm).1
        have hsl : s ∈ slotsOf mm := by simp only [slotsOf, List.mem_append, List.mem_filterMap]; exact .inl ⟨.t s, hy, rfl⟩
        show look tf s = look (tT is x t i) s
        rw [htf, tT_val, tT_val]
        refine valT_above is.length (by omega) (fun q hq hql hd => ?_)
        exfalso
        simp only [stableI, List.all_eq_true, List.mem_range] at hs
        have := hs q hql
        rw [hmm, hd] at this
        simp at this
        rcases this with h1 | h1
        · omega
        · exact h1 hsl
    rw [← key p.1 mi hmi hst.1 y hy] at hk
    rw [← key p.2 mj hmj hst.2 z hz] at hk2
    refine apart_get hK.1 p hp k ?_ ?_
    · simp only [opKeys, hmi]; exact evs_keys hy hk
    · simp only [opKeys, hmj]; exact evs_keys hz hk2
  · obtain ⟨t', m', n', S', κ', h1, h2⟩ := hh
    exact ⟨t', m', n', S', κ', h1.2, h2⟩

end Go.Av
