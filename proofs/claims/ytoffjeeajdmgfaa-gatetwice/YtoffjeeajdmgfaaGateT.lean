/- Circuits whose negations are moved down to the inputs (pure). -/
import Derived.Test.YtoffjeeajdmgfaaGateG
set_option linter.unusedSimpArgs false
set_option linter.unusedVariables false
namespace Go.Av
open Go.Proofs

abbrev PE := List ((Nat × Bool) × Nat)
def lookS : PE → Nat → Bool → Option Nat
  | [], _, _ => none
  | ((j, c), n) :: r, i, b => if j = i ∧ c = b then some n else lookS r i b
def putS : PE → Nat → Bool → Nat → PE
  | [], i, b, n => [((i, b), n)]
  | ((j, c), m) :: r, i, b, n => if j = i ∧ c = b then ((i, b), n) :: r else ((j, c), m) :: putS r i b n
theorem lookS_put (es : PE) (i : Nat) (b : Bool) (n j : Nat) (c : Bool) : lookS (putS es i b n) j c = if j = i ∧ c = b then some n else lookS es j c := by
  induction es with
  | nil =>
    simp only [putS, lookS]
    by_cases h : i = j ∧ b = c
    · rw [if_pos h, if_pos ⟨h.1.symm, h.2.symm⟩]
    · rw [if_neg h, if_neg (fun hh => h ⟨hh.1.symm, hh.2.symm⟩)]
  | cons p es ih =>
    obtain ⟨⟨k, d⟩, m⟩ := p
    simp only [putS]
    by_cases h : k = i ∧ d = b
    · rw [if_pos h]
      obtain ⟨rfl, rfl⟩ := h
      simp only [lookS]
      by_cases h2 : k = j ∧ d = c
      · rw [if_pos h2, if_pos ⟨h2.1.symm, h2.2.symm⟩]
      · rw [if_neg h2, if_neg (fun hh => h2 ⟨hh.1.symm, hh.2.symm⟩), if_neg h2]
    · rw [if_neg h]
      simp only [lookS]
      by_cases h2 : k = j ∧ d = c
      · rw [if_pos h2, if_neg (fun hh => h (by rw [h2.1, h2.2]; exact hh)), if_pos h2]
      · rw [if_neg h2, if_neg h2, ih]

abbrev TSt := List Gt × PE
/-- a gate of the new circuit for a gate of the old one, or what it is not -/
def turnK (k : Int) (b : Bool) : Int := if (k == 3) != b then 3 else 4
def atS (rec : TSt → Nat → Bool → TSt × Nat) (st : TSt) (g : Gt) (b : Bool) : TSt × Nat :=
  if g.kind = 2 then rec st g.a.toNat (!b)
  else if g.kind = 1 then (if b then (((stp (stp st.1 ⟨1, g.a, 0⟩).1 (nG (stp st.1 ⟨1, g.a, 0⟩).2)).1, st.2), (stp (stp st.1 ⟨1, g.a, 0⟩).1 (nG (stp st.1 ⟨1, g.a, 0⟩).2)).2)
    else (((stp st.1 ⟨1, g.a, 0⟩).1, st.2), (stp st.1 ⟨1, g.a, 0⟩).2))
  else let r := rec st g.a.toNat b; let s := rec r.1 g.b.toNat b
    (((stp s.1.1 ⟨turnK g.kind b, r.2, s.2⟩).1, s.1.2), (stp s.1.1 ⟨turnK g.kind b, r.2, s.2⟩).2)
def plS (l : List Gt) : Nat → TSt → Nat → Bool → TSt × Nat
  | 0, st, _, _ => (st, 0)
  | f + 1, st, i, b => match lookS st.2 i b with
    | some n => (st, n)
    | none => (((atS (plS l f) st (gAt l i) b).1.1, putS (atS (plS l f) st (gAt l i) b).1.2 i b (atS (plS l f) st (gAt l i) b).2), (atS (plS l f) st (gAt l i) b).2)

/-- whose gate it is -/
def Own (l gs : List Gt) (es : PE) (o : Nat) : Prop :=
  o < 2 * l.length ∧ (((gAt l (o / 2)).kind = 1 ∧ if o % 2 = 1 then ∃ p, gpos ⟨1, (gAt l (o / 2)).a, 0⟩ gs = some p ∧ nG p ∈ gs else (⟨1, (gAt l (o / 2)).a, 0⟩ : Gt) ∈ gs) ∨
    ((gAt l (o / 2)).kind ≠ 1 ∧ (lookS es (o / 2) (decide (o % 2 = 1))).isSome = true))
structure TI (inn : Int) (l : List Gt) (st : TSt) : Prop where
  ok : GsOk inn st.1
  nots : ∀ (i : Nat) g, st.1[i]? = some g → g.kind = 2 → (gAt st.1 g.a.toNat).kind = 1
  put : ∀ i b n, lookS st.2 i b = some n → n < st.1.length ∧ i < l.length ∧ ∀ w, gvn w st.1 n = (gvn w l i != b)
  own : ∃ ow : List Nat, ow.length = st.1.length ∧ ow.Nodup ∧ ∀ o ∈ ow, Own l st.1 st.2 o

theorem Own.up {l gs : List Gt} {es es' : PE} {o : Nat} {r : List Gt} (h : Own l gs es o) (he : ∀ i b, (lookS es i b).isSome = true → (lookS es' i b).isSome = true) : Own l (gs ++ r) es' o := by
  refine ⟨h.1, ?_⟩
  rcases h.2 with ⟨h1, h2⟩ | ⟨h1, h2⟩
  · refine .inl ⟨h1, ?_⟩
    by_cases ho : o % 2 = 1
    · rw [if_pos ho] at h2 ⊢
      obtain ⟨p, hp, hm⟩ := h2
      exact ⟨p, gpos_app hp, List.mem_append.2 (.inl hm)⟩
    · rw [if_neg ho] at h2 ⊢
      exact List.mem_append.2 (.inl h2)
  · exact .inr ⟨h1, he _ _ h2⟩

theorem gAt_pre {gs gs' : List Gt} {i : Nat} (hp : ∃ r, gs' = gs ++ r) (h : i < gs.length) : gAt gs' i = gAt gs i := by
  obtain ⟨r, rfl⟩ := hp; exact gAt_app h

theorem nots_add {gs : List Gt} {inn : Int} {g : Gt} (hok : GsOk inn gs) (h : ∀ (i : Nat) g, gs[i]? = some g → g.kind = 2 → (gAt gs g.a.toNat).kind = 1) (hn : g.kind = 2 → g.a.toNat < gs.length ∧ (gAt gs g.a.toNat).kind = 1) :
    ∀ (i : Nat) x, (addG gs g)[i]? = some x → x.kind = 2 → (gAt (addG gs g) x.a.toNat).kind = 1 := by
  intro i x hx hk
  unfold addG at hx ⊢
  cases hp : gpos g gs with
  | some n => rw [hp] at hx; exact h i x hx hk
  | none =>
    rw [hp] at hx
    simp only at hx ⊢
    by_cases hi : i < gs.length
    · rw [List.getElem?_append_left hi] at hx
      have := (gsOk_get hok hx).first (by omega)
      rw [gAt_app (by omega)]; exact h i x hx hk
    · rw [List.getElem?_append_right (by omega)] at hx
      have : x = g := by
        cases hj : i - gs.length with
        | zero => rw [hj] at hx; simpa using hx.symm
        | succ j => rw [hj] at hx; simp at hx
      subst this
      rw [gAt_app (hn hk).1]; exact (hn hk).2

/-- what placing does -/
structure PlR (inn : Int) (l : List Gt) (st : TSt) (r : TSt × Nat) (i : Nat) (b : Bool) : Prop where
  ti : TI inn l r.1
  ext : Ext st.1 r.1.1 r.2
  val : ∀ w, gvn w r.1.1 r.2 = (gvn w l i != b)
  keep : ∀ j c, (lookS st.2 j c).isSome = true → (lookS r.1.2 j c).isSome = true
  high : ∀ j c, i < j → lookS r.1.2 j c = lookS st.2 j c

theorem own_code {i : Nat} {b : Bool} : (2 * i + b.toNat) / 2 = i ∧ decide ((2 * i + b.toNat) % 2 = 1) = b := by
  cases b <;> simp <;> omega

theorem plS_ok {inn : Int} {l : List Gt} (hl : GsOk inn l) : ∀ (f : Nat) (st : TSt) (i : Nat) (b : Bool), i < f → i < l.length → TI inn l st → PlR inn l st (plS l f st i b) i b
  | f + 1, st, i, b, hf, hi, T => by
    rw [plS]
    cases hlk : lookS st.2 i b with
    | some n =>
      obtain ⟨h1, h2, h3⟩ := T.put i b n hlk
      exact ⟨T, Ext.self h1, h3, fun _ _ h => h, fun _ _ _ => rfl⟩
    | none =>
      obtain ⟨gs, es⟩ := st
      have hgi : l[i]? = some (gAt l i) := by rw [gAt, List.getElem?_eq_getElem hi]; rfl
      have hgo := gsOk_get hl hgi
      have hval : ∀ w, gvn w l i = gop w (gvn w l) (gAt l i) := fun w => gvn_get hl hgi
      generalize hgg : gAt l i = g at *
      simp only at hlk
      -- what is to be shown of the state before the side is put down
      have fin : ∀ (r : TSt × Nat), GsOk inn r.1.1 → (∀ (k : Nat) x, r.1.1[k]? = some x → x.kind = 2 → (gAt r.1.1 x.a.toNat).kind = 1) → (∀ j c n, lookS r.1.2 j c = some n → n < r.1.1.length ∧ j < l.length ∧ ∀ w, gvn w r.1.1 n = (gvn w l j != c)) →
          (∃ ow : List Nat, ow.length = r.1.1.length ∧ ow.Nodup ∧ ∀ o ∈ ow, Own l r.1.1 (putS r.1.2 i b r.2) o) → Ext gs r.1.1 r.2 → (∀ w, gvn w r.1.1 r.2 = (gvn w l i != b)) →
          (∀ j c, (lookS es j c).isSome = true → (lookS r.1.2 j c).isSome = true) → (∀ j c, i < j → lookS r.1.2 j c = lookS es j c) → PlR inn l (gs, es) ((r.1.1, putS r.1.2 i b r.2), r.2) i b := fun r h1 h2 h3 h4 h5 h6 h7 h8 => by
        refine ⟨⟨h1, h2, fun j c n hj => ?_, h4⟩, h5, h6, fun j c hj => ?_, fun j c hj => ?_⟩
        · simp only at hj
          rw [lookS_put] at hj
          split at hj
          · rename_i hjc
            cases hj
            obtain ⟨rfl, rfl⟩ := hjc
            exact ⟨h5.lt, hi, h6⟩
          · exact h3 j c n hj
        · simp only
          rw [lookS_put]
          split
          · rfl
          · exact h7 j c hj
        · simp only
          rw [lookS_put, if_neg (by omega)]
          exact h8 j c hj
      have upE : ∀ (es' : PE) (n j : Nat) (c : Bool), (lookS es' j c).isSome = true → (lookS (putS es' i b n) j c).isSome = true := fun es' n j c h => by
        rw [lookS_put]; split
        · rfl
        · exact h
      rw [atS]
      by_cases k2 : g.kind = 2
      · rw [if_pos k2]
        have hfi := hgo.first (by omega)
        have R := plS_ok hl f (gs, es) g.a.toNat (!b) (by omega) (by omega) T
        generalize plS l f (gs, es) g.a.toNat (!b) = r at *
        obtain ⟨ow, o1, o2, o3⟩ := R.ti.own
        refine fin r R.ti.ok R.ti.nots R.ti.put ⟨ow, o1, o2, fun o ho => ?_⟩ R.ext (fun w => ?_) R.keep (fun j c hj => R.high j c (by omega))
        · have := (o3 o ho).up (r := []) (upE _ r.2)
          rwa [List.append_nil] at this
        · rw [R.val w, hval w, gop, if_neg (by omega), if_pos k2]
          cases gvn w l g.a.toNat <;> cases b <;> rfl
      rw [if_neg k2]
      by_cases k1 : g.kind = 1
      · rw [if_pos k1]
        have hin := hgo.input k1
        have hp : GtOk inn gs.length ⟨1, g.a, 0⟩ := ⟨by simp, fun _ => hin, fun h => by simp at h, fun h => by simp at h⟩
        have hvi : ∀ w, gvn w l i = w.testBit g.a.toNat := fun w => by rw [hval w, gop, if_pos k1]
        obtain ⟨ow, o1, o2, o3⟩ := T.own
        simp only at o1 o3
        have ok1 := gsOk_add T.ok hp
        have nt1 := nots_add (g := ⟨1, g.a, 0⟩) T.ok T.nots (fun h => by simp at h)
        have v1 : ∀ w, gvn w (addG gs ⟨1, g.a, 0⟩) (addN gs ⟨1, g.a, 0⟩) = w.testBit g.a.toNat := fun w => by rw [gvn_add T.ok hp]; simp [gop]
        have e1 := Ext.add gs ⟨1, g.a, 0⟩
        have put1 : ∀ {gs' : List Gt}, (∃ r, gs' = gs ++ r) → ∀ j c n, lookS es j c = some n → n < gs'.length ∧ j < l.length ∧ ∀ w, gvn w gs' n = (gvn w l j != c) := fun {gs'} hp j c n hj => by
          obtain ⟨q1, q2, q3⟩ := T.put j c n hj
          simp only at q1 q3
          refine ⟨?_, q2, fun w => by rw [gvn_pre hp q1]; exact q3 w⟩
          obtain ⟨r, rfl⟩ := hp
          rw [List.length_append]; omega
        -- the gate of the input, with an owner
        have own1 : ∃ ow : List Nat, ow.length = (addG gs ⟨1, g.a, 0⟩).length ∧ ow.Nodup ∧ (∀ o ∈ ow, Own l (addG gs ⟨1, g.a, 0⟩) es o) := by
          unfold addG
          cases hpp : gpos ⟨1, g.a, 0⟩ gs with
          | some n => exact ⟨ow, o1, o2, o3⟩
          | none =>
            refine ⟨2 * i :: ow, by simp [o1], List.nodup_cons.2 ⟨fun hm => ?_, o2⟩, fun o ho => ?_⟩
            · have := (o3 _ hm).2
              rw [show 2 * i / 2 = i by omega, show 2 * i % 2 = 0 by omega, hgg, if_neg (by omega)] at this
              rcases this with ⟨_, h⟩ | ⟨h, _⟩
              · exact gpos_none hpp h
              · exact h k1
            · rcases List.mem_cons.1 ho with rfl | ho
              · refine ⟨by omega, .inl ?_⟩
                rw [show 2 * i / 2 = i by omega, show 2 * i % 2 = 0 by omega, hgg, if_neg (by omega)]
                exact ⟨k1, by simp⟩
              · exact (o3 o ho).up (fun _ _ h => h)
        cases b with
        | false =>
          simp only [Bool.false_eq_true, if_false]
          obtain ⟨ow, q1, q2, q3⟩ := own1
          refine fin (((stp gs ⟨1, g.a, 0⟩).1, es), (stp gs ⟨1, g.a, 0⟩).2) ok1 nt1 (put1 (addG_pre _ _)) ⟨ow, q1, q2, fun o ho => ?_⟩ e1 (fun w => ?_) (fun _ _ h => h) (fun _ _ _ => rfl)
          · have := (q3 o ho).up (r := []) (upE es (stp gs ⟨1, g.a, 0⟩).2)
            rwa [List.append_nil] at this
          · simp only [stp]; rw [v1, hvi]; simp
        | true =>
          simp only [if_true]
          have hpos1 : gpos ⟨1, g.a, 0⟩ (addG gs ⟨1, g.a, 0⟩) = some (addN gs ⟨1, g.a, 0⟩) := gpos_add _ _
          have hlt1 := addN_lt gs ⟨1, g.a, 0⟩
          obtain ⟨ow, q1, q2, q3⟩ := own1
          simp only [stp]
          generalize hG1 : addG gs ⟨1, g.a, 0⟩ = gs1 at *
          generalize hN1 : addN gs ⟨1, g.a, 0⟩ = n1 at *
          have hg1 : gAt gs1 n1 = ⟨1, g.a, 0⟩ := by rw [gAt, gpos_get hpos1]; rfl
          have hq : GtOk inn gs1.length (nG n1) := ⟨by simp [nG], fun h => by simp [nG] at h, fun _ => ⟨by simp [nG], by simp [nG]; omega⟩, fun h => by simp [nG] at h⟩
          obtain ⟨x, hx⟩ := e1.pre
          obtain ⟨y, hy⟩ := addG_pre gs1 (nG n1)
          refine fin ((addG gs1 (nG n1), es), addN gs1 (nG n1)) (gsOk_add ok1 hq) (nots_add ok1 nt1 (fun _ => ⟨by simp [nG]; omega, by simp [nG, hg1]⟩)) (put1 ⟨x ++ y, by rw [hy, hx]; simp⟩) ?_
            (e1.one ok1 (by simp [nG]) (by simp [nG])) (fun w => ?_) (fun _ _ h => h) (fun _ _ _ => rfl)
          · simp only
            have hup : ∀ o, Own l gs1 es o → ∀ r n, Own l (gs1 ++ r) (putS es i true n) o := fun o ho r n => ho.up (upE es n)
            unfold addG
            cases hpp : gpos (nG n1) gs1 with
            | some n =>
              refine ⟨ow, q1, q2, fun o ho => ?_⟩
              have := hup o (q3 o ho) [] (addN gs1 (nG n1))
              rwa [List.append_nil] at this
            | none =>
              refine ⟨(2 * i + 1) :: ow, by simp [q1], List.nodup_cons.2 ⟨fun hm => ?_, q2⟩, fun o ho => ?_⟩
              · have := (q3 _ hm).2
                rw [show (2 * i + 1) / 2 = i by omega, show (2 * i + 1) % 2 = 1 by omega, hgg, if_pos rfl] at this
                rcases this with ⟨_, p, hp1, hp2⟩ | ⟨h, _⟩
                · rw [hpos1] at hp1
                  cases hp1
                  exact gpos_none hpp hp2
                · exact h k1
              · rcases List.mem_cons.1 ho with rfl | ho
                · refine ⟨by omega, .inl ?_⟩
                  rw [show (2 * i + 1) / 2 = i by omega, show (2 * i + 1) % 2 = 1 by omega, hgg, if_pos rfl]
                  exact ⟨k1, n1, gpos_app hpos1, by simp⟩
                · exact hup o (q3 o ho) _ _
          · simp only
            rw [gvn_add ok1 hq, hvi]
            simp [gop, nG, v1]
      rw [if_neg k1]
      -- a conjunction or a disjunction
      have hfi := hgo.first k1
      have hkk := hgo.kind
      have hse := hgo.second (by omega)
      have R := plS_ok hl f (gs, es) g.a.toNat b (by omega) (by omega) T
      simp only
      generalize plS l f (gs, es) g.a.toNat b = r at *
      have Q := plS_ok hl f r.1 g.b.toNat b (by omega) (by omega) R.ti
      generalize plS l f r.1 g.b.toNat b = s at *
      have hlt1 : r.2 < s.1.1.length := by have h1 := R.ext.lt; have h2 := Q.ext.len; omega
      have hlt2 := Q.ext.lt
      have htk : turnK g.kind b = 3 ∨ turnK g.kind b = 4 := by unfold turnK; split <;> simp
      have hq : GtOk inn s.1.1.length ⟨turnK g.kind b, r.2, s.2⟩ := ⟨by simp only; omega, fun h => by simp only at h; omega, fun _ => ⟨by simp, by simp only; omega⟩, fun _ => ⟨by simp, by simp only; omega⟩⟩
      have hnone : lookS s.1.2 i b = none := by rw [Q.high i b (by omega), R.high i b (by omega)]; exact hlk
      obtain ⟨ow, q1, q2, q3⟩ := Q.ti.own
      refine fin (((stp s.1.1 ⟨turnK g.kind b, r.2, s.2⟩).1, s.1.2), (stp s.1.1 ⟨turnK g.kind b, r.2, s.2⟩).2) (gsOk_add Q.ti.ok hq) (nots_add Q.ti.ok Q.ti.nots (fun h => by simp only at h; omega)) (fun j c n hj => ?_) ?_
        (R.ext.two Q.ext Q.ti.ok (by simp only; omega) rfl rfl) (fun w => ?_) (fun j c h => Q.keep j c (R.keep j c h)) (fun j c hj => by simp only; rw [Q.high j c (by omega), R.high j c (by omega)])
      · obtain ⟨u1, u2, u3⟩ := Q.ti.put j c n hj
        refine ⟨?_, u2, fun w => by simp only [stp]; rw [gvn_pre (addG_pre _ _) u1]; exact u3 w⟩
        have := (addG_len s.1.1 ⟨turnK g.kind b, r.2, s.2⟩).1
        simp only [stp]; omega
      · simp only [stp]
        unfold addG
        cases hpp : gpos ⟨turnK g.kind b, r.2, s.2⟩ s.1.1 with
        | some n =>
          refine ⟨ow, q1, q2, fun o ho => ?_⟩
          have := (q3 o ho).up (r := []) (upE s.1.2 (addN s.1.1 ⟨turnK g.kind b, r.2, s.2⟩))
          rwa [List.append_nil] at this
        | none =>
          refine ⟨(2 * i + b.toNat) :: ow, by simp [q1], List.nodup_cons.2 ⟨fun hm => ?_, q2⟩, fun o ho => ?_⟩
          · have := (q3 _ hm).2
            rw [own_code.1, own_code.2, hgg] at this
            rcases this with ⟨h, _⟩ | ⟨_, h⟩
            · exact k1 h
            · rw [hnone] at h; cases h
          · rcases List.mem_cons.1 ho with rfl | ho
            · refine ⟨by cases b <;> simp <;> omega, .inr ?_⟩
              rw [own_code.1, own_code.2, hgg]
              exact ⟨k1, by rw [lookS_put, if_pos ⟨rfl, rfl⟩]; rfl⟩
            · exact (q3 o ho).up (upE s.1.2 _)
      · simp only [stp]
        have va : gvn w s.1.1 r.2 = (gvn w l g.a.toNat != b) := by rw [gvn_pre Q.ext.pre R.ext.lt]; exact R.val w
        have vb := Q.val w
        rw [gvn_add Q.ti.ok hq, hval w, gop, gop, if_neg (by simp only; omega), if_neg (by simp only; omega), if_neg k1, if_neg k2]
        simp only [Int.toNat_natCast, va, vb]
        rcases (by omega : g.kind = 3 ∨ g.kind = 4) with k | k
        · rw [if_pos k]
          cases b with
          | false => rw [if_pos (by simp [turnK, k])]; simp
          | true => rw [if_neg (by simp [turnK, k])]; simp
        · rw [if_neg (by omega : ¬ g.kind = 3)]
          cases b with
          | false => rw [if_neg (by simp [turnK, k])]; simp
          | true => rw [if_pos (by simp [turnK, k])]; simp

def turnG (l : List Gt) : List Gt := (plS l l.length ([], []) (l.length - 1) false).1.1

theorem sub_lenG {a b : List Nat} (hn : a.Nodup) (h : ∀ x ∈ a, x ∈ b) : a.length ≤ b.length := by
  induction a generalizing b with
  | nil => simp
  | cons x a ih =>
    rw [List.nodup_cons] at hn
    have hx := h x (by simp)
    have := ih (b := b.erase x) hn.2 (fun y hy => (List.mem_erase_of_ne (by intro hh; subst hh; exact hn.1 hy)).2 (h y (by simp [hy])))
    rw [List.length_erase_of_mem hx] at this
    have hp := List.length_pos_of_mem hx
    simp only [List.length_cons]; omega

theorem TI.small {inn : Int} {l : List Gt} {st : TSt} (h : TI inn l st) : st.1.length ≤ 2 * l.length := by
  obtain ⟨ow, h1, h2, h3⟩ := h.own
  have := sub_lenG (b := List.range (2 * l.length)) h2 (fun x hx => by simpa using (h3 x hx).1)
  rw [List.length_range] at this
  omega
theorem TI.nil {inn : Int} {l : List Gt} : TI inn l ([], []) :=
  ⟨fun i h => by simp at h, fun i g h => by simp at h, fun i b n h => by simp [lookS] at h, ⟨[], rfl, List.nodup_nil, fun o ho => by simp at ho⟩⟩

theorem turn_ok {inn : Int} {l : List Gt} (hl : GsOk inn l) (h1 : 1 ≤ l.length) : 1 ≤ (turnG l).length ∧ (turnG l).length ≤ 2 * l.length ∧ GsOk inn (turnG l) ∧ NotIn (turnG l) ∧ ∀ w, gval w (turnG l) = gval w l := by
  have R := plS_ok hl l.length ([], []) (l.length - 1) false (by omega) (by omega) TI.nil
  unfold turnG
  generalize plS l l.length ([], []) (l.length - 1) false = r at *
  have hlast : r.2 + 1 = r.1.1.length := by
    rcases R.ext with ⟨_, h⟩ | ⟨_, _, _, h⟩
    · simp at h
    · exact h
  refine ⟨by omega, R.ti.small, R.ti.ok, fun i h hk => R.ti.nots i _ (by simp [h]) hk, fun w => ?_⟩
  rw [gval_gvn, gval_gvn, show r.1.1.length - 1 = r.2 by omega, R.val w]
  simp

end Go.Av
