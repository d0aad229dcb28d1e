/- Circuits for truth tables: the whole table (pure). -/
import Derived.Test.YtelcipdpfoipiaaGateG
set_option linter.unusedSimpArgs false
set_option linter.unusedVariables false
namespace Go.Av
open Go.Proofs

def lvS (d : Nat) (gs : List Gt) (ps : List Int) : Nat → List Gt × List Int
  | 0 => (gs, [])
  | i + 1 => ((chS (lvS d gs ps i).1 d (ps.getD (2 * i) 0) (ps.getD (2 * i + 1) 0)).1, (lvS d gs ps i).2 ++ [(chS (lvS d gs ps i).1 d (ps.getD (2 * i) 0) (ps.getD (2 * i + 1) 0)).2])
def tbP (t : List Bool) : List Int := t.map fun b => bif b then -2 else -1
def tbS (t : List Bool) : Nat → List Gt × List Int
  | 0 => ([], tbP t)
  | d + 1 => lvS d (tbS t d).1 (tbS t d).2 ((tbS t d).2.length / 2)

structure LvI (inn d : Nat) (gs0 : List Gt) (ps : List Int) (i : Nat) (s : List Gt × List Int) : Prop where
  len : s.2.length = i
  ok : GsOk inn s.1
  pre : ∃ r, s.1 = gs0 ++ r
  zero : i = 0 → s.1 = gs0
  inp : ∀ g ∈ s.1, g.kind = 1 → g.a < d + 1
  rng : ∀ p ∈ s.2, Part s.1 p
  val : ∀ w j, j < i → pv w s.1 (s.2.getD j 0) = bif w.testBit d then pv w gs0 (ps.getD (2 * j + 1) 0) else pv w gs0 (ps.getD (2 * j) 0)
  same : 1 ≤ i → ∀ q, (∀ p ∈ s.2, p = q) → (s.1 = gs0 ∧ ∀ j, j < 2 * i → ps.getD j 0 = q) ∨ ((gs0.length : Int) ≤ q ∧ q + 1 = s.1.length)
  cnt : s.1.length ≤ gs0.length + 3 * i + phi s.1 d

theorem Part.pre {gs gs' : List Gt} {p : Int} (h : Part gs p) (hp : ∃ r, gs' = gs ++ r) : Part gs' p := by
  obtain ⟨r, rfl⟩ := hp
  unfold Part at h ⊢
  rw [List.length_append]
  omega
theorem getD_mem {l : List Int} {i : Nat} (h : i < l.length) : l.getD i 0 ∈ l := by
  rw [List.getD_eq_getElem?_getD, List.getElem?_eq_getElem h]; exact List.getElem_mem h
theorem getD_snoc {l : List Int} {x : Int} {i : Nat} (h : i ≤ l.length) : (l ++ [x]).getD i 0 = if i = l.length then x else l.getD i 0 := by
  rw [List.getD_eq_getElem?_getD, List.getD_eq_getElem?_getD]
  by_cases hi : i = l.length
  · rw [if_pos hi, hi]; simp
  · rw [if_neg hi, List.getElem?_append_left (by omega)]

theorem lvS_ok {inn d : Nat} {gs0 : List Gt} {ps : List Int} (hd : d < inn) (h0 : GsOk inn gs0) (hin : ∀ g ∈ gs0, g.kind = 1 → g.a < d) (hr : ∀ p ∈ ps, Part gs0 p) :
    ∀ i, 2 * i ≤ ps.length → LvI inn d gs0 ps i (lvS d gs0 ps i)
  | 0, _ => ⟨rfl, h0, ⟨[], by simp [lvS]⟩, fun _ => rfl, fun g hg hk => by have := hin g hg hk; omega, fun p hp => by simp [lvS] at hp, fun w j hj => by omega, fun h => by omega, by simp [lvS]⟩
  | i + 1, hi => by
    have I := lvS_ok hd h0 hin hr i (by omega)
    rw [lvS]
    generalize hs : lvS d gs0 ps i = s at *
    have hn := hr _ (getD_mem (l := ps) (i := 2 * i) (by omega))
    have hy := hr _ (getD_mem (l := ps) (i := 2 * i + 1) (by omega))
    generalize hno : ps.getD (2 * i) 0 = no at *
    generalize hye : ps.getD (2 * i + 1) 0 = yes at *
    have hsl := I.len
    by_cases hc : no = yes
    · have e : chS s.1 d no yes = (s.1, no) := by unfold chS; rw [if_pos hc]
      rw [e]
      refine ⟨by simp [hsl], I.ok, I.pre, fun h => by omega, I.inp, fun p hp => ?_, fun w j hj => ?_, fun _ q hq => ?_, by have := I.cnt; simp only; omega⟩
      · rcases List.mem_append.1 hp with hp | hp
        · exact I.rng p hp
        · simp at hp; subst hp; exact hn.pre I.pre
      · simp only
        rw [getD_snoc (by omega)]
        by_cases hji : j = s.2.length
        · rw [if_pos hji]
          have : j = i := by omega
          subst this
          rw [hno, hye, pv_pre I.pre hn, hc]
          cases w.testBit d <;> rfl
        · rw [if_neg hji]; exact I.val w j (by omega)
      · simp only at hq ⊢
        have hnq : no = q := hq no (by simp)
        have hold : ∀ p ∈ s.2, p = q := fun p hp => hq p (by simp [hp])
        by_cases hi0 : i = 0
        · subst hi0
          refine .inl ⟨I.zero rfl, fun j hj => ?_⟩
          rcases (by omega : j = 0 ∨ j = 1) with rfl | rfl
          · exact hno.trans hnq
          · exact hye.trans (hc ▸ hnq)
        · rcases I.same (by omega) q hold with ⟨h1, h2⟩ | ⟨h1, h2⟩
          · refine .inl ⟨h1, fun j hj => ?_⟩
            by_cases hj2 : j < 2 * i
            · exact h2 j hj2
            · rcases (by omega : j = 2 * i ∨ j = 2 * i + 1) with rfl | rfl
              · exact hno.trans hnq
              · exact hye.trans (hc ▸ hnq)
          · exfalso
            unfold Part at hn
            omega
    · have e : chS s.1 d no yes = ((chB s.1 d no yes).1, ((chB s.1 d no yes).2 : Int)) := by unfold chS; rw [if_neg hc]
      rw [e]
      obtain ⟨b, ex⟩ := chB_spec I.ok (show (d : Int) < (inn : Int) by omega) (hn.pre I.pre) (hy.pre I.pre) hc
      generalize chB s.1 d no yes = r at *
      obtain ⟨x, hx⟩ := I.pre
      obtain ⟨y, hy'⟩ := b.pre
      refine ⟨by simp [hsl], b.ok, ⟨x ++ y, by simp only; rw [hy', hx]; simp⟩, fun h => by omega, fun g hg hk => ?_, fun p hp => ?_, fun w j hj => ?_, fun _ q hq => ?_, by have h1 := I.cnt; have h2 := b.cnt; simp only; omega⟩
      · rcases b.mem g hg with hg | hg
        · exact I.inp g hg hk
        · have := hg hk; omega
      · rcases List.mem_append.1 hp with hp | hp
        · exact (I.rng p hp).pre b.pre
        · simp at hp; subst hp
          have := b.lt
          exact .inr (.inr ⟨by omega, by simp only; omega⟩)
      · simp only
        rw [getD_snoc (by omega)]
        by_cases hji : j = s.2.length
        · rw [if_pos hji]
          have : j = i := by omega
          subst this
          rw [hno, hye, pv_gate (by omega), Int.toNat_natCast, b.val, pv_pre I.pre hn, pv_pre I.pre hy]
        · rw [if_neg hji, pv_pre b.pre (I.rng _ (getD_mem (by omega)))]; exact I.val w j (by omega)
      · simp only at hq ⊢
        have hnq : ((r.2 : Nat) : Int) = q := hq _ (by simp)
        have hold : ∀ p ∈ s.2, p = q := fun p hp => hq p (by simp [hp])
        have hlen0 : gs0.length ≤ s.1.length := by rw [hx]; simp
        rcases ex with ⟨h1, h2⟩ | ⟨z, hz, h1, h2⟩
        · have hbad : s.1 ≠ gs0 := fun hh => by
            have h3 := b.has
            rw [h1, hh] at h3
            have := hin _ h3 rfl
            simp [pG] at this
          by_cases hi0 : i = 0
          · exact (hbad (I.zero hi0)).elim
          · rcases I.same (by omega) q hold with ⟨h3, _⟩ | ⟨h3, h4⟩
            · exact (hbad h3).elim
            · exact .inr ⟨h3, by rw [h1]; exact h4⟩
        · right
          have h3 : s.1.length < r.1.length := by
            rw [h1, List.length_append]
            have := List.length_pos_iff.2 hz
            omega
          omega

theorem mod_two_succ (w d : Nat) : w % 2 ^ (d + 1) = w % 2 ^ d + 2 ^ d * (w.testBit d).toNat := by
  have h1 := Nat.mod_mul (a := 2 ^ d) (b := 2) (x := w)
  rw [← Nat.pow_succ] at h1
  rw [h1, Nat.toNat_testBit]

structure TbI (inn : Nat) (t : List Bool) (d : Nat) (s : List Gt × List Int) : Prop where
  len : s.2.length = 2 ^ (inn - d)
  ok : GsOk inn s.1
  inp : ∀ g ∈ s.1, g.kind = 1 → g.a < d
  rng : ∀ p ∈ s.2, Part s.1 p
  val : ∀ w i, i < s.2.length → pv w s.1 (s.2.getD i 0) = t.getD (i * 2 ^ d + w % 2 ^ d) false
  same : ∀ q, (∀ p ∈ s.2, p = q) → (q < 0 → s.1 = []) ∧ (0 ≤ q → q + 1 = s.1.length)
  cnt : s.1.length + 3 * s.2.length ≤ 3 * 2 ^ inn + 2 * d

theorem tbS_ok {inn : Nat} {t : List Bool} (ht : t.length = 2 ^ inn) : ∀ d, d ≤ inn → TbI inn t d (tbS t d)
  | 0, _ => by
    refine ⟨by simp [tbS, tbP, ht], fun i h => by simp [tbS] at h, fun g hg => by simp [tbS] at hg, fun p hp => ?_, fun w i hi => ?_, fun q hq => ⟨fun _ => rfl, fun h => ?_⟩, by simp [tbS, tbP, ht]⟩
    · simp only [tbS, tbP, List.mem_map] at hp
      obtain ⟨b, _, rfl⟩ := hp
      cases b
      · exact .inl rfl
      · exact .inr (.inl rfl)
    · simp only [tbS, tbP, List.length_map] at hi
      simp only [tbS, tbP]
      rw [List.getD_eq_getElem?_getD, List.getElem?_map, List.getElem?_eq_getElem hi, List.getD_eq_getElem?_getD, Nat.pow_zero, Nat.mul_one, Nat.mod_one, Nat.add_zero, List.getElem?_eq_getElem hi]
      cases t[i] <;> rfl
    · exfalso
      have h1 : 0 < t.length := by rw [ht]; exact Nat.two_pow_pos inn
      have := hq _ (getD_mem (l := tbP t) (i := 0) (by simpa [tbP] using h1))
      have hb : ∀ p ∈ tbP t, p < 0 := fun p hp => by
        simp only [tbP, List.mem_map] at hp
        obtain ⟨b, _, rfl⟩ := hp
        cases b <;> decide
      have h2 := hb _ (getD_mem (l := tbP t) (i := 0) (by simpa [tbP] using h1))
      omega
  | d + 1, hd => by
    have T := tbS_ok ht d (by omega)
    rw [tbS]
    generalize hs : tbS t d = s at *
    have hpow : s.2.length = 2 * 2 ^ (inn - (d + 1)) := by rw [T.len, ← Nat.pow_succ', show (inn - (d + 1)).succ = inn - d by omega]
    have hhalf : s.2.length / 2 = 2 ^ (inn - (d + 1)) := by omega
    have hpos := Nat.two_pow_pos (inn - (d + 1))
    rw [hhalf]
    obtain ⟨half, hdef⟩ : ∃ half, half = 2 ^ (inn - (d + 1)) := ⟨_, rfl⟩
    rw [← hdef] at hpow hhalf hpos ⊢
    have L := lvS_ok (inn := inn) (by omega) T.ok T.inp T.rng half (by omega)
    generalize lvS d s.1 s.2 half = r at *
    refine ⟨by rw [L.len, hdef], L.ok, L.inp, L.rng, fun w i hi => ?_, fun q hq => ?_, ?_⟩
    · rw [L.len] at hi
      rw [L.val w i hi, T.val w (2 * i + 1) (by omega), T.val w (2 * i) (by omega), mod_two_succ, Nat.pow_succ]
      cases w.testBit d with
      | true => simp only [cond_true, Bool.toNat_true]; congr 1; rw [Nat.add_mul, Nat.mul_comm 2 i, Nat.mul_assoc, Nat.mul_comm 2]; omega
      | false => simp only [cond_false, Bool.toNat_false]; congr 1; rw [Nat.mul_comm 2 i, Nat.mul_assoc, Nat.mul_comm 2]; omega
    · rcases L.same (by omega) q hq with ⟨h1, h2⟩ | ⟨h1, h2⟩
      · rw [h1]
        refine T.same q (fun p hp => ?_)
        obtain ⟨j, hj, rfl⟩ := List.getElem_of_mem hp
        have := h2 j (by omega)
        rwa [List.getD_eq_getElem?_getD, List.getElem?_eq_getElem hj] at this
      · exact ⟨fun h => by omega, fun _ => h2⟩
    · have h1 := L.cnt
      have h2 := phi_le r.1 d
      have h3 := T.cnt
      rw [L.len]
      omega

def conG (gs : List Gt) (p : Int) : List Gt := (stp (negS gs 0).1 (if p = -2 then oG (posS gs 0).2 (negS gs 0).2 else aG (posS gs 0).2 (negS gs 0).2)).1
def bldG (inn : Nat) (t : List Bool) : List Gt := if (tbS t inn).2.getD 0 0 < 0 then conG (tbS t inn).1 ((tbS t inn).2.getD 0 0) else (tbS t inn).1

theorem con_or : conG [] (-2) = [⟨1, 0, 0⟩, ⟨2, 0, 0⟩, ⟨4, 0, 1⟩] := rfl
theorem con_and : conG [] (-1) = [⟨1, 0, 0⟩, ⟨2, 0, 0⟩, ⟨3, 0, 1⟩] := rfl
theorem con_ok {inn : Nat} (hi : 1 ≤ inn) {k : Int} (hk : k = 3 ∨ k = 4) : GsOk inn [⟨1, 0, 0⟩, ⟨2, 0, 0⟩, ⟨k, 0, 1⟩] := by
  intro i h
  simp only [List.length_cons, List.length_nil] at h
  rcases (by omega : i = 0 ∨ i = 1 ∨ i = 2) with rfl | rfl | rfl
  · exact ⟨by simp, fun _ => by simp; omega, fun h => by simp at h, fun h => by simp at h⟩
  · exact ⟨by simp, fun h => by simp at h, fun _ => by simp, fun h => by simp at h⟩
  · refine ⟨by simp; omega, fun h => ?_, fun _ => by simp, fun _ => by simp⟩
    simp at h; omega
theorem con_val (w : Nat) : gval w [⟨1, 0, 0⟩, ⟨2, 0, 0⟩, ⟨4, 0, 1⟩] = true ∧ gval w [⟨1, 0, 0⟩, ⟨2, 0, 0⟩, ⟨3, 0, 1⟩] = false := by
  simp [gval, gvk, gev, gAt]

theorem bld_ok {inn : Nat} {t : List Bool} (hi : 1 ≤ inn) (ht : t.length = 2 ^ inn) : 1 ≤ (bldG inn t).length ∧ (bldG inn t).length ≤ 3 * t.length + 3 * inn + 3 ∧ GsOk inn (bldG inn t) ∧ ∀ k (h : k < t.length), gval k (bldG inn t) = t[k] := by
  have T := tbS_ok ht inn (Nat.le_refl _)
  unfold bldG
  generalize tbS t inn = s at *
  have hl : s.2.length = 1 := by rw [T.len, Nat.sub_self]
  have hall : ∀ p ∈ s.2, p = s.2.getD 0 0 := fun p hp => by
    obtain ⟨j, hj, rfl⟩ := List.getElem_of_mem hp
    obtain rfl : j = 0 := by omega
    rw [List.getD_eq_getElem?_getD, List.getElem?_eq_getElem hj]; rfl
  have hv : ∀ k (h : k < t.length), pv k s.1 (s.2.getD 0 0) = t[k] := fun k h => by
    rw [T.val k 0 (by omega), Nat.zero_mul, Nat.zero_add, Nat.mod_eq_of_lt (by omega), List.getD_eq_getElem?_getD, List.getElem?_eq_getElem h]; rfl
  have hrg := T.rng _ (getD_mem (l := s.2) (i := 0) (by omega))
  have hsm := T.same _ hall
  have hc := T.cnt
  generalize s.2.getD 0 0 = p at *
  by_cases hp : p < 0
  · rw [if_pos hp, hsm.1 hp]
    have h2 : 2 ≤ t.length := by rw [ht]; calc 2 = 2 ^ 1 := rfl
                                      _ ≤ 2 ^ inn := Nat.pow_le_pow_right (by omega) hi
    rcases (show p = -1 ∨ p = -2 by unfold Part at hrg; omega) with rfl | rfl
    · rw [con_and]
      exact ⟨by simp, by simp only [List.length_cons, List.length_nil]; omega, con_ok hi (.inl rfl), fun k h => by rw [(con_val k).2, ← hv k h]; rfl⟩
    · rw [con_or]
      exact ⟨by simp, by simp only [List.length_cons, List.length_nil]; omega, con_ok hi (.inr rfl), fun k h => by rw [(con_val k).1, ← hv k h]; rfl⟩
  · rw [if_neg hp]
    have h1 := hsm.2 (by omega)
    refine ⟨by omega, by rw [ht]; omega, T.ok, fun k h => ?_⟩
    rw [← hv k h, pv_gate (by omega), gval_gvn, show s.1.length - 1 = p.toNat by omega]

end Go.Av
