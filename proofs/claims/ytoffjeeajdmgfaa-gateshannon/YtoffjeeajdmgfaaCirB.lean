/- Circuits for truth tables, constants reckoned with (pure). -/
import Derived.Test.YtoffjeeajdmgfaaCirA
set_option linter.unusedSimpArgs false
set_option linter.unusedVariables false
namespace Go.Av
open Go.Proofs

def choR (gs : List Gt) (d : Nat) (no yes : Int) : Rst :=
  if no = yes then (gs, no) else
    if no = -2 then orR (notR (inR gs d).1 (inR gs d).2).1 (notR (inR gs d).1 (inR gs d).2).2 yes
    else if yes = -2 then orR (notR (inR gs d).1 (inR gs d).2).1 (inR gs d).2 no
    else orR (andR (andR (notR (inR gs d).1 (inR gs d).2).1 (inR gs d).2 yes).1 (notR (inR gs d).1 (inR gs d).2).2 no).1 (andR (notR (inR gs d).1 (inR gs d).2).1 (inR gs d).2 yes).2
      (andR (andR (notR (inR gs d).1 (inR gs d).2).1 (inR gs d).2 yes).1 (notR (inR gs d).1 (inR gs d).2).2 no).2

structure Ch (inn : Int) (d : Nat) (gs : List Gt) (r : Rst) (c : Nat) (V : Nat → Bool) : Prop where
  ok : GsOk inn r.1
  pre : ∃ x, r.1 = gs ++ x
  part : Part r.1 r.2
  val : ∀ w, pv w r.1 r.2 = V w
  cnt : r.1.length + phi gs d ≤ gs.length + c + phi r.1 d
theorem Ch.next {inn : Int} {d c : Nat} {gs : List Gt} {r r' : Rst} {V V' : Nat → Bool} (h : Ch inn d gs r c V) (R : Rs inn r.1 r' V') : Ch inn d gs r' (c + 1) V' := by
  obtain ⟨x, hx⟩ := h.pre
  obtain ⟨y, hy⟩ := R.pre
  have h1 := h.cnt
  have h2 := R.len
  have h3 := phi_pre (d := d) R.pre
  exact ⟨R.ok, ⟨x ++ y, by rw [hy, hx]; simp⟩, R.part, R.val, by omega⟩

theorem cho_ok {inn : Int} {gs : List Gt} {d : Nat} {no yes : Int} (h : GsOk inn gs) (hd : (d : Int) < inn) (hn : Part gs no) (hy : Part gs yes) :
    Ch inn d gs (choR gs d no yes) 3 (fun w => bif w.testBit d then pv w gs yes else pv w gs no) := by
  have weak : ∀ {c V V' r}, c ≤ 3 → (∀ w, V w = V' w) → Ch inn d gs r c V → Ch inn d gs r 3 V' := fun {c V V' r} hc hv b => ⟨b.ok, b.pre, b.part, fun w => (b.val w).trans (hv w), by have := b.cnt; omega⟩
  unfold choR
  by_cases c0 : no = yes
  · rw [if_pos c0]
    subst c0
    exact ⟨h, ⟨[], by simp⟩, hn, fun w => by cases w.testBit d <;> rfl, by simp only; omega⟩
  rw [if_neg c0]
  have bn := neg_bs h hd
  have bp := pos_bs h hd
  have e1 : inR gs d = ((posS gs d).1, ((posS gs d).2 : Int)) := rfl
  have e2 : notR (posS gs d).1 ((posS gs d).2 : Int) = ((negS gs d).1, ((negS gs d).2 : Int)) := by
    unfold notR; rw [if_neg (by omega), if_neg (by omega)]; rfl
  have hpn : ∃ r, (negS gs d).1 = (posS gs d).1 ++ r := addG_pre _ _
  rw [e1]
  simp only
  rw [e2]
  simp only
  generalize negS gs d = n at *
  generalize posS gs d = p at *
  have C0 : Ch inn d gs (n.1, (n.2 : Int)) 0 (fun w => !w.testBit d) := ⟨bn.ok, bn.pre, Part.nat bn.lt, fun w => by rw [pv_nat]; exact bn.val w, bn.cnt⟩
  have hpp : Part n.1 (p.2 : Int) := (Part.nat bp.lt).up hpn
  have hvp : ∀ w, pv w n.1 (p.2 : Int) = w.testBit d := fun w => by rw [pv_pre hpn (Part.nat bp.lt), pv_nat]; exact bp.val w
  have hvn : ∀ w, pv w n.1 (n.2 : Int) = !w.testBit d := C0.val
  have hno := hn.up bn.pre
  have hye := hy.up bn.pre
  have vno : ∀ w, pv w n.1 no = pv w gs no := fun w => pv_pre bn.pre hn
  have vye : ∀ w, pv w n.1 yes = pv w gs yes := fun w => pv_pre bn.pre hy
  by_cases c1 : no = -2
  · rw [if_pos c1]
    subst c1
    refine weak (by omega) (fun w => ?_) (C0.next (or_rs bn.ok C0.part hye))
    simp only
    rw [hvn, vye, pv_m2]; cases w.testBit d <;> simp
  rw [if_neg c1]
  by_cases c2 : yes = -2
  · rw [if_pos c2]
    subst c2
    refine weak (by omega) (fun w => ?_) (C0.next (or_rs bn.ok hpp hno))
    simp only
    rw [hvp, vno, pv_m2]; cases w.testBit d <;> simp
  rw [if_neg c2]
  have R1 := and_rs bn.ok hpp hye
  have C1 := C0.next R1
  generalize andR n.1 (p.2 : Int) yes = a at *
  have R2 := and_rs C1.ok (C0.part.up R1.pre) (hno.up R1.pre)
  have C2 := C1.next R2
  simp only at R2 C2
  generalize andR a.1 (n.2 : Int) no = b at *
  have R3 := or_rs C2.ok (C1.part.up R2.pre) C2.part
  refine weak (Nat.le_refl _) (fun w => ?_) (C2.next R3)
  rw [pv_pre R2.pre C1.part, R1.val, R2.val, pv_pre R1.pre C0.part, pv_pre R1.pre hno, hvp, vye, C0.val, vno]
  cases w.testBit d <;> simp

def lvR (d : Nat) (gs : List Gt) (ps : List Int) : Nat → List Gt × List Int
  | 0 => (gs, [])
  | i + 1 => ((choR (lvR d gs ps i).1 d (ps.getD (2 * i) 0) (ps.getD (2 * i + 1) 0)).1, (lvR d gs ps i).2 ++ [(choR (lvR d gs ps i).1 d (ps.getD (2 * i) 0) (ps.getD (2 * i + 1) 0)).2])
def tbP (t : List Bool) : List Int := t.map fun b => bif b then -2 else -1
def tbR (t : List Bool) : Nat → List Gt × List Int
  | 0 => ([], tbP t)
  | d + 1 => lvR d (tbR t d).1 (tbR t d).2 ((tbR t d).2.length / 2)

structure LvI (inn d : Nat) (gs0 : List Gt) (ps : List Int) (i : Nat) (s : List Gt × List Int) : Prop where
  len : s.2.length = i
  ok : GsOk inn s.1
  pre : ∃ r, s.1 = gs0 ++ r
  rng : ∀ p ∈ s.2, Part s.1 p
  val : ∀ w j, j < i → pv w s.1 (s.2.getD j 0) = bif w.testBit d then pv w gs0 (ps.getD (2 * j + 1) 0) else pv w gs0 (ps.getD (2 * j) 0)
  cnt : s.1.length ≤ gs0.length + 3 * i + phi s.1 d

theorem getD_mem {l : List Int} {i : Nat} (h : i < l.length) : l.getD i 0 ∈ l := by
  rw [List.getD_eq_getElem?_getD, List.getElem?_eq_getElem h]; exact List.getElem_mem h
theorem getD_snoc {l : List Int} {x : Int} {i : Nat} (h : i ≤ l.length) : (l ++ [x]).getD i 0 = if i = l.length then x else l.getD i 0 := by
  rw [List.getD_eq_getElem?_getD, List.getD_eq_getElem?_getD]
  by_cases hi : i = l.length
  · rw [if_pos hi, hi]; simp
  · rw [if_neg hi, List.getElem?_append_left (by omega)]

theorem lvR_ok {inn d : Nat} {gs0 : List Gt} {ps : List Int} (hd : d < inn) (h0 : GsOk inn gs0) (hr : ∀ p ∈ ps, Part gs0 p) :
    ∀ i, 2 * i ≤ ps.length → LvI inn d gs0 ps i (lvR d gs0 ps i)
  | 0, _ => ⟨rfl, h0, ⟨[], by simp [lvR]⟩, fun p hp => by simp [lvR] at hp, fun w j hj => by omega, by simp [lvR]⟩
  | i + 1, hi => by
    have I := lvR_ok hd h0 hr i (by omega)
    rw [lvR]
    generalize hs : lvR d gs0 ps i = s at *
    have hn := hr _ (getD_mem (l := ps) (i := 2 * i) (by omega))
    have hy := hr _ (getD_mem (l := ps) (i := 2 * i + 1) (by omega))
    generalize hno : ps.getD (2 * i) 0 = no at *
    generalize hye : ps.getD (2 * i + 1) 0 = yes at *
    have hsl := I.len
    have b := cho_ok I.ok (show (d : Int) < (inn : Int) by omega) (hn.up I.pre) (hy.up I.pre)
    generalize choR s.1 d no yes = r at *
    obtain ⟨x, hx⟩ := I.pre
    obtain ⟨y, hy'⟩ := b.pre
    refine ⟨by simp [hsl], b.ok, ⟨x ++ y, by simp only; rw [hy', hx]; simp⟩, fun p hp => ?_, fun w j hj => ?_, by have h1 := I.cnt; have h2 := b.cnt; simp only; omega⟩
    · rcases List.mem_append.1 hp with hp | hp
      · exact (I.rng p hp).up b.pre
      · simp at hp; subst hp; exact b.part
    · simp only
      rw [getD_snoc (by omega)]
      by_cases hji : j = s.2.length
      · rw [if_pos hji]
        have : j = i := by omega
        subst this
        rw [hno, hye, b.val, pv_pre I.pre hn, pv_pre I.pre hy]
      · rw [if_neg hji, pv_pre b.pre (I.rng _ (getD_mem (by omega)))]; exact I.val w j (by omega)

theorem mod_two_succ (w d : Nat) : w % 2 ^ (d + 1) = w % 2 ^ d + 2 ^ d * (w.testBit d).toNat := by
  have h1 := Nat.mod_mul (a := 2 ^ d) (b := 2) (x := w)
  rw [← Nat.pow_succ] at h1
  rw [h1, Nat.toNat_testBit]

structure TbI (inn : Nat) (t : List Bool) (d : Nat) (s : List Gt × List Int) : Prop where
  len : s.2.length = 2 ^ (inn - d)
  ok : GsOk inn s.1
  rng : ∀ p ∈ s.2, Part s.1 p
  val : ∀ w i, i < s.2.length → pv w s.1 (s.2.getD i 0) = t.getD (i * 2 ^ d + w % 2 ^ d) false
  cnt : s.1.length + 3 * s.2.length ≤ 3 * 2 ^ inn + 2 * d

theorem tbR_ok {inn : Nat} {t : List Bool} (ht : t.length = 2 ^ inn) : ∀ d, d ≤ inn → TbI inn t d (tbR t d)
  | 0, _ => by
    refine ⟨by simp [tbR, tbP, ht], fun i h => by simp [tbR] at h, fun p hp => ?_, fun w i hi => ?_, by simp [tbR, tbP, ht]⟩
    · simp only [tbR, tbP, List.mem_map] at hp
      obtain ⟨b, _, rfl⟩ := hp
      cases b
      · exact .inl rfl
      · exact .inr (.inl rfl)
    · simp only [tbR, tbP, List.length_map] at hi
      simp only [tbR, tbP]
      rw [List.getD_eq_getElem?_getD, List.getElem?_map, List.getElem?_eq_getElem hi, List.getD_eq_getElem?_getD, Nat.pow_zero, Nat.mul_one, Nat.mod_one, Nat.add_zero, List.getElem?_eq_getElem hi]
      cases t[i] <;> rfl
  | d + 1, hd => by
    have T := tbR_ok ht d (by omega)
    rw [tbR]
    generalize hs : tbR t d = s at *
    have hpow : s.2.length = 2 * 2 ^ (inn - (d + 1)) := by rw [T.len, ← Nat.pow_succ', show (inn - (d + 1)).succ = inn - d by omega]
    have hhalf : s.2.length / 2 = 2 ^ (inn - (d + 1)) := by omega
    have hpos := Nat.two_pow_pos (inn - (d + 1))
    rw [hhalf]
    obtain ⟨half, hdef⟩ : ∃ half, half = 2 ^ (inn - (d + 1)) := ⟨_, rfl⟩
    rw [← hdef] at hpow hhalf hpos ⊢
    have L := lvR_ok (inn := inn) (d := d) (by omega) T.ok T.rng half (by omega)
    generalize lvR d s.1 s.2 half = r at *
    refine ⟨by rw [L.len, hdef], L.ok, L.rng, fun w i hi => ?_, ?_⟩
    · rw [L.len] at hi
      rw [L.val w i hi, T.val w (2 * i + 1) (by omega), T.val w (2 * i) (by omega), mod_two_succ, Nat.pow_succ]
      cases w.testBit d with
      | true => simp only [cond_true, Bool.toNat_true]; congr 1; rw [Nat.add_mul, Nat.mul_comm 2 i, Nat.mul_assoc, Nat.mul_comm 2]; omega
      | false => simp only [cond_false, Bool.toNat_false]; congr 1; rw [Nat.mul_comm 2 i, Nat.mul_assoc, Nat.mul_comm 2]; omega
    · have h1 := L.cnt
      have h2 := phi_le r.1 d
      have h3 := T.cnt
      rw [L.len]
      omega

/-- the circuit -/
def bldR (inn : Nat) (t : List Bool) : List Gt := prune (setS (tbR t inn).1 ((tbR t inn).2.getD 0 0)).1 (setS (tbR t inn).1 ((tbR t inn).2.getD 0 0)).2.toNat
theorem bldR_ok {inn : Nat} {t : List Bool} (hi : 1 ≤ inn) (ht : t.length = 2 ^ inn) : 1 ≤ (bldR inn t).length ∧ (bldR inn t).length ≤ 3 * t.length + 3 * inn + 3 ∧ GsOk inn (bldR inn t) ∧ ∀ k (h : k < t.length), gval k (bldR inn t) = t[k] := by
  have T := tbR_ok ht inn (Nat.le_refl _)
  unfold bldR
  generalize tbR t inn = s at *
  have hl : s.2.length = 1 := by rw [T.len, Nat.sub_self]
  have hv : ∀ k (h : k < t.length), pv k s.1 (s.2.getD 0 0) = t[k] := fun k h => by
    rw [T.val k 0 (by omega), Nat.zero_mul, Nat.zero_add, Nat.mod_eq_of_lt (by omega), List.getD_eq_getElem?_getD, List.getElem?_eq_getElem h]; rfl
  have hrg := T.rng _ (getD_mem (l := s.2) (i := 0) (by omega))
  have hc := T.cnt
  generalize s.2.getD 0 0 = p at *
  obtain ⟨q1, _, q3, q4, q5, q6⟩ := set_ok T.ok (show (1 : Int) ≤ inn by omega) hrg
  generalize setS s.1 p = r at *
  obtain ⟨p1, p2, p3, p4, _⟩ := prune_ok q1 (show r.2.toNat < r.1.length by omega)
  exact ⟨p1, by omega, p3, fun k h => by rw [p4, q6, hv k h]⟩

end Go.Av
