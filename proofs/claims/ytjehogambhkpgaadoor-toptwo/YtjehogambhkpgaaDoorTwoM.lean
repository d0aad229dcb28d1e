/- The encoding of counters by primes: facts on numbers alone. -/
import Derived.Test.YtjehogambhkpgaaDoorLib
set_option linter.unusedSimpArgs false
set_option linter.unusedVariables false
namespace Go.Av

def pk : List Nat → List Int → Nat
  | [], _ => 1
  | _ :: _, [] => 1
  | p :: ps, c :: cs => p ^ c.toNat * pk ps cs

def prs : List Nat := [2, 3, 5, 7]
def packed (c : List Int) : Nat := pk prs c

theorem prs_pos : ∀ p ∈ prs, 0 < p := by decide

theorem pk_nil (ps : List Nat) : pk ps [] = 1 := by cases ps <;> rfl
theorem pk_pos {ps : List Nat} (h : ∀ p ∈ ps, 0 < p) : ∀ c : List Int, 0 < pk ps c := by
  induction ps with
  | nil => intro c; simp [pk]
  | cons p ps ih =>
    intro c
    cases c with
    | nil => simp [pk]
    | cons x c =>
      simp only [pk]
      exact Nat.mul_pos (Nat.pow_pos (h p (by simp))) (ih (fun q hq => h q (by simp [hq])) c)
theorem packed_pos (c : List Int) : 0 < packed c := pk_pos prs_pos c

theorem pk_take : ∀ {ps : List Nat} {c : List Int} {k : Nat} (hk : k < c.length) (hp : k < ps.length), pk ps (c.take (k + 1)) = pk ps (c.take k) * ps[k] ^ (c[k]).toNat
  | [], _, _, _, hp => by simp at hp
  | _ :: _, [], _, hk, _ => by simp at hk
  | p :: ps, x :: c, 0, _, _ => by simp [pk, pk_nil]
  | p :: ps, x :: c, k + 1, hk, hp => by
    have := pk_take (ps := ps) (c := c) (k := k) (by simpa using hk) (by simpa using hp)
    simp only [List.take_succ_cons, pk, List.getElem_cons_succ] at this ⊢
    rw [this, Nat.mul_assoc]

theorem pk_le : ∀ {ps : List Nat} {c : List Int} {k : Nat}, (∀ p ∈ ps, 0 < p) → pk ps (c.take k) ≤ pk ps c
  | [], _, _, _ => by simp [pk]
  | _ :: _, [], k, _ => by simp
  | p :: ps, x :: c, 0, h => by simp only [List.take_zero, pk_nil]; exact pk_pos h _
  | p :: ps, x :: c, k + 1, h => by
    simp only [List.take_succ_cons, pk]
    exact Nat.mul_le_mul_left _ (pk_le (fun q hq => h q (by simp [hq])))

theorem packed_step {c : List Int} {k : Nat} (hk : k < c.length) (h4 : k < 4) : packed (c.take (k + 1)) = packed (c.take k) * prs[k] ^ (c[k]).toNat := pk_take (ps := prs) hk h4
theorem packed_part {c : List Int} {k j : Nat} (hk : k < c.length) (h4 : k < 4) (hj : j ≤ (c[k]).toNat) : packed (c.take k) * prs[k] ^ j ≤ packed c := by
  refine Nat.le_trans ?_ (pk_le (k := k + 1) prs_pos)
  show _ ≤ packed _
  rw [packed_step hk h4]
  refine Nat.mul_le_mul_left _ (Nat.pow_le_pow_right ?_ hj)
  exact prs_pos _ (List.getElem_mem _)

/-- entries from 0 to M -/
def Ents (M : Int) (c : List Int) : Prop := ∀ x ∈ c, 0 ≤ x ∧ x ≤ M

theorem pk_bound {M : Int} : ∀ {ps : List Nat} {c : List Int}, (∀ p ∈ ps, 0 < p) → Ents M c → pk ps c ≤ pk ps (ps.map fun _ => M)
  | [], _, _, _ => by simp [pk]
  | p :: ps, [], h, _ => by rw [pk_nil]; exact pk_pos h _
  | p :: ps, x :: c, h, hc => by
    simp only [List.map_cons, pk]
    refine Nat.mul_le_mul (Nat.pow_le_pow_right (h p (by simp)) ?_) (pk_bound (fun q hq => h q (by simp [hq])) (fun y hy => hc y (by simp [hy])))
    have := hc x (by simp)
    omega
theorem packed4 {c : List Int} (h : Ents 4 c) : packed c ≤ 1944810000 := pk_bound prs_pos h
theorem packed3 {c : List Int} (h : Ents 3 c) : packed c ≤ 9261000 := pk_bound prs_pos h
theorem packed2 {c : List Int} (h : Ents 2 c) : packed c ≤ 44100 := pk_bound prs_pos h

/-- how often a number divides another one; what is left -/
def ex (p n : Nat) : Nat := if h : 1 < p ∧ 0 < n ∧ n % p = 0 then ex p (n / p) + 1 else 0
termination_by n
decreasing_by exact Nat.div_lt_self h.2.1 h.1
def rst (p n : Nat) : Nat := if h : 1 < p ∧ 0 < n ∧ n % p = 0 then rst p (n / p) else n
termination_by n
decreasing_by exact Nat.div_lt_self h.2.1 h.1

theorem ex_step {p n : Nat} (h : 1 < p ∧ 0 < n ∧ n % p = 0) : ex p n = ex p (n / p) + 1 := by rw [ex, dif_pos h]
theorem rst_step {p n : Nat} (h : 1 < p ∧ 0 < n ∧ n % p = 0) : rst p n = rst p (n / p) := by rw [rst, dif_pos h]
theorem ex_stop {p n : Nat} (h : ¬ n % p = 0) : ex p n = 0 := by rw [ex, dif_neg (fun q => h q.2.2)]
theorem rst_stop {p n : Nat} (h : ¬ n % p = 0) : rst p n = n := by rw [rst, dif_neg (fun q => h q.2.2)]

theorem ex_rst (p n : Nat) (hp : 1 < p) (hn : 0 < n) : p ^ ex p n * rst p n = n := by
  induction n using Nat.strongRecOn with
  | ind n ih =>
    by_cases h : n % p = 0
    · have hd : n / p * p = n := Nat.div_mul_cancel (Nat.dvd_of_mod_eq_zero h)
      have hq : 0 < n / p := Nat.pos_of_ne_zero fun h0 => by rw [h0] at hd; omega
      rw [ex_step ⟨hp, hn, h⟩, rst_step ⟨hp, hn, h⟩, Nat.pow_succ, Nat.mul_assoc, Nat.mul_comm p, ← Nat.mul_assoc, ih (n / p) (Nat.div_lt_self hn hp) hq, hd]
    · rw [ex_stop h, rst_stop h]; simp
theorem rst_pos {p n : Nat} (hp : 1 < p) (hn : 0 < n) : 0 < rst p n := by
  have := ex_rst p n hp hn
  refine Nat.pos_of_ne_zero fun h => ?_
  rw [h] at this; omega
theorem rst_le {p n : Nat} (hp : 1 < p) (hn : 0 < n) : rst p n ≤ n := by
  have := ex_rst p n hp hn
  have h1 : 0 < p ^ ex p n := Nat.pow_pos (by omega)
  calc rst p n ≤ p ^ ex p n * rst p n := Nat.le_mul_of_pos_left _ h1
    _ = n := this
theorem ex_mul {p m : Nat} (hp : 1 < p) (hm : ¬ m % p = 0) : ∀ k, ex p (p ^ k * m) = k ∧ rst p (p ^ k * m) = m := by
  have hm0 : 0 < m := Nat.pos_of_ne_zero fun h => hm (by rw [h]; exact Nat.zero_mod _)
  intro k
  induction k with
  | zero => simp only [Nat.pow_zero, Nat.one_mul]; exact ⟨ex_stop hm, rst_stop hm⟩
  | succ k ih =>
    have e : p ^ (k + 1) * m = p ^ k * m * p := by rw [Nat.pow_succ, Nat.mul_assoc, Nat.mul_comm p m, Nat.mul_assoc]
    have h0 : 0 < p ^ k * m * p := Nat.mul_pos (Nat.mul_pos (Nat.pow_pos (by omega)) hm0) (by omega)
    have hd : p ^ k * m * p / p = p ^ k * m := Nat.mul_div_cancel _ (by omega)
    rw [e, ex_step ⟨hp, h0, Nat.mul_mod_left _ _⟩, rst_step ⟨hp, h0, Nat.mul_mod_left _ _⟩, hd, ih.1, ih.2]
    exact ⟨rfl, rfl⟩

/-- counters out of a number, and what is left -/
def opn : List Nat → Nat → List Nat × Nat
  | [], n => ([], n)
  | p :: ps, n => (ex p n :: (opn ps (rst p n)).1, (opn ps (rst p n)).2)

theorem opn_snoc (ps : List Nat) (p n : Nat) : opn (ps ++ [p]) n = ((opn ps n).1 ++ [ex p (opn ps n).2], rst p (opn ps n).2) := by
  induction ps generalizing n with
  | nil => rfl
  | cons q ps ih => simp only [List.cons_append, opn, ih]
theorem opn_length (ps : List Nat) (n : Nat) : (opn ps n).1.length = ps.length := by
  induction ps generalizing n with
  | nil => rfl
  | cons q ps ih => simp [opn, ih]
theorem opn_pos {ps : List Nat} (h : ∀ p ∈ ps, 1 < p) : ∀ {n : Nat}, 0 < n → 0 < (opn ps n).2 ∧ (opn ps n).2 ≤ n := by
  induction ps with
  | nil => intro n hn; simp [opn, hn]
  | cons q ps ih =>
    intro n hn
    have hq := h q (by simp)
    have := ih (fun p hp => h p (by simp [hp])) (rst_pos hq hn)
    have h2 := rst_le hq hn
    simp only [opn]
    omega
theorem opn_mul {ps : List Nat} (h : ∀ p ∈ ps, 1 < p) : ∀ {n : Nat}, 0 < n → pk ps ((opn ps n).1.map Int.ofNat) * (opn ps n).2 = n := by
  induction ps with
  | nil => intro n hn; simp [opn, pk]
  | cons q ps ih =>
    intro n hn
    have hq := h q (by simp)
    have := ih (fun p hp => h p (by simp [hp])) (rst_pos hq hn)
    simp only [opn, List.map_cons, pk, Int.ofNat_eq_natCast, Int.toNat_natCast] at this ⊢
    rw [Nat.mul_assoc, this]
    exact ex_rst q n hq hn

theorem pk_more {ps qs : List Nat} {c : List Int} (h : c.length ≤ ps.length) : pk (ps ++ qs) c = pk ps c := by
  induction ps generalizing c with
  | nil => cases c with
    | nil => simp [pk, pk_nil]
    | cons x c => simp at h
  | cons p ps ih =>
    cases c with
    | nil => rfl
    | cons x c => simp only [List.cons_append, pk]; rw [ih (by simpa using h)]
theorem packed_cut {k : Nat} {c : List Int} (h : c.length ≤ k) (h4 : k ≤ 4) : packed c = pk (prs.take k) c := by
  have : prs = prs.take k ++ prs.drop k := (List.take_append_drop k prs).symm
  rw [packed, this, pk_more (by simp [prs]; omega), ← this]

/-- what is no multiple of p -/
def PrimeTo (p : Nat) : Prop := ∀ a b : Nat, ¬ a % p = 0 → ¬ b % p = 0 → ¬ (a * b) % p = 0
theorem apart_of {p : Nat} (h : ∀ a < p, ∀ b < p, ¬ a = 0 → ¬ b = 0 → ¬ (a * b) % p = 0) (hp : 0 < p) : PrimeTo p := by
  intro a b ha hb
  rw [Nat.mul_mod]
  exact h _ (Nat.mod_lt _ hp) _ (Nat.mod_lt _ hp) ha hb
theorem apart2 : PrimeTo 2 := apart_of (by decide) (by decide)
theorem apart3 : PrimeTo 3 := apart_of (by decide) (by decide)
theorem apart5 : PrimeTo 5 := apart_of (by decide) (by decide)
theorem apart7 : PrimeTo 7 := apart_of (by decide) (by decide)
theorem pow_apart {p q : Nat} (h : PrimeTo p) (h1 : ¬ 1 % p = 0) (hq : ¬ q % p = 0) : ∀ k, ¬ (q ^ k) % p = 0
  | 0 => by simpa using h1
  | k + 1 => by rw [Nat.pow_succ]; exact h _ _ (pow_apart h h1 hq k) hq
theorem pk_apart {p : Nat} (h : PrimeTo p) (h1 : ¬ 1 % p = 0) : ∀ {ps : List Nat}, (∀ q ∈ ps, ¬ q % p = 0) → ∀ c : List Int, ¬ (pk ps c) % p = 0
  | [], _, c => by simpa [pk] using h1
  | q :: ps, hq, [] => by simpa [pk] using h1
  | q :: ps, hq, x :: c => by
    simp only [pk]
    exact h _ _ (pow_apart h h1 (hq q (by simp)) _) (pk_apart h h1 (fun r hr => hq r (by simp [hr])) c)

/-- a list of numbers, each of which is prime to those behind it -/
def Pars : List Nat → Prop
  | [] => True
  | p :: ps => 1 < p ∧ PrimeTo p ∧ (∀ q ∈ ps, ¬ q % p = 0) ∧ Pars ps
theorem prs_pars : Pars prs := ⟨by decide, apart2, by decide, by decide, apart3, by decide, by decide, apart5, by decide, by decide, apart7, by decide, trivial⟩
theorem Pars.take {ps : List Nat} (h : Pars ps) : ∀ k, Pars (ps.take k) := by
  induction ps with
  | nil => intro k; simp [Pars]
  | cons p ps ih =>
    intro k
    cases k with
    | zero => trivial
    | succ k => exact ⟨h.1, h.2.1, fun q hq => h.2.2.1 q (List.mem_of_mem_take hq), ih h.2.2.2 k⟩

theorem opn_pk : ∀ {ps : List Nat} {c : List Int}, Pars ps → c.length = ps.length → (∀ x ∈ c, 0 ≤ x) → opn ps (pk ps c) = (c.map Int.toNat, 1)
  | [], [], _, _, _ => rfl
  | [], _ :: _, _, hl, _ => by simp at hl
  | _ :: _, [], _, hl, _ => by simp at hl
  | p :: ps, x :: c, h, hl, hc => by
    have h1 : ¬ 1 % p = 0 := by rw [Nat.mod_eq_of_lt h.1]; decide
    have := ex_mul h.1 (pk_apart h.2.1 h1 h.2.2.1 c) x.toNat
    simp only [opn, pk, this.1, this.2, List.map_cons]
    rw [opn_pk h.2.2.2 (by simpa using hl) (fun y hy => hc y (by simp [hy]))]
theorem opn_packed {c : List Int} (h4 : c.length ≤ 4) (hc : ∀ x ∈ c, 0 ≤ x) : opn (prs.take c.length) (packed c) = (c.map Int.toNat, 1) := by
  rw [packed_cut (Nat.le_refl _) h4]
  exact opn_pk (prs_pars.take _) (by simp [prs]; omega) hc

theorem pk_add : ∀ {ps : List Nat} {a b : List Int}, a.length = b.length → (∀ x ∈ a, 0 ≤ x) → (∀ x ∈ b, 0 ≤ x) → pk ps (List.zipWith (· + ·) a b) = pk ps a * pk ps b
  | [], _, _, _, _, _ => by simp [pk]
  | _ :: _, [], [], _, _, _ => by simp [pk]
  | _ :: _, [], _ :: _, h, _, _ => by simp at h
  | _ :: _, _ :: _, [], h, _, _ => by simp at h
  | p :: ps, x :: a, y :: b, h, ha, hb => by
    have := pk_add (ps := ps) (a := a) (b := b) (by simpa using h) (fun z hz => ha z (by simp [hz])) (fun z hz => hb z (by simp [hz]))
    have h1 := ha x (by simp)
    have h2 := hb y (by simp)
    simp only [List.zipWith_cons_cons, pk, this]
    rw [show (x + y).toNat = x.toNat + y.toNat by omega, Nat.pow_add]
    simp only [Nat.mul_assoc, Nat.mul_left_comm]
theorem packed_add {a b : List Int} (h : a.length = b.length) (ha : ∀ x ∈ a, 0 ≤ x) (hb : ∀ x ∈ b, 0 ≤ x) : packed (List.zipWith (· + ·) a b) = packed a * packed b := pk_add h ha hb

end Go.Av
