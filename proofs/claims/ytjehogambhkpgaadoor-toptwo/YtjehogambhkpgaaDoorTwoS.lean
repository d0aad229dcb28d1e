/- What the code of an instruction does with two counters. -/
import Derived.Test.YtjehogambhkpgaaDoorTwoB
set_option linter.unusedSimpArgs false
set_option linter.unusedVariables false
set_option maxRecDepth 100000
namespace Go.Av
open Go.Proofs

def At (code : List Ord) (q : Nat) (l : List Ord) : Prop := ∀ (i : Nat) o, l[i]? = some o → code[q + i]? = some o
theorem At.left {code : List Ord} {q : Nat} {a b : List Ord} (h : At code q (a ++ b)) : At code q a := fun i o hi =>
  h i o (by rw [List.getElem?_append_left (List.getElem?_eq_some_iff.1 hi).1]; exact hi)
theorem At.right {code : List Ord} {q : Nat} {a b : List Ord} (h : At code q (a ++ b)) : At code (q + a.length) b := fun i o hi => by
  have := h (a.length + i) o (by rw [List.getElem?_append_right (by omega)]; simpa using hi)
  rwa [← Nat.add_assoc] at this

abbrev St := Nat × Nat × Nat
inductive Stp (code : List Ord) : St → St → Prop where
  | more0 {q x y r : Nat} (h : code[q]? = some (mo 0 (r : Nat))) : Stp code (q, x, y) (r, x + 1, y)
  | more1 {q x y r : Nat} (h : code[q]? = some (mo 1 (r : Nat))) : Stp code (q, x, y) (r, x, y + 1)
  | less0 {q x y r : Nat} {z : Int} (h : code[q]? = some (le 0 (r : Nat) z)) : Stp code (q, x + 1, y) (r, x, y)
  | less1 {q x y r : Nat} {z : Int} (h : code[q]? = some (le 1 (r : Nat) z)) : Stp code (q, x, y + 1) (r, x, y)
  | zero0 {q y r : Nat} {n : Int} (h : code[q]? = some (le 0 n (r : Nat))) : Stp code (q, 0, y) (r, 0, y)
  | zero1 {q x r : Nat} {n : Int} (h : code[q]? = some (le 1 n (r : Nat))) : Stp code (q, x, 0) (r, x, 0)

def Stop (B : List Nat) (s : St) : Prop := s.2.2 = 0 ∧ s.1 ∈ B

/-- so many steps lead to the first stop -/
inductive Rch (code : List Ord) (B : List Nat) (e : St) : Nat → St → Prop where
  | last {s : St} (h : Stp code s e) (hs : Stop B e) : Rch code B e 1 s
  | cons {s s' : St} {n : Nat} (h : Stp code s s') (hs : ¬ Stop B s') (r : Rch code B e n s') : Rch code B e (n + 1) s

section
variable {code : List Ord} {B : List Nat} {e : St}

theorem Rch.out {n q x y r : Nat} {s : St} (h : Stp code s (r, x, y)) (hB : r ∉ B) (hr : Rch code B e n (r, x, y)) : Rch code B e (n + 1) s := .cons h (fun hs => hB hs.2) hr
theorem Rch.pos {n x y r : Nat} {s : St} (h : Stp code s (r, x, y)) (hy : y ≠ 0) (hr : Rch code B e n (r, x, y)) : Rch code B e (n + 1) s := .cons h (fun hs => hy hs.1) hr

theorem mos_get {ctr : Int} {q t i : Nat} (h : i < t) : (mos ctr q t)[i]? = some (mo ctr ((q + i + 1 : Nat) : Int)) := by
  induction t with
  | zero => omega
  | succ t ih =>
    simp only [mos]
    by_cases c : i < t
    · rw [List.getElem?_append_left (by rw [mos_length]; exact c)]; exact ih c
    · have : i = t := by omega
      subst this
      rw [List.getElem?_append_right (by rw [mos_length]; omega), mos_length]; simp

/-- increments of the first counter, from the place q + i on -/
theorem mos0_run {q t y : Nat} (h : At code q (mos 0 q t)) (hB : ∀ j, j < t → q + j + 1 ∉ B) : ∀ (k i : Nat), i + k = t → ∀ {x n}, Rch code B e n (q + t, x + k, y) → Rch code B e (n + k) (q + i, x, y)
  | 0, i, hi, x, n, hr => by
    have : i = t := by omega
    subst this; exact hr
  | k + 1, i, hi, x, n, hr => by
    have := mos0_run (y := y) h hB k (i + 1) (by omega) (x := x + 1) (n := n) (by rw [show x + 1 + k = x + (k + 1) by omega]; exact hr)
    refine Rch.out (q := q) (Stp.more0 (h i _ (mos_get (by omega)))) (hB i (by omega)) ?_
    exact this
theorem mos1_run {q t x : Nat} (h : At code q (mos 1 q t)) (hB : ∀ j, j < t → q + j + 1 ∉ B) : ∀ (k i : Nat), i + k = t → ∀ {y n}, Rch code B e n (q + t, x, y + k) → Rch code B e (n + k) (q + i, x, y)
  | 0, i, hi, y, n, hr => by
    have : i = t := by omega
    subst this; exact hr
  | k + 1, i, hi, y, n, hr => by
    have := mos1_run (x := x) h hB k (i + 1) (by omega) (y := y + 1) (n := n) (by rw [show y + 1 + k = y + (k + 1) by omega]; exact hr)
    refine Rch.out (q := q) (Stp.more1 (h i _ (mos_get (by omega)))) (hB i (by omega)) ?_
    exact this

theorem mvs_parts {fr to z : Int} {t q : Nat} (ht : 1 ≤ t) (h : At code q (mvs fr to t q z)) :
    code[q]? = some (le fr ((q + 1 : Nat) : Int) z) ∧ At code (q + 1) (mos to (q + 1) (t - 1)) ∧ code[q + t]? = some (mo to (q : Nat)) := by
  have h1 : At code q ([le fr ((q + 1 : Nat) : Int) z] ++ (mos to (q + 1) (t - 1) ++ [mo to (q : Nat)])) := h
  have h2 := h1.right.left
  have h3 := h1.right.right 0 _ rfl
  refine ⟨h1.left 0 _ rfl, h2, ?_⟩
  simp only [List.length_cons, List.length_nil, mos_length] at h3
  rw [show q + t = q + (0 + 1) + (t - 1) + 0 by omega]; exact h3

/-- the first counter is emptied into the second -/
theorem mv01_run {t q : Nat} {z : Int} (ht : 1 ≤ t) (h : At code q (mvs 0 1 t q z)) (hB : ∀ j, 1 ≤ j → j ≤ t → q + j ∉ B) :
    ∀ (x y n : Nat), Rch code B e n (q, 0, y + t * x) → Rch code B e (n + x * (t + 1)) (q, x, y) := by
  obtain ⟨h1, h2, h3⟩ := mvs_parts ht h
  intro x
  induction x with
  | zero => intro y n hr; simpa using hr
  | succ x ih =>
    intro y n hr
    have r1 := ih (y + t) n (by rw [show y + t + t * x = y + t * (x + 1) by rw [Nat.mul_add]; omega]; exact hr)
    have r2 : Rch code B e (n + x * (t + 1) + 1) (q + t, x, y + (t - 1)) := by
      refine Rch.pos (Stp.more1 h3) (by omega) ?_
      rw [show y + (t - 1) + 1 = y + t by omega]; exact r1
    have r3 := mos1_run (x := x) (e := e) (B := B) h2 (fun j hj => by rw [show q + 1 + j + 1 = q + (j + 2) by omega]; exact hB _ (by omega) (by omega)) (t - 1) 0 (by omega) (y := y) (n := n + x * (t + 1) + 1)
      (by rw [show q + 1 + (t - 1) = q + t by omega]; exact r2)
    have r4 := Rch.out (q := q) (Stp.less0 (x := x) (y := y) h1) (hB 1 (by omega) (by omega)) r3
    rw [show n + (x + 1) * (t + 1) = n + x * (t + 1) + 1 + (t - 1) + 1 by rw [Nat.add_mul]; omega]
    exact r4

/-- the second counter is emptied into the first -/
theorem mv10_run {t q : Nat} {z : Int} (ht : 1 ≤ t) (h : At code q (mvs 1 0 t q z)) (hB : ∀ j, j ≤ t → q + j ∉ B) :
    ∀ (y x n : Nat), Rch code B e n (q, x + t * y, 0) → Rch code B e (n + y * (t + 1)) (q, x, y) := by
  obtain ⟨h1, h2, h3⟩ := mvs_parts ht h
  intro y
  induction y with
  | zero => intro x n hr; simpa using hr
  | succ y ih =>
    intro x n hr
    have r1 := ih (x + t) n (by rw [show x + t + t * y = x + t * (y + 1) by rw [Nat.mul_add]; omega]; exact hr)
    have r2 : Rch code B e (n + y * (t + 1) + 1) (q + t, x + (t - 1), y) := by
      refine Rch.out (q := q) (Stp.more0 h3) (hB 0 (by omega)) ?_
      rw [show x + (t - 1) + 1 = x + t by omega]; exact r1
    have r3 := mos0_run (y := y) (e := e) (B := B) h2 (fun j hj => by rw [show q + 1 + j + 1 = q + (j + 2) by omega]; exact hB _ (by omega)) (t - 1) 0 (by omega) (x := x) (n := n + y * (t + 1) + 1)
      (by rw [show q + 1 + (t - 1) = q + t by omega]; exact r2)
    have r4 := Rch.out (q := q) (Stp.less1 (x := x) (y := y) h1) (hB 1 (by omega)) r3
    rw [show n + (y + 1) * (t + 1) = n + y * (t + 1) + 1 + (t - 1) + 1 by rw [Nat.add_mul]; omega]
    exact r4

/-- an increment -/
theorem more_run {p q N r : Nat} (hp : 2 ≤ p) (h : At code q (mvs 0 1 p q ((q + p + 1 : Nat) : Int) ++ mvs 1 0 1 (q + p + 1) (r : Nat))) (hB : ∀ j, 1 ≤ j → j ≤ p + 2 → q + j ∉ B) (hr : r ∈ B) :
    Rch code B (r, p * N, 0) (1 + p * N * 2 + 1 + N * (p + 1)) (q, N, 0) := by
  have ha := h.left
  have hb := h.right
  rw [mvs_length _ _ _ _ _ (by omega), show q + (p + 1) = q + p + 1 by omega] at hb
  have b1 := (mvs_parts (by omega) hb).1
  have a1 := (mvs_parts (by omega) ha).1
  have r1 : Rch code B (r, p * N, 0) 1 (q + p + 1, p * N, 0) := .last (Stp.zero1 b1) ⟨rfl, hr⟩
  have r2 := mv10_run (e := (r, p * N, 0)) (B := B) (by omega) hb (fun j hj => by rw [show q + p + 1 + j = q + (p + 1 + j) by omega]; exact hB _ (by omega) (by omega)) (p * N) 0 1 (by simpa using r1)
  have r3 := Rch.out (q := q) (Stp.zero0 (y := p * N) a1) (by rw [show q + p + 1 = q + (p + 1) by omega]; exact hB _ (by omega) (by omega)) r2
  have r4 := mv01_run (e := (r, p * N, 0)) (B := B) (by omega) ha (fun j h1 h2 => hB j h1 (by omega)) N 0 _ (by simpa using r3)
  simpa using r4

theorem chn_get {q p k i : Nat} (h : i < k) : (chn q p k)[i]? = some (le 0 ((q + (i + 1) + 1 : Nat) : Int) (((q + 2 * p + 2 : Nat) : Int) - ((i + 1 : Nat) : Int))) := by
  induction k with
  | zero => omega
  | succ k ih =>
    simp only [chn]
    by_cases c : i < k
    · rw [List.getElem?_append_left (by rw [chn_length]; exact c)]; exact ih c
    · have : i = k := by omega
      subst this
      rw [List.getElem?_append_right (by rw [chn_length]; omega), chn_length]; simp

theorem lsA_parts {p q : Nat} (hp : 2 ≤ p) (h : At code q (lsA q p)) :
    code[q]? = some (le 0 ((q + 1 : Nat) : Int) ((q + p + 1 : Nat) : Int)) ∧ (∀ i, 1 ≤ i → i < p → code[q + i]? = some (le 0 ((q + i + 1 : Nat) : Int) ((q + 2 * p + 2 - i : Nat) : Int))) ∧ code[q + p]? = some (mo 1 (q : Nat)) := by
  have h1 : At code q ([le 0 ((q + 1 : Nat) : Int) ((q + p + 1 : Nat) : Int)] ++ (chn q p (p - 1) ++ [mo 1 (q : Nat)])) := h
  have h2 := h1.right.left
  have h3 := h1.right.right 0 _ rfl
  refine ⟨h1.left 0 _ rfl, fun i hi1 hi2 => ?_, ?_⟩
  · have := h2 (i - 1) _ (chn_get (by omega))
    simp only [List.length_cons, List.length_nil] at this
    rw [show q + (0 + 1) + (i - 1) = q + i by omega, show i - 1 + 1 = i by omega] at this
    rw [this]
    congr 2
    omega
  · simp only [List.length_cons, List.length_nil, chn_length] at h3
    rw [show q + p = q + (0 + 1) + (p - 1) + 0 by omega]; exact h3

/-- so many decrements one after the other -/
theorem chn_run {p q : Nat} (hp : 2 ≤ p) (h : At code q (lsA q p)) (hB : ∀ j, 1 ≤ j → j ≤ p → q + j ∉ B) : ∀ (k i : Nat), i + k ≤ p → ∀ {x y n}, Rch code B e n (q + (i + k), x, y) → Rch code B e (n + k) (q + i, x + k, y)
  | 0, i, hi, x, y, n, hr => hr
  | k + 1, i, hi, x, y, n, hr => by
    obtain ⟨h1, h2, _⟩ := lsA_parts hp h
    have r := chn_run hp h hB k (i + 1) (by omega) (x := x) (y := y) (n := n) (by rw [show i + 1 + k = i + (k + 1) by omega]; exact hr)
    have hstep : Stp code (q + i, x + k + 1, y) (q + (i + 1), x + k, y) := by
      cases i with
      | zero => exact Stp.less0 h1
      | succ i => exact Stp.less0 (by rw [h2 (i + 1) (by omega) (by omega)]; rfl)
    exact Rch.out (q := q) hstep (hB _ (by omega) (by omega)) r

/-- division -/
theorem div_run {p q : Nat} (hp : 2 ≤ p) (h : At code q (lsA q p)) (hB : ∀ j, 1 ≤ j → j ≤ p → q + j ∉ B) : ∀ (a x y n : Nat), Rch code B e n (q, x, y + a) → Rch code B e (n + a * (p + 1)) (q, x + p * a, y) := by
  intro a
  induction a with
  | zero => intro x y n hr; simpa using hr
  | succ a ih =>
    intro x y n hr
    obtain ⟨_, _, h3⟩ := lsA_parts hp h
    have r1 := ih x (y + 1) n (by rw [show y + 1 + a = y + (a + 1) by omega]; exact hr)
    have r2 := Rch.pos (Stp.more1 (x := x + p * a) (y := y) h3) (by omega) r1
    have r3 := chn_run (e := e) hp h hB p 0 (by omega) (x := x + p * a) (y := y) (by rw [Nat.zero_add]; exact r2)
    rw [show n + (a + 1) * (p + 1) = n + a * (p + 1) + 1 + p by rw [Nat.add_mul]; omega, show x + p * (a + 1) = x + p * a + p by rw [Nat.mul_add]; omega]
    exact r3

/-- a decrement that finds something -/
theorem less_run {p q a r : Nat} {z : Int} (hp : 2 ≤ p) (h : At code q (lsL q p (r : Nat) z)) (hB : ∀ j, 1 ≤ j → j ≤ 3 * p + 2 → q + j ∉ B) (hr : r ∈ B) :
    Rch code B (r, a, 0) (1 + a * 2 + 1 + a * (p + 1)) (q, p * a, 0) := by
  have hA := h.left
  have hM := h.right.left
  have hlen : (lsA q p).length = p + 1 := by simp [lsA, chn_length]; omega
  rw [hlen, show q + (p + 1) = q + p + 1 by omega] at hM
  obtain ⟨h1, _, _⟩ := lsA_parts hp hA
  have b1 := (mvs_parts (by omega) hM).1
  have r1 : Rch code B (r, a, 0) 1 (q + p + 1, a, 0) := .last (Stp.zero1 b1) ⟨rfl, hr⟩
  have r2 := mv10_run (e := (r, a, 0)) (B := B) (by omega) hM (fun j hj => by rw [show q + p + 1 + j = q + (p + 1 + j) by omega]; exact hB _ (by omega) (by omega)) a 0 1 (by simpa using r1)
  have r3 := Rch.out (q := q) (Stp.zero0 (y := a) h1) (by rw [show q + p + 1 = q + (p + 1) by omega]; exact hB _ (by omega) (by omega)) r2
  have r4 := div_run (e := (r, a, 0)) hp hA (fun j h1 h2 => hB j h1 (by omega)) a 0 0 _ (by simpa using r3)
  simpa using r4

/-- a decrement that finds nothing -/
theorem zero_run {p q a b r : Nat} {n : Int} (hp : 2 ≤ p) (hb : 1 ≤ b ∧ b < p) (h : At code q (lsL q p n (r : Nat))) (hB : ∀ j, 1 ≤ j → j ≤ 3 * p + 2 → q + j ∉ B) (hr : r ∈ B) :
    Rch code B (r, b + p * a, 0) (1 + a * (p + 1) + b + 1 + b + a * (p + 1)) (q, b + p * a, 0) := by
  have hA := h.left
  have hlen : (lsA q p).length = p + 1 := by simp [lsA, chn_length]; omega
  have hR := h.right.right
  rw [hlen, mvs_length _ _ _ _ _ (by omega), show q + (p + 1) + (1 + 1) = q + p + 3 by omega] at hR
  have hI := hR.left
  have hZ := hR.right
  rw [mos_length, show q + p + 3 + (p - 1) = q + 2 * p + 2 by omega] at hZ
  obtain ⟨_, h2, _⟩ := lsA_parts hp hA
  have b1 := (mvs_parts (by omega) hZ).1
  have r1 : Rch code B (r, b + p * a, 0) 1 (q + 2 * p + 2, b + p * a, 0) := .last (Stp.zero1 b1) ⟨rfl, hr⟩
  have r2 := mv10_run (e := (r, b + p * a, 0)) (B := B) (by omega) hZ (fun j hj => by rw [show q + 2 * p + 2 + j = q + (2 * p + 2 + j) by omega]; exact hB _ (by omega) (by omega)) a b 1 r1
  have r3 := mos0_run (y := a) (e := (r, b + p * a, 0)) (B := B) hI (fun j hj => by rw [show q + p + 3 + j + 1 = q + (p + 4 + j) by omega]; exact hB _ (by omega) (by omega)) b (p - 1 - b) (by omega) (x := 0)
    (by rw [show q + p + 3 + (p - 1) = q + 2 * p + 2 by omega, Nat.zero_add]; exact r2)
  rw [show q + p + 3 + (p - 1 - b) = q + 2 * p + 2 - b by omega] at r3
  have r4 := Rch.out (q := q) (Stp.zero0 (y := a) (h2 b hb.1 hb.2)) (by rw [show q + 2 * p + 2 - b = q + (2 * p + 2 - b) by omega]; exact hB _ (by omega) (by omega)) r3
  have r5 := chn_run (e := (r, b + p * a, 0)) hp hA (fun j h1 h2 => hB j h1 (by omega)) b 0 (by omega) (x := 0) (y := a) (by rw [Nat.zero_add]; exact r4)
  have r6 := div_run (e := (r, b + p * a, 0)) hp hA (fun j h1 h2 => hB j h1 (by omega)) a b 0 _ (by simpa using r5)
  exact r6

end
end Go.Av
