/- The beta function: the functions. -/
import Derived.Test.YtpfeliiankfmbaaHas
set_option linter.unusedSimpArgs false
set_option linter.unusedVariables false
set_option maxRecDepth 100000
namespace Go.Av
open Go.Proofs

/-- what is divided by -/
def dv (b i : Nat) : Nat := 1 + (i + 1) * b
theorem dv_bound {b i : Nat} (hb : b ≤ 1099511627776) (hi : i ≤ 1000) : dv b i ≤ 1 + 1001 * 1099511627776 := by
  have := Nat.mul_le_mul (show i + 1 ≤ 1001 by omega) hb
  unfold dv; omega

theorem divisor_spec (b i : Nat) (hb : b ≤ 1099511627776) (hi : i ≤ 1000) : CallsA Try.prog 18 [IN b, IN i] (IN (dv b i)) [] := by
  refine fn_of0 comp18 (by simp) ?_
  unfold code18
  have h := dv_bound hb hi
  have hd : dv b i = 1 + (i + 1) * b := rfl
  have w1 : IntKind.i64.wrap ((i : Int) + 1) = ((i + 1 : Nat) : Int) := by rw [wrap_id] <;> omega
  have w2 : IntKind.i64.wrap (((i + 1 : Nat) : Int) * (b : Int)) = (((i + 1) * b : Nat) : Int) := by rw [← Int.natCast_mul, wrap_id] <;> omega
  have w3 : IntKind.i64.wrap (1 + (((i + 1) * b : Nat) : Int)) = (dv b i : Int) := by rw [hd, wrap_id] <;> omega
  simp (maxSteps := 1000000) only [w1, w2, w3, EA, EB, EC, ED, EE, EF, EG, EH, XA, XB, XC, XD, XE, XF, XG, XH, XI, XJ, XK, XL, XM, reduceIte, ↓reduceIte, Nat.reduceAdd, Nat.reduceLeDiff, Nat.reduceEqDiff, Nat.reduceLT, Nat.reduceSub, Nat.reduceBEq, forall_const, reduceCtorEq, implies_true, exists_eq_left', exists_eq_left, if_true, if_false, undef]

def betaAns (a b i : Int) : AV := if 0 ≤ a ∧ 0 ≤ b ∧ b ≤ 1099511627776 ∧ 0 ≤ i ∧ i ≤ 1000 then .tup [IN (a.toNat % dv b.toNat i.toNat), I 0] else .tup [I 0, I 4]
theorem beta_spec (a b i : Int) (ha : a < 2 ^ 63) : CallsA Try.prog 13 [I a, I b, I i] (betaAns a b i) [] := by
  refine fn_of0 comp13 (by simp) ?_
  unfold code13
  by_cases h1 : a < 0
  · have f1 : decide (a < 0) = true := by simp [h1]
    rw [betaAns, if_neg (by omega)]
    simp (maxSteps := 1000000) only [f1, EA, EB, EC, ED, EE, EF, EG, EH, XA, XB, XC, XD, XE, XF, XG, XH, XI, XJ, XK, XL, XM, reduceIte, ↓reduceIte, Nat.reduceAdd, Nat.reduceLeDiff, Nat.reduceEqDiff, Nat.reduceLT, Nat.reduceSub, Nat.reduceBEq, forall_const, reduceCtorEq, implies_true, exists_eq_left', exists_eq_left, if_true, if_false, undef]
  have f1 : decide (a < 0) = false := by simp; omega
  by_cases h2 : b < 0
  · have f2 : decide (b < 0) = true := by simp; omega
    rw [betaAns, if_neg (by omega)]
    simp (maxSteps := 1000000) only [f1, f2, EA, EB, EC, ED, EE, EF, EG, EH, XA, XB, XC, XD, XE, XF, XG, XH, XI, XJ, XK, XL, XM, reduceIte, ↓reduceIte, Nat.reduceAdd, Nat.reduceLeDiff, Nat.reduceEqDiff, Nat.reduceLT, Nat.reduceSub, Nat.reduceBEq, forall_const, reduceCtorEq, implies_true, exists_eq_left', exists_eq_left, if_true, if_false, undef]
  have f2 : decide (b < 0) = false := by simp; omega
  by_cases h3 : b > 1099511627776
  · have f3 : decide (b > 1099511627776) = true := by simp; omega
    rw [betaAns, if_neg (by omega)]
    simp (maxSteps := 1000000) only [f1, f2, f3, EA, EB, EC, ED, EE, EF, EG, EH, XA, XB, XC, XD, XE, XF, XG, XH, XI, XJ, XK, XL, XM, reduceIte, ↓reduceIte, Nat.reduceAdd, Nat.reduceLeDiff, Nat.reduceEqDiff, Nat.reduceLT, Nat.reduceSub, Nat.reduceBEq, forall_const, reduceCtorEq, implies_true, exists_eq_left', exists_eq_left, if_true, if_false, undef]
  have f3 : decide (b > 1099511627776) = false := by simp; omega
  by_cases h4 : i < 0
  · have f4 : decide (i < 0) = true := by simp; omega
    rw [betaAns, if_neg (by omega)]
    simp (maxSteps := 1000000) only [f1, f2, f3, f4, EA, EB, EC, ED, EE, EF, EG, EH, XA, XB, XC, XD, XE, XF, XG, XH, XI, XJ, XK, XL, XM, reduceIte, ↓reduceIte, Nat.reduceAdd, Nat.reduceLeDiff, Nat.reduceEqDiff, Nat.reduceLT, Nat.reduceSub, Nat.reduceBEq, forall_const, reduceCtorEq, implies_true, exists_eq_left', exists_eq_left, if_true, if_false, undef]
  have f4 : decide (i < 0) = false := by simp; omega
  by_cases h5 : i > 1000
  · have f5 : decide (i > 1000) = true := by simp; omega
    rw [betaAns, if_neg (by omega)]
    simp (maxSteps := 1000000) only [f1, f2, f3, f4, f5, EA, EB, EC, ED, EE, EF, EG, EH, XA, XB, XC, XD, XE, XF, XG, XH, XI, XJ, XK, XL, XM, reduceIte, ↓reduceIte, Nat.reduceAdd, Nat.reduceLeDiff, Nat.reduceEqDiff, Nat.reduceLT, Nat.reduceSub, Nat.reduceBEq, forall_const, reduceCtorEq, implies_true, exists_eq_left', exists_eq_left, if_true, if_false, undef]
  have f5 : decide (i > 1000) = false := by simp; omega
  rw [betaAns, if_pos (by omega)]
  obtain ⟨x, rfl⟩ : ∃ x : Nat, a = x := ⟨a.toNat, by omega⟩
  obtain ⟨y, rfl⟩ : ∃ y : Nat, b = y := ⟨b.toNat, by omega⟩
  obtain ⟨z, rfl⟩ : ∃ z : Nat, i = z := ⟨i.toNat, by omega⟩
  have hd : (dv y z : Int) ≠ 0 := by unfold dv; omega
  have hm : Int.tmod (x : Int) (dv y z : Int) = ((x % dv y z : Nat) : Int) := rfl
  simp (maxSteps := 1000000) only [f1, f2, f3, f4, f5, Int.toNat_natCast, EA, EB, EC, ED, EE, EF, EG, EH, XA, XB, XC, XD, XE, XF, XG, XH, XI, XJ, XK, XL, XM, reduceIte, ↓reduceIte, Nat.reduceAdd, Nat.reduceLeDiff, Nat.reduceEqDiff, Nat.reduceLT, Nat.reduceSub, Nat.reduceBEq, forall_const, reduceCtorEq, implies_true, exists_eq_left', exists_eq_left, if_true, if_false, undef]
  refine callF (CallsA.args (divisor_spec y z (by omega) (by omega)) (by simp [EA, EB, EC, ED, EE, EF, EG, EH, XA, XB, XC, XD, XE, XF, XG, XH, XI, XJ, XK, XL, XM, reduceIte, ↓reduceIte, Nat.reduceAdd, Nat.reduceLeDiff, Nat.reduceEqDiff, Nat.reduceLT, Nat.reduceSub, Nat.reduceBEq, forall_const, reduceCtorEq, implies_true, exists_eq_left', exists_eq_left, if_true, if_false, undef])) rfl (by simp [flat, EA, EB, EC, ED, EE, EF, EG, EH, XA, XB, XC, XD, XE, XF, XG, XH, XI, XJ, XK, XL, XM, reduceIte, ↓reduceIte, Nat.reduceAdd, Nat.reduceLeDiff, Nat.reduceEqDiff, Nat.reduceLT, Nat.reduceSub, Nat.reduceBEq, forall_const, reduceCtorEq, implies_true, exists_eq_left', exists_eq_left, if_true, if_false, undef]) ?_
  simp (maxSteps := 1000000) only [hm, Int.toNat_natCast, EA, EB, EC, ED, EE, EF, EG, EH, XA, XB, XC, XD, XE, XF, XG, XH, XI, XJ, XK, XL, XM, reduceIte, ↓reduceIte, Nat.reduceAdd, Nat.reduceLeDiff, Nat.reduceEqDiff, Nat.reduceLT, Nat.reduceSub, Nat.reduceBEq, forall_const, reduceCtorEq, implies_true, exists_eq_left', exists_eq_left, if_true, if_false, undef]
  first | exact hd | exact ⟨hd, rfl⟩

def stp (g : Nat) : Nat := (g + 5) / 6 * 6
theorem stp_le {g : Nat} : g ≤ stp g := by unfold stp; omega
theorem stp_mem {g : Nat} (h : g ≤ 20) : stp g = 0 ∨ stp g = 6 ∨ stp g = 12 ∨ stp g = 18 ∨ stp g = 24 := by unfold stp; omega
theorem step_spec (g : Nat) (h : g ≤ 20) : CallsA Try.prog 19 [IN g] (IN (stp g)) [] := by
  refine fn_of0 comp19 (by simp) ?_
  unfold code19
  have w1 : IntKind.i64.wrap ((g : Int) + 5) = ((g + 5 : Nat) : Int) := by rw [wrap_id] <;> omega
  have w2 : IntKind.i64.wrap (Int.tdiv ((g + 5 : Nat) : Int) 6) = (((g + 5) / 6 : Nat) : Int) := by
    have : Int.tdiv ((g + 5 : Nat) : Int) 6 = (((g + 5) / 6 : Nat) : Int) := rfl
    rw [this, wrap_id] <;> omega
  have w3 : IntKind.i64.wrap ((((g + 5) / 6 : Nat) : Int) * 6) = (stp g : Int) := by unfold stp; rw [wrap_id] <;> omega
  simp (maxSteps := 1000000) only [w1, w2, w3, EA, EB, EC, ED, EE, EF, EG, EH, XA, XB, XC, XD, XE, XF, XG, XH, XI, XJ, XK, XL, XM, reduceIte, ↓reduceIte, Nat.reduceAdd, Nat.reduceLeDiff, Nat.reduceEqDiff, Nat.reduceLT, Nat.reduceSub, Nat.reduceBEq, forall_const, reduceCtorEq, implies_true, exists_eq_left', exists_eq_left, if_true, if_false, undef]
  decide

/-- the product of the first divisors -/
def pr (b : Nat) : Nat → Nat
  | 0 => 1
  | k + 1 => pr b k * dv b k
theorem pr_dvd (b : Nat) {i k : Nat} (h : i < k) : dv b i ∣ pr b k := by
  induction k with
  | zero => omega
  | succ k ih =>
    by_cases hk : i = k
    · subst hk; exact Nat.dvd_mul_left _ _
    · exact Nat.dvd_trans (ih (by omega)) (Nat.dvd_mul_right _ _)
theorem pr_inv : ∀ b, b = 0 ∨ b = 6 ∨ b = 12 ∨ b = 18 ∨ b = 24 → ∀ k, k < 5 → (∃ u, u < dv b k ∧ (pr b k * u) % dv b k = 1 % dv b k) ∧ pr b (k + 1) ≤ 1100000000 := by
  rintro b (rfl | rfl | rfl | rfl | rfl) k hk <;> rcases (by omega : k = 0 ∨ k = 1 ∨ k = 2 ∨ k = 3 ∨ k = 4) with rfl | rfl | rfl | rfl | rfl <;> exact ⟨by decide +kernel, by decide⟩
theorem pr_le {b : Nat} (hb : b = 0 ∨ b = 6 ∨ b = 12 ∨ b = 18 ∨ b = 24) {k : Nat} (hk : k ≤ 5) : pr b k ≤ 1100000000 := by
  cases k with
  | zero => simp [pr]
  | succ k => exact (pr_inv b hb k (by omega)).2

/-- the first number, in steps, with a remainder -/
def seek (d v p : Nat) : Nat → Nat → Nat
  | 0, a => a
  | f + 1, a => if a % d = v then a else seek d v p f (a + p)
theorem seek_ok {d v p : Nat} : ∀ {f a j : Nat}, j ≤ f → (a + j * p) % d = v → (seek d v p f a) % d = v ∧ ∃ i, i ≤ j ∧ seek d v p f a = a + i * p
  | 0, a, j, hj, h => by obtain rfl : j = 0 := by omega
                         simp at h; exact ⟨h, 0, by omega, by simp [seek]⟩
  | f + 1, a, j, hj, h => by
    rw [seek]
    split
    · rename_i h1; exact ⟨h1, 0, by omega, by simp⟩
    · rename_i h1
      cases j with
      | zero => simp at h; exact (h1 h).elim
      | succ j =>
        have e : a + (j + 1) * p = a + p + j * p := by rw [Nat.add_mul]; omega
        rw [e] at h
        obtain ⟨h2, i, h3, h4⟩ := seek_ok (f := f) (by omega) h
        exact ⟨h2, i + 1, by omega, by rw [h4, Nat.add_mul]; omega⟩
theorem seek_ge {d v p : Nat} : ∀ {f a : Nat}, a ≤ seek d v p f a
  | 0, a => Nat.le_refl _
  | f + 1, a => by
    rw [seek]; split
    · exact Nat.le_refl _
    · exact Nat.le_trans (Nat.le_add_right _ _) (seek_ge (f := f) (a := a + p))
theorem seek_reach {d v p u a : Nat} (hd : 0 < d) (hv : v < d) (hu : (p * u) % d = 1 % d) : ∃ j, j < d ∧ (a + j * p) % d = v := by
  refine ⟨((v + (d - a % d)) * u) % d, Nat.mod_lt _ hd, ?_⟩
  have h1 : (((v + (d - a % d)) * u) % d * p) % d = (v + (d - a % d)) % d := by
    rw [Nat.mul_mod, Nat.mod_mod, ← Nat.mul_mod, Nat.mul_assoc, Nat.mul_comm u p, Nat.mul_mod, hu, ← Nat.mul_mod, Nat.mul_one]
  rw [Nat.add_mod, h1, Nat.add_mod_mod, Nat.mod_add_mod]
  have h2 := Nat.div_add_mod a d
  have h3 := Nat.mod_lt a hd
  have h4 : a + (v + (d - a % d)) = v + d * (a / d + 1) := by rw [Nat.mul_add]; omega
  rw [h4, Nat.add_mul_mod_self_left, Nat.mod_eq_of_lt hv]

def fndA (b : Nat) (l : List Nat) : Nat → Nat
  | 0 => 0
  | k + 1 => seek (dv b k) (l.getD k 0) (pr b k) (dv b k) (fndA b l k)
theorem fnd_ok {b : Nat} (hb : b = 0 ∨ b = 6 ∨ b = 12 ∨ b = 18 ∨ b = 24) {l : List Nat} (hl : l.length ≤ 5) (hv : ∀ x ∈ l, x ≤ b) : ∀ k, k ≤ l.length →
    fndA b l k < pr b k ∧ ∀ i, i < k → fndA b l k % dv b i = l.getD i 0
  | 0, _ => ⟨by simp [fndA, pr], fun i h => by omega⟩
  | k + 1, hk => by
    obtain ⟨h1, h2⟩ := fnd_ok hb hl hv k (by omega)
    obtain ⟨⟨u, hu, hinv⟩, _⟩ := pr_inv b hb k (by omega)
    have hd : 0 < dv b k := by unfold dv; omega
    have hx : l.getD k 0 < dv b k := by
      have : l.getD k 0 ≤ b := by rw [List.getD_eq_getElem?_getD, List.getElem?_eq_getElem (show k < l.length by omega)]; exact hv _ (List.getElem_mem _)
      have h3 : b ≤ (k + 1) * b := Nat.le_mul_of_pos_left _ (by omega)
      unfold dv; omega
    obtain ⟨j, hj, hr⟩ := seek_reach (a := fndA b l k) hd hx hinv
    obtain ⟨h3, i, hi, h4⟩ := seek_ok (f := dv b k) (by omega) hr
    refine ⟨?_, fun m hm => ?_⟩
    · rw [fndA, h4, pr]
      have h5 : (i + 1) * pr b k ≤ dv b k * pr b k := Nat.mul_le_mul_right _ (by omega)
      rw [Nat.add_mul, Nat.one_mul] at h5
      rw [Nat.mul_comm (pr b k)]; omega
    · by_cases hmk : m = k
      · subst hmk; rw [fndA]; exact h3
      · rw [fndA, h4]
        obtain ⟨c, hc⟩ := pr_dvd b (show m < k by omega)
        have : i * pr b k = dv b m * (i * c) := by rw [hc, Nat.mul_left_comm]
        rw [this, Nat.add_mul_mod_self_left]
        exact h2 m (by omega)

def greatL (l : List Nat) : Nat := l.foldl max 0
theorem greatL_take {l : List Nat} {k : Nat} (h : k < l.length) : greatL (l.take (k + 1)) = max (greatL (l.take k)) l[k] := by
  rw [List.take_add_one, List.getElem?_eq_getElem h, greatL, List.foldl_append]; rfl
theorem foldl_max_le {l : List Nat} {a n : Nat} (ha : a ≤ n) (h : ∀ x ∈ l, x ≤ n) : l.foldl max a ≤ n := by
  induction l generalizing a with
  | nil => exact ha
  | cons x l ih => exact ih (Nat.max_le.2 ⟨ha, h x (by simp)⟩) (fun y hy => h y (by simp [hy]))
theorem le_foldl_max {l : List Nat} {a : Nat} : a ≤ l.foldl max a ∧ ∀ x ∈ l, x ≤ l.foldl max a := by
  induction l generalizing a with
  | nil => exact ⟨Nat.le_refl _, by simp⟩
  | cons y l ih =>
    obtain ⟨h1, h2⟩ := ih (a := max a y)
    refine ⟨Nat.le_trans (Nat.le_max_left _ _) h1, fun x hx => ?_⟩
    rcases List.mem_cons.1 hx with rfl | hx
    · exact Nat.le_trans (Nat.le_max_right _ _) h1
    · exact h2 x hx

theorem find_large (l : List Int) (h : 5 < l.length) : CallsA Try.prog 14 [.ro 1 (l.map I)] (.tup [I 0, I 0, I 1]) [] := by
  refine fn_of0 comp14 (by simp) ?_
  unfold code14
  have hll : ((l.map I).length : Int) = l.length := by simp
  have f1 : decide ((l.length : Int) > 5) = true := by simp; omega
  simp (maxSteps := 1000000) only [hll, f1, EA, EB, EC, ED, EE, EF, EG, EH, XA, XB, XC, XD, XE, XF, XG, XH, XI, XJ, XK, XL, XM, reduceIte, ↓reduceIte, Nat.reduceAdd, Nat.reduceLeDiff, Nat.reduceEqDiff, Nat.reduceLT, Nat.reduceSub, Nat.reduceBEq, forall_const, reduceCtorEq, implies_true, exists_eq_left', exists_eq_left, if_true, if_false, undef]

def smallB (x : Int) : Bool := decide (0 ≤ x) && decide (x ≤ 20)
theorem small_list : ∀ {l : List Int}, l.all smallB = true → ∃ m : List Nat, l = m.map (fun x : Nat => (x : Int)) ∧ ∀ x ∈ m, x ≤ 20
  | [], _ => ⟨[], rfl, by simp⟩
  | x :: l, h => by
    simp only [List.all_cons, smallB, Bool.and_eq_true, decide_eq_true_eq] at h
    obtain ⟨⟨h1, h2⟩, h3⟩ := h
    obtain ⟨m, rfl, hm⟩ := small_list (l := l) (by simpa [smallB] using h3)
    refine ⟨x.toNat :: m, by simp; omega, fun y hy => ?_⟩
    rcases List.mem_cons.1 hy with rfl | hy
    · omega
    · exact hm y hy

theorem find_range (l : List Int) (hl : l.length ≤ 5) (h : l.all smallB = false) : CallsA Try.prog 14 [.ro 1 (l.map I)] (.tup [I 0, I 0, I 4]) [] := by
  refine fn_of0 comp14 (by simp) ?_
  unfold code14
  have hll : ((l.map I).length : Int) = l.length := by simp
  have f1 : decide ((l.length : Int) > 5) = false := by simp; omega
  simp (maxSteps := 1000000) only [hll, f1, EA, EB, EC, ED, EE, EF, EG, EH, XA, XB, XC, XD, XE, XF, XG, XH, XI, XJ, XK, XL, XM, reduceIte, ↓reduceIte, Nat.reduceAdd, Nat.reduceLeDiff, Nat.reduceEqDiff, Nat.reduceLT, Nat.reduceSub, Nat.reduceBEq, forall_const, reduceCtorEq, implies_true, exists_eq_left', exists_eq_left, if_true, if_false, undef]
  refine loop0 (Nat × Int) [19, 5] (fun s => [IN s.1, I s.2]) (fun s => s.1 ≤ l.length ∧ (l.take s.1).all smallB = true) (fun s => l.length - s.1) (by decide) (0, 0) (by simp) (by simp [Back, BackF, fzT, fzM, fzU, fz, fzL, fzO, kin, SubT, Sub, SubL, SubM, SubO, keepM, srcOk, look, lookM, ev, evs, putT, argT, EA, EB, EC, ED, EE, EF, EG, EH, XA, XB, XC, XD, XE, XF, XG, XH, XI, XJ, XK, XL, XM, reduceIte, ↓reduceIte, Nat.reduceAdd, Nat.reduceLeDiff, Nat.reduceEqDiff, Nat.reduceLT, Nat.reduceSub, Nat.reduceBEq, forall_const, reduceCtorEq, implies_true, exists_eq_left', exists_eq_left, if_true, if_false, undef]) ?_
  rintro ⟨k, g⟩ ⟨hk, hp⟩
  simp only at hk hp
  by_cases c1 : k < l.length
  rotate_left
  · have : k = l.length := by omega
    subst this
    rw [List.take_length] at hp
    rw [hp] at h; cases h
  have g1 : decide ((k : Int) < (l.length : Int)) = true := by simp [c1]
  have hw : IntKind.i64.wrap ((k : Int) + 1) = ((k + 1 : Nat) : Int) := by rw [wrap_id] <;> omega
  have ht : smallB l[k] = true → (l.take (k + 1)).all smallB = true := all_take c1 hp
  simp (maxSteps := 1000000) only [hll, g1, EA, EB, EC, ED, EE, EF, EG, EH, XA, XB, XC, XD, XE, XF, XG, XH, XI, XJ, XK, XL, XM, reduceIte, ↓reduceIte, Nat.reduceAdd, Nat.reduceLeDiff, Nat.reduceEqDiff, Nat.reduceLT, Nat.reduceSub, Nat.reduceBEq, forall_const, reduceCtorEq, implies_true, exists_eq_left', exists_eq_left, if_true, if_false, undef]
  refine ⟨by omega, pickM c1 ?_⟩
  generalize l[k] = x at *
  by_cases h1 : x < 0
  · have e1 : decide (x < 0) = true := by simp [h1]
    simp (maxSteps := 1000000) only [e1, EA, EB, EC, ED, EE, EF, EG, EH, XA, XB, XC, XD, XE, XF, XG, XH, XI, XJ, XK, XL, XM, reduceIte, ↓reduceIte, Nat.reduceAdd, Nat.reduceLeDiff, Nat.reduceEqDiff, Nat.reduceLT, Nat.reduceSub, Nat.reduceBEq, forall_const, reduceCtorEq, implies_true, exists_eq_left', exists_eq_left, if_true, if_false, undef]
  have e1 : decide (x < 0) = false := by simp; omega
  by_cases h2 : x > 20
  · have e2 : decide (x > 20) = true := by simp; omega
    simp (maxSteps := 1000000) only [e1, e2, EA, EB, EC, ED, EE, EF, EG, EH, XA, XB, XC, XD, XE, XF, XG, XH, XI, XJ, XK, XL, XM, reduceIte, ↓reduceIte, Nat.reduceAdd, Nat.reduceLeDiff, Nat.reduceEqDiff, Nat.reduceLT, Nat.reduceSub, Nat.reduceBEq, forall_const, reduceCtorEq, implies_true, exists_eq_left', exists_eq_left, if_true, if_false, undef]
  have e2 : decide (x > 20) = false := by simp; omega
  have hsx : smallB x = true := by simp [smallB]; omega
  simp (maxSteps := 1000000) only [e1, e2, hw, EA, EB, EC, ED, EE, EF, EG, EH, XA, XB, XC, XD, XE, XF, XG, XH, XI, XJ, XK, XL, XM, reduceIte, ↓reduceIte, Nat.reduceAdd, Nat.reduceLeDiff, Nat.reduceEqDiff, Nat.reduceLT, Nat.reduceSub, Nat.reduceBEq, forall_const, reduceCtorEq, implies_true, exists_eq_left', exists_eq_left, if_true, if_false, undef]
  exact ⟨(k + 1, if x > g then x else g), ⟨by simp only; omega, ht hsx⟩, by simp only; omega, by simp [Back, BackF, fzT, fzM, fzU, fz, fzL, fzO, kin, SubT, Sub, SubL, SubM, SubO, keepM, srcOk, look, lookM, ev, evs, putT, argT, EA, EB, EC, ED, EE, EF, EG, EH, XA, XB, XC, XD, XE, XF, XG, XH, XI, XJ, XK, XL, XM, reduceIte, ↓reduceIte, Nat.reduceAdd, Nat.reduceLeDiff, Nat.reduceEqDiff, Nat.reduceLT, Nat.reduceSub, Nat.reduceBEq, forall_const, reduceCtorEq, implies_true, exists_eq_left', exists_eq_left, if_true, if_false, undef]⟩

theorem find_ok (l : List Nat) (hl : l.length ≤ 5) (h : ∀ x ∈ l, x ≤ 20) : CallsA Try.prog 14 [.ro 1 (l.map IN)] (.tup [IN (fndA (stp (greatL l)) l l.length), IN (stp (greatL l)), I 0]) [] := by
  refine fn_of0 comp14 (by simp) ?_
  unfold code14
  have hll : ((l.map IN).length : Int) = l.length := by simp
  have f1 : decide ((l.length : Int) > 5) = false := by simp; omega
  simp (maxSteps := 1000000) only [hll, f1, EA, EB, EC, ED, EE, EF, EG, EH, XA, XB, XC, XD, XE, XF, XG, XH, XI, XJ, XK, XL, XM, reduceIte, ↓reduceIte, Nat.reduceAdd, Nat.reduceLeDiff, Nat.reduceEqDiff, Nat.reduceLT, Nat.reduceSub, Nat.reduceBEq, forall_const, reduceCtorEq, implies_true, exists_eq_left', exists_eq_left, if_true, if_false, undef]
  refine loop0 Nat [19, 5] (fun k => [IN k, IN (greatL (l.take k))]) (fun k => k ≤ l.length) (fun k => l.length - k) (by decide) 0 (by simp) (by simp [Back, BackF, fzT, fzM, fzU, fz, fzL, fzO, kin, SubT, Sub, SubL, SubM, SubO, keepM, srcOk, look, lookM, ev, evs, putT, argT, EA, EB, EC, ED, EE, EF, EG, EH, XA, XB, XC, XD, XE, XF, XG, XH, XI, XJ, XK, XL, XM, reduceIte, ↓reduceIte, Nat.reduceAdd, Nat.reduceLeDiff, Nat.reduceEqDiff, Nat.reduceLT, Nat.reduceSub, Nat.reduceBEq, forall_const, reduceCtorEq, implies_true, exists_eq_left', exists_eq_left, if_true, if_false, undef, greatL]) (fun k hk => ?_)
  by_cases c1 : k < l.length
  · have g1 : decide ((k : Int) < (l.length : Int)) = true := by simp [c1]
    have hw : IntKind.i64.wrap ((k : Int) + 1) = ((k + 1 : Nat) : Int) := by rw [wrap_id] <;> omega
    have hg := greatL_take c1
    simp (maxSteps := 1000000) only [hll, g1, EA, EB, EC, ED, EE, EF, EG, EH, XA, XB, XC, XD, XE, XF, XG, XH, XI, XJ, XK, XL, XM, reduceIte, ↓reduceIte, Nat.reduceAdd, Nat.reduceLeDiff, Nat.reduceEqDiff, Nat.reduceLT, Nat.reduceSub, Nat.reduceBEq, forall_const, reduceCtorEq, implies_true, exists_eq_left', exists_eq_left, if_true, if_false, undef]
    refine ⟨by omega, pickM c1 ?_⟩
    have hx := h l[k] (List.getElem_mem c1)
    have e1 : decide ((l[k] : Int) < 0) = false := by simp
    have e2 : decide ((l[k] : Int) > 20) = false := by simp; omega
    simp (maxSteps := 1000000) only [e1, e2, hw, EA, EB, EC, ED, EE, EF, EG, EH, XA, XB, XC, XD, XE, XF, XG, XH, XI, XJ, XK, XL, XM, reduceIte, ↓reduceIte, Nat.reduceAdd, Nat.reduceLeDiff, Nat.reduceEqDiff, Nat.reduceLT, Nat.reduceSub, Nat.reduceBEq, forall_const, reduceCtorEq, implies_true, exists_eq_left', exists_eq_left, if_true, if_false, undef]
    have hm : (if (l[k] : Int) > (greatL (l.take k) : Int) then (l[k] : Int) else (greatL (l.take k) : Int)) = (greatL (l.take (k + 1)) : Int) := by
      rw [hg]; split <;> omega
    rw [hm]
    exact ⟨k + 1, by omega, by omega, by simp [Back, BackF, fzT, fzM, fzU, fz, fzL, fzO, kin, SubT, Sub, SubL, SubM, SubO, keepM, srcOk, look, lookM, ev, evs, putT, argT, EA, EB, EC, ED, EE, EF, EG, EH, XA, XB, XC, XD, XE, XF, XG, XH, XI, XJ, XK, XL, XM, reduceIte, ↓reduceIte, Nat.reduceAdd, Nat.reduceLeDiff, Nat.reduceEqDiff, Nat.reduceLT, Nat.reduceSub, Nat.reduceBEq, forall_const, reduceCtorEq, implies_true, exists_eq_left', exists_eq_left, if_true, if_false, undef]⟩
  have g1 : decide ((k : Int) < (l.length : Int)) = false := by simp; omega
  have : k = l.length := by omega
  subst this
  have hgr : greatL l ≤ 20 := foldl_max_le (by omega) h
  have hb := stp_mem hgr
  have hle := stp_le (g := greatL l)
  have hmem : ∀ x ∈ l, x ≤ stp (greatL l) := fun x hx => Nat.le_trans (le_foldl_max.2 x hx) hle
  simp (maxSteps := 1000000) only [hll, g1, List.take_length, EA, EB, EC, ED, EE, EF, EG, EH, XA, XB, XC, XD, XE, XF, XG, XH, XI, XJ, XK, XL, XM, reduceIte, ↓reduceIte, Nat.reduceAdd, Nat.reduceLeDiff, Nat.reduceEqDiff, Nat.reduceLT, Nat.reduceSub, Nat.reduceBEq, forall_const, reduceCtorEq, implies_true, exists_eq_left', exists_eq_left, if_true, if_false, undef]
  refine callF (CallsA.args (step_spec (greatL l) hgr) (by simp [EA, EB, EC, ED, EE, EF, EG, EH, XA, XB, XC, XD, XE, XF, XG, XH, XI, XJ, XK, XL, XM, reduceIte, ↓reduceIte, Nat.reduceAdd, Nat.reduceLeDiff, Nat.reduceEqDiff, Nat.reduceLT, Nat.reduceSub, Nat.reduceBEq, forall_const, reduceCtorEq, implies_true, exists_eq_left', exists_eq_left, if_true, if_false, undef])) rfl (by simp [flat, EA, EB, EC, ED, EE, EF, EG, EH, XA, XB, XC, XD, XE, XF, XG, XH, XI, XJ, XK, XL, XM, reduceIte, ↓reduceIte, Nat.reduceAdd, Nat.reduceLeDiff, Nat.reduceEqDiff, Nat.reduceLT, Nat.reduceSub, Nat.reduceBEq, forall_const, reduceCtorEq, implies_true, exists_eq_left', exists_eq_left, if_true, if_false, undef]) ?_
  simp (maxSteps := 1000000) only [EA, EB, EC, ED, EE, EF, EG, EH, XA, XB, XC, XD, XE, XF, XG, XH, XI, XJ, XK, XL, XM, reduceIte, ↓reduceIte, Nat.reduceAdd, Nat.reduceLeDiff, Nat.reduceEqDiff, Nat.reduceLT, Nat.reduceSub, Nat.reduceBEq, forall_const, reduceCtorEq, implies_true, exists_eq_left', exists_eq_left, if_true, if_false, undef]
  generalize stp (greatL l) = b at *
  refine loop0 Nat [37, 9, 10] (fun k => [IN k, IN (fndA b l k), IN (pr b k)]) (fun k => k ≤ l.length) (fun k => l.length - k) (by decide) 0 (by simp) (by simp [Back, BackF, fzT, fzM, fzU, fz, fzL, fzO, kin, SubT, Sub, SubL, SubM, SubO, keepM, srcOk, look, lookM, ev, evs, putT, argT, EA, EB, EC, ED, EE, EF, EG, EH, XA, XB, XC, XD, XE, XF, XG, XH, XI, XJ, XK, XL, XM, reduceIte, ↓reduceIte, Nat.reduceAdd, Nat.reduceLeDiff, Nat.reduceEqDiff, Nat.reduceLT, Nat.reduceSub, Nat.reduceBEq, forall_const, reduceCtorEq, implies_true, exists_eq_left', exists_eq_left, if_true, if_false, undef, fndA, pr]) (fun k hk => ?_)
  by_cases c1 : k < l.length
  rotate_left
  · have g1 : decide ((k : Int) < (l.length : Int)) = false := by simp; omega
    have : k = l.length := by omega
    subst this
    simp (maxSteps := 1000000) only [hll, g1, EA, EB, EC, ED, EE, EF, EG, EH, XA, XB, XC, XD, XE, XF, XG, XH, XI, XJ, XK, XL, XM, reduceIte, ↓reduceIte, Nat.reduceAdd, Nat.reduceLeDiff, Nat.reduceEqDiff, Nat.reduceLT, Nat.reduceSub, Nat.reduceBEq, forall_const, reduceCtorEq, implies_true, exists_eq_left', exists_eq_left, if_true, if_false, undef]
  have g1 : decide ((k : Int) < (l.length : Int)) = true := by simp [c1]
  have hw : IntKind.i64.wrap ((k : Int) + 1) = ((k + 1 : Nat) : Int) := by rw [wrap_id] <;> omega
  simp (maxSteps := 1000000) only [hll, g1, EA, EB, EC, ED, EE, EF, EG, EH, XA, XB, XC, XD, XE, XF, XG, XH, XI, XJ, XK, XL, XM, reduceIte, ↓reduceIte, Nat.reduceAdd, Nat.reduceLeDiff, Nat.reduceEqDiff, Nat.reduceLT, Nat.reduceSub, Nat.reduceBEq, forall_const, reduceCtorEq, implies_true, exists_eq_left', exists_eq_left, if_true, if_false, undef]
  refine ⟨by omega, pickM c1 ?_⟩
  simp (maxSteps := 1000000) only [EA, EB, EC, ED, EE, EF, EG, EH, XA, XB, XC, XD, XE, XF, XG, XH, XI, XJ, XK, XL, XM, reduceIte, ↓reduceIte, Nat.reduceAdd, Nat.reduceLeDiff, Nat.reduceEqDiff, Nat.reduceLT, Nat.reduceSub, Nat.reduceBEq, forall_const, reduceCtorEq, implies_true, exists_eq_left', exists_eq_left, if_true, if_false, undef]
  refine callF (CallsA.args (divisor_spec b k (by omega) (by omega)) (by simp [EA, EB, EC, ED, EE, EF, EG, EH, XA, XB, XC, XD, XE, XF, XG, XH, XI, XJ, XK, XL, XM, reduceIte, ↓reduceIte, Nat.reduceAdd, Nat.reduceLeDiff, Nat.reduceEqDiff, Nat.reduceLT, Nat.reduceSub, Nat.reduceBEq, forall_const, reduceCtorEq, implies_true, exists_eq_left', exists_eq_left, if_true, if_false, undef])) rfl (by simp [flat, EA, EB, EC, ED, EE, EF, EG, EH, XA, XB, XC, XD, XE, XF, XG, XH, XI, XJ, XK, XL, XM, reduceIte, ↓reduceIte, Nat.reduceAdd, Nat.reduceLeDiff, Nat.reduceEqDiff, Nat.reduceLT, Nat.reduceSub, Nat.reduceBEq, forall_const, reduceCtorEq, implies_true, exists_eq_left', exists_eq_left, if_true, if_false, undef]) ?_
  have hd0 : dv b k ≠ 0 := by unfold dv; omega
  have hd0' : (dv b k : Int) ≠ 0 := by omega
  obtain ⟨hf1, hf2⟩ := fnd_ok hb hl hmem (k + 1) (by omega)
  have hfk := hf2 k (by omega)
  have hpb := pr_le hb (k := k + 1) (by omega)
  have hpk := pr_le hb (k := k) (by omega)
  have hfs : fndA b l (k + 1) = seek (dv b k) (l.getD k 0) (pr b k) (dv b k) (fndA b l k) := rfl
  have hps : pr b (k + 1) = pr b k * dv b k := rfl
  have hgd : l.getD k 0 = l[k] := by rw [List.getD_eq_getElem?_getD, List.getElem?_eq_getElem c1]; rfl
  rw [hgd] at hfk hfs
  have hw5 : IntKind.i64.wrap ((pr b k : Int) * (dv b k : Int)) = (pr b (k + 1) : Int) := by rw [hps, ← Int.natCast_mul, ← hps, wrap_id] <;> omega
  simp (maxSteps := 1000000) only [EA, EB, EC, ED, EE, EF, EG, EH, XA, XB, XC, XD, XE, XF, XG, XH, XI, XJ, XK, XL, XM, reduceIte, ↓reduceIte, Nat.reduceAdd, Nat.reduceLeDiff, Nat.reduceEqDiff, Nat.reduceLT, Nat.reduceSub, Nat.reduceBEq, forall_const, reduceCtorEq, implies_true, exists_eq_left', exists_eq_left, if_true, if_false, undef]
  refine loop0 (Nat × Nat) [9] (fun s => [IN s.2]) (fun s => seek (dv b k) l[k] (pr b k) s.1 s.2 = fndA b l (k + 1)) (fun s => s.1) (by decide) (dv b k, fndA b l k) hfs.symm (by simp [Back, BackF, fzT, fzM, fzU, fz, fzL, fzO, kin, SubT, Sub, SubL, SubM, SubO, keepM, srcOk, look, lookM, ev, evs, putT, argT, EA, EB, EC, ED, EE, EF, EG, EH, XA, XB, XC, XD, XE, XF, XG, XH, XI, XJ, XK, XL, XM, reduceIte, ↓reduceIte, Nat.reduceAdd, Nat.reduceLeDiff, Nat.reduceEqDiff, Nat.reduceLT, Nat.reduceSub, Nat.reduceBEq, forall_const, reduceCtorEq, implies_true, exists_eq_left', exists_eq_left, if_true, if_false, undef]) ?_
  rintro ⟨f, a⟩ hs
  simp only at hs
  have hm : Int.tmod (a : Int) (dv b k : Int) = ((a % dv b k : Nat) : Int) := rfl
  by_cases c2 : a % dv b k = l[k]
  · have e2 : (((a % dv b k : Nat) : Int) != (l[k] : Int)) = false := by rw [c2]; simp
    have hsa : fndA b l (k + 1) = a := by
      rw [← hs]
      cases f with
      | zero => rfl
      | succ f => rw [seek, if_pos c2]
    simp (maxSteps := 1000000) only [hm, e2, hw, hw5, EA, EB, EC, ED, EE, EF, EG, EH, XA, XB, XC, XD, XE, XF, XG, XH, XI, XJ, XK, XL, XM, reduceIte, ↓reduceIte, Nat.reduceAdd, Nat.reduceLeDiff, Nat.reduceEqDiff, Nat.reduceLT, Nat.reduceSub, Nat.reduceBEq, forall_const, reduceCtorEq, implies_true, exists_eq_left', exists_eq_left, if_true, if_false, undef]
    exact ⟨hd0', k + 1, by omega, by omega, by simp [Back, BackF, fzT, fzM, fzU, fz, fzL, fzO, kin, SubT, Sub, SubL, SubM, SubO, keepM, srcOk, look, lookM, ev, evs, putT, argT, EA, EB, EC, ED, EE, EF, EG, EH, XA, XB, XC, XD, XE, XF, XG, XH, XI, XJ, XK, XL, XM, reduceIte, ↓reduceIte, Nat.reduceAdd, Nat.reduceLeDiff, Nat.reduceEqDiff, Nat.reduceLT, Nat.reduceSub, Nat.reduceBEq, forall_const, reduceCtorEq, implies_true, exists_eq_left', exists_eq_left, if_true, if_false, undef, hsa]⟩
  have e2 : (((a % dv b k : Nat) : Int) != (l[k] : Int)) = true := by simp only [bne_iff_ne, ne_eq]; omega
  cases f with
  | zero => rw [seek] at hs; rw [← hs] at hfk; exact (c2 hfk).elim
  | succ f =>
    rw [seek, if_neg c2] at hs
    have hge := seek_ge (d := dv b k) (v := l[k]) (p := pr b k) (f := f) (a := a + pr b k)
    rw [hs] at hge
    have w6 : IntKind.i64.wrap ((a : Int) + (pr b k : Int)) = ((a + pr b k : Nat) : Int) := by rw [wrap_id] <;> omega
    simp (maxSteps := 1000000) only [hm, e2, w6, EA, EB, EC, ED, EE, EF, EG, EH, XA, XB, XC, XD, XE, XF, XG, XH, XI, XJ, XK, XL, XM, reduceIte, ↓reduceIte, Nat.reduceAdd, Nat.reduceLeDiff, Nat.reduceEqDiff, Nat.reduceLT, Nat.reduceSub, Nat.reduceBEq, forall_const, reduceCtorEq, implies_true, exists_eq_left', exists_eq_left, if_true, if_false, undef]
    exact ⟨hd0', (f, a + pr b k), hs, by simp only; omega, by simp [Back, BackF, fzT, fzM, fzU, fz, fzL, fzO, kin, SubT, Sub, SubL, SubM, SubO, keepM, srcOk, look, lookM, ev, evs, putT, argT, EA, EB, EC, ED, EE, EF, EG, EH, XA, XB, XC, XD, XE, XF, XG, XH, XI, XJ, XK, XL, XM, reduceIte, ↓reduceIte, Nat.reduceAdd, Nat.reduceLeDiff, Nat.reduceEqDiff, Nat.reduceLT, Nat.reduceSub, Nat.reduceBEq, forall_const, reduceCtorEq, implies_true, exists_eq_left', exists_eq_left, if_true, if_false, undef]⟩

end Go.Av
