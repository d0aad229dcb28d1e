/- Clauses: the document's check, truth, number of values; counting completions (pure). -/
import Derived.Test.YtblakcgmngdhmaaGateB
set_option linter.unusedSimpArgs false
set_option linter.unusedVariables false
set_option maxRecDepth 100000
namespace Go.Av
open Go.Proofs

structure Cl where
  yes : List Int
  no : List Int
def encCl (c : Cl) : AV := .agg [.ro 1 (c.yes.map I), .ro 1 (c.no.map I)]
def insB (n : Int) (l : List Int) : Bool := l.all fun i => decide (0 ≤ i ∧ i < n)
def clErr (vars : Int) (c : Cl) : Int := if c.yes.length > 8 ∨ c.no.length > 8 then 1 else if insB vars c.yes = false ∨ insB vars c.no = false then 2 else 0
def clausesErr (vars most : Int) (l : List Cl) : Int := if ¬(0 ≤ vars ∧ vars ≤ most) ∨ l.length > 200 then 1 else firstErr (clErr vars) l
structure ClOk (n : Nat) (c : Cl) : Prop where
  y8 : c.yes.length ≤ 8
  n8 : c.no.length ≤ 8
  y : ∀ i ∈ c.yes, 0 ≤ i ∧ i < n
  n : ∀ i ∈ c.no, 0 ≤ i ∧ i < n
theorem insB_iff {n : Int} {l : List Int} : insB n l = true ↔ ∀ i ∈ l, 0 ≤ i ∧ i < n := by simp [insB]
theorem cl_ok {n : Nat} {c : Cl} : clErr n c = 0 ↔ ClOk n c := by
  constructor
  · intro h
    simp only [clErr] at h
    split at h
    · omega
    · split at h
      · omega
      · rename_i h1 h2
        simp only [not_or, Bool.not_eq_false] at h2
        exact ⟨by omega, by omega, insB_iff.1 h2.1, insB_iff.1 h2.2⟩
  · rintro ⟨h1, h2, h3, h4⟩
    simp only [clErr]
    rw [if_neg (by omega), if_neg (by simp [insB_iff.2 h3, insB_iff.2 h4])]
theorem firstErr_all {α : Type} {f : α → Int} : ∀ {l : List α}, (∀ x ∈ l, f x = 0) → firstErr f l = 0
  | [], _ => rfl
  | x :: l, h => by rw [firstErr, h x (by simp), if_neg (by decide)]; exact firstErr_all (fun y hy => h y (by simp [hy]))
theorem firstErr_none {α : Type} {f : α → Int} : ∀ {l : List α}, firstErr f l = 0 → ∀ x ∈ l, f x = 0
  | y :: l, h, x, hx => by
    rw [firstErr] at h
    split at h
    · rename_i h1; exact (h1 h).elim
    · rename_i h1
      rcases List.mem_cons.1 hx with rfl | hx
      · simpa using h1
      · exact firstErr_none h x hx
def ClsOk (n : Nat) (l : List Cl) : Prop := ∀ c ∈ l, ClOk n c
theorem clauses_ok {vars most : Int} {l : List Cl} (h : clausesErr vars most l = 0) : (0 ≤ vars ∧ vars ≤ most) ∧ l.length ≤ 200 ∧ ClsOk vars.toNat l := by
  rw [clausesErr] at h
  split at h
  · omega
  · rename_i h1
    refine ⟨by omega, by omega, fun c hc => ?_⟩
    have := firstErr_none h c hc
    rw [← Int.toNat_of_nonneg (show 0 ≤ vars by omega)] at this
    exact cl_ok.1 this

def litT (v : List Bool) (i : Int) : Bool := v.getD i.toNat false
def clT (v : List Bool) (c : Cl) : Bool := c.yes.any (litT v) || c.no.any (fun i => !(litT v i))
def allT (l : List Cl) (v : List Bool) : Bool := l.all (clT v)
def sumR (f : Nat → Nat) : Nat → Nat
  | 0 => 0
  | n + 1 => sumR f n + f n
def manyN (n : Nat) (l : List Cl) : Nat := sumR (fun w => (allT l (bitsL n w)).toNat) (2 ^ n)

theorem sumR_add (f : Nat → Nat) (m : Nat) : ∀ n, sumR f (m + n) = sumR f m + sumR (fun k => f (m + k)) n
  | 0 => rfl
  | n + 1 => by rw [← Nat.add_assoc, sumR, sumR, sumR_add f m n]; omega
theorem sumR_two (f g : Nat → Nat) : ∀ n, sumR (fun k => f k + g k) n = sumR f n + sumR g n
  | 0 => rfl
  | n + 1 => by rw [sumR, sumR, sumR, sumR_two f g n]; omega
theorem sumR_congr {f g : Nat → Nat} : ∀ {n : Nat}, (∀ k, k < n → f k = g k) → sumR f n = sumR g n
  | 0, _ => rfl
  | n + 1, h => by rw [sumR, sumR, sumR_congr (fun k hk => h k (by omega)), h n (by omega)]
theorem sumR_le {f g : Nat → Nat} : ∀ {n : Nat}, (∀ k, k < n → f k ≤ g k) → sumR f n ≤ sumR g n
  | 0, _ => Nat.le_refl _
  | n + 1, h => by rw [sumR, sumR]; have := sumR_le (n := n) (fun k hk => h k (by omega)); have := h n (by omega); omega
theorem sumR_const (c : Nat) : ∀ n, sumR (fun _ => c) n = n * c
  | 0 => by simp [sumR]
  | n + 1 => by rw [sumR, sumR_const c n, Nat.succ_mul]

/-- in how many ways values can be found for those that are not known -/
def cntS (l : List Cl) (pre : List Bool) : List (Option Bool) → Nat
  | [] => (allT l pre).toNat
  | some b :: r => cntS l (pre ++ [b]) r
  | none :: r => cntS l (pre ++ [false]) r + cntS l (pre ++ [true]) r
theorem cntS_split (l : List Cl) : ∀ (h : List (Option Bool)) (pre : List Bool) (v : Nat), h[v]? = some none → cntS l pre h = cntS l pre (h.set v (some false)) + cntS l pre (h.set v (some true))
  | x :: r, pre, 0, hv => by
    simp only [List.getElem?_cons_zero, Option.some.injEq] at hv
    subst hv
    rfl
  | some b :: r, pre, v + 1, hv => by
    simp only [List.getElem?_cons_succ] at hv
    simp only [List.set_cons_succ, cntS]
    exact cntS_split l r _ v hv
  | none :: r, pre, v + 1, hv => by
    simp only [List.getElem?_cons_succ] at hv
    simp only [List.set_cons_succ, cntS]
    rw [cntS_split l r _ v hv, cntS_split l r (pre ++ [true]) v hv]
    omega
/-- values that agree with what is known -/
def compat : List (Option Bool) → List Bool → Prop
  | [], v => v = []
  | x :: r, v => match v with
    | [] => False
    | b :: s => (∀ c, x = some c → b = c) ∧ compat r s
theorem compat_get : ∀ {h : List (Option Bool)} {v : List Bool}, compat h v → v.length = h.length ∧ ∀ (i : Nat) b, h[i]? = some (some b) → v.getD i false = b
  | [], v, hc => by simp only [compat] at hc; subst hc; simp
  | x :: r, v, hc => by
    cases v with
    | nil => simp [compat] at hc
    | cons b s =>
      simp only [compat] at hc
      obtain ⟨h1, h2⟩ := compat_get hc.2
      refine ⟨by simp [h1], fun i c hi => ?_⟩
      cases i with
      | zero => simp only [List.getElem?_cons_zero, Option.some.injEq] at hi; simpa using hc.1 c hi
      | succ i => simp only [List.getElem?_cons_succ] at hi; simpa using h2 i c hi
theorem cntS_zero (l : List Cl) : ∀ (h : List (Option Bool)) (pre : List Bool), (∀ v, compat h v → allT l (pre ++ v) = false) → cntS l pre h = 0
  | [], pre, hz => by have := hz [] rfl; simp only [List.append_nil] at this; simp [cntS, this]
  | some b :: r, pre, hz => by
    rw [cntS]
    exact cntS_zero l r _ (fun v hv => by rw [List.append_assoc]; exact hz (b :: v) ⟨fun c hc => by simpa using hc, hv⟩)
  | none :: r, pre, hz => by
    rw [cntS, cntS_zero l r _ (fun v hv => by rw [List.append_assoc]; exact hz (false :: v) ⟨(fun c hc => by cases hc), hv⟩),
      cntS_zero l r _ (fun v hv => by rw [List.append_assoc]; exact hz (true :: v) ⟨(fun c hc => by cases hc), hv⟩)]
theorem cntS_known (l : List Cl) : ∀ (v : List Bool) (pre : List Bool), cntS l pre (v.map some) = (allT l (pre ++ v)).toNat
  | [], pre => by simp [cntS]
  | b :: v, pre => by rw [List.map_cons, cntS, cntS_known l v]; simp

/-- the first ones known -/
def fst (k n w : Nat) : List (Option Bool) := (bitsL k w).map some ++ List.replicate (n - k) none
theorem bitsL_length (k w : Nat) : (bitsL k w).length = k := by simp [bitsL]
theorem bitsL_succ (k w : Nat) : bitsL (k + 1) w = bitsL k w ++ [w.testBit k] := by simp [bitsL, List.range_succ]
theorem bitsL_more (k w : Nat) : bitsL k (2 ^ k + w) = bitsL k w := by
  apply List.ext_getElem
  · simp [bitsL]
  · intro i h1 h2
    simp only [bitsL, List.length_map, List.length_range] at h1
    simp only [bitsL, List.getElem_map, List.getElem_range]
    rw [Nat.testBit_two_pow_add_gt h1]
theorem ways_sum (l : List Cl) (n : Nat) : ∀ k, k ≤ n → cntS l [] (List.replicate n none) = sumR (fun w => cntS l [] (fst k n w)) (2 ^ k)
  | 0, _ => by simp [sumR, fst, bitsL]
  | k + 1, hk => by
    rw [ways_sum l n k (by omega), Nat.pow_succ, Nat.mul_two, sumR_add, ← sumR_two]
    refine sumR_congr (fun w hw => ?_)
    have hr : n - k = (n - (k + 1)) + 1 := by omega
    have hf : fst k n w = (bitsL k w).map some ++ (none :: List.replicate (n - (k + 1)) none) := by rw [fst, hr, List.replicate_succ]
    have hset : ∀ b, (fst k n w).set k (some b) = (bitsL k w).map some ++ (some b :: List.replicate (n - (k + 1)) none) := fun b => by
      rw [hf, List.set_append_right _ _ (by simp [bitsL_length])]
      simp [bitsL_length]
    rw [cntS_split l (fst k n w) [] k (by rw [hf, List.getElem?_append_right (by simp [bitsL_length])]; simp [bitsL_length]), hset, hset]
    have t1 : w.testBit k = false := Nat.testBit_lt_two_pow hw
    have t2 : (2 ^ k + w).testBit k = true := by rw [Nat.testBit_two_pow_add_eq, t1]; rfl
    have e1 : fst (k + 1) n w = (bitsL k w).map some ++ (some false :: List.replicate (n - (k + 1)) none) := by rw [fst, bitsL_succ, t1]; simp
    have e2 : fst (k + 1) n (2 ^ k + w) = (bitsL k w).map some ++ (some true :: List.replicate (n - (k + 1)) none) := by rw [fst, bitsL_succ, t2, bitsL_more]; simp
    rw [e1, e2]
theorem many_cnt (n : Nat) (l : List Cl) : manyN n l = cntS l [] (List.replicate n none) := by
  rw [ways_sum l n n (Nat.le_refl _), manyN]
  refine sumR_congr (fun w hw => ?_)
  rw [fst, Nat.sub_self, List.replicate_zero, List.append_nil, cntS_known]; rfl
theorem many_le (n : Nat) (l : List Cl) : manyN n l ≤ 2 ^ n := by
  have : manyN n l ≤ sumR (fun _ => 1) (2 ^ n) := sumR_le (fun k _ => by cases allT l (bitsL n k) <;> simp)
  rwa [sumR_const, Nat.mul_one] at this

theorem clausesCheck_spec (vars most : Int) (l : List Cl) (hl : (l.length : Int) < 2 ^ 63) (hc : ∀ c ∈ l, (c.yes.length : Int) < 2 ^ 63 ∧ (c.no.length : Int) < 2 ^ 63) :
    CallsA Try.prog 9 [I vars, I most, .ro 2 (l.map encCl)] (I (clausesErr vars most l)) [] := by
  refine fn_of0 comp9 (by simp) ?_
  unfold code9
  have hll : ((l.map encCl).length : Int) = l.length := by simp
  simp (maxSteps := 1000000) only [encCl, XX, reduceIte, ↓reduceIte, Nat.reduceAdd, Nat.reduceLeDiff, Nat.reduceEqDiff, Nat.reduceLT, Nat.reduceSub, Nat.reduceBEq, forall_const, reduceCtorEq, implies_true, exists_eq_left', exists_eq_left, if_true, if_false, undef]
  refine callF (CallsA.args (within_spec 0 vars most) (by simp [encCl, XX, undef])) rfl (by simp [flat, encCl, XX, undef]) ?_
  by_cases h1 : 0 ≤ vars ∧ vars ≤ most
  rotate_left
  · have f : decide (0 ≤ vars ∧ vars ≤ most) = false := by rw [decide_eq_false_iff_not]; exact h1
    rw [clausesErr, if_pos (.inl h1)]
    simp (maxSteps := 1000000) only [f, Bo, Bool.not_false, encCl, XX, reduceIte, ↓reduceIte, Nat.reduceAdd, Nat.reduceLeDiff, Nat.reduceEqDiff, Nat.reduceLT, Nat.reduceSub, Nat.reduceBEq, forall_const, reduceCtorEq, implies_true, exists_eq_left', exists_eq_left, if_true, if_false, undef]
  have f1 : decide (0 ≤ vars ∧ vars ≤ most) = true := by rw [decide_eq_true_iff]; exact h1
  by_cases h2 : l.length > 200
  · have f : decide ((l.length : Int) > 200) = true := by simp; omega
    rw [clausesErr, if_pos (.inr h2)]
    simp (maxSteps := 1000000) only [f1, f, hll, Bo, Bool.not_true, encCl, XX, reduceIte, ↓reduceIte, Nat.reduceAdd, Nat.reduceLeDiff, Nat.reduceEqDiff, Nat.reduceLT, Nat.reduceSub, Nat.reduceBEq, forall_const, reduceCtorEq, implies_true, exists_eq_left', exists_eq_left, if_true, if_false, undef]
  have f2 : decide ((l.length : Int) > 200) = false := by simp; omega
  rw [clausesErr, if_neg (by omega)]
  simp (maxSteps := 1000000) only [f1, f2, hll, Bo, Bool.not_true, encCl, XX, reduceIte, ↓reduceIte, Nat.reduceAdd, Nat.reduceLeDiff, Nat.reduceEqDiff, Nat.reduceLT, Nat.reduceSub, Nat.reduceBEq, forall_const, reduceCtorEq, implies_true, exists_eq_left', exists_eq_left, if_true, if_false, undef]
  refine loop0 Nat [20] (fun k => [IN k]) (fun k => k ≤ l.length ∧ firstErr (clErr vars) (l.take k) = 0) (fun k => l.length - k) (by decide) 0 (by simp [firstErr]) (by simp [Back, BackF, fzT, fzM, fzU, fz, fzL, fzO, kin, SubT, Sub, SubL, SubM, SubO, keepM, srcOk, look, lookM, ev, evs, putT, argT, encCl, XX, undef]) ?_
  rintro k ⟨hk, hz⟩
  by_cases c1 : k < l.length
  rotate_left
  · have g1 : decide ((k : Int) < (l.length : Int)) = false := by simp; omega
    obtain rfl : k = l.length := by omega
    rw [List.take_length] at hz
    simp (maxSteps := 1000000) only [hll, g1, hz, encCl, XX, reduceIte, ↓reduceIte, Nat.reduceAdd, Nat.reduceLeDiff, Nat.reduceEqDiff, Nat.reduceLT, Nat.reduceSub, Nat.reduceBEq, forall_const, reduceCtorEq, implies_true, exists_eq_left', exists_eq_left, if_true, if_false, undef]
  have g1 : decide ((k : Int) < (l.length : Int)) = true := by simp [c1]
  have hw : IntKind.i64.wrap ((k : Int) + 1) = ((k + 1 : Nat) : Int) := by rw [wrap_id] <;> omega
  have hat := firstErr_at c1 hz
  have htk := firstErr_take c1 hz
  obtain ⟨hcy, hcn⟩ := hc l[k] (List.getElem_mem c1)
  simp (maxSteps := 1000000) only [hll, g1, encCl, XX, reduceIte, ↓reduceIte, Nat.reduceAdd, Nat.reduceLeDiff, Nat.reduceEqDiff, Nat.reduceLT, Nat.reduceSub, Nat.reduceBEq, forall_const, reduceCtorEq, implies_true, exists_eq_left', exists_eq_left, if_true, if_false, undef]
  refine ⟨by omega, pickM c1 ?_⟩
  generalize l[k] = c at *
  obtain ⟨ys, ns⟩ := c
  simp only at hcy hcn
  have hyl : ((ys.map I).length : Int) = ys.length := by simp
  have hnl : ((ns.map I).length : Int) = ns.length := by simp
  simp (maxSteps := 1000000) only [encCl, splice, AV.cells, hyl, encCl, XX, reduceIte, ↓reduceIte, Nat.reduceAdd, Nat.reduceLeDiff, Nat.reduceEqDiff, Nat.reduceLT, Nat.reduceSub, Nat.reduceBEq, forall_const, reduceCtorEq, implies_true, exists_eq_left', exists_eq_left, if_true, if_false, undef]
  by_cases q1 : ys.length > 8
  · have f3 : decide ((ys.length : Int) > 8) = true := by simp; omega
    have he : clErr vars ⟨ys, ns⟩ = 1 := by rw [clErr, if_pos (.inl q1)]
    rw [hat (by rw [he]; decide), he]
    simp (maxSteps := 1000000) only [f3, encCl, XX, reduceIte, ↓reduceIte, Nat.reduceAdd, Nat.reduceLeDiff, Nat.reduceEqDiff, Nat.reduceLT, Nat.reduceSub, Nat.reduceBEq, forall_const, reduceCtorEq, implies_true, exists_eq_left', exists_eq_left, if_true, if_false, undef]
  have f3 : decide ((ys.length : Int) > 8) = false := by simp; omega
  by_cases q2 : ns.length > 8
  · have f4 : decide ((ns.length : Int) > 8) = true := by simp; omega
    have he : clErr vars ⟨ys, ns⟩ = 1 := by rw [clErr, if_pos (.inr q2)]
    rw [hat (by rw [he]; decide), he]
    simp (maxSteps := 1000000) only [f3, f4, hnl, encCl, XX, reduceIte, ↓reduceIte, Nat.reduceAdd, Nat.reduceLeDiff, Nat.reduceEqDiff, Nat.reduceLT, Nat.reduceSub, Nat.reduceBEq, forall_const, reduceCtorEq, implies_true, exists_eq_left', exists_eq_left, if_true, if_false, undef]
  have f4 : decide ((ns.length : Int) > 8) = false := by simp; omega
  simp (maxSteps := 1000000) only [f3, f4, hnl, encCl, XX, reduceIte, ↓reduceIte, Nat.reduceAdd, Nat.reduceLeDiff, Nat.reduceEqDiff, Nat.reduceLT, Nat.reduceSub, Nat.reduceBEq, forall_const, reduceCtorEq, implies_true, exists_eq_left', exists_eq_left, if_true, if_false, undef]
  refine callF (CallsA.args (inside_spec vars ys hcy) (by simp [encCl, XX, undef])) rfl (by simp [flat, encCl, XX, undef]) ?_
  have hy : (ys.all fun i => decide (0 ≤ i ∧ i < vars)) = insB vars ys := rfl
  have hn : (ns.all fun i => decide (0 ≤ i ∧ i < vars)) = insB vars ns := rfl
  rw [hy]
  cases q3 : insB vars ys with
  | false =>
    have he : clErr vars ⟨ys, ns⟩ = 2 := by simp only [clErr]; rw [if_neg (by omega), if_pos (.inl q3)]
    rw [hat (by rw [he]; decide), he]
    simp (maxSteps := 1000000) only [Bo, Bool.not_false, encCl, XX, reduceIte, ↓reduceIte, Nat.reduceAdd, Nat.reduceLeDiff, Nat.reduceEqDiff, Nat.reduceLT, Nat.reduceSub, Nat.reduceBEq, forall_const, reduceCtorEq, implies_true, exists_eq_left', exists_eq_left, if_true, if_false, undef]
  | true =>
    simp (maxSteps := 1000000) only [Bo, Bool.not_true, encCl, XX, reduceIte, ↓reduceIte, Nat.reduceAdd, Nat.reduceLeDiff, Nat.reduceEqDiff, Nat.reduceLT, Nat.reduceSub, Nat.reduceBEq, forall_const, reduceCtorEq, implies_true, exists_eq_left', exists_eq_left, if_true, if_false, undef]
    refine callF (CallsA.args (inside_spec vars ns hcn) (by simp [encCl, XX, undef])) rfl (by simp [flat, encCl, XX, undef]) ?_
    rw [hn]
    cases q4 : insB vars ns with
    | false =>
      have he : clErr vars ⟨ys, ns⟩ = 2 := by simp only [clErr]; rw [if_neg (by omega), if_pos (.inr q4)]
      rw [hat (by rw [he]; decide), he]
      simp (maxSteps := 1000000) only [Bo, Bool.not_false, encCl, XX, reduceIte, ↓reduceIte, Nat.reduceAdd, Nat.reduceLeDiff, Nat.reduceEqDiff, Nat.reduceLT, Nat.reduceSub, Nat.reduceBEq, forall_const, reduceCtorEq, implies_true, exists_eq_left', exists_eq_left, if_true, if_false, undef]
    | true =>
      have he : clErr vars ⟨ys, ns⟩ = 0 := by simp only [clErr]; rw [if_neg (by omega), if_neg (by simp [q3, q4])]
      simp (maxSteps := 1000000) only [hw, Bo, Bool.not_true, encCl, XX, reduceIte, ↓reduceIte, Nat.reduceAdd, Nat.reduceLeDiff, Nat.reduceEqDiff, Nat.reduceLT, Nat.reduceSub, Nat.reduceBEq, forall_const, reduceCtorEq, implies_true, exists_eq_left', exists_eq_left, if_true, if_false, undef]
      exact ⟨k + 1, ⟨by omega, htk he⟩, by omega, by simp [Back, BackF, fzT, fzM, fzU, fz, fzL, fzO, kin, SubT, Sub, SubL, SubM, SubO, keepM, srcOk, look, lookM, ev, evs, putT, argT, encCl, XX, undef]⟩

theorem litPick {v : List Bool} {i : Int} (h : 0 ≤ i ∧ i < v.length) {K : AV → Prop} (hK : K (Bo (litT v i))) : Pick (v.map Bo) i.toNat K := by
  refine pickI (by omega) ?_
  have : litT v i = v[i.toNat]'(by omega) := by rw [litT, List.getD_eq_getElem?_getD, List.getElem?_eq_getElem (by omega)]; rfl
  rwa [← this]
theorem any_take_false {α : Type} {l : List α} {p : α → Bool} {k : Nat} (h : k < l.length) (hp : (l.take k).any p = false) (hx : p l[k] = false) : (l.take (k + 1)).any p = false := by
  rw [List.take_add_one, List.getElem?_eq_getElem h, List.any_append, hp]; simp [hx]
theorem any_at {α : Type} {l : List α} {p : α → Bool} {k : Nat} (h : k < l.length) (hx : p l[k] = true) : l.any p = true := List.any_eq_true.2 ⟨_, List.getElem_mem h, hx⟩
theorem clauseTrue_spec (c : Cl) (v : List Bool) (h : ClOk v.length c) (hv : v.length ≤ 100000) : CallsA Try.prog 23 [encCl c, .ro 1 (v.map Bo)] (Bo (clT v c)) [] := by
  obtain ⟨ys, ns⟩ := c
  obtain ⟨h1, h2, h3, h4⟩ := h
  simp only at h1 h2 h3 h4
  refine fn_of0 comp23 (by simp) ?_
  unfold code23
  have hyl : ((ys.map I).length : Int) = ys.length := by simp
  have hnl : ((ns.map I).length : Int) = ns.length := by simp
  simp (maxSteps := 1000000) only [encCl, splice, AV.cells, hyl, encCl, XX, reduceIte, ↓reduceIte, Nat.reduceAdd, Nat.reduceLeDiff, Nat.reduceEqDiff, Nat.reduceLT, Nat.reduceSub, Nat.reduceBEq, forall_const, reduceCtorEq, implies_true, exists_eq_left', exists_eq_left, if_true, if_false, undef]
  refine loop0 Nat [12] (fun k => [IN k]) (fun k => k ≤ ys.length ∧ (ys.take k).any (litT v) = false) (fun k => ys.length - k) (by decide) 0 (by simp) (by simp [Back, BackF, fzT, fzM, fzU, fz, fzL, fzO, kin, SubT, Sub, SubL, SubM, SubO, keepM, srcOk, look, lookM, ev, evs, putT, argT, encCl, XX, undef]) ?_
  rintro k ⟨hk, hz⟩
  by_cases c1 : k < ys.length
  · have g1 : decide ((k : Int) < (ys.length : Int)) = true := by simp [c1]
    have hw : IntKind.i64.wrap ((k : Int) + 1) = ((k + 1 : Nat) : Int) := by rw [wrap_id] <;> omega
    have hr := h3 _ (List.getElem_mem c1)
    have hat := any_at (p := litT v) c1
    have htk := any_take_false c1 hz
    simp (maxSteps := 1000000) only [hyl, g1, encCl, XX, reduceIte, ↓reduceIte, Nat.reduceAdd, Nat.reduceLeDiff, Nat.reduceEqDiff, Nat.reduceLT, Nat.reduceSub, Nat.reduceBEq, forall_const, reduceCtorEq, implies_true, exists_eq_left', exists_eq_left, if_true, if_false, undef]
    refine ⟨by omega, pickM c1 ?_⟩
    generalize ys[k] = i at *
    simp (maxSteps := 1000000) only [encCl, XX, reduceIte, ↓reduceIte, Nat.reduceAdd, Nat.reduceLeDiff, Nat.reduceEqDiff, Nat.reduceLT, Nat.reduceSub, Nat.reduceBEq, forall_const, reduceCtorEq, implies_true, exists_eq_left', exists_eq_left, if_true, if_false, undef]
    refine ⟨hr.1, litPick hr ?_⟩
    cases hb : litT v i with
    | true =>
      have he : clT v ⟨ys, ns⟩ = true := by rw [clT]; simp only; rw [hat hb]; rfl
      rw [he]
      simp (maxSteps := 1000000) only [Bo, encCl, XX, reduceIte, ↓reduceIte, Nat.reduceAdd, Nat.reduceLeDiff, Nat.reduceEqDiff, Nat.reduceLT, Nat.reduceSub, Nat.reduceBEq, forall_const, reduceCtorEq, implies_true, exists_eq_left', exists_eq_left, if_true, if_false, undef]
    | false =>
      simp (maxSteps := 1000000) only [hw, Bo, encCl, XX, reduceIte, ↓reduceIte, Nat.reduceAdd, Nat.reduceLeDiff, Nat.reduceEqDiff, Nat.reduceLT, Nat.reduceSub, Nat.reduceBEq, forall_const, reduceCtorEq, implies_true, exists_eq_left', exists_eq_left, if_true, if_false, undef]
      exact ⟨k + 1, ⟨by omega, htk hb⟩, by omega, by simp [Back, BackF, fzT, fzM, fzU, fz, fzL, fzO, kin, SubT, Sub, SubL, SubM, SubO, keepM, srcOk, look, lookM, ev, evs, putT, argT, encCl, XX, undef]⟩
  have g1 : decide ((k : Int) < (ys.length : Int)) = false := by simp; omega
  obtain rfl : k = ys.length := by omega
  rw [List.take_length] at hz
  simp (maxSteps := 1000000) only [hyl, hnl, g1, encCl, XX, reduceIte, ↓reduceIte, Nat.reduceAdd, Nat.reduceLeDiff, Nat.reduceEqDiff, Nat.reduceLT, Nat.reduceSub, Nat.reduceBEq, forall_const, reduceCtorEq, implies_true, exists_eq_left', exists_eq_left, if_true, if_false, undef]
  refine loop0 Nat [24] (fun k => [IN k]) (fun k => k ≤ ns.length ∧ (ns.take k).any (fun i => !(litT v i)) = false) (fun k => ns.length - k) (by decide) 0 (by simp) (by simp [Back, BackF, fzT, fzM, fzU, fz, fzL, fzO, kin, SubT, Sub, SubL, SubM, SubO, keepM, srcOk, look, lookM, ev, evs, putT, argT, encCl, XX, undef]) ?_
  rintro k ⟨hk, hy⟩
  by_cases c1 : k < ns.length
  · have g1 : decide ((k : Int) < (ns.length : Int)) = true := by simp [c1]
    have hw : IntKind.i64.wrap ((k : Int) + 1) = ((k + 1 : Nat) : Int) := by rw [wrap_id] <;> omega
    have hr := h4 _ (List.getElem_mem c1)
    have hat := any_at (p := fun i => !(litT v i)) c1
    have htk := any_take_false c1 hy
    simp (maxSteps := 1000000) only [hnl, g1, encCl, XX, reduceIte, ↓reduceIte, Nat.reduceAdd, Nat.reduceLeDiff, Nat.reduceEqDiff, Nat.reduceLT, Nat.reduceSub, Nat.reduceBEq, forall_const, reduceCtorEq, implies_true, exists_eq_left', exists_eq_left, if_true, if_false, undef]
    refine ⟨by omega, pickM c1 ?_⟩
    generalize ns[k] = i at *
    simp (maxSteps := 1000000) only [encCl, XX, reduceIte, ↓reduceIte, Nat.reduceAdd, Nat.reduceLeDiff, Nat.reduceEqDiff, Nat.reduceLT, Nat.reduceSub, Nat.reduceBEq, forall_const, reduceCtorEq, implies_true, exists_eq_left', exists_eq_left, if_true, if_false, undef]
    refine ⟨hr.1, litPick hr ?_⟩
    cases hb : litT v i with
    | false =>
      have he : clT v ⟨ys, ns⟩ = true := by rw [clT]; simp only; rw [hat (by simp [hb]), Bool.or_true]
      rw [he]
      simp (maxSteps := 1000000) only [Bo, Bool.not_false, encCl, XX, reduceIte, ↓reduceIte, Nat.reduceAdd, Nat.reduceLeDiff, Nat.reduceEqDiff, Nat.reduceLT, Nat.reduceSub, Nat.reduceBEq, forall_const, reduceCtorEq, implies_true, exists_eq_left', exists_eq_left, if_true, if_false, undef]
    | true =>
      simp (maxSteps := 1000000) only [hw, Bo, Bool.not_true, encCl, XX, reduceIte, ↓reduceIte, Nat.reduceAdd, Nat.reduceLeDiff, Nat.reduceEqDiff, Nat.reduceLT, Nat.reduceSub, Nat.reduceBEq, forall_const, reduceCtorEq, implies_true, exists_eq_left', exists_eq_left, if_true, if_false, undef]
      exact ⟨k + 1, ⟨by omega, htk (by simp [hb])⟩, by omega, by simp [Back, BackF, fzT, fzM, fzU, fz, fzL, fzO, kin, SubT, Sub, SubL, SubM, SubO, keepM, srcOk, look, lookM, ev, evs, putT, argT, encCl, XX, undef]⟩
  have g1 : decide ((k : Int) < (ns.length : Int)) = false := by simp; omega
  obtain rfl : k = ns.length := by omega
  rw [List.take_length] at hy
  have he : clT v ⟨ys, ns⟩ = false := by rw [clT]; simp only; rw [hz, hy]; rfl
  rw [he]
  simp (maxSteps := 1000000) only [hnl, g1, Bo, encCl, XX, reduceIte, ↓reduceIte, Nat.reduceAdd, Nat.reduceLeDiff, Nat.reduceEqDiff, Nat.reduceLT, Nat.reduceSub, Nat.reduceBEq, forall_const, reduceCtorEq, implies_true, exists_eq_left', exists_eq_left, if_true, if_false, undef]

theorem true_spec (l : List Cl) (v : List Bool) (h : ClsOk v.length l) (hv : v.length ≤ 100000) (hl : l.length ≤ 100000) : CallsA Try.prog 10 [.ro 2 (l.map encCl), .ro 1 (v.map Bo)] (Bo (allT l v)) [] := by
  refine fn_of0 comp10 (by simp) ?_
  unfold code10
  have hll : ((l.map encCl).length : Int) = l.length := by simp
  simp (maxSteps := 1000000) only [hll, encCl, XX, reduceIte, ↓reduceIte, Nat.reduceAdd, Nat.reduceLeDiff, Nat.reduceEqDiff, Nat.reduceLT, Nat.reduceSub, Nat.reduceBEq, forall_const, reduceCtorEq, implies_true, exists_eq_left', exists_eq_left, if_true, if_false, undef]
  refine loop0 Nat [9] (fun k => [IN k]) (fun k => k ≤ l.length ∧ (l.take k).all (clT v) = true) (fun k => l.length - k) (by decide) 0 (by simp) (by simp [Back, BackF, fzT, fzM, fzU, fz, fzL, fzO, kin, SubT, Sub, SubL, SubM, SubO, keepM, srcOk, look, lookM, ev, evs, putT, argT, encCl, XX, undef]) ?_
  rintro k ⟨hk, hz⟩
  by_cases c1 : k < l.length
  · have g1 : decide ((k : Int) < (l.length : Int)) = true := by simp [c1]
    have hw : IntKind.i64.wrap ((k : Int) + 1) = ((k + 1 : Nat) : Int) := by rw [wrap_id] <;> omega
    have hct := clauseTrue_spec l[k] v (h _ (List.getElem_mem c1)) hv
    have hno := all_no (p := clT v) c1
    have htk := all_take c1 hz
    simp (maxSteps := 1000000) only [hll, g1, encCl, XX, reduceIte, ↓reduceIte, Nat.reduceAdd, Nat.reduceLeDiff, Nat.reduceEqDiff, Nat.reduceLT, Nat.reduceSub, Nat.reduceBEq, forall_const, reduceCtorEq, implies_true, exists_eq_left', exists_eq_left, if_true, if_false, undef]
    refine ⟨by omega, pickM c1 ?_⟩
    generalize l[k] = c at *
    simp (maxSteps := 1000000) only [encCl, splice, AV.cells, encCl, XX, reduceIte, ↓reduceIte, Nat.reduceAdd, Nat.reduceLeDiff, Nat.reduceEqDiff, Nat.reduceLT, Nat.reduceSub, Nat.reduceBEq, forall_const, reduceCtorEq, implies_true, exists_eq_left', exists_eq_left, if_true, if_false, undef]
    refine callF (CallsA.args (hct ) (by simp [ encCl,encCl, XX, undef])) rfl (by simp [flat, encCl, XX, undef]) ?_
    cases hb : clT v c with
    | false =>
      rw [allT, hno hb]
      simp (maxSteps := 1000000) only [Bo, Bool.not_false, encCl, XX, reduceIte, ↓reduceIte, Nat.reduceAdd, Nat.reduceLeDiff, Nat.reduceEqDiff, Nat.reduceLT, Nat.reduceSub, Nat.reduceBEq, forall_const, reduceCtorEq, implies_true, exists_eq_left', exists_eq_left, if_true, if_false, undef]
    | true =>
      simp (maxSteps := 1000000) only [hw, Bo, Bool.not_true, encCl, XX, reduceIte, ↓reduceIte, Nat.reduceAdd, Nat.reduceLeDiff, Nat.reduceEqDiff, Nat.reduceLT, Nat.reduceSub, Nat.reduceBEq, forall_const, reduceCtorEq, implies_true, exists_eq_left', exists_eq_left, if_true, if_false, undef]
      exact ⟨k + 1, ⟨by omega, htk hb⟩, by omega, by simp [Back, BackF, fzT, fzM, fzU, fz, fzL, fzO, kin, SubT, Sub, SubL, SubM, SubO, keepM, srcOk, look, lookM, ev, evs, putT, argT, encCl, XX, undef]⟩
  have g1 : decide ((k : Int) < (l.length : Int)) = false := by simp; omega
  obtain rfl : k = l.length := by omega
  rw [List.take_length] at hz
  rw [allT, hz]
  simp (maxSteps := 1000000) only [hll, g1, Bo, encCl, XX, reduceIte, ↓reduceIte, Nat.reduceAdd, Nat.reduceLeDiff, Nat.reduceEqDiff, Nat.reduceLT, Nat.reduceSub, Nat.reduceBEq, forall_const, reduceCtorEq, implies_true, exists_eq_left', exists_eq_left, if_true, if_false, undef]

theorem many_spec (n : Nat) (l : List Cl) (hn : n ≤ 30) (h : ClsOk n l) (hl : l.length ≤ 100000) : CallsA Try.prog 12 [IN n, .ro 2 (l.map encCl)] (IN (manyN n l)) [] := by
  refine fn_of0 comp12 (by simp) ?_
  unfold code12
  have hcv : IntKind.u64.wrap (n : Int) = (n : Int) := wrap_u64 (by omega) (by omega)
  have hsh := shl_one (show n < 62 by omega)
  have hp5 : 2 ^ n ≤ 2 ^ 30 := Nat.pow_le_pow_right (by decide) hn
  have hp5' : 2 ^ n ≤ 1073741824 := hp5
  simp (maxSteps := 1000000) only [encCl, XX, reduceIte, ↓reduceIte, Nat.reduceAdd, Nat.reduceLeDiff, Nat.reduceEqDiff, Nat.reduceLT, Nat.reduceSub, Nat.reduceBEq, forall_const, reduceCtorEq, implies_true, exists_eq_left', exists_eq_left, if_true, if_false, undef]
  refine loop0 Nat [6, 5] (fun k => [IN k, IN (sumR (fun w => (allT l (bitsL n w)).toNat) k)]) (fun k => k ≤ 2 ^ n) (fun k => 2 ^ n - k) (by decide) 0 (by simp) (by simp [Back, BackF, fzT, fzM, fzU, fz, fzL, fzO, kin, SubT, Sub, SubL, SubM, SubO, keepM, srcOk, look, lookM, ev, evs, putT, argT, encCl, XX, undef, sumR]) ?_
  intro w hw
  by_cases c2 : w < 2 ^ n
  rotate_left
  · have c : decide ((w : Int) < ((2 ^ n : Nat) : Int)) = false := decide_eq_false (fun h => c2 (Int.ofNat_lt.1 h))
    obtain rfl : w = 2 ^ n := by omega
    simp (maxSteps := 1000000) only [hcv, hsh, c, manyN, encCl, XX, reduceIte, ↓reduceIte, Nat.reduceAdd, Nat.reduceLeDiff, Nat.reduceEqDiff, Nat.reduceLT, Nat.reduceSub, Nat.reduceBEq, forall_const, reduceCtorEq, implies_true, exists_eq_left', exists_eq_left, if_true, if_false, undef]
    omega
  have c : decide ((w : Int) < ((2 ^ n : Nat) : Int)) = true := decide_eq_true (Int.ofNat_lt.2 c2)
  have hww : IntKind.i64.wrap ((w : Int) + 1) = ((w + 1 : Nat) : Int) := by rw [wrap_id] <;> omega
  have hs1 : sumR (fun w => (allT l (bitsL n w)).toNat) (w + 1) = sumR (fun w => (allT l (bitsL n w)).toNat) w + (allT l (bitsL n w)).toNat := rfl
  have hle : sumR (fun w => (allT l (bitsL n w)).toNat) w ≤ w := by
    have : sumR (fun w => (allT l (bitsL n w)).toNat) w ≤ sumR (fun _ => 1) w := sumR_le (fun k _ => by cases allT l (bitsL n k) <;> simp)
    rwa [sumR_const, Nat.mul_one] at this
  have htr := true_spec l (bitsL n w) (by rw [bitsL_length]; exact h) (by rw [bitsL_length]; omega) hl
  simp (maxSteps := 1000000) only [hcv, hsh, c, encCl, XX, reduceIte, ↓reduceIte, Nat.reduceAdd, Nat.reduceLeDiff, Nat.reduceEqDiff, Nat.reduceLT, Nat.reduceSub, Nat.reduceBEq, forall_const, reduceCtorEq, implies_true, exists_eq_left', exists_eq_left, if_true, if_false, undef]
  refine ⟨by omega, ?_⟩
  refine callA (CallsA.args (bits_spec n w (by omega) (by omega)) (by simp [encCl, XX, undef])) rfl ?_
  simp (maxSteps := 1000000) only [encCl, XX, reduceIte, ↓reduceIte, Nat.reduceAdd, Nat.reduceLeDiff, Nat.reduceEqDiff, Nat.reduceLT, Nat.reduceSub, Nat.reduceBEq, forall_const, reduceCtorEq, implies_true, exists_eq_left', exists_eq_left, if_true, if_false, undef]
  refine callF (CallsA.args (htr) (by simp [encCl, XX, undef])) rfl (by simp [flat, encCl, XX, undef]) ?_
  cases hb : allT l (bitsL n w) with
  | false =>
    rw [hb, Bool.toNat_false, Nat.add_zero] at hs1
    simp (maxSteps := 1000000) only [hww, Bo, encCl, XX, reduceIte, ↓reduceIte, Nat.reduceAdd, Nat.reduceLeDiff, Nat.reduceEqDiff, Nat.reduceLT, Nat.reduceSub, Nat.reduceBEq, forall_const, reduceCtorEq, implies_true, exists_eq_left', exists_eq_left, if_true, if_false, undef]
    exact ⟨w + 1, by omega, by omega, by rw [hs1]; simp [Back, BackF, fzT, fzM, fzU, fz, fzL, fzO, kin, SubT, Sub, SubL, SubM, SubO, keepM, srcOk, look, lookM, ev, evs, putT, argT, encCl, XX, reduceIte, ↓reduceIte, Nat.reduceAdd, Nat.reduceLeDiff, Nat.reduceEqDiff, Nat.reduceLT, Nat.reduceSub, Nat.reduceBEq, forall_const, reduceCtorEq, implies_true, exists_eq_left', exists_eq_left, if_true, if_false, undef]⟩
  | true =>
    rw [hb, Bool.toNat_true] at hs1
    have w2 : IntKind.i64.wrap ((sumR (fun w => (allT l (bitsL n w)).toNat) w : Int) + 1) = ((sumR (fun w => (allT l (bitsL n w)).toNat) w + 1 : Nat) : Int) := by rw [wrap_id] <;> omega
    simp (maxSteps := 1000000) only [hww, w2, Bo, encCl, XX, reduceIte, ↓reduceIte, Nat.reduceAdd, Nat.reduceLeDiff, Nat.reduceEqDiff, Nat.reduceLT, Nat.reduceSub, Nat.reduceBEq, forall_const, reduceCtorEq, implies_true, exists_eq_left', exists_eq_left, if_true, if_false, undef]
    exact ⟨w + 1, by omega, by omega, by rw [hs1]; simp [Back, BackF, fzT, fzM, fzU, fz, fzL, fzO, kin, SubT, Sub, SubL, SubM, SubO, keepM, srcOk, look, lookM, ev, evs, putT, argT, encCl, XX, reduceIte, ↓reduceIte, Nat.reduceAdd, Nat.reduceLeDiff, Nat.reduceEqDiff, Nat.reduceLT, Nat.reduceSub, Nat.reduceBEq, forall_const, reduceCtorEq, implies_true, exists_eq_left', exists_eq_left, if_true, if_false, undef]⟩

end Go.Av
