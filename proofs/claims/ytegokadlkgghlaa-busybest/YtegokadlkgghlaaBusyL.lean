/- Small machines: a machine that was built, run by package tape, is the machine that its digits tell. Pure. -/
import Derived.Test.YtegokadlkgghlaaBusyO
import Derived.Test.YtegokadlkgghlaaTapeD
set_option linter.unusedSimpArgs false
set_option linter.unusedVariables false
namespace Go.Av

def sumF (f : Int → Int) (lo : Int) (n : Nat) : Int := (cellsF f lo n).sum
theorem cellsF_add (f : Int → Int) (lo : Int) (a b : Nat) : cellsF f lo (a + b) = cellsF f lo a ++ cellsF f (lo + a) b := by
  simp only [cellsF, List.range_add, List.map_append, List.map_map]
  congr 1
  apply List.map_congr_left
  intro i _
  simp only [Function.comp]
  congr 1; omega
theorem sumF_add (f : Int → Int) (lo : Int) (a b : Nat) : sumF f lo (a + b) = sumF f lo a + sumF f (lo + a) b := by
  rw [sumF, cellsF_add, List.sum_append]; rfl
theorem sumF_zero {f : Int → Int} {lo : Int} : ∀ {n : Nat}, (∀ i : Nat, i < n → f (lo + i) = 0) → sumF f lo n = 0
  | 0, _ => rfl
  | n + 1, h => by
    rw [sumF_add, sumF_zero (n := n) (fun i hi => h i (by omega))]
    have := h n (by omega)
    simp [sumF, cellsF, this]
/-- the first sum is the whole one -/
theorem sumF_span {f : Int → Int} {head lo hi : Int} {S : Nat} (h : IsSpan f head lo hi) (h1 : -(S : Int) ≤ lo) (h2 : hi ≤ S) : sumF f lo (hi - lo + 1).toNat = sumF f (-S) (2 * S + 1) := by
  obtain ⟨a1, a2, a3, _, _⟩ := h
  have e : 2 * S + 1 = (lo + S).toNat + ((hi - lo + 1).toNat + (S - hi).toNat) := by omega
  rw [e, sumF_add, sumF_add]
  have z1 : sumF f (-S) (lo + S).toNat = 0 := sumF_zero (fun i hi => Classical.byContradiction fun hh => by have := (a3 _ hh).1; omega)
  have e2 : -(S : Int) + ((lo + S).toNat : Int) = lo := by omega
  rw [e2]
  have z2 : sumF f (lo + ((hi - lo + 1).toNat : Int)) (S - hi).toNat = 0 := sumF_zero (fun i hi => Classical.byContradiction fun hh => by have := (a3 _ hh).2; omega)
  omega

/-- the program's tape and the array -/
structure Lk (S : Nat) (z : Bz) (c : Cfg) : Prop where
  st : c.st = (z.st : Int)
  hd : c.head = (z.head : Int) - S
  f : ∀ x, c.f x = if -(S : Int) ≤ x then ((z.tape.getD (x + S).toNat 0 : Nat) : Int) else 0

theorem bld_rule {s n st g : Nat} (h1 : st < s) (h2 : g ≤ 1) : ruleAt (bldM s n) st g = bldR s (dgt s n (2 * st + g)) := by
  have e : (bldM s n).rules[st]? = some [bldR s (dgt s n (2 * st)), bldR s (dgt s n (2 * st + 1))] := by simp [bldM, h1]
  rw [ruleAt, Int.toNat_natCast, Int.toNat_natCast, e]
  rcases (by omega : g = 0 ∨ g = 1) with rfl | rfl <;> simp

theorem lk_step {s S n k : Nat} {z : Bz} {c : Cfg} (h : Lk S z c) (hz : ZOk s S k z) (hk : k < S) (hl : z.st < s) : Lk S (bstp s (dgt s n) z) (stepC (bldM s n) c) := by
  have h1 := hz.lo
  have h2 := hz.hi
  have h3 := hz.len
  have hlt : z.head < z.tape.length := by omega
  have hg : z.tape.getD z.head 0 = z.tape[z.head] := by rw [List.getD_eq_getElem?_getD, List.getElem?_eq_getElem hlt]; rfl
  have h5 := hz.cells z.tape[z.head] (List.getElem_mem hlt)
  have hf : c.f c.head = ((z.tape.getD z.head 0 : Nat) : Int) := by
    rw [h.f, if_pos (by rw [h.hd]; omega), h.hd, show ((z.head : Int) - S + S).toNat = z.head by omega]
  have hr : ruleAt (bldM s n) c.st (c.f c.head) = bldR s (dgt s n (2 * z.st + z.tape.getD z.head 0)) := by
    rw [hf, h.st, bld_rule hl (by rw [hg]; exact h5)]
  refine ⟨?_, ?_, fun x => ?_⟩
  · simp only [stepC, hr]; rfl
  · show c.head + (ruleAt (bldM s n) c.st (c.f c.head)).m = _
    rw [hr, h.hd]
    simp only [bstp, bldR]
    generalize dgt s n (2 * z.st + z.tape.getD z.head 0) / (s + 1) = u
    split <;> omega
  · simp only [stepC, hr]
    have hw : (bldR s (dgt s n (2 * z.st + z.tape.getD z.head 0))).w = ((dgt s n (2 * z.st + z.tape.getD z.head 0) / (s + 1) / 2 : Nat) : Int) := rfl
    rw [hw]
    simp only [bstp]
    generalize dgt s n (2 * z.st + z.tape.getD z.head 0) / (s + 1) / 2 = w
    rw [h.hd]
    by_cases hx : x = (z.head : Int) - S
    · subst hx
      rw [if_pos rfl, if_pos (by omega), show ((z.head : Int) - S + S).toNat = z.head by omega, List.getD_eq_getElem?_getD, List.getElem?_set_self hlt]; rfl
    · rw [if_neg hx, h.f]
      by_cases hx2 : -(S : Int) ≤ x
      · rw [if_pos hx2, if_pos hx2, List.getD_eq_getElem?_getD, List.getD_eq_getElem?_getD, List.getElem?_set_ne (by omega)]
      · rw [if_neg hx2, if_neg hx2]

theorem lk_zero (S : Nat) : Lk S (bz0 S) (startC ⟨0, 0, 0, []⟩) := by
  refine ⟨rfl, ?_, fun x => ?_⟩
  · show (0 : Int) = (S : Int) - S; omega
  · have e : (startC ⟨0, 0, 0, []⟩).f x = 0 := by simp [startC, tapeF]
    rw [e]
    split
    · rw [List.getD_eq_getElem?_getD, show (bz0 S).tape = List.replicate (2 * S + 1) 0 from rfl, List.getElem?_replicate]
      split <;> rfl
    · rfl

theorem lk_run {s S n : Nat} (hs : 1 ≤ s) : ∀ {k : Nat}, k ≤ S → Lk S (brun s (dgt s n) (bz0 S) k) (runC (bldM s n) (startC ⟨0, 0, 0, []⟩) k) ∧ doneC (bldM s n) (startC ⟨0, 0, 0, []⟩) k = bdon s (dgt s n) (bz0 S) k
  | 0, _ => ⟨lk_zero S, rfl⟩
  | k + 1, hk => by
    obtain ⟨ih, ih2⟩ := lk_run (S := S) (n := n) hs (k := k) (by omega)
    have hz := brun_ok hs (dgt_ok s n) (S := S) (k := k) (by omega)
    have hst : (runC (bldM s n) (startC ⟨0, 0, 0, []⟩) k).st < (bldM s n).states ↔ (brun s (dgt s n) (bz0 S) k).st < s := by
      rw [ih.st]; show ((brun s (dgt s n) (bz0 S) k).st : Int) < (s : Int) ↔ _; omega
    rw [runC, doneC, brun, bdon, ih2]
    by_cases h : (brun s (dgt s n) (bz0 S) k).st < s
    · rw [if_pos (hst.2 h), if_pos h, if_pos (hst.2 h), if_pos h]
      exact ⟨lk_step ih hz (by omega) h, rfl⟩
    · rw [if_neg (fun q => h (hst.1 q)), if_neg h, if_neg (fun q => h (hst.1 q)), if_neg h]
      exact ⟨ih, rfl⟩

theorem lk_sum {S : Nat} {z : Bz} {c : Cfg} (h : Lk S z c) (hl : z.tape.length = 2 * S + 1) : sumF c.f (-S) (2 * S + 1) = (z.tape.sum : Nat) := by
  have e : cellsF c.f (-S) (2 * S + 1) = z.tape.map fun x : Nat => (x : Int) := by
    apply List.ext_getElem?
    intro i
    by_cases hi : i < 2 * S + 1
    · have hi' : i < z.tape.length := by omega
      have e2 : (-(S : Int) + (i : Int) + S).toNat = i := by omega
      simp only [cellsF, List.getElem?_map, List.getElem?_range hi, Option.map_some, h.f, e2]
      rw [if_pos (by omega), List.getD_eq_getElem?_getD, List.getElem?_eq_getElem hi']
      rfl
    · have hi' : ¬ i < z.tape.length := by omega
      simp [cellsF, hi, hi']
  rw [sumF, e]
  generalize z.tape = l
  induction l with
  | nil => rfl
  | cons x l ih => simp only [List.map_cons, List.sum_cons, ih]; omega

/-- how many cells are 1 -/
def ones1 : List Int → Nat
  | [] => 0
  | x :: l => (if x = 1 then 1 else 0) + ones1 l
theorem ones1_append (a b : List Int) : ones1 (a ++ b) = ones1 a + ones1 b := by
  induction a with
  | nil => simp [ones1]
  | cons x a ih => simp only [List.cons_append, ones1, ih]; omega
theorem ones1_le (l : List Int) : ones1 l ≤ l.length := by
  induction l with
  | nil => simp [ones1]
  | cons x l ih => simp only [ones1, List.length_cons]; split <;> omega
theorem ones1_sum {l : List Int} (h : ∀ x ∈ l, x = 0 ∨ x = 1) : (ones1 l : Int) = l.sum := by
  induction l with
  | nil => rfl
  | cons x l ih =>
    have := ih (fun y hy => h y (by simp [hy]))
    rcases h x (by simp) with rfl | rfl
    · rw [ones1, List.sum_cons, if_neg (by decide)]; omega
    · rw [ones1, List.sum_cons, if_pos rfl]; omega

/-- what package tape tells of a machine that was built -/
theorem bld_tell {s S n : Nat} (hs : s = 1 ∨ s = 2) (hS : S ≤ 60) : ∃ (hd fs : Int) (tp : List Int), tell (runC (bldM s n) (startC ⟨0, 0, 0, []⟩) S) = ⟨((bfin s S n).st : Int), hd, fs, tp⟩ ∧ ones1 tp = (bfin s S n).tape.sum ∧ tp.length ≤ 1000 := by
  have hs1 : 1 ≤ s := by omega
  obtain ⟨h1, h2⟩ := lk_run (n := n) (S := S) hs1 (Nat.le_refl S)
  have hz := brun_ok hs1 (dgt_ok s n) (S := S) (k := S) (Nat.le_refl _)
  have hfe : bfin s S n = brun s (dgt s n) (bz0 S) S := rfl
  rw [← hfe] at h1 hz
  have hm : MOk (bldM s n) := mach_ok (bldM_ok hs)
  have hc0 : COk (bldM s n) 0 (startC ⟨0, 0, 0, []⟩) := by
    refine ⟨Int.le_refl _, ?_, fun x => ?_, ?_, fun x hx => ?_⟩
    · show (0 : Int) ≤ (s : Int); omega
    · simp [startC, tapeF, bldM]
    · show -0 ≤ (0 : Int) ∧ (0 : Int) ≤ 0; omega
    · simp [startC, tapeF] at hx
  have hck := runC_ok hm hc0 S
  obtain ⟨lo, hi, hsp, ht, hlo, hhi⟩ := hck.tell
  refine ⟨_, _, _, by rw [ht, h1.st], ?_, ?_⟩
  · have h01 : ∀ x ∈ cellsF (runC (bldM s n) (startC ⟨0, 0, 0, []⟩) S).f lo (hi - lo + 1).toNat, x = 0 ∨ x = 1 := fun x hx => by
      simp only [cellsF, List.mem_map, List.mem_range] at hx
      obtain ⟨i, _, rfl⟩ := hx
      have := hck.sg (lo + i)
      have e : (bldM s n).signs = 2 := rfl
      omega
    have e1 := ones1_sum h01
    have e2 := sumF_span hsp (S := S) (by omega) (by omega)
    have e3 := lk_sum h1 hz.len
    rw [← e2, sumF] at e3
    rw [e3] at e1
    exact Int.ofNat.inj e1
  · rw [cellsF_length]; omega

end Go.Av
