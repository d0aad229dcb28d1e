/- The encoding of counters: the functions. -/
import Derived.Test.YtjehogambhkpgaaDoorHas
import Derived.Test.YtjehogambhkpgaaDoorTwoM
set_option linter.unusedSimpArgs false
set_option linter.unusedVariables false
set_option maxRecDepth 100000
namespace Go.Av
open Go.Proofs

theorem pickA' {α : Type} {l : List α} {f : α → AV} {i : Nat} {K : AV → Prop} {x : α} (h : l[i]? = some x) (hK : K (f x)) : Pick (l.map f) i K := ⟨f x, by simp [h], hK⟩
theorem pickP {k i : Nat} {K : AV → Prop} (h : k < prs.length) (hi : i = k) (hK : K (I (prs[k] : Nat))) : Pick [.v (.int .i64 2), .v (.int .i64 3), .v (.int .i64 5), .v (.int .i64 7)] i K := by
  subst hi
  match i, h, hK with
  | 0, _, hK => exact ⟨_, rfl, hK⟩
  | 1, _, hK => exact ⟨_, rfl, hK⟩
  | 2, _, hK => exact ⟨_, rfl, hK⟩
  | 3, _, hK => exact ⟨_, rfl, hK⟩

theorem prs_two {k : Nat} (h : k < prs.length) : 2 ≤ prs[k] := by
  have : ∀ p ∈ prs, 2 ≤ p := by decide
  exact this _ (List.getElem_mem h)

theorem packed_entry {c : List Int} {k : Nat} (hk : k < c.length) (h4 : k < prs.length) : c[k] < packed c := by
  have h1 := packed_part hk h4 (Nat.le_refl (c[k]).toNat)
  have h2 : (c[k]).toNat < 2 ^ (c[k]).toNat := Nat.lt_two_pow_self
  have h3 : 2 ^ (c[k]).toNat ≤ prs[k] ^ (c[k]).toNat := Nat.pow_le_pow_left (prs_two h4) _
  have h5 : prs[k] ^ (c[k]).toNat ≤ packed (c.take k) * prs[k] ^ (c[k]).toNat := Nat.le_mul_of_pos_left _ (packed_pos _)
  omega

/-- the loop over one counter: a number, and how often it has been multiplied -/
def facs (c : List Int) (k j : Nat) : Nat := packed (c.take k) * (prs.getD k 1) ^ j
theorem facs_zero (c : List Int) (k : Nat) : facs c k 0 = packed (c.take k) := by simp [facs]
theorem facs_succ (c : List Int) (k j : Nat) : facs c k (j + 1) = facs c k j * prs.getD k 1 := by rw [facs, facs, Nat.pow_succ, Nat.mul_assoc]
theorem facs_le {c : List Int} {k j : Nat} (hk : k < c.length) (h4 : k < prs.length) (hj : j ≤ (c[k]).toNat) : facs c k j ≤ packed c := by
  have := packed_part hk h4 hj
  simpa [facs, h4] using this
theorem facs_all {c : List Int} {k : Nat} (hk : k < c.length) (h4 : k < prs.length) : facs c k (c[k]).toNat = packed (c.take (k + 1)) := by
  rw [packed_step hk h4]; simp [facs, h4]

theorem packed_spec (c : List Int) (h4 : c.length ≤ 4) (hp : packed c < 2 ^ 63) : CallsA Tryd.prog 10 [.ro 1 (c.map I)] (I (packed c : Nat)) [] := by
  refine fn_of0 comp10 (by simp) ?_
  unfold code10
  simp (maxSteps := 1000000) only [EA, EB, EC, ED, EE, EF, EG, EH, XA, XB, XC, XD, XE, XF, XG, XH, XI, XJ, XK, XL, XM, reduceIte, ↓reduceIte, Nat.reduceAdd, Nat.reduceLeDiff, Nat.reduceEqDiff, Nat.reduceLT, Nat.reduceSub, Nat.reduceBEq, forall_const, reduceCtorEq, implies_true, exists_eq_left', exists_eq_left, if_true, if_false, undef]
  refine loop0 Nat [9, 3] (fun k => [I k, I (packed (c.take k) : Nat)]) (fun k => k ≤ c.length) (fun k => c.length - k) (by decide) 0 (by simp) (by simp [Back, BackF, fzT, fzM, fzU, fz, fzL, fzO, kin, SubT, Sub, SubL, SubM, SubO, keepM, srcOk, look, lookM, ev, evs, putT, argT, EA, EB, EC, ED, EE, EF, EG, EH, XA, XB, XC, XD, XE, XF, XG, XH, XI, XJ, XK, XL, XM, reduceIte, ↓reduceIte, Nat.reduceAdd, Nat.reduceLeDiff, Nat.reduceEqDiff, Nat.reduceLT, Nat.reduceSub, Nat.reduceBEq, forall_const, reduceCtorEq, implies_true, exists_eq_left', exists_eq_left, if_true, if_false, undef, packed, pk_nil]) (fun k hk => ?_)
  have hll : ((c.map I).length : Int) = c.length := by simp
  by_cases h : k < c.length
  · have e1 : decide ((k : Int) < (c.length : Int)) = true := by simp [h]
    have hk4 : k < prs.length := by simp [prs]; omega
    have hw : IntKind.i64.wrap ((k : Int) + 1) = ((k + 1 : Nat) : Int) := by rw [wrap_id] <;> omega
    simp (maxSteps := 1000000) only [e1, hll, EA, EB, EC, ED, EE, EF, EG, EH, XA, XB, XC, XD, XE, XF, XG, XH, XI, XJ, XK, XL, XM, reduceIte, ↓reduceIte, Nat.reduceAdd, Nat.reduceLeDiff, Nat.reduceEqDiff, Nat.reduceLT, Nat.reduceSub, Nat.reduceBEq, forall_const, reduceCtorEq, implies_true, exists_eq_left', exists_eq_left, if_true, if_false, undef]
    refine ⟨by omega, pickM h ?_⟩
    simp (maxSteps := 1000000) only [EA, EB, EC, ED, EE, EF, EG, EH, XA, XB, XC, XD, XE, XF, XG, XH, XI, XJ, XK, XL, XM, reduceIte, ↓reduceIte, Nat.reduceAdd, Nat.reduceLeDiff, Nat.reduceEqDiff, Nat.reduceLT, Nat.reduceSub, Nat.reduceBEq, forall_const, reduceCtorEq, implies_true, exists_eq_left', exists_eq_left, if_true, if_false, undef]
    refine loop0 Nat [6, 3] (fun j => [I j, I (facs c k j : Nat)]) (fun j => j ≤ (c[k]).toNat) (fun j => (c[k]).toNat - j) (by decide) 0 (by simp) (by simp [Back, BackF, fzT, fzM, fzU, fz, fzL, fzO, kin, SubT, Sub, SubL, SubM, SubO, keepM, srcOk, look, lookM, ev, evs, putT, argT, EA, EB, EC, ED, EE, EF, EG, EH, XA, XB, XC, XD, XE, XF, XG, XH, XI, XJ, XK, XL, XM, reduceIte, ↓reduceIte, Nat.reduceAdd, Nat.reduceLeDiff, Nat.reduceEqDiff, Nat.reduceLT, Nat.reduceSub, Nat.reduceBEq, forall_const, reduceCtorEq, implies_true, exists_eq_left', exists_eq_left, if_true, if_false, undef, facs_zero]) (fun j hj => ?_)
    by_cases g : j < (c[k]).toNat
    · have e2 : decide ((j : Int) < c[k]) = true := by simp; omega
      have hc := packed_entry h hk4
      have hw2 : IntKind.i64.wrap ((j : Int) + 1) = ((j + 1 : Nat) : Int) := by rw [wrap_id] <;> omega
      have hf := facs_le h hk4 (j := j + 1) (by omega)
      have hf' := facs_succ c k j
      have hw3 : IntKind.i64.wrap ((facs c k j : Int) * ((prs[k] : Nat) : Int)) = (facs c k (j + 1) : Nat) := by
        have hx : prs.getD k 1 = prs[k] := by simp [hk4]
        rw [hx] at hf'
        rw [← Int.natCast_mul, ← hf']
        rw [wrap_id] <;> omega
      simp (maxSteps := 1000000) only [e2, EA, EB, EC, ED, EE, EF, EG, EH, XA, XB, XC, XD, XE, XF, XG, XH, XI, XJ, XK, XL, XM, reduceIte, ↓reduceIte, Nat.reduceAdd, Nat.reduceLeDiff, Nat.reduceEqDiff, Nat.reduceLT, Nat.reduceSub, Nat.reduceBEq, forall_const, reduceCtorEq, implies_true, exists_eq_left', exists_eq_left, if_true, if_false, undef]
      refine ⟨by omega, by simp [prs] at hk4; omega, pickP hk4 (by simp) ?_⟩
      simp (maxSteps := 1000000) only [hw2, hw3, EA, EB, EC, ED, EE, EF, EG, EH, XA, XB, XC, XD, XE, XF, XG, XH, XI, XJ, XK, XL, XM, reduceIte, ↓reduceIte, Nat.reduceAdd, Nat.reduceLeDiff, Nat.reduceEqDiff, Nat.reduceLT, Nat.reduceSub, Nat.reduceBEq, forall_const, reduceCtorEq, implies_true, exists_eq_left', exists_eq_left, if_true, if_false, undef]
      exact ⟨j + 1, by omega, by omega, by simp [Back, BackF, fzT, fzM, fzU, fz, fzL, fzO, kin, SubT, Sub, SubL, SubM, SubO, keepM, srcOk, look, lookM, ev, evs, putT, argT, EA, EB, EC, ED, EE, EF, EG, EH, XA, XB, XC, XD, XE, XF, XG, XH, XI, XJ, XK, XL, XM, reduceIte, ↓reduceIte, Nat.reduceAdd, Nat.reduceLeDiff, Nat.reduceEqDiff, Nat.reduceLT, Nat.reduceSub, Nat.reduceBEq, forall_const, reduceCtorEq, implies_true, exists_eq_left', exists_eq_left, if_true, if_false, undef]⟩
    · have e2 : decide ((j : Int) < c[k]) = false := by simp; omega
      have : j = (c[k]).toNat := by omega
      subst this
      simp (maxSteps := 1000000) only [e2, hw, EA, EB, EC, ED, EE, EF, EG, EH, XA, XB, XC, XD, XE, XF, XG, XH, XI, XJ, XK, XL, XM, reduceIte, ↓reduceIte, Nat.reduceAdd, Nat.reduceLeDiff, Nat.reduceEqDiff, Nat.reduceLT, Nat.reduceSub, Nat.reduceBEq, forall_const, reduceCtorEq, implies_true, exists_eq_left', exists_eq_left, if_true, if_false, undef]
      exact ⟨k + 1, by omega, by omega, by simp [Back, BackF, fzT, fzM, fzU, fz, fzL, fzO, kin, SubT, Sub, SubL, SubM, SubO, keepM, srcOk, look, lookM, ev, evs, putT, argT, EA, EB, EC, ED, EE, EF, EG, EH, XA, XB, XC, XD, XE, XF, XG, XH, XI, XJ, XK, XL, XM, reduceIte, ↓reduceIte, Nat.reduceAdd, Nat.reduceLeDiff, Nat.reduceEqDiff, Nat.reduceLT, Nat.reduceSub, Nat.reduceBEq, forall_const, reduceCtorEq, implies_true, exists_eq_left', exists_eq_left, if_true, if_false, undef, facs_all h hk4]⟩
  · have e1 : decide ((k : Int) < (c.length : Int)) = false := by simp [h]
    have : k = c.length := by omega
    subst this
    simp (maxSteps := 1000000) only [e1, hll, EA, EB, EC, ED, EE, EF, EG, EH, XA, XB, XC, XD, XE, XF, XG, XH, XI, XJ, XK, XL, XM, reduceIte, ↓reduceIte, Nat.reduceAdd, Nat.reduceLeDiff, Nat.reduceEqDiff, Nat.reduceLT, Nat.reduceSub, Nat.reduceBEq, forall_const, reduceCtorEq, implies_true, exists_eq_left', exists_eq_left, if_true, if_false, undef]
    simp

/-- what is wrong with counters -/
def packErr (c : List Int) : Int := if ¬(1 ≤ (c.length : Int) ∧ (c.length : Int) ≤ 4) then 1 else if ¬(c.all fun x => decide (0 ≤ x ∧ x ≤ 4)) = true then 4 else 0
theorem packErr_ok {c : List Int} (h : packErr c = 0) : (1 ≤ c.length ∧ c.length ≤ 4) ∧ Ents 4 c := by
  simp only [packErr] at h
  split at h
  · cases h
  · split at h
    · cases h
    · rename_i h1 h2
      refine ⟨by omega, fun x hx => ?_⟩
      simp only [Decidable.not_not] at h2
      simpa using (List.all_eq_true.1 h2) x hx
def packAns (c : List Int) : AV := if packErr c = 0 then .tup [I (packed c : Nat), I 0] else .tup [I 0, I (packErr c)]

theorem pack_spec (c : List Int) (hc : (c.length : Int) < 2 ^ 63) : CallsA Tryd.prog 7 [.ro 1 (c.map I)] (packAns c) [] := by
  refine fn_of0 comp7 (by simp) ?_
  unfold code7
  have hll : ((c.map I).length : Int) = c.length := by simp
  simp (maxSteps := 1000000) only [EA, EB, EC, ED, EE, EF, EG, EH, XA, XB, XC, XD, XE, XF, XG, XH, XI, XJ, XK, XL, XM, reduceIte, ↓reduceIte, Nat.reduceAdd, Nat.reduceLeDiff, Nat.reduceEqDiff, Nat.reduceLT, Nat.reduceSub, Nat.reduceBEq, forall_const, reduceCtorEq, implies_true, exists_eq_left', exists_eq_left, if_true, if_false, undef]
  rw [hll]
  have hlen : (((c.length : Int) == 0) = true ∧ ¬(1 ≤ (c.length : Int) ∧ (c.length : Int) ≤ 4)) ∨ (((c.length : Int) == 0) = false ∧ decide ((c.length : Int) > 4) = true ∧ ¬(1 ≤ (c.length : Int) ∧ (c.length : Int) ≤ 4)) ∨ (((c.length : Int) == 0) = false ∧ decide ((c.length : Int) > 4) = false ∧ (1 ≤ (c.length : Int) ∧ (c.length : Int) ≤ 4)) := by
    simp only [decide_eq_true_eq, decide_eq_false_iff_not, beq_iff_eq, beq_eq_false_iff_ne]; omega
  rcases hlen with ⟨c1, q⟩ | ⟨c1, c2, q⟩ | ⟨c1, c2, q⟩
  · simp (maxSteps := 1000000) only [c1, hll, EA, EB, EC, ED, EE, EF, EG, EH, XA, XB, XC, XD, XE, XF, XG, XH, XI, XJ, XK, XL, XM, reduceIte, ↓reduceIte, Nat.reduceAdd, Nat.reduceLeDiff, Nat.reduceEqDiff, Nat.reduceLT, Nat.reduceSub, Nat.reduceBEq, forall_const, reduceCtorEq, implies_true, exists_eq_left', exists_eq_left, if_true, if_false, undef]
    have : packErr c = 1 := by rw [packErr, if_pos q]
    simp [packAns, this, EA, EB, EC, ED, EE, EF, EG, EH, XA, XB, XC, XD, XE, XF, XG, XH, XI, XJ, XK, XL, XM, reduceIte, ↓reduceIte, Nat.reduceAdd, Nat.reduceLeDiff, Nat.reduceEqDiff, Nat.reduceLT, Nat.reduceSub, Nat.reduceBEq, forall_const, reduceCtorEq, implies_true, exists_eq_left', exists_eq_left, if_true, if_false, undef]
  · simp (maxSteps := 1000000) only [c1, c2, hll, EA, EB, EC, ED, EE, EF, EG, EH, XA, XB, XC, XD, XE, XF, XG, XH, XI, XJ, XK, XL, XM, reduceIte, ↓reduceIte, Nat.reduceAdd, Nat.reduceLeDiff, Nat.reduceEqDiff, Nat.reduceLT, Nat.reduceSub, Nat.reduceBEq, forall_const, reduceCtorEq, implies_true, exists_eq_left', exists_eq_left, if_true, if_false, undef]
    have : packErr c = 1 := by rw [packErr, if_pos q]
    simp [packAns, this, EA, EB, EC, ED, EE, EF, EG, EH, XA, XB, XC, XD, XE, XF, XG, XH, XI, XJ, XK, XL, XM, reduceIte, ↓reduceIte, Nat.reduceAdd, Nat.reduceLeDiff, Nat.reduceEqDiff, Nat.reduceLT, Nat.reduceSub, Nat.reduceBEq, forall_const, reduceCtorEq, implies_true, exists_eq_left', exists_eq_left, if_true, if_false, undef]
  simp (maxSteps := 1000000) only [c1, c2, hll, EA, EB, EC, ED, EE, EF, EG, EH, XA, XB, XC, XD, XE, XF, XG, XH, XI, XJ, XK, XL, XM, reduceIte, ↓reduceIte, Nat.reduceAdd, Nat.reduceLeDiff, Nat.reduceEqDiff, Nat.reduceLT, Nat.reduceSub, Nat.reduceBEq, forall_const, reduceCtorEq, implies_true, exists_eq_left', exists_eq_left, if_true, if_false, undef]
  refine loop0 Nat [19] (fun k => [I k]) (fun k => k ≤ c.length ∧ (c.take k).all (fun x => decide (0 ≤ x ∧ x ≤ 4)) = true) (fun k => c.length - k) (by decide) 0 (by simp) (by simp [Back, BackF, fzT, fzM, fzU, fz, fzL, fzO, kin, SubT, Sub, SubL, SubM, SubO, keepM, srcOk, look, lookM, ev, evs, putT, argT, EA, EB, EC, ED, EE, EF, EG, EH, XA, XB, XC, XD, XE, XF, XG, XH, XI, XJ, XK, XL, XM, reduceIte, ↓reduceIte, Nat.reduceAdd, Nat.reduceLeDiff, Nat.reduceEqDiff, Nat.reduceLT, Nat.reduceSub, Nat.reduceBEq, forall_const, reduceCtorEq, implies_true, exists_eq_left', exists_eq_left, if_true, if_false, undef]) (fun k hk => ?_)
  obtain ⟨hk, hp⟩ := hk
  by_cases h : k < c.length
  · have e1 : decide ((k : Int) < (c.length : Int)) = true := by simp [h]
    have hw : IntKind.i64.wrap ((k : Int) + 1) = ((k + 1 : Nat) : Int) := by rw [wrap_id] <;> omega
    simp (maxSteps := 1000000) only [e1, hll, EA, EB, EC, ED, EE, EF, EG, EH, XA, XB, XC, XD, XE, XF, XG, XH, XI, XJ, XK, XL, XM, reduceIte, ↓reduceIte, Nat.reduceAdd, Nat.reduceLeDiff, Nat.reduceEqDiff, Nat.reduceLT, Nat.reduceSub, Nat.reduceBEq, forall_const, reduceCtorEq, implies_true, exists_eq_left', exists_eq_left, if_true, if_false, undef]
    refine ⟨by omega, pickM h ?_⟩
    simp (maxSteps := 1000000) only [EA, EB, EC, ED, EE, EF, EG, EH, XA, XB, XC, XD, XE, XF, XG, XH, XI, XJ, XK, XL, XM, reduceIte, ↓reduceIte, Nat.reduceAdd, Nat.reduceLeDiff, Nat.reduceEqDiff, Nat.reduceLT, Nat.reduceSub, Nat.reduceBEq, forall_const, reduceCtorEq, implies_true, exists_eq_left', exists_eq_left, if_true, if_false, undef]
    have bad : ¬(0 ≤ c[k] ∧ c[k] ≤ 4) → packErr c = 4 := fun hh => by
      rw [packErr, if_neg (by omega), if_pos]
      intro ha
      have := (List.all_eq_true.1 ha) c[k] (List.getElem_mem h)
      simp at this
      exact hh this
    have hx : (decide (c[k] < 0) = true ∧ ¬(0 ≤ c[k] ∧ c[k] ≤ 4)) ∨ (decide (c[k] < 0) = false ∧ decide (c[k] > 4) = true ∧ ¬(0 ≤ c[k] ∧ c[k] ≤ 4)) ∨ (decide (c[k] < 0) = false ∧ decide (c[k] > 4) = false ∧ (0 ≤ c[k] ∧ c[k] ≤ 4)) := by
      simp only [decide_eq_true_eq, decide_eq_false_iff_not]; omega
    rcases hx with ⟨x1, x⟩ | ⟨x1, x2, x⟩ | ⟨x1, x2, x⟩
    · simp (maxSteps := 1000000) only [x1, EA, EB, EC, ED, EE, EF, EG, EH, XA, XB, XC, XD, XE, XF, XG, XH, XI, XJ, XK, XL, XM, reduceIte, ↓reduceIte, Nat.reduceAdd, Nat.reduceLeDiff, Nat.reduceEqDiff, Nat.reduceLT, Nat.reduceSub, Nat.reduceBEq, forall_const, reduceCtorEq, implies_true, exists_eq_left', exists_eq_left, if_true, if_false, undef]
      simp [packAns, bad x, EA, EB, EC, ED, EE, EF, EG, EH, XA, XB, XC, XD, XE, XF, XG, XH, XI, XJ, XK, XL, XM, reduceIte, ↓reduceIte, Nat.reduceAdd, Nat.reduceLeDiff, Nat.reduceEqDiff, Nat.reduceLT, Nat.reduceSub, Nat.reduceBEq, forall_const, reduceCtorEq, implies_true, exists_eq_left', exists_eq_left, if_true, if_false, undef]
    · simp (maxSteps := 1000000) only [x1, x2, EA, EB, EC, ED, EE, EF, EG, EH, XA, XB, XC, XD, XE, XF, XG, XH, XI, XJ, XK, XL, XM, reduceIte, ↓reduceIte, Nat.reduceAdd, Nat.reduceLeDiff, Nat.reduceEqDiff, Nat.reduceLT, Nat.reduceSub, Nat.reduceBEq, forall_const, reduceCtorEq, implies_true, exists_eq_left', exists_eq_left, if_true, if_false, undef]
      simp [packAns, bad x, EA, EB, EC, ED, EE, EF, EG, EH, XA, XB, XC, XD, XE, XF, XG, XH, XI, XJ, XK, XL, XM, reduceIte, ↓reduceIte, Nat.reduceAdd, Nat.reduceLeDiff, Nat.reduceEqDiff, Nat.reduceLT, Nat.reduceSub, Nat.reduceBEq, forall_const, reduceCtorEq, implies_true, exists_eq_left', exists_eq_left, if_true, if_false, undef]
    · simp (maxSteps := 1000000) only [x1, x2, hw, EA, EB, EC, ED, EE, EF, EG, EH, XA, XB, XC, XD, XE, XF, XG, XH, XI, XJ, XK, XL, XM, reduceIte, ↓reduceIte, Nat.reduceAdd, Nat.reduceLeDiff, Nat.reduceEqDiff, Nat.reduceLT, Nat.reduceSub, Nat.reduceBEq, forall_const, reduceCtorEq, implies_true, exists_eq_left', exists_eq_left, if_true, if_false, undef]
      exact ⟨k + 1, ⟨by omega, all_take h hp (by simp [x])⟩, by omega, by simp [Back, BackF, fzT, fzM, fzU, fz, fzL, fzO, kin, SubT, Sub, SubL, SubM, SubO, keepM, srcOk, look, lookM, ev, evs, putT, argT, EA, EB, EC, ED, EE, EF, EG, EH, XA, XB, XC, XD, XE, XF, XG, XH, XI, XJ, XK, XL, XM, reduceIte, ↓reduceIte, Nat.reduceAdd, Nat.reduceLeDiff, Nat.reduceEqDiff, Nat.reduceLT, Nat.reduceSub, Nat.reduceBEq, forall_const, reduceCtorEq, implies_true, exists_eq_left', exists_eq_left, if_true, if_false, undef]⟩
  have e1 : decide ((k : Int) < (c.length : Int)) = false := by simp [h]
  have hkc : k = c.length := by omega
  subst hkc
  simp only [List.take_length] at hp
  have h0 : packErr c = 0 := by rw [packErr, if_neg (by omega), if_neg (by simpa using hp)]
  have hE := (packErr_ok h0).2
  have hb := packed4 hE
  simp (maxSteps := 1000000) only [e1, hll, EA, EB, EC, ED, EE, EF, EG, EH, XA, XB, XC, XD, XE, XF, XG, XH, XI, XJ, XK, XL, XM, reduceIte, ↓reduceIte, Nat.reduceAdd, Nat.reduceLeDiff, Nat.reduceEqDiff, Nat.reduceLT, Nat.reduceSub, Nat.reduceBEq, forall_const, reduceCtorEq, implies_true, exists_eq_left', exists_eq_left, if_true, if_false, undef]
  refine loop0 Nat [32, 6] (fun k => [I k, I (packed (c.take k) : Nat)]) (fun k => k ≤ c.length) (fun k => c.length - k) (by decide) 0 (by simp) (by simp [Back, BackF, fzT, fzM, fzU, fz, fzL, fzO, kin, SubT, Sub, SubL, SubM, SubO, keepM, srcOk, look, lookM, ev, evs, putT, argT, EA, EB, EC, ED, EE, EF, EG, EH, XA, XB, XC, XD, XE, XF, XG, XH, XI, XJ, XK, XL, XM, reduceIte, ↓reduceIte, Nat.reduceAdd, Nat.reduceLeDiff, Nat.reduceEqDiff, Nat.reduceLT, Nat.reduceSub, Nat.reduceBEq, forall_const, reduceCtorEq, implies_true, exists_eq_left', exists_eq_left, if_true, if_false, undef, packed, pk_nil]) (fun k hk => ?_)
  by_cases h : k < c.length
  · have e1 : decide ((k : Int) < (c.length : Int)) = true := by simp [h]
    have hk4 : k < prs.length := by simp [prs]; omega
    have hw : IntKind.i64.wrap ((k : Int) + 1) = ((k + 1 : Nat) : Int) := by rw [wrap_id] <;> omega
    simp (maxSteps := 1000000) only [e1, hll, EA, EB, EC, ED, EE, EF, EG, EH, XA, XB, XC, XD, XE, XF, XG, XH, XI, XJ, XK, XL, XM, reduceIte, ↓reduceIte, Nat.reduceAdd, Nat.reduceLeDiff, Nat.reduceEqDiff, Nat.reduceLT, Nat.reduceSub, Nat.reduceBEq, forall_const, reduceCtorEq, implies_true, exists_eq_left', exists_eq_left, if_true, if_false, undef]
    refine ⟨by omega, pickM h ?_⟩
    simp (maxSteps := 1000000) only [EA, EB, EC, ED, EE, EF, EG, EH, XA, XB, XC, XD, XE, XF, XG, XH, XI, XJ, XK, XL, XM, reduceIte, ↓reduceIte, Nat.reduceAdd, Nat.reduceLeDiff, Nat.reduceEqDiff, Nat.reduceLT, Nat.reduceSub, Nat.reduceBEq, forall_const, reduceCtorEq, implies_true, exists_eq_left', exists_eq_left, if_true, if_false, undef]
    refine loop0 Nat [38, 6] (fun j => [I j, I (facs c k j : Nat)]) (fun j => j ≤ (c[k]).toNat) (fun j => (c[k]).toNat - j) (by decide) 0 (by simp) (by simp [Back, BackF, fzT, fzM, fzU, fz, fzL, fzO, kin, SubT, Sub, SubL, SubM, SubO, keepM, srcOk, look, lookM, ev, evs, putT, argT, EA, EB, EC, ED, EE, EF, EG, EH, XA, XB, XC, XD, XE, XF, XG, XH, XI, XJ, XK, XL, XM, reduceIte, ↓reduceIte, Nat.reduceAdd, Nat.reduceLeDiff, Nat.reduceEqDiff, Nat.reduceLT, Nat.reduceSub, Nat.reduceBEq, forall_const, reduceCtorEq, implies_true, exists_eq_left', exists_eq_left, if_true, if_false, undef, facs_zero]) (fun j hj => ?_)
    have hck := hE c[k] (List.getElem_mem h)
    by_cases g : j < (c[k]).toNat
    · have e2 : decide ((j : Int) < c[k]) = true := by simp; omega
      have hw2 : IntKind.i64.wrap ((j : Int) + 1) = ((j + 1 : Nat) : Int) := by rw [wrap_id] <;> omega
      have hf := facs_le h hk4 (j := j + 1) (by omega)
      have hf' := facs_succ c k j
      have hw3 : IntKind.i64.wrap ((facs c k j : Int) * ((prs[k] : Nat) : Int)) = (facs c k (j + 1) : Nat) := by
        have hx : prs.getD k 1 = prs[k] := by simp [hk4]
        rw [hx] at hf'
        rw [← Int.natCast_mul, ← hf']
        rw [wrap_id] <;> omega
      simp (maxSteps := 1000000) only [e2, EA, EB, EC, ED, EE, EF, EG, EH, XA, XB, XC, XD, XE, XF, XG, XH, XI, XJ, XK, XL, XM, reduceIte, ↓reduceIte, Nat.reduceAdd, Nat.reduceLeDiff, Nat.reduceEqDiff, Nat.reduceLT, Nat.reduceSub, Nat.reduceBEq, forall_const, reduceCtorEq, implies_true, exists_eq_left', exists_eq_left, if_true, if_false, undef]
      refine ⟨by omega, by simp [prs] at hk4; omega, pickP hk4 (by simp) ?_⟩
      simp (maxSteps := 1000000) only [hw2, hw3, EA, EB, EC, ED, EE, EF, EG, EH, XA, XB, XC, XD, XE, XF, XG, XH, XI, XJ, XK, XL, XM, reduceIte, ↓reduceIte, Nat.reduceAdd, Nat.reduceLeDiff, Nat.reduceEqDiff, Nat.reduceLT, Nat.reduceSub, Nat.reduceBEq, forall_const, reduceCtorEq, implies_true, exists_eq_left', exists_eq_left, if_true, if_false, undef]
      exact ⟨j + 1, by omega, by omega, by simp [Back, BackF, fzT, fzM, fzU, fz, fzL, fzO, kin, SubT, Sub, SubL, SubM, SubO, keepM, srcOk, look, lookM, ev, evs, putT, argT, EA, EB, EC, ED, EE, EF, EG, EH, XA, XB, XC, XD, XE, XF, XG, XH, XI, XJ, XK, XL, XM, reduceIte, ↓reduceIte, Nat.reduceAdd, Nat.reduceLeDiff, Nat.reduceEqDiff, Nat.reduceLT, Nat.reduceSub, Nat.reduceBEq, forall_const, reduceCtorEq, implies_true, exists_eq_left', exists_eq_left, if_true, if_false, undef]⟩
    · have e2 : decide ((j : Int) < c[k]) = false := by simp; omega
      have : j = (c[k]).toNat := by omega
      subst this
      simp (maxSteps := 1000000) only [e2, hw, EA, EB, EC, ED, EE, EF, EG, EH, XA, XB, XC, XD, XE, XF, XG, XH, XI, XJ, XK, XL, XM, reduceIte, ↓reduceIte, Nat.reduceAdd, Nat.reduceLeDiff, Nat.reduceEqDiff, Nat.reduceLT, Nat.reduceSub, Nat.reduceBEq, forall_const, reduceCtorEq, implies_true, exists_eq_left', exists_eq_left, if_true, if_false, undef]
      exact ⟨k + 1, by omega, by omega, by simp [Back, BackF, fzT, fzM, fzU, fz, fzL, fzO, kin, SubT, Sub, SubL, SubM, SubO, keepM, srcOk, look, lookM, ev, evs, putT, argT, EA, EB, EC, ED, EE, EF, EG, EH, XA, XB, XC, XD, XE, XF, XG, XH, XI, XJ, XK, XL, XM, reduceIte, ↓reduceIte, Nat.reduceAdd, Nat.reduceLeDiff, Nat.reduceEqDiff, Nat.reduceLT, Nat.reduceSub, Nat.reduceBEq, forall_const, reduceCtorEq, implies_true, exists_eq_left', exists_eq_left, if_true, if_false, undef, facs_all h hk4]⟩
  · have e1 : decide ((k : Int) < (c.length : Int)) = false := by simp [h]
    have : k = c.length := by omega
    subst this
    simp (maxSteps := 1000000) only [e1, hll, EA, EB, EC, ED, EE, EF, EG, EH, XA, XB, XC, XD, XE, XF, XG, XH, XI, XJ, XK, XL, XM, reduceIte, ↓reduceIte, Nat.reduceAdd, Nat.reduceLeDiff, Nat.reduceEqDiff, Nat.reduceLT, Nat.reduceSub, Nat.reduceBEq, forall_const, reduceCtorEq, implies_true, exists_eq_left', exists_eq_left, if_true, if_false, undef]
    simp [packAns, h0, EA, EB, EC, ED, EE, EF, EG, EH, XA, XB, XC, XD, XE, XF, XG, XH, XI, XJ, XK, XL, XM, reduceIte, ↓reduceIte, Nat.reduceAdd, Nat.reduceLeDiff, Nat.reduceEqDiff, Nat.reduceLT, Nat.reduceSub, Nat.reduceBEq, forall_const, reduceCtorEq, implies_true, exists_eq_left', exists_eq_left, if_true, if_false, undef]

