/- The encoding of counters: the functions. -/
import Derived.Test.YtanmgfcgoffahaaDoorHas
import Derived.Test.YtanmgfcgoffahaaDoorTwoM
set_option linter.unusedSimpArgs false
set_option linter.unusedVariables false
set_option maxRecDepth 100000
namespace Go.Av
open Go.Proofs

theorem pickA' {α : Type} {l : List α} {f : α → AV} {i : Nat} {K : AV → Prop} {x : α} (h : l[i]? = some x) (hK : K (f x)) : Pick (l.map f) i K := ⟨f x, by simp [h], hK⟩
theorem pickP {k i : Nat} {K : AV → Prop} (h : k < prs.length) (hi : i = k) (hK : K (I (prs[k] : Nat))) : Pick [.v (.int .i64 2), .v (.int .i64 3), .v (.int .i64 5), .v (.int .i64 7)] i K := by
  subst hi
  match i, h, hK with
  | 0, _, hK => exact ⟨_, rfl, hK⟩
  | 1, _, hK => exact ⟨_, rfl, hK⟩
  | 2, _, hK => exact ⟨_, rfl, hK⟩
  | 3, _, hK => exact ⟨_, rfl, hK⟩

theorem prs_two {k : Nat} (h : k < prs.length) : 2 ≤ prs[k] := by
  have : ∀ p ∈ prs, 2 ≤ p := by decide
  exact this _ (List.getElem_mem h)

theorem packed_entry {c : List Int} {k : Nat} (hk : k < c.length) (h4 : k < prs.length) : c[k] < packed c := by
  have h1 := packed_part hk h4 (Nat.le_refl (c[k]).toNat)
  have h2 : (c[k]).toNat < 2 ^ (c[k]).toNat := Nat.lt_two_pow_self
  have h3 : 2 ^ (c[k]).toNat ≤ prs[k] ^ (c[k]).toNat := Nat.pow_le_pow_left (prs_two h4) _
  have h5 : prs[k] ^ (c[k]).toNat ≤ packed (c.take k) * prs[k] ^ (c[k]).toNat := Nat.le_mul_of_pos_left _ (packed_pos _)
  omega

/-- the loop over one counter: a number, and how often it has been multiplied -/
def facs (c : List Int) (k j : Nat) : Nat := packed (c.take k) * (prs.getD k 1) ^ j
theorem facs_zero (c : List Int) (k : Nat) : facs c k 0 = packed (c.take k) := by simp [facs]
theorem facs_succ (c : List Int) (k j : Nat) : facs c k (j + 1) = facs c k j * prs.getD k 1 := by rw [facs, facs, Nat.pow_succ, Nat.mul_assoc]
theorem facs_le {c : List Int} {k j : Nat} (hk : k < c.length) (h4 : k < prs.length) (hj : j ≤ (c[k]).toNat) : facs c k j ≤ packed c := by
  have := packed_part hk h4 hj
  simpa [facs, h4] using this
theorem facs_all {c : List Int} {k : Nat} (hk : k < c.length) (h4 : k < prs.length) : facs c k (c[k]).toNat = packed (c.take (k + 1)) := by
  rw [packed_step hk h4]; simp [facs, h4]

theorem packed_spec (c : List Int) (h4 : c.length ≤ 4) (hp : packed c < 2 ^ 63) : CallsA Tryd.prog 10 [.ro 1 (c.map I)] (I (packed c : Nat)) [] := by
  refine fn_of0 comp10 (by simp) ?_
  unfold code10
  simp (maxSteps := 1000000) only [EA, EB, EC, ED, EE, EF, EG, XA, XB, XC, XD, XE, XF, XG, XH, XI, XJ, XK, XL, reduceIte, ↓reduceIte, Nat.reduceAdd, Nat.reduceLeDiff, Nat.reduceEqDiff, Nat.reduceLT, Nat.reduceSub, Nat.reduceBEq, forall_const, reduceCtorEq, implies_true, exists_eq_left', exists_eq_left, if_true, if_false, undef]
  refine loop0 Nat [9, 3] (fun k => [I k, I (packed (c.take k) : Nat)]) (fun k => k ≤ c.length) (fun k => c.length - k) (by decide) 0 (by simp) (by simp [Back, SubT, Sub, SubL, SubM, SubO, keepM, srcOk, look, lookM, ev, evs, putT, argT, EA, EB, EC, ED, EE, EF, EG, XA, XB, XC, XD, XE, XF, XG, XH, XI, XJ, XK, XL, reduceIte, ↓reduceIte, Nat.reduceAdd, Nat.reduceLeDiff, Nat.reduceEqDiff, Nat.reduceLT, Nat.reduceSub, Nat.reduceBEq, forall_const, reduceCtorEq, implies_true, exists_eq_left', exists_eq_left, if_true, if_false, undef, packed, pk_nil]) (fun k hk => ?_)
  have hll : ((c.map I).length : Int) = c.length := by simp
  by_cases h : k < c.length
  · have e1 : decide ((k : Int) < (c.length : Int)) = true := by simp [h]
    have hk4 : k < prs.length := by simp [prs]; omega
    have hw : IntKind.i64.wrap ((k : Int) + 1) = ((k + 1 : Nat) : Int) := by rw [wrap_id] <;> omega
    simp (maxSteps := 1000000) only [e1, hll, EA, EB, EC, ED, EE, EF, EG, XA, XB, XC, XD, XE, XF, XG, XH, XI, XJ, XK, XL, reduceIte, ↓reduceIte, Nat.reduceAdd, Nat.reduceLeDiff, Nat.reduceEqDiff, Nat.reduceLT, Nat.reduceSub, Nat.reduceBEq, forall_const, reduceCtorEq, implies_true, exists_eq_left', exists_eq_left, if_true, if_false, undef]
    refine ⟨by omega, pickM h ?_⟩
    simp (maxSteps := 1000000) only [EA, EB, EC, ED, EE, EF, EG, XA, XB, XC, XD, XE, XF, XG, XH, XI, XJ, XK, XL, reduceIte, ↓reduceIte, Nat.reduceAdd, Nat.reduceLeDiff, Nat.reduceEqDiff, Nat.reduceLT, Nat.reduceSub, Nat.reduceBEq, forall_const, reduceCtorEq, implies_true, exists_eq_left', exists_eq_left, if_true, if_false, undef]
    refine loop0 Nat [6, 3] (fun j => [I j, I (facs c k j : Nat)]) (fun j => j ≤ (c[k]).toNat) (fun j => (c[k]).toNat - j) (by decide) 0 (by simp) (by simp [Back, SubT, Sub, SubL, SubM, SubO, keepM, srcOk, look, lookM, ev, evs, putT, argT, EA, EB, EC, ED, EE, EF, EG, XA, XB, XC, XD, XE, XF, XG, XH, XI, XJ, XK, XL, reduceIte, ↓reduceIte, Nat.reduceAdd, Nat.reduceLeDiff, Nat.reduceEqDiff, Nat.reduceLT, Nat.reduceSub, Nat.reduceBEq, forall_const, reduceCtorEq, implies_true, exists_eq_left', exists_eq_left, if_true, if_false, undef, facs_zero]) (fun j hj => ?_)
    by_cases g : j < (c[k]).toNat
    · have e2 : decide ((j : Int) < c[k]) = true := by simp; omega
      have hc := packed_entry h hk4
      have hw2 : IntKind.i64.wrap ((j : Int) + 1) = ((j + 1 : Nat) : Int) := by rw [wrap_id] <;> omega
      have hf := facs_le h hk4 (j := j + 1) (by omega)
      have hf' := facs_succ c k j
      have hw3 : IntKind.i64.wrap ((facs c k j : Int) * ((prs[k] : Nat) : Int)) = (facs c k (j + 1) : Nat) := by
        have hx : prs.getD k 1 = prs[k] := by simp [hk4]
        rw [hx] at hf'
        rw [← Int.natCast_mul, ← hf']
        rw [wrap_id] <;> omega
      simp (maxSteps := 1000000) only [e2, EA, EB, EC, ED, EE, EF, EG, XA, XB, XC, XD, XE, XF, XG, XH, XI, XJ, XK, XL, reduceIte, ↓reduceIte, Nat.reduceAdd, Nat.reduceLeDiff, Nat.reduceEqDiff, Nat.reduceLT, Nat.reduceSub, Nat.reduceBEq, forall_const, reduceCtorEq, implies_true, exists_eq_left', exists_eq_left, if_true, if_false, undef]
      refine ⟨by omega, by simp [prs] at hk4; omega, pickP hk4 (by simp) ?_⟩
      simp (maxSteps := 1000000) only [hw2, hw3, EA, EB, EC, ED, EE, EF, EG, XA, XB, XC, XD, XE, XF, XG, XH, XI, XJ, XK, XL, reduceIte, ↓reduceIte, Nat.reduceAdd, Nat.reduceLeDiff, Nat.reduceEqDiff, Nat.reduceLT, Nat.reduceSub, Nat.reduceBEq, forall_const, reduceCtorEq, implies_true, exists_eq_left', exists_eq_left, if_true, if_false, undef]
      exact ⟨j + 1, by omega, by omega, by simp [Back, SubT, Sub, SubL, SubM, SubO, keepM, srcOk, look, lookM, ev, evs, putT, argT, EA, EB, EC, ED, EE, EF, EG, XA, XB, XC, XD, XE, XF, XG, XH, XI, XJ, XK, XL, reduceIte, ↓reduceIte, Nat.reduceAdd, Nat.reduceLeDiff, Nat.reduceEqDiff, Nat.reduceLT, Nat.reduceSub, Nat.reduceBEq, forall_const, reduceCtorEq, implies_true, exists_eq_left', exists_eq_left, if_true, if_false, undef]⟩
    · have e2 : decide ((j : Int) < c[k]) = false := by simp; omega
      have : j = (c[k]).toNat := by omega
      subst this
      simp (maxSteps := 1000000) only [e2, hw, EA, EB, EC, ED, EE, EF, EG, XA, XB, XC, XD, XE, XF, XG, XH, XI, XJ, XK, XL, reduceIte, ↓reduceIte, Nat.reduceAdd, Nat.reduceLeDiff, Nat.reduceEqDiff, Nat.reduceLT, Nat.reduceSub, Nat.reduceBEq, forall_const, reduceCtorEq, implies_true, exists_eq_left', exists_eq_left, if_true, if_false, undef]
      exact ⟨k + 1, by omega, by omega, by simp [Back, SubT, Sub, SubL, SubM, SubO, keepM, srcOk, look, lookM, ev, evs, putT, argT, EA, EB, EC, ED, EE, EF, EG, XA, XB, XC, XD, XE, XF, XG, XH, XI, XJ, XK, XL, reduceIte, ↓reduceIte, Nat.reduceAdd, Nat.reduceLeDiff, Nat.reduceEqDiff, Nat.reduceLT, Nat.reduceSub, Nat.reduceBEq, forall_const, reduceCtorEq, implies_true, exists_eq_left', exists_eq_left, if_true, if_false, undef, facs_all h hk4]⟩
  · have e1 : decide ((k : Int) < (c.length : Int)) = false := by simp [h]
    have : k = c.length := by omega
    subst this
    simp (maxSteps := 1000000) only [e1, hll, EA, EB, EC, ED, EE, EF, EG, XA, XB, XC, XD, XE, XF, XG, XH, XI, XJ, XK, XL, reduceIte, ↓reduceIte, Nat.reduceAdd, Nat.reduceLeDiff, Nat.reduceEqDiff, Nat.reduceLT, Nat.reduceSub, Nat.reduceBEq, forall_const, reduceCtorEq, implies_true, exists_eq_left', exists_eq_left, if_true, if_false, undef]
    simp

/-- what is wrong with counters -/
def packErr (c : List Int) : Int := if ¬(1 ≤ (c.length : Int) ∧ (c.length : Int) ≤ 4) then 1 else if ¬(c.all fun x => decide (0 ≤ x ∧ x ≤ 4)) = true then 4 else 0
theorem packErr_ok {c : List Int} (h : packErr c = 0) : (1 ≤ c.length ∧ c.length ≤ 4) ∧ Ents 4 c := by
  simp only [packErr] at h
  split at h
  · cases h
  · split at h
    · cases h
    · rename_i h1 h2
      refine ⟨by omega, fun x hx => ?_⟩
      simp only [Decidable.not_not] at h2
      simpa using (List.all_eq_true.1 h2) x hx
def packAns (c : List Int) : AV := if packErr c = 0 then .tup [I (packed c : Nat), I 0] else .tup [I 0, I (packErr c)]

theorem pack_spec (c : List Int) (hc : (c.length : Int) < 2 ^ 63) : CallsA Tryd.prog 8 [.ro 1 (c.map I)] (packAns c) [] := by
  refine fn_of0 comp8 (by simp) ?_
  unfold code8
  have hll : ((c.map I).length : Int) = c.length := by simp
  simp (maxSteps := 1000000) only [EA, EB, EC, ED, EE, EF, EG, XA, XB, XC, XD, XE, XF, XG, XH, XI, XJ, XK, XL, reduceIte, ↓reduceIte, Nat.reduceAdd, Nat.reduceLeDiff, Nat.reduceEqDiff, Nat.reduceLT, Nat.reduceSub, Nat.reduceBEq, forall_const, reduceCtorEq, implies_true, exists_eq_left', exists_eq_left, if_true, if_false, undef]
  rw [hll]
  have hlen : (((c.length : Int) == 0) = true ∧ ¬(1 ≤ (c.length : Int) ∧ (c.length : Int) ≤ 4)) ∨ (((c.length : Int) == 0) = false ∧ decide ((c.length : Int) > 4) = true ∧ ¬(1 ≤ (c.length : Int) ∧ (c.length : Int) ≤ 4)) ∨ (((c.length : Int) == 0) = false ∧ decide ((c.length : Int) > 4) = false ∧ (1 ≤ (c.length : Int) ∧ (c.length : Int) ≤ 4)) := by
    simp only [decide_eq_true_eq, decide_eq_false_iff_not, beq_iff_eq, beq_eq_false_iff_ne]; omega
  rcases hlen with ⟨c1, q⟩ | ⟨c1, c2, q⟩ | ⟨c1, c2, q⟩
  · simp (maxSteps := 1000000) only [c1, hll, EA, EB, EC, ED, EE, EF, EG, XA, XB, XC, XD, XE, XF, XG, XH, XI, XJ, XK, XL, reduceIte, ↓reduceIte, Nat.reduceAdd, Nat.reduceLeDiff, Nat.reduceEqDiff, Nat.reduceLT, Nat.reduceSub, Nat.reduceBEq, forall_const, reduceCtorEq, implies_true, exists_eq_left', exists_eq_left, if_true, if_false, undef]
    have : packErr c = 1 := by rw [packErr, if_pos q]
    simp [packAns, this, EA, EB, EC, ED, EE, EF, EG, XA, XB, XC, XD, XE, XF, XG, XH, XI, XJ, XK, XL, reduceIte, ↓reduceIte, Nat.reduceAdd, Nat.reduceLeDiff, Nat.reduceEqDiff, Nat.reduceLT, Nat.reduceSub, Nat.reduceBEq, forall_const, reduceCtorEq, implies_true, exists_eq_left', exists_eq_left, if_true, if_false, undef]
  · simp (maxSteps := 1000000) only [c1, c2, hll, EA, EB, EC, ED, EE, EF, EG, XA, XB, XC, XD, XE, XF, XG, XH, XI, XJ, XK, XL, reduceIte, ↓reduceIte, Nat.reduceAdd, Nat.reduceLeDiff, Nat.reduceEqDiff, Nat.reduceLT, Nat.reduceSub, Nat.reduceBEq, forall_const, reduceCtorEq, implies_true, exists_eq_left', exists_eq_left, if_true, if_false, undef]
    have : packErr c = 1 := by rw [packErr, if_pos q]
    simp [packAns, this, EA, EB, EC, ED, EE, EF, EG, XA, XB, XC, XD, XE, XF, XG, XH, XI, XJ, XK, XL, reduceIte, ↓reduceIte, Nat.reduceAdd, Nat.reduceLeDiff, Nat.reduceEqDiff, Nat.reduceLT, Nat.reduceSub, Nat.reduceBEq, forall_const, reduceCtorEq, implies_true, exists_eq_left', exists_eq_left, if_true, if_false, undef]
  simp (maxSteps := 1000000) only [c1, c2, hll, EA, EB, EC, ED, EE, EF, EG, XA, XB, XC, XD, XE, XF, XG, XH, XI, XJ, XK, XL, reduceIte, ↓reduceIte, Nat.reduceAdd, Nat.reduceLeDiff, Nat.reduceEqDiff, Nat.reduceLT, Nat.reduceSub, Nat.reduceBEq, forall_const, reduceCtorEq, implies_true, exists_eq_left', exists_eq_left, if_true, if_false, undef]
  refine loop0 Nat [19] (fun k => [I k]) (fun k => k ≤ c.length ∧ (c.take k).all (fun x => decide (0 ≤ x ∧ x ≤ 4)) = true) (fun k => c.length - k) (by decide) 0 (by simp) (by simp [Back, SubT, Sub, SubL, SubM, SubO, keepM, srcOk, look, lookM, ev, evs, putT, argT, EA, EB, EC, ED, EE, EF, EG, XA, XB, XC, XD, XE, XF, XG, XH, XI, XJ, XK, XL, reduceIte, ↓reduceIte, Nat.reduceAdd, Nat.reduceLeDiff, Nat.reduceEqDiff, Nat.reduceLT, Nat.reduceSub, Nat.reduceBEq, forall_const, reduceCtorEq, implies_true, exists_eq_left', exists_eq_left, if_true, if_false, undef]) (fun k hk => ?_)
  obtain ⟨hk, hp⟩ := hk
  by_cases h : k < c.length
  · have e1 : decide ((k : Int) < (c.length : Int)) = true := by simp [h]
    have hw : IntKind.i64.wrap ((k : Int) + 1) = ((k + 1 : Nat) : Int) := by rw [wrap_id] <;> omega
    simp (maxSteps := 1000000) only [e1, hll, EA, EB, EC, ED, EE, EF, EG, XA, XB, XC, XD, XE, XF, XG, XH, XI, XJ, XK, XL, reduceIte, ↓reduceIte, Nat.reduceAdd, Nat.reduceLeDiff, Nat.reduceEqDiff, Nat.reduceLT, Nat.reduceSub, Nat.reduceBEq, forall_const, reduceCtorEq, implies_true, exists_eq_left', exists_eq_left, if_true, if_false, undef]
    refine ⟨by omega, pickM h ?_⟩
    simp (maxSteps := 1000000) only [EA, EB, EC, ED, EE, EF, EG, XA, XB, XC, XD, XE, XF, XG, XH, XI, XJ, XK, XL, reduceIte, ↓reduceIte, Nat.reduceAdd, Nat.reduceLeDiff, Nat.reduceEqDiff, Nat.reduceLT, Nat.reduceSub, Nat.reduceBEq, forall_const, reduceCtorEq, implies_true, exists_eq_left', exists_eq_left, if_true, if_false, undef]
    have bad : ¬(0 ≤ c[k] ∧ c[k] ≤ 4) → packErr c = 4 := fun hh => by
      rw [packErr, if_neg (by omega), if_pos]
      intro ha
      have := (List.all_eq_true.1 ha) c[k] (List.getElem_mem h)
      simp at this
      exact hh this
    have hx : (decide (c[k] < 0) = true ∧ ¬(0 ≤ c[k] ∧ c[k] ≤ 4)) ∨ (decide (c[k] < 0) = false ∧ decide (c[k] > 4) = true ∧ ¬(0 ≤ c[k] ∧ c[k] ≤ 4)) ∨ (decide (c[k] < 0) = false ∧ decide (c[k] > 4) = false ∧ (0 ≤ c[k] ∧ c[k] ≤ 4)) := by
      simp only [decide_eq_true_eq, decide_eq_false_iff_not]; omega
    rcases hx with ⟨x1, x⟩ | ⟨x1, x2, x⟩ | ⟨x1, x2, x⟩
    · simp (maxSteps := 1000000) only [x1, EA, EB, EC, ED, EE, EF, EG, XA, XB, XC, XD, XE, XF, XG, XH, XI, XJ, XK, XL, reduceIte, ↓reduceIte, Nat.reduceAdd, Nat.reduceLeDiff, Nat.reduceEqDiff, Nat.reduceLT, Nat.reduceSub, Nat.reduceBEq, forall_const, reduceCtorEq, implies_true, exists_eq_left', exists_eq_left, if_true, if_false, undef]
      simp [packAns, bad x, EA, EB, EC, ED, EE, EF, EG, XA, XB, XC, XD, XE, XF, XG, XH, XI, XJ, XK, XL, reduceIte, ↓reduceIte, Nat.reduceAdd, Nat.reduceLeDiff, Nat.reduceEqDiff, Nat.reduceLT, Nat.reduceSub, Nat.reduceBEq, forall_const, reduceCtorEq, implies_true, exists_eq_left', exists_eq_left, if_true, if_false, undef]
    · simp (maxSteps := 1000000) only [x1, x2, EA, EB, EC, ED, EE, EF, EG, XA, XB, XC, XD, XE, XF, XG, XH, XI, XJ, XK, XL, reduceIte, ↓reduceIte, Nat.reduceAdd, Nat.reduceLeDiff, Nat.reduceEqDiff, Nat.reduceLT, Nat.reduceSub, Nat.reduceBEq, forall_const, reduceCtorEq, implies_true, exists_eq_left', exists_eq_left, if_true, if_false, undef]
      simp [packAns, bad x, EA, EB, EC, ED, EE, EF, EG, XA, XB, XC, XD, XE, XF, XG, XH, XI, XJ, XK, XL, reduceIte, ↓reduceIte, Nat.reduceAdd, Nat.reduceLeDiff, Nat.reduceEqDiff, Nat.reduceLT, Nat.reduceSub, Nat.reduceBEq, forall_const, reduceCtorEq, implies_true, exists_eq_left', exists_eq_left, if_true, if_false, undef]
    · simp (maxSteps := 1000000) only [x1, x2, hw, EA, EB, EC, ED, EE, EF, EG, XA, XB, XC, XD, XE, XF, XG, XH, XI, XJ, XK, XL, reduceIte, ↓reduceIte, Nat.reduceAdd, Nat.reduceLeDiff, Nat.reduceEqDiff, Nat.reduceLT, Nat.reduceSub, Nat.reduceBEq, forall_const, reduceCtorEq, implies_true, exists_eq_left', exists_eq_left, if_true, if_false, undef]
      exact ⟨k + 1, ⟨by omega, all_take h hp (by simp [x])⟩, by omega, by simp [Back, SubT, Sub, SubL, SubM, SubO, keepM, srcOk, look, lookM, ev, evs, putT, argT, EA, EB, EC, ED, EE, EF, EG, XA, XB, XC, XD, XE, XF, XG, XH, XI, XJ, XK, XL, reduceIte, ↓reduceIte, Nat.reduceAdd, Nat.reduceLeDiff, Nat.reduceEqDiff, Nat.reduceLT, Nat.reduceSub, Nat.reduceBEq, forall_const, reduceCtorEq, implies_true, exists_eq_left', exists_eq_left, if_true, if_false, undef]⟩
  have e1 : decide ((k : Int) < (c.length : Int)) = false := by simp [h]
  have hkc : k = c.length := by omega
  subst hkc
  simp only [List.take_length] at hp
  have h0 : packErr c = 0 := by rw [packErr, if_neg (by omega), if_neg (by simpa using hp)]
  have hE := (packErr_ok h0).2
  have hb := packed4 hE
  simp (maxSteps := 1000000) only [e1, hll, EA, EB, EC, ED, EE, EF, EG, XA, XB, XC, XD, XE, XF, XG, XH, XI, XJ, XK, XL, reduceIte, ↓reduceIte, Nat.reduceAdd, Nat.reduceLeDiff, Nat.reduceEqDiff, Nat.reduceLT, Nat.reduceSub, Nat.reduceBEq, forall_const, reduceCtorEq, implies_true, exists_eq_left', exists_eq_left, if_true, if_false, undef]
  refine loop0 Nat [32, 6] (fun k => [I k, I (packed (c.take k) : Nat)]) (fun k => k ≤ c.length) (fun k => c.length - k) (by decide) 0 (by simp) (by simp [Back, SubT, Sub, SubL, SubM, SubO, keepM, srcOk, look, lookM, ev, evs, putT, argT, EA, EB, EC, ED, EE, EF, EG, XA, XB, XC, XD, XE, XF, XG, XH, XI, XJ, XK, XL, reduceIte, ↓reduceIte, Nat.reduceAdd, Nat.reduceLeDiff, Nat.reduceEqDiff, Nat.reduceLT, Nat.reduceSub, Nat.reduceBEq, forall_const, reduceCtorEq, implies_true, exists_eq_left', exists_eq_left, if_true, if_false, undef, packed, pk_nil]) (fun k hk => ?_)
  by_cases h : k < c.length
  · have e1 : decide ((k : Int) < (c.length : Int)) = true := by simp [h]
    have hk4 : k < prs.length := by simp [prs]; omega
    have hw : IntKind.i64.wrap ((k : Int) + 1) = ((k + 1 : Nat) : Int) := by rw [wrap_id] <;> omega
    simp (maxSteps := 1000000) only [e1, hll, EA, EB, EC, ED, EE, EF, EG, XA, XB, XC, XD, XE, XF, XG, XH, XI, XJ, XK, XL, reduceIte, ↓reduceIte, Nat.reduceAdd, Nat.reduceLeDiff, Nat.reduceEqDiff, Nat.reduceLT, Nat.reduceSub, Nat.reduceBEq, forall_const, reduceCtorEq, implies_true, exists_eq_left', exists_eq_left, if_true, if_false, undef]
    refine ⟨by omega, pickM h ?_⟩
    simp (maxSteps := 1000000) only [EA, EB, EC, ED, EE, EF, EG, XA, XB, XC, XD, XE, XF, XG, XH, XI, XJ, XK, XL, reduceIte, ↓reduceIte, Nat.reduceAdd, Nat.reduceLeDiff, Nat.reduceEqDiff, Nat.reduceLT, Nat.reduceSub, Nat.reduceBEq, forall_const, reduceCtorEq, implies_true, exists_eq_left', exists_eq_left, if_true, if_false, undef]
    refine loop0 Nat [38, 6] (fun j => [I j, I (facs c k j : Nat)]) (fun j => j ≤ (c[k]).toNat) (fun j => (c[k]).toNat - j) (by decide) 0 (by simp) (by simp [Back, SubT, Sub, SubL, SubM, SubO, keepM, srcOk, look, lookM, ev, evs, putT, argT, EA, EB, EC, ED, EE, EF, EG, XA, XB, XC, XD, XE, XF, XG, XH, XI, XJ, XK, XL, reduceIte, ↓reduceIte, Nat.reduceAdd, Nat.reduceLeDiff, Nat.reduceEqDiff, Nat.reduceLT, Nat.reduceSub, Nat.reduceBEq, forall_const, reduceCtorEq, implies_true, exists_eq_left', exists_eq_left, if_true, if_false, undef, facs_zero]) (fun j hj => ?_)
    have hck := hE c[k] (List.getElem_mem h)
    by_cases g : j < (c[k]).toNat
    · have e2 : decide ((j : Int) < c[k]) = true := by simp; omega
      have hw2 : IntKind.i64.wrap ((j : Int) + 1) = ((j + 1 : Nat) : Int) := by rw [wrap_id] <;> omega
      have hf := facs_le h hk4 (j := j + 1) (by omega)
      have hf' := facs_succ c k j
      have hw3 : IntKind.i64.wrap ((facs c k j : Int) * ((prs[k] : Nat) : Int)) = (facs c k (j + 1) : Nat) := by
        have hx : prs.getD k 1 = prs[k] := by simp [hk4]
        rw [hx] at hf'
        rw [← Int.natCast_mul, ← hf']
        rw [wrap_id] <;> omega
      simp (maxSteps := 1000000) only [e2, EA, EB, EC, ED, EE, EF, EG, XA, XB, XC, XD, XE, XF, XG, XH, XI, XJ, XK, XL, reduceIte, ↓reduceIte, Nat.reduceAdd, Nat.reduceLeDiff, Nat.reduceEqDiff, Nat.reduceLT, Nat.reduceSub, Nat.reduceBEq, forall_const, reduceCtorEq, implies_true, exists_eq_left', exists_eq_left, if_true, if_false, undef]
      refine ⟨by omega, by simp [prs] at hk4; omega, pickP hk4 (by simp) ?_⟩
      simp (maxSteps := 1000000) only [hw2, hw3, EA, EB, EC, ED, EE, EF, EG, XA, XB, XC, XD, XE, XF, XG, XH, XI, XJ, XK, XL, reduceIte, ↓reduceIte, Nat.reduceAdd, Nat.reduceLeDiff, Nat.reduceEqDiff, Nat.reduceLT, Nat.reduceSub, Nat.reduceBEq, forall_const, reduceCtorEq, implies_true, exists_eq_left', exists_eq_left, if_true, if_false, undef]
      exact ⟨j + 1, by omega, by omega, by simp [Back, SubT, Sub, SubL, SubM, SubO, keepM, srcOk, look, lookM, ev, evs, putT, argT, EA, EB, EC, ED, EE, EF, EG, XA, XB, XC, XD, XE, XF, XG, XH, XI, XJ, XK, XL, reduceIte, ↓reduceIte, Nat.reduceAdd, Nat.reduceLeDiff, Nat.reduceEqDiff, Nat.reduceLT, Nat.reduceSub, Nat.reduceBEq, forall_const, reduceCtorEq, implies_true, exists_eq_left', exists_eq_left, if_true, if_false, undef]⟩
    · have e2 : decide ((j : Int) < c[k]) = false := by simp; omega
      have : j = (c[k]).toNat := by omega
      subst this
      simp (maxSteps := 1000000) only [e2, hw, EA, EB, EC, ED, EE, EF, EG, XA, XB, XC, XD, XE, XF, XG, XH, XI, XJ, XK, XL, reduceIte, ↓reduceIte, Nat.reduceAdd, Nat.reduceLeDiff, Nat.reduceEqDiff, Nat.reduceLT, Nat.reduceSub, Nat.reduceBEq, forall_const, reduceCtorEq, implies_true, exists_eq_left', exists_eq_left, if_true, if_false, undef]
      exact ⟨k + 1, by omega, by omega, by simp [Back, SubT, Sub, SubL, SubM, SubO, keepM, srcOk, look, lookM, ev, evs, putT, argT, EA, EB, EC, ED, EE, EF, EG, XA, XB, XC, XD, XE, XF, XG, XH, XI, XJ, XK, XL, reduceIte, ↓reduceIte, Nat.reduceAdd, Nat.reduceLeDiff, Nat.reduceEqDiff, Nat.reduceLT, Nat.reduceSub, Nat.reduceBEq, forall_const, reduceCtorEq, implies_true, exists_eq_left', exists_eq_left, if_true, if_false, undef, facs_all h hk4]⟩
  · have e1 : decide ((k : Int) < (c.length : Int)) = false := by simp [h]
    have : k = c.length := by omega
    subst this
    simp (maxSteps := 1000000) only [e1, hll, EA, EB, EC, ED, EE, EF, EG, XA, XB, XC, XD, XE, XF, XG, XH, XI, XJ, XK, XL, reduceIte, ↓reduceIte, Nat.reduceAdd, Nat.reduceLeDiff, Nat.reduceEqDiff, Nat.reduceLT, Nat.reduceSub, Nat.reduceBEq, forall_const, reduceCtorEq, implies_true, exists_eq_left', exists_eq_left, if_true, if_false, undef]
    simp [packAns, h0, EA, EB, EC, ED, EE, EF, EG, XA, XB, XC, XD, XE, XF, XG, XH, XI, XJ, XK, XL, reduceIte, ↓reduceIte, Nat.reduceAdd, Nat.reduceLeDiff, Nat.reduceEqDiff, Nat.reduceLT, Nat.reduceSub, Nat.reduceBEq, forall_const, reduceCtorEq, implies_true, exists_eq_left', exists_eq_left, if_true, if_false, undef]

theorem two_prs : ∀ p ∈ prs, 1 < p := by decide
theorem two_cut (k : Nat) : ∀ p ∈ prs.take k, 1 < p := fun p hp => two_prs p (List.mem_of_mem_take hp)

def openErr (counters n : Int) : Int := if ¬(1 ≤ counters ∧ counters ≤ 4) then 1 else if n < 1 then 4 else if (opn (prs.take counters.toNat) n.toNat).2 ≠ 1 then 5 else 0
def openAns (counters n : Int) : AV := if openErr counters n = 0 then .tup [.ro 1 ((opn (prs.take counters.toNat) n.toNat).1.map fun x => I (x : Nat)), I 0] else .tup [.ro 1 [], I (openErr counters n)]

/-- the list at the head of the loop over the counters -/
def opl (k n : Nat) (i e : Nat) : List Int := ((opn (prs.take i) n).1.map Int.ofNat) ++ (e : Int) :: List.replicate (k - i - 1) 0
theorem opl_length {k n i e : Nat} (h : i < k) (h4 : k ≤ 4) : (opl k n i e).length = k := by
  simp [opl, opn_length, prs]; omega
theorem opl_get {k n i e : Nat} (h : i < k) (h4 : k ≤ 4) : (opl k n i e)[i]? = some (e : Int) := by
  have : ((opn (prs.take i) n).1.map Int.ofNat).length = i := by simp [opn_length, prs]; omega
  rw [opl, List.getElem?_append_right (by omega), this]; simp
theorem opl_set {k n i e : Nat} (h : i < k) (h4 : k ≤ 4) : (opl k n i e).set i ((e + 1 : Nat) : Int) = opl k n i (e + 1) := by
  have : ((opn (prs.take i) n).1.map Int.ofNat).length = i := by simp [opn_length, prs]; omega
  rw [opl, List.set_append_right _ _ (by omega), this]; simp [opl]
theorem opl_next {k n i : Nat} (h : i < k) (h4 : k ≤ 4) (hi : i < prs.length) : opl k n i (ex prs[i] (opn (prs.take i) n).2) = ((opn (prs.take (i + 1)) n).1.map Int.ofNat) ++ List.replicate (k - (i + 1)) 0 := by
  have : prs.take (i + 1) = prs.take i ++ [prs[i]] := by rw [List.take_add_one]; simp [hi]
  rw [this, opn_snoc, opl]
  simp
  rw [show k - i - 1 = k - (i + 1) by omega]
theorem opl_zero {k n i : Nat} (h : i < k) : opl k n i 0 = ((opn (prs.take i) n).1.map Int.ofNat) ++ List.replicate (k - i) 0 := by
  rw [opl, show k - i = (k - i - 1) + 1 by omega, List.replicate_succ]; rfl
theorem opn_next {n i : Nat} (hi : i < prs.length) : (opn (prs.take (i + 1)) n).2 = rst prs[i] (opn (prs.take i) n).2 := by
  have : prs.take (i + 1) = prs.take i ++ [prs[i]] := by rw [List.take_add_one]; simp [hi]
  rw [this, opn_snoc]

theorem ex_lt {p n : Nat} (hp : 1 < p) (hn : 0 < n) : ex p n < n := by
  have h1 := ex_rst p n hp hn
  have h2 := rst_pos hp hn
  have h3 : ex p n < 2 ^ ex p n := Nat.lt_two_pow_self
  have h4 : 2 ^ ex p n ≤ p ^ ex p n := Nat.pow_le_pow_left hp _
  have h5 : p ^ ex p n ≤ p ^ ex p n * rst p n := Nat.le_mul_of_pos_right _ h2
  omega

theorem tmod_nat (a b : Nat) : Int.tmod (a : Int) (b : Int) = ((a % b : Nat) : Int) := rfl
theorem tdiv_nat (a b : Nat) : Int.tdiv (a : Int) (b : Int) = ((a / b : Nat) : Int) := rfl

theorem open_spec (counters n : Int) (hn : n < 2 ^ 63) : CallsA Tryd.prog 11 [I counters, I n] (openAns counters n) [] := by
  refine fn_of0 comp11 (by simp) ?_
  unfold code11
  simp (maxSteps := 1000000) only [EA, EB, EC, ED, EE, EF, EG, XA, XB, XC, XD, XE, XF, XG, XH, XI, XJ, XK, XL, reduceIte, ↓reduceIte, Nat.reduceAdd, Nat.reduceLeDiff, Nat.reduceEqDiff, Nat.reduceLT, Nat.reduceSub, Nat.reduceBEq, forall_const, reduceCtorEq, implies_true, exists_eq_left', exists_eq_left, if_true, if_false, undef]
  have hcnt : (decide (counters < 1) = true ∧ ¬(1 ≤ counters ∧ counters ≤ 4)) ∨ (decide (counters < 1) = false ∧ decide (counters > 4) = true ∧ ¬(1 ≤ counters ∧ counters ≤ 4)) ∨ (decide (counters < 1) = false ∧ decide (counters > 4) = false ∧ (1 ≤ counters ∧ counters ≤ 4)) := by
    simp only [decide_eq_true_eq, decide_eq_false_iff_not]; omega
  rcases hcnt with ⟨c1, q⟩ | ⟨c1, c2, q⟩ | ⟨c1, c2, q⟩
  · simp (maxSteps := 1000000) only [c1, EA, EB, EC, ED, EE, EF, EG, XA, XB, XC, XD, XE, XF, XG, XH, XI, XJ, XK, XL, reduceIte, ↓reduceIte, Nat.reduceAdd, Nat.reduceLeDiff, Nat.reduceEqDiff, Nat.reduceLT, Nat.reduceSub, Nat.reduceBEq, forall_const, reduceCtorEq, implies_true, exists_eq_left', exists_eq_left, if_true, if_false, undef]
    have : openErr counters n = 1 := by rw [openErr, if_pos q]
    simp [openAns, this, EA, EB, EC, ED, EE, EF, EG, XA, XB, XC, XD, XE, XF, XG, XH, XI, XJ, XK, XL, reduceIte, ↓reduceIte, Nat.reduceAdd, Nat.reduceLeDiff, Nat.reduceEqDiff, Nat.reduceLT, Nat.reduceSub, Nat.reduceBEq, forall_const, reduceCtorEq, implies_true, exists_eq_left', exists_eq_left, if_true, if_false, undef]
  · simp (maxSteps := 1000000) only [c1, c2, EA, EB, EC, ED, EE, EF, EG, XA, XB, XC, XD, XE, XF, XG, XH, XI, XJ, XK, XL, reduceIte, ↓reduceIte, Nat.reduceAdd, Nat.reduceLeDiff, Nat.reduceEqDiff, Nat.reduceLT, Nat.reduceSub, Nat.reduceBEq, forall_const, reduceCtorEq, implies_true, exists_eq_left', exists_eq_left, if_true, if_false, undef]
    have : openErr counters n = 1 := by rw [openErr, if_pos q]
    simp [openAns, this, EA, EB, EC, ED, EE, EF, EG, XA, XB, XC, XD, XE, XF, XG, XH, XI, XJ, XK, XL, reduceIte, ↓reduceIte, Nat.reduceAdd, Nat.reduceLeDiff, Nat.reduceEqDiff, Nat.reduceLT, Nat.reduceSub, Nat.reduceBEq, forall_const, reduceCtorEq, implies_true, exists_eq_left', exists_eq_left, if_true, if_false, undef]
  simp (maxSteps := 1000000) only [c1, c2, EA, EB, EC, ED, EE, EF, EG, XA, XB, XC, XD, XE, XF, XG, XH, XI, XJ, XK, XL, reduceIte, ↓reduceIte, Nat.reduceAdd, Nat.reduceLeDiff, Nat.reduceEqDiff, Nat.reduceLT, Nat.reduceSub, Nat.reduceBEq, forall_const, reduceCtorEq, implies_true, exists_eq_left', exists_eq_left, if_true, if_false, undef]
  refine ⟨fun h1 => ?_, fun h1 => ?_⟩ <;> try simp (maxSteps := 1000000) only [EA, EB, EC, ED, EE, EF, EG, XA, XB, XC, XD, XE, XF, XG, XH, XI, XJ, XK, XL, reduceIte, ↓reduceIte, Nat.reduceAdd, Nat.reduceLeDiff, Nat.reduceEqDiff, Nat.reduceLT, Nat.reduceSub, Nat.reduceBEq, forall_const, reduceCtorEq, implies_true, exists_eq_left', exists_eq_left, if_true, if_false, undef]
  · simp at h1
    have : openErr counters n = 4 := by rw [openErr, if_neg (by omega), if_pos h1]
    simp [openAns, this, EA, EB, EC, ED, EE, EF, EG, XA, XB, XC, XD, XE, XF, XG, XH, XI, XJ, XK, XL, reduceIte, ↓reduceIte, Nat.reduceAdd, Nat.reduceLeDiff, Nat.reduceEqDiff, Nat.reduceLT, Nat.reduceSub, Nat.reduceBEq, forall_const, reduceCtorEq, implies_true, exists_eq_left', exists_eq_left, if_true, if_false, undef]
  simp at h1
  obtain ⟨k, rfl⟩ : ∃ k : Nat, counters = (k : Int) := ⟨counters.toNat, by omega⟩
  obtain ⟨x, rfl⟩ : ∃ x : Nat, n = (x : Int) := ⟨n.toNat, by omega⟩
  refine ⟨by omega, by omega, by omega, ?_⟩
  simp (maxSteps := 1000000) only [EA, EB, EC, ED, EE, EF, EG, XA, XB, XC, XD, XE, XF, XG, XH, XI, XJ, XK, XL, reduceIte, ↓reduceIte, Nat.reduceAdd, Nat.reduceLeDiff, Nat.reduceEqDiff, Nat.reduceLT, Nat.reduceSub, Nat.reduceBEq, forall_const, reduceCtorEq, implies_true, exists_eq_left', exists_eq_left, if_true, if_false, undef]
  simp only [Int.toNat_natCast]
  have hk1 : 1 ≤ k ∧ k ≤ 4 := by omega
  have hx : 0 < x := by omega
  refine loopO Nat [21, 1] (fun i => [I i, I ((opn (prs.take i) x).2 : Nat)]) (fun i => [(11, some (.arr 1 (((opn (prs.take i) x).1.map Int.ofNat ++ List.replicate (k - i) 0).map I)))]) (fun i => i ≤ k) (fun i => k - i) (by decide) 0 (by simp) (by simp [Back, SubT, Sub, SubL, SubM, SubO, keepM, srcOk, look, lookM, ev, evs, putT, argT, EA, EB, EC, ED, EE, EF, EG, XA, XB, XC, XD, XE, XF, XG, XH, XI, XJ, XK, XL, reduceIte, ↓reduceIte, Nat.reduceAdd, Nat.reduceLeDiff, Nat.reduceEqDiff, Nat.reduceLT, Nat.reduceSub, Nat.reduceBEq, forall_const, reduceCtorEq, implies_true, exists_eq_left', exists_eq_left, if_true, if_false, undef, opn]) (fun i hi => ?_)
  have hpos := opn_pos (two_cut i) hx
  by_cases h : i < k
  · have e1 : decide ((i : Int) < (k : Int)) = true := by simp [h]
    have hi4 : i < prs.length := by simp [prs]; omega
    have hp2 : 1 < prs[i] := two_prs _ (List.getElem_mem hi4)
    have hw : IntKind.i64.wrap ((i : Int) + 1) = ((i + 1 : Nat) : Int) := by rw [wrap_id] <;> omega
    simp (maxSteps := 1000000) only [e1, ← opl_zero h, EA, EB, EC, ED, EE, EF, EG, XA, XB, XC, XD, XE, XF, XG, XH, XI, XJ, XK, XL, reduceIte, ↓reduceIte, Nat.reduceAdd, Nat.reduceLeDiff, Nat.reduceEqDiff, Nat.reduceLT, Nat.reduceSub, Nat.reduceBEq, forall_const, reduceCtorEq, implies_true, exists_eq_left', exists_eq_left, if_true, if_false, undef]
    refine ⟨by omega, by simp [prs] at hi4; omega, pickP hi4 (by simp) ?_⟩
    simp (maxSteps := 1000000) only [EA, EB, EC, ED, EE, EF, EG, XA, XB, XC, XD, XE, XF, XG, XH, XI, XJ, XK, XL, reduceIte, ↓reduceIte, Nat.reduceAdd, Nat.reduceLeDiff, Nat.reduceEqDiff, Nat.reduceLT, Nat.reduceSub, Nat.reduceBEq, forall_const, reduceCtorEq, implies_true, exists_eq_left', exists_eq_left, if_true, if_false, undef]
    refine loopO (Nat × Nat) [1] (fun q => [I (q.1 : Nat)]) (fun q => [(11, some (.arr 1 ((opl k x i q.2).map I)))])
      (fun q => ex prs[i] q.1 + q.2 = ex prs[i] (opn (prs.take i) x).2 ∧ rst prs[i] q.1 = rst prs[i] (opn (prs.take i) x).2 ∧ 0 < q.1 ∧ q.1 ≤ x) (fun q => q.1) (by decide) ((opn (prs.take i) x).2, 0) (by simp; omega) (by simp [Back, SubT, Sub, SubL, SubM, SubO, keepM, srcOk, look, lookM, ev, evs, putT, argT, EA, EB, EC, ED, EE, EF, EG, XA, XB, XC, XD, XE, XF, XG, XH, XI, XJ, XK, XL, reduceIte, ↓reduceIte, Nat.reduceAdd, Nat.reduceLeDiff, Nat.reduceEqDiff, Nat.reduceLT, Nat.reduceSub, Nat.reduceBEq, forall_const, reduceCtorEq, implies_true, exists_eq_left', exists_eq_left, if_true, if_false, undef]) (fun q hq => ?_)
    obtain ⟨m, e⟩ := q
    obtain ⟨q1, q2, q3, q4⟩ := hq
    simp only at q1 q2 q3 q4
    have hlx := ex_lt hp2 hpos.1
    by_cases g : m % prs[i] = 0
    · have e2 : (((m % prs[i] : Nat) : Int) == 0) = true := by simp [g]
      have hwd : IntKind.i64.wrap (((m / prs[i] : Nat)) : Int) = ((m / prs[i] : Nat) : Int) := by
        have := Nat.div_le_self m prs[i]
        generalize m / prs[i] = y at this ⊢
        rw [wrap_id] <;> omega
      have hex := ex_step ⟨hp2, q3, g⟩
      have hrs := rst_step ⟨hp2, q3, g⟩
      have hlen := opl_length (n := x) (e := e) h hk1.2
      have hwe : IntKind.i64.wrap ((e : Int) + 1) = ((e + 1 : Nat) : Int) := by rw [wrap_id] <;> omega
      have hd : 0 < m / prs[i] := by
        have : m / prs[i] * prs[i] = m := Nat.div_mul_cancel (Nat.dvd_of_mod_eq_zero g)
        exact Nat.pos_of_ne_zero fun h0 => by rw [h0] at this; omega
      have hdl : m / prs[i] < m := Nat.div_lt_self q3 hp2
      simp (maxSteps := 1000000) only [EA, EB, EC, ED, EE, EF, EG, XA, XB, XC, XD, XE, XF, XG, XH, XI, XJ, XK, XL, reduceIte, ↓reduceIte, Nat.reduceAdd, Nat.reduceLeDiff, Nat.reduceEqDiff, Nat.reduceLT, Nat.reduceSub, Nat.reduceBEq, forall_const, reduceCtorEq, implies_true, exists_eq_left', exists_eq_left, if_true, if_false, undef]
      refine ⟨by omega, ?_⟩
      simp (maxSteps := 1000000) only [tmod_nat, e2, EA, EB, EC, ED, EE, EF, EG, XA, XB, XC, XD, XE, XF, XG, XH, XI, XJ, XK, XL, reduceIte, ↓reduceIte, Nat.reduceAdd, Nat.reduceLeDiff, Nat.reduceEqDiff, Nat.reduceLT, Nat.reduceSub, Nat.reduceBEq, forall_const, reduceCtorEq, implies_true, exists_eq_left', exists_eq_left, if_true, if_false, undef]
      refine ⟨by omega, ?_⟩
      simp (maxSteps := 1000000) only [tdiv_nat, hwd, EA, EB, EC, ED, EE, EF, EG, XA, XB, XC, XD, XE, XF, XG, XH, XI, XJ, XK, XL, reduceIte, ↓reduceIte, Nat.reduceAdd, Nat.reduceLeDiff, Nat.reduceEqDiff, Nat.reduceLT, Nat.reduceSub, Nat.reduceBEq, forall_const, reduceCtorEq, implies_true, exists_eq_left', exists_eq_left, if_true, if_false, undef]
      refine ⟨by omega, by omega, pickA' (x := (e : Int)) (by simpa using opl_get h hk1.2) ?_⟩
      simp (maxSteps := 1000000) only [hwe, EA, EB, EC, ED, EE, EF, EG, XA, XB, XC, XD, XE, XF, XG, XH, XI, XJ, XK, XL, reduceIte, ↓reduceIte, Nat.reduceAdd, Nat.reduceLeDiff, Nat.reduceEqDiff, Nat.reduceLT, Nat.reduceSub, Nat.reduceBEq, forall_const, reduceCtorEq, implies_true, exists_eq_left', exists_eq_left, if_true, if_false, undef]
      refine ⟨by omega, by omega, ?_⟩
      simp (maxSteps := 1000000) only [List.length_map, hlen, tdiv_nat, hwd, EA, EB, EC, ED, EE, EF, EG, XA, XB, XC, XD, XE, XF, XG, XH, XI, XJ, XK, XL, reduceIte, ↓reduceIte, Nat.reduceAdd, Nat.reduceLeDiff, Nat.reduceEqDiff, Nat.reduceLT, Nat.reduceSub, Nat.reduceBEq, forall_const, reduceCtorEq, implies_true, exists_eq_left', exists_eq_left, if_true, if_false, undef]
      refine ⟨by simpa using h, (m / prs[i], e + 1), ⟨by simp only; omega, by simp only; rw [← q2, hrs], hd, by simp only; omega⟩, hdl, ?_⟩
      have hset : ((opl k x i e).map I).set i (I ((e + 1 : Nat) : Int)) = (opl k x i (e + 1)).map I := by rw [← List.map_set, opl_set h hk1.2]
      simp only [Int.toNat_natCast, hset, Back, SubT, Sub, SubL, SubM, SubO, keepM, srcOk, look, lookM, ev, evs, putT, argT, EA, EB, EC, ED, EE, EF, EG, XA, XB, XC, XD, XE, XF, XG, XH, XI, XJ, XK, XL, reduceIte, ↓reduceIte, Nat.reduceAdd, Nat.reduceLeDiff, Nat.reduceEqDiff, Nat.reduceLT, Nat.reduceSub, Nat.reduceBEq, forall_const, reduceCtorEq, implies_true, exists_eq_left', exists_eq_left, if_true, if_false, undef]
      simp [Back, SubT, Sub, SubL, SubM, SubO, keepM, srcOk, look, lookM, ev, evs, putT, argT, EA, EB, EC, ED, EE, EF, EG, XA, XB, XC, XD, XE, XF, XG, XH, XI, XJ, XK, XL, reduceIte, ↓reduceIte, Nat.reduceAdd, Nat.reduceLeDiff, Nat.reduceEqDiff, Nat.reduceLT, Nat.reduceSub, Nat.reduceBEq, forall_const, reduceCtorEq, implies_true, exists_eq_left', exists_eq_left, if_true, if_false, undef]
    · have e2 : (((m % prs[i] : Nat) : Int) == 0) = false := by simp; omega
      have hex := ex_stop (p := prs[i]) g
      have hrs := rst_stop (p := prs[i]) g
      simp (maxSteps := 1000000) only [EA, EB, EC, ED, EE, EF, EG, XA, XB, XC, XD, XE, XF, XG, XH, XI, XJ, XK, XL, reduceIte, ↓reduceIte, Nat.reduceAdd, Nat.reduceLeDiff, Nat.reduceEqDiff, Nat.reduceLT, Nat.reduceSub, Nat.reduceBEq, forall_const, reduceCtorEq, implies_true, exists_eq_left', exists_eq_left, if_true, if_false, undef]
      refine ⟨by omega, ?_⟩
      simp (maxSteps := 1000000) only [tmod_nat, e2, hw, EA, EB, EC, ED, EE, EF, EG, XA, XB, XC, XD, XE, XF, XG, XH, XI, XJ, XK, XL, reduceIte, ↓reduceIte, Nat.reduceAdd, Nat.reduceLeDiff, Nat.reduceEqDiff, Nat.reduceLT, Nat.reduceSub, Nat.reduceBEq, forall_const, reduceCtorEq, implies_true, exists_eq_left', exists_eq_left, if_true, if_false, undef]
      refine ⟨i + 1, by omega, by omega, ?_⟩
      have : e = ex prs[i] (opn (prs.take i) x).2 := by omega
      subst this
      rw [opl_next h hk1.2 hi4, opn_next hi4, ← q2, hrs]
      simp [Back, SubT, Sub, SubL, SubM, SubO, keepM, srcOk, look, lookM, ev, evs, putT, argT, EA, EB, EC, ED, EE, EF, EG, XA, XB, XC, XD, XE, XF, XG, XH, XI, XJ, XK, XL, reduceIte, ↓reduceIte, Nat.reduceAdd, Nat.reduceLeDiff, Nat.reduceEqDiff, Nat.reduceLT, Nat.reduceSub, Nat.reduceBEq, forall_const, reduceCtorEq, implies_true, exists_eq_left', exists_eq_left, if_true, if_false, undef]
  · have e1 : decide ((i : Int) < (k : Int)) = false := by simp [h]
    have : i = k := by omega
    subst this
    simp (maxSteps := 1000000) only [e1, EA, EB, EC, ED, EE, EF, EG, XA, XB, XC, XD, XE, XF, XG, XH, XI, XJ, XK, XL, reduceIte, ↓reduceIte, Nat.reduceAdd, Nat.reduceLeDiff, Nat.reduceEqDiff, Nat.reduceLT, Nat.reduceSub, Nat.reduceBEq, forall_const, reduceCtorEq, implies_true, exists_eq_left', exists_eq_left, if_true, if_false, undef]
    have hE : openErr (i : Int) (x : Int) = if (opn (prs.take i) x).2 ≠ 1 then 5 else 0 := by
      rw [openErr, if_neg (by omega), if_neg (by omega)]; simp
    by_cases g : (opn (prs.take i) x).2 = 1
    · have e2 : (((opn (prs.take i) x).2 : Int) != 1) = false := by simp [g]
      rw [if_neg (by simp [g])] at hE
      simp (maxSteps := 1000000) only [e2, openAns, hE, if_true, Int.toNat_natCast, Nat.sub_self, List.replicate_zero, List.append_nil, EA, EB, EC, ED, EE, EF, EG, XA, XB, XC, XD, XE, XF, XG, XH, XI, XJ, XK, XL, reduceIte, ↓reduceIte, Nat.reduceAdd, Nat.reduceLeDiff, Nat.reduceEqDiff, Nat.reduceLT, Nat.reduceSub, Nat.reduceBEq, forall_const, reduceCtorEq, implies_true, exists_eq_left', exists_eq_left, if_true, if_false, undef]
      rw [List.take_of_length_le (by simp [opn_length, prs]; omega)]
      simp
    · have e2 : (((opn (prs.take i) x).2 : Int) != 1) = true := by simp; omega
      rw [if_pos g] at hE
      simp (maxSteps := 1000000) only [e2, EA, EB, EC, ED, EE, EF, EG, XA, XB, XC, XD, XE, XF, XG, XH, XI, XJ, XK, XL, reduceIte, ↓reduceIte, Nat.reduceAdd, Nat.reduceLeDiff, Nat.reduceEqDiff, Nat.reduceLT, Nat.reduceSub, Nat.reduceBEq, forall_const, reduceCtorEq, implies_true, exists_eq_left', exists_eq_left, if_true, if_false, undef]
      simp [openAns, hE, EA, EB, EC, ED, EE, EF, EG, XA, XB, XC, XD, XE, XF, XG, XH, XI, XJ, XK, XL, reduceIte, ↓reduceIte, Nat.reduceAdd, Nat.reduceLeDiff, Nat.reduceEqDiff, Nat.reduceLT, Nat.reduceSub, Nat.reduceBEq, forall_const, reduceCtorEq, implies_true, exists_eq_left', exists_eq_left, if_true, if_false, undef]

end Go.Av
