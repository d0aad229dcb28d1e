/- Whether a machine is one: the program's answer, and the document's. -/
import Derived.Test.YtoffjeeajdmgfaaTape
set_option linter.unusedSimpArgs false
set_option linter.unusedVariables false
set_option maxRecDepth 100000
namespace Go.Av
open Go.Proofs

theorem check_spec (m : Mach) : CallsA Try.prog 43 [encM m] (I (machErr m)) [] := by
  refine fn_of0 comp43 (by simp) ?_
  unfold code43
  simp only [encM, encR, encRow, encM, XX, reduceIte, ↓reduceIte, Nat.reduceAdd, Nat.reduceLeDiff, Nat.reduceEqDiff, Nat.reduceLT, Nat.reduceSub, Nat.reduceBEq, forall_const, reduceCtorEq, implies_true, exists_eq_left', exists_eq_left, if_true, if_false, undef]
  refine callA (CallsA.args (between_spec 1 5) (by simp [encR, encRow, encM, XX, undef])) rfl ?_
  simp only [encR, encRow, encM, XX, reduceIte, ↓reduceIte, Nat.reduceAdd, Nat.reduceLeDiff, Nat.reduceEqDiff, Nat.reduceLT, Nat.reduceSub, Nat.reduceBEq, forall_const, reduceCtorEq, implies_true, exists_eq_left', exists_eq_left, if_true, if_false, undef]
  refine callA (CallsA.args (between_spec 2 4) (by simp [encR, encRow, encM, XX, undef])) rfl ?_
  simp only [encR, encRow, encM, XX, reduceIte, ↓reduceIte, Nat.reduceAdd, Nat.reduceLeDiff, Nat.reduceEqDiff, Nat.reduceLT, Nat.reduceSub, Nat.reduceBEq, forall_const, reduceCtorEq, implies_true, exists_eq_left', exists_eq_left, if_true, if_false, undef]
  refine callF (CallsA.args (between1_spec 1 m.states 5) (by simp [encR, encRow, encM, XX, undef])) rfl (by simp [flat, encR, encRow, encM, XX, undef]) ?_
  simp only [encR, encRow, encM, XX, reduceIte, ↓reduceIte, Nat.reduceAdd, Nat.reduceLeDiff, Nat.reduceEqDiff, Nat.reduceLT, Nat.reduceSub, Nat.reduceBEq, forall_const, reduceCtorEq, implies_true, exists_eq_left', exists_eq_left, if_true, if_false, undef]
  refine ⟨fun h1 => ?_, fun h1 => ?_⟩ <;> try simp (maxSteps := 1000000) only [encR, encRow, encM, XX, reduceIte, ↓reduceIte, Nat.reduceAdd, Nat.reduceLeDiff, Nat.reduceEqDiff, Nat.reduceLT, Nat.reduceSub, Nat.reduceBEq, forall_const, reduceCtorEq, implies_true, exists_eq_left', exists_eq_left, if_true, if_false, undef]
  · refine callF (CallsA.args (between1_spec 2 m.signs 4) (by simp [encR, encRow, encM, XX, undef])) rfl (by simp [flat, encR, encRow, encM, XX, undef]) ?_
    simp only [encR, encRow, encM, XX, reduceIte, ↓reduceIte, Nat.reduceAdd, Nat.reduceLeDiff, Nat.reduceEqDiff, Nat.reduceLT, Nat.reduceSub, Nat.reduceBEq, forall_const, reduceCtorEq, implies_true, exists_eq_left', exists_eq_left, if_true, if_false, undef]
    refine ⟨fun h2 => ?_, fun h2 => ?_⟩ <;> try simp (maxSteps := 1000000) only [encR, encRow, encM, XX, reduceIte, ↓reduceIte, Nat.reduceAdd, Nat.reduceLeDiff, Nat.reduceEqDiff, Nat.reduceLT, Nat.reduceSub, Nat.reduceBEq, forall_const, reduceCtorEq, implies_true, exists_eq_left', exists_eq_left, if_true, if_false, undef]
    · simp at h1 h2
      rw [machErr, if_pos]
      simp [sizeOk]; omega
    have hs : sizeOk m = true := by simp at h1 h2; simp [sizeOk, h1, h2]
    refine callF (CallsA.args (isComplete_spec m (sizeOk_iff.mp hs).1.2 ) (by simp [ encM,encR, encRow, encM, XX, undef])) rfl (by simp [flat, encR, encRow, encM, XX, undef]) ?_
    simp only [encR, encRow, encM, XX, reduceIte, ↓reduceIte, Nat.reduceAdd, Nat.reduceLeDiff, Nat.reduceEqDiff, Nat.reduceLT, Nat.reduceSub, Nat.reduceBEq, forall_const, reduceCtorEq, implies_true, exists_eq_left', exists_eq_left, if_true, if_false, undef]
    refine ⟨fun h3 => ?_, fun h3 => ?_⟩ <;> try simp (maxSteps := 1000000) only [encR, encRow, encM, XX, reduceIte, ↓reduceIte, Nat.reduceAdd, Nat.reduceLeDiff, Nat.reduceEqDiff, Nat.reduceLT, Nat.reduceSub, Nat.reduceBEq, forall_const, reduceCtorEq, implies_true, exists_eq_left', exists_eq_left, if_true, if_false, undef]
    · rw [machErr, if_neg (by simp [hs]), if_pos (by simpa using h3)]
    have hf : formOk m = true := by simpa using h3
    refine callF (CallsA.args (checkRules_spec m hs hf ) (by simp [ encM,encR, encRow, encM, XX, undef])) rfl (by simp [flat, encR, encRow, encM, XX, undef]) ?_
    simp only [encR, encRow, encM, XX, reduceIte, ↓reduceIte, Nat.reduceAdd, Nat.reduceLeDiff, Nat.reduceEqDiff, Nat.reduceLT, Nat.reduceSub, Nat.reduceBEq, forall_const, reduceCtorEq, implies_true, exists_eq_left', exists_eq_left, if_true, if_false, undef]
    rw [machErr, if_neg (by simp [hs]), if_neg (by simp [hf])]
  · simp at h1
    rw [machErr, if_pos]
    simp [sizeOk]; omega

theorem mcheck_spec (m : Mach) : CallsA Try.prog 35 [encM m] (I (machErr m)) [] := by
  refine fn_of0 comp35 (by simp) ?_
  unfold code35
  simp only [encM, encR, encRow, encM, XX, reduceIte, ↓reduceIte, Nat.reduceAdd, Nat.reduceLeDiff, Nat.reduceEqDiff, Nat.reduceLT, Nat.reduceSub, Nat.reduceBEq, forall_const, reduceCtorEq, implies_true, exists_eq_left', exists_eq_left, if_true, if_false, undef]
  refine callF (CallsA.args (within_spec 1 m.states 5) (by simp [encR, encRow, encM, XX, undef])) rfl (by simp [flat, encR, encRow, encM, XX, undef]) ?_
  simp only [encR, encRow, encM, XX, reduceIte, ↓reduceIte, Nat.reduceAdd, Nat.reduceLeDiff, Nat.reduceEqDiff, Nat.reduceLT, Nat.reduceSub, Nat.reduceBEq, forall_const, reduceCtorEq, implies_true, exists_eq_left', exists_eq_left, if_true, if_false, undef]
  refine ⟨fun h1 => ?_, fun h1 => ?_⟩ <;> try simp (maxSteps := 1000000) only [encR, encRow, encM, XX, reduceIte, ↓reduceIte, Nat.reduceAdd, Nat.reduceLeDiff, Nat.reduceEqDiff, Nat.reduceLT, Nat.reduceSub, Nat.reduceBEq, forall_const, reduceCtorEq, implies_true, exists_eq_left', exists_eq_left, if_true, if_false, undef]
  · refine callF (CallsA.args (within_spec 2 m.signs 4) (by simp [encR, encRow, encM, XX, undef])) rfl (by simp [flat, encR, encRow, encM, XX, undef]) ?_
    simp only [encR, encRow, encM, XX, reduceIte, ↓reduceIte, Nat.reduceAdd, Nat.reduceLeDiff, Nat.reduceEqDiff, Nat.reduceLT, Nat.reduceSub, Nat.reduceBEq, forall_const, reduceCtorEq, implies_true, exists_eq_left', exists_eq_left, if_true, if_false, undef]
    refine ⟨fun h2 => ?_, fun h2 => ?_⟩ <;> try simp (maxSteps := 1000000) only [encR, encRow, encM, XX, reduceIte, ↓reduceIte, Nat.reduceAdd, Nat.reduceLeDiff, Nat.reduceEqDiff, Nat.reduceLT, Nat.reduceSub, Nat.reduceBEq, forall_const, reduceCtorEq, implies_true, exists_eq_left', exists_eq_left, if_true, if_false, undef]
    · simp at h1 h2
      rw [machErr, if_pos]
      simp [sizeOk]; omega
    have hs : sizeOk m = true := by simp at h1 h2; simp [sizeOk, h1, h2]
    obtain ⟨⟨hs1, hs2⟩, hs3, hs4⟩ := sizeOk_iff.mp hs
    refine ⟨fun h3 => ?_, fun h3 => ?_⟩ <;> try simp (maxSteps := 1000000) only [encR, encRow, encM, XX, reduceIte, ↓reduceIte, Nat.reduceAdd, Nat.reduceLeDiff, Nat.reduceEqDiff, Nat.reduceLT, Nat.reduceSub, Nat.reduceBEq, forall_const, reduceCtorEq, implies_true, exists_eq_left', exists_eq_left, if_true, if_false, undef]
    · rw [machErr, if_neg (by simp [hs]), if_pos]; simp at h3; simp [formOk, h3]
    have hlen : (m.rules.length : Int) = m.states := by simpa using h3
    refine loop0 Nat [28] (fun k => [I k]) (fun k => k ≤ m.rules.length ∧ (m.rules.take k).all (fun l => decide ((l.length : Int) = m.signs)) = true) (fun k => m.rules.length - k) (by decide) 0 (by simp) (by simp [Back, BackF, fzT, fzM, fzU, fz, fzL, fzO, kin, SubT, Sub, SubL, SubM, SubO, keepM, srcOk, look, lookM, ev, evs, putT, argT, encR, encRow, encM, XX, undef]) (fun k hk => ?_)
    obtain ⟨hk, hp⟩ := hk
    simp only [encR, encRow, encM, XX, reduceIte, ↓reduceIte, Nat.reduceAdd, Nat.reduceLeDiff, Nat.reduceEqDiff, Nat.reduceLT, Nat.reduceSub, Nat.reduceBEq, forall_const, reduceCtorEq, implies_true, exists_eq_left', exists_eq_left, if_true, if_false, undef]
    refine ⟨fun h => ?_, fun h => ?_⟩ <;> try simp (maxSteps := 1000000) only [encR, encRow, encM, XX, reduceIte, ↓reduceIte, Nat.reduceAdd, Nat.reduceLeDiff, Nat.reduceEqDiff, Nat.reduceLT, Nat.reduceSub, Nat.reduceBEq, forall_const, reduceCtorEq, implies_true, exists_eq_left', exists_eq_left, if_true, if_false, undef]
    · refine ⟨by omega, ?_⟩
      simp only [decide_eq_true_eq, List.length_map, Int.ofNat_lt] at h
      have hw : IntKind.i64.wrap ((k : Int) + 1) = ((k + 1 : Nat) : Int) := by rw [wrap_id] <;> omega
      refine pickM h ?_
      simp only [encR, encRow, encM, XX, reduceIte, ↓reduceIte, Nat.reduceAdd, Nat.reduceLeDiff, Nat.reduceEqDiff, Nat.reduceLT, Nat.reduceSub, Nat.reduceBEq, forall_const, reduceCtorEq, implies_true, exists_eq_left', exists_eq_left, if_true, if_false, undef]
      refine ⟨fun h4 => ?_, fun h4 => ?_⟩ <;> try simp (maxSteps := 1000000) only [encR, encRow, encM, XX, reduceIte, ↓reduceIte, Nat.reduceAdd, Nat.reduceLeDiff, Nat.reduceEqDiff, Nat.reduceLT, Nat.reduceSub, Nat.reduceBEq, forall_const, reduceCtorEq, implies_true, exists_eq_left', exists_eq_left, if_true, if_false, undef]
      · rw [machErr, if_neg (by simp [hs]), if_pos]
        simp at h4; simp [formOk]; intro _; exact ⟨_, List.getElem_mem h, h4⟩
      · refine ⟨k + 1, ⟨by omega, all_take h hp ?_⟩, by omega, by simp [hw, Back, BackF, fzT, fzM, fzU, fz, fzL, fzO, kin, SubT, Sub, SubL, SubM, SubO, keepM, srcOk, look, lookM, ev, evs, putT, argT, encR, encRow, encM, XX, undef]⟩
        simp at h4; simp [h4]
    simp only [decide_eq_false_iff_not, List.length_map, Int.ofNat_lt] at h
    have : k = m.rules.length := by omega
    subst this
    simp only [List.take_length] at hp
    have hf : formOk m = true := by simp [formOk, hlen]; simpa using hp
    have hme : machErr m = rulesErr m := by rw [machErr, if_neg (by simp [hs]), if_neg (by simp [hf])]
    have hf2 := (formOk_iff.mp hf).2
    rw [hme]
    clear h h1 h2 h3 hp hk
    refine loop0 Nat [41] (fun k => [I k]) (fun k => k ≤ m.rules.length ∧ firstErr (firstErr (ruleErr m.signs m.states)) (m.rules.take k) = 0) (fun k => m.rules.length - k) (by decide) 0 (by simp [firstErr]) (by simp [Back, BackF, fzT, fzM, fzU, fz, fzL, fzO, kin, SubT, Sub, SubL, SubM, SubO, keepM, srcOk, look, lookM, ev, evs, putT, argT, encR, encRow, encM, XX, undef]) (fun k hk => ?_)
    obtain ⟨hk, hp⟩ := hk
    simp only [encR, encRow, encM, XX, reduceIte, ↓reduceIte, Nat.reduceAdd, Nat.reduceLeDiff, Nat.reduceEqDiff, Nat.reduceLT, Nat.reduceSub, Nat.reduceBEq, forall_const, reduceCtorEq, implies_true, exists_eq_left', exists_eq_left, if_true, if_false, undef]
    refine ⟨fun h => ?_, fun h => ?_⟩ <;> try simp (maxSteps := 1000000) only [encR, encRow, encM, XX, reduceIte, ↓reduceIte, Nat.reduceAdd, Nat.reduceLeDiff, Nat.reduceEqDiff, Nat.reduceLT, Nat.reduceSub, Nat.reduceBEq, forall_const, reduceCtorEq, implies_true, exists_eq_left', exists_eq_left, if_true, if_false, undef]
    · refine ⟨by omega, ?_⟩
      simp only [decide_eq_true_eq, List.length_map, Int.ofNat_lt] at h
      have hr := hf2 m.rules[k] (List.getElem_mem h)
      have hkw : IntKind.i64.wrap ((k : Int) + 1) = ((k + 1 : Nat) : Int) := by rw [wrap_id] <;> omega
      have hat := firstErr_at h hp
      have htk := firstErr_take h hp
      refine pickM h ?_
      generalize m.rules[k] = row at *
      simp only [encR, encRow, encM, XX, reduceIte, ↓reduceIte, Nat.reduceAdd, Nat.reduceLeDiff, Nat.reduceEqDiff, Nat.reduceLT, Nat.reduceSub, Nat.reduceBEq, forall_const, reduceCtorEq, implies_true, exists_eq_left', exists_eq_left, if_true, if_false, undef]
      refine loop0 Nat [47] (fun j => [I j]) (fun j => j ≤ row.length ∧ firstErr (ruleErr m.signs m.states) (row.take j) = 0) (fun j => row.length - j) (by decide) 0 (by simp [firstErr]) (by simp [Back, BackF, fzT, fzM, fzU, fz, fzL, fzO, kin, SubT, Sub, SubL, SubM, SubO, keepM, srcOk, look, lookM, ev, evs, putT, argT, encR, encRow, encM, XX, undef]) (fun j hj => ?_)
      obtain ⟨hj, hq⟩ := hj
      simp only [encR, encRow, encM, XX, reduceIte, ↓reduceIte, Nat.reduceAdd, Nat.reduceLeDiff, Nat.reduceEqDiff, Nat.reduceLT, Nat.reduceSub, Nat.reduceBEq, forall_const, reduceCtorEq, implies_true, exists_eq_left', exists_eq_left, if_true, if_false, undef]
      refine ⟨fun h' => ?_, fun h' => ?_⟩ <;> try simp only [encR, encRow, encM, XX, reduceIte, ↓reduceIte, Nat.reduceAdd, Nat.reduceLeDiff, Nat.reduceEqDiff, Nat.reduceLT, Nat.reduceSub, Nat.reduceBEq, forall_const, reduceCtorEq, implies_true, exists_eq_left', exists_eq_left, if_true, if_false, undef]
      · refine ⟨by omega, ?_⟩
        simp only [decide_eq_true_eq, List.length_map, Int.ofNat_lt] at h'
        have hjw : IntKind.i64.wrap ((j : Int) + 1) = ((j + 1 : Nat) : Int) := by rw [wrap_id] <;> omega
        have hat' := firstErr_at h' hq
        have htk' := firstErr_take h' hq
        refine pickM h' ?_
        generalize row[j] = r at *
        have hres : ∀ e, ruleErr m.signs m.states r = e → e ≠ 0 → rulesErr m = e := fun e h1 h2 => by
          have h3 := hat' (by omega)
          rw [rulesErr, hat (by omega), h3, h1]
        have hsw : IntKind.i64.wrap (m.states + 1) = m.states + 1 := by rw [wrap_id] <;> omega
        simp only [encR, encRow, encM, XX, reduceIte, ↓reduceIte, Nat.reduceAdd, Nat.reduceLeDiff, Nat.reduceEqDiff, Nat.reduceLT, Nat.reduceSub, Nat.reduceBEq, forall_const, reduceCtorEq, implies_true, exists_eq_left', exists_eq_left, if_true, if_false, undef]
        refine callF (CallsA.args (inside_spec m.signs [r.w] (by simp)) (by simp [encR, encRow, encM, XX, undef])) rfl (by simp [flat, encR, encRow, encM, XX, undef]) ?_
        simp only [encR, encRow, encM, XX, reduceIte, ↓reduceIte, Nat.reduceAdd, Nat.reduceLeDiff, Nat.reduceEqDiff, Nat.reduceLT, Nat.reduceSub, Nat.reduceBEq, forall_const, reduceCtorEq, implies_true, exists_eq_left', exists_eq_left, if_true, if_false, undef]
        refine ⟨fun h1 => ?_, fun h1 => ?_⟩ <;> try simp (maxSteps := 1000000) only [encR, encRow, encM, XX, reduceIte, ↓reduceIte, Nat.reduceAdd, Nat.reduceLeDiff, Nat.reduceEqDiff, Nat.reduceLT, Nat.reduceSub, Nat.reduceBEq, forall_const, reduceCtorEq, implies_true, exists_eq_left', exists_eq_left, if_true, if_false, undef]
        · rw [hres 2 (by simp at h1; simp only [ruleErr]; rw [if_pos (by omega)]) (by decide)]
        refine callF (CallsA.args (within_spec (-1) r.m 1) (by simp [encR, encRow, encM, XX, undef])) rfl (by simp [flat, encR, encRow, encM, XX, undef]) ?_
        simp only [encR, encRow, encM, XX, reduceIte, ↓reduceIte, Nat.reduceAdd, Nat.reduceLeDiff, Nat.reduceEqDiff, Nat.reduceLT, Nat.reduceSub, Nat.reduceBEq, forall_const, reduceCtorEq, implies_true, exists_eq_left', exists_eq_left, if_true, if_false, undef]
        refine ⟨fun h2 => ?_, fun h2 => ?_⟩ <;> try simp (maxSteps := 1000000) only [encR, encRow, encM, XX, reduceIte, ↓reduceIte, Nat.reduceAdd, Nat.reduceLeDiff, Nat.reduceEqDiff, Nat.reduceLT, Nat.reduceSub, Nat.reduceBEq, forall_const, reduceCtorEq, implies_true, exists_eq_left', exists_eq_left, if_true, if_false, undef]
        · rw [hres 4 (by simp at h1 h2; simp only [ruleErr]; rw [if_neg (by omega), if_pos (by omega)]) (by decide)]
        refine callF (CallsA.args (inside_spec (m.states + 1) [r.n] (by simp) ) (by simp [ hsw,encR, encRow, encM, XX, undef])) rfl (by simp [flat, encR, encRow, encM, XX, undef]) ?_
        simp only [encR, encRow, encM, XX, reduceIte, ↓reduceIte, Nat.reduceAdd, Nat.reduceLeDiff, Nat.reduceEqDiff, Nat.reduceLT, Nat.reduceSub, Nat.reduceBEq, forall_const, reduceCtorEq, implies_true, exists_eq_left', exists_eq_left, if_true, if_false, undef]
        refine ⟨fun h3 => ?_, fun h3 => ?_⟩ <;> try simp (maxSteps := 1000000) only [encR, encRow, encM, XX, reduceIte, ↓reduceIte, Nat.reduceAdd, Nat.reduceLeDiff, Nat.reduceEqDiff, Nat.reduceLT, Nat.reduceSub, Nat.reduceBEq, forall_const, reduceCtorEq, implies_true, exists_eq_left', exists_eq_left, if_true, if_false, undef]
        · rw [hres 2 (by simp at h1 h2 h3; simp only [ruleErr]; rw [if_neg (by omega), if_neg (by omega), if_pos (by omega)]) (by decide)]
        refine ⟨j + 1, ⟨by omega, htk' ?_⟩, by omega, ?_⟩
        · simp at h1 h2 h3; simp only [ruleErr]; rw [if_neg (by omega), if_neg (by omega), if_neg (by omega)]
        · simp [hjw, Back, BackF, fzT, fzM, fzU, fz, fzL, fzO, kin, SubT, Sub, SubL, SubM, SubO, keepM, srcOk, look, lookM, ev, evs, putT, argT, encR, encRow, encM, XX, reduceIte, ↓reduceIte, Nat.reduceAdd, Nat.reduceLeDiff, Nat.reduceEqDiff, Nat.reduceLT, Nat.reduceSub, Nat.reduceBEq, forall_const, reduceCtorEq, implies_true, exists_eq_left', exists_eq_left, if_true, if_false, undef]
      · simp only [decide_eq_false_iff_not, List.length_map, Int.ofNat_lt] at h'
        have : j = row.length := by omega
        subst this
        simp only [List.take_length] at hq
        exact ⟨k + 1, ⟨by omega, htk hq⟩, by omega, by simp [hkw, Back, BackF, fzT, fzM, fzU, fz, fzL, fzO, kin, SubT, Sub, SubL, SubM, SubO, keepM, srcOk, look, lookM, ev, evs, putT, argT, encR, encRow, encM, XX, undef]⟩
    · simp only [decide_eq_false_iff_not, List.length_map, Int.ofNat_lt] at h
      have : k = m.rules.length := by omega
      subst this
      simp only [List.take_length] at hp
      simp [rulesErr, hp]
  · simp at h1
    rw [machErr, if_pos]
    simp [sizeOk]; omega

end Go.Av
