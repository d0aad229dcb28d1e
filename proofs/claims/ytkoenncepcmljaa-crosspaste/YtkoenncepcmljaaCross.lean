/- What goes over a border. -/
import Derived.Test.YtkoenncepcmljaaTapeT
set_option linter.unusedSimpArgs false
set_option linter.unusedVariables false
set_option maxRecDepth 100000
namespace Go.Av
open Go.Proofs

def crAt (M : Mach) (c : Cfg) (k : Nat) : Int := if (runC M c k).head > (runC M c (k + 1)).head then (runC M c k).head else (runC M c (k + 1)).head
def crL (M : Mach) (c : Cfg) (b : Int) : Nat → List Int
  | 0 => []
  | k + 1 => if (runC M c (k + 1)).head ≠ (runC M c k).head ∧ crAt M c k = b then crL M c b k ++ [(runC M c (k + 1)).st] else crL M c b k

theorem crL_length (M : Mach) (c : Cfg) (b : Int) : ∀ k, (crL M c b k).length ≤ k
  | 0 => Nat.le_refl _
  | k + 1 => by
    have := crL_length M c b k
    simp only [crL]
    split
    · simp; omega
    · omega

theorem head_near {M : Mach} {c : Cfg} (hm : MOk M) (hc : COk M 120 c) (k : Nat) : -1 ≤ (runC M c (k + 1)).head - (runC M c k).head ∧ (runC M c (k + 1)).head - (runC M c k).head ≤ 1 := by
  have hk := runC_ok hm hc k
  simp only [runC]
  split
  · rename_i hl
    have hr := hm.ruleAt hk.st0 hl (hk.sg (runC M c k).head).1 (hk.sg (runC M c k).head).2
    simp only [stepC]; omega
  · omega

theorem cross_iff {M : Mach} {c : Cfg} (hm : MOk M) (hc : COk M 120 c) (b : Int) (k : Nat) : ((runC M c (k + 1)).head ≠ (runC M c k).head ∧ crAt M c k = b) ↔
    (((runC M c k).head = b - 1 ∧ (runC M c (k + 1)).head = b) ∨ ((runC M c k).head = b ∧ (runC M c (k + 1)).head = b - 1)) := by
  have := head_near hm hc k
  unfold crAt
  split <;> omega

theorem done_run (M : Mach) (c : Cfg) : ∀ N, doneC M c (doneC M c N) = doneC M c N ∧ runC M c (doneC M c N) = runC M c N := by
  intro N
  induction N with
  | zero => exact ⟨rfl, rfl⟩
  | succ N ih =>
    by_cases hl : (runC M c N).st < M.states
    · have e : doneC M c (N + 1) = N + 1 := by simp only [doneC]; rw [if_pos hl, live_done hl]
      rw [e]; exact ⟨e, rfl⟩
    · have e1 : doneC M c (N + 1) = doneC M c N := by simp only [doneC]; rw [if_neg hl]
      have e2 : runC M c (N + 1) = runC M c N := by simp only [runC]; rw [if_neg hl]
      rw [e1, e2]; exact ih

theorem hds_at {M : Mach} {c : Cfg} {D k : Nat} (h : k < (hds M c D).length) : (hds M c D)[k] = (runC M c k).head := by simp [hds]
theorem sts_at {M : Mach} {c : Cfg} {D k : Nat} (h : k < (sts M c D).length) : (sts M c D)[k] = (runC M c (k + 1)).st := by simp [sts]

/-- the five ways of a test -/
theorem cross_cases {M : Mach} {c : Cfg} (hm : MOk M) (hc : COk M 120 c) (b : Int) (k : Nat) :
    (((runC M c k).head == b - 1) = true ∧ ((runC M c (k + 1)).head == b) = true ∧ crL M c b (k + 1) = crL M c b k ++ [(runC M c (k + 1)).st]) ∨
    (((runC M c k).head == b - 1) = false ∧ ((runC M c k).head == b) = true ∧ ((runC M c (k + 1)).head == b - 1) = true ∧ crL M c b (k + 1) = crL M c b k ++ [(runC M c (k + 1)).st]) ∨
    (((runC M c k).head == b - 1) = true ∧ ((runC M c (k + 1)).head == b) = false ∧ ((runC M c k).head == b) = false ∧ crL M c b (k + 1) = crL M c b k) ∨
    (((runC M c k).head == b - 1) = false ∧ ((runC M c k).head == b) = true ∧ ((runC M c (k + 1)).head == b - 1) = false ∧ crL M c b (k + 1) = crL M c b k) ∨
    (((runC M c k).head == b - 1) = false ∧ ((runC M c k).head == b) = false ∧ crL M c b (k + 1) = crL M c b k) := by
  have hi := cross_iff hm hc b k
  have hy : ((runC M c (k + 1)).head ≠ (runC M c k).head ∧ crAt M c k = b) → crL M c b (k + 1) = crL M c b k ++ [(runC M c (k + 1)).st] := fun q => by simp only [crL]; rw [if_pos q]
  have hn : ¬((runC M c (k + 1)).head ≠ (runC M c k).head ∧ crAt M c k = b) → crL M c b (k + 1) = crL M c b k := fun q => by simp only [crL]; rw [if_neg q]
  rw [hi] at hy hn
  simp only [beq_iff_eq, beq_eq_false_iff_ne]
  by_cases h1 : (runC M c k).head = b - 1
  · by_cases h2 : (runC M c (k + 1)).head = b
    · exact .inl ⟨h1, h2, hy (by omega)⟩
    · exact .inr (.inr (.inl ⟨h1, h2, by omega, hn (by omega)⟩))
  · by_cases h3 : (runC M c k).head = b
    · by_cases h4 : (runC M c (k + 1)).head = b - 1
      · exact .inr (.inl ⟨h1, h3, h4, hy (by omega)⟩)
      · exact .inr (.inr (.inr (.inl ⟨h1, h3, h4, hn (by omega)⟩)))
    · exact .inr (.inr (.inr (.inr ⟨h1, h3, hn (by omega)⟩)))

set_option maxHeartbeats 4000000 in
theorem refOver_spec (M : Mach) (c : Cfg) (sp : List (Int × Int)) (N : Nat) (b : Int) (hm : MOk M) (hc : COk M 120 c) (hN : N ≤ 60) (hb : -60 ≤ b ∧ b ≤ 60) :
    CallsA Try.prog 14 [encRun (runR M c sp N), I b] (.ro 1 ((crL M c b (doneC M c N)).map I)) [] := by
  have hD := done_le M c N
  obtain ⟨D, hDd⟩ : ∃ D, D = doneC M c N := ⟨_, rfl⟩
  have hrun : runC M c D = runC M c N := hDd ▸ (done_run M c N).2
  have hwb : IntKind.i64.wrap (b - 1) = b - 1 := by rw [wrap_id] <;> omega
  rw [← hDd] at hD ⊢
  refine fn_of0 comp14 (by simp) ?_
  unfold code14
  simp only [encRun, runR, ← hDd, encS, EA, EB, EC, ED, EE, EF, EG, XA, XB, XC, XD, XE, XF, XG, XH, XI, XJ, XK, XL, reduceIte, ↓reduceIte, Nat.reduceAdd, Nat.reduceLeDiff, Nat.reduceEqDiff, Nat.reduceLT, Nat.reduceSub, Nat.reduceBEq, forall_const, reduceCtorEq, implies_true, exists_eq_left', exists_eq_left, if_true, if_false, undef]
  have hhl : (hds M c D).length = D := hds_length M c D
  have hsl : (sts M c D).length = D := sts_length M c D

  refine loopR Nat [12, 5] (fun k => [I (k : Nat), .arr 7 0 (crL M c b k).length]) (fun k => [(7, some (.arr 1 ((crL M c b k).map I)))]) 1 (fun k => k ≤ D) (fun k => D - k) (by decide)
    0 [none] rfl (by simp) (by simp [Back, SubT, Sub, SubL, SubM, SubO, keepM, srcOk, look, lookM, ev, evs, putT, argT, encS, EA, EB, EC, ED, EE, EF, EG, XA, XB, XC, XD, XE, XF, XG, XH, XI, XJ, XK, XL, reduceIte, ↓reduceIte, Nat.reduceAdd, Nat.reduceLeDiff, Nat.reduceEqDiff, Nat.reduceLT, Nat.reduceSub, Nat.reduceBEq, forall_const, reduceCtorEq, implies_true, exists_eq_left', exists_eq_left, if_true, if_false, undef, crL]) (fun k hk => ?_)
  simp (maxSteps := 1000000) only [encS, EA, EB, EC, ED, EE, EF, EG, XA, XB, XC, XD, XE, XF, XG, XH, XI, XJ, XK, XL, reduceIte, ↓reduceIte, Nat.reduceAdd, Nat.reduceLeDiff, Nat.reduceEqDiff, Nat.reduceLT, Nat.reduceSub, Nat.reduceBEq, forall_const, reduceCtorEq, implies_true, exists_eq_left', exists_eq_left, if_true, if_false, undef]
  refine ⟨fun ha => ?_, fun ha => ?_⟩ <;> try simp (maxSteps := 1000000) only [encS, EA, EB, EC, ED, EE, EF, EG, XA, XB, XC, XD, XE, XF, XG, XH, XI, XJ, XK, XL, reduceIte, ↓reduceIte, Nat.reduceAdd, Nat.reduceLeDiff, Nat.reduceEqDiff, Nat.reduceLT, Nat.reduceSub, Nat.reduceBEq, forall_const, reduceCtorEq, implies_true, exists_eq_left', exists_eq_left, if_true, if_false, undef]
  · simp only [decide_eq_true_eq, List.length_map, Int.ofNat_lt, hhl] at ha
    have hw : IntKind.i64.wrap ((k : Int) + 1) = ((k + 1 : Nat) : Int) := by rw [wrap_id] <;> omega
    have hcl := crL_length M c b k
    have hcase := cross_cases hm hc b k
    have hll : ((crL M c b k).map I).length = (crL M c b k).length := by simp
    refine ⟨by omega, pickM (by rw [hhl]; exact ha) ?_⟩
    simp (maxSteps := 1000000) only [hds_at, hw, encS, EA, EB, EC, ED, EE, EF, EG, XA, XB, XC, XD, XE, XF, XG, XH, XI, XJ, XK, XL, reduceIte, ↓reduceIte, Nat.reduceAdd, Nat.reduceLeDiff, Nat.reduceEqDiff, Nat.reduceLT, Nat.reduceSub, Nat.reduceBEq, forall_const, reduceCtorEq, implies_true, exists_eq_left', exists_eq_left, if_true, if_false, undef]
    refine ⟨fun h2 => ?_, fun h2 => ?_⟩ <;> try simp (maxSteps := 1000000) only [encS, EA, EB, EC, ED, EE, EF, EG, XA, XB, XC, XD, XE, XF, XG, XH, XI, XJ, XK, XL, reduceIte, ↓reduceIte, Nat.reduceAdd, Nat.reduceLeDiff, Nat.reduceEqDiff, Nat.reduceLT, Nat.reduceSub, Nat.reduceBEq, forall_const, reduceCtorEq, implies_true, exists_eq_left', exists_eq_left, if_true, if_false, undef]
    · simp only [decide_eq_true_eq, List.length_map, Int.ofNat_lt, hhl] at h2
      rw [hw]
      refine ⟨by omega, pickM (by rw [hhl]; exact h2) ?_⟩
      simp (maxSteps := 1000000) only [hds_at, encS, EA, EB, EC, ED, EE, EF, EG, XA, XB, XC, XD, XE, XF, XG, XH, XI, XJ, XK, XL, reduceIte, ↓reduceIte, Nat.reduceAdd, Nat.reduceLeDiff, Nat.reduceEqDiff, Nat.reduceLT, Nat.reduceSub, Nat.reduceBEq, forall_const, reduceCtorEq, implies_true, exists_eq_left', exists_eq_left, if_true, if_false, undef]
      rcases hcase with ⟨e1, e2, hnext⟩ | ⟨e1, e3, e4, hnext⟩ | ⟨e1, e2, e3, hnext⟩ | ⟨e1, e3, e4, hnext⟩ | ⟨e1, e3, hnext⟩
      · simp (maxSteps := 1000000) only [e1, e2, hwb, encS, EA, EB, EC, ED, EE, EF, EG, XA, XB, XC, XD, XE, XF, XG, XH, XI, XJ, XK, XL, reduceIte, ↓reduceIte, Nat.reduceAdd, Nat.reduceLeDiff, Nat.reduceEqDiff, Nat.reduceLT, Nat.reduceSub, Nat.reduceBEq, forall_const, reduceCtorEq, implies_true, exists_eq_left', exists_eq_left, if_true, if_false, undef]
        refine ⟨by omega, pickM (by rw [sts_length]; omega) ?_⟩
        simp (maxSteps := 1000000) only [sts_at, hll, encS, EA, EB, EC, ED, EE, EF, EG, XA, XB, XC, XD, XE, XF, XG, XH, XI, XJ, XK, XL, reduceIte, ↓reduceIte, Nat.reduceAdd, Nat.reduceLeDiff, Nat.reduceEqDiff, Nat.reduceLT, Nat.reduceSub, Nat.reduceBEq, forall_const, reduceCtorEq, implies_true, exists_eq_left', exists_eq_left, if_true, if_false, undef]
        refine ⟨by omega, k + 1, [some 57], rfl, by omega, by omega, ?_⟩
        simp [Back, SubT, Sub, SubL, SubM, SubO, keepM, srcOk, look, lookM, ev, evs, putT, argT, encS, EA, EB, EC, ED, EE, EF, EG, XA, XB, XC, XD, XE, XF, XG, XH, XI, XJ, XK, XL, reduceIte, ↓reduceIte, Nat.reduceAdd, Nat.reduceLeDiff, Nat.reduceEqDiff, Nat.reduceLT, Nat.reduceSub, Nat.reduceBEq, forall_const, reduceCtorEq, implies_true, exists_eq_left', exists_eq_left, if_true, if_false, undef, hw, hnext]
      · simp (maxSteps := 1000000) only [e1, e3, e4, hwb, encS, EA, EB, EC, ED, EE, EF, EG, XA, XB, XC, XD, XE, XF, XG, XH, XI, XJ, XK, XL, reduceIte, ↓reduceIte, Nat.reduceAdd, Nat.reduceLeDiff, Nat.reduceEqDiff, Nat.reduceLT, Nat.reduceSub, Nat.reduceBEq, forall_const, reduceCtorEq, implies_true, exists_eq_left', exists_eq_left, if_true, if_false, undef]
        refine ⟨by omega, pickM (by rw [sts_length]; omega) ?_⟩
        simp (maxSteps := 1000000) only [sts_at, hll, encS, EA, EB, EC, ED, EE, EF, EG, XA, XB, XC, XD, XE, XF, XG, XH, XI, XJ, XK, XL, reduceIte, ↓reduceIte, Nat.reduceAdd, Nat.reduceLeDiff, Nat.reduceEqDiff, Nat.reduceLT, Nat.reduceSub, Nat.reduceBEq, forall_const, reduceCtorEq, implies_true, exists_eq_left', exists_eq_left, if_true, if_false, undef]
        refine ⟨by omega, k + 1, [some 57], rfl, by omega, by omega, ?_⟩
        simp [Back, SubT, Sub, SubL, SubM, SubO, keepM, srcOk, look, lookM, ev, evs, putT, argT, encS, EA, EB, EC, ED, EE, EF, EG, XA, XB, XC, XD, XE, XF, XG, XH, XI, XJ, XK, XL, reduceIte, ↓reduceIte, Nat.reduceAdd, Nat.reduceLeDiff, Nat.reduceEqDiff, Nat.reduceLT, Nat.reduceSub, Nat.reduceBEq, forall_const, reduceCtorEq, implies_true, exists_eq_left', exists_eq_left, if_true, if_false, undef, hw, hnext]
      · simp (maxSteps := 1000000) only [e1, e2, e3, hwb, encS, EA, EB, EC, ED, EE, EF, EG, XA, XB, XC, XD, XE, XF, XG, XH, XI, XJ, XK, XL, reduceIte, ↓reduceIte, Nat.reduceAdd, Nat.reduceLeDiff, Nat.reduceEqDiff, Nat.reduceLT, Nat.reduceSub, Nat.reduceBEq, forall_const, reduceCtorEq, implies_true, exists_eq_left', exists_eq_left, if_true, if_false, undef]
        refine ⟨k + 1, [some 7], rfl, by omega, by omega, ?_⟩
        simp [Back, SubT, Sub, SubL, SubM, SubO, keepM, srcOk, look, lookM, ev, evs, putT, argT, encS, EA, EB, EC, ED, EE, EF, EG, XA, XB, XC, XD, XE, XF, XG, XH, XI, XJ, XK, XL, reduceIte, ↓reduceIte, Nat.reduceAdd, Nat.reduceLeDiff, Nat.reduceEqDiff, Nat.reduceLT, Nat.reduceSub, Nat.reduceBEq, forall_const, reduceCtorEq, implies_true, exists_eq_left', exists_eq_left, if_true, if_false, undef, hw, hnext]
      · simp (maxSteps := 1000000) only [e1, e3, e4, hwb, encS, EA, EB, EC, ED, EE, EF, EG, XA, XB, XC, XD, XE, XF, XG, XH, XI, XJ, XK, XL, reduceIte, ↓reduceIte, Nat.reduceAdd, Nat.reduceLeDiff, Nat.reduceEqDiff, Nat.reduceLT, Nat.reduceSub, Nat.reduceBEq, forall_const, reduceCtorEq, implies_true, exists_eq_left', exists_eq_left, if_true, if_false, undef]
        refine ⟨k + 1, [some 7], rfl, by omega, by omega, ?_⟩
        simp [Back, SubT, Sub, SubL, SubM, SubO, keepM, srcOk, look, lookM, ev, evs, putT, argT, encS, EA, EB, EC, ED, EE, EF, EG, XA, XB, XC, XD, XE, XF, XG, XH, XI, XJ, XK, XL, reduceIte, ↓reduceIte, Nat.reduceAdd, Nat.reduceLeDiff, Nat.reduceEqDiff, Nat.reduceLT, Nat.reduceSub, Nat.reduceBEq, forall_const, reduceCtorEq, implies_true, exists_eq_left', exists_eq_left, if_true, if_false, undef, hw, hnext]
      · simp (maxSteps := 1000000) only [e1, e3, hwb, encS, EA, EB, EC, ED, EE, EF, EG, XA, XB, XC, XD, XE, XF, XG, XH, XI, XJ, XK, XL, reduceIte, ↓reduceIte, Nat.reduceAdd, Nat.reduceLeDiff, Nat.reduceEqDiff, Nat.reduceLT, Nat.reduceSub, Nat.reduceBEq, forall_const, reduceCtorEq, implies_true, exists_eq_left', exists_eq_left, if_true, if_false, undef]
        refine ⟨k + 1, [some 7], rfl, by omega, by omega, ?_⟩
        simp [Back, SubT, Sub, SubL, SubM, SubO, keepM, srcOk, look, lookM, ev, evs, putT, argT, encS, EA, EB, EC, ED, EE, EF, EG, XA, XB, XC, XD, XE, XF, XG, XH, XI, XJ, XK, XL, reduceIte, ↓reduceIte, Nat.reduceAdd, Nat.reduceLeDiff, Nat.reduceEqDiff, Nat.reduceLT, Nat.reduceSub, Nat.reduceBEq, forall_const, reduceCtorEq, implies_true, exists_eq_left', exists_eq_left, if_true, if_false, undef, hw, hnext]
    · simp only [decide_eq_false_iff_not, List.length_map, Int.ofNat_lt, hhl] at h2
      have hkD : k + 1 = D := by omega
      rw [show runC M c N = runC M c (k + 1) by rw [← hrun, hkD]]
      rcases hcase with ⟨e1, e2, hnext⟩ | ⟨e1, e3, e4, hnext⟩ | ⟨e1, e2, e3, hnext⟩ | ⟨e1, e3, e4, hnext⟩ | ⟨e1, e3, hnext⟩
      · simp (maxSteps := 1000000) only [e1, e2, hwb, encS, EA, EB, EC, ED, EE, EF, EG, XA, XB, XC, XD, XE, XF, XG, XH, XI, XJ, XK, XL, reduceIte, ↓reduceIte, Nat.reduceAdd, Nat.reduceLeDiff, Nat.reduceEqDiff, Nat.reduceLT, Nat.reduceSub, Nat.reduceBEq, forall_const, reduceCtorEq, implies_true, exists_eq_left', exists_eq_left, if_true, if_false, undef]
        refine ⟨by omega, pickM (by rw [sts_length]; omega) ?_⟩
        simp (maxSteps := 1000000) only [sts_at, hll, encS, EA, EB, EC, ED, EE, EF, EG, XA, XB, XC, XD, XE, XF, XG, XH, XI, XJ, XK, XL, reduceIte, ↓reduceIte, Nat.reduceAdd, Nat.reduceLeDiff, Nat.reduceEqDiff, Nat.reduceLT, Nat.reduceSub, Nat.reduceBEq, forall_const, reduceCtorEq, implies_true, exists_eq_left', exists_eq_left, if_true, if_false, undef]
        refine ⟨by omega, k + 1, [some 50], rfl, by omega, by omega, ?_⟩
        simp [Back, SubT, Sub, SubL, SubM, SubO, keepM, srcOk, look, lookM, ev, evs, putT, argT, encS, EA, EB, EC, ED, EE, EF, EG, XA, XB, XC, XD, XE, XF, XG, XH, XI, XJ, XK, XL, reduceIte, ↓reduceIte, Nat.reduceAdd, Nat.reduceLeDiff, Nat.reduceEqDiff, Nat.reduceLT, Nat.reduceSub, Nat.reduceBEq, forall_const, reduceCtorEq, implies_true, exists_eq_left', exists_eq_left, if_true, if_false, undef, hw, hnext]
      · simp (maxSteps := 1000000) only [e1, e3, e4, hwb, encS, EA, EB, EC, ED, EE, EF, EG, XA, XB, XC, XD, XE, XF, XG, XH, XI, XJ, XK, XL, reduceIte, ↓reduceIte, Nat.reduceAdd, Nat.reduceLeDiff, Nat.reduceEqDiff, Nat.reduceLT, Nat.reduceSub, Nat.reduceBEq, forall_const, reduceCtorEq, implies_true, exists_eq_left', exists_eq_left, if_true, if_false, undef]
        refine ⟨by omega, pickM (by rw [sts_length]; omega) ?_⟩
        simp (maxSteps := 1000000) only [sts_at, hll, encS, EA, EB, EC, ED, EE, EF, EG, XA, XB, XC, XD, XE, XF, XG, XH, XI, XJ, XK, XL, reduceIte, ↓reduceIte, Nat.reduceAdd, Nat.reduceLeDiff, Nat.reduceEqDiff, Nat.reduceLT, Nat.reduceSub, Nat.reduceBEq, forall_const, reduceCtorEq, implies_true, exists_eq_left', exists_eq_left, if_true, if_false, undef]
        refine ⟨by omega, k + 1, [some 50], rfl, by omega, by omega, ?_⟩
        simp [Back, SubT, Sub, SubL, SubM, SubO, keepM, srcOk, look, lookM, ev, evs, putT, argT, encS, EA, EB, EC, ED, EE, EF, EG, XA, XB, XC, XD, XE, XF, XG, XH, XI, XJ, XK, XL, reduceIte, ↓reduceIte, Nat.reduceAdd, Nat.reduceLeDiff, Nat.reduceEqDiff, Nat.reduceLT, Nat.reduceSub, Nat.reduceBEq, forall_const, reduceCtorEq, implies_true, exists_eq_left', exists_eq_left, if_true, if_false, undef, hw, hnext]
      · simp (maxSteps := 1000000) only [e1, e2, e3, hwb, encS, EA, EB, EC, ED, EE, EF, EG, XA, XB, XC, XD, XE, XF, XG, XH, XI, XJ, XK, XL, reduceIte, ↓reduceIte, Nat.reduceAdd, Nat.reduceLeDiff, Nat.reduceEqDiff, Nat.reduceLT, Nat.reduceSub, Nat.reduceBEq, forall_const, reduceCtorEq, implies_true, exists_eq_left', exists_eq_left, if_true, if_false, undef]
        refine ⟨k + 1, [some 7], rfl, by omega, by omega, ?_⟩
        simp [Back, SubT, Sub, SubL, SubM, SubO, keepM, srcOk, look, lookM, ev, evs, putT, argT, encS, EA, EB, EC, ED, EE, EF, EG, XA, XB, XC, XD, XE, XF, XG, XH, XI, XJ, XK, XL, reduceIte, ↓reduceIte, Nat.reduceAdd, Nat.reduceLeDiff, Nat.reduceEqDiff, Nat.reduceLT, Nat.reduceSub, Nat.reduceBEq, forall_const, reduceCtorEq, implies_true, exists_eq_left', exists_eq_left, if_true, if_false, undef, hw, hnext]
      · simp (maxSteps := 1000000) only [e1, e3, e4, hwb, encS, EA, EB, EC, ED, EE, EF, EG, XA, XB, XC, XD, XE, XF, XG, XH, XI, XJ, XK, XL, reduceIte, ↓reduceIte, Nat.reduceAdd, Nat.reduceLeDiff, Nat.reduceEqDiff, Nat.reduceLT, Nat.reduceSub, Nat.reduceBEq, forall_const, reduceCtorEq, implies_true, exists_eq_left', exists_eq_left, if_true, if_false, undef]
        refine ⟨k + 1, [some 7], rfl, by omega, by omega, ?_⟩
        simp [Back, SubT, Sub, SubL, SubM, SubO, keepM, srcOk, look, lookM, ev, evs, putT, argT, encS, EA, EB, EC, ED, EE, EF, EG, XA, XB, XC, XD, XE, XF, XG, XH, XI, XJ, XK, XL, reduceIte, ↓reduceIte, Nat.reduceAdd, Nat.reduceLeDiff, Nat.reduceEqDiff, Nat.reduceLT, Nat.reduceSub, Nat.reduceBEq, forall_const, reduceCtorEq, implies_true, exists_eq_left', exists_eq_left, if_true, if_false, undef, hw, hnext]
      · simp (maxSteps := 1000000) only [e1, e3, hwb, encS, EA, EB, EC, ED, EE, EF, EG, XA, XB, XC, XD, XE, XF, XG, XH, XI, XJ, XK, XL, reduceIte, ↓reduceIte, Nat.reduceAdd, Nat.reduceLeDiff, Nat.reduceEqDiff, Nat.reduceLT, Nat.reduceSub, Nat.reduceBEq, forall_const, reduceCtorEq, implies_true, exists_eq_left', exists_eq_left, if_true, if_false, undef]
        refine ⟨k + 1, [some 7], rfl, by omega, by omega, ?_⟩
        simp [Back, SubT, Sub, SubL, SubM, SubO, keepM, srcOk, look, lookM, ev, evs, putT, argT, encS, EA, EB, EC, ED, EE, EF, EG, XA, XB, XC, XD, XE, XF, XG, XH, XI, XJ, XK, XL, reduceIte, ↓reduceIte, Nat.reduceAdd, Nat.reduceLeDiff, Nat.reduceEqDiff, Nat.reduceLT, Nat.reduceSub, Nat.reduceBEq, forall_const, reduceCtorEq, implies_true, exists_eq_left', exists_eq_left, if_true, if_false, undef, hw, hnext]
  · simp only [decide_eq_false_iff_not, List.length_map, Int.ofNat_lt, hhl] at ha
    have : k = D := by omega
    subst this
    exact List.take_of_length_le (by simp)

end Go.Av
