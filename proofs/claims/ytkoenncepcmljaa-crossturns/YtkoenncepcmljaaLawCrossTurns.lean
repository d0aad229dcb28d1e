/- For any machine, any input and any steps: each border of the input is crossed to and fro, and all crossings together are no more than the steps; for all arguments. -/
import Derived.Test.YtkoenncepcmljaaCrossA
import Derived.Test.YtkoenncepcmljaaOpen
import Derived.Test.YtkoenncepcmljaaRows
import Derived.ProofKit
set_option linter.unusedSimpArgs false
set_option linter.unusedVariables false
set_option maxRecDepth 100000
namespace Go.Av
open Go.Proofs

theorem can_spec (M : Mach) (l : List Int) (steps : Int) (hl : (l.length : Int) < 2 ^ 63) : CallsA Try.prog 17 [encM M, .ro 1 (l.map I), I steps] (Bo (decide (runErr M l steps = 0))) [] := by
  refine fn_of0 comp17 (by simp) ?_
  unfold code17
  simp only [encM, encS, roI, EA, EB, EC, ED, EE, EF, EG, XA, XB, XC, XD, XE, XF, XG, XH, XI, XJ, XK, XL, reduceIte, ↓reduceIte, Nat.reduceAdd, Nat.reduceLeDiff, Nat.reduceEqDiff, Nat.reduceLT, Nat.reduceSub, Nat.reduceBEq, forall_const, reduceCtorEq, implies_true, exists_eq_left', exists_eq_left, if_true, if_false, undef]
  refine callF (CallsA.args (runCheck_spec M l steps hl ) (by simp [ encM,encS, roI, EA, EB, EC, ED, EE, EF, EG, XA, XB, XC, XD, XE, XF, XG, XH, XI, XJ, XK, XL, reduceIte, ↓reduceIte, Nat.reduceAdd, Nat.reduceLeDiff, Nat.reduceEqDiff, Nat.reduceLT, Nat.reduceSub, Nat.reduceBEq, forall_const, reduceCtorEq, implies_true, exists_eq_left', exists_eq_left, if_true, if_false, undef])) rfl (by simp [flat, encS, roI, EA, EB, EC, ED, EE, EF, EG, XA, XB, XC, XD, XE, XF, XG, XH, XI, XJ, XK, XL, reduceIte, ↓reduceIte, Nat.reduceAdd, Nat.reduceLeDiff, Nat.reduceEqDiff, Nat.reduceLT, Nat.reduceSub, Nat.reduceBEq, forall_const, reduceCtorEq, implies_true, exists_eq_left', exists_eq_left, if_true, if_false, undef]) ?_
  simp only [encS, roI, EA, EB, EC, ED, EE, EF, EG, XA, XB, XC, XD, XE, XF, XG, XH, XI, XJ, XK, XL, reduceIte, ↓reduceIte, Nat.reduceAdd, Nat.reduceLeDiff, Nat.reduceEqDiff, Nat.reduceLT, Nat.reduceSub, Nat.reduceBEq, forall_const, reduceCtorEq, implies_true, exists_eq_left', exists_eq_left, if_true, if_false, undef]
  by_cases h : runErr M l steps = 0 <;> simp [h]

def tot (M : Mach) (c : Cfg) (n k : Nat) : Nat := ((List.range n).map fun b => (crL M c (b : Nat) k).length).sum
theorem tot_succ (M : Mach) (c : Cfg) (n k : Nat) : tot M c (n + 1) k = tot M c n k + (crL M c (n : Nat) k).length := by simp [tot, List.range_succ]
theorem crL_len_succ (M : Mach) (c : Cfg) (b : Int) (k : Nat) : (crL M c b (k + 1)).length = (crL M c b k).length + (if (runC M c (k + 1)).head ≠ (runC M c k).head ∧ crAt M c k = b then 1 else 0) := by
  simp only [crL]
  split <;> simp
theorem tot_step (M : Mach) (c : Cfg) (k : Nat) : ∀ n, tot M c n (k + 1) = tot M c n k + (if (runC M c (k + 1)).head ≠ (runC M c k).head ∧ 0 ≤ crAt M c k ∧ crAt M c k < (n : Nat) then 1 else 0)
  | 0 => by
    rw [if_neg (by omega)]; simp [tot]
  | n + 1 => by
    rw [tot_succ, tot_succ, tot_step M c k n, crL_len_succ]
    by_cases h : (runC M c (k + 1)).head ≠ (runC M c k).head
    · by_cases h1 : 0 ≤ crAt M c k ∧ crAt M c k < (n : Nat)
      · rw [if_pos ⟨h, h1⟩, if_neg (by omega), if_pos ⟨h, by omega⟩]; omega
      · by_cases h2 : crAt M c k = (n : Nat)
        · rw [if_neg (by omega), if_pos ⟨h, h2⟩, if_pos ⟨h, by omega⟩]; omega
        · rw [if_neg (by omega), if_neg (by omega), if_neg (by omega)]; omega
    · rw [if_neg (fun q => h q.1), if_neg (fun q => h q.1), if_neg (fun q => h q.1)]; omega
theorem tot_le (M : Mach) (c : Cfg) (n : Nat) : ∀ k, tot M c n k ≤ k
  | 0 => by
    have : tot M c n 0 = 0 := by
      induction n with
      | zero => rfl
      | succ n ih => rw [tot_succ, ih]; simp [crL]
    omega
  | k + 1 => by
    have := tot_le M c n k
    rw [tot_step]
    split <;> omega

theorem parity {M : Mach} {c : Cfg} (hm : MOk M) (hc : COk M 120 c) (b : Int) : ∀ k, ((crL M c b k).length % 2 = 1 ↔ ¬((runC M c k).head ≥ b ↔ c.head ≥ b))
  | 0 => by simp [crL, runC]
  | k + 1 => by
    have ih := parity hm hc b k
    have hn := head_near hm hc k
    rw [crL_len_succ]
    have hi := cross_iff hm hc b k
    split
    · rename_i h
      rw [hi] at h
      by_cases h0 : c.head ≥ b <;> simp only [h0, iff_true, iff_false] at ih ⊢ <;> omega
    · rename_i h
      rw [hi] at h
      by_cases h0 : c.head ≥ b <;> simp only [h0, iff_true, iff_false] at ih ⊢ <;> omega

set_option maxHeartbeats 2000000 in
theorem crossTurns_spec (M : Mach) (l : List Int) (steps : Int) (hl : (l.length : Int) < 2 ^ 63) : CallsA Try.prog 4 [encM M, .ro 1 (l.map I), I steps] (Bo true) [] := by
  refine fn_of0 comp4 (by simp) ?_
  unfold code4
  simp only [encM, encS, roI, EA, EB, EC, ED, EE, EF, EG, XA, XB, XC, XD, XE, XF, XG, XH, XI, XJ, XK, XL, reduceIte, ↓reduceIte, Nat.reduceAdd, Nat.reduceLeDiff, Nat.reduceEqDiff, Nat.reduceLT, Nat.reduceSub, Nat.reduceBEq, forall_const, reduceCtorEq, implies_true, exists_eq_left', exists_eq_left, if_true, if_false, undef]
  refine callA (CallsA.args (all_spec M l steps hl ) (by simp [ encM,encS, roI, EA, EB, EC, ED, EE, EF, EG, XA, XB, XC, XD, XE, XF, XG, XH, XI, XJ, XK, XL, reduceIte, ↓reduceIte, Nat.reduceAdd, Nat.reduceLeDiff, Nat.reduceEqDiff, Nat.reduceLT, Nat.reduceSub, Nat.reduceBEq, forall_const, reduceCtorEq, implies_true, exists_eq_left', exists_eq_left, if_true, if_false, undef])) rfl ?_
  simp (maxSteps := 1000000) only [encS, roI, EA, EB, EC, ED, EE, EF, EG, XA, XB, XC, XD, XE, XF, XG, XH, XI, XJ, XK, XL, reduceIte, ↓reduceIte, Nat.reduceAdd, Nat.reduceLeDiff, Nat.reduceEqDiff, Nat.reduceLT, Nat.reduceSub, Nat.reduceBEq, forall_const, reduceCtorEq, implies_true, exists_eq_left', exists_eq_left, if_true, if_false, undef]
  refine callA (CallsA.args (run_spec M l steps hl ) (by simp [ encM,encS, roI, EA, EB, EC, ED, EE, EF, EG, XA, XB, XC, XD, XE, XF, XG, XH, XI, XJ, XK, XL, reduceIte, ↓reduceIte, Nat.reduceAdd, Nat.reduceLeDiff, Nat.reduceEqDiff, Nat.reduceLT, Nat.reduceSub, Nat.reduceBEq, forall_const, reduceCtorEq, implies_true, exists_eq_left', exists_eq_left, if_true, if_false, undef])) rfl ?_
  by_cases h : runErr M l steps = 0
  · obtain ⟨hg, hl8⟩ := runOk h
    obtain ⟨n, hn⟩ : ∃ n : Now, n = ⟨0, 0, 0, l⟩ := ⟨_, rfl⟩
    have hall : allL M l steps = crAll M (startC n) (l.length + 1) (doneC M (startC n) steps.toNat) := by rw [allL, if_pos h, hn]
    rw [← hn] at hg
    have hst := hg.steps
    have hdl := done_le M (startC n) steps.toNat
    have hck := runC_ok hg.mach hg.cfg steps.toNat
    obtain ⟨lo, hi, hs, ht, _⟩ := hck.tell
    have hdr := (done_run M (startC n) steps.toNat).2
    obtain ⟨D, hD⟩ : ∃ D, D = doneC M (startC n) steps.toNat := ⟨_, rfl⟩
    simp (maxSteps := 1000000) only [runAns, h, if_true, ← hn, encN, ht, encS, roI, EA, EB, EC, ED, EE, EF, EG, XA, XB, XC, XD, XE, XF, XG, XH, XI, XJ, XK, XL, reduceIte, ↓reduceIte, Nat.reduceAdd, Nat.reduceLeDiff, Nat.reduceEqDiff, Nat.reduceLT, Nat.reduceSub, Nat.reduceBEq, forall_const, reduceCtorEq, implies_true, exists_eq_left', exists_eq_left, if_true, if_false, undef]
    refine callF (CallsA.args (can_spec M l steps hl ) (by simp [ encM,encS, roI, EA, EB, EC, ED, EE, EF, EG, XA, XB, XC, XD, XE, XF, XG, XH, XI, XJ, XK, XL, reduceIte, ↓reduceIte, Nat.reduceAdd, Nat.reduceLeDiff, Nat.reduceEqDiff, Nat.reduceLT, Nat.reduceSub, Nat.reduceBEq, forall_const, reduceCtorEq, implies_true, exists_eq_left', exists_eq_left, if_true, if_false, undef])) rfl (by simp [flat, encS, roI, EA, EB, EC, ED, EE, EF, EG, XA, XB, XC, XD, XE, XF, XG, XH, XI, XJ, XK, XL, reduceIte, ↓reduceIte, Nat.reduceAdd, Nat.reduceLeDiff, Nat.reduceEqDiff, Nat.reduceLT, Nat.reduceSub, Nat.reduceBEq, forall_const, reduceCtorEq, implies_true, exists_eq_left', exists_eq_left, if_true, if_false, undef]) ?_
    have hrun : runC M (startC n) D = runC M (startC n) steps.toNat := by rw [hD]; exact hdr
    rw [← hD] at hall hdl
    rw [← hD, ← hrun]
    have ec : decide (runErr M l steps = 0) = true := by simp [h]
    have hw1 : IntKind.i64.wrap (((l.map I).length : Int) + 1) = (l.length : Int) + 1 := by rw [wrap_id] <;> simp <;> omega
    have hal : (((allL M l steps).map roI).length : Int) = (l.length : Int) + 1 := by rw [hall]; simp [crAll_length]
    simp (maxSteps := 1000000) only [ec, h, hw1, hal, decide_true, bne_self_eq_false, encS, roI, EA, EB, EC, ED, EE, EF, EG, XA, XB, XC, XD, XE, XF, XG, XH, XI, XJ, XK, XL, reduceIte, ↓reduceIte, Nat.reduceAdd, Nat.reduceLeDiff, Nat.reduceEqDiff, Nat.reduceLT, Nat.reduceSub, Nat.reduceBEq, forall_const, reduceCtorEq, implies_true, exists_eq_left', exists_eq_left, if_true, if_false, undef]
    have hc0 : (startC n).head = 0 := by rw [hn]; rfl
    have htot := tot_le M (startC n) (l.length + 1) D
    refine loop0 Nat [13, 12] (fun k => [I (k : Nat), I (tot M (startC n) k D : Nat)]) (fun k => k ≤ l.length + 1) (fun k => l.length + 1 - k) (by decide) 0 (by simp) (by simp [Back, SubT, Sub, SubL, SubM, SubO, keepM, srcOk, look, lookM, ev, evs, putT, argT, encS, roI, EA, EB, EC, ED, EE, EF, EG, XA, XB, XC, XD, XE, XF, XG, XH, XI, XJ, XK, XL, reduceIte, ↓reduceIte, Nat.reduceAdd, Nat.reduceLeDiff, Nat.reduceEqDiff, Nat.reduceLT, Nat.reduceSub, Nat.reduceBEq, forall_const, reduceCtorEq, implies_true, exists_eq_left', exists_eq_left, if_true, if_false, undef, tot]) (fun k hk => ?_)
    simp (maxSteps := 1000000) only [encS, roI, EA, EB, EC, ED, EE, EF, EG, XA, XB, XC, XD, XE, XF, XG, XH, XI, XJ, XK, XL, reduceIte, ↓reduceIte, Nat.reduceAdd, Nat.reduceLeDiff, Nat.reduceEqDiff, Nat.reduceLT, Nat.reduceSub, Nat.reduceBEq, forall_const, reduceCtorEq, implies_true, exists_eq_left', exists_eq_left, if_true, if_false, undef]
    refine ⟨fun ha => ?_, fun ha => ?_⟩ <;> try simp (maxSteps := 1000000) only [encS, roI, EA, EB, EC, ED, EE, EF, EG, XA, XB, XC, XD, XE, XF, XG, XH, XI, XJ, XK, XL, reduceIte, ↓reduceIte, Nat.reduceAdd, Nat.reduceLeDiff, Nat.reduceEqDiff, Nat.reduceLT, Nat.reduceSub, Nat.reduceBEq, forall_const, reduceCtorEq, implies_true, exists_eq_left', exists_eq_left, if_true, if_false, undef]
    · rw [hal] at ha
      simp only [decide_eq_true_eq] at ha
      have hk2 : k < (allL M l steps).length := by rw [hall, crAll_length]; omega
      have hgk : (allL M l steps)[k] = crL M (startC n) (k : Nat) D := by simp only [hall]; exact crAll_at _
      have hlk := crL_length M (startC n) (k : Nat) D
      have hts := tot_succ M (startC n) k D
      have htk := tot_le M (startC n) k D
      have hpar := parity hg.mach hg.cfg (k : Nat) D
      rw [hc0] at hpar
      refine ⟨by omega, pickM hk2 ?_⟩
      rw [hgk]
      have hml : (((crL M (startC n) (k : Nat) D).map I).length : Int) = ((crL M (startC n) (k : Nat) D).length : Nat) := by simp
      have hwa : IntKind.i64.wrap ((tot M (startC n) k D : Nat) + ((crL M (startC n) (k : Nat) D).length : Nat) : Int) = (tot M (startC n) (k + 1) D : Nat) := by rw [wrap_id] <;> omega
      simp (maxSteps := 1000000) only [hml, hwa, encS, roI, EA, EB, EC, ED, EE, EF, EG, XA, XB, XC, XD, XE, XF, XG, XH, XI, XJ, XK, XL, reduceIte, ↓reduceIte, Nat.reduceAdd, Nat.reduceLeDiff, Nat.reduceEqDiff, Nat.reduceLT, Nat.reduceSub, Nat.reduceBEq, forall_const, reduceCtorEq, implies_true, exists_eq_left', exists_eq_left, if_true, if_false, undef]
      refine ⟨by omega, pickM hk2 ?_⟩
      rw [hgk]
      simp (maxSteps := 1000000) only [hml, hwa, encS, roI, EA, EB, EC, ED, EE, EF, EG, XA, XB, XC, XD, XE, XF, XG, XH, XI, XJ, XK, XL, reduceIte, ↓reduceIte, Nat.reduceAdd, Nat.reduceLeDiff, Nat.reduceEqDiff, Nat.reduceLT, Nat.reduceSub, Nat.reduceBEq, forall_const, reduceCtorEq, implies_true, exists_eq_left', exists_eq_left, if_true, if_false, undef]
      refine ⟨by decide, ?_⟩
      have hw : IntKind.i64.wrap ((k : Int) + 1) = ((k + 1 : Nat) : Int) := by rw [wrap_id] <;> omega
      have hmod : ((crL M (startC n) (k : Nat) D).length : Int).tmod 2 = (((crL M (startC n) (k : Nat) D).length % 2 : Nat) : Int) := by
        rw [Int.tmod_eq_emod_of_nonneg (by omega)]; omega
      rw [hml, hmod]
      have hodd : ((((crL M (startC n) (k : Nat) D).length % 2 : Nat) : Int) == 1) = decide (¬((runC M (startC n) D).head ≥ (k : Nat) ↔ (0 : Int) ≥ (k : Nat))) := by
        rw [Bool.eq_iff_iff]
        simp only [beq_iff_eq, decide_eq_true_eq]
        rw [← hpar]; omega
      rw [hodd]
      by_cases hk0 : (k : Int) > 0
      · have f1 : decide ((k : Int) > 0) = true := by simp; omega
        have f2 : ((k : Int) == 0) = false := by simp; omega
        have f3 : (decide (¬((runC M (startC n) D).head ≥ (k : Nat) ↔ (0 : Int) ≥ (k : Nat))) != decide ((runC M (startC n) D).head ≥ (k : Nat))) = false := by
          have : ¬(0 : Int) ≥ (k : Nat) := by omega
          simp only [this, iff_false, Classical.not_not, bne_self_eq_false]
        simp (maxSteps := 1000000) only [f1, f2, f3, hw, encS, roI, EA, EB, EC, ED, EE, EF, EG, XA, XB, XC, XD, XE, XF, XG, XH, XI, XJ, XK, XL, reduceIte, ↓reduceIte, Nat.reduceAdd, Nat.reduceLeDiff, Nat.reduceEqDiff, Nat.reduceLT, Nat.reduceSub, Nat.reduceBEq, forall_const, reduceCtorEq, implies_true, exists_eq_left', exists_eq_left, if_true, if_false, undef]
        exact ⟨k + 1, by omega, by omega, by simp [Back, SubT, Sub, SubL, SubM, SubO, keepM, srcOk, look, lookM, ev, evs, putT, argT, encS, roI, EA, EB, EC, ED, EE, EF, EG, XA, XB, XC, XD, XE, XF, XG, XH, XI, XJ, XK, XL, reduceIte, ↓reduceIte, Nat.reduceAdd, Nat.reduceLeDiff, Nat.reduceEqDiff, Nat.reduceLT, Nat.reduceSub, Nat.reduceBEq, forall_const, reduceCtorEq, implies_true, exists_eq_left', exists_eq_left, if_true, if_false, undef]⟩
      · have f1 : decide ((k : Int) > 0) = false := by simp; omega
        have f2 : ((k : Int) == 0) = true := by simp; omega
        have f3 : (decide (¬((runC M (startC n) D).head ≥ (k : Nat) ↔ (0 : Int) ≥ (k : Nat))) == decide ((runC M (startC n) D).head ≥ (k : Nat))) = false := by
          have : (0 : Int) ≥ (k : Nat) := by omega
          simp only [this, iff_true]
          by_cases hq : (runC M (startC n) D).head ≥ (k : Nat) <;> simp [hq]
        simp (maxSteps := 1000000) only [f1, f2, f3, hw, encS, roI, EA, EB, EC, ED, EE, EF, EG, XA, XB, XC, XD, XE, XF, XG, XH, XI, XJ, XK, XL, reduceIte, ↓reduceIte, Nat.reduceAdd, Nat.reduceLeDiff, Nat.reduceEqDiff, Nat.reduceLT, Nat.reduceSub, Nat.reduceBEq, forall_const, reduceCtorEq, implies_true, exists_eq_left', exists_eq_left, if_true, if_false, undef]
        exact ⟨k + 1, by omega, by omega, by simp [Back, SubT, Sub, SubL, SubM, SubO, keepM, srcOk, look, lookM, ev, evs, putT, argT, encS, roI, EA, EB, EC, ED, EE, EF, EG, XA, XB, XC, XD, XE, XF, XG, XH, XI, XJ, XK, XL, reduceIte, ↓reduceIte, Nat.reduceAdd, Nat.reduceLeDiff, Nat.reduceEqDiff, Nat.reduceLT, Nat.reduceSub, Nat.reduceBEq, forall_const, reduceCtorEq, implies_true, exists_eq_left', exists_eq_left, if_true, if_false, undef]⟩
    · rw [hal] at ha
      simp only [decide_eq_false_iff_not] at ha
      have hke : k = l.length + 1 := by omega
      subst hke
      have f1 : decide (((tot M (startC n) (l.length + 1) D : Nat) : Int) ≤ (D : Nat)) = true := by simp; omega
      simp (maxSteps := 1000000) only [f1, encS, roI, EA, EB, EC, ED, EE, EF, EG, XA, XB, XC, XD, XE, XF, XG, XH, XI, XJ, XK, XL, reduceIte, ↓reduceIte, Nat.reduceAdd, Nat.reduceLeDiff, Nat.reduceEqDiff, Nat.reduceLT, Nat.reduceSub, Nat.reduceBEq, forall_const, reduceCtorEq, implies_true, exists_eq_left', exists_eq_left, if_true, if_false, undef]
  · have e1 : (runErr M l steps != 0) = true := by simp [h]
    have e2 : decide (runErr M l steps = 0) = false := by simp [h]
    simp (maxSteps := 1000000) only [runAns, h, if_false, encN, now0, encS, roI, EA, EB, EC, ED, EE, EF, EG, XA, XB, XC, XD, XE, XF, XG, XH, XI, XJ, XK, XL, reduceIte, ↓reduceIte, Nat.reduceAdd, Nat.reduceLeDiff, Nat.reduceEqDiff, Nat.reduceLT, Nat.reduceSub, Nat.reduceBEq, forall_const, reduceCtorEq, implies_true, exists_eq_left', exists_eq_left, if_true, if_false, undef]
    refine callF (CallsA.args (can_spec M l steps hl ) (by simp [ encM,encS, roI, EA, EB, EC, ED, EE, EF, EG, XA, XB, XC, XD, XE, XF, XG, XH, XI, XJ, XK, XL, reduceIte, ↓reduceIte, Nat.reduceAdd, Nat.reduceLeDiff, Nat.reduceEqDiff, Nat.reduceLT, Nat.reduceSub, Nat.reduceBEq, forall_const, reduceCtorEq, implies_true, exists_eq_left', exists_eq_left, if_true, if_false, undef])) rfl (by simp [flat, encS, roI, EA, EB, EC, ED, EE, EF, EG, XA, XB, XC, XD, XE, XF, XG, XH, XI, XJ, XK, XL, reduceIte, ↓reduceIte, Nat.reduceAdd, Nat.reduceLeDiff, Nat.reduceEqDiff, Nat.reduceLT, Nat.reduceSub, Nat.reduceBEq, forall_const, reduceCtorEq, implies_true, exists_eq_left', exists_eq_left, if_true, if_false, undef]) ?_
    simp [e1, e2, h, encS, roI, EA, EB, EC, ED, EE, EF, EG, XA, XB, XC, XD, XE, XF, XG, XH, XI, XJ, XK, XL, reduceIte, ↓reduceIte, Nat.reduceAdd, Nat.reduceLeDiff, Nat.reduceEqDiff, Nat.reduceLT, Nat.reduceSub, Nat.reduceBEq, forall_const, reduceCtorEq, implies_true, exists_eq_left', exists_eq_left, if_true, if_false, undef]

def sh_CrossTurns : List Sh := [shMach, .slice 1 (.int .i64), .int .i64]
theorem law_CrossTurns (xs : List AV) (h : HasAll sh_CrossTurns xs) : CallsA Try.prog 4 xs (.v (.bool true)) [] := by
  obtain ⟨x, r, rfl, hx, y, r, rfl, hy, z, r, rfl, hz, rfl⟩ := h
  obtain ⟨m, rfl⟩ := hasMach hx
  obtain ⟨l, rfl, hn⟩ := hasInts hy
  obtain ⟨s, rfl, _⟩ := hasInt hz
  exact crossTurns_spec m l s hn

end Go.Av
namespace Go.Proofs.Ytkoenncepcmljaa
open Go.ChangeShapes Go.WideShapes Go.ChangeAt Go.RowKit
open Go.Av (open_all shut_all OldS HasAll Sh CallsA shAll)

theorem own : ownKnob Try.prog.godebug = none := by kernel_rfl
theorem laidOut : laidOutB Try.prog = true := by kernel_rfl
theorem shs_eq : shAll Try.prog 12 Try.f4.params.toList = some Go.Av.sh_CrossTurns := by kernel_rfl
theorem readable : (Try.f4.params.toList.all fun t => Try.prog.readableRec t && decide (t < Try.prog.types.size)) = true := by kernel_rfl

theorem lifted (os : Os) (started : os.Started) (H : Type) (enc : TypeId × Value → H) :
    ReturnsInHanded {} Try.checked os 4 .any (Rows.crossTurnsSpec.pre6 enc Try.prog Try.f4 Rows.crossTurnsRow.domain false) (Rows.crossTurnsSpec.post enc Try.prog Try.f4 false true false false) := by
  refine returnsInHanded_of_change (C := Try.checked) own started (by kernel_rfl) Try.func4
    (ChangeSpec.witness6 (enc := enc) (C := Try.checked) false ⟨#[], #[.agg #[.int .i64 0, .int .i64 0, .slice none 0 0], .slice none 0 0, .int .i64 0], []⟩ 8 (by kernel_rfl) (by kernel_rfl) (by kernel_rfl) (by kernel_rfl)) ?_
  intro W base args ds gs before hval0 hW hcnd _
  have hval : ∀ (j : Nat) t v, Try.f4.params[j]? = some t → args[j]? = some v → Value.okWide Try.prog W .any base t v := hval0
  have hW' := hW
  obtain ⟨p, q, hA0, hV, rfl, hfz, hnd⟩ := hW
  have hA : DataW.TrodAll enc Try.prog W 0 (fun _ => true) true Try.f4.params.toList args.toList ds p := hA0
  obtain ⟨xs, hxs, hlen, hR⟩ := open_all (g := 12) _ _ _ _ Go.Av.sh_CrossTurns hA (fun j t v ht hv => hval j t v (by simpa using ht) (by simpa using hv)) shs_eq
  obtain ⟨rfl, rfl⟩ := trodVars_none hV
  have hB := hA
  rw [Try.params4] at hB
  obtain ⟨v0, vs0, d0, ds0, p0, q0, hargs0, rfl, rfl, h0, r0⟩ := trodAll_cons hB
  obtain ⟨v1, vs1, d1, ds1, p1, q1, hargs1, rfl, rfl, h1, r1⟩ := trodAll_cons r0
  obtain ⟨v2, vs2, d2, ds2, p2, q2, hargs2, rfl, rfl, h2, r2⟩ := trodAll_cons r1
  obtain ⟨rfl, rfl, rfl⟩ := trodAll_nil r2
  refine ((Go.Av.law_CrossTurns xs hxs).2 W (OldS W) args (fun _ h => h) (by simpa using hlen) (fun i x y h1 h2 => hR i x y h1 (by simpa using h2))).mono ?_
  rintro e W' ⟨v, S', κ', rfl, hv, _, _, _, bel⟩
  rw [hv.v_inv]
  exact ⟨_, rfl, _, _, _, [], _, [], hW', trodAll_mk1 (shut_bool Try.underlying4 _), shut_all laidOut bel _ _ _ _ (fun t ht => by
    have := (List.all_eq_true.1 readable) t ht
    simpa using this) hA, rfl, bel.frame _, fun h => by cases h⟩

theorem crossTurns_holds : Rows.CrossTurnsSaid :=
  OpenClaim.holds_of_wide 4 Try.f4 rfl rfl rfl rfl rfl rfl rfl ⟨rfl, rfl, rfl, rfl, rfl⟩ rfl rfl rfl rfl rfl (by kernel_rfl) Try.func4 (by kernel_rfl)
    (of_decide_eq_true (by kernel_rfl)) (by unfold Func.isWrapper; first | (rw [if_pos (by decide +kernel)]; kernel_rfl) | (rw [if_neg (by decide +kernel)]; exact ⟨rfl, rfl⟩))
    (fun os started H enc _ => lifted os started H enc)

end Go.Proofs.Ytkoenncepcmljaa
