/- For any machine that halts, any two inputs and a border of each with the same crossing sequence, on whose first sides the runs end: with the first part of the one and the second part of the other the first side comes to the same; for all arguments. -/
import Derived.Test.YtkoenncepcmljaaPaste
import Derived.Test.YtkoenncepcmljaaLend
import Derived.Test.YtkoenncepcmljaaOpen
import Derived.Test.YtkoenncepcmljaaRows
import Derived.ProofKit
set_option linter.unusedSimpArgs false
set_option linter.unusedVariables false
set_option maxRecDepth 100000
namespace Go.Av
open Go.Proofs

theorem can_spec (M : Mach) (l : List Int) (steps : Int) (hl : (l.length : Int) < 2 ^ 63) : CallsA Try.prog 17 [encM M, .ro 1 (l.map I), I steps] (Bo (decide (runErr M l steps = 0))) [] := by
  refine fn_of0 comp17 (by simp) ?_
  unfold code17
  simp only [encM, encS, roI, EA, EB, EC, ED, EE, EF, EG, XA, XB, XC, XD, XE, XF, XG, XH, XI, XJ, XK, XL, reduceIte, ↓reduceIte, Nat.reduceAdd, Nat.reduceLeDiff, Nat.reduceEqDiff, Nat.reduceLT, Nat.reduceSub, Nat.reduceBEq, forall_const, reduceCtorEq, implies_true, exists_eq_left', exists_eq_left, if_true, if_false, undef]
  refine callF (CallsA.args (runCheck_spec M l steps hl ) (by simp [ encM,encS, roI, EA, EB, EC, ED, EE, EF, EG, XA, XB, XC, XD, XE, XF, XG, XH, XI, XJ, XK, XL, reduceIte, ↓reduceIte, Nat.reduceAdd, Nat.reduceLeDiff, Nat.reduceEqDiff, Nat.reduceLT, Nat.reduceSub, Nat.reduceBEq, forall_const, reduceCtorEq, implies_true, exists_eq_left', exists_eq_left, if_true, if_false, undef])) rfl (by simp [flat, encS, roI, EA, EB, EC, ED, EE, EF, EG, XA, XB, XC, XD, XE, XF, XG, XH, XI, XJ, XK, XL, reduceIte, ↓reduceIte, Nat.reduceAdd, Nat.reduceLeDiff, Nat.reduceEqDiff, Nat.reduceLT, Nat.reduceSub, Nat.reduceBEq, forall_const, reduceCtorEq, implies_true, exists_eq_left', exists_eq_left, if_true, if_false, undef]) ?_
  simp only [encS, roI, EA, EB, EC, ED, EE, EF, EG, XA, XB, XC, XD, XE, XF, XG, XH, XI, XJ, XK, XL, reduceIte, ↓reduceIte, Nat.reduceAdd, Nat.reduceLeDiff, Nat.reduceEqDiff, Nat.reduceLT, Nat.reduceSub, Nat.reduceBEq, forall_const, reduceCtorEq, implies_true, exists_eq_left', exists_eq_left, if_true, if_false, undef]
  by_cases h : runErr M l steps = 0 <;> simp [h]

theorem signK_spec (n : Now) (x : Int) (hx : -1000 ≤ x ∧ x ≤ 1000) (hf : -1000 ≤ n.first ∧ n.first ≤ 1000) (hl : n.tape.length ≤ 1000) : CallsA Try.prog 19 [encN n, I x] (I (tapeF n.first n.tape x)) [] := by
  refine fn_of0 comp19 (by simp) ?_
  unfold code19
  have hw : IntKind.i64.wrap (x - n.first) = x - n.first := by rw [wrap_id] <;> omega
  have hll : ((n.tape.map I).length : Int) = n.tape.length := by simp
  simp (maxSteps := 1000000) only [encN, encS, roI, EA, EB, EC, ED, EE, EF, EG, XA, XB, XC, XD, XE, XF, XG, XH, XI, XJ, XK, XL, reduceIte, ↓reduceIte, Nat.reduceAdd, Nat.reduceLeDiff, Nat.reduceEqDiff, Nat.reduceLT, Nat.reduceSub, Nat.reduceBEq, forall_const, reduceCtorEq, implies_true, exists_eq_left', exists_eq_left, if_true, if_false, undef]
  by_cases h1 : x < n.first
  · have e1 : decide (x < n.first) = true := by simp [h1]
    simp (maxSteps := 1000000) only [e1, encS, roI, EA, EB, EC, ED, EE, EF, EG, XA, XB, XC, XD, XE, XF, XG, XH, XI, XJ, XK, XL, reduceIte, ↓reduceIte, Nat.reduceAdd, Nat.reduceLeDiff, Nat.reduceEqDiff, Nat.reduceLT, Nat.reduceSub, Nat.reduceBEq, forall_const, reduceCtorEq, implies_true, exists_eq_left', exists_eq_left, if_true, if_false, undef]
    rw [tapeF, if_neg (by omega)]
  · have e1 : decide (x < n.first) = false := by simp [h1]
    by_cases h2 : x - n.first ≥ n.tape.length
    · have e2 : decide (x - n.first ≥ (n.tape.length : Int)) = true := by simp; omega
      simp (maxSteps := 1000000) only [e1, e2, hw, hll, encS, roI, EA, EB, EC, ED, EE, EF, EG, XA, XB, XC, XD, XE, XF, XG, XH, XI, XJ, XK, XL, reduceIte, ↓reduceIte, Nat.reduceAdd, Nat.reduceLeDiff, Nat.reduceEqDiff, Nat.reduceLT, Nat.reduceSub, Nat.reduceBEq, forall_const, reduceCtorEq, implies_true, exists_eq_left', exists_eq_left, if_true, if_false, undef]
      rw [tapeF, if_pos (by omega), List.getElem?_eq_none (by omega)]; rfl
    · have e2 : decide (x - n.first ≥ (n.tape.length : Int)) = false := by simp; omega
      simp (maxSteps := 1000000) only [e1, e2, hw, hll, encS, roI, EA, EB, EC, ED, EE, EF, EG, XA, XB, XC, XD, XE, XF, XG, XH, XI, XJ, XK, XL, reduceIte, ↓reduceIte, Nat.reduceAdd, Nat.reduceLeDiff, Nat.reduceEqDiff, Nat.reduceLT, Nat.reduceSub, Nat.reduceBEq, forall_const, reduceCtorEq, implies_true, exists_eq_left', exists_eq_left, if_true, if_false, undef]
      refine ⟨by omega, pickI (by omega) ?_⟩
      simp (maxSteps := 1000000) only [encS, roI, EA, EB, EC, ED, EE, EF, EG, XA, XB, XC, XD, XE, XF, XG, XH, XI, XJ, XK, XL, reduceIte, ↓reduceIte, Nat.reduceAdd, Nat.reduceLeDiff, Nat.reduceEqDiff, Nat.reduceLT, Nat.reduceSub, Nat.reduceBEq, forall_const, reduceCtorEq, implies_true, exists_eq_left', exists_eq_left, if_true, if_false, undef]
      rw [tapeF, if_pos (by omega), List.getElem?_eq_getElem (by omega), Option.getD_some]

theorem runErr_paste {M : Mach} {a b : List Int} {p q : Nat} (ha : runErr M a 60 = 0) (hb : runErr M b 60 = 0) (hl : (a.take p ++ b.drop q).length ≤ 8) : runErr M (a.take p ++ b.drop q) 60 = 0 := by
  have ga := (runOk ha).1
  have gb := (runOk hb).1
  have hm : machErr M = 0 := by
    simp only [runErr] at ha
    split at ha
    · rename_i h; exact (h ha).elim
    · rename_i h; exact Classical.byContradiction h
  simp only [runErr]
  rw [if_neg (by omega), if_neg (by omega), if_neg, if_neg (by omega)]
  simp only [Bool.not_eq_false, List.all_eq_true, decide_eq_true_eq]
  intro i hi
  rcases List.mem_append.1 hi with h | h
  · exact ga.sg i (List.mem_of_mem_take h)
  · exact gb.sg i (List.mem_of_mem_drop h)

theorem tell_sign {c : Cfg} {lo hi : Int} (h : IsSpan c.f c.head lo hi) (x : Int) : tapeF lo (cellsF c.f lo (hi - lo + 1).toNat) x = c.f x := by
  obtain ⟨h1, h2, h3, _⟩ := h
  rw [tapeF_cells]
  intro y hy
  have := h3 y hy
  omega

set_option maxHeartbeats 4000000 in
theorem crossPaste_spec (M : Mach) (a b : List Int) (i j : Int) (hi : 0 ≤ i ∧ i ≤ 255) (hj : 0 ≤ j ∧ j ≤ 255) (hla : (a.length : Int) < 2 ^ 63) (hlb : (b.length : Int) < 2 ^ 63) :
    CallsA Try.prog 5 [encM M, .ro 1 (a.map I), .ro 1 (b.map I), .v (.int .u8 i), .v (.int .u8 j)] (Bo true) [] := by
  refine fn_of0 comp5 (by simp) ?_
  unfold code5
  simp only [encM, encS, roI, EA, EB, EC, ED, EE, EF, EG, XA, XB, XC, XD, XE, XF, XG, XH, XI, XJ, XK, XL, reduceIte, ↓reduceIte, Nat.reduceAdd, Nat.reduceLeDiff, Nat.reduceEqDiff, Nat.reduceLT, Nat.reduceSub, Nat.reduceBEq, forall_const, reduceCtorEq, implies_true, exists_eq_left', exists_eq_left, if_true, if_false, undef]
  refine callA (CallsA.args (all_spec M a 60 hla ) (by simp [ encM,encS, roI, EA, EB, EC, ED, EE, EF, EG, XA, XB, XC, XD, XE, XF, XG, XH, XI, XJ, XK, XL, reduceIte, ↓reduceIte, Nat.reduceAdd, Nat.reduceLeDiff, Nat.reduceEqDiff, Nat.reduceLT, Nat.reduceSub, Nat.reduceBEq, forall_const, reduceCtorEq, implies_true, exists_eq_left', exists_eq_left, if_true, if_false, undef])) rfl ?_
  simp (maxSteps := 1000000) only [encS, roI, EA, EB, EC, ED, EE, EF, EG, XA, XB, XC, XD, XE, XF, XG, XH, XI, XJ, XK, XL, reduceIte, ↓reduceIte, Nat.reduceAdd, Nat.reduceLeDiff, Nat.reduceEqDiff, Nat.reduceLT, Nat.reduceSub, Nat.reduceBEq, forall_const, reduceCtorEq, implies_true, exists_eq_left', exists_eq_left, if_true, if_false, undef]
  refine callA (CallsA.args (all_spec M b 60 hlb ) (by simp [ encM,encS, roI, EA, EB, EC, ED, EE, EF, EG, XA, XB, XC, XD, XE, XF, XG, XH, XI, XJ, XK, XL, reduceIte, ↓reduceIte, Nat.reduceAdd, Nat.reduceLeDiff, Nat.reduceEqDiff, Nat.reduceLT, Nat.reduceSub, Nat.reduceBEq, forall_const, reduceCtorEq, implies_true, exists_eq_left', exists_eq_left, if_true, if_false, undef])) rfl ?_
  simp (maxSteps := 1000000) only [encS, roI, EA, EB, EC, ED, EE, EF, EG, XA, XB, XC, XD, XE, XF, XG, XH, XI, XJ, XK, XL, reduceIte, ↓reduceIte, Nat.reduceAdd, Nat.reduceLeDiff, Nat.reduceEqDiff, Nat.reduceLT, Nat.reduceSub, Nat.reduceBEq, forall_const, reduceCtorEq, implies_true, exists_eq_left', exists_eq_left, if_true, if_false, undef]
  refine callA (CallsA.args (run_spec M a 60 hla ) (by simp [ encM,encS, roI, EA, EB, EC, ED, EE, EF, EG, XA, XB, XC, XD, XE, XF, XG, XH, XI, XJ, XK, XL, reduceIte, ↓reduceIte, Nat.reduceAdd, Nat.reduceLeDiff, Nat.reduceEqDiff, Nat.reduceLT, Nat.reduceSub, Nat.reduceBEq, forall_const, reduceCtorEq, implies_true, exists_eq_left', exists_eq_left, if_true, if_false, undef])) rfl ?_
  by_cases hA : runErr M a 60 = 0
  · obtain ⟨gA, hA8⟩ := runOk hA
    obtain ⟨cA, hcA⟩ : ∃ cA, cA = startC ⟨0, 0, 0, a⟩ := ⟨_, rfl⟩
    have kA : COk M 120 cA := hcA ▸ gA.cfg
    obtain ⟨loA, hiA, sA, tA, bA⟩ := (runC_ok gA.mach kA 60).tell
    have h60 : (60 : Int).toNat = 60 := rfl
    simp (maxSteps := 1000000) only [runAns, hA, if_true, h60, ← hcA, encN, tA, encS, roI, EA, EB, EC, ED, EE, EF, EG, XA, XB, XC, XD, XE, XF, XG, XH, XI, XJ, XK, XL, reduceIte, ↓reduceIte, Nat.reduceAdd, Nat.reduceLeDiff, Nat.reduceEqDiff, Nat.reduceLT, Nat.reduceSub, Nat.reduceBEq, forall_const, reduceCtorEq, implies_true, exists_eq_left', exists_eq_left, if_true, if_false, undef]
    refine callA (CallsA.args (run_spec M b 60 hlb ) (by simp [ encM,encS, roI, EA, EB, EC, ED, EE, EF, EG, XA, XB, XC, XD, XE, XF, XG, XH, XI, XJ, XK, XL, reduceIte, ↓reduceIte, Nat.reduceAdd, Nat.reduceLeDiff, Nat.reduceEqDiff, Nat.reduceLT, Nat.reduceSub, Nat.reduceBEq, forall_const, reduceCtorEq, implies_true, exists_eq_left', exists_eq_left, if_true, if_false, undef])) rfl ?_
    by_cases hB : runErr M b 60 = 0
    · obtain ⟨gB, hB8⟩ := runOk hB
      obtain ⟨cB, hcB⟩ : ∃ cB, cB = startC ⟨0, 0, 0, b⟩ := ⟨_, rfl⟩
      have kB : COk M 120 cB := hcB ▸ gB.cfg
      obtain ⟨loB, hiB, sB, tB, bB⟩ := (runC_ok gB.mach kB 60).tell
      simp (maxSteps := 1000000) only [runAns, hB, if_true, h60, ← hcB, encN, tB, encS, roI, EA, EB, EC, ED, EE, EF, EG, XA, XB, XC, XD, XE, XF, XG, XH, XI, XJ, XK, XL, reduceIte, ↓reduceIte, Nat.reduceAdd, Nat.reduceLeDiff, Nat.reduceEqDiff, Nat.reduceLT, Nat.reduceSub, Nat.reduceBEq, forall_const, reduceCtorEq, implies_true, exists_eq_left', exists_eq_left, if_true, if_false, undef]
      refine callF (CallsA.args (can_spec M a 60 hla ) (by simp [ encM,encS, roI, EA, EB, EC, ED, EE, EF, EG, XA, XB, XC, XD, XE, XF, XG, XH, XI, XJ, XK, XL, reduceIte, ↓reduceIte, Nat.reduceAdd, Nat.reduceLeDiff, Nat.reduceEqDiff, Nat.reduceLT, Nat.reduceSub, Nat.reduceBEq, forall_const, reduceCtorEq, implies_true, exists_eq_left', exists_eq_left, if_true, if_false, undef])) rfl (by simp [flat, encS, roI, EA, EB, EC, ED, EE, EF, EG, XA, XB, XC, XD, XE, XF, XG, XH, XI, XJ, XK, XL, reduceIte, ↓reduceIte, Nat.reduceAdd, Nat.reduceLeDiff, Nat.reduceEqDiff, Nat.reduceLT, Nat.reduceSub, Nat.reduceBEq, forall_const, reduceCtorEq, implies_true, exists_eq_left', exists_eq_left, if_true, if_false, undef]) ?_
      have ecA : decide (runErr M a 60 = 0) = true := by simp [hA]
      have ecB : decide (runErr M b 60 = 0) = true := by simp [hB]
      simp (maxSteps := 1000000) only [hA, hB, decide_true, encS, roI, EA, EB, EC, ED, EE, EF, EG, XA, XB, XC, XD, XE, XF, XG, XH, XI, XJ, XK, XL, reduceIte, ↓reduceIte, Nat.reduceAdd, Nat.reduceLeDiff, Nat.reduceEqDiff, Nat.reduceLT, Nat.reduceSub, Nat.reduceBEq, forall_const, reduceCtorEq, implies_true, exists_eq_left', exists_eq_left, if_true, if_false, undef]
      refine callF (CallsA.args (can_spec M b 60 hlb ) (by simp [ encM,encS, roI, EA, EB, EC, ED, EE, EF, EG, XA, XB, XC, XD, XE, XF, XG, XH, XI, XJ, XK, XL, reduceIte, ↓reduceIte, Nat.reduceAdd, Nat.reduceLeDiff, Nat.reduceEqDiff, Nat.reduceLT, Nat.reduceSub, Nat.reduceBEq, forall_const, reduceCtorEq, implies_true, exists_eq_left', exists_eq_left, if_true, if_false, undef])) rfl (by simp [flat, encS, roI, EA, EB, EC, ED, EE, EF, EG, XA, XB, XC, XD, XE, XF, XG, XH, XI, XJ, XK, XL, reduceIte, ↓reduceIte, Nat.reduceAdd, Nat.reduceLeDiff, Nat.reduceEqDiff, Nat.reduceLT, Nat.reduceSub, Nat.reduceBEq, forall_const, reduceCtorEq, implies_true, exists_eq_left', exists_eq_left, if_true, if_false, undef]) ?_
      have hallA : allL M a 60 = crAll M cA (a.length + 1) (doneC M cA 60) := by rw [allL, if_pos hA, hcA]; rfl
      have hallB : allL M b 60 = crAll M cB (b.length + 1) (doneC M cB 60) := by rw [allL, if_pos hB, hcB]; rfl
      have hwA : IntKind.i64.wrap (((a.map I).length : Int) + 1) = ((a.length + 1 : Nat) : Int) := by rw [wrap_id] <;> simp <;> omega
      have hwB : IntKind.i64.wrap (((b.map I).length : Int) + 1) = ((b.length + 1 : Nat) : Int) := by rw [wrap_id] <;> simp <;> omega
      have lA : (((allL M a 60).map roI).length : Int) = ((a.length + 1 : Nat) : Int) := by rw [hallA]; simp [crAll_length]
      have lB : (((allL M b 60).map roI).length : Int) = ((b.length + 1 : Nat) : Int) := by rw [hallB]; simp [crAll_length]
      have hwi : IntKind.i64.wrap i = i := by rw [wrap_id] <;> omega
      have hwj : IntKind.i64.wrap j = j := by rw [wrap_id] <;> omega
      simp (maxSteps := 1000000) only [hA, hB, lA, lB, hwA, hwB, hwi, hwj, decide_true, bne_self_eq_false, encS, roI, EA, EB, EC, ED, EE, EF, EG, XA, XB, XC, XD, XE, XF, XG, XH, XI, XJ, XK, XL, reduceIte, ↓reduceIte, Nat.reduceAdd, Nat.reduceLeDiff, Nat.reduceEqDiff, Nat.reduceLT, Nat.reduceSub, Nat.reduceBEq, forall_const, reduceCtorEq, implies_true, exists_eq_left', exists_eq_left, if_true, if_false, undef]
      refine ⟨by omega, by omega, ?_⟩
      obtain ⟨p, hp⟩ : ∃ p : Nat, i.tmod ((a.length + 1 : Nat) : Int) = (p : Int) := ⟨(i.tmod ((a.length + 1 : Nat) : Int)).toNat, by have := Int.tmod_nonneg ((a.length + 1 : Nat) : Int) hi.1; omega⟩
      obtain ⟨q, hq⟩ : ∃ q : Nat, j.tmod ((b.length + 1 : Nat) : Int) = (q : Int) := ⟨(j.tmod ((b.length + 1 : Nat) : Int)).toNat, by have := Int.tmod_nonneg ((b.length + 1 : Nat) : Int) hj.1; omega⟩
      have hpl : p ≤ a.length := by have := Int.tmod_lt_of_pos i (b := ((a.length + 1 : Nat) : Int)) (by omega); omega
      have hql : q ≤ b.length := by have := Int.tmod_lt_of_pos j (b := ((b.length + 1 : Nat) : Int)) (by omega); omega
      rw [hp, hq]
      by_cases c1 : (runC M cA 60).st < M.states
      · have f1 : decide ((runC M cA 60).st < M.states) = true := by simp [c1]
        simp (maxSteps := 1000000) only [f1, encS, roI, EA, EB, EC, ED, EE, EF, EG, XA, XB, XC, XD, XE, XF, XG, XH, XI, XJ, XK, XL, reduceIte, ↓reduceIte, Nat.reduceAdd, Nat.reduceLeDiff, Nat.reduceEqDiff, Nat.reduceLT, Nat.reduceSub, Nat.reduceBEq, forall_const, reduceCtorEq, implies_true, exists_eq_left', exists_eq_left, if_true, if_false, undef]
      have f1 : decide ((runC M cA 60).st < M.states) = false := by simp [c1]
      by_cases c2 : (runC M cB 60).st < M.states
      · have f2 : decide ((runC M cB 60).st < M.states) = true := by simp [c2]
        simp (maxSteps := 1000000) only [f1, f2, encS, roI, EA, EB, EC, ED, EE, EF, EG, XA, XB, XC, XD, XE, XF, XG, XH, XI, XJ, XK, XL, reduceIte, ↓reduceIte, Nat.reduceAdd, Nat.reduceLeDiff, Nat.reduceEqDiff, Nat.reduceLT, Nat.reduceSub, Nat.reduceBEq, forall_const, reduceCtorEq, implies_true, exists_eq_left', exists_eq_left, if_true, if_false, undef]
      have f2 : decide ((runC M cB 60).st < M.states) = false := by simp [c2]
      by_cases c3 : p = 0
      · have f3 : ((p : Int) == 0) = true := by simp [c3]
        simp (maxSteps := 1000000) only [f1, f2, f3, encS, roI, EA, EB, EC, ED, EE, EF, EG, XA, XB, XC, XD, XE, XF, XG, XH, XI, XJ, XK, XL, reduceIte, ↓reduceIte, Nat.reduceAdd, Nat.reduceLeDiff, Nat.reduceEqDiff, Nat.reduceLT, Nat.reduceSub, Nat.reduceBEq, forall_const, reduceCtorEq, implies_true, exists_eq_left', exists_eq_left, if_true, if_false, undef]
      have f3 : ((p : Int) == 0) = false := by simp [c3]
      by_cases c4 : q = 0
      · have f4 : ((q : Int) == 0) = true := by simp [c4]
        simp (maxSteps := 1000000) only [f1, f2, f3, f4, encS, roI, EA, EB, EC, ED, EE, EF, EG, XA, XB, XC, XD, XE, XF, XG, XH, XI, XJ, XK, XL, reduceIte, ↓reduceIte, Nat.reduceAdd, Nat.reduceLeDiff, Nat.reduceEqDiff, Nat.reduceLT, Nat.reduceSub, Nat.reduceBEq, forall_const, reduceCtorEq, implies_true, exists_eq_left', exists_eq_left, if_true, if_false, undef]
      have f4 : ((q : Int) == 0) = false := by simp [c4]
      simp (maxSteps := 1000000) only [f1, f2, f3, f4, encS, roI, EA, EB, EC, ED, EE, EF, EG, XA, XB, XC, XD, XE, XF, XG, XH, XI, XJ, XK, XL, reduceIte, ↓reduceIte, Nat.reduceAdd, Nat.reduceLeDiff, Nat.reduceEqDiff, Nat.reduceLT, Nat.reduceSub, Nat.reduceBEq, forall_const, reduceCtorEq, implies_true, exists_eq_left', exists_eq_left, if_true, if_false, undef]
      have hpA : p < (allL M a 60).length := by rw [hallA, crAll_length]; omega
      have hqB : q < (allL M b 60).length := by rw [hallB, crAll_length]; omega
      have getA : (allL M a 60)[p] = crL M cA (p : Nat) (doneC M cA 60) := by simp only [hallA]; exact crAll_at _
      have getB : (allL M b 60)[q] = crL M cB (q : Nat) (doneC M cB 60) := by simp only [hallB]; exact crAll_at _
      refine ⟨by omega, pickM hpA ?_⟩
      rw [getA]
      simp (maxSteps := 1000000) only [encS, roI, EA, EB, EC, ED, EE, EF, EG, XA, XB, XC, XD, XE, XF, XG, XH, XI, XJ, XK, XL, reduceIte, ↓reduceIte, Nat.reduceAdd, Nat.reduceLeDiff, Nat.reduceEqDiff, Nat.reduceLT, Nat.reduceSub, Nat.reduceBEq, forall_const, reduceCtorEq, implies_true, exists_eq_left', exists_eq_left, if_true, if_false, undef]
      refine ⟨by omega, pickM hqB ?_⟩
      rw [getB]
      simp (maxSteps := 1000000) only [encS, roI, EA, EB, EC, ED, EE, EF, EG, XA, XB, XC, XD, XE, XF, XG, XH, XI, XJ, XK, XL, reduceIte, ↓reduceIte, Nat.reduceAdd, Nat.reduceLeDiff, Nat.reduceEqDiff, Nat.reduceLT, Nat.reduceSub, Nat.reduceBEq, forall_const, reduceCtorEq, implies_true, exists_eq_left', exists_eq_left, if_true, if_false, undef]
      have hcl := crL_length M cA (p : Nat) (doneC M cA 60)
      have hdl := done_le M cA 60
      refine callXd (CallsA.args (ints_spec (crL M cA (p : Nat) (doneC M cA 60)) (crL M cB (q : Nat) (doneC M cB 60)) (by omega)) (by simp [encS, roI, EA, EB, EC, ED, EE, EF, EG, XA, XB, XC, XD, XE, XF, XG, XH, XI, XJ, XK, XL, reduceIte, ↓reduceIte, Nat.reduceAdd, Nat.reduceLeDiff, Nat.reduceEqDiff, Nat.reduceLT, Nat.reduceSub, Nat.reduceBEq, forall_const, reduceCtorEq, implies_true, exists_eq_left', exists_eq_left, if_true, if_false, undef])) rfl (by simp [flat, encS, roI, EA, EB, EC, ED, EE, EF, EG, XA, XB, XC, XD, XE, XF, XG, XH, XI, XJ, XK, XL, reduceIte, ↓reduceIte, Nat.reduceAdd, Nat.reduceLeDiff, Nat.reduceEqDiff, Nat.reduceLT, Nat.reduceSub, Nat.reduceBEq, forall_const, reduceCtorEq, implies_true, exists_eq_left', exists_eq_left, if_true, if_false, undef]) (by simp [encS, roI, EA, EB, EC, ED, EE, EF, EG, XA, XB, XC, XD, XE, XF, XG, XH, XI, XJ, XK, XL, reduceIte, ↓reduceIte, Nat.reduceAdd, Nat.reduceLeDiff, Nat.reduceEqDiff, Nat.reduceLT, Nat.reduceSub, Nat.reduceBEq, forall_const, reduceCtorEq, implies_true, exists_eq_left', exists_eq_left, if_true, if_false, undef]) ?_
      by_cases c5 : crL M cA (p : Nat) (doneC M cA 60) = crL M cB (q : Nat) (doneC M cB 60)
      rotate_left
      · have f5 : decide (crL M cA (p : Nat) (doneC M cA 60) = crL M cB (q : Nat) (doneC M cB 60)) = false := by simp [c5]
        simp (maxSteps := 1000000) only [f5, encS, roI, EA, EB, EC, ED, EE, EF, EG, XA, XB, XC, XD, XE, XF, XG, XH, XI, XJ, XK, XL, reduceIte, ↓reduceIte, Nat.reduceAdd, Nat.reduceLeDiff, Nat.reduceEqDiff, Nat.reduceLT, Nat.reduceSub, Nat.reduceBEq, forall_const, reduceCtorEq, implies_true, exists_eq_left', exists_eq_left, if_true, if_false, undef]
      have f5 : decide (crL M cA (p : Nat) (doneC M cA 60) = crL M cB (q : Nat) (doneC M cB 60)) = true := by simp [c5]
      have hw1 : IntKind.i64.wrap ((p : Int) + ((b.map I).length : Int)) = (p : Int) + b.length := by rw [wrap_id] <;> simp <;> omega
      have hw2 : IntKind.i64.wrap ((p : Int) + b.length - q) = (p : Int) + b.length - q := by rw [wrap_id] <;> omega
      by_cases c6 : (p : Int) + b.length - q > 8
      · have f6 : decide ((p : Int) + b.length - q > 8) = true := by simp; omega
        simp (maxSteps := 1000000) only [f5, f6, hw1, hw2, encS, roI, EA, EB, EC, ED, EE, EF, EG, XA, XB, XC, XD, XE, XF, XG, XH, XI, XJ, XK, XL, reduceIte, ↓reduceIte, Nat.reduceAdd, Nat.reduceLeDiff, Nat.reduceEqDiff, Nat.reduceLT, Nat.reduceSub, Nat.reduceBEq, forall_const, reduceCtorEq, implies_true, exists_eq_left', exists_eq_left, if_true, if_false, undef]
      have f6 : decide ((p : Int) + b.length - q > 8) = false := by simp; omega
      simp (maxSteps := 1000000) only [f5, f6, hw1, hw2, encS, roI, EA, EB, EC, ED, EE, EF, EG, XA, XB, XC, XD, XE, XF, XG, XH, XI, XJ, XK, XL, reduceIte, ↓reduceIte, Nat.reduceAdd, Nat.reduceLeDiff, Nat.reduceEqDiff, Nat.reduceLT, Nat.reduceSub, Nat.reduceBEq, forall_const, reduceCtorEq, implies_true, exists_eq_left', exists_eq_left, if_true, if_false, undef]
      by_cases c7 : (runC M cA 60).head ≥ (p : Int)
      · have f7 : decide ((runC M cA 60).head ≥ (p : Int)) = true := by simp; omega
        simp (maxSteps := 1000000) only [f7, encS, roI, EA, EB, EC, ED, EE, EF, EG, XA, XB, XC, XD, XE, XF, XG, XH, XI, XJ, XK, XL, reduceIte, ↓reduceIte, Nat.reduceAdd, Nat.reduceLeDiff, Nat.reduceEqDiff, Nat.reduceLT, Nat.reduceSub, Nat.reduceBEq, forall_const, reduceCtorEq, implies_true, exists_eq_left', exists_eq_left, if_true, if_false, undef]
      have f7 : decide ((runC M cA 60).head ≥ (p : Int)) = false := by simp; omega
      by_cases c8 : (runC M cB 60).head ≥ (q : Int)
      · have f8 : decide ((runC M cB 60).head ≥ (q : Int)) = true := by simp; omega
        simp (maxSteps := 1000000) only [f7, f8, encS, roI, EA, EB, EC, ED, EE, EF, EG, XA, XB, XC, XD, XE, XF, XG, XH, XI, XJ, XK, XL, reduceIte, ↓reduceIte, Nat.reduceAdd, Nat.reduceLeDiff, Nat.reduceEqDiff, Nat.reduceLT, Nat.reduceSub, Nat.reduceBEq, forall_const, reduceCtorEq, implies_true, exists_eq_left', exists_eq_left, if_true, if_false, undef]
      have f8 : decide ((runC M cB 60).head ≥ (q : Int)) = false := by simp; omega
      simp (maxSteps := 1000000) only [f7, f8, encS, roI, EA, EB, EC, ED, EE, EF, EG, XA, XB, XC, XD, XE, XF, XG, XH, XI, XJ, XK, XL, reduceIte, ↓reduceIte, Nat.reduceAdd, Nat.reduceLeDiff, Nat.reduceEqDiff, Nat.reduceLT, Nat.reduceSub, Nat.reduceBEq, forall_const, reduceCtorEq, implies_true, exists_eq_left', exists_eq_left, if_true, if_false, undef]
      have eA : List.drop ((0 : Nat) : Int).toNat (List.take (p : Int).toNat (a.map I)) = (a.take p).map I := by simp
      have eB : List.drop (q : Int).toNat (List.take ((b.map I).length : Int).toNat (b.map I)) = (b.drop q).map I := by rw [Int.toNat_natCast, Int.toNat_natCast, List.take_length, List.map_drop]
      obtain ⟨l3, hl3⟩ : ∃ l3, l3 = a.take p ++ b.drop q := ⟨_, rfl⟩
      have hl3l : l3.length ≤ 8 := by rw [hl3]; simp; omega
      have e3 : (a.take p).map I ++ (b.drop q).map I = l3.map I := by rw [hl3, List.map_append]
      have e4 : ((a.take p).map I).length + ((b.drop q).map I).length = l3.length := by rw [hl3]; simp
      have hC : runErr M l3 60 = 0 := hl3 ▸ runErr_paste hA hB (hl3 ▸ hl3l)
      rw [eA, eB, e4, e3]
      refine ⟨by simp, by omega, by simp; omega, by simp; omega, by omega, by simp; omega, by simp, by omega, ?_⟩
      have hrunC : CallsM Try.prog 16 [encM M, .arr 0 0 l3.length, I 60] [.arr 1 (l3.map I)] (runAns M l3 60) [none] :=
        CallsM.ofA (run_spec M l3 60 (by omega)) (by simp [encM, memFrom, encS, roI, EA, EB, EC, ED, EE, EF, EG, XA, XB, XC, XD, XE, XF, XG, XH, XI, XJ, XK, XL, reduceIte, ↓reduceIte, Nat.reduceAdd, Nat.reduceLeDiff, Nat.reduceEqDiff, Nat.reduceLT, Nat.reduceSub, Nat.reduceBEq, forall_const, reduceCtorEq, implies_true, exists_eq_left', exists_eq_left, if_true, if_false, undef]; exact List.take_of_length_le (by simp)) rfl
      obtain ⟨gC, _⟩ := runOk hC
      obtain ⟨cC, hcC⟩ : ∃ cC, cC = startC ⟨0, 0, 0, l3⟩ := ⟨_, rfl⟩
      have kC : COk M 120 cC := hcC ▸ gC.cfg
      obtain ⟨loC, hiC, sC, tC, bC⟩ := (runC_ok gC.mach kC 60).tell
      simp only [runAns, hC, if_true, h60, ← hcC, encN, tC] at hrunC
      refine callX [154] [] (hrunC) (by simp [encS, roI, EA, EB, EC, ED, EE, EF, EG, XA, XB, XC, XD, XE, XF, XG, XH, XI, XJ, XK, XL, reduceIte, ↓reduceIte, Nat.reduceAdd, Nat.reduceLeDiff, Nat.reduceEqDiff, Nat.reduceLT, Nat.reduceSub, Nat.reduceBEq, forall_const, reduceCtorEq, implies_true, exists_eq_left', exists_eq_left, if_true, if_false, undef]) (by simp [ encM,encS, roI, EA, EB, EC, ED, EE, EF, EG, XA, XB, XC, XD, XE, XF, XG, XH, XI, XJ, XK, XL, reduceIte, ↓reduceIte, Nat.reduceAdd, Nat.reduceLeDiff, Nat.reduceEqDiff, Nat.reduceLT, Nat.reduceSub, Nat.reduceBEq, forall_const, reduceCtorEq, implies_true, exists_eq_left', exists_eq_left, if_true, if_false, undef]) (by simp) (by simp [ encM,encS, roI, EA, EB, EC, ED, EE, EF, EG, XA, XB, XC, XD, XE, XF, XG, XH, XI, XJ, XK, XL, reduceIte, ↓reduceIte, Nat.reduceAdd, Nat.reduceLeDiff, Nat.reduceEqDiff, Nat.reduceLT, Nat.reduceSub, Nat.reduceBEq, forall_const, reduceCtorEq, implies_true, exists_eq_left', exists_eq_left, if_true, if_false, undef]) (by simp [encS, roI, EA, EB, EC, ED, EE, EF, EG, XA, XB, XC, XD, XE, XF, XG, XH, XI, XJ, XK, XL, reduceIte, ↓reduceIte, Nat.reduceAdd, Nat.reduceLeDiff, Nat.reduceEqDiff, Nat.reduceLT, Nat.reduceSub, Nat.reduceBEq, forall_const, reduceCtorEq, implies_true, exists_eq_left', exists_eq_left, if_true, if_false, undef]) (by simp [encS, roI, EA, EB, EC, ED, EE, EF, EG, XA, XB, XC, XD, XE, XF, XG, XH, XI, XJ, XK, XL, reduceIte, ↓reduceIte, Nat.reduceAdd, Nat.reduceLeDiff, Nat.reduceEqDiff, Nat.reduceLT, Nat.reduceSub, Nat.reduceBEq, forall_const, reduceCtorEq, implies_true, exists_eq_left', exists_eq_left, if_true, if_false, undef]) (by simp [encS, roI, EA, EB, EC, ED, EE, EF, EG, XA, XB, XC, XD, XE, XF, XG, XH, XI, XJ, XK, XL, reduceIte, ↓reduceIte, Nat.reduceAdd, Nat.reduceLeDiff, Nat.reduceEqDiff, Nat.reduceLT, Nat.reduceSub, Nat.reduceBEq, forall_const, reduceCtorEq, implies_true, exists_eq_left', exists_eq_left, if_true, if_false, undef]) (by simp) ?_
      simp (maxSteps := 1000000) only [bne_self_eq_false, Option.toList_some, Option.toList_none, encS, roI, EA, EB, EC, ED, EE, EF, EG, XA, XB, XC, XD, XE, XF, XG, XH, XI, XJ, XK, XL, reduceIte, ↓reduceIte, Nat.reduceAdd, Nat.reduceLeDiff, Nat.reduceEqDiff, Nat.reduceLT, Nat.reduceSub, Nat.reduceBEq, forall_const, reduceCtorEq, implies_true, exists_eq_left', exists_eq_left, if_true, if_false, undef]
      refine ⟨by decide, ?_⟩
      have hcrA : crL M cA (p : Nat) (doneC M cA 60) = crL M cA (p : Nat) 60 := (crL_halt (M := M) (c := cA) (p : Nat) (k := doneC M cA 60) (by rw [(done_run M cA 60).2]; exact c1) (done_le M cA 60)).symm
      have hcrB : crL M cB (q : Nat) (doneC M cB 60) = crL M cB (q : Nat) 60 := (crL_halt (M := M) (c := cB) (q : Nat) (k := doneC M cB 60) (by rw [(done_run M cB 60).2]; exact c2) (done_le M cB 60)).symm
      rw [hcrA, hcrB] at c5
      by_cases c9 : (runC M cC 60).st < M.states
      · have f9 : decide ((runC M cC 60).st < M.states) = true := by simp [c9]
        simp (maxSteps := 1000000) only [f9, encS, roI, EA, EB, EC, ED, EE, EF, EG, XA, XB, XC, XD, XE, XF, XG, XH, XI, XJ, XK, XL, reduceIte, ↓reduceIte, Nat.reduceAdd, Nat.reduceLeDiff, Nat.reduceEqDiff, Nat.reduceLT, Nat.reduceSub, Nat.reduceBEq, forall_const, reduceCtorEq, implies_true, exists_eq_left', exists_eq_left, if_true, if_false, undef]
      have f9 : decide ((runC M cC 60).st < M.states) = false := by simp [c9]
      have hsim : Sim cA cB cC [] [] (p : Int) (q : Int) := by
        rw [hcA, hcB, hcC, hl3]; exact sim_start a b p q (by omega) (by omega) hpl hql
      obtain ⟨hh, hf⟩ := hennie gA.mach kA kB kC c5 c1 c2 c9 (by omega) hsim
      have f10 : ((runC M cC 60).head != (runC M cA 60).head) = false := by rw [hh]; simp
      simp (maxSteps := 1000000) only [f9, f10, encS, roI, EA, EB, EC, ED, EE, EF, EG, XA, XB, XC, XD, XE, XF, XG, XH, XI, XJ, XK, XL, reduceIte, ↓reduceIte, Nat.reduceAdd, Nat.reduceLeDiff, Nat.reduceEqDiff, Nat.reduceLT, Nat.reduceSub, Nat.reduceBEq, forall_const, reduceCtorEq, implies_true, exists_eq_left', exists_eq_left, if_true, if_false, undef]
      refine loop0 Nat [26] (fun k => [I (-60 + (k : Nat))]) (fun k => k ≤ 60 + p) (fun k => 60 + p - k) (by decide) 0 (by simp) (by simp [Back, SubT, Sub, SubL, SubM, SubO, keepM, srcOk, look, lookM, ev, evs, putT, argT, encS, roI, EA, EB, EC, ED, EE, EF, EG, XA, XB, XC, XD, XE, XF, XG, XH, XI, XJ, XK, XL, reduceIte, ↓reduceIte, Nat.reduceAdd, Nat.reduceLeDiff, Nat.reduceEqDiff, Nat.reduceLT, Nat.reduceSub, Nat.reduceBEq, forall_const, reduceCtorEq, implies_true, exists_eq_left', exists_eq_left, if_true, if_false, undef]) (fun k hk => ?_)
      simp (maxSteps := 1000000) only [encS, roI, EA, EB, EC, ED, EE, EF, EG, XA, XB, XC, XD, XE, XF, XG, XH, XI, XJ, XK, XL, reduceIte, ↓reduceIte, Nat.reduceAdd, Nat.reduceLeDiff, Nat.reduceEqDiff, Nat.reduceLT, Nat.reduceSub, Nat.reduceBEq, forall_const, reduceCtorEq, implies_true, exists_eq_left', exists_eq_left, if_true, if_false, undef]
      have sA1 := sA.1
      have sA2 := sA.2.1
      have sC1 := sC.1
      have sC2 := sC.2.1
      refine ⟨fun ha => ?_, fun ha => ?_⟩ <;> try simp (maxSteps := 1000000) only [encS, roI, EA, EB, EC, ED, EE, EF, EG, XA, XB, XC, XD, XE, XF, XG, XH, XI, XJ, XK, XL, reduceIte, ↓reduceIte, Nat.reduceAdd, Nat.reduceLeDiff, Nat.reduceEqDiff, Nat.reduceLT, Nat.reduceSub, Nat.reduceBEq, forall_const, reduceCtorEq, implies_true, exists_eq_left', exists_eq_left, if_true, if_false, undef]
      · simp only [decide_eq_true_eq] at ha
        have hw : IntKind.i64.wrap (-60 + (k : Int) + 1) = -60 + ((k + 1 : Nat) : Int) := by rw [wrap_id] <;> omega
        refine callD (CallsA.args (signK_spec ⟨(runC M cC 60).st, (runC M cC 60).head, loC, cellsF (runC M cC 60).f loC (hiC - loC + 1).toNat⟩ (-60 + (k : Nat)) (by omega) (by simp only; omega) (by simp only [cellsF_length]; omega) ) (by simp [ encN,encS, roI, EA, EB, EC, ED, EE, EF, EG, XA, XB, XC, XD, XE, XF, XG, XH, XI, XJ, XK, XL, reduceIte, ↓reduceIte, Nat.reduceAdd, Nat.reduceLeDiff, Nat.reduceEqDiff, Nat.reduceLT, Nat.reduceSub, Nat.reduceBEq, forall_const, reduceCtorEq, implies_true, exists_eq_left', exists_eq_left, if_true, if_false, undef])) rfl (by simp [flat, encS, roI, EA, EB, EC, ED, EE, EF, EG, XA, XB, XC, XD, XE, XF, XG, XH, XI, XJ, XK, XL, reduceIte, ↓reduceIte, Nat.reduceAdd, Nat.reduceLeDiff, Nat.reduceEqDiff, Nat.reduceLT, Nat.reduceSub, Nat.reduceBEq, forall_const, reduceCtorEq, implies_true, exists_eq_left', exists_eq_left, if_true, if_false, undef]) (by simp [encS, roI, EA, EB, EC, ED, EE, EF, EG, XA, XB, XC, XD, XE, XF, XG, XH, XI, XJ, XK, XL, reduceIte, ↓reduceIte, Nat.reduceAdd, Nat.reduceLeDiff, Nat.reduceEqDiff, Nat.reduceLT, Nat.reduceSub, Nat.reduceBEq, forall_const, reduceCtorEq, implies_true, exists_eq_left', exists_eq_left, if_true, if_false, undef]) ?_
        simp (maxSteps := 1000000) only [encS, roI, EA, EB, EC, ED, EE, EF, EG, XA, XB, XC, XD, XE, XF, XG, XH, XI, XJ, XK, XL, reduceIte, ↓reduceIte, Nat.reduceAdd, Nat.reduceLeDiff, Nat.reduceEqDiff, Nat.reduceLT, Nat.reduceSub, Nat.reduceBEq, forall_const, reduceCtorEq, implies_true, exists_eq_left', exists_eq_left, if_true, if_false, undef]
        refine callXd (CallsA.args (signK_spec ⟨(runC M cA 60).st, (runC M cA 60).head, loA, cellsF (runC M cA 60).f loA (hiA - loA + 1).toNat⟩ (-60 + (k : Nat)) (by omega) (by simp only; omega) (by simp only [cellsF_length]; omega) ) (by simp [ encN,encS, roI, EA, EB, EC, ED, EE, EF, EG, XA, XB, XC, XD, XE, XF, XG, XH, XI, XJ, XK, XL, reduceIte, ↓reduceIte, Nat.reduceAdd, Nat.reduceLeDiff, Nat.reduceEqDiff, Nat.reduceLT, Nat.reduceSub, Nat.reduceBEq, forall_const, reduceCtorEq, implies_true, exists_eq_left', exists_eq_left, if_true, if_false, undef])) rfl (by simp [flat, encS, roI, EA, EB, EC, ED, EE, EF, EG, XA, XB, XC, XD, XE, XF, XG, XH, XI, XJ, XK, XL, reduceIte, ↓reduceIte, Nat.reduceAdd, Nat.reduceLeDiff, Nat.reduceEqDiff, Nat.reduceLT, Nat.reduceSub, Nat.reduceBEq, forall_const, reduceCtorEq, implies_true, exists_eq_left', exists_eq_left, if_true, if_false, undef]) (by simp [encS, roI, EA, EB, EC, ED, EE, EF, EG, XA, XB, XC, XD, XE, XF, XG, XH, XI, XJ, XK, XL, reduceIte, ↓reduceIte, Nat.reduceAdd, Nat.reduceLeDiff, Nat.reduceEqDiff, Nat.reduceLT, Nat.reduceSub, Nat.reduceBEq, forall_const, reduceCtorEq, implies_true, exists_eq_left', exists_eq_left, if_true, if_false, undef]) ?_
        have g1 : tapeF loC (cellsF (runC M cC 60).f loC (hiC - loC + 1).toNat) (-60 + (k : Nat)) = (runC M cA 60).f (-60 + (k : Nat)) := by rw [tell_sign sC, hf _ (by omega)]
        have g2 : tapeF loA (cellsF (runC M cA 60).f loA (hiA - loA + 1).toNat) (-60 + (k : Nat)) = (runC M cA 60).f (-60 + (k : Nat)) := tell_sign sA _
        simp (maxSteps := 1000000) only [g1, g2, bne_self_eq_false, hw, encS, roI, EA, EB, EC, ED, EE, EF, EG, XA, XB, XC, XD, XE, XF, XG, XH, XI, XJ, XK, XL, reduceIte, ↓reduceIte, Nat.reduceAdd, Nat.reduceLeDiff, Nat.reduceEqDiff, Nat.reduceLT, Nat.reduceSub, Nat.reduceBEq, forall_const, reduceCtorEq, implies_true, exists_eq_left', exists_eq_left, if_true, if_false, undef]
        exact ⟨k + 1, by omega, by omega, by simp [Back, SubT, Sub, SubL, SubM, SubO, keepM, srcOk, look, lookM, ev, evs, putT, argT, encS, roI, EA, EB, EC, ED, EE, EF, EG, XA, XB, XC, XD, XE, XF, XG, XH, XI, XJ, XK, XL, reduceIte, ↓reduceIte, Nat.reduceAdd, Nat.reduceLeDiff, Nat.reduceEqDiff, Nat.reduceLT, Nat.reduceSub, Nat.reduceBEq, forall_const, reduceCtorEq, implies_true, exists_eq_left', exists_eq_left, if_true, if_false, undef]⟩
    · simp (maxSteps := 1000000) only [runAns, hB, if_false, encN, now0, encS, roI, EA, EB, EC, ED, EE, EF, EG, XA, XB, XC, XD, XE, XF, XG, XH, XI, XJ, XK, XL, reduceIte, ↓reduceIte, Nat.reduceAdd, Nat.reduceLeDiff, Nat.reduceEqDiff, Nat.reduceLT, Nat.reduceSub, Nat.reduceBEq, forall_const, reduceCtorEq, implies_true, exists_eq_left', exists_eq_left, if_true, if_false, undef]
      refine callF (CallsA.args (can_spec M a 60 hla ) (by simp [ encM,encS, roI, EA, EB, EC, ED, EE, EF, EG, XA, XB, XC, XD, XE, XF, XG, XH, XI, XJ, XK, XL, reduceIte, ↓reduceIte, Nat.reduceAdd, Nat.reduceLeDiff, Nat.reduceEqDiff, Nat.reduceLT, Nat.reduceSub, Nat.reduceBEq, forall_const, reduceCtorEq, implies_true, exists_eq_left', exists_eq_left, if_true, if_false, undef])) rfl (by simp [flat, encS, roI, EA, EB, EC, ED, EE, EF, EG, XA, XB, XC, XD, XE, XF, XG, XH, XI, XJ, XK, XL, reduceIte, ↓reduceIte, Nat.reduceAdd, Nat.reduceLeDiff, Nat.reduceEqDiff, Nat.reduceLT, Nat.reduceSub, Nat.reduceBEq, forall_const, reduceCtorEq, implies_true, exists_eq_left', exists_eq_left, if_true, if_false, undef]) ?_
      simp (maxSteps := 1000000) only [hA, hB, decide_true, encS, roI, EA, EB, EC, ED, EE, EF, EG, XA, XB, XC, XD, XE, XF, XG, XH, XI, XJ, XK, XL, reduceIte, ↓reduceIte, Nat.reduceAdd, Nat.reduceLeDiff, Nat.reduceEqDiff, Nat.reduceLT, Nat.reduceSub, Nat.reduceBEq, forall_const, reduceCtorEq, implies_true, exists_eq_left', exists_eq_left, if_true, if_false, undef]
      refine callF (CallsA.args (can_spec M b 60 hlb ) (by simp [ encM,encS, roI, EA, EB, EC, ED, EE, EF, EG, XA, XB, XC, XD, XE, XF, XG, XH, XI, XJ, XK, XL, reduceIte, ↓reduceIte, Nat.reduceAdd, Nat.reduceLeDiff, Nat.reduceEqDiff, Nat.reduceLT, Nat.reduceSub, Nat.reduceBEq, forall_const, reduceCtorEq, implies_true, exists_eq_left', exists_eq_left, if_true, if_false, undef])) rfl (by simp [flat, encS, roI, EA, EB, EC, ED, EE, EF, EG, XA, XB, XC, XD, XE, XF, XG, XH, XI, XJ, XK, XL, reduceIte, ↓reduceIte, Nat.reduceAdd, Nat.reduceLeDiff, Nat.reduceEqDiff, Nat.reduceLT, Nat.reduceSub, Nat.reduceBEq, forall_const, reduceCtorEq, implies_true, exists_eq_left', exists_eq_left, if_true, if_false, undef]) ?_
      have e1 : (runErr M b 60 != 0) = true := by simp [hB]
      simp [hA, hB, e1, encS, roI, EA, EB, EC, ED, EE, EF, EG, XA, XB, XC, XD, XE, XF, XG, XH, XI, XJ, XK, XL, reduceIte, ↓reduceIte, Nat.reduceAdd, Nat.reduceLeDiff, Nat.reduceEqDiff, Nat.reduceLT, Nat.reduceSub, Nat.reduceBEq, forall_const, reduceCtorEq, implies_true, exists_eq_left', exists_eq_left, if_true, if_false, undef]
  · simp (maxSteps := 1000000) only [runAns, hA, if_false, encN, now0, encS, roI, EA, EB, EC, ED, EE, EF, EG, XA, XB, XC, XD, XE, XF, XG, XH, XI, XJ, XK, XL, reduceIte, ↓reduceIte, Nat.reduceAdd, Nat.reduceLeDiff, Nat.reduceEqDiff, Nat.reduceLT, Nat.reduceSub, Nat.reduceBEq, forall_const, reduceCtorEq, implies_true, exists_eq_left', exists_eq_left, if_true, if_false, undef]
    refine callA (CallsA.args (run_spec M b 60 hlb ) (by simp [ encM,encS, roI, EA, EB, EC, ED, EE, EF, EG, XA, XB, XC, XD, XE, XF, XG, XH, XI, XJ, XK, XL, reduceIte, ↓reduceIte, Nat.reduceAdd, Nat.reduceLeDiff, Nat.reduceEqDiff, Nat.reduceLT, Nat.reduceSub, Nat.reduceBEq, forall_const, reduceCtorEq, implies_true, exists_eq_left', exists_eq_left, if_true, if_false, undef])) rfl ?_
    have e1 : (runErr M a 60 != 0) = true := by simp [hA]
    by_cases hB : runErr M b 60 = 0
    · simp (maxSteps := 1000000) only [runAns, hB, if_true, encN, encS, roI, EA, EB, EC, ED, EE, EF, EG, XA, XB, XC, XD, XE, XF, XG, XH, XI, XJ, XK, XL, reduceIte, ↓reduceIte, Nat.reduceAdd, Nat.reduceLeDiff, Nat.reduceEqDiff, Nat.reduceLT, Nat.reduceSub, Nat.reduceBEq, forall_const, reduceCtorEq, implies_true, exists_eq_left', exists_eq_left, if_true, if_false, undef]
      refine callF (CallsA.args (can_spec M a 60 hla ) (by simp [ encM,encS, roI, EA, EB, EC, ED, EE, EF, EG, XA, XB, XC, XD, XE, XF, XG, XH, XI, XJ, XK, XL, reduceIte, ↓reduceIte, Nat.reduceAdd, Nat.reduceLeDiff, Nat.reduceEqDiff, Nat.reduceLT, Nat.reduceSub, Nat.reduceBEq, forall_const, reduceCtorEq, implies_true, exists_eq_left', exists_eq_left, if_true, if_false, undef])) rfl (by simp [flat, encS, roI, EA, EB, EC, ED, EE, EF, EG, XA, XB, XC, XD, XE, XF, XG, XH, XI, XJ, XK, XL, reduceIte, ↓reduceIte, Nat.reduceAdd, Nat.reduceLeDiff, Nat.reduceEqDiff, Nat.reduceLT, Nat.reduceSub, Nat.reduceBEq, forall_const, reduceCtorEq, implies_true, exists_eq_left', exists_eq_left, if_true, if_false, undef]) ?_
      simp [hA, hB, e1, encS, roI, EA, EB, EC, ED, EE, EF, EG, XA, XB, XC, XD, XE, XF, XG, XH, XI, XJ, XK, XL, reduceIte, ↓reduceIte, Nat.reduceAdd, Nat.reduceLeDiff, Nat.reduceEqDiff, Nat.reduceLT, Nat.reduceSub, Nat.reduceBEq, forall_const, reduceCtorEq, implies_true, exists_eq_left', exists_eq_left, if_true, if_false, undef]
    · simp (maxSteps := 1000000) only [runAns, hB, if_false, encN, now0, encS, roI, EA, EB, EC, ED, EE, EF, EG, XA, XB, XC, XD, XE, XF, XG, XH, XI, XJ, XK, XL, reduceIte, ↓reduceIte, Nat.reduceAdd, Nat.reduceLeDiff, Nat.reduceEqDiff, Nat.reduceLT, Nat.reduceSub, Nat.reduceBEq, forall_const, reduceCtorEq, implies_true, exists_eq_left', exists_eq_left, if_true, if_false, undef]
      refine callF (CallsA.args (can_spec M a 60 hla ) (by simp [ encM,encS, roI, EA, EB, EC, ED, EE, EF, EG, XA, XB, XC, XD, XE, XF, XG, XH, XI, XJ, XK, XL, reduceIte, ↓reduceIte, Nat.reduceAdd, Nat.reduceLeDiff, Nat.reduceEqDiff, Nat.reduceLT, Nat.reduceSub, Nat.reduceBEq, forall_const, reduceCtorEq, implies_true, exists_eq_left', exists_eq_left, if_true, if_false, undef])) rfl (by simp [flat, encS, roI, EA, EB, EC, ED, EE, EF, EG, XA, XB, XC, XD, XE, XF, XG, XH, XI, XJ, XK, XL, reduceIte, ↓reduceIte, Nat.reduceAdd, Nat.reduceLeDiff, Nat.reduceEqDiff, Nat.reduceLT, Nat.reduceSub, Nat.reduceBEq, forall_const, reduceCtorEq, implies_true, exists_eq_left', exists_eq_left, if_true, if_false, undef]) ?_
      simp [hA, hB, e1, encS, roI, EA, EB, EC, ED, EE, EF, EG, XA, XB, XC, XD, XE, XF, XG, XH, XI, XJ, XK, XL, reduceIte, ↓reduceIte, Nat.reduceAdd, Nat.reduceLeDiff, Nat.reduceEqDiff, Nat.reduceLT, Nat.reduceSub, Nat.reduceBEq, forall_const, reduceCtorEq, implies_true, exists_eq_left', exists_eq_left, if_true, if_false, undef]

def sh_CrossPaste : List Sh := [shMach, .slice 1 (.int .i64), .slice 1 (.int .i64), .int .u8, .int .u8]
theorem law_CrossPaste (xs : List AV) (h : HasAll sh_CrossPaste xs) : CallsA Try.prog 5 xs (.v (.bool true)) [] := by
  obtain ⟨x, r, rfl, hx, y, r, rfl, hy, z, r, rfl, hz, u, r, rfl, hu, v, r, rfl, hv, rfl⟩ := h
  obtain ⟨m, rfl⟩ := hasMach hx
  obtain ⟨a, rfl, ha⟩ := hasInts hy
  obtain ⟨b, rfl, hb⟩ := hasInts hz
  obtain ⟨i, rfl, hi⟩ := hasInt hu
  obtain ⟨j, rfl, hj⟩ := hasInt hv
  exact crossPaste_spec m a b i j (u8_range hi) (u8_range hj) ha hb

end Go.Av
namespace Go.Proofs.Ytkoenncepcmljaa
open Go.ChangeShapes Go.WideShapes Go.ChangeAt Go.RowKit
open Go.Av (open_all shut_all OldS HasAll Sh CallsA shAll)

theorem own : ownKnob Try.prog.godebug = none := by kernel_rfl
theorem laidOut : laidOutB Try.prog = true := by kernel_rfl
theorem shs_eq : shAll Try.prog 12 Try.f5.params.toList = some Go.Av.sh_CrossPaste := by kernel_rfl
theorem readable : (Try.f5.params.toList.all fun t => Try.prog.readableRec t && decide (t < Try.prog.types.size)) = true := by kernel_rfl

theorem lifted (os : Os) (started : os.Started) (H : Type) (enc : TypeId × Value → H) :
    ReturnsInHanded {} Try.checked os 5 .any (Rows.crossPasteSpec.pre6 enc Try.prog Try.f5 Rows.crossPasteRow.domain false) (Rows.crossPasteSpec.post enc Try.prog Try.f5 false true false false) := by
  refine returnsInHanded_of_change (C := Try.checked) own started (by kernel_rfl) Try.func5
    (ChangeSpec.witness6 (enc := enc) (C := Try.checked) false ⟨#[], #[.agg #[.int .i64 0, .int .i64 0, .slice none 0 0], .slice none 0 0, .slice none 0 0, .int .u8 0, .int .u8 0], []⟩ 8 (by kernel_rfl) (by kernel_rfl) (by kernel_rfl) (by kernel_rfl)) ?_
  intro W base args ds gs before hval0 hW hcnd _
  have hval : ∀ (j : Nat) t v, Try.f5.params[j]? = some t → args[j]? = some v → Value.okWide Try.prog W .any base t v := hval0
  have hW' := hW
  obtain ⟨p, q, hA0, hV, rfl, hfz, hnd⟩ := hW
  have hA : DataW.TrodAll enc Try.prog W 0 (fun _ => true) true Try.f5.params.toList args.toList ds p := hA0
  obtain ⟨xs, hxs, hlen, hR⟩ := open_all (g := 12) _ _ _ _ Go.Av.sh_CrossPaste hA (fun j t v ht hv => hval j t v (by simpa using ht) (by simpa using hv)) shs_eq
  obtain ⟨rfl, rfl⟩ := trodVars_none hV
  have hB := hA
  rw [Try.params5] at hB
  obtain ⟨v0, vs0, d0, ds0, p0, q0, hargs0, rfl, rfl, h0, r0⟩ := trodAll_cons hB
  obtain ⟨v1, vs1, d1, ds1, p1, q1, hargs1, rfl, rfl, h1, r1⟩ := trodAll_cons r0
  obtain ⟨v2, vs2, d2, ds2, p2, q2, hargs2, rfl, rfl, h2, r2⟩ := trodAll_cons r1
  obtain ⟨v3, vs3, d3, ds3, p3, q3, hargs3, rfl, rfl, h3, r3⟩ := trodAll_cons r2
  obtain ⟨v4, vs4, d4, ds4, p4, q4, hargs4, rfl, rfl, h4, r4⟩ := trodAll_cons r3
  obtain ⟨rfl, rfl, rfl⟩ := trodAll_nil r4
  refine ((Go.Av.law_CrossPaste xs hxs).2 W (OldS W) args (fun _ h => h) (by simpa using hlen) (fun i x y h1 h2 => hR i x y h1 (by simpa using h2))).mono ?_
  rintro e W' ⟨v, S', κ', rfl, hv, _, _, _, bel⟩
  rw [hv.v_inv]
  exact ⟨_, rfl, _, _, _, [], _, [], hW', trodAll_mk1 (shut_bool Try.underlying4 _), shut_all laidOut bel _ _ _ _ (fun t ht => by
    have := (List.all_eq_true.1 readable) t ht
    simpa using this) hA, rfl, bel.frame _, fun h => by cases h⟩

theorem crossPaste_holds : Rows.CrossPasteSaid :=
  OpenClaim.holds_of_wide 5 Try.f5 rfl rfl rfl rfl rfl rfl rfl ⟨rfl, rfl, rfl, rfl, rfl⟩ rfl rfl rfl rfl rfl (by kernel_rfl) Try.func5 (by kernel_rfl)
    (of_decide_eq_true (by kernel_rfl)) (by unfold Func.isWrapper; first | (rw [if_pos (by decide +kernel)]; kernel_rfl) | (rw [if_neg (by decide +kernel)]; exact ⟨rfl, rfl⟩))
    (fun os started H enc _ => lifted os started H enc)

end Go.Proofs.Ytkoenncepcmljaa
