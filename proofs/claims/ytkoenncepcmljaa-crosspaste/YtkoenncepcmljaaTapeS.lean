/- The document's steps of a machine. -/
import Derived.Test.YtkoenncepcmljaaTapeR
set_option linter.unusedSimpArgs false
set_option linter.unusedVariables false
set_option maxRecDepth 100000
namespace Go.Av
open Go.Proofs

abbrev Nl : AV := .v (.slice none 0 0)

def spots (first : Int) (l : List Int) (k : Nat) : List (Int × Int) := (List.range k).map fun i => (first + (i : Nat), (l[i]?).getD 0)
theorem spots_succ (first : Int) (l : List Int) (k : Nat) : spots first l (k + 1) = spots first l k ++ [(first + k, (l[k]?).getD 0)] := by simp [spots, List.range_succ]
theorem spots_length (first : Int) (l : List Int) (k : Nat) : (spots first l k).length = k := by simp [spots]

theorem start_spec (l : List Int) (first st head : Int) (hf : -60 ≤ first ∧ first ≤ 60) (hl : l.length ≤ 60) : CallsM Try.prog 13 [.ro 1 (l.map I), I first, I st, I head] []
    (.agg [.arr 0 0 l.length, I head, I st, I 0, Nl, Nl]) [some (.arr 2 ((spots first l l.length).map encS))] := by
  refine fnM_of comp13 (by simp) (by simp) ?_
  unfold code13
  simp only [encS, EA, EB, EC, ED, EE, EF, EG, XA, XB, XC, XD, XE, XF, XG, XH, XI, XJ, XK, XL, reduceIte, ↓reduceIte, Nat.reduceAdd, Nat.reduceLeDiff, Nat.reduceEqDiff, Nat.reduceLT, Nat.reduceSub, Nat.reduceBEq, forall_const, reduceCtorEq, implies_true, exists_eq_left', exists_eq_left, if_true, if_false, undef]
  refine loopR Nat [17] (fun k => [I k]) (fun k => [(4, some (.box [.arr 9 0 k, I head, I st, I 0, Nl, Nl])), (9, some (.arr 2 ((spots first l k).map encS)))]) 1 (fun k => k ≤ l.length) (fun k => l.length - k) (by decide)
    0 [none] rfl (by simp) (by simp [Back, SubT, Sub, SubL, SubM, SubO, keepM, srcOk, look, lookM, ev, evs, putT, argT, encS, EA, EB, EC, ED, EE, EF, EG, XA, XB, XC, XD, XE, XF, XG, XH, XI, XJ, XK, XL, reduceIte, ↓reduceIte, Nat.reduceAdd, Nat.reduceLeDiff, Nat.reduceEqDiff, Nat.reduceLT, Nat.reduceSub, Nat.reduceBEq, forall_const, reduceCtorEq, implies_true, exists_eq_left', exists_eq_left, if_true, if_false, undef, spots]) (fun k hk => ?_)
  simp (maxSteps := 1000000) only [encS, EA, EB, EC, ED, EE, EF, EG, XA, XB, XC, XD, XE, XF, XG, XH, XI, XJ, XK, XL, reduceIte, ↓reduceIte, Nat.reduceAdd, Nat.reduceLeDiff, Nat.reduceEqDiff, Nat.reduceLT, Nat.reduceSub, Nat.reduceBEq, forall_const, reduceCtorEq, implies_true, exists_eq_left', exists_eq_left, if_true, if_false, undef]
  refine ⟨fun h => ?_, fun h => ?_⟩ <;> try simp (maxSteps := 1000000) only [encS, EA, EB, EC, ED, EE, EF, EG, XA, XB, XC, XD, XE, XF, XG, XH, XI, XJ, XK, XL, reduceIte, ↓reduceIte, Nat.reduceAdd, Nat.reduceLeDiff, Nat.reduceEqDiff, Nat.reduceLT, Nat.reduceSub, Nat.reduceBEq, forall_const, reduceCtorEq, implies_true, exists_eq_left', exists_eq_left, if_true, if_false, undef]
  · refine ⟨by omega, ?_⟩
    simp only [decide_eq_true_eq, List.length_map, Int.ofNat_lt] at h
    refine pickM h ?_
    have hw : IntKind.i64.wrap ((k : Int) + 1) = ((k + 1 : Nat) : Int) := by rw [wrap_id] <;> omega
    have hw2 : IntKind.i64.wrap (first + k) = first + k := by rw [wrap_id] <;> omega
    have hsl : ((spots first l k).map encS).length = k := by simp [spots_length]
    simp only [hw2, hsl, encS, EA, EB, EC, ED, EE, EF, EG, XA, XB, XC, XD, XE, XF, XG, XH, XI, XJ, XK, XL, reduceIte, ↓reduceIte, Nat.reduceAdd, Nat.reduceLeDiff, Nat.reduceEqDiff, Nat.reduceLT, Nat.reduceSub, Nat.reduceBEq, forall_const, reduceCtorEq, implies_true, exists_eq_left', exists_eq_left, if_true, if_false, undef]
    exact ⟨by omega, k + 1, [some 24], rfl, by omega, by omega, by simp [Back, SubT, Sub, SubL, SubM, SubO, keepM, srcOk, look, lookM, ev, evs, putT, argT, encS, EA, EB, EC, ED, EE, EF, EG, XA, XB, XC, XD, XE, XF, XG, XH, XI, XJ, XK, XL, reduceIte, ↓reduceIte, Nat.reduceAdd, Nat.reduceLeDiff, Nat.reduceEqDiff, Nat.reduceLT, Nat.reduceSub, Nat.reduceBEq, forall_const, reduceCtorEq, implies_true, exists_eq_left', exists_eq_left, if_true, if_false, undef, hw, spots_succ, h]⟩
  · simp only [decide_eq_false_iff_not, List.length_map, Int.ofNat_lt] at h
    have : k = l.length := by omega
    subst this
    exact ⟨[9], by simp [encS, EA, EB, EC, ED, EE, EF, EG, XA, XB, XC, XD, XE, XF, XG, XH, XI, XJ, XK, XL, reduceIte, ↓reduceIte, Nat.reduceAdd, Nat.reduceLeDiff, Nat.reduceEqDiff, Nat.reduceLT, Nat.reduceSub, Nat.reduceBEq, forall_const, reduceCtorEq, implies_true, exists_eq_left', exists_eq_left, if_true, if_false, undef], by simp, by simp [encS, EA, EB, EC, ED, EE, EF, EG, XA, XB, XC, XD, XE, XF, XG, XH, XI, XJ, XK, XL, reduceIte, ↓reduceIte, Nat.reduceAdd, Nat.reduceLeDiff, Nat.reduceEqDiff, Nat.reduceLT, Nat.reduceSub, Nat.reduceBEq, forall_const, reduceCtorEq, implies_true, exists_eq_left', exists_eq_left, if_true, if_false, undef]⟩

structure RunR where
  tape : List (Int × Int)
  head : Int
  st : Int
  steps : Int
  heads : List Int
  sts : List Int

def encRun (r : RunR) : AV := .agg [.ro 2 (r.tape.map encS), I r.head, I r.st, I r.steps, .ro 1 (r.heads.map I), .ro 1 (r.sts.map I)]

def rw (M : Mach) (c : Cfg) (i : Nat) : Rule := ruleAt M (runC M c i).st ((runC M c i).f (runC M c i).head)
def wrs (M : Mach) (c : Cfg) (k : Nat) : List (Int × Int) := (List.range k).map fun i => ((runC M c i).head, (rw M c i).w)
def hds (M : Mach) (c : Cfg) (k : Nat) : List Int := (List.range k).map fun i => (runC M c i).head
def sts (M : Mach) (c : Cfg) (k : Nat) : List Int := (List.range k).map fun i => (runC M c (i + 1)).st

theorem wrs_succ (M : Mach) (c : Cfg) (k : Nat) : wrs M c (k + 1) = wrs M c k ++ [((runC M c k).head, (rw M c k).w)] := by simp [wrs, List.range_succ]
theorem hds_succ (M : Mach) (c : Cfg) (k : Nat) : hds M c (k + 1) = hds M c k ++ [(runC M c k).head] := by simp [hds, List.range_succ]
theorem sts_succ (M : Mach) (c : Cfg) (k : Nat) : sts M c (k + 1) = sts M c k ++ [(runC M c (k + 1)).st] := by simp [sts, List.range_succ]
theorem wrs_length (M : Mach) (c : Cfg) (k : Nat) : (wrs M c k).length = k := by simp [wrs]
theorem hds_length (M : Mach) (c : Cfg) (k : Nat) : (hds M c k).length = k := by simp [hds]
theorem sts_length (M : Mach) (c : Cfg) (k : Nat) : (sts M c k).length = k := by simp [sts]

/-- what was written is what is on the tape -/
theorem sgn_run {M : Mach} {c : Cfg} {sp : List (Int × Int)} (h0 : ∀ x, sgn sp x = c.f x) : ∀ {k : Nat}, doneC M c k = k → ∀ x, sgn (sp ++ wrs M c k) x = (runC M c k).f x
  | 0, _, x => by simp [wrs, runC, h0]
  | k + 1, h, x => by
    have hl := done_live h k (by omega)
    have hk : doneC M c k = k := by simp only [doneC] at h; rw [if_pos hl] at h; omega
    rw [wrs_succ, ← List.append_assoc, sgn_append, sgn_run h0 hk]
    simp only [runC]
    rw [if_pos hl]
    simp only [stepC, rw, eq_comm]

/-- the run, as the document has it -/
def runR (M : Mach) (c : Cfg) (sp : List (Int × Int)) (N : Nat) : RunR :=
  ⟨sp ++ wrs M c (doneC M c N), (runC M c N).head, (runC M c N).st, doneC M c N, hds M c (doneC M c N), sts M c (doneC M c N)⟩

def tpR (M : Mach) (c : Cfg) (sp : List (Int × Int)) (k : Nat) : List (Int × Int) := sp ++ wrs M c k
theorem tpR_succ (M : Mach) (c : Cfg) (sp : List (Int × Int)) (k : Nat) : tpR M c sp (k + 1) = tpR M c sp k ++ [((runC M c k).head, (rw M c k).w)] := by simp [tpR, wrs_succ]
theorem tpR_length (M : Mach) (c : Cfg) (sp : List (Int × Int)) (k : Nat) : (tpR M c sp k).length = sp.length + k := by simp [tpR, wrs_length]
theorem runR_eq (M : Mach) (c : Cfg) (sp : List (Int × Int)) (N : Nat) : runR M c sp N = ⟨tpR M c sp (doneC M c N), (runC M c N).head, (runC M c N).st, doneC M c N, hds M c (doneC M c N), sts M c (doneC M c N)⟩ := rfl

set_option maxHeartbeats 4000000 in
theorem steps_spec (M : Mach) (sp : List (Int × Int)) (c : Cfg) (steps : Int) (hm : MOk M) (hc : COk M 120 c) (hs : 0 ≤ steps ∧ steps ≤ 60) (h0 : ∀ x, sgn sp x = c.f x) (hsp : sp.length ≤ 60) :
    CallsM Try.prog 12 [encM M, .agg [.arr 0 0 sp.length, I c.head, I c.st, I 0, Nl, Nl], I steps] [.arr 2 (sp.map encS)] (encRun (runR M c sp steps.toNat)) [none] := by
  obtain ⟨N, hN⟩ : ∃ N : Nat, N = steps.toNat := ⟨_, rfl⟩
  have hN' : steps = (N : Int) := by omega
  rw [← hN]
  refine fnM_of comp12 (by simp) (by simp) ?_
  unfold code12
  simp only [encM, encS, EA, EB, EC, ED, EE, EF, EG, XA, XB, XC, XD, XE, XF, XG, XH, XI, XJ, XK, XL, reduceIte, ↓reduceIte, Nat.reduceAdd, Nat.reduceLeDiff, Nat.reduceEqDiff, Nat.reduceLT, Nat.reduceSub, Nat.reduceBEq, forall_const, reduceCtorEq, implies_true, exists_eq_left', exists_eq_left, if_true, if_false, undef]
  refine loopR Nat [] (fun _ => []) (fun k => [(2, some (.box [.arr 4 0 (sp.length + k), I (runC M c k).head, I (runC M c k).st, I (k : Nat), .arr 5 0 k, .arr 6 0 k])), (0, none), (4, some (.arr 2 ((tpR M c sp k).map encS))), (5, some (.arr 1 ((hds M c k).map I))), (6, some (.arr 1 ((sts M c k).map I)))]) 3
    (fun k => k ≤ N ∧ doneC M c k = k) (fun k => N - k) (by decide) 0 [some 0, none, none] rfl (by simp [doneC]) (by simp [Back, SubT, Sub, SubL, SubM, SubO, keepM, srcOk, look, lookM, ev, evs, putT, argT, encS, EA, EB, EC, ED, EE, EF, EG, XA, XB, XC, XD, XE, XF, XG, XH, XI, XJ, XK, XL, reduceIte, ↓reduceIte, Nat.reduceAdd, Nat.reduceLeDiff, Nat.reduceEqDiff, Nat.reduceLT, Nat.reduceSub, Nat.reduceBEq, forall_const, reduceCtorEq, implies_true, exists_eq_left', exists_eq_left, if_true, if_false, undef, tpR, wrs, hds, sts, runC]) (fun k hk => ?_)
  obtain ⟨h1, h2⟩ := hk
  have hrk := runC_ok hm hc k
  have hd0 := hrk.hd
  have fin : ∀ (hh : ¬ (k < N ∧ (runC M c k).st < M.states)), runC M c N = runC M c k ∧ doneC M c N = k := fun hh => by
    by_cases hkN : k < N
    · have := halt_stays (fun q => hh ⟨hkN, q⟩) N h1
      exact ⟨this.1, this.2.trans h2⟩
    · have : N = k := by omega
      subst this; exact ⟨rfl, h2⟩
  have hsg : ∀ x, sgn (tpR M c sp k) x = (runC M c k).f x := sgn_run h0 h2
  have htl : ((tpR M c sp k).map encS).length = sp.length + k := by simp [tpR_length]
  have hhl : ((hds M c k).map I).length = k := by simp [hds_length]
  have hstl : ((sts M c k).map I).length = k := by simp [sts_length]
  have htk : List.take (sp.length + k) ((tpR M c sp k).map encS) = (tpR M c sp k).map encS := List.take_of_length_le (by rw [htl]; exact Nat.le_refl _)
  have hhk : List.take k ((hds M c k).map I) = (hds M c k).map I := List.take_of_length_le (by rw [hhl]; exact Nat.le_refl _)
  have hstk : List.take k ((sts M c k).map I) = (sts M c k).map I := List.take_of_length_le (by rw [hstl]; exact Nat.le_refl _)
  simp (maxSteps := 1000000) only [encS, EA, EB, EC, ED, EE, EF, EG, XA, XB, XC, XD, XE, XF, XG, XH, XI, XJ, XK, XL, reduceIte, ↓reduceIte, Nat.reduceAdd, Nat.reduceLeDiff, Nat.reduceEqDiff, Nat.reduceLT, Nat.reduceSub, Nat.reduceBEq, forall_const, reduceCtorEq, implies_true, exists_eq_left', exists_eq_left, if_true, if_false, undef]
  refine ⟨fun ha => ?_, fun ha => ?_⟩ <;> try simp (maxSteps := 1000000) only [encS, EA, EB, EC, ED, EE, EF, EG, XA, XB, XC, XD, XE, XF, XG, XH, XI, XJ, XK, XL, reduceIte, ↓reduceIte, Nat.reduceAdd, Nat.reduceLeDiff, Nat.reduceEqDiff, Nat.reduceLT, Nat.reduceSub, Nat.reduceBEq, forall_const, reduceCtorEq, implies_true, exists_eq_left', exists_eq_left, if_true, if_false, undef]
  · simp only [hN', decide_eq_true_eq, Int.ofNat_lt] at ha
    refine ⟨fun hb => ?_, fun hb => ?_⟩ <;> try simp (maxSteps := 1000000) only [encS, EA, EB, EC, ED, EE, EF, EG, XA, XB, XC, XD, XE, XF, XG, XH, XI, XJ, XK, XL, reduceIte, ↓reduceIte, Nat.reduceAdd, Nat.reduceLeDiff, Nat.reduceEqDiff, Nat.reduceLT, Nat.reduceSub, Nat.reduceBEq, forall_const, reduceCtorEq, implies_true, exists_eq_left', exists_eq_left, if_true, if_false, undef]
    · simp only [decide_eq_true_eq] at hb
      have hg := hrk.sg (runC M c k).head
      obtain ⟨a, b, e⟩ := hm.at hrk.st0 hb hg.1 hg.2
      have hr := hm.ruleAt hrk.st0 hb hg.1 hg.2
      refine ⟨hrk.st0, pickI a ?_⟩
      simp only [encRow, encS, EA, EB, EC, ED, EE, EF, EG, XA, XB, XC, XD, XE, XF, XG, XH, XI, XJ, XK, XL, reduceIte, ↓reduceIte, Nat.reduceAdd, Nat.reduceLeDiff, Nat.reduceEqDiff, Nat.reduceLT, Nat.reduceSub, Nat.reduceBEq, forall_const, reduceCtorEq, implies_true, exists_eq_left', exists_eq_left, if_true, if_false, undef]
      refine callD (CallsA.args (sign_spec (tpR M c sp k) (runC M c k).head (by rw [tpR_length]; omega) ) (by simp [ htk,encS, EA, EB, EC, ED, EE, EF, EG, XA, XB, XC, XD, XE, XF, XG, XH, XI, XJ, XK, XL, reduceIte, ↓reduceIte, Nat.reduceAdd, Nat.reduceLeDiff, Nat.reduceEqDiff, Nat.reduceLT, Nat.reduceSub, Nat.reduceBEq, forall_const, reduceCtorEq, implies_true, exists_eq_left', exists_eq_left, if_true, if_false, undef])) rfl (by simp [flat, encS, EA, EB, EC, ED, EE, EF, EG, XA, XB, XC, XD, XE, XF, XG, XH, XI, XJ, XK, XL, reduceIte, ↓reduceIte, Nat.reduceAdd, Nat.reduceLeDiff, Nat.reduceEqDiff, Nat.reduceLT, Nat.reduceSub, Nat.reduceBEq, forall_const, reduceCtorEq, implies_true, exists_eq_left', exists_eq_left, if_true, if_false, undef]) (by simp [encS, EA, EB, EC, ED, EE, EF, EG, XA, XB, XC, XD, XE, XF, XG, XH, XI, XJ, XK, XL, reduceIte, ↓reduceIte, Nat.reduceAdd, Nat.reduceLeDiff, Nat.reduceEqDiff, Nat.reduceLT, Nat.reduceSub, Nat.reduceBEq, forall_const, reduceCtorEq, implies_true, exists_eq_left', exists_eq_left, if_true, if_false, undef]) ?_
      simp only [hsg, encS, EA, EB, EC, ED, EE, EF, EG, XA, XB, XC, XD, XE, XF, XG, XH, XI, XJ, XK, XL, reduceIte, ↓reduceIte, Nat.reduceAdd, Nat.reduceLeDiff, Nat.reduceEqDiff, Nat.reduceLT, Nat.reduceSub, Nat.reduceBEq, forall_const, reduceCtorEq, implies_true, exists_eq_left', exists_eq_left, if_true, if_false, undef]
      refine ⟨hg.1, pickI b ?_⟩
      rw [← e]
      have hrun : runC M c (k + 1) = stepC M (runC M c k) := by simp only [runC]; rw [if_pos hb]
      have hdone : doneC M c (k + 1) = k + 1 := by simp only [doneC]; rw [if_pos hb, h2]
      have hrw : rw M c k = ruleAt M (runC M c k).st ((runC M c k).f (runC M c k).head) := rfl
      rw [← hrw] at hr ⊢
      have hst' : (runC M c (k + 1)).st = (rw M c k).n := by rw [hrun]; rfl
      have hhd' : (runC M c (k + 1)).head = (runC M c k).head + (rw M c k).m := by rw [hrun]; rfl
      generalize hrr : rw M c k = r at *
      have hw1 : IntKind.i64.wrap ((k : Int) + 1) = ((k + 1 : Nat) : Int) := by rw [wrap_id] <;> omega
      have hw2 : IntKind.i64.wrap ((runC M c k).head + r.m) = (runC M c k).head + r.m := by rw [wrap_id] <;> omega
      simp (maxSteps := 1000000) only [encR, htl, hhl, hstl, encS, EA, EB, EC, ED, EE, EF, EG, XA, XB, XC, XD, XE, XF, XG, XH, XI, XJ, XK, XL, reduceIte, ↓reduceIte, Nat.reduceAdd, Nat.reduceLeDiff, Nat.reduceEqDiff, Nat.reduceLT, Nat.reduceSub, Nat.reduceBEq, forall_const, reduceCtorEq, implies_true, exists_eq_left', exists_eq_left, if_true, if_false, undef]
      refine ⟨by omega, by omega, by omega, k + 1, [some 41, some 49, some 68], rfl, ⟨by omega, hdone⟩, by omega, ?_⟩
      simp (maxSteps := 1000000) [Back, SubT, Sub, SubL, SubM, SubO, keepM, srcOk, look, lookM, ev, evs, putT, argT, encS, EA, EB, EC, ED, EE, EF, EG, XA, XB, XC, XD, XE, XF, XG, XH, XI, XJ, XK, XL, reduceIte, ↓reduceIte, Nat.reduceAdd, Nat.reduceLeDiff, Nat.reduceEqDiff, Nat.reduceLT, Nat.reduceSub, Nat.reduceBEq, forall_const, reduceCtorEq, implies_true, exists_eq_left', exists_eq_left, if_true, if_false, undef, hw1, hw2, hst', hhd', tpR_succ, hds_succ, sts_succ, hrr, Nat.add_assoc]
    · simp only [decide_eq_false_iff_not] at hb
      obtain ⟨f1, f2⟩ := fin (fun q => hb q.2)
      refine ⟨[], by simp [encS, EA, EB, EC, ED, EE, EF, EG, XA, XB, XC, XD, XE, XF, XG, XH, XI, XJ, XK, XL, reduceIte, ↓reduceIte, Nat.reduceAdd, Nat.reduceLeDiff, Nat.reduceEqDiff, Nat.reduceLT, Nat.reduceSub, Nat.reduceBEq, forall_const, reduceCtorEq, implies_true, exists_eq_left', exists_eq_left, if_true, if_false, undef, encRun, runR_eq, f1, f2, htk, hhk, hstk], by simp [encS, EA, EB, EC, ED, EE, EF, EG, XA, XB, XC, XD, XE, XF, XG, XH, XI, XJ, XK, XL, reduceIte, ↓reduceIte, Nat.reduceAdd, Nat.reduceLeDiff, Nat.reduceEqDiff, Nat.reduceLT, Nat.reduceSub, Nat.reduceBEq, forall_const, reduceCtorEq, implies_true, exists_eq_left', exists_eq_left, if_true, if_false, undef], by simp [encS, EA, EB, EC, ED, EE, EF, EG, XA, XB, XC, XD, XE, XF, XG, XH, XI, XJ, XK, XL, reduceIte, ↓reduceIte, Nat.reduceAdd, Nat.reduceLeDiff, Nat.reduceEqDiff, Nat.reduceLT, Nat.reduceSub, Nat.reduceBEq, forall_const, reduceCtorEq, implies_true, exists_eq_left', exists_eq_left, if_true, if_false, undef]⟩
  · simp only [hN', Bool.not_true, decide_eq_false_iff_not, Int.ofNat_lt] at ha
    obtain ⟨f1, f2⟩ := fin (fun q => ha q.1)
    refine ⟨[], by simp [encS, EA, EB, EC, ED, EE, EF, EG, XA, XB, XC, XD, XE, XF, XG, XH, XI, XJ, XK, XL, reduceIte, ↓reduceIte, Nat.reduceAdd, Nat.reduceLeDiff, Nat.reduceEqDiff, Nat.reduceLT, Nat.reduceSub, Nat.reduceBEq, forall_const, reduceCtorEq, implies_true, exists_eq_left', exists_eq_left, if_true, if_false, undef, encRun, runR_eq, f1, f2, htk, hhk, hstk], by simp [encS, EA, EB, EC, ED, EE, EF, EG, XA, XB, XC, XD, XE, XF, XG, XH, XI, XJ, XK, XL, reduceIte, ↓reduceIte, Nat.reduceAdd, Nat.reduceLeDiff, Nat.reduceEqDiff, Nat.reduceLT, Nat.reduceSub, Nat.reduceBEq, forall_const, reduceCtorEq, implies_true, exists_eq_left', exists_eq_left, if_true, if_false, undef], by simp [encS, EA, EB, EC, ED, EE, EF, EG, XA, XB, XC, XD, XE, XF, XG, XH, XI, XJ, XK, XL, reduceIte, ↓reduceIte, Nat.reduceAdd, Nat.reduceLeDiff, Nat.reduceEqDiff, Nat.reduceLT, Nat.reduceSub, Nat.reduceBEq, forall_const, reduceCtorEq, implies_true, exists_eq_left', exists_eq_left, if_true, if_false, undef]⟩

end Go.Av
