/- What goes over each border. -/
import Derived.Test.YtkoenncepcmljaaCross
set_option linter.unusedSimpArgs false
set_option linter.unusedVariables false
set_option maxRecDepth 100000
namespace Go.Av
open Go.Proofs

def rwI (l : List Int) : MRow := .own (l.map I)
def roI (l : List Int) : AV := .ro 1 (l.map I)
theorem rowsOk_rw (L : List (List Int)) : rowsOk (L.map rwI) = true := by
  induction L with
  | nil => rfl
  | cons l L ih => simp [rowsOk, rwI, rowOk]; exact ih
theorem rowRO_rw (L : List (List Int)) : (L.map rwI).map (rowRO 1) = L.map roI := by simp [rwI, roI, rowRO]
theorem pickRw {L : List (List Int)} {i : Nat} {K : MRow → Prop} (h : i < L.length) (hK : K (.own (L[i].map I))) : PickR (L.map rwI) i K := ⟨.own (L[i].map I), by simp [h, rwI], hK⟩

def crAll (M : Mach) (c : Cfg) (n k : Nat) : List (List Int) := (List.range n).map fun b => crL M c (b : Nat) k
theorem crAll_length (M : Mach) (c : Cfg) (n k : Nat) : (crAll M c n k).length = n := by simp [crAll]
theorem crAll_at {M : Mach} {c : Cfg} {n k i : Nat} (h : i < (crAll M c n k).length) : (crAll M c n k)[i] = crL M c (i : Nat) k := by simp [crAll]
theorem crAll_same {M : Mach} {c : Cfg} {n k : Nat} (h : ¬((runC M c (k + 1)).head ≠ (runC M c k).head ∧ 0 ≤ crAt M c k ∧ crAt M c k < n)) : crAll M c n (k + 1) = crAll M c n k := by
  simp only [crAll]
  refine List.map_congr_left (fun b hb => ?_)
  simp only [crL]
  rw [if_neg]
  rintro ⟨h1, h2⟩
  simp at hb
  exact h ⟨h1, by omega, by omega⟩
theorem crAll_step {M : Mach} {c : Cfg} {n k : Nat} (h : (runC M c (k + 1)).head ≠ (runC M c k).head) (h0 : 0 ≤ crAt M c k) (h1 : crAt M c k < n) :
    crAll M c n (k + 1) = (crAll M c n k).set (crAt M c k).toNat (crL M c (crAt M c k) k ++ [(runC M c (k + 1)).st]) := by
  apply List.ext_getElem?
  intro i
  rw [List.getElem?_set]
  by_cases hi : i < n
  · have e1 : (crAll M c n (k + 1))[i]? = some (crL M c (i : Nat) (k + 1)) := by simp [crAll, hi]
    have e2 : (crAll M c n k)[i]? = some (crL M c (i : Nat) k) := by simp [crAll, hi]
    rw [e1, e2, crAll_length]
    by_cases hc : (crAt M c k).toNat = i
    · rw [if_pos hc, if_pos (by omega)]
      have : crAt M c k = (i : Int) := by omega
      simp only [crL]
      rw [if_pos ⟨h, this⟩, this]
    · rw [if_neg hc]
      simp only [crL]
      rw [if_neg (fun q => hc (by have := q.2; omega))]
  · have e1 : (crAll M c n (k + 1))[i]? = none := by simp [crAll, hi]
    have e2 : (crAll M c n k)[i]? = none := by simp [crAll, hi]
    rw [e1, e2]
    split
    · rw [crAll_length, if_neg (by omega)]
    · rfl

theorem all1_in (b s : Int) (L : List (List Int)) (h0 : 0 ≤ b) (h1 : b < L.length) (hl : (L[b.toNat]?.getD []).length ≤ 1000) :
    CallsM Try.prog 27 [I b, I s, .ptr 0 0] [.box [.arr 1 0 L.length], .mat 1 (L.map rwI)] (.tup [])
      [some (.box [.arr 1 0 L.length]), some (.mat 1 ((L.set b.toNat (L[b.toNat]?.getD [] ++ [s])).map rwI))] := by
  have hlt : b.toNat < L.length := by omega
  have hg : L[b.toNat]?.getD [] = L[b.toNat] := by simp [hlt]
  rw [hg] at hl ⊢
  refine fnM_of comp27 (by simp) (by simp) ?_
  unfold code27
  have e1 : decide (0 ≤ b) = true := by simp [h0]
  have e2 : decide (b < (L.length : Int)) = true := by simp [h1]
  have hll : (L[b.toNat].map I).length = L[b.toNat].length := by simp
  simp (maxSteps := 1000000) only [e1, e2, encS, roI, EA, EB, EC, ED, EE, EF, EG, XA, XB, XC, XD, XE, XF, XG, XH, XI, XJ, XK, XL, reduceIte, ↓reduceIte, Nat.reduceAdd, Nat.reduceLeDiff, Nat.reduceEqDiff, Nat.reduceLT, Nat.reduceSub, Nat.reduceBEq, forall_const, reduceCtorEq, implies_true, exists_eq_left', exists_eq_left, if_true, if_false, undef]
  refine ⟨h0, h1, ?_⟩
  rw [Nat.zero_add]
  refine pickRw hlt ?_
  simp (maxSteps := 1000000) only [hll, encS, roI, EA, EB, EC, ED, EE, EF, EG, XA, XB, XC, XD, XE, XF, XG, XH, XI, XJ, XK, XL, reduceIte, ↓reduceIte, Nat.reduceAdd, Nat.reduceLeDiff, Nat.reduceEqDiff, Nat.reduceLT, Nat.reduceSub, Nat.reduceBEq, forall_const, reduceCtorEq, implies_true, exists_eq_left', exists_eq_left, if_true, if_false, undef]
  refine ⟨by omega, h0, h1, by simp [hlt], by simp, by decide, [], by simp, ?_, by simp [encS, roI, EA, EB, EC, ED, EE, EF, EG, XA, XB, XC, XD, XE, XF, XG, XH, XI, XJ, XK, XL, reduceIte, ↓reduceIte, Nat.reduceAdd, Nat.reduceLeDiff, Nat.reduceEqDiff, Nat.reduceLT, Nat.reduceSub, Nat.reduceBEq, forall_const, reduceCtorEq, implies_true, exists_eq_left', exists_eq_left, if_true, if_false, undef]⟩
  rw [List.set_set, List.map_set]
  simp [rwI]

theorem all1_out (b s : Int) (L : List (List Int)) (h : ¬(0 ≤ b ∧ b < L.length)) :
    CallsM Try.prog 27 [I b, I s, .ptr 0 0] [.box [.arr 1 0 L.length], .mat 1 (L.map rwI)] (.tup [])
      [some (.box [.arr 1 0 L.length]), some (.mat 1 (L.map rwI))] := by
  refine fnM_of comp27 (by simp) (by simp) ?_
  unfold code27
  by_cases h0 : 0 ≤ b
  · have e1 : decide (0 ≤ b) = true := by simp [h0]
    have e2 : decide (b < (L.length : Int)) = false := by simp; omega
    simp (maxSteps := 1000000) only [e1, e2, encS, roI, EA, EB, EC, ED, EE, EF, EG, XA, XB, XC, XD, XE, XF, XG, XH, XI, XJ, XK, XL, reduceIte, ↓reduceIte, Nat.reduceAdd, Nat.reduceLeDiff, Nat.reduceEqDiff, Nat.reduceLT, Nat.reduceSub, Nat.reduceBEq, forall_const, reduceCtorEq, implies_true, exists_eq_left', exists_eq_left, if_true, if_false, undef]
    exact ⟨[], by simp [encS, roI, EA, EB, EC, ED, EE, EF, EG, XA, XB, XC, XD, XE, XF, XG, XH, XI, XJ, XK, XL, reduceIte, ↓reduceIte, Nat.reduceAdd, Nat.reduceLeDiff, Nat.reduceEqDiff, Nat.reduceLT, Nat.reduceSub, Nat.reduceBEq, forall_const, reduceCtorEq, implies_true, exists_eq_left', exists_eq_left, if_true, if_false, undef]⟩
  · have e1 : decide (0 ≤ b) = false := by simp [h0]
    simp (maxSteps := 1000000) only [e1, encS, roI, EA, EB, EC, ED, EE, EF, EG, XA, XB, XC, XD, XE, XF, XG, XH, XI, XJ, XK, XL, reduceIte, ↓reduceIte, Nat.reduceAdd, Nat.reduceLeDiff, Nat.reduceEqDiff, Nat.reduceLT, Nat.reduceSub, Nat.reduceBEq, forall_const, reduceCtorEq, implies_true, exists_eq_left', exists_eq_left, if_true, if_false, undef]
    exact ⟨[], by simp [encS, roI, EA, EB, EC, ED, EE, EF, EG, XA, XB, XC, XD, XE, XF, XG, XH, XI, XJ, XK, XL, reduceIte, ↓reduceIte, Nat.reduceAdd, Nat.reduceLeDiff, Nat.reduceEqDiff, Nat.reduceLT, Nat.reduceSub, Nat.reduceBEq, forall_const, reduceCtorEq, implies_true, exists_eq_left', exists_eq_left, if_true, if_false, undef]⟩

theorem observeA_spec (M : Mach) (l : List Int) (n : Nat) (steps : Int) (d : Nat) (hl : (l.length : Int) < 2 ^ 63) (h : runErr M l steps = 0) (hd : (d : Int) ≤ steps) :
    CallsM Try.prog 26 [encM M, .ro 1 (l.map I), I (d : Nat), .fn 27 [.ptr 0 0]] [.box [.arr 1 0 n], .mat 1 ((crAll M (startC ⟨0, 0, 0, l⟩) n 0).map rwI)] (.tup [])
      [some (.box [.arr 1 0 n]), some (.mat 1 ((crAll M (startC ⟨0, 0, 0, l⟩) n d).map rwI))] := by
  obtain ⟨hg, hl8⟩ := runOk h
  obtain ⟨c, hc⟩ : ∃ c, c = startC ⟨0, 0, 0, l⟩ := ⟨_, rfl⟩
  have hc0 : COk M 120 c := hc ▸ hg.cfg
  have hst := hg.steps
  have hh0 : c.head = 0 := by rw [hc]; rfl
  rw [← hc]
  refine fnM_of comp26 (by simp) (by simp) ?_
  unfold code26
  simp only [encM, encS, roI, EA, EB, EC, ED, EE, EF, EG, XA, XB, XC, XD, XE, XF, XG, XH, XI, XJ, XK, XL, reduceIte, ↓reduceIte, Nat.reduceAdd, Nat.reduceLeDiff, Nat.reduceEqDiff, Nat.reduceLT, Nat.reduceSub, Nat.reduceBEq, forall_const, reduceCtorEq, implies_true, exists_eq_left', exists_eq_left, if_true, if_false, undef]
  refine loopO Nat [8, 9] (fun k => [I (runC M c k).head, I ((k : Nat) + 1)]) (fun k => [(1, some (.mat 1 ((crAll M c n k).map rwI)))]) (fun k => k ≤ d) (fun k => d - k) (by decide)
    0 (by simp) (by simp [Back, SubT, Sub, SubL, SubM, SubO, keepM, srcOk, look, lookM, ev, evs, putT, argT, encS, roI, EA, EB, EC, ED, EE, EF, EG, XA, XB, XC, XD, XE, XF, XG, XH, XI, XJ, XK, XL, reduceIte, ↓reduceIte, Nat.reduceAdd, Nat.reduceLeDiff, Nat.reduceEqDiff, Nat.reduceLT, Nat.reduceSub, Nat.reduceBEq, forall_const, reduceCtorEq, implies_true, exists_eq_left', exists_eq_left, if_true, if_false, undef, runC, hh0]) (fun k hk => ?_)
  simp (maxSteps := 1000000) only [encS, roI, EA, EB, EC, ED, EE, EF, EG, XA, XB, XC, XD, XE, XF, XG, XH, XI, XJ, XK, XL, reduceIte, ↓reduceIte, Nat.reduceAdd, Nat.reduceLeDiff, Nat.reduceEqDiff, Nat.reduceLT, Nat.reduceSub, Nat.reduceBEq, forall_const, reduceCtorEq, implies_true, exists_eq_left', exists_eq_left, if_true, if_false, undef]
  refine ⟨fun ha => ?_, fun ha => ?_⟩ <;> try simp (maxSteps := 1000000) only [encS, roI, EA, EB, EC, ED, EE, EF, EG, XA, XB, XC, XD, XE, XF, XG, XH, XI, XJ, XK, XL, reduceIte, ↓reduceIte, Nat.reduceAdd, Nat.reduceLeDiff, Nat.reduceEqDiff, Nat.reduceLT, Nat.reduceSub, Nat.reduceBEq, forall_const, reduceCtorEq, implies_true, exists_eq_left', exists_eq_left, if_true, if_false, undef]
  · simp only [decide_eq_true_eq] at ha
    have hri := runErr_steps h (i := (k : Int) + 1) (by omega)
    have hck := runC_ok hg.mach hc0 (k + 1)
    obtain ⟨lo, hi, hs, ht, _⟩ := hck.tell
    have htn : ((k : Int) + 1).toNat = k + 1 := by omega
    have hw : IntKind.i64.wrap ((k : Int) + 1 + 1) = ((k + 1 : Nat) : Int) + 1 := by rw [wrap_id] <;> omega
    refine callA (CallsA.args (run_spec M l ((k : Int) + 1) hl ) (by simp [ encM,encS, roI, EA, EB, EC, ED, EE, EF, EG, XA, XB, XC, XD, XE, XF, XG, XH, XI, XJ, XK, XL, reduceIte, ↓reduceIte, Nat.reduceAdd, Nat.reduceLeDiff, Nat.reduceEqDiff, Nat.reduceLT, Nat.reduceSub, Nat.reduceBEq, forall_const, reduceCtorEq, implies_true, exists_eq_left', exists_eq_left, if_true, if_false, undef])) rfl ?_
    simp (maxSteps := 1000000) only [runAns, hri, if_true, ← hc, htn, encN, ht, encS, roI, EA, EB, EC, ED, EE, EF, EG, XA, XB, XC, XD, XE, XF, XG, XH, XI, XJ, XK, XL, reduceIte, ↓reduceIte, Nat.reduceAdd, Nat.reduceLeDiff, Nat.reduceEqDiff, Nat.reduceLT, Nat.reduceSub, Nat.reduceBEq, forall_const, reduceCtorEq, implies_true, exists_eq_left', exists_eq_left, if_true, if_false, undef]
    have hcr : crAt M c k = if (runC M c k).head > (runC M c (k + 1)).head then (runC M c k).head else (runC M c (k + 1)).head := rfl
    have hlen := crAll_length M c n k
    refine ⟨fun hb => ?_, fun hb => ?_⟩ <;> try simp (maxSteps := 1000000) only [encS, roI, EA, EB, EC, ED, EE, EF, EG, XA, XB, XC, XD, XE, XF, XG, XH, XI, XJ, XK, XL, reduceIte, ↓reduceIte, Nat.reduceAdd, Nat.reduceLeDiff, Nat.reduceEqDiff, Nat.reduceLT, Nat.reduceSub, Nat.reduceBEq, forall_const, reduceCtorEq, implies_true, exists_eq_left', exists_eq_left, if_true, if_false, undef]
    · simp at hb
      rw [← hcr]
      by_cases hcb : 0 ≤ crAt M c k ∧ crAt M c k < n
      · have hnext := crAll_step (n := n) hb hcb.1 hcb.2
        have hget : (crAll M c n k)[(crAt M c k).toNat]?.getD [] = crL M c (crAt M c k) k := by
          rw [List.getElem?_eq_getElem (by omega), Option.getD_some, crAll_at]
          rw [show (((crAt M c k).toNat : Nat) : Int) = crAt M c k by omega]
        have hcl := crL_length M c (crAt M c k) k
        have key := all1_in (crAt M c k) (runC M c (k + 1)).st (crAll M c n k) hcb.1 (by omega) (by rw [hget]; omega)
        rw [hget, ← hnext, hlen] at key
        refine callM [some 0, some 1] (key) (by simp [encS, roI, EA, EB, EC, ED, EE, EF, EG, XA, XB, XC, XD, XE, XF, XG, XH, XI, XJ, XK, XL, reduceIte, ↓reduceIte, Nat.reduceAdd, Nat.reduceLeDiff, Nat.reduceEqDiff, Nat.reduceLT, Nat.reduceSub, Nat.reduceBEq, forall_const, reduceCtorEq, implies_true, exists_eq_left', exists_eq_left, if_true, if_false, undef]) (by simp [encS, roI, EA, EB, EC, ED, EE, EF, EG, XA, XB, XC, XD, XE, XF, XG, XH, XI, XJ, XK, XL, reduceIte, ↓reduceIte, Nat.reduceAdd, Nat.reduceLeDiff, Nat.reduceEqDiff, Nat.reduceLT, Nat.reduceSub, Nat.reduceBEq, forall_const, reduceCtorEq, implies_true, exists_eq_left', exists_eq_left, if_true, if_false, undef]) (by simp [encS, roI, EA, EB, EC, ED, EE, EF, EG, XA, XB, XC, XD, XE, XF, XG, XH, XI, XJ, XK, XL, reduceIte, ↓reduceIte, Nat.reduceAdd, Nat.reduceLeDiff, Nat.reduceEqDiff, Nat.reduceLT, Nat.reduceSub, Nat.reduceBEq, forall_const, reduceCtorEq, implies_true, exists_eq_left', exists_eq_left, if_true, if_false, undef]) ?_
        simp (maxSteps := 1000000) only [encS, roI, EA, EB, EC, ED, EE, EF, EG, XA, XB, XC, XD, XE, XF, XG, XH, XI, XJ, XK, XL, reduceIte, ↓reduceIte, Nat.reduceAdd, Nat.reduceLeDiff, Nat.reduceEqDiff, Nat.reduceLT, Nat.reduceSub, Nat.reduceBEq, forall_const, reduceCtorEq, implies_true, exists_eq_left', exists_eq_left, if_true, if_false, undef]
        refine ⟨k + 1, by omega, by omega, ?_⟩
        simp [Back, SubT, Sub, SubL, SubM, SubO, keepM, srcOk, look, lookM, ev, evs, putT, argT, encS, roI, EA, EB, EC, ED, EE, EF, EG, XA, XB, XC, XD, XE, XF, XG, XH, XI, XJ, XK, XL, reduceIte, ↓reduceIte, Nat.reduceAdd, Nat.reduceLeDiff, Nat.reduceEqDiff, Nat.reduceLT, Nat.reduceSub, Nat.reduceBEq, forall_const, reduceCtorEq, implies_true, exists_eq_left', exists_eq_left, if_true, if_false, undef, hw]
      · have hnext := crAll_same (n := n) (M := M) (c := c) (k := k) (fun q => hcb q.2)
        have key := all1_out (crAt M c k) (runC M c (k + 1)).st (crAll M c n k) (by rw [hlen]; exact hcb)
        rw [hlen] at key
        refine callM [some 0, some 1] (key) (by simp [encS, roI, EA, EB, EC, ED, EE, EF, EG, XA, XB, XC, XD, XE, XF, XG, XH, XI, XJ, XK, XL, reduceIte, ↓reduceIte, Nat.reduceAdd, Nat.reduceLeDiff, Nat.reduceEqDiff, Nat.reduceLT, Nat.reduceSub, Nat.reduceBEq, forall_const, reduceCtorEq, implies_true, exists_eq_left', exists_eq_left, if_true, if_false, undef]) (by simp [encS, roI, EA, EB, EC, ED, EE, EF, EG, XA, XB, XC, XD, XE, XF, XG, XH, XI, XJ, XK, XL, reduceIte, ↓reduceIte, Nat.reduceAdd, Nat.reduceLeDiff, Nat.reduceEqDiff, Nat.reduceLT, Nat.reduceSub, Nat.reduceBEq, forall_const, reduceCtorEq, implies_true, exists_eq_left', exists_eq_left, if_true, if_false, undef]) (by simp [encS, roI, EA, EB, EC, ED, EE, EF, EG, XA, XB, XC, XD, XE, XF, XG, XH, XI, XJ, XK, XL, reduceIte, ↓reduceIte, Nat.reduceAdd, Nat.reduceLeDiff, Nat.reduceEqDiff, Nat.reduceLT, Nat.reduceSub, Nat.reduceBEq, forall_const, reduceCtorEq, implies_true, exists_eq_left', exists_eq_left, if_true, if_false, undef]) ?_
        simp (maxSteps := 1000000) only [encS, roI, EA, EB, EC, ED, EE, EF, EG, XA, XB, XC, XD, XE, XF, XG, XH, XI, XJ, XK, XL, reduceIte, ↓reduceIte, Nat.reduceAdd, Nat.reduceLeDiff, Nat.reduceEqDiff, Nat.reduceLT, Nat.reduceSub, Nat.reduceBEq, forall_const, reduceCtorEq, implies_true, exists_eq_left', exists_eq_left, if_true, if_false, undef]
        refine ⟨k + 1, by omega, by omega, ?_⟩
        simp [Back, SubT, Sub, SubL, SubM, SubO, keepM, srcOk, look, lookM, ev, evs, putT, argT, encS, roI, EA, EB, EC, ED, EE, EF, EG, XA, XB, XC, XD, XE, XF, XG, XH, XI, XJ, XK, XL, reduceIte, ↓reduceIte, Nat.reduceAdd, Nat.reduceLeDiff, Nat.reduceEqDiff, Nat.reduceLT, Nat.reduceSub, Nat.reduceBEq, forall_const, reduceCtorEq, implies_true, exists_eq_left', exists_eq_left, if_true, if_false, undef, hw, hnext]
    · simp at hb
      have hnext := crAll_same (n := n) (M := M) (c := c) (k := k) (fun q => q.1 hb)
      refine ⟨k + 1, by omega, by omega, ?_⟩
      simp [Back, SubT, Sub, SubL, SubM, SubO, keepM, srcOk, look, lookM, ev, evs, putT, argT, encS, roI, EA, EB, EC, ED, EE, EF, EG, XA, XB, XC, XD, XE, XF, XG, XH, XI, XJ, XK, XL, reduceIte, ↓reduceIte, Nat.reduceAdd, Nat.reduceLeDiff, Nat.reduceEqDiff, Nat.reduceLT, Nat.reduceSub, Nat.reduceBEq, forall_const, reduceCtorEq, implies_true, exists_eq_left', exists_eq_left, if_true, if_false, undef, hw, hnext]
  · simp only [decide_eq_false_iff_not] at ha
    have : k = d := by omega
    subst this
    exact ⟨[], by simp [encS, roI, EA, EB, EC, ED, EE, EF, EG, XA, XB, XC, XD, XE, XF, XG, XH, XI, XJ, XK, XL, reduceIte, ↓reduceIte, Nat.reduceAdd, Nat.reduceLeDiff, Nat.reduceEqDiff, Nat.reduceLT, Nat.reduceSub, Nat.reduceBEq, forall_const, reduceCtorEq, implies_true, exists_eq_left', exists_eq_left, if_true, if_false, undef]⟩

def allL (M : Mach) (l : List Int) (steps : Int) : List (List Int) :=
  if runErr M l steps = 0 then crAll M (startC ⟨0, 0, 0, l⟩) (l.length + 1) (doneC M (startC ⟨0, 0, 0, l⟩) steps.toNat) else []

theorem crAll_zero (M : Mach) (c : Cfg) (n : Nat) : (crAll M c n 0).map rwI = List.replicate n (.own []) := by
  apply List.ext_getElem?
  intro i
  by_cases hi : i < n <;> simp [crAll, hi, rwI, crL]

theorem all_spec (M : Mach) (l : List Int) (steps : Int) (hl : (l.length : Int) < 2 ^ 63) : CallsA Try.prog 10 [encM M, .ro 1 (l.map I), I steps] (.tup [.ro 1 ((allL M l steps).map roI), I (runErr M l steps)]) [] := by
  refine fn_of0 comp10 (by simp) ?_
  unfold code10
  simp only [encM, encS, roI, EA, EB, EC, ED, EE, EF, EG, XA, XB, XC, XD, XE, XF, XG, XH, XI, XJ, XK, XL, reduceIte, ↓reduceIte, Nat.reduceAdd, Nat.reduceLeDiff, Nat.reduceEqDiff, Nat.reduceLT, Nat.reduceSub, Nat.reduceBEq, forall_const, reduceCtorEq, implies_true, exists_eq_left', exists_eq_left, if_true, if_false, undef]
  refine callA (CallsA.args (run_spec M l steps hl ) (by simp [ encM,encS, roI, EA, EB, EC, ED, EE, EF, EG, XA, XB, XC, XD, XE, XF, XG, XH, XI, XJ, XK, XL, reduceIte, ↓reduceIte, Nat.reduceAdd, Nat.reduceLeDiff, Nat.reduceEqDiff, Nat.reduceLT, Nat.reduceSub, Nat.reduceBEq, forall_const, reduceCtorEq, implies_true, exists_eq_left', exists_eq_left, if_true, if_false, undef])) rfl ?_
  by_cases h : runErr M l steps = 0
  · simp (maxSteps := 1000000) only [runAns, h, if_true, encN, encS, roI, EA, EB, EC, ED, EE, EF, EG, XA, XB, XC, XD, XE, XF, XG, XH, XI, XJ, XK, XL, reduceIte, ↓reduceIte, Nat.reduceAdd, Nat.reduceLeDiff, Nat.reduceEqDiff, Nat.reduceLT, Nat.reduceSub, Nat.reduceBEq, forall_const, reduceCtorEq, implies_true, exists_eq_left', exists_eq_left, if_true, if_false, undef]
    have hd := done_le M (startC ⟨0, 0, 0, l⟩) steps.toNat
    obtain ⟨hg, hl8⟩ := runOk h
    have hst := hg.steps
    have hll : ((l.map I).length : Int) = l.length := by simp
    have hw : IntKind.i64.wrap ((l.length : Int) + 1) = ((l.length + 1 : Nat) : Int) := by rw [wrap_id] <;> omega
    simp (maxSteps := 1000000) only [bne_self_eq_false, hll, hw, encS, roI, EA, EB, EC, ED, EE, EF, EG, XA, XB, XC, XD, XE, XF, XG, XH, XI, XJ, XK, XL, reduceIte, ↓reduceIte, Nat.reduceAdd, Nat.reduceLeDiff, Nat.reduceEqDiff, Nat.reduceLT, Nat.reduceSub, Nat.reduceBEq, forall_const, reduceCtorEq, implies_true, exists_eq_left', exists_eq_left, if_true, if_false, undef]
    refine ⟨by omega, by omega, by omega, .inr ?_⟩
    rw [hll, hw, Int.toNat_natCast, ← crAll_zero M (startC ⟨0, 0, 0, l⟩) (l.length + 1)]
    simp (maxSteps := 1000000) only [encS, roI, EA, EB, EC, ED, EE, EF, EG, XA, XB, XC, XD, XE, XF, XG, XH, XI, XJ, XK, XL, reduceIte, ↓reduceIte, Nat.reduceAdd, Nat.reduceLeDiff, Nat.reduceEqDiff, Nat.reduceLT, Nat.reduceSub, Nat.reduceBEq, forall_const, reduceCtorEq, implies_true, exists_eq_left', exists_eq_left, if_true, if_false, undef]
    refine callM [some 21, some 20] (observeA_spec M l (l.length + 1) steps (doneC M (startC ⟨0, 0, 0, l⟩) steps.toNat) hl h (by omega)) (by simp [ encM,encS, roI, EA, EB, EC, ED, EE, EF, EG, XA, XB, XC, XD, XE, XF, XG, XH, XI, XJ, XK, XL, reduceIte, ↓reduceIte, Nat.reduceAdd, Nat.reduceLeDiff, Nat.reduceEqDiff, Nat.reduceLT, Nat.reduceSub, Nat.reduceBEq, forall_const, reduceCtorEq, implies_true, exists_eq_left', exists_eq_left, if_true, if_false, undef]) (by simp [encS, roI, EA, EB, EC, ED, EE, EF, EG, XA, XB, XC, XD, XE, XF, XG, XH, XI, XJ, XK, XL, reduceIte, ↓reduceIte, Nat.reduceAdd, Nat.reduceLeDiff, Nat.reduceEqDiff, Nat.reduceLT, Nat.reduceSub, Nat.reduceBEq, forall_const, reduceCtorEq, implies_true, exists_eq_left', exists_eq_left, if_true, if_false, undef]) (by simp [ encM,encS, roI, EA, EB, EC, ED, EE, EF, EG, XA, XB, XC, XD, XE, XF, XG, XH, XI, XJ, XK, XL, reduceIte, ↓reduceIte, Nat.reduceAdd, Nat.reduceLeDiff, Nat.reduceEqDiff, Nat.reduceLT, Nat.reduceSub, Nat.reduceBEq, forall_const, reduceCtorEq, implies_true, exists_eq_left', exists_eq_left, if_true, if_false, undef]) ?_
    simp (maxSteps := 1000000) only [rowsOk_rw, rowRO_rw, encS, roI, EA, EB, EC, ED, EE, EF, EG, XA, XB, XC, XD, XE, XF, XG, XH, XI, XJ, XK, XL, reduceIte, ↓reduceIte, Nat.reduceAdd, Nat.reduceLeDiff, Nat.reduceEqDiff, Nat.reduceLT, Nat.reduceSub, Nat.reduceBEq, forall_const, reduceCtorEq, implies_true, exists_eq_left', exists_eq_left, if_true, if_false, undef]
    rw [List.take_of_length_le (by simp [crAll_length]), allL, if_pos h]
  · simp (maxSteps := 1000000) only [runAns, h, if_false, encN, now0, encS, roI, EA, EB, EC, ED, EE, EF, EG, XA, XB, XC, XD, XE, XF, XG, XH, XI, XJ, XK, XL, reduceIte, ↓reduceIte, Nat.reduceAdd, Nat.reduceLeDiff, Nat.reduceEqDiff, Nat.reduceLT, Nat.reduceSub, Nat.reduceBEq, forall_const, reduceCtorEq, implies_true, exists_eq_left', exists_eq_left, if_true, if_false, undef]
    have e1 : (runErr M l steps != 0) = true := by simp [h]
    simp [e1, encS, roI, EA, EB, EC, ED, EE, EF, EG, XA, XB, XC, XD, XE, XF, XG, XH, XI, XJ, XK, XL, reduceIte, ↓reduceIte, Nat.reduceAdd, Nat.reduceLeDiff, Nat.reduceEqDiff, Nat.reduceLT, Nat.reduceSub, Nat.reduceBEq, forall_const, reduceCtorEq, implies_true, exists_eq_left', exists_eq_left, if_true, if_false, undef, allL, h]

theorem lists_spec (a b : List (List Int)) (ha : (a.length : Int) < 2 ^ 63) (hal : ∀ x ∈ a, (x.length : Int) < 2 ^ 63) : CallsA Try.prog 15 [.ro 1 (a.map roI), .ro 1 (b.map roI)] (Bo (decide (a = b))) [] := by
  refine fn_of0 comp15 (by simp) ?_
  unfold code15
  simp only [encS, roI, EA, EB, EC, ED, EE, EF, EG, XA, XB, XC, XD, XE, XF, XG, XH, XI, XJ, XK, XL, reduceIte, ↓reduceIte, Nat.reduceAdd, Nat.reduceLeDiff, Nat.reduceEqDiff, Nat.reduceLT, Nat.reduceSub, Nat.reduceBEq, forall_const, reduceCtorEq, implies_true, exists_eq_left', exists_eq_left, if_true, if_false, undef]
  refine ⟨fun h => ?_, fun h => ?_⟩ <;> try simp (maxSteps := 1000000) only [encS, roI, EA, EB, EC, ED, EE, EF, EG, XA, XB, XC, XD, XE, XF, XG, XH, XI, XJ, XK, XL, reduceIte, ↓reduceIte, Nat.reduceAdd, Nat.reduceLeDiff, Nat.reduceEqDiff, Nat.reduceLT, Nat.reduceSub, Nat.reduceBEq, forall_const, reduceCtorEq, implies_true, exists_eq_left', exists_eq_left, if_true, if_false, undef]
  · simp at h; simp; intro hh; subst hh; exact h rfl
  have hlen : a.length = b.length := by have : (a.length : Int) = b.length := by simpa using h
                                        omega
  refine loop0 Nat [5] (fun k => [I k]) (fun k => k ≤ a.length ∧ a.take k = b.take k) (fun k => a.length - k) (by decide) 0 (by simp) (by simp [Back, SubT, Sub, SubL, SubM, SubO, keepM, srcOk, look, lookM, ev, evs, putT, argT, encS, roI, EA, EB, EC, ED, EE, EF, EG, XA, XB, XC, XD, XE, XF, XG, XH, XI, XJ, XK, XL, reduceIte, ↓reduceIte, Nat.reduceAdd, Nat.reduceLeDiff, Nat.reduceEqDiff, Nat.reduceLT, Nat.reduceSub, Nat.reduceBEq, forall_const, reduceCtorEq, implies_true, exists_eq_left', exists_eq_left, if_true, if_false, undef]) (fun k hk => ?_)
  obtain ⟨hk, hp⟩ := hk
  simp (maxSteps := 1000000) only [encS, roI, EA, EB, EC, ED, EE, EF, EG, XA, XB, XC, XD, XE, XF, XG, XH, XI, XJ, XK, XL, reduceIte, ↓reduceIte, Nat.reduceAdd, Nat.reduceLeDiff, Nat.reduceEqDiff, Nat.reduceLT, Nat.reduceSub, Nat.reduceBEq, forall_const, reduceCtorEq, implies_true, exists_eq_left', exists_eq_left, if_true, if_false, undef]
  refine ⟨fun h => ?_, fun h => ?_⟩ <;> try simp (maxSteps := 1000000) only [encS, roI, EA, EB, EC, ED, EE, EF, EG, XA, XB, XC, XD, XE, XF, XG, XH, XI, XJ, XK, XL, reduceIte, ↓reduceIte, Nat.reduceAdd, Nat.reduceLeDiff, Nat.reduceEqDiff, Nat.reduceLT, Nat.reduceSub, Nat.reduceBEq, forall_const, reduceCtorEq, implies_true, exists_eq_left', exists_eq_left, if_true, if_false, undef]
  · simp only [decide_eq_true_eq, List.length_map, Int.ofNat_lt] at h
    refine ⟨by omega, ?_⟩
    refine pickM h ?_
    simp (maxSteps := 1000000) only [encS, roI, EA, EB, EC, ED, EE, EF, EG, XA, XB, XC, XD, XE, XF, XG, XH, XI, XJ, XK, XL, reduceIte, ↓reduceIte, Nat.reduceAdd, Nat.reduceLeDiff, Nat.reduceEqDiff, Nat.reduceLT, Nat.reduceSub, Nat.reduceBEq, forall_const, reduceCtorEq, implies_true, exists_eq_left', exists_eq_left, if_true, if_false, undef]
    refine ⟨by omega, ?_⟩
    refine pickM (hlen ▸ h) ?_
    have hw : IntKind.i64.wrap ((k : Int) + 1) = ((k + 1 : Nat) : Int) := by rw [wrap_id] <;> omega
    simp (maxSteps := 1000000) only [roI, encS, roI, EA, EB, EC, ED, EE, EF, EG, XA, XB, XC, XD, XE, XF, XG, XH, XI, XJ, XK, XL, reduceIte, ↓reduceIte, Nat.reduceAdd, Nat.reduceLeDiff, Nat.reduceEqDiff, Nat.reduceLT, Nat.reduceSub, Nat.reduceBEq, forall_const, reduceCtorEq, implies_true, exists_eq_left', exists_eq_left, if_true, if_false, undef]
    refine callXd (CallsA.args (ints_spec a[k] b[k] (hal _ (List.getElem_mem h))) (by simp [encS, roI, EA, EB, EC, ED, EE, EF, EG, XA, XB, XC, XD, XE, XF, XG, XH, XI, XJ, XK, XL, reduceIte, ↓reduceIte, Nat.reduceAdd, Nat.reduceLeDiff, Nat.reduceEqDiff, Nat.reduceLT, Nat.reduceSub, Nat.reduceBEq, forall_const, reduceCtorEq, implies_true, exists_eq_left', exists_eq_left, if_true, if_false, undef])) rfl (by simp [flat, encS, roI, EA, EB, EC, ED, EE, EF, EG, XA, XB, XC, XD, XE, XF, XG, XH, XI, XJ, XK, XL, reduceIte, ↓reduceIte, Nat.reduceAdd, Nat.reduceLeDiff, Nat.reduceEqDiff, Nat.reduceLT, Nat.reduceSub, Nat.reduceBEq, forall_const, reduceCtorEq, implies_true, exists_eq_left', exists_eq_left, if_true, if_false, undef]) (by simp [encS, roI, EA, EB, EC, ED, EE, EF, EG, XA, XB, XC, XD, XE, XF, XG, XH, XI, XJ, XK, XL, reduceIte, ↓reduceIte, Nat.reduceAdd, Nat.reduceLeDiff, Nat.reduceEqDiff, Nat.reduceLT, Nat.reduceSub, Nat.reduceBEq, forall_const, reduceCtorEq, implies_true, exists_eq_left', exists_eq_left, if_true, if_false, undef]) ?_
    simp (maxSteps := 1000000) only [encS, roI, EA, EB, EC, ED, EE, EF, EG, XA, XB, XC, XD, XE, XF, XG, XH, XI, XJ, XK, XL, reduceIte, ↓reduceIte, Nat.reduceAdd, Nat.reduceLeDiff, Nat.reduceEqDiff, Nat.reduceLT, Nat.reduceSub, Nat.reduceBEq, forall_const, reduceCtorEq, implies_true, exists_eq_left', exists_eq_left, if_true, if_false, undef]
    refine ⟨fun h1 => ?_, fun h1 => ?_⟩ <;> try simp (maxSteps := 1000000) only [encS, roI, EA, EB, EC, ED, EE, EF, EG, XA, XB, XC, XD, XE, XF, XG, XH, XI, XJ, XK, XL, reduceIte, ↓reduceIte, Nat.reduceAdd, Nat.reduceLeDiff, Nat.reduceEqDiff, Nat.reduceLT, Nat.reduceSub, Nat.reduceBEq, forall_const, reduceCtorEq, implies_true, exists_eq_left', exists_eq_left, if_true, if_false, undef]
    · simp at h1; simp; intro hh; subst hh; exact h1 rfl
    · refine ⟨k + 1, ⟨by omega, ?_⟩, by omega, by simp [Back, SubT, Sub, SubL, SubM, SubO, keepM, srcOk, look, lookM, ev, evs, putT, argT, encS, roI, EA, EB, EC, ED, EE, EF, EG, XA, XB, XC, XD, XE, XF, XG, XH, XI, XJ, XK, XL, reduceIte, ↓reduceIte, Nat.reduceAdd, Nat.reduceLeDiff, Nat.reduceEqDiff, Nat.reduceLT, Nat.reduceSub, Nat.reduceBEq, forall_const, reduceCtorEq, implies_true, exists_eq_left', exists_eq_left, if_true, if_false, undef, hw]⟩
      simp at h1
      rw [List.take_add_one, List.take_add_one, hp, List.getElem?_eq_getElem h, List.getElem?_eq_getElem (hlen ▸ h), h1]
  · simp only [decide_eq_false_iff_not, List.length_map, Int.ofNat_lt] at h
    have : k = a.length := by omega
    subst this
    rw [List.take_length, hlen, List.take_length] at hp
    simp [hp]

end Go.Av
