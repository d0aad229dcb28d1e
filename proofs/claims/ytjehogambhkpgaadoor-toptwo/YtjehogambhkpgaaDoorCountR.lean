/- Counter machines: the program's run. -/
import Derived.Test.YtjehogambhkpgaaDoorCountP
set_option linter.unusedSimpArgs false
set_option linter.unusedVariables false
set_option maxRecDepth 100000
namespace Go.Av
open Go.Proofs

theorem firstErr_all {α : Type} {f : α → Int} : ∀ {l : List α}, firstErr f l = 0 → ∀ x ∈ l, f x = 0
  | [], _, x, hx => by simp at hx
  | y :: l, h, x, hx => by
    simp only [firstErr] at h
    split at h
    · rename_i hy; exact (hy h).elim
    · rename_i hy
      rcases List.mem_cons.1 hx with rfl | hx
      · exact Decidable.byContradiction fun hh => hy hh
      · exact firstErr_all h x hx

theorem countErr_ok {counters : Int} {l : List Ord} (h : countErr counters l = 0) : (1 ≤ counters ∧ counters ≤ 4) ∧ (1 ≤ l.length ∧ l.length ≤ 12) ∧ ∀ o ∈ l, OrdOk counters.toNat l.length o := by
  simp only [countErr] at h
  split at h
  · cases h
  · rename_i hb
    refine ⟨by omega, by omega, fun o ho => ?_⟩
    have := firstErr_all h o ho
    simp only [ordErr] at this
    split at this
    · cases this
    · split at this
      · cases this
      · split at this
        · cases this
        · exact ⟨by omega, by omega, by omega, by omega⟩

theorem haveErr_ok {counters turns : Int} {l : List Int} (h : haveErr counters l turns = 0) : (l.length : Int) = counters ∧ (∀ x ∈ l, 0 ≤ x ∧ x ≤ 20) ∧ (0 ≤ turns ∧ turns ≤ 400) := by
  simp only [haveErr] at h
  split at h
  · cases h
  · split at h
    · cases h
    · split at h
      · cases h
      · rename_i h1 h2 h3
        refine ⟨by omega, fun x hx => ?_, by omega⟩
        simp only [Decidable.not_not] at h2
        have := (List.all_eq_true.1 h2) x hx
        simpa using this

def cntErr (counters : Int) (l : List Ord) (c : List Int) (turns : Int) : Int := if countErr counters l ≠ 0 then countErr counters l else haveErr counters c turns
theorem cntErr_ok {counters turns : Int} {l : List Ord} {c : List Int} (h : cntErr counters l c turns = 0) : countErr counters l = 0 ∧ haveErr counters c turns = 0 := by
  simp only [cntErr] at h
  split at h
  · rename_i h1; exact (h1 h).elim
  · rename_i h1; exact ⟨Decidable.byContradiction h1, h⟩

structure CntOk (counters : Int) (l : List Ord) (c : List Int) (turns : Int) : Prop where
  n : 1 ≤ counters ∧ counters ≤ 4
  len : 1 ≤ l.length ∧ l.length ≤ 12
  ord : ∀ o ∈ l, OrdOk counters.toNat l.length o
  c0 : CSOk counters.toNat l.length 20 (c, 0)
  turns : 0 ≤ turns ∧ turns ≤ 400

theorem cnt_ok {counters turns : Int} {l : List Ord} {c : List Int} (h : cntErr counters l c turns = 0) : CntOk counters l c turns := by
  obtain ⟨h1, h2⟩ := cntErr_ok h
  obtain ⟨a1, a2, a3⟩ := countErr_ok h1
  obtain ⟨b1, b2, b3⟩ := haveErr_ok h2
  exact ⟨a1, a2, a3, ⟨by simp; omega, b2, by simp, by simp⟩, b3⟩

def runAns (counters : Int) (l : List Ord) (c : List Int) (turns : Int) : AV :=
  if cntErr counters l c turns = 0 then .tup [.ro 1 ((crun l (c, 0) turns.toNat).1.map I), I (crun l (c, 0) turns.toNat).2, I (cdone l (c, 0) turns.toNat : Nat), I 0]
  else .tup [.ro 1 [], I 0, I 0, I (cntErr counters l c turns)]

theorem run_spec (counters turns : Int) (l : List Ord) (c : List Int) (hl : (l.length : Int) < 2 ^ 63) (hc : (c.length : Int) < 2 ^ 63) :
    CallsA Tryd.prog 6 [I counters, .ro 4 (l.map encO), .ro 1 (c.map I), I turns] (runAns counters l c turns) [] := by
  refine fn_of0 comp6 (by simp) ?_
  unfold code6
  simp (maxSteps := 1000000) only [encO, EA, EB, EC, ED, EE, EF, EG, EH, XA, XB, XC, XD, XE, XF, XG, XH, XI, XJ, XK, XL, XM, reduceIte, ↓reduceIte, Nat.reduceAdd, Nat.reduceLeDiff, Nat.reduceEqDiff, Nat.reduceLT, Nat.reduceSub, Nat.reduceBEq, forall_const, reduceCtorEq, implies_true, exists_eq_left', exists_eq_left, if_true, if_false, undef]
  refine callF (CallsA.args (check_spec counters l hl) (by simp [encO, EA, EB, EC, ED, EE, EF, EG, EH, XA, XB, XC, XD, XE, XF, XG, XH, XI, XJ, XK, XL, XM, reduceIte, ↓reduceIte, Nat.reduceAdd, Nat.reduceLeDiff, Nat.reduceEqDiff, Nat.reduceLT, Nat.reduceSub, Nat.reduceBEq, forall_const, reduceCtorEq, implies_true, exists_eq_left', exists_eq_left, if_true, if_false, undef])) rfl (by simp [flat, encO, EA, EB, EC, ED, EE, EF, EG, EH, XA, XB, XC, XD, XE, XF, XG, XH, XI, XJ, XK, XL, XM, reduceIte, ↓reduceIte, Nat.reduceAdd, Nat.reduceLeDiff, Nat.reduceEqDiff, Nat.reduceLT, Nat.reduceSub, Nat.reduceBEq, forall_const, reduceCtorEq, implies_true, exists_eq_left', exists_eq_left, if_true, if_false, undef]) ?_
  simp (maxSteps := 1000000) only [encO, EA, EB, EC, ED, EE, EF, EG, EH, XA, XB, XC, XD, XE, XF, XG, XH, XI, XJ, XK, XL, XM, reduceIte, ↓reduceIte, Nat.reduceAdd, Nat.reduceLeDiff, Nat.reduceEqDiff, Nat.reduceLT, Nat.reduceSub, Nat.reduceBEq, forall_const, reduceCtorEq, implies_true, exists_eq_left', exists_eq_left, if_true, if_false, undef]
  by_cases h1 : countErr counters l = 0
  · have e1 : (countErr counters l != 0) = false := by simp [h1]
    simp (maxSteps := 1000000) only [e1, encO, EA, EB, EC, ED, EE, EF, EG, EH, XA, XB, XC, XD, XE, XF, XG, XH, XI, XJ, XK, XL, XM, reduceIte, ↓reduceIte, Nat.reduceAdd, Nat.reduceLeDiff, Nat.reduceEqDiff, Nat.reduceLT, Nat.reduceSub, Nat.reduceBEq, forall_const, reduceCtorEq, implies_true, exists_eq_left', exists_eq_left, if_true, if_false, undef]
    refine callF (CallsA.args (checkStart_spec counters turns c hc) (by simp [encO, EA, EB, EC, ED, EE, EF, EG, EH, XA, XB, XC, XD, XE, XF, XG, XH, XI, XJ, XK, XL, XM, reduceIte, ↓reduceIte, Nat.reduceAdd, Nat.reduceLeDiff, Nat.reduceEqDiff, Nat.reduceLT, Nat.reduceSub, Nat.reduceBEq, forall_const, reduceCtorEq, implies_true, exists_eq_left', exists_eq_left, if_true, if_false, undef])) rfl (by simp [flat, encO, EA, EB, EC, ED, EE, EF, EG, EH, XA, XB, XC, XD, XE, XF, XG, XH, XI, XJ, XK, XL, XM, reduceIte, ↓reduceIte, Nat.reduceAdd, Nat.reduceLeDiff, Nat.reduceEqDiff, Nat.reduceLT, Nat.reduceSub, Nat.reduceBEq, forall_const, reduceCtorEq, implies_true, exists_eq_left', exists_eq_left, if_true, if_false, undef]) ?_
    simp (maxSteps := 1000000) only [encO, EA, EB, EC, ED, EE, EF, EG, EH, XA, XB, XC, XD, XE, XF, XG, XH, XI, XJ, XK, XL, XM, reduceIte, ↓reduceIte, Nat.reduceAdd, Nat.reduceLeDiff, Nat.reduceEqDiff, Nat.reduceLT, Nat.reduceSub, Nat.reduceBEq, forall_const, reduceCtorEq, implies_true, exists_eq_left', exists_eq_left, if_true, if_false, undef]
    by_cases h2 : haveErr counters c turns = 0
    · have e2 : (haveErr counters c turns != 0) = false := by simp [h2]
      have h3 : cntErr counters l c turns = 0 := by simp [cntErr, h1, h2]
      have ok := cnt_ok h3
      have hlen := ok.c0.len
      simp at hlen
      have hcn := ok.n
      have hln := ok.len
      simp (maxSteps := 1000000) only [e2, encO, EA, EB, EC, ED, EE, EF, EG, EH, XA, XB, XC, XD, XE, XF, XG, XH, XI, XJ, XK, XL, XM, reduceIte, ↓reduceIte, Nat.reduceAdd, Nat.reduceLeDiff, Nat.reduceEqDiff, Nat.reduceLT, Nat.reduceSub, Nat.reduceBEq, forall_const, reduceCtorEq, implies_true, exists_eq_left', exists_eq_left, if_true, if_false, undef]
      refine callA (CallsA.args (clone_spec c (by intro h; subst h; simp at hlen; omega) (by omega)) (by simp [encO, EA, EB, EC, ED, EE, EF, EG, EH, XA, XB, XC, XD, XE, XF, XG, XH, XI, XJ, XK, XL, XM, reduceIte, ↓reduceIte, Nat.reduceAdd, Nat.reduceLeDiff, Nat.reduceEqDiff, Nat.reduceLT, Nat.reduceSub, Nat.reduceBEq, forall_const, reduceCtorEq, implies_true, exists_eq_left', exists_eq_left, if_true, if_false, undef])) rfl ?_
      simp (maxSteps := 1000000) only [encO, EA, EB, EC, ED, EE, EF, EG, EH, XA, XB, XC, XD, XE, XF, XG, XH, XI, XJ, XK, XL, XM, reduceIte, ↓reduceIte, Nat.reduceAdd, Nat.reduceLeDiff, Nat.reduceEqDiff, Nat.reduceLT, Nat.reduceSub, Nat.reduceBEq, forall_const, reduceCtorEq, implies_true, exists_eq_left', exists_eq_left, if_true, if_false, undef]
      rw [runAns, if_pos h3]
      have hct := ok.turns
      obtain ⟨N, rfl⟩ : ∃ N : Nat, turns = (N : Int) := ⟨turns.toNat, by omega⟩
      simp only [Int.toNat_natCast]
      have hN : N ≤ 400 := by omega
      have hll : ((l.map encO).length : Int) = l.length := by simp
      refine loopO Nat [16, 15] (fun k => [I (k : Nat), I (crun l (c, 0) k).2]) (fun k => [(18, some (.arr 1 ((crun l (c, 0) k).1.map I)))]) (fun k => k ≤ N ∧ cdone l (c, 0) k = k) (fun k => N - k) (by decide) 0 (by simp [cdone]) (by simp [Back, BackF, fzT, fzM, fzU, fz, fzL, fzO, kin, SubT, Sub, SubL, SubM, SubO, keepM, srcOk, look, lookM, ev, evs, putT, argT, encO, EA, EB, EC, ED, EE, EF, EG, EH, XA, XB, XC, XD, XE, XF, XG, XH, XI, XJ, XK, XL, XM, reduceIte, ↓reduceIte, Nat.reduceAdd, Nat.reduceLeDiff, Nat.reduceEqDiff, Nat.reduceLT, Nat.reduceSub, Nat.reduceBEq, forall_const, reduceCtorEq, implies_true, exists_eq_left', exists_eq_left, if_true, if_false, undef, crun]) (fun k hk => ?_)
      obtain ⟨hk, hd⟩ := hk
      have hs := crun_ok ok.ord ok.c0 (by omega) k
      have hsl : (crun l (c, 0) k).1.length = c.length := by rw [hs.len, hlen]
      by_cases g1 : k < N
      · have f1 : decide ((k : Int) < (N : Int)) = true := by simp [g1]
        by_cases g2 : (crun l (c, 0) k).2 < (l.length : Int)
        · have f2 : decide ((crun l (c, 0) k).2 < (l.length : Int)) = true := by simp [g2]
          have hoo := ordAt_ok ok.ord hs.at0 g2
          have hoa : l[(crun l (c, 0) k).2.toNat]? = some (ordAt l (crun l (c, 0) k).2) := by
            have := hs.at0
            rw [ordAt, List.getElem?_eq_getElem (by omega)]; rfl
          have hw : IntKind.i64.wrap ((k : Int) + 1) = ((k + 1 : Nat) : Int) := by rw [wrap_id] <;> omega
          have hrun : crun l (c, 0) (k + 1) = cstep l (crun l (c, 0) k) := by simp only [crun]; rw [if_pos g2]
          have hdn : cdone l (c, 0) (k + 1) = k + 1 := by simp only [cdone]; rw [if_pos g2, hd]
          have hbig : ∀ x ∈ (crun l (c, 0) k).1, 0 ≤ x ∧ x ≤ 1000000 := fun x hx => by have := hs.lo x hx; omega
          rw [cstep_eq] at hrun
          generalize crun l (c, 0) k = s at *
          simp (maxSteps := 1000000) only [f1, f2, hll, encO, EA, EB, EC, ED, EE, EF, EG, EH, XA, XB, XC, XD, XE, XF, XG, XH, XI, XJ, XK, XL, XM, reduceIte, ↓reduceIte, Nat.reduceAdd, Nat.reduceLeDiff, Nat.reduceEqDiff, Nat.reduceLT, Nat.reduceSub, Nat.reduceBEq, forall_const, reduceCtorEq, implies_true, exists_eq_left', exists_eq_left, if_true, if_false, undef]
          refine ⟨hs.at0, pickA hoa ?_⟩
          generalize ordAt l s.2 = o at *
          simp (maxSteps := 1000000) only [encO, ← hsl, encO, EA, EB, EC, ED, EE, EF, EG, EH, XA, XB, XC, XD, XE, XF, XG, XH, XI, XJ, XK, XL, XM, reduceIte, ↓reduceIte, Nat.reduceAdd, Nat.reduceLeDiff, Nat.reduceEqDiff, Nat.reduceLT, Nat.reduceSub, Nat.reduceBEq, forall_const, reduceCtorEq, implies_true, exists_eq_left', exists_eq_left, if_true, if_false, undef]
          refine callM [some 18] (execute_spec counters.toNat l.length o s.1 hoo hs.len hbig) (by simp [ encO,encO, EA, EB, EC, ED, EE, EF, EG, EH, XA, XB, XC, XD, XE, XF, XG, XH, XI, XJ, XK, XL, XM, reduceIte, ↓reduceIte, Nat.reduceAdd, Nat.reduceLeDiff, Nat.reduceEqDiff, Nat.reduceLT, Nat.reduceSub, Nat.reduceBEq, forall_const, reduceCtorEq, implies_true, exists_eq_left', exists_eq_left, if_true, if_false, undef]) (by simp [encO, EA, EB, EC, ED, EE, EF, EG, EH, XA, XB, XC, XD, XE, XF, XG, XH, XI, XJ, XK, XL, XM, reduceIte, ↓reduceIte, Nat.reduceAdd, Nat.reduceLeDiff, Nat.reduceEqDiff, Nat.reduceLT, Nat.reduceSub, Nat.reduceBEq, forall_const, reduceCtorEq, implies_true, exists_eq_left', exists_eq_left, if_true, if_false, undef]) (by simp [ encO,encO, EA, EB, EC, ED, EE, EF, EG, EH, XA, XB, XC, XD, XE, XF, XG, XH, XI, XJ, XK, XL, XM, reduceIte, ↓reduceIte, Nat.reduceAdd, Nat.reduceLeDiff, Nat.reduceEqDiff, Nat.reduceLT, Nat.reduceSub, Nat.reduceBEq, forall_const, reduceCtorEq, implies_true, exists_eq_left', exists_eq_left, if_true, if_false, undef]) ?_
          simp (maxSteps := 1000000) only [hw, encO, EA, EB, EC, ED, EE, EF, EG, EH, XA, XB, XC, XD, XE, XF, XG, XH, XI, XJ, XK, XL, XM, reduceIte, ↓reduceIte, Nat.reduceAdd, Nat.reduceLeDiff, Nat.reduceEqDiff, Nat.reduceLT, Nat.reduceSub, Nat.reduceBEq, forall_const, reduceCtorEq, implies_true, exists_eq_left', exists_eq_left, if_true, if_false, undef]
          exact ⟨k + 1, ⟨by omega, hdn⟩, by omega, by simp [Back, BackF, fzT, fzM, fzU, fz, fzL, fzO, kin, SubT, Sub, SubL, SubM, SubO, keepM, srcOk, look, lookM, ev, evs, putT, argT, encO, EA, EB, EC, ED, EE, EF, EG, EH, XA, XB, XC, XD, XE, XF, XG, XH, XI, XJ, XK, XL, XM, reduceIte, ↓reduceIte, Nat.reduceAdd, Nat.reduceLeDiff, Nat.reduceEqDiff, Nat.reduceLT, Nat.reduceSub, Nat.reduceBEq, forall_const, reduceCtorEq, implies_true, exists_eq_left', exists_eq_left, if_true, if_false, undef, hrun]⟩
        · have f2 : decide ((crun l (c, 0) k).2 < (l.length : Int)) = false := by simp [g2]
          obtain ⟨a1, a2⟩ := cdone_stop g2 hd N hk
          simp (maxSteps := 1000000) only [f1, f2, hll, a1, a2, encO, EA, EB, EC, ED, EE, EF, EG, EH, XA, XB, XC, XD, XE, XF, XG, XH, XI, XJ, XK, XL, XM, reduceIte, ↓reduceIte, Nat.reduceAdd, Nat.reduceLeDiff, Nat.reduceEqDiff, Nat.reduceLT, Nat.reduceSub, Nat.reduceBEq, forall_const, reduceCtorEq, implies_true, exists_eq_left', exists_eq_left, if_true, if_false, undef]
          exact List.take_of_length_le (by simp; omega)
      · have f1 : decide ((k : Int) < (N : Int)) = false := by simp [g1]
        have : k = N := by omega
        subst this
        simp (maxSteps := 1000000) only [f1, hd, encO, EA, EB, EC, ED, EE, EF, EG, EH, XA, XB, XC, XD, XE, XF, XG, XH, XI, XJ, XK, XL, XM, reduceIte, ↓reduceIte, Nat.reduceAdd, Nat.reduceLeDiff, Nat.reduceEqDiff, Nat.reduceLT, Nat.reduceSub, Nat.reduceBEq, forall_const, reduceCtorEq, implies_true, exists_eq_left', exists_eq_left, if_true, if_false, undef]
        exact List.take_of_length_le (by simp; omega)
    · have e2 : (haveErr counters c turns != 0) = true := by simp [h2]
      simp (maxSteps := 1000000) only [e2, encO, EA, EB, EC, ED, EE, EF, EG, EH, XA, XB, XC, XD, XE, XF, XG, XH, XI, XJ, XK, XL, XM, reduceIte, ↓reduceIte, Nat.reduceAdd, Nat.reduceLeDiff, Nat.reduceEqDiff, Nat.reduceLT, Nat.reduceSub, Nat.reduceBEq, forall_const, reduceCtorEq, implies_true, exists_eq_left', exists_eq_left, if_true, if_false, undef]
      have h3 : cntErr counters l c turns ≠ 0 := by simp [cntErr, h1, h2]
      rw [runAns, if_neg h3, cntErr, if_neg (by simp [h1])]
      simp [encO, EA, EB, EC, ED, EE, EF, EG, EH, XA, XB, XC, XD, XE, XF, XG, XH, XI, XJ, XK, XL, XM, reduceIte, ↓reduceIte, Nat.reduceAdd, Nat.reduceLeDiff, Nat.reduceEqDiff, Nat.reduceLT, Nat.reduceSub, Nat.reduceBEq, forall_const, reduceCtorEq, implies_true, exists_eq_left', exists_eq_left, if_true, if_false, undef]
  · have e1 : (countErr counters l != 0) = true := by simp [h1]
    simp (maxSteps := 1000000) only [e1, encO, EA, EB, EC, ED, EE, EF, EG, EH, XA, XB, XC, XD, XE, XF, XG, XH, XI, XJ, XK, XL, XM, reduceIte, ↓reduceIte, Nat.reduceAdd, Nat.reduceLeDiff, Nat.reduceEqDiff, Nat.reduceLT, Nat.reduceSub, Nat.reduceBEq, forall_const, reduceCtorEq, implies_true, exists_eq_left', exists_eq_left, if_true, if_false, undef]
    have h3 : cntErr counters l c turns ≠ 0 := by simp [cntErr, h1]
    rw [runAns, if_neg h3, cntErr, if_pos h1]
    simp [encO, EA, EB, EC, ED, EE, EF, EG, EH, XA, XB, XC, XD, XE, XF, XG, XH, XI, XJ, XK, XL, XM, reduceIte, ↓reduceIte, Nat.reduceAdd, Nat.reduceLeDiff, Nat.reduceEqDiff, Nat.reduceLT, Nat.reduceSub, Nat.reduceBEq, forall_const, reduceCtorEq, implies_true, exists_eq_left', exists_eq_left, if_true, if_false, undef]

theorem hasOrd {x : AV} (h : Has (.agg [.int .i64, .int .i64, .int .i64, .int .i64]) x) : ∃ r, x = encO r := by
  obtain ⟨y, z, w, v, h1, h2, h3, h4, rfl⟩ := hasAgg4 h
  obtain ⟨a, rfl, _⟩ := hasInt h1
  obtain ⟨b, rfl, _⟩ := hasInt h2
  obtain ⟨c, rfl, _⟩ := hasInt h3
  obtain ⟨d, rfl, _⟩ := hasInt h4
  exact ⟨⟨a, b, c, d⟩, rfl⟩

theorem hasOrds {x : AV} (h : Has (.slice 4 (.agg [.int .i64, .int .i64, .int .i64, .int .i64])) x) : ∃ l : List Ord, x = .ro 4 (l.map encO) ∧ (l.length : Int) < 2 ^ 63 := by
  cases h with
  | slice hl hh =>
    obtain ⟨l, rfl⟩ := listOf (enc := encO) (fun i x hx => hasOrd (hh i x hx))
    refine ⟨l, rfl, ?_⟩
    simp only [List.length_map] at hl
    have : maxLen < 2 ^ 63 := by decide
    omega

def shOrds : Sh := .slice 4 (.agg [.int .i64, .int .i64, .int .i64, .int .i64])

end Go.Av
