/- For any instructions of one counter that stays small: two counters halt where it does, with its encoding; for all arguments, the listed variable holding what the program's text lays. -/
import Derived.Test.YtjehogambhkpgaaDoorTwoQ
import Derived.Test.YtjehogambhkpgaaDoorTwoG
import Derived.Test.YtjehogambhkpgaaDoorLaid
import Derived.Test.YtjehogambhkpgaaDoorCards
import Derived.Test.YtjehogambhkpgaaDoorTie
set_option linter.unusedSimpArgs false
set_option linter.unusedVariables false
set_option maxRecDepth 100000
namespace Go.Av
open Go.Proofs

theorem crun_add (l : List Ord) (s : CS) (a : Nat) : ∀ b, crun l s (a + b) = crun l (crun l s a) b
  | 0 => rfl
  | b + 1 => by
    have ih := crun_add l s a b
    show (if (crun l s (a + b)).2 < l.length then cstep l (crun l s (a + b)) else crun l s (a + b)) = _
    rw [ih]; rfl
theorem crun_one (l : List Ord) (s : CS) : crun l s 1 = if s.2 < l.length then cstep l s else s := rfl
theorem crun_stay {l : List Ord} {s : CS} (h : ¬ s.2 < l.length) : ∀ k, crun l s k = s
  | 0 => rfl
  | k + 1 => by simp only [crun]; rw [crun_stay h k, if_neg h]

def encS (s : St) : CS := ([(s.2.1 : Int), (s.2.2 : Int)], (s.1 : Int))
theorem stp_one {code : List Ord} {s s' : St} (h : Stp code s s') : crun code (encS s) 1 = encS s' := by
  have key : ∀ o, code[s.1]? = some o → estep o [(s.2.1 : Int), (s.2.2 : Int)] = encS s' → crun code (encS s) 1 = encS s' := fun o ho he => by
    have hlt : s.1 < code.length := (List.getElem?_eq_some_iff.1 ho).1
    have hat : ordAt code (s.1 : Int) = o := by rw [ordAt, Int.toNat_natCast, ho]; rfl
    rw [crun_one, if_pos (by show (s.1 : Int) < _; omega), cstep_eq]
    show estep (ordAt code (s.1 : Int)) [(s.2.1 : Int), (s.2.2 : Int)] = _
    rw [hat, he]
  cases h with
  | more0 h => exact key _ h (by simp [estep, mo, cAt, encS])
  | more1 h => exact key _ h (by simp [estep, mo, cAt, encS])
  | less0 h => exact key _ h (by simp [estep, le, cAt, encS])
  | less1 h => exact key _ h (by simp [estep, le, cAt, encS])
  | zero0 h => exact key _ h (by simp [estep, le, cAt, encS])
  | zero1 h => exact key _ h (by simp [estep, le, cAt, encS])
theorem rch_run {code : List Ord} {B : List Nat} {e s : St} {n : Nat} (h : Rch code B e n s) : crun code (encS s) n = encS e := by
  induction h with
  | last h _ => exact stp_one h
  | cons h _ _ ih => rw [Nat.add_comm, crun_add, stp_one h, ih]

theorem packed_one (x : Int) : packed [x] = 2 ^ x.toNat := by simp [packed, prs, pk]
theorem one_small {c : List Int} (hl : c.length = 1) (h : ∀ x ∈ c, 0 ≤ x ∧ x ≤ 8) : packed c ≤ 256 := by
  match c, hl with
  | [x], _ =>
    rw [packed_one]
    have := h x (by simp)
    have : 2 ^ x.toNat ≤ 2 ^ 8 := Nat.pow_le_pow_right (by omega) (by omega)
    simpa using this

/-- the compiled machine goes on with the machine -/
theorem follow {l : List Ord} (ho : ∀ o ∈ l, OrdOk 1 l.length o) {x : Int} (hx : 0 ≤ x ∧ x ≤ 3) (k : Nat) (hs : ∀ j, j ≤ k → ∀ y ∈ (crun l ([x], 0) j).1, y ≤ 8) :
    ∃ N, N ≤ 25700 * k ∧ crun (bldCode l) ([(packed [x] : Int), 0], 0) N = ([(packed (crun l ([x], 0) k).1 : Int), 0], (psn l (crun l ([x], 0) k).2.toNat : Int)) := by
  induction k with
  | zero => exact ⟨0, by omega, by simp [crun, psn_zero]⟩
  | succ k ih =>
    obtain ⟨N, hN, hr⟩ := ih (fun j hj => hs j (by omega))
    have h0 : CSOk 1 l.length 20 ([x], 0) := ⟨rfl, fun y hy => by simp at hy; omega, by simp, by simp⟩
    have hc := crun_ok ho h0 (by omega) k
    have hsk := hs k (by omega)
    by_cases hl : (crun l ([x], 0) k).2 < l.length
    · have hrun : crun l ([x], 0) (k + 1) = cstep l (crun l ([x], 0) k) := by simp only [crun]; rw [if_pos hl]
      rw [hrun, cstep_eq]
      have hlt : (crun l ([x], 0) k).2.toNat < l.length := by have := hc.at0; omega
      have hat : ordAt l (crun l ([x], 0) k).2 = l[(crun l ([x], 0) k).2.toNat] := by rw [ordAt, List.getElem?_eq_getElem hlt]; rfl
      obtain ⟨n, hn, hrch⟩ := sim (n := 1) (by omega) ho hlt hc.len (fun y hy => (hc.lo y hy).1)
      have hsm := one_small hc.len (fun y hy => ⟨(hc.lo y hy).1, hsk y hy⟩)
      have hgo := rch_run hrch
      refine ⟨N + n, by omega, ?_⟩
      rw [crun_add, hr, hat]
      exact hgo
    · have hrun : crun l ([x], 0) (k + 1) = crun l ([x], 0) k := by simp only [crun]; rw [if_neg hl]
      rw [hrun]
      exact ⟨N, by omega, hr⟩

theorem topTwo_pure {l : List Ord} (ho : ∀ o ∈ l, OrdOk 1 l.length o) {x : Int} (hx : 0 ≤ x ∧ x ≤ 3) (hs : ∀ j, j ≤ 40 → ∀ y ∈ (crun l ([x], 0) j).1, y ≤ 8) (hh : ¬ (crun l ([x], 0) 40).2 < l.length) :
    crun (bldCode l) ([(packed [x] : Int), 0], 0) 3000000 = ([(packed (crun l ([x], 0) 40).1 : Int), 0], ((bldCode l).length : Int)) := by
  obtain ⟨N, hN, hr⟩ := follow ho hx 40 hs
  have h0 : CSOk 1 l.length 20 ([x], 0) := ⟨rfl, fun y hy => by simp at hy; omega, by simp, by simp⟩
  have hc := crun_ok ho h0 (by omega) 40
  have hat : (crun l ([x], 0) 40).2.toNat = l.length := by have := hc.at0; have := hc.at1; omega
  rw [hat, ← code_length] at hr
  rw [show 3000000 = N + (3000000 - N) by omega, crun_add, hr]
  exact crun_stay (by simp) _

theorem topTwo_spec (l : List Ord) (b : Int) (hl : (l.length : Int) < 2 ^ 63) (hb : 0 ≤ b ∧ b ≤ 255) :
    CallsA Tryd.prog 3 [.ro 4 (l.map encO), .v (.int .u8 b)] (Bo true) [] := by
  refine fn_of0 comp3 (by simp) ?_
  unfold code3
  have n00 : ((0 : Int) != 0) = false := by decide
  have z00 : ((0 : Int) == 0) = true := by decide
  have n11 : ((1 : Int) != 1) = false := by decide
  simp (maxSteps := 1000000) only [EA, EB, EC, ED, EE, EF, EG, EH, XA, XB, XC, XD, XE, XF, XG, XH, XI, XJ, XK, XL, XM, reduceIte, ↓reduceIte, Nat.reduceAdd, Nat.reduceLeDiff, Nat.reduceEqDiff, Nat.reduceLT, Nat.reduceSub, Nat.reduceBEq, forall_const, reduceCtorEq, implies_true, exists_eq_left', exists_eq_left, if_true, if_false, undef]
  refine callA (CallsA.args (build_spec 1 l hl) (by simp [EA, EB, EC, ED, EE, EF, EG, EH, XA, XB, XC, XD, XE, XF, XG, XH, XI, XJ, XK, XL, XM, reduceIte, ↓reduceIte, Nat.reduceAdd, Nat.reduceLeDiff, Nat.reduceEqDiff, Nat.reduceLT, Nat.reduceSub, Nat.reduceBEq, forall_const, reduceCtorEq, implies_true, exists_eq_left', exists_eq_left, if_true, if_false, undef])) rfl ?_
  by_cases h0 : countErr 1 l = 0
  rotate_left
  · have e1 : (countErr 1 l != 0) = true := by simp [h0]
    rw [buildAns, if_neg h0]
    simp (maxSteps := 1000000) only [EA, EB, EC, ED, EE, EF, EG, EH, XA, XB, XC, XD, XE, XF, XG, XH, XI, XJ, XK, XL, XM, reduceIte, ↓reduceIte, Nat.reduceAdd, Nat.reduceLeDiff, Nat.reduceEqDiff, Nat.reduceLT, Nat.reduceSub, Nat.reduceBEq, forall_const, reduceCtorEq, implies_true, exists_eq_left', exists_eq_left, if_true, if_false, undef]
    refine callF (CallsA.args (countCheck_spec 1 l hl) (by simp [EA, EB, EC, ED, EE, EF, EG, EH, XA, XB, XC, XD, XE, XF, XG, XH, XI, XJ, XK, XL, XM, reduceIte, ↓reduceIte, Nat.reduceAdd, Nat.reduceLeDiff, Nat.reduceEqDiff, Nat.reduceLT, Nat.reduceSub, Nat.reduceBEq, forall_const, reduceCtorEq, implies_true, exists_eq_left', exists_eq_left, if_true, if_false, undef])) rfl (by simp [flat, EA, EB, EC, ED, EE, EF, EG, EH, XA, XB, XC, XD, XE, XF, XG, XH, XI, XJ, XK, XL, XM, reduceIte, ↓reduceIte, Nat.reduceAdd, Nat.reduceLeDiff, Nat.reduceEqDiff, Nat.reduceLT, Nat.reduceSub, Nat.reduceBEq, forall_const, reduceCtorEq, implies_true, exists_eq_left', exists_eq_left, if_true, if_false, undef]) ?_
    simp (maxSteps := 1000000) only [e1, Bo, EA, EB, EC, ED, EE, EF, EG, EH, XA, XB, XC, XD, XE, XF, XG, XH, XI, XJ, XK, XL, XM, reduceIte, ↓reduceIte, Nat.reduceAdd, Nat.reduceLeDiff, Nat.reduceEqDiff, Nat.reduceLT, Nat.reduceSub, Nat.reduceBEq, forall_const, reduceCtorEq, implies_true, exists_eq_left', exists_eq_left, if_true, if_false, undef]
    try exact ⟨_, rfl⟩
  obtain ⟨hcn, hln, hord⟩ := countErr_ok h0
  rw [show (1 : Int).toNat = 1 from rfl] at hord
  have hcl := code_length l
  have hsz := (bld_size l).1
  rw [(bld_psn l).1] at hsz
  have hbl : (sts l).length = l.length + 1 := by rw [sts_eq]; simp [bgs]
  have hML : (((bldCode l).map encO).length : Int) = (bldCode l).length := by simp
  have hSL : (((sts l).map I).length : Int) = (l.length : Int) + 1 := by simp [hbl]
  have hll : ((l.map encO).length : Int) = l.length := by simp
  rw [buildAns, if_pos h0]
  simp (maxSteps := 1000000) only [EA, EB, EC, ED, EE, EF, EG, EH, XA, XB, XC, XD, XE, XF, XG, XH, XI, XJ, XK, XL, XM, reduceIte, ↓reduceIte, Nat.reduceAdd, Nat.reduceLeDiff, Nat.reduceEqDiff, Nat.reduceLT, Nat.reduceSub, Nat.reduceBEq, forall_const, reduceCtorEq, implies_true, exists_eq_left', exists_eq_left, if_true, if_false, undef]
  refine callF (CallsA.args (countCheck_spec 1 l hl) (by simp [EA, EB, EC, ED, EE, EF, EG, EH, XA, XB, XC, XD, XE, XF, XG, XH, XI, XJ, XK, XL, XM, reduceIte, ↓reduceIte, Nat.reduceAdd, Nat.reduceLeDiff, Nat.reduceEqDiff, Nat.reduceLT, Nat.reduceSub, Nat.reduceBEq, forall_const, reduceCtorEq, implies_true, exists_eq_left', exists_eq_left, if_true, if_false, undef])) rfl (by simp [flat, EA, EB, EC, ED, EE, EF, EG, EH, XA, XB, XC, XD, XE, XF, XG, XH, XI, XJ, XK, XL, XM, reduceIte, ↓reduceIte, Nat.reduceAdd, Nat.reduceLeDiff, Nat.reduceEqDiff, Nat.reduceLT, Nat.reduceSub, Nat.reduceBEq, forall_const, reduceCtorEq, implies_true, exists_eq_left', exists_eq_left, if_true, if_false, undef]) ?_
  have w0 : IntKind.i64.wrap b = b := by rw [wrap_id] <;> omega
  obtain ⟨x, hx⟩ : ∃ x : Int, x = Int.tmod b 4 := ⟨_, rfl⟩
  have hxr : 0 ≤ x ∧ x ≤ 3 := by rw [hx, Int.tmod_eq_emod_of_nonneg hb.1]; omega
  simp (maxSteps := 1000000) only [h0, n00, w0, ← hx, EA, EB, EC, ED, EE, EF, EG, EH, XA, XB, XC, XD, XE, XF, XG, XH, XI, XJ, XK, XL, XM, reduceIte, ↓reduceIte, Nat.reduceAdd, Nat.reduceLeDiff, Nat.reduceEqDiff, Nat.reduceLT, Nat.reduceSub, Nat.reduceBEq, forall_const, reduceCtorEq, implies_true, exists_eq_left', exists_eq_left, if_true, if_false, undef]
  refine ⟨by decide, ?_⟩
  have hhv : haveErr 1 [x] 40 = 0 := by
    rw [haveErr, if_neg (by simp), if_neg, if_neg (by omega)]
    simp; omega
  have hcnt : cntErr 1 l [x] 40 = 0 := by rw [cntErr, if_neg (by simp [h0]), hhv]
  have hra : runAns 1 l [x] 40 = .tup [.ro 1 ((crun l ([x], 0) 40).1.map I), I (crun l ([x], 0) 40).2, I (cdone l ([x], 0) 40 : Nat), I 0] := by rw [runAns, if_pos hcnt]; rfl
  have hpe : packErr [x] = 0 := by
    rw [packErr, if_neg (by simp), if_neg]
    simp; omega
  have hpa : packAns [x] = .tup [I (packed [x] : Nat), I 0] := by rw [packAns, if_pos hpe]
  have hRun := run_spec 1 40 l [x] hl (by simp)
  have hPack := pack_spec [x] (by simp)
  rw [hra] at hRun
  rw [hpa] at hPack
  have h20 : CSOk 1 l.length 20 ([x], 0) := ⟨rfl, fun y hy => by simp at hy; omega, by simp, by simp⟩
  have hc40 := crun_ok hord h20 (by omega) 40
  have hpx : packed [x] ≤ 256 := one_small rfl (fun y hy => by simp at hy; omega)
  have hp1 : 1 ≤ packed [x] := packed_pos _
  simp only [List.map_cons, List.map_nil] at hRun hPack
  refine callA (CallsA.args (hRun) (by simp [EA, EB, EC, ED, EE, EF, EG, EH, XA, XB, XC, XD, XE, XF, XG, XH, XI, XJ, XK, XL, XM, reduceIte, ↓reduceIte, Nat.reduceAdd, Nat.reduceLeDiff, Nat.reduceEqDiff, Nat.reduceLT, Nat.reduceSub, Nat.reduceBEq, forall_const, reduceCtorEq, implies_true, exists_eq_left', exists_eq_left, if_true, if_false, undef])) rfl ?_
  simp (maxSteps := 1000000) only [EA, EB, EC, ED, EE, EF, EG, EH, XA, XB, XC, XD, XE, XF, XG, XH, XI, XJ, XK, XL, XM, reduceIte, ↓reduceIte, Nat.reduceAdd, Nat.reduceLeDiff, Nat.reduceEqDiff, Nat.reduceLT, Nat.reduceSub, Nat.reduceBEq, forall_const, reduceCtorEq, implies_true, exists_eq_left', exists_eq_left, if_true, if_false, undef]
  refine callA (CallsA.args (hPack) (by simp [EA, EB, EC, ED, EE, EF, EG, EH, XA, XB, XC, XD, XE, XF, XG, XH, XI, XJ, XK, XL, XM, reduceIte, ↓reduceIte, Nat.reduceAdd, Nat.reduceLeDiff, Nat.reduceEqDiff, Nat.reduceLT, Nat.reduceSub, Nat.reduceBEq, forall_const, reduceCtorEq, implies_true, exists_eq_left', exists_eq_left, if_true, if_false, undef])) rfl ?_
  have q1 : (((l.length : Int) + 1) == 0) = false := by simp; omega
  have q2 : decide (((packed [x] : Nat) : Int) < 1) = false := by simp only [decide_eq_false_iff_not]; omega
  have q3 : ((((crun l ([x], 0) 40).1.map I).length : Int) != 1) = false := by rw [List.length_map, hc40.len]; rfl
  have hce := code_err hord
  simp (maxSteps := 1000000) only [n00, hSL, q1, q2, q3, EA, EB, EC, ED, EE, EF, EG, EH, XA, XB, XC, XD, XE, XF, XG, XH, XI, XJ, XK, XL, XM, reduceIte, ↓reduceIte, Nat.reduceAdd, Nat.reduceLeDiff, Nat.reduceEqDiff, Nat.reduceLT, Nat.reduceSub, Nat.reduceBEq, forall_const, reduceCtorEq, implies_true, exists_eq_left', exists_eq_left, if_true, if_false, undef]
  refine callF (CallsA.args (ordersCheck_spec 2 (bldCode l) (by omega)) (by simp [EA, EB, EC, ED, EE, EF, EG, EH, XA, XB, XC, XD, XE, XF, XG, XH, XI, XJ, XK, XL, XM, reduceIte, ↓reduceIte, Nat.reduceAdd, Nat.reduceLeDiff, Nat.reduceEqDiff, Nat.reduceLT, Nat.reduceSub, Nat.reduceBEq, forall_const, reduceCtorEq, implies_true, exists_eq_left', exists_eq_left, if_true, if_false, undef])) rfl (by simp [flat, EA, EB, EC, ED, EE, EF, EG, EH, XA, XB, XC, XD, XE, XF, XG, XH, XI, XJ, XK, XL, XM, reduceIte, ↓reduceIte, Nat.reduceAdd, Nat.reduceLeDiff, Nat.reduceEqDiff, Nat.reduceLT, Nat.reduceSub, Nat.reduceBEq, forall_const, reduceCtorEq, implies_true, exists_eq_left', exists_eq_left, if_true, if_false, undef]) ?_
  simp (maxSteps := 1000000) only [hce, n00, EA, EB, EC, ED, EE, EF, EG, EH, XA, XB, XC, XD, XE, XF, XG, XH, XI, XJ, XK, XL, XM, reduceIte, ↓reduceIte, Nat.reduceAdd, Nat.reduceLeDiff, Nat.reduceEqDiff, Nat.reduceLT, Nat.reduceSub, Nat.reduceBEq, forall_const, reduceCtorEq, implies_true, exists_eq_left', exists_eq_left, if_true, if_false, undef]
  by_cases hh : (crun l ([x], 0) 40).2 < l.length
  · have f1 : decide ((crun l ([x], 0) 40).2 < (l.length : Int)) = true := by simpa using hh
    simp (maxSteps := 1000000) only [hll, f1, Bo, EA, EB, EC, ED, EE, EF, EG, EH, XA, XB, XC, XD, XE, XF, XG, XH, XI, XJ, XK, XL, XM, reduceIte, ↓reduceIte, Nat.reduceAdd, Nat.reduceLeDiff, Nat.reduceEqDiff, Nat.reduceLT, Nat.reduceSub, Nat.reduceBEq, forall_const, reduceCtorEq, implies_true, exists_eq_left', exists_eq_left, if_true, if_false, undef]
  have f1 : decide ((crun l ([x], 0) 40).2 < (l.length : Int)) = false := by simpa using hh
  simp (maxSteps := 1000000) only [hll, f1, EA, EB, EC, ED, EE, EF, EG, EH, XA, XB, XC, XD, XE, XF, XG, XH, XI, XJ, XK, XL, XM, reduceIte, ↓reduceIte, Nat.reduceAdd, Nat.reduceLeDiff, Nat.reduceEqDiff, Nat.reduceLT, Nat.reduceSub, Nat.reduceBEq, forall_const, reduceCtorEq, implies_true, exists_eq_left', exists_eq_left, if_true, if_false, undef]
  refine loop0 Nat [15] (fun k => [I (k : Nat)]) (fun k => k ≤ 41 ∧ ∀ j, j < k → ∀ y ∈ (crun l ([x], 0) j).1, y ≤ 8) (fun k => 41 - k) (by decide) 0 (by simp) (by simp [Back, BackF, fzT, fzM, fzU, fz, fzL, fzO, kin, SubT, Sub, SubL, SubM, SubO, keepM, srcOk, look, lookM, ev, evs, putT, argT, EA, EB, EC, ED, EE, EF, EG, EH, XA, XB, XC, XD, XE, XF, XG, XH, XI, XJ, XK, XL, XM, reduceIte, ↓reduceIte, Nat.reduceAdd, Nat.reduceLeDiff, Nat.reduceEqDiff, Nat.reduceLT, Nat.reduceSub, Nat.reduceBEq, forall_const, reduceCtorEq, implies_true, exists_eq_left', exists_eq_left, if_true, if_false, undef]) ?_
  rintro k ⟨hk, hs⟩
  by_cases c1 : k ≤ 40
  · have g1 : decide ((k : Int) ≤ 40) = true := by simp; omega
    have hw : IntKind.i64.wrap ((k : Int) + 1) = ((k + 1 : Nat) : Int) := by rw [wrap_id] <;> omega
    have hcs := counted_spec 1 l [x] k hord h20 (by omega) (by omega) (by omega)
    have hck := crun_ok hord h20 (by omega) k
    simp (maxSteps := 1000000) only [g1, EA, EB, EC, ED, EE, EF, EG, EH, XA, XB, XC, XD, XE, XF, XG, XH, XI, XJ, XK, XL, XM, reduceIte, ↓reduceIte, Nat.reduceAdd, Nat.reduceLeDiff, Nat.reduceEqDiff, Nat.reduceLT, Nat.reduceSub, Nat.reduceBEq, forall_const, reduceCtorEq, implies_true, exists_eq_left', exists_eq_left, if_true, if_false, undef]
    simp only [List.map_cons, List.map_nil] at hcs
    refine callA (CallsA.args (hcs) (by simp [EA, EB, EC, ED, EE, EF, EG, EH, XA, XB, XC, XD, XE, XF, XG, XH, XI, XJ, XK, XL, XM, reduceIte, ↓reduceIte, Nat.reduceAdd, Nat.reduceLeDiff, Nat.reduceEqDiff, Nat.reduceLT, Nat.reduceSub, Nat.reduceBEq, forall_const, reduceCtorEq, implies_true, exists_eq_left', exists_eq_left, if_true, if_false, undef])) rfl ?_
    obtain ⟨y, hy⟩ : ∃ y, (crun l ([x], 0) k).1 = [y] := by
      have := hck.len
      match h : (crun l ([x], 0) k).1, this with
      | [y], _ => exact ⟨y, rfl⟩
    have hnext : y ≤ 8 → ∀ j, j < k + 1 → ∀ z ∈ (crun l ([x], 0) j).1, z ≤ 8 := fun h8 j hj z hz => by
      by_cases hjk : j = k
      · subst hjk; rw [hy] at hz; simp at hz; omega
      · exact hs j (by omega) z hz
    rw [hy]
    simp (maxSteps := 1000000) only [List.map_cons, List.map_nil, EA, EB, EC, ED, EE, EF, EG, EH, XA, XB, XC, XD, XE, XF, XG, XH, XI, XJ, XK, XL, XM, reduceIte, ↓reduceIte, Nat.reduceAdd, Nat.reduceLeDiff, Nat.reduceEqDiff, Nat.reduceLT, Nat.reduceSub, Nat.reduceBEq, forall_const, reduceCtorEq, implies_true, exists_eq_left', exists_eq_left, if_true, if_false, undef]
    refine ⟨by omega, Pick.mk (I y) rfl ?_⟩
    by_cases c2 : y > 8
    · have g2 : decide (y > 8) = true := by simpa using c2
      simp (maxSteps := 1000000) only [g2, Bo, EA, EB, EC, ED, EE, EF, EG, EH, XA, XB, XC, XD, XE, XF, XG, XH, XI, XJ, XK, XL, XM, reduceIte, ↓reduceIte, Nat.reduceAdd, Nat.reduceLeDiff, Nat.reduceEqDiff, Nat.reduceLT, Nat.reduceSub, Nat.reduceBEq, forall_const, reduceCtorEq, implies_true, exists_eq_left', exists_eq_left, if_true, if_false, undef]
    · have g2 : decide (y > 8) = false := by simpa using c2
      simp (maxSteps := 1000000) only [g2, hw, EA, EB, EC, ED, EE, EF, EG, EH, XA, XB, XC, XD, XE, XF, XG, XH, XI, XJ, XK, XL, XM, reduceIte, ↓reduceIte, Nat.reduceAdd, Nat.reduceLeDiff, Nat.reduceEqDiff, Nat.reduceLT, Nat.reduceSub, Nat.reduceBEq, forall_const, reduceCtorEq, implies_true, exists_eq_left', exists_eq_left, if_true, if_false, undef]
      exact ⟨k + 1, ⟨by omega, hnext (by omega)⟩, by omega, by simp [Back, BackF, fzT, fzM, fzU, fz, fzL, fzO, kin, SubT, Sub, SubL, SubM, SubO, keepM, srcOk, look, lookM, ev, evs, putT, argT, EA, EB, EC, ED, EE, EF, EG, EH, XA, XB, XC, XD, XE, XF, XG, XH, XI, XJ, XK, XL, XM, reduceIte, ↓reduceIte, Nat.reduceAdd, Nat.reduceLeDiff, Nat.reduceEqDiff, Nat.reduceLT, Nat.reduceSub, Nat.reduceBEq, forall_const, reduceCtorEq, implies_true, exists_eq_left', exists_eq_left, if_true, if_false, undef]⟩
  have g1 : decide ((k : Int) ≤ 40) = false := by simp; omega
  have hpure := topTwo_pure hord hxr (fun j hj => hs j (by omega)) hh
  have hb0 : (sts l)[0]? = some (0 : Int) := by rw [sts_eq, List.getElem?_map, bgs_get (Nat.zero_le _), psn_zero]; rfl
  have hst : CSOk 2 (bldCode l).length 256 ([((packed [x] : Nat) : Int), 0], 0) := ⟨rfl, fun y hy => by simp at hy; omega, by simp, by simp⟩
  have hbig := counted_gen 2 (bldCode l) [((packed [x] : Nat) : Int), 0] 3000000 (top := 256) (by omega) (code_ok hord) hst (by omega) (by omega) (by omega)
  rw [hpure] at hbig
  simp only [List.map_cons, List.map_nil] at hbig
  obtain ⟨y, hy⟩ : ∃ y, (crun l ([x], 0) 40).1 = [y] := by
    have := hc40.len
    match h : (crun l ([x], 0) 40).1, this with
    | [y], _ => exact ⟨y, rfl⟩
  have hy8 : 0 ≤ y ∧ y ≤ 8 := ⟨(hc40.lo y (by rw [hy]; simp)).1, hs 40 (by omega) y (by rw [hy]; simp)⟩
  have hpy : packed [y] ≤ 256 := one_small rfl (fun z hz => by simp at hz; omega)
  rw [hy] at hbig ⊢
  simp (maxSteps := 1000000) only [g1, hSL, EA, EB, EC, ED, EE, EF, EG, EH, XA, XB, XC, XD, XE, XF, XG, XH, XI, XJ, XK, XL, XM, reduceIte, ↓reduceIte, Nat.reduceAdd, Nat.reduceLeDiff, Nat.reduceEqDiff, Nat.reduceLT, Nat.reduceSub, Nat.reduceBEq, forall_const, reduceCtorEq, implies_true, exists_eq_left', exists_eq_left, if_true, if_false, undef]
  refine ⟨by omega, pickA hb0 ?_⟩
  simp (maxSteps := 1000000) only [EA, EB, EC, ED, EE, EF, EG, EH, XA, XB, XC, XD, XE, XF, XG, XH, XI, XJ, XK, XL, XM, reduceIte, ↓reduceIte, Nat.reduceAdd, Nat.reduceLeDiff, Nat.reduceEqDiff, Nat.reduceLT, Nat.reduceSub, Nat.reduceBEq, forall_const, reduceCtorEq, implies_true, exists_eq_left', exists_eq_left, if_true, if_false, undef]
  refine callA (CallsA.args (hbig) (by simp [EA, EB, EC, ED, EE, EF, EG, EH, XA, XB, XC, XD, XE, XF, XG, XH, XI, XJ, XK, XL, XM, reduceIte, ↓reduceIte, Nat.reduceAdd, Nat.reduceLeDiff, Nat.reduceEqDiff, Nat.reduceLT, Nat.reduceSub, Nat.reduceBEq, forall_const, reduceCtorEq, implies_true, exists_eq_left', exists_eq_left, if_true, if_false, undef])) rfl ?_
  have e1 : (((bldCode l).length : Int) == ((bldCode l).length : Int)) = true := by simp
  have e2 : ((packed [y] : Int) == (packed [y] : Int)) = true := by simp
  have hPk := packed_spec [y] (by simp) (by omega)
  simp only [List.map_cons, List.map_nil] at hPk
  simp (maxSteps := 1000000) only [hML, e1, z00, EA, EB, EC, ED, EE, EF, EG, EH, XA, XB, XC, XD, XE, XF, XG, XH, XI, XJ, XK, XL, XM, reduceIte, ↓reduceIte, Nat.reduceAdd, Nat.reduceLeDiff, Nat.reduceEqDiff, Nat.reduceLT, Nat.reduceSub, Nat.reduceBEq, forall_const, reduceCtorEq, implies_true, exists_eq_left', exists_eq_left, if_true, if_false, undef]
  refine ⟨by omega, Pick.mk (I 0) rfl ?_⟩
  simp (maxSteps := 1000000) only [z00, EA, EB, EC, ED, EE, EF, EG, EH, XA, XB, XC, XD, XE, XF, XG, XH, XI, XJ, XK, XL, XM, reduceIte, ↓reduceIte, Nat.reduceAdd, Nat.reduceLeDiff, Nat.reduceEqDiff, Nat.reduceLT, Nat.reduceSub, Nat.reduceBEq, forall_const, reduceCtorEq, implies_true, exists_eq_left', exists_eq_left, if_true, if_false, undef]
  refine ⟨by omega, Pick.mk (I (packed [y] : Nat)) rfl ?_⟩
  simp (maxSteps := 1000000) only [EA, EB, EC, ED, EE, EF, EG, EH, XA, XB, XC, XD, XE, XF, XG, XH, XI, XJ, XK, XL, XM, reduceIte, ↓reduceIte, Nat.reduceAdd, Nat.reduceLeDiff, Nat.reduceEqDiff, Nat.reduceLT, Nat.reduceSub, Nat.reduceBEq, forall_const, reduceCtorEq, implies_true, exists_eq_left', exists_eq_left, if_true, if_false, undef]
  refine callD (CallsA.args (hPk) (by simp [EA, EB, EC, ED, EE, EF, EG, EH, XA, XB, XC, XD, XE, XF, XG, XH, XI, XJ, XK, XL, XM, reduceIte, ↓reduceIte, Nat.reduceAdd, Nat.reduceLeDiff, Nat.reduceEqDiff, Nat.reduceLT, Nat.reduceSub, Nat.reduceBEq, forall_const, reduceCtorEq, implies_true, exists_eq_left', exists_eq_left, if_true, if_false, undef])) rfl (by simp [flat, EA, EB, EC, ED, EE, EF, EG, EH, XA, XB, XC, XD, XE, XF, XG, XH, XI, XJ, XK, XL, XM, reduceIte, ↓reduceIte, Nat.reduceAdd, Nat.reduceLeDiff, Nat.reduceEqDiff, Nat.reduceLT, Nat.reduceSub, Nat.reduceBEq, forall_const, reduceCtorEq, implies_true, exists_eq_left', exists_eq_left, if_true, if_false, undef]) (by simp [EA, EB, EC, ED, EE, EF, EG, EH, XA, XB, XC, XD, XE, XF, XG, XH, XI, XJ, XK, XL, XM, reduceIte, ↓reduceIte, Nat.reduceAdd, Nat.reduceLeDiff, Nat.reduceEqDiff, Nat.reduceLT, Nat.reduceSub, Nat.reduceBEq, forall_const, reduceCtorEq, implies_true, exists_eq_left', exists_eq_left, if_true, if_false, undef]) ?_
  simp (maxSteps := 1000000) only [e2, Bo, EA, EB, EC, ED, EE, EF, EG, EH, XA, XB, XC, XD, XE, XF, XG, XH, XI, XJ, XK, XL, XM, reduceIte, ↓reduceIte, Nat.reduceAdd, Nat.reduceLeDiff, Nat.reduceEqDiff, Nat.reduceLT, Nat.reduceSub, Nat.reduceBEq, forall_const, reduceCtorEq, implies_true, exists_eq_left', exists_eq_left, if_true, if_false, undef]

def sh_TopTwo : List Sh := [shOrds, .int .u8]
theorem law_TopTwo (xs : List AV) (h : HasAll sh_TopTwo xs) : CallsA Tryd.prog 3 xs (.v (.bool true)) [] := by
  obtain ⟨x, r, rfl, hx, y, r, rfl, hy, rfl⟩ := h
  obtain ⟨l, rfl, hl⟩ := hasOrds hx
  obtain ⟨a, rfl, ha⟩ := hasInt hy
  exact topTwo_spec l a hl (u8_range ha)

end Go.Av
namespace Go.Proofs.YtjehogambhkpgaaDoor
open Go.ChangeShapes Go.WideShapes Go.ChangeAt Go.RowKit
open Go.Av (open_all shut_all OldS HasAll Sh CallsA shAll)

theorem own : ownKnob Tryd.prog.godebug = none := by kernel_rfl
theorem laidOut : laidOutB Tryd.prog = true := by kernel_rfl
theorem shs_eq : shAll Tryd.prog 12 Tryd.f3.params.toList = some Go.Av.sh_TopTwo := by kernel_rfl
theorem readable : (Tryd.f3.params.toList.all fun t => Tryd.prog.readableRec t && decide (t < Tryd.prog.types.size)) = true := by kernel_rfl
theorem noStandIn : (Tryd.f3.params.toList.all fun t => !Tryd.prog.wantsStandIn t) = true := by kernel_rfl

theorem lifted (os : Os) (started : os.Started) (H : Type) (enc : TypeId × Value → H) :
    ReturnsInHanded {} Tryd.checked os 3 .any (fun w args => (Rows.topTwoSpec.pre enc Tryd.prog Tryd.f3 Rows.topTwoRow.domain false w args ∧ laidMet Tryd.prog Rows.topTwoRow.laid w) ∧ sizedMet enc Tryd.prog Tryd.f3 (OpenSpec.ofChange Rows.topTwoSpec) false w args)
      (Rows.topTwoSpec.post enc Tryd.prog Tryd.f3 false true false false) := by
  refine returnsInHanded_of_change_and (C := Tryd.checked) (X := fun w _ => laidMet Tryd.prog Rows.topTwoRow.laid w) (fun _ _ _ hh h => h.of_heap hh) own started (by kernel_rfl) Tryd.func3
    (ChangeSpec.witness_at (enc := enc) (C := Tryd.checked) (os := os) (X := fun w _ => laidMet Tryd.prog Rows.topTwoRow.laid w) false (laidWorld os) #[.slice none 0 0, .int .u8 0] 8 rfl (by kernel_rfl) (by kernel_rfl) (by kernel_rfl) (by kernel_rfl) (by kernel_rfl) (laid_met os _)) ?_
  intro W base args ds gs before hval0 hW hcnd _ hL _
  have hval : ∀ (j : Nat) t v, Tryd.f3.params[j]? = some t → args[j]? = some v → Value.okWide Tryd.prog W .any base t v := hval0
  have hW' := hW
  obtain ⟨p, q, hA0, hV, rfl, hfz, hnd⟩ := hW
  have hA : DataW.TrodAll enc Tryd.prog W 0 (fun _ => true) true Tryd.f3.params.toList args.toList ds p := hA0
  obtain ⟨xs, hxs, hlen, hR⟩ := open_all (g := 12) _ _ _ _ Go.Av.sh_TopTwo hA (fun j t v ht hv => hval j t v (by simpa using ht) (by simpa using hv)) shs_eq
  obtain ⟨rfl, rfl⟩ := trodVars_none hV
  have hB := hA
  rw [Tryd.params3] at hB
  obtain ⟨v0, vs0, d0, ds0, p0, q0, hargs0, rfl, rfl, h0, r0⟩ := trodAll_cons hB
  obtain ⟨v1, vs1, d1, ds1, p1, q1, hargs1, rfl, rfl, h1, r1⟩ := trodAll_cons r0
  obtain ⟨rfl, rfl, rfl⟩ := trodAll_nil r1
  refine ((Go.Av.law_TopTwo xs hxs).2 W (OldS W) args (sb_of_laid hL) (by simpa using hlen) (fun i x y h1 h2 => hR i x y h1 (by simpa using h2))).mono ?_
  rintro e W' ⟨v, S', κ', rfl, hv, _, _, _, bel⟩
  rw [hv.v_inv]
  exact ⟨_, rfl, _, _, _, [], _, [], hW', trodAll_mk1 (shut_bool Tryd.underlying4 _), shut_all laidOut bel _ _ _ _ (fun t ht => by
    have := (List.all_eq_true.1 readable) t ht
    simpa using this) hA, rfl, bel.frame _, fun h => by cases h⟩

theorem topTwo_row : Rows.TopTwoSaid :=
  OpenClaim.holds_of_wide 3 Tryd.f3 rfl rfl rfl rfl rfl rfl rfl ⟨rfl, rfl, rfl, rfl, rfl⟩ rfl rfl rfl rfl rfl (by kernel_rfl) Tryd.func3 (by kernel_rfl)
    (of_decide_eq_true (by kernel_rfl)) (by unfold Func.isWrapper; first | (rw [if_pos (by decide +kernel)]; kernel_rfl) | (rw [if_neg (by decide +kernel)]; exact ⟨rfl, rfl⟩))
    (fun os started H enc _ => lifted os started H enc)

theorem topTwo_holds : Rows.TopTwoCardSaid :=
  Claim7.holds_tied_plain_at .later [] [.data] true (true, "beb96122f3c0d9aae3420effb968138239814063e4fcbfe2cc037327341e10e5") false
    topTwo_row (fun _ h => by cases h) (by kernel_rfl) (fun _ h => by cases h) topTwo_row_tie rfl ⟨rfl, rfl⟩ (by kernel_rfl) rfl
    (fun f fn hf hfn => by
      obtain rfl : f = 3 := Option.some.inj ((show Tryd.prog.funcNamed "tapeworks/tapeworkstop.TopTwo" = some 3 by kernel_rfl).symm.trans hf) |>.symm
      obtain rfl : fn = Tryd.f3 := (Option.some.inj (Tryd.func3.symm.trans hfn)).symm
      exact ⟨by kernel_rfl, fun j t ht => by
        have := (List.all_eq_true.1 noStandIn) t (List.mem_of_getElem? (by simpa using ht))
        exact (show Tryd.prog.wantsStandIn t = false by simpa using this)⟩)
    (by kernel_rfl)

end Go.Proofs.YtjehogambhkpgaaDoor
