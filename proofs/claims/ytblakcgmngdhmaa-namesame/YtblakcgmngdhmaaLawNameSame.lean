/- Clauses hold of as many values as the circuit is of inputs; for all arguments. -/
import Derived.Test.YtblakcgmngdhmaaNamP
import Derived.Test.YtblakcgmngdhmaaGateP
import Derived.Test.YtblakcgmngdhmaaRows
import Derived.ProofKit
set_option linter.unusedSimpArgs false
set_option linter.unusedVariables false
set_option maxRecDepth 100000
namespace Go.Av
open Go.Proofs

theorem same_many {n : Nat} {l : List Gt} {vs : Nat} {c : List Cl} (h : Named n l vs c) : manyN vs c = sumR (fun w => (gval w l).toNat) (2 ^ n) := by
  rw [many_cnt, ways_sum c vs n h.lo]
  exact sumR_congr (fun w hw => h.ways w hw)
theorem named_err {n : Nat} {l : List Gt} {vs : Nat} {c : List Cl} (h : Named n l vs c) (h8 : vs ≤ 8) (hc : c.length ≤ 200) : clausesErr vs 8 c = 0 := by
  rw [clausesErr, if_neg (by omega)]
  exact firstErr_all (fun k hk => cl_ok.2 (h.ok k hk))

theorem nameSame_spec (inn : Int) (l : List Gt) (hl : (l.length : Int) < 2 ^ 63) :
    CallsA Try.prog 6 [I inn, .ro 3 (l.map encG)] (Bo true) [] := by
  obtain ⟨vs, c, hcall, hbad, hgood⟩ := nameBuildP_spec inn l hl
  refine fn_of0 comp6 (by simp) ?_
  unfold code6
  have e00 : ((0 : Int) == 0) = true := by decide
  have n00 : ((0 : Int) != 0) = false := by decide
  have hll : ((l.map encG).length : Int) = l.length := by simp
  have hcc : ((c.map encCl).length : Int) = c.length := by simp
  simp (maxSteps := 1000000) only [encCl, encG, XX, reduceIte, ↓reduceIte, Nat.reduceAdd, Nat.reduceLeDiff, Nat.reduceEqDiff, Nat.reduceLT, Nat.reduceSub, Nat.reduceBEq, forall_const, reduceCtorEq, implies_true, exists_eq_left', exists_eq_left, if_true, if_false, undef]
  refine callA (CallsA.args (hcall) (by simp [encCl, encG, XX, undef])) rfl ?_
  simp (maxSteps := 1000000) only [encCl, encG, XX, reduceIte, ↓reduceIte, Nat.reduceAdd, Nat.reduceLeDiff, Nat.reduceEqDiff, Nat.reduceLT, Nat.reduceSub, Nat.reduceBEq, forall_const, reduceCtorEq, implies_true, exists_eq_left', exists_eq_left, if_true, if_false, undef]
  refine callF (CallsA.args (gateCheck_spec inn l hl) (by simp [encCl, encG, XX, undef])) rfl (by simp [flat, encCl, encG, XX, undef]) ?_
  by_cases h0 : gateErr inn l = 0
  rotate_left
  · have f1 : (gateErr inn l != 0) = true := by simpa using h0
    simp (maxSteps := 1000000) only [f1, Bo, encCl, encG, XX, reduceIte, ↓reduceIte, Nat.reduceAdd, Nat.reduceLeDiff, Nat.reduceEqDiff, Nat.reduceLT, Nat.reduceSub, Nat.reduceBEq, forall_const, reduceCtorEq, implies_true, exists_eq_left', exists_eq_left, if_true, if_false, undef]
    try exact ⟨_, rfl⟩
  obtain ⟨hi, h40, hok⟩ := gate_ok h0
  have hN := hgood h0
  obtain ⟨n, rfl⟩ : ∃ n : Nat, inn = n := ⟨inn.toNat, by omega⟩
  rw [Int.toNat_natCast] at hN
  have hn : n ≤ 5 := by omega
  have hlo := hN.lo
  have hhi := hN.hi
  have hlen := hN.len
  have f2 : decide ((vs : Int) < (n : Int)) = false := by simp only [decide_eq_false_iff_not]; omega
  rw [h0]
  by_cases q1 : vs > 8
  · have f3 : decide ((vs : Int) > 8) = true := by simp only [decide_eq_true_eq]; omega
    simp (maxSteps := 1000000) only [n00, f2, f3, Bo, encCl, encG, XX, reduceIte, ↓reduceIte, Nat.reduceAdd, Nat.reduceLeDiff, Nat.reduceEqDiff, Nat.reduceLT, Nat.reduceSub, Nat.reduceBEq, forall_const, reduceCtorEq, implies_true, exists_eq_left', exists_eq_left, if_true, if_false, undef]
  have f3 : decide ((vs : Int) > 8) = false := by simp only [decide_eq_false_iff_not]; omega
  by_cases q2 : c.length > 200
  · have f4 : decide ((c.length : Int) > 200) = true := by simp only [decide_eq_true_eq]; omega
    simp (maxSteps := 1000000) only [n00, f2, f3, f4, hcc, Bo, encCl, encG, XX, reduceIte, ↓reduceIte, Nat.reduceAdd, Nat.reduceLeDiff, Nat.reduceEqDiff, Nat.reduceLT, Nat.reduceSub, Nat.reduceBEq, forall_const, reduceCtorEq, implies_true, exists_eq_left', exists_eq_left, if_true, if_false, undef]
  have f4 : decide ((c.length : Int) > 200) = false := by simp only [decide_eq_false_iff_not]; omega
  have hce := named_err hN (by omega) (by omega)
  have hcl : ClLen c := ⟨by omega, fun k hk => by
    have := hN.three k hk
    omega⟩
  have hmp := nameManyP_spec (vs : Int) c hcl
  rw [manyAns, if_neg (by simp [hce]), Int.toNat_natCast, same_many hN] at hmp
  have hcv : IntKind.u64.wrap (n : Int) = (n : Int) := wrap_u64 (by omega) (by omega)
  have hsh := shl_one (show n < 62 by omega)
  have hp5 : 2 ^ n ≤ 2 ^ 5 := Nat.pow_le_pow_right (by decide) hn
  have hp5' : 2 ^ n ≤ 32 := hp5
  simp (maxSteps := 1000000) only [n00, f2, f3, f4, hcc, encCl, encG, XX, reduceIte, ↓reduceIte, Nat.reduceAdd, Nat.reduceLeDiff, Nat.reduceEqDiff, Nat.reduceLT, Nat.reduceSub, Nat.reduceBEq, forall_const, reduceCtorEq, implies_true, exists_eq_left', exists_eq_left, if_true, if_false, undef]
  refine callA (CallsA.args (hmp) (by simp [encCl, encG, XX, undef])) rfl ?_
  simp (maxSteps := 1000000) only [encCl, encG, XX, reduceIte, ↓reduceIte, Nat.reduceAdd, Nat.reduceLeDiff, Nat.reduceEqDiff, Nat.reduceLT, Nat.reduceSub, Nat.reduceBEq, forall_const, reduceCtorEq, implies_true, exists_eq_left', exists_eq_left, if_true, if_false, undef]
  refine loop0 Nat [11, 10] (fun k => [IN k, IN (sumR (fun w => (gval w l).toNat) k)]) (fun k => k ≤ 2 ^ n) (fun k => 2 ^ n - k) (by decide) 0 (by simp) (by simp [Back, BackF, fzT, fzM, fzU, fz, fzL, fzO, kin, SubT, Sub, SubL, SubM, SubO, keepM, srcOk, look, lookM, ev, evs, putT, argT, encCl, encG, XX, undef, sumR]) (fun w hwl => ?_)
  by_cases c2 : w < 2 ^ n
  rotate_left
  · have g : decide ((w : Int) < ((2 ^ n : Nat) : Int)) = false := decide_eq_false (fun h => c2 (Int.ofNat_lt.1 h))
    obtain rfl : w = 2 ^ n := by omega
    have e : ((sumR (fun w => (gval w l).toNat) (2 ^ n) : Int) == (sumR (fun w => (gval w l).toNat) (2 ^ n) : Int)) = true := by simp
    simp (maxSteps := 1000000) only [hcv, hsh, g, e, e00, Bo, encCl, encG, XX, reduceIte, ↓reduceIte, Nat.reduceAdd, Nat.reduceLeDiff, Nat.reduceEqDiff, Nat.reduceLT, Nat.reduceSub, Nat.reduceBEq, forall_const, reduceCtorEq, implies_true, exists_eq_left', exists_eq_left, if_true, if_false, undef]
    omega
  have g2 : decide ((w : Int) < ((2 ^ n : Nat) : Int)) = true := decide_eq_true (Int.ofNat_lt.2 c2)
  have hww : IntKind.i64.wrap ((w : Int) + 1) = ((w + 1 : Nat) : Int) := by rw [wrap_id] <;> omega
  have hs1 : sumR (fun w => (gval w l).toNat) (w + 1) = sumR (fun w => (gval w l).toNat) w + (gval w l).toNat := rfl
  have hle : sumR (fun w => (gval w l).toNat) w ≤ w := by
    have : sumR (fun w => (gval w l).toNat) w ≤ sumR (fun _ => 1) w := sumR_le (fun k _ => by cases gval k l <;> simp)
    rwa [sumR_const, Nat.mul_one] at this
  have hbl : (bitsL n w).length = n := by simp [bitsL]
  have hv := gateValueP_spec n l (bitsL n w) hl (by omega)
  have hvb : gval (wordN (bitsL n w)) l = gval w l := gval_bits hok (fun i hi => wordN_bits (by omega))
  rw [valueAns, if_neg (by simp [h0]), if_neg (by simp [hbl]), hvb] at hv
  simp (maxSteps := 1000000) only [hcv, hsh, g2, encCl, encG, XX, reduceIte, ↓reduceIte, Nat.reduceAdd, Nat.reduceLeDiff, Nat.reduceEqDiff, Nat.reduceLT, Nat.reduceSub, Nat.reduceBEq, forall_const, reduceCtorEq, implies_true, exists_eq_left', exists_eq_left, if_true, if_false, undef]
  refine ⟨by omega, ?_⟩
  refine callA (CallsA.args (bits_spec n w (by omega) (by omega)) (by simp [encCl, encG, XX, undef])) rfl ?_
  simp (maxSteps := 1000000) only [encCl, encG, XX, reduceIte, ↓reduceIte, Nat.reduceAdd, Nat.reduceLeDiff, Nat.reduceEqDiff, Nat.reduceLT, Nat.reduceSub, Nat.reduceBEq, forall_const, reduceCtorEq, implies_true, exists_eq_left', exists_eq_left, if_true, if_false, undef]
  refine callA (CallsA.args (hv) (by simp [encCl, encG, XX, undef])) rfl ?_
  cases hb : gval w l with
  | false =>
    rw [hb, Bool.toNat_false, Nat.add_zero] at hs1
    simp (maxSteps := 1000000) only [n00, hww, Bo, encCl, encG, XX, reduceIte, ↓reduceIte, Nat.reduceAdd, Nat.reduceLeDiff, Nat.reduceEqDiff, Nat.reduceLT, Nat.reduceSub, Nat.reduceBEq, forall_const, reduceCtorEq, implies_true, exists_eq_left', exists_eq_left, if_true, if_false, undef]
    exact ⟨w + 1, by omega, by omega, by rw [hs1]; simp [Back, BackF, fzT, fzM, fzU, fz, fzL, fzO, kin, SubT, Sub, SubL, SubM, SubO, keepM, srcOk, look, lookM, ev, evs, putT, argT, encCl, encG, XX, reduceIte, ↓reduceIte, Nat.reduceAdd, Nat.reduceLeDiff, Nat.reduceEqDiff, Nat.reduceLT, Nat.reduceSub, Nat.reduceBEq, forall_const, reduceCtorEq, implies_true, exists_eq_left', exists_eq_left, if_true, if_false, undef]⟩
  | true =>
    rw [hb, Bool.toNat_true] at hs1
    have w2 : IntKind.i64.wrap ((sumR (fun w => (gval w l).toNat) w : Int) + 1) = ((sumR (fun w => (gval w l).toNat) w + 1 : Nat) : Int) := by rw [wrap_id] <;> omega
    simp (maxSteps := 1000000) only [n00, hww, w2, Bo, encCl, encG, XX, reduceIte, ↓reduceIte, Nat.reduceAdd, Nat.reduceLeDiff, Nat.reduceEqDiff, Nat.reduceLT, Nat.reduceSub, Nat.reduceBEq, forall_const, reduceCtorEq, implies_true, exists_eq_left', exists_eq_left, if_true, if_false, undef]
    exact ⟨w + 1, by omega, by omega, by rw [hs1]; simp [Back, BackF, fzT, fzM, fzU, fz, fzL, fzO, kin, SubT, Sub, SubL, SubM, SubO, keepM, srcOk, look, lookM, ev, evs, putT, argT, encCl, encG, XX, reduceIte, ↓reduceIte, Nat.reduceAdd, Nat.reduceLeDiff, Nat.reduceEqDiff, Nat.reduceLT, Nat.reduceSub, Nat.reduceBEq, forall_const, reduceCtorEq, implies_true, exists_eq_left', exists_eq_left, if_true, if_false, undef]⟩

def sh_NameSame : List Sh := [.int .i64, shGates]
theorem law_NameSame (xs : List AV) (h : HasAll sh_NameSame xs) : CallsA Try.prog 6 xs (.v (.bool true)) [] := by
  obtain ⟨x, r, rfl, hx, y, r, rfl, hy, rfl⟩ := h
  obtain ⟨n, rfl, _⟩ := hasInt hx
  obtain ⟨l, rfl, hl⟩ := hasGates hy
  exact nameSame_spec n l hl

end Go.Av
namespace Go.Proofs.Ytblakcgmngdhmaa
open Go.ChangeShapes Go.WideShapes Go.ChangeAt Go.RowKit
open Go.Av (open_all shut_all OldS HasAll Sh CallsA shAll)

theorem own : ownKnob Try.prog.godebug = none := by kernel_rfl
theorem laidOut : laidOutB Try.prog = true := by kernel_rfl
theorem shs_eq : shAll Try.prog 12 Try.f6.params.toList = some Go.Av.sh_NameSame := by kernel_rfl
theorem readable : (Try.f6.params.toList.all fun t => Try.prog.readableRec t && decide (t < Try.prog.types.size)) = true := by kernel_rfl

theorem lifted (os : Os) (started : os.Started) (H : Type) (enc : TypeId × Value → H) :
    ReturnsInHanded {} Try.checked os 6 .any (Rows.nameSameSpec.pre6 enc Try.prog Try.f6 Rows.nameSameRow.domain false) (Rows.nameSameSpec.post enc Try.prog Try.f6 false true false false) := by
  refine returnsInHanded_of_change (C := Try.checked) own started (by kernel_rfl) Try.func6
    (ChangeSpec.witness6 (enc := enc) (C := Try.checked) false ⟨#[], #[.int .i64 0, .slice none 0 0], []⟩ 8 (by kernel_rfl) (by kernel_rfl) (by kernel_rfl) (by kernel_rfl)) ?_
  intro W base args ds gs before hval0 hW hcnd _
  have hval : ∀ (j : Nat) t v, Try.f6.params[j]? = some t → args[j]? = some v → Value.okWide Try.prog W .any base t v := hval0
  have hW' := hW
  obtain ⟨p, q, hA0, hV, rfl, hfz, hnd⟩ := hW
  have hA : DataW.TrodAll enc Try.prog W 0 (fun _ => true) true Try.f6.params.toList args.toList ds p := hA0
  obtain ⟨xs, hxs, hlen, hR⟩ := open_all (g := 12) _ _ _ _ Go.Av.sh_NameSame hA (fun j t v ht hv => hval j t v (by simpa using ht) (by simpa using hv)) shs_eq
  obtain ⟨rfl, rfl⟩ := trodVars_none hV
  have hB := hA
  rw [Try.params6] at hB
  obtain ⟨v0, vs0, d0, ds0, p0, q0, hargs0, rfl, rfl, h0, r0⟩ := trodAll_cons hB
  obtain ⟨v1, vs1, d1, ds1, p1, q1, hargs1, rfl, rfl, h1, r1⟩ := trodAll_cons r0
  obtain ⟨rfl, rfl, rfl⟩ := trodAll_nil r1
  refine ((Go.Av.law_NameSame xs hxs).2 W (OldS W) args ⟨fun _ h => h, fun g cs hm => by simp [Go.Av.globs] at hm⟩ (by simpa using hlen) (fun i x y h1 h2 => hR i x y h1 (by simpa using h2))).mono ?_
  rintro e W' ⟨v, S', κ', rfl, hv, _, _, _, bel⟩
  rw [hv.v_inv]
  exact ⟨_, rfl, _, _, _, [], _, [], hW', trodAll_mk1 (shut_bool Try.underlying4 _), shut_all laidOut bel _ _ _ _ (fun t ht => by
    have := (List.all_eq_true.1 readable) t ht
    simpa using this) hA, rfl, bel.frame _, fun h => by cases h⟩

theorem nameSame_holds : Rows.NameSameSaid :=
  OpenClaim.holds_of_wide 6 Try.f6 rfl rfl rfl rfl rfl rfl rfl ⟨rfl, rfl, rfl, rfl, rfl⟩ rfl rfl rfl rfl rfl (by kernel_rfl) Try.func6 (by kernel_rfl)
    (of_decide_eq_true (by kernel_rfl)) (by unfold Func.isWrapper; first | (rw [if_pos (by decide +kernel)]; kernel_rfl) | (rw [if_neg (by decide +kernel)]; exact ⟨rfl, rfl⟩))
    (fun os started H enc _ => lifted os started H enc)

end Go.Proofs.Ytblakcgmngdhmaa
