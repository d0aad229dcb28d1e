/- A circuit has clauses of which one choice makes all hold just if it is; for all arguments. -/
import Derived.Test.YtblakcgmngdhmaaNamP
import Derived.Test.YtblakcgmngdhmaaRows
import Derived.ProofKit
set_option linter.unusedSimpArgs false
set_option linter.unusedVariables false
set_option maxRecDepth 100000
namespace Go.Av
open Go.Proofs

theorem nameBuilds_spec (inn : Int) (l : List Gt) (hl : (l.length : Int) < 2 ^ 63) :
    CallsA Try.prog 5 [I inn, .ro 3 (l.map encG)] (Bo true) [] := by
  obtain ⟨vs, c, hcall, hbad, hgood⟩ := nameBuildP_spec inn l hl
  refine fn_of0 comp5 (by simp) ?_
  unfold code5
  have e00 : ((0 : Int) == 0) = true := by decide
  have n00 : ((0 : Int) != 0) = false := by decide
  have hll : ((l.map encG).length : Int) = l.length := by simp
  have hcc : ((c.map encCl).length : Int) = c.length := by simp
  simp (maxSteps := 1000000) only [encCl, encG, XX, reduceIte, ↓reduceIte, Nat.reduceAdd, Nat.reduceLeDiff, Nat.reduceEqDiff, Nat.reduceLT, Nat.reduceSub, Nat.reduceBEq, forall_const, reduceCtorEq, implies_true, exists_eq_left', exists_eq_left, if_true, if_false, undef]
  refine callA (CallsA.args (hcall) (by simp [encCl, encG, XX, undef])) rfl ?_
  simp (maxSteps := 1000000) only [encCl, encG, XX, reduceIte, ↓reduceIte, Nat.reduceAdd, Nat.reduceLeDiff, Nat.reduceEqDiff, Nat.reduceLT, Nat.reduceSub, Nat.reduceBEq, forall_const, reduceCtorEq, implies_true, exists_eq_left', exists_eq_left, if_true, if_false, undef]
  refine callF (CallsA.args (gateCheck_spec inn l hl) (by simp [encCl, encG, XX, undef])) rfl (by simp [flat, encCl, encG, XX, undef]) ?_
  by_cases h0 : gateErr inn l = 0
  rotate_left
  · have f1 : (gateErr inn l != 0) = true := by simpa using h0
    have e : (gateErr inn l == gateErr inn l) = true := by simp
    obtain ⟨rfl, rfl⟩ := hbad h0
    simp (maxSteps := 1000000) only [f1, e, e00, List.map_nil, List.length_nil, Int.ofNat_eq_natCast, Int.natCast_zero, Bo, encCl, encG, XX, reduceIte, ↓reduceIte, Nat.reduceAdd, Nat.reduceLeDiff, Nat.reduceEqDiff, Nat.reduceLT, Nat.reduceSub, Nat.reduceBEq, forall_const, reduceCtorEq, implies_true, exists_eq_left', exists_eq_left, if_true, if_false, undef]
    try rfl
  obtain ⟨hi, h40, hok⟩ := gate_ok h0
  have hN := hgood h0
  obtain ⟨n, rfl⟩ : ∃ n : Nat, inn = n := ⟨inn.toNat, by omega⟩
  rw [Int.toNat_natCast] at hN
  have hn : n ≤ 5 := by omega
  have hlo := hN.lo
  have hhi := hN.hi
  have hlen := hN.len
  have w1 : IntKind.i64.wrap ((n : Int) + (l.length : Int)) = (n : Int) + (l.length : Int) := by rw [wrap_id] <;> omega
  have w2 : IntKind.i64.wrap (4 * (l.length : Int)) = 4 * (l.length : Int) := by rw [wrap_id] <;> omega
  have w3 : IntKind.i64.wrap (4 * (l.length : Int) + 8) = 4 * (l.length : Int) + 8 := by rw [wrap_id] <;> omega
  have f2 : decide ((n : Int) ≤ (vs : Int) ∧ (vs : Int) ≤ (n : Int) + (l.length : Int)) = true := by rw [decide_eq_true_iff]; omega
  have f3 : decide ((c.length : Int) > 4 * (l.length : Int) + 8) = false := by simp only [decide_eq_false_iff_not]; omega
  rw [h0]
  simp (maxSteps := 1000000) only [n00, hll, w1, encCl, encG, XX, reduceIte, ↓reduceIte, Nat.reduceAdd, Nat.reduceLeDiff, Nat.reduceEqDiff, Nat.reduceLT, Nat.reduceSub, Nat.reduceBEq, forall_const, reduceCtorEq, implies_true, exists_eq_left', exists_eq_left, if_true, if_false, undef]
  refine callF (CallsA.args (within_spec (n : Int) (vs : Int) ((n : Int) + (l.length : Int)) ) (by simp [ hll, w1,encCl, encG, XX, undef])) rfl (by simp [flat, encCl, encG, XX, undef]) ?_
  simp (maxSteps := 1000000) only [f2, f3, hll, hcc, w2, w3, Bo, Bool.not_true, encCl, encG, XX, reduceIte, ↓reduceIte, Nat.reduceAdd, Nat.reduceLeDiff, Nat.reduceEqDiff, Nat.reduceLT, Nat.reduceSub, Nat.reduceBEq, forall_const, reduceCtorEq, implies_true, exists_eq_left', exists_eq_left, if_true, if_false, undef]
  refine loop0 Nat [60] (fun k => [IN k]) (fun k => k ≤ c.length) (fun k => c.length - k) (by decide) 0 (by simp) (by simp [Back, BackF, fzT, fzM, fzU, fz, fzL, fzO, kin, SubT, Sub, SubL, SubM, SubO, keepM, srcOk, look, lookM, ev, evs, putT, argT, encCl, encG, XX, undef]) (fun k hk => ?_)
  by_cases c1 : k < c.length
  · have g1 : decide ((k : Int) < (c.length : Int)) = true := by simp [c1]
    have hw : IntKind.i64.wrap ((k : Int) + 1) = ((k + 1 : Nat) : Int) := by rw [wrap_id] <;> omega
    have h3 := hN.three _ (List.getElem_mem c1)
    obtain ⟨i1, i2⟩ := hN.ins _ (List.getElem_mem c1)
    simp (maxSteps := 1000000) only [hcc, g1, encCl, encG, XX, reduceIte, ↓reduceIte, Nat.reduceAdd, Nat.reduceLeDiff, Nat.reduceEqDiff, Nat.reduceLT, Nat.reduceSub, Nat.reduceBEq, forall_const, reduceCtorEq, implies_true, exists_eq_left', exists_eq_left, if_true, if_false, undef]
    refine ⟨by omega, pickM c1 ?_⟩
    generalize c[k] = cl at *
    obtain ⟨ys, ns⟩ := cl
    simp only at h3 i1 i2
    have hyl : ((ys.map I).length : Int) = ys.length := by simp
    have hnl : ((ns.map I).length : Int) = ns.length := by simp
    have w4 : IntKind.i64.wrap ((ys.length : Int) + (ns.length : Int)) = (ys.length : Int) + (ns.length : Int) := by rw [wrap_id] <;> omega
    have f4 : decide ((ys.length : Int) + (ns.length : Int) > 3) = false := by simp only [decide_eq_false_iff_not]; omega
    have hy := inside_spec (vs : Int) ys (by omega)
    have hns := inside_spec (vs : Int) ns (by omega)
    rw [show (ys.all fun i => decide (0 ≤ i ∧ i < (vs : Int))) = true from i1] at hy
    rw [show (ns.all fun i => decide (0 ≤ i ∧ i < (vs : Int))) = true from i2] at hns
    simp (maxSteps := 1000000) only [encCl, splice, AV.cells, hyl, hnl, w4, f4, encCl, encG, XX, reduceIte, ↓reduceIte, Nat.reduceAdd, Nat.reduceLeDiff, Nat.reduceEqDiff, Nat.reduceLT, Nat.reduceSub, Nat.reduceBEq, forall_const, reduceCtorEq, implies_true, exists_eq_left', exists_eq_left, if_true, if_false, undef]
    refine callF (CallsA.args (hy) (by simp [encCl, encG, XX, undef])) rfl (by simp [flat, encCl, encG, XX, undef]) ?_
    simp (maxSteps := 1000000) only [Bo, Bool.not_true, encCl, encG, XX, reduceIte, ↓reduceIte, Nat.reduceAdd, Nat.reduceLeDiff, Nat.reduceEqDiff, Nat.reduceLT, Nat.reduceSub, Nat.reduceBEq, forall_const, reduceCtorEq, implies_true, exists_eq_left', exists_eq_left, if_true, if_false, undef]
    refine callF (CallsA.args (hns) (by simp [encCl, encG, XX, undef])) rfl (by simp [flat, encCl, encG, XX, undef]) ?_
    simp (maxSteps := 1000000) only [hw, Bo, Bool.not_true, encCl, encG, XX, reduceIte, ↓reduceIte, Nat.reduceAdd, Nat.reduceLeDiff, Nat.reduceEqDiff, Nat.reduceLT, Nat.reduceSub, Nat.reduceBEq, forall_const, reduceCtorEq, implies_true, exists_eq_left', exists_eq_left, if_true, if_false, undef]
    exact ⟨k + 1, by omega, by omega, by simp [Back, BackF, fzT, fzM, fzU, fz, fzL, fzO, kin, SubT, Sub, SubL, SubM, SubO, keepM, srcOk, look, lookM, ev, evs, putT, argT, encCl, encG, XX, undef]⟩
  have g1 : decide ((k : Int) < (c.length : Int)) = false := by simp; omega
  have hcv : IntKind.u64.wrap (n : Int) = (n : Int) := wrap_u64 (by omega) (by omega)
  have hsh := shl_one (show n < 62 by omega)
  have hp5 : 2 ^ n ≤ 2 ^ 5 := Nat.pow_le_pow_right (by decide) hn
  have hp5' : 2 ^ n ≤ 32 := hp5
  have wl : IntKind.i64.wrap ((l.length : Int) - 1) = ((l.length - 1 : Nat) : Int) := by rw [wrap_id] <;> omega
  simp (maxSteps := 1000000) only [hcc, g1, encCl, encG, XX, reduceIte, ↓reduceIte, Nat.reduceAdd, Nat.reduceLeDiff, Nat.reduceEqDiff, Nat.reduceLT, Nat.reduceSub, Nat.reduceBEq, forall_const, reduceCtorEq, implies_true, exists_eq_left', exists_eq_left, if_true, if_false, undef]
  refine loop0 Nat [11] (fun k => [IN k]) (fun k => k ≤ 2 ^ n) (fun k => 2 ^ n - k) (by decide) 0 (by simp) (by simp [Back, BackF, fzT, fzM, fzU, fz, fzL, fzO, kin, SubT, Sub, SubL, SubM, SubO, keepM, srcOk, look, lookM, ev, evs, putT, argT, encCl, encG, XX, undef]) (fun w hwl => ?_)
  by_cases c2 : w < 2 ^ n
  rotate_left
  · have c : decide ((w : Int) < ((2 ^ n : Nat) : Int)) = false := decide_eq_false (fun h => c2 (Int.ofNat_lt.1 h))
    simp (maxSteps := 1000000) only [hcv, hsh, c, Bo, encCl, encG, XX, reduceIte, ↓reduceIte, Nat.reduceAdd, Nat.reduceLeDiff, Nat.reduceEqDiff, Nat.reduceLT, Nat.reduceSub, Nat.reduceBEq, forall_const, reduceCtorEq, implies_true, exists_eq_left', exists_eq_left, if_true, if_false, undef]
    omega
  have g2 : decide ((w : Int) < ((2 ^ n : Nat) : Int)) = true := decide_eq_true (Int.ofNat_lt.2 c2)
  have hww : IntKind.i64.wrap ((w : Int) + 1) = ((w + 1 : Nat) : Int) := by rw [wrap_id] <;> omega
  have hgl := gval_get (w := w) (l := l) h40.1
  have hch := choices0_spec vs c (bitsL n w) (by omega) (by rw [bitsL_length]; omega) (by omega) hN.ok
  rw [fstH_bits, hN.ways w c2] at hch
  simp (maxSteps := 1000000) only [hcv, hsh, g2, encCl, encG, XX, reduceIte, ↓reduceIte, Nat.reduceAdd, Nat.reduceLeDiff, Nat.reduceEqDiff, Nat.reduceLT, Nat.reduceSub, Nat.reduceBEq, forall_const, reduceCtorEq, implies_true, exists_eq_left', exists_eq_left, if_true, if_false, undef]
  refine ⟨by omega, ?_⟩
  refine callA (CallsA.args (gates_spec w n l (by omega) (by omega) hok (by omega)) (by simp [encCl, encG, XX, undef])) rfl ?_
  simp (maxSteps := 1000000) only [hll, wl, encCl, encG, XX, reduceIte, ↓reduceIte, Nat.reduceAdd, Nat.reduceLeDiff, Nat.reduceEqDiff, Nat.reduceLT, Nat.reduceSub, Nat.reduceBEq, forall_const, reduceCtorEq, implies_true, exists_eq_left', exists_eq_left, if_true, if_false, undef]
  refine ⟨by omega, Pick.mk (Bo (gval w l)) (by rw [Int.toNat_natCast]; exact hgl) ?_⟩
  cases hb : gval w l with
  | false =>
    rw [hb] at hch
    have q : (((min 2 (false.toNat) : Nat) : Int) != 0) = false := by decide
    simp (maxSteps := 1000000) only [Bo, encCl, encG, XX, reduceIte, ↓reduceIte, Nat.reduceAdd, Nat.reduceLeDiff, Nat.reduceEqDiff, Nat.reduceLT, Nat.reduceSub, Nat.reduceBEq, forall_const, reduceCtorEq, implies_true, exists_eq_left', exists_eq_left, if_true, if_false, undef]
    refine callA (CallsA.args (bits_spec n w (by omega) (by omega)) (by simp [encCl, encG, XX, undef])) rfl ?_
    simp (maxSteps := 1000000) only [encCl, encG, XX, reduceIte, ↓reduceIte, Nat.reduceAdd, Nat.reduceLeDiff, Nat.reduceEqDiff, Nat.reduceLT, Nat.reduceSub, Nat.reduceBEq, forall_const, reduceCtorEq, implies_true, exists_eq_left', exists_eq_left, if_true, if_false, undef]
    refine callF (CallsA.args (hch) (by simp [encCl, encG, XX, undef])) rfl (by simp [flat, encCl, encG, XX, undef]) ?_
    simp (maxSteps := 1000000) only [q, hww, Bo, encCl, encG, XX, reduceIte, ↓reduceIte, Nat.reduceAdd, Nat.reduceLeDiff, Nat.reduceEqDiff, Nat.reduceLT, Nat.reduceSub, Nat.reduceBEq, forall_const, reduceCtorEq, implies_true, exists_eq_left', exists_eq_left, if_true, if_false, undef]
    exact ⟨w + 1, by omega, by omega, by simp [Back, BackF, fzT, fzM, fzU, fz, fzL, fzO, kin, SubT, Sub, SubL, SubM, SubO, keepM, srcOk, look, lookM, ev, evs, putT, argT, encCl, encG, XX, undef]⟩
  | true =>
    rw [hb] at hch
    have q : (((min 2 (true.toNat) : Nat) : Int) != 1) = false := by decide
    simp (maxSteps := 1000000) only [Bo, encCl, encG, XX, reduceIte, ↓reduceIte, Nat.reduceAdd, Nat.reduceLeDiff, Nat.reduceEqDiff, Nat.reduceLT, Nat.reduceSub, Nat.reduceBEq, forall_const, reduceCtorEq, implies_true, exists_eq_left', exists_eq_left, if_true, if_false, undef]
    refine callA (CallsA.args (bits_spec n w (by omega) (by omega)) (by simp [encCl, encG, XX, undef])) rfl ?_
    simp (maxSteps := 1000000) only [encCl, encG, XX, reduceIte, ↓reduceIte, Nat.reduceAdd, Nat.reduceLeDiff, Nat.reduceEqDiff, Nat.reduceLT, Nat.reduceSub, Nat.reduceBEq, forall_const, reduceCtorEq, implies_true, exists_eq_left', exists_eq_left, if_true, if_false, undef]
    refine callF (CallsA.args (hch) (by simp [encCl, encG, XX, undef])) rfl (by simp [flat, encCl, encG, XX, undef]) ?_
    simp (maxSteps := 1000000) only [q, hww, Bo, encCl, encG, XX, reduceIte, ↓reduceIte, Nat.reduceAdd, Nat.reduceLeDiff, Nat.reduceEqDiff, Nat.reduceLT, Nat.reduceSub, Nat.reduceBEq, forall_const, reduceCtorEq, implies_true, exists_eq_left', exists_eq_left, if_true, if_false, undef]
    exact ⟨w + 1, by omega, by omega, by simp [Back, BackF, fzT, fzM, fzU, fz, fzL, fzO, kin, SubT, Sub, SubL, SubM, SubO, keepM, srcOk, look, lookM, ev, evs, putT, argT, encCl, encG, XX, undef]⟩

def sh_NameBuilds : List Sh := [.int .i64, shGates]
theorem law_NameBuilds (xs : List AV) (h : HasAll sh_NameBuilds xs) : CallsA Try.prog 5 xs (.v (.bool true)) [] := by
  obtain ⟨x, r, rfl, hx, y, r, rfl, hy, rfl⟩ := h
  obtain ⟨n, rfl, _⟩ := hasInt hx
  obtain ⟨l, rfl, hl⟩ := hasGates hy
  exact nameBuilds_spec n l hl

end Go.Av
namespace Go.Proofs.Ytblakcgmngdhmaa
open Go.ChangeShapes Go.WideShapes Go.ChangeAt Go.RowKit
open Go.Av (open_all shut_all OldS HasAll Sh CallsA shAll)

theorem own : ownKnob Try.prog.godebug = none := by kernel_rfl
theorem laidOut : laidOutB Try.prog = true := by kernel_rfl
theorem shs_eq : shAll Try.prog 12 Try.f5.params.toList = some Go.Av.sh_NameBuilds := by kernel_rfl
theorem readable : (Try.f5.params.toList.all fun t => Try.prog.readableRec t && decide (t < Try.prog.types.size)) = true := by kernel_rfl

theorem lifted (os : Os) (started : os.Started) (H : Type) (enc : TypeId × Value → H) :
    ReturnsInHanded {} Try.checked os 5 .any (Rows.nameBuildsSpec.pre6 enc Try.prog Try.f5 Rows.nameBuildsRow.domain false) (Rows.nameBuildsSpec.post enc Try.prog Try.f5 false true false false) := by
  refine returnsInHanded_of_change (C := Try.checked) own started (by kernel_rfl) Try.func5
    (ChangeSpec.witness6 (enc := enc) (C := Try.checked) false ⟨#[], #[.int .i64 0, .slice none 0 0], []⟩ 8 (by kernel_rfl) (by kernel_rfl) (by kernel_rfl) (by kernel_rfl)) ?_
  intro W base args ds gs before hval0 hW hcnd _
  have hval : ∀ (j : Nat) t v, Try.f5.params[j]? = some t → args[j]? = some v → Value.okWide Try.prog W .any base t v := hval0
  have hW' := hW
  obtain ⟨p, q, hA0, hV, rfl, hfz, hnd⟩ := hW
  have hA : DataW.TrodAll enc Try.prog W 0 (fun _ => true) true Try.f5.params.toList args.toList ds p := hA0
  obtain ⟨xs, hxs, hlen, hR⟩ := open_all (g := 12) _ _ _ _ Go.Av.sh_NameBuilds hA (fun j t v ht hv => hval j t v (by simpa using ht) (by simpa using hv)) shs_eq
  obtain ⟨rfl, rfl⟩ := trodVars_none hV
  have hB := hA
  rw [Try.params5] at hB
  obtain ⟨v0, vs0, d0, ds0, p0, q0, hargs0, rfl, rfl, h0, r0⟩ := trodAll_cons hB
  obtain ⟨v1, vs1, d1, ds1, p1, q1, hargs1, rfl, rfl, h1, r1⟩ := trodAll_cons r0
  obtain ⟨rfl, rfl, rfl⟩ := trodAll_nil r1
  refine ((Go.Av.law_NameBuilds xs hxs).2 W (OldS W) args ⟨fun _ h => h, fun g cs hm => by simp [Go.Av.globs] at hm⟩ (by simpa using hlen) (fun i x y h1 h2 => hR i x y h1 (by simpa using h2))).mono ?_
  rintro e W' ⟨v, S', κ', rfl, hv, _, _, _, bel⟩
  rw [hv.v_inv]
  exact ⟨_, rfl, _, _, _, [], _, [], hW', trodAll_mk1 (shut_bool Try.underlying4 _), shut_all laidOut bel _ _ _ _ (fun t ht => by
    have := (List.all_eq_true.1 readable) t ht
    simpa using this) hA, rfl, bel.frame _, fun h => by cases h⟩

theorem nameBuilds_holds : Rows.NameBuildsSaid :=
  OpenClaim.holds_of_wide 5 Try.f5 rfl rfl rfl rfl rfl rfl rfl ⟨rfl, rfl, rfl, rfl, rfl⟩ rfl rfl rfl rfl rfl (by kernel_rfl) Try.func5 (by kernel_rfl)
    (of_decide_eq_true (by kernel_rfl)) (by unfold Func.isWrapper; first | (rw [if_pos (by decide +kernel)]; kernel_rfl) | (rw [if_neg (by decide +kernel)]; exact ⟨rfl, rfl⟩))
    (fun os started H enc _ => lifted os started H enc)

end Go.Proofs.Ytblakcgmngdhmaa
