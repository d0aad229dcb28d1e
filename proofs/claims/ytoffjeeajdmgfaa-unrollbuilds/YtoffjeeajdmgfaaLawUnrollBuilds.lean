/- A machine has a circuit that says what it says; for all arguments. -/
import Derived.Test.YtoffjeeajdmgfaaUnrP
import Derived.Test.YtoffjeeajdmgfaaRows
import Derived.ProofKit
set_option linter.unusedSimpArgs false
set_option linter.unusedVariables false
set_option maxRecDepth 100000
namespace Go.Av
open Go.Proofs

theorem unrollBuilds_spec (M : Mach) (cells steps : Int) : CallsA Try.prog 8 [encM M, I cells, I steps] (Bo true) [] := by
  obtain ⟨l, hcall, hbad, hgood⟩ := unrollBuildP_spec M cells steps
  refine fn_of0 comp8 (by simp) ?_
  unfold code8
  have e00 : ((0 : Int) == 0) = true := by decide
  have n00 : ((0 : Int) != 0) = false := by decide
  have hll : ((l.map encG).length : Int) = l.length := by simp
  have hck := unrollCheck_spec M cells steps
  simp (maxSteps := 1000000) only [encM, encR, encRow, encM, encG, XX, reduceIte, ↓reduceIte, Nat.reduceAdd, Nat.reduceLeDiff, Nat.reduceEqDiff, Nat.reduceLT, Nat.reduceSub, Nat.reduceBEq, forall_const, reduceCtorEq, implies_true, exists_eq_left', exists_eq_left, if_true, if_false, undef]
  refine callA (CallsA.args (hcall ) (by simp [ encM,encR, encRow, encM, encG, XX, undef])) rfl ?_
  simp (maxSteps := 1000000) only [encR, encRow, encM, encG, XX, reduceIte, ↓reduceIte, Nat.reduceAdd, Nat.reduceLeDiff, Nat.reduceEqDiff, Nat.reduceLT, Nat.reduceSub, Nat.reduceBEq, forall_const, reduceCtorEq, implies_true, exists_eq_left', exists_eq_left, if_true, if_false, undef]
  refine callF (CallsA.args (hck ) (by simp [ encM,encR, encRow, encM, encG, XX, undef])) rfl (by simp [flat, encR, encRow, encM, encG, XX, undef]) ?_
  by_cases h0 : unrollErr M cells steps = 0
  rotate_left
  · have f : (unrollErr M cells steps != 0) = true := by simpa using h0
    have e : (unrollErr M cells steps == unrollErr M cells steps) = true := by simp
    obtain rfl := hbad h0
    simp (maxSteps := 1000000) only [f, e, e00, List.map_nil, List.length_nil, Int.ofNat_eq_natCast, Int.natCast_zero, Bo, encR, encRow, encM, encG, XX, reduceIte, ↓reduceIte, Nat.reduceAdd, Nat.reduceLeDiff, Nat.reduceEqDiff, Nat.reduceLT, Nat.reduceSub, Nat.reduceBEq, forall_const, reduceCtorEq, implies_true, exists_eq_left', exists_eq_left, if_true, if_false, undef]
    try rfl
  obtain ⟨hM, h2, hs2, hc, hst⟩ := unroll_ok h0
  obtain ⟨g1, g2, g3, g4⟩ := hgood h0
  obtain ⟨n, rfl⟩ : ∃ n : Nat, cells = n := ⟨cells.toNat, by omega⟩
  obtain ⟨s, rfl⟩ : ∃ s : Nat, steps = s := ⟨steps.toNat, by omega⟩
  simp only [Int.toNat_natCast] at g4
  have hn : n ≤ 5 := by omega
  have f1 : ((l.length : Int) == 0) = false := by simp only [beq_eq_false_iff_ne, ne_eq]; omega
  have hcv : IntKind.u64.wrap (n : Int) = (n : Int) := wrap_u64 (by omega) (by omega)
  have hsh := shl_one (show n < 62 by omega)
  have hp5 : 2 ^ n ≤ 2 ^ 5 := Nat.pow_le_pow_right (by decide) hn
  have hp5' : 2 ^ n ≤ 32 := hp5
  have wl : IntKind.i64.wrap ((l.length : Int) - 1) = ((l.length - 1 : Nat) : Int) := by rw [wrap_id] <;> omega
  have hgs := gatesCheck_spec n l (by omega)
  rw [gs_ok.2 g3] at hgs
  rw [h0]
  simp (maxSteps := 1000000) only [n00, hll, f1, encR, encRow, encM, encG, XX, reduceIte, ↓reduceIte, Nat.reduceAdd, Nat.reduceLeDiff, Nat.reduceEqDiff, Nat.reduceLT, Nat.reduceSub, Nat.reduceBEq, forall_const, reduceCtorEq, implies_true, exists_eq_left', exists_eq_left, if_true, if_false, undef]
  refine callF (CallsA.args (hgs) (by simp [encR, encRow, encM, encG, XX, undef])) rfl (by simp [flat, encR, encRow, encM, encG, XX, undef]) ?_
  simp (maxSteps := 1000000) only [n00, Bo, encR, encRow, encM, encG, XX, reduceIte, ↓reduceIte, Nat.reduceAdd, Nat.reduceLeDiff, Nat.reduceEqDiff, Nat.reduceLT, Nat.reduceSub, Nat.reduceBEq, forall_const, reduceCtorEq, implies_true, exists_eq_left', exists_eq_left, if_true, if_false, undef]
  refine loop0 Nat [10] (fun k => [IN k]) (fun k => k ≤ 2 ^ n) (fun k => 2 ^ n - k) (by decide) 0 (by simp) (by simp [Back, BackF, fzT, fzM, fzU, fz, fzL, fzO, kin, SubT, Sub, SubL, SubM, SubO, keepM, srcOk, look, lookM, ev, evs, putT, argT, encR, encRow, encM, encG, XX, undef]) (fun w hwl => ?_)
  by_cases c2 : w < 2 ^ n
  rotate_left
  · have c : decide ((w : Int) < ((2 ^ n : Nat) : Int)) = false := decide_eq_false (fun h => c2 (Int.ofNat_lt.1 h))
    simp (maxSteps := 1000000) only [hcv, hsh, c, Bo, encR, encRow, encM, encG, XX, reduceIte, ↓reduceIte, Nat.reduceAdd, Nat.reduceLeDiff, Nat.reduceEqDiff, Nat.reduceLT, Nat.reduceSub, Nat.reduceBEq, forall_const, reduceCtorEq, implies_true, exists_eq_left', exists_eq_left, if_true, if_false, undef]
    omega
  have c : decide ((w : Int) < ((2 ^ n : Nat) : Int)) = true := decide_eq_true (Int.ofNat_lt.2 c2)
  have hww : IntKind.i64.wrap ((w : Int) + 1) = ((w + 1 : Nat) : Int) := by rw [wrap_id] <;> omega
  have hgl := gval_get (w := w) (l := l) g1
  rw [g4 w c2] at hgl
  have e : (asked M n s w != asked M n s w) = false := by simp
  simp (maxSteps := 1000000) only [hcv, hsh, c, hll, wl, encR, encRow, encM, encG, XX, reduceIte, ↓reduceIte, Nat.reduceAdd, Nat.reduceLeDiff, Nat.reduceEqDiff, Nat.reduceLT, Nat.reduceSub, Nat.reduceBEq, forall_const, reduceCtorEq, implies_true, exists_eq_left', exists_eq_left, if_true, if_false, undef]
  refine ⟨by omega, ?_⟩
  refine callD (CallsA.args (gates_spec w n l (by omega) (by omega) g3 (by omega)) (by simp [encR, encRow, encM, encG, XX, undef])) rfl (by simp [flat, encR, encRow, encM, encG, XX, undef]) (by simp [encR, encRow, encM, encG, XX, undef]) ?_
  simp (maxSteps := 1000000) only [hll, wl, encR, encRow, encM, encG, XX, reduceIte, ↓reduceIte, Nat.reduceAdd, Nat.reduceLeDiff, Nat.reduceEqDiff, Nat.reduceLT, Nat.reduceSub, Nat.reduceBEq, forall_const, reduceCtorEq, implies_true, exists_eq_left', exists_eq_left, if_true, if_false, undef]
  refine ⟨by omega, Pick.mk (Bo (asked M n s w)) (by rw [Int.toNat_natCast]; exact hgl) ?_⟩
  simp (maxSteps := 1000000) only [encR, encRow, encM, encG, XX, reduceIte, ↓reduceIte, Nat.reduceAdd, Nat.reduceLeDiff, Nat.reduceEqDiff, Nat.reduceLT, Nat.reduceSub, Nat.reduceBEq, forall_const, reduceCtorEq, implies_true, exists_eq_left', exists_eq_left, if_true, if_false, undef]
  refine callD (CallsA.args (asked_spec M n s w hM h2 (by omega) (by omega) (by omega) (by omega) ) (by simp [ encM,encR, encRow, encM, encG, XX, undef])) rfl (by simp [flat, encR, encRow, encM, encG, XX, undef]) (by simp [encR, encRow, encM, encG, XX, undef]) ?_
  simp (maxSteps := 1000000) only [e, hww, Bo, Option.toList_some, Option.toList_none, encR, encRow, encM, encG, XX, reduceIte, ↓reduceIte, Nat.reduceAdd, Nat.reduceLeDiff, Nat.reduceEqDiff, Nat.reduceLT, Nat.reduceSub, Nat.reduceBEq, forall_const, reduceCtorEq, implies_true, exists_eq_left', exists_eq_left, if_true, if_false, undef]
  exact ⟨w + 1, by omega, by omega, by simp [Back, BackF, fzT, fzM, fzU, fz, fzL, fzO, kin, SubT, Sub, SubL, SubM, SubO, keepM, srcOk, look, lookM, ev, evs, putT, argT, encR, encRow, encM, encG, XX, undef]⟩

def sh_UnrollBuilds : List Sh := [shMach, .int .i64, .int .i64]
theorem law_UnrollBuilds (xs : List AV) (h : HasAll sh_UnrollBuilds xs) : CallsA Try.prog 8 xs (.v (.bool true)) [] := by
  obtain ⟨x, r, rfl, hx, y, r, rfl, hy, z, r, rfl, hz, rfl⟩ := h
  obtain ⟨m, rfl⟩ := hasMach hx
  obtain ⟨c, rfl, _⟩ := hasInt hy
  obtain ⟨s, rfl, _⟩ := hasInt hz
  exact unrollBuilds_spec m c s

end Go.Av
namespace Go.Proofs.Ytoffjeeajdmgfaa
open Go.ChangeShapes Go.WideShapes Go.ChangeAt Go.RowKit
open Go.Av (open_all shut_all OldS HasAll Sh CallsA shAll)

theorem own : ownKnob Try.prog.godebug = none := by kernel_rfl
theorem laidOut : laidOutB Try.prog = true := by kernel_rfl
theorem shs_eq : shAll Try.prog 12 Try.f8.params.toList = some Go.Av.sh_UnrollBuilds := by kernel_rfl
theorem readable : (Try.f8.params.toList.all fun t => Try.prog.readableRec t && decide (t < Try.prog.types.size)) = true := by kernel_rfl

theorem lifted (os : Os) (started : os.Started) (H : Type) (enc : TypeId × Value → H) :
    ReturnsInHanded {} Try.checked os 8 .any (Rows.unrollBuildsSpec.pre6 enc Try.prog Try.f8 Rows.unrollBuildsRow.domain false) (Rows.unrollBuildsSpec.post enc Try.prog Try.f8 false true false false) := by
  refine returnsInHanded_of_change (C := Try.checked) own started (by kernel_rfl) Try.func8
    (ChangeSpec.witness6 (enc := enc) (C := Try.checked) false ⟨#[], #[.agg #[.int .i64 0, .int .i64 0, .slice none 0 0], .int .i64 0, .int .i64 0], []⟩ 8 (by kernel_rfl) (by kernel_rfl) (by kernel_rfl) (by kernel_rfl)) ?_
  intro W base args ds gs before hval0 hW hcnd _
  have hval : ∀ (j : Nat) t v, Try.f8.params[j]? = some t → args[j]? = some v → Value.okWide Try.prog W .any base t v := hval0
  have hW' := hW
  obtain ⟨p, q, hA0, hV, rfl, hfz, hnd⟩ := hW
  have hA : DataW.TrodAll enc Try.prog W 0 (fun _ => true) true Try.f8.params.toList args.toList ds p := hA0
  obtain ⟨xs, hxs, hlen, hR⟩ := open_all (g := 12) _ _ _ _ Go.Av.sh_UnrollBuilds hA (fun j t v ht hv => hval j t v (by simpa using ht) (by simpa using hv)) shs_eq
  obtain ⟨rfl, rfl⟩ := trodVars_none hV
  have hB := hA
  rw [Try.params8] at hB
  obtain ⟨v0, vs0, d0, ds0, p0, q0, hargs0, rfl, rfl, h0, r0⟩ := trodAll_cons hB
  obtain ⟨v1, vs1, d1, ds1, p1, q1, hargs1, rfl, rfl, h1, r1⟩ := trodAll_cons r0
  obtain ⟨v2, vs2, d2, ds2, p2, q2, hargs2, rfl, rfl, h2, r2⟩ := trodAll_cons r1
  obtain ⟨rfl, rfl, rfl⟩ := trodAll_nil r2
  refine ((Go.Av.law_UnrollBuilds xs hxs).2 W (OldS W) args ⟨fun _ h => h, fun g cs hm => by simp [Go.Av.globs] at hm⟩ (by simpa using hlen) (fun i x y h1 h2 => hR i x y h1 (by simpa using h2))).mono ?_
  rintro e W' ⟨v, S', κ', rfl, hv, _, _, _, bel⟩
  rw [hv.v_inv]
  exact ⟨_, rfl, _, _, _, [], _, [], hW', trodAll_mk1 (shut_bool Try.underlying4 _), shut_all laidOut bel _ _ _ _ (fun t ht => by
    have := (List.all_eq_true.1 readable) t ht
    simpa using this) hA, rfl, bel.frame _, fun h => by cases h⟩

theorem unrollBuilds_holds : Rows.UnrollBuildsSaid :=
  OpenClaim.holds_of_wide 8 Try.f8 rfl rfl rfl rfl rfl rfl rfl ⟨rfl, rfl, rfl, rfl, rfl⟩ rfl rfl rfl rfl rfl (by kernel_rfl) Try.func8 (by kernel_rfl)
    (of_decide_eq_true (by kernel_rfl)) (by unfold Func.isWrapper; first | (rw [if_pos (by decide +kernel)]; kernel_rfl) | (rw [if_neg (by decide +kernel)]; exact ⟨rfl, rfl⟩))
    (fun os started H enc _ => lifted os started H enc)

end Go.Proofs.Ytoffjeeajdmgfaa
