/- The circuit of a machine says what the machine says; for all arguments. -/
import Derived.Test.YtoffjeeajdmgfaaUnrP
import Derived.Test.YtoffjeeajdmgfaaRows
import Derived.ProofKit
set_option linter.unusedSimpArgs false
set_option linter.unusedVariables false
set_option maxRecDepth 100000
namespace Go.Av
open Go.Proofs

theorem unrollSame_spec (M : Mach) (cells steps : Int) (w : Nat) (hw : w < 256) :
    CallsA Try.prog 10 [encM M, I cells, I steps, .v (.int .u8 w)] (Bo true) [] := by
  obtain ⟨l, hcall, hbad, hgood⟩ := unrollBuildP_spec M cells steps
  refine fn_of0 comp10 (by simp) ?_
  unfold code10
  have e00 : ((0 : Int) == 0) = true := by decide
  have n00 : ((0 : Int) != 0) = false := by decide
  have hll : ((l.map encG).length : Int) = l.length := by simp
  simp (maxSteps := 1000000) only [encM, encR, encRow, encM, encG, XX, reduceIte, ↓reduceIte, Nat.reduceAdd, Nat.reduceLeDiff, Nat.reduceEqDiff, Nat.reduceLT, Nat.reduceSub, Nat.reduceBEq, forall_const, reduceCtorEq, implies_true, exists_eq_left', exists_eq_left, if_true, if_false, undef]
  refine callA (CallsA.args (hcall ) (by simp [ encM,encR, encRow, encM, encG, XX, undef])) rfl ?_
  by_cases h0 : unrollErr M cells steps = 0
  rotate_left
  · have f : (unrollErr M cells steps != 0) = true := by simpa using h0
    obtain rfl := hbad h0
    simp (maxSteps := 1000000) only [f, e00, List.map_nil, List.length_nil, Int.ofNat_eq_natCast, Int.natCast_zero, Bo, encR, encRow, encM, encG, XX, reduceIte, ↓reduceIte, Nat.reduceAdd, Nat.reduceLeDiff, Nat.reduceEqDiff, Nat.reduceLT, Nat.reduceSub, Nat.reduceBEq, forall_const, reduceCtorEq, implies_true, exists_eq_left', exists_eq_left, if_true, if_false, undef]
    try rfl
  obtain ⟨hM, h2, hs2, hc, hst⟩ := unroll_ok h0
  obtain ⟨g1, g2, g3, g4⟩ := hgood h0
  obtain ⟨n, rfl⟩ : ∃ n : Nat, cells = n := ⟨cells.toNat, by omega⟩
  obtain ⟨s, rfl⟩ : ∃ s : Nat, steps = s := ⟨steps.toNat, by omega⟩
  simp only [Int.toNat_natCast] at g4
  have hn : n ≤ 5 := by omega
  have f1 : ((l.length : Int) == 0) = false := by simp only [beq_eq_false_iff_ne, ne_eq]; omega
  have f2 : decide (1 ≤ (n : Int) ∧ (n : Int) ≤ 5) = true := by rw [decide_eq_true_iff]; omega
  have hcv : IntKind.u64.wrap (n : Int) = (n : Int) := wrap_u64 (by omega) (by omega)
  have hsh := shl_one (show n < 62 by omega)
  have hcw : IntKind.i64.wrap (w : Int) = (w : Int) := by rw [wrap_id] <;> omega
  have hp : 0 < 2 ^ n := Nat.pow_pos (by decide)
  have hp5 : 2 ^ n ≤ 2 ^ 5 := Nat.pow_le_pow_right (by decide) hn
  have hp5' : 2 ^ n ≤ 32 := hp5
  have hmod : (w : Int).tmod ((2 ^ n : Nat) : Int) = ((w % 2 ^ n : Nat) : Int) := by rw [Int.tmod_eq_emod_of_nonneg (by omega)]; simp
  have hk : w % 2 ^ n < 2 ^ n := Nat.mod_lt _ hp
  generalize w % 2 ^ n = k at *
  have hgl := gval_get (w := k) (l := l) g1
  rw [g4 k hk] at hgl
  have wl : IntKind.i64.wrap ((l.length : Int) - 1) = ((l.length - 1 : Nat) : Int) := by rw [wrap_id] <;> omega
  have hgs := gatesCheck_spec n l (by omega)
  rw [gs_ok.2 g3] at hgs
  have hbs := bits_spec n k (by omega) (by omega)
  have hbl : (bitsL n k).length = n := by simp [bitsL]
  have hak := unrollAskP_spec M n s (bitsL n k) (by omega)
  rw [askAns, if_neg (by simp [h0]), if_neg (by simp [hbl]), wordN_bitsL hk] at hak
  simp only [Int.toNat_natCast] at hak
  have e : (asked M n s k == asked M n s k) = true := by simp
  rw [h0]
  simp (maxSteps := 1000000) only [n00, hll, f1, encR, encRow, encM, encG, XX, reduceIte, ↓reduceIte, Nat.reduceAdd, Nat.reduceLeDiff, Nat.reduceEqDiff, Nat.reduceLT, Nat.reduceSub, Nat.reduceBEq, forall_const, reduceCtorEq, implies_true, exists_eq_left', exists_eq_left, if_true, if_false, undef]
  refine callF (CallsA.args (within_spec 1 (n : Int) 5) (by simp [encR, encRow, encM, encG, XX, undef])) rfl (by simp [flat, encR, encRow, encM, encG, XX, undef]) ?_
  simp (maxSteps := 1000000) only [f2, Bo, Bool.not_true, encR, encRow, encM, encG, XX, reduceIte, ↓reduceIte, Nat.reduceAdd, Nat.reduceLeDiff, Nat.reduceEqDiff, Nat.reduceLT, Nat.reduceSub, Nat.reduceBEq, forall_const, reduceCtorEq, implies_true, exists_eq_left', exists_eq_left, if_true, if_false, undef]
  refine callF (CallsA.args (hgs) (by simp [encR, encRow, encM, encG, XX, undef])) rfl (by simp [flat, encR, encRow, encM, encG, XX, undef]) ?_
  simp (maxSteps := 1000000) only [n00, hcv, hcw, hsh, hmod, Bo, encR, encRow, encM, encG, XX, reduceIte, ↓reduceIte, Nat.reduceAdd, Nat.reduceLeDiff, Nat.reduceEqDiff, Nat.reduceLT, Nat.reduceSub, Nat.reduceBEq, forall_const, reduceCtorEq, implies_true, exists_eq_left', exists_eq_left, if_true, if_false, undef]
  refine ⟨by omega, by omega, ?_⟩
  refine callD (CallsA.args (hbs ) (by simp [ hmod,encR, encRow, encM, encG, XX, undef])) rfl (by simp [flat, encR, encRow, encM, encG, XX, undef]) (by simp [encR, encRow, encM, encG, XX, undef]) ?_
  simp (maxSteps := 1000000) only [encR, encRow, encM, encG, XX, reduceIte, ↓reduceIte, Nat.reduceAdd, Nat.reduceLeDiff, Nat.reduceEqDiff, Nat.reduceLT, Nat.reduceSub, Nat.reduceBEq, forall_const, reduceCtorEq, implies_true, exists_eq_left', exists_eq_left, if_true, if_false, undef]
  refine callXd (CallsA.args (hak ) (by simp [ encM,encR, encRow, encM, encG, XX, undef])) rfl (by simp [flat, encR, encRow, encM, encG, XX, undef]) (by simp [encR, encRow, encM, encG, XX, undef]) ?_
  simp (maxSteps := 1000000) only [e00, Option.toList_some, Option.toList_none, encR, encRow, encM, encG, XX, reduceIte, ↓reduceIte, Nat.reduceAdd, Nat.reduceLeDiff, Nat.reduceEqDiff, Nat.reduceLT, Nat.reduceSub, Nat.reduceBEq, forall_const, reduceCtorEq, implies_true, exists_eq_left', exists_eq_left, if_true, if_false, undef]
  refine callA (CallsA.args (gates_spec k n l (by omega) (by omega) g3 (by omega)) (by simp [encR, encRow, encM, encG, XX, undef])) rfl ?_
  simp (maxSteps := 1000000) only [hll, wl, encR, encRow, encM, encG, XX, reduceIte, ↓reduceIte, Nat.reduceAdd, Nat.reduceLeDiff, Nat.reduceEqDiff, Nat.reduceLT, Nat.reduceSub, Nat.reduceBEq, forall_const, reduceCtorEq, implies_true, exists_eq_left', exists_eq_left, if_true, if_false, undef]
  refine ⟨by omega, Pick.mk (Bo (asked M n s k)) (by rw [Int.toNat_natCast]; exact hgl) ?_⟩
  simp (maxSteps := 1000000) only [e, Bo, encR, encRow, encM, encG, XX, reduceIte, ↓reduceIte, Nat.reduceAdd, Nat.reduceLeDiff, Nat.reduceEqDiff, Nat.reduceLT, Nat.reduceSub, Nat.reduceBEq, forall_const, reduceCtorEq, implies_true, exists_eq_left', exists_eq_left, if_true, if_false, undef]

def sh_UnrollSame : List Sh := [shMach, .int .i64, .int .i64, .int .u8]
theorem law_UnrollSame (xs : List AV) (h : HasAll sh_UnrollSame xs) : CallsA Try.prog 10 xs (.v (.bool true)) [] := by
  obtain ⟨x, r, rfl, hx, y, r, rfl, hy, z, r, rfl, hz, u, r, rfl, hu, rfl⟩ := h
  obtain ⟨m, rfl⟩ := hasMach hx
  obtain ⟨c, rfl, _⟩ := hasInt hy
  obtain ⟨s, rfl, _⟩ := hasInt hz
  obtain ⟨k, rfl, hk⟩ := hasInt hu
  have hk := u8_range hk
  obtain ⟨w, rfl⟩ : ∃ w : Nat, k = w := ⟨k.toNat, by omega⟩
  exact unrollSame_spec m c s w (by omega)

end Go.Av
namespace Go.Proofs.Ytoffjeeajdmgfaa
open Go.ChangeShapes Go.WideShapes Go.ChangeAt Go.RowKit
open Go.Av (open_all shut_all OldS HasAll Sh CallsA shAll)

theorem own : ownKnob Try.prog.godebug = none := by kernel_rfl
theorem laidOut : laidOutB Try.prog = true := by kernel_rfl
theorem shs_eq : shAll Try.prog 12 Try.f10.params.toList = some Go.Av.sh_UnrollSame := by kernel_rfl
theorem readable : (Try.f10.params.toList.all fun t => Try.prog.readableRec t && decide (t < Try.prog.types.size)) = true := by kernel_rfl

theorem lifted (os : Os) (started : os.Started) (H : Type) (enc : TypeId × Value → H) :
    ReturnsInHanded {} Try.checked os 10 .any (Rows.unrollSameSpec.pre6 enc Try.prog Try.f10 Rows.unrollSameRow.domain false) (Rows.unrollSameSpec.post enc Try.prog Try.f10 false true false false) := by
  refine returnsInHanded_of_change (C := Try.checked) own started (by kernel_rfl) Try.func10
    (ChangeSpec.witness6 (enc := enc) (C := Try.checked) false ⟨#[], #[.agg #[.int .i64 0, .int .i64 0, .slice none 0 0], .int .i64 0, .int .i64 0, .int .u8 0], []⟩ 8 (by kernel_rfl) (by kernel_rfl) (by kernel_rfl) (by kernel_rfl)) ?_
  intro W base args ds gs before hval0 hW hcnd _
  have hval : ∀ (j : Nat) t v, Try.f10.params[j]? = some t → args[j]? = some v → Value.okWide Try.prog W .any base t v := hval0
  have hW' := hW
  obtain ⟨p, q, hA0, hV, rfl, hfz, hnd⟩ := hW
  have hA : DataW.TrodAll enc Try.prog W 0 (fun _ => true) true Try.f10.params.toList args.toList ds p := hA0
  obtain ⟨xs, hxs, hlen, hR⟩ := open_all (g := 12) _ _ _ _ Go.Av.sh_UnrollSame hA (fun j t v ht hv => hval j t v (by simpa using ht) (by simpa using hv)) shs_eq
  obtain ⟨rfl, rfl⟩ := trodVars_none hV
  have hB := hA
  rw [Try.params10] at hB
  obtain ⟨v0, vs0, d0, ds0, p0, q0, hargs0, rfl, rfl, h0, r0⟩ := trodAll_cons hB
  obtain ⟨v1, vs1, d1, ds1, p1, q1, hargs1, rfl, rfl, h1, r1⟩ := trodAll_cons r0
  obtain ⟨v2, vs2, d2, ds2, p2, q2, hargs2, rfl, rfl, h2, r2⟩ := trodAll_cons r1
  obtain ⟨v3, vs3, d3, ds3, p3, q3, hargs3, rfl, rfl, h3, r3⟩ := trodAll_cons r2
  obtain ⟨rfl, rfl, rfl⟩ := trodAll_nil r3
  refine ((Go.Av.law_UnrollSame xs hxs).2 W (OldS W) args ⟨fun _ h => h, fun g cs hm => by simp [Go.Av.globs] at hm⟩ (by simpa using hlen) (fun i x y h1 h2 => hR i x y h1 (by simpa using h2))).mono ?_
  rintro e W' ⟨v, S', κ', rfl, hv, _, _, _, bel⟩
  rw [hv.v_inv]
  exact ⟨_, rfl, _, _, _, [], _, [], hW', trodAll_mk1 (shut_bool Try.underlying4 _), shut_all laidOut bel _ _ _ _ (fun t ht => by
    have := (List.all_eq_true.1 readable) t ht
    simpa using this) hA, rfl, bel.frame _, fun h => by cases h⟩

theorem unrollSame_holds : Rows.UnrollSameSaid :=
  OpenClaim.holds_of_wide 10 Try.f10 rfl rfl rfl rfl rfl rfl rfl ⟨rfl, rfl, rfl, rfl, rfl⟩ rfl rfl rfl rfl rfl (by kernel_rfl) Try.func10 (by kernel_rfl)
    (of_decide_eq_true (by kernel_rfl)) (by unfold Func.isWrapper; first | (rw [if_pos (by decide +kernel)]; kernel_rfl) | (rw [if_neg (by decide +kernel)]; exact ⟨rfl, rfl⟩))
    (fun os started H enc _ => lifted os started H enc)

end Go.Proofs.Ytoffjeeajdmgfaa
