/- The circuit that is built for a table has this table; for all arguments. -/
import Derived.Test.YtoffjeeajdmgfaaCirW
import Derived.Test.YtoffjeeajdmgfaaRows
import Derived.ProofKit
set_option linter.unusedSimpArgs false
set_option linter.unusedVariables false
set_option maxRecDepth 100000
namespace Go.Av
open Go.Proofs

theorem hasTableS {x : AV} (h : Has (.slice 1 .bool) x) : ∃ l : List Bool, x = .ro 1 (l.map Bo) ∧ (l.length : Int) < 2 ^ 63 := by
  cases h with
  | slice hl hh =>
    obtain ⟨l, rfl⟩ := listOf (enc := Bo) (fun i x hx => by cases hh i x hx with | bool b => exact ⟨b, rfl⟩)
    refine ⟨l, rfl, ?_⟩
    simp only [List.length_map] at hl
    have : maxLen < 2 ^ 63 := by decide
    omega

theorem gateShannon_spec (inn : Int) (t : List Bool) (w : Nat) (ht : (t.length : Int) < 2 ^ 63) (hw : w < 256) :
    CallsA Try.prog 5 [I inn, .ro 1 (t.map Bo), .v (.int .u8 w)] (Bo true) [] := by
  obtain ⟨l, hcall, hbad, hgood⟩ := gateBuildP_spec inn t ht
  refine fn_of0 comp5 (by simp) ?_
  unfold code5
  have e00 : ((0 : Int) == 0) = true := by decide
  have n00 : ((0 : Int) != 0) = false := by decide
  have hll : ((l.map encG).length : Int) = l.length := by simp
  have htt : ((t.map Bo).length : Int) = t.length := by simp
  simp (maxSteps := 1000000) only [encG, XX, reduceIte, ↓reduceIte, Nat.reduceAdd, Nat.reduceLeDiff, Nat.reduceEqDiff, Nat.reduceLT, Nat.reduceSub, Nat.reduceBEq, forall_const, reduceCtorEq, implies_true, exists_eq_left', exists_eq_left, if_true, if_false, undef]
  refine callA (CallsA.args (hcall) (by simp [encG, XX, undef])) rfl ?_
  by_cases h0 : bldErr inn t = 0
  rotate_left
  · have f : (bldErr inn t != 0) = true := by simpa using h0
    obtain rfl := hbad h0
    simp (maxSteps := 1000000) only [f, e00, List.map_nil, List.length_nil, Int.ofNat_eq_natCast, Int.natCast_zero, Bo, encG, XX, reduceIte, ↓reduceIte, Nat.reduceAdd, Nat.reduceLeDiff, Nat.reduceEqDiff, Nat.reduceLT, Nat.reduceSub, Nat.reduceBEq, forall_const, reduceCtorEq, implies_true, exists_eq_left', exists_eq_left, if_true, if_false, undef]
    try rfl
  obtain ⟨g1, g2, g3, g4⟩ := hgood h0
  have hb5 : 1 ≤ inn ∧ inn ≤ 5 := by
    rw [bldErr] at h0
    split at h0
    · omega
    · omega
  obtain ⟨n, rfl⟩ : ∃ n : Nat, inn = n := ⟨inn.toNat, by omega⟩
  have h2 : t.length = 2 ^ n := by
    rw [bldErr, if_neg (by omega)] at h0
    split at h0
    · omega
    · rename_i hh; simpa using hh
  have hn : n ≤ 5 := by omega
  have hp5 : 2 ^ n ≤ 2 ^ 5 := Nat.pow_le_pow_right (by decide) hn
  have hp0 : 0 < 2 ^ n := Nat.pow_pos (by decide)
  have hp5' : 2 ^ n ≤ 32 := hp5
  have f1 : ((l.length : Int) == 0) = false := by simp only [beq_eq_false_iff_ne, ne_eq]; omega
  have f2 : decide ((n : Int) < 1) = false := by simp; omega
  have hcv : IntKind.u64.wrap (n : Int) = (n : Int) := wrap_u64 (by omega) (by omega)
  have hsh := shl_one (show n < 62 by omega)
  have f3 : ((t.length : Int) != ((2 ^ n : Nat) : Int)) = false := by simp only [bne_eq_false_iff_eq]; omega
  have hcw : IntKind.i64.wrap (w : Int) = (w : Int) := by rw [wrap_id] <;> omega
  have hmod : (w : Int).tmod (t.length : Int) = ((w % t.length : Nat) : Int) := by rw [Int.tmod_eq_emod_of_nonneg (by omega)]; simp
  have hk : w % t.length < t.length := Nat.mod_lt _ (by omega)
  have hgv := g4 _ hk
  have hpick : ∀ {K : AV → Prop}, K (Bo (t[w % t.length])) → Pick (t.map Bo) (((w % t.length : Nat) : Int)).toNat K := fun hK => pickM hk hK
  generalize w % t.length = k at *
  have hgl := gval_get (w := k) (l := l) g1
  have wl : IntKind.i64.wrap ((l.length : Int) - 1) = ((l.length - 1 : Nat) : Int) := by rw [wrap_id] <;> omega
  have hgs := gatesCheck_spec n l (by omega)
  rw [gs_ok.2 g3] at hgs
  have hbs := bits_spec n k (by omega) (by omega)
  have hbl : (bitsL n k).length = n := by simp [bitsL]
  have hvb : gval (wordN (bitsL n k)) l = t[k] := by
    rw [← hgv]
    exact gval_bits g3 (fun i hi => wordN_bits (by omega))
  have e : (t[k] == t[k]) = true := by simp
  rw [hgv] at hgl
  rw [h0]
  by_cases h40 : l.length > 40
  · have f4 : decide ((l.length : Int) > 40) = true := by simp; omega
    simp (maxSteps := 1000000) only [n00, hll, htt, f1, f2, f3, f4, hcv, hcw, hsh, hmod, encG, XX, reduceIte, ↓reduceIte, Nat.reduceAdd, Nat.reduceLeDiff, Nat.reduceEqDiff, Nat.reduceLT, Nat.reduceSub, Nat.reduceBEq, forall_const, reduceCtorEq, implies_true, exists_eq_left', exists_eq_left, if_true, if_false, undef]
    refine ⟨by omega, by omega, ?_⟩
    refine callXd (CallsA.args (hgs) (by simp [encG, XX, undef])) rfl (by simp [flat, encG, XX, undef]) (by simp [encG, XX, undef]) ?_
    simp (maxSteps := 1000000) only [e00, hmod, encG, XX, reduceIte, ↓reduceIte, Nat.reduceAdd, Nat.reduceLeDiff, Nat.reduceEqDiff, Nat.reduceLT, Nat.reduceSub, Nat.reduceBEq, forall_const, reduceCtorEq, implies_true, exists_eq_left', exists_eq_left, if_true, if_false, undef]
    refine callD (CallsA.args (gates_spec k n l (by omega) (by omega) g3 (by omega) ) (by simp [ hmod,encG, XX, undef])) rfl (by simp [flat, encG, XX, undef]) (by simp [encG, XX, undef]) ?_
    simp (maxSteps := 1000000) only [hll, wl, hmod, encG, XX, reduceIte, ↓reduceIte, Nat.reduceAdd, Nat.reduceLeDiff, Nat.reduceEqDiff, Nat.reduceLT, Nat.reduceSub, Nat.reduceBEq, forall_const, reduceCtorEq, implies_true, exists_eq_left', exists_eq_left, if_true, if_false, undef]
    refine ⟨by omega, Pick.mk (Bo t[k]) (by rw [Int.toNat_natCast]; exact hgl) ?_⟩
    simp (maxSteps := 1000000) only [hmod, encG, XX, reduceIte, ↓reduceIte, Nat.reduceAdd, Nat.reduceLeDiff, Nat.reduceEqDiff, Nat.reduceLT, Nat.reduceSub, Nat.reduceBEq, forall_const, reduceCtorEq, implies_true, exists_eq_left', exists_eq_left, if_true, if_false, undef]
    refine ⟨by omega, hpick ?_⟩
    simp (maxSteps := 1000000) only [e, Bo, Option.toList_some, Option.toList_none, encG, XX, reduceIte, ↓reduceIte, Nat.reduceAdd, Nat.reduceLeDiff, Nat.reduceEqDiff, Nat.reduceLT, Nat.reduceSub, Nat.reduceBEq, forall_const, reduceCtorEq, implies_true, exists_eq_left', exists_eq_left, if_true, if_false, undef]
  · have f4 : decide ((l.length : Int) > 40) = false := by simp; omega
    have hl0 : gateErr (n : Int) l = 0 := by rw [gateErr, if_neg (by omega)]; exact gs_ok.2 g3
    have hv := gateValueP_spec n l (bitsL n k) (by omega) (by omega)
    rw [valueAns, if_neg (by simp [hl0]), if_neg (by simp [hbl]), hvb] at hv
    simp (maxSteps := 1000000) only [n00, hll, htt, f1, f2, f3, f4, hcv, hcw, hsh, hmod, encG, XX, reduceIte, ↓reduceIte, Nat.reduceAdd, Nat.reduceLeDiff, Nat.reduceEqDiff, Nat.reduceLT, Nat.reduceSub, Nat.reduceBEq, forall_const, reduceCtorEq, implies_true, exists_eq_left', exists_eq_left, if_true, if_false, undef]
    refine ⟨by omega, by omega, ?_⟩
    refine callA (CallsA.args (hbs ) (by simp [ hmod,encG, XX, undef])) rfl ?_
    simp (maxSteps := 1000000) only [encG, XX, reduceIte, ↓reduceIte, Nat.reduceAdd, Nat.reduceLeDiff, Nat.reduceEqDiff, Nat.reduceLT, Nat.reduceSub, Nat.reduceBEq, forall_const, reduceCtorEq, implies_true, exists_eq_left', exists_eq_left, if_true, if_false, undef]
    refine callA (CallsA.args (hv) (by simp [encG, XX, undef])) rfl ?_
    simp (maxSteps := 1000000) only [e00, hmod, encG, XX, reduceIte, ↓reduceIte, Nat.reduceAdd, Nat.reduceLeDiff, Nat.reduceEqDiff, Nat.reduceLT, Nat.reduceSub, Nat.reduceBEq, forall_const, reduceCtorEq, implies_true, exists_eq_left', exists_eq_left, if_true, if_false, undef]
    refine ⟨by omega, hpick ?_⟩
    simp (maxSteps := 1000000) only [e, Bo, encG, XX, reduceIte, ↓reduceIte, Nat.reduceAdd, Nat.reduceLeDiff, Nat.reduceEqDiff, Nat.reduceLT, Nat.reduceSub, Nat.reduceBEq, forall_const, reduceCtorEq, implies_true, exists_eq_left', exists_eq_left, if_true, if_false, undef]

def sh_GateShannon : List Sh := [.int .i64, .slice 1 .bool, .int .u8]
theorem law_GateShannon (xs : List AV) (h : HasAll sh_GateShannon xs) : CallsA Try.prog 5 xs (.v (.bool true)) [] := by
  obtain ⟨x, r, rfl, hx, y, r, rfl, hy, z, r, rfl, hz, rfl⟩ := h
  obtain ⟨c, rfl, _⟩ := hasInt hx
  obtain ⟨l, rfl, hl⟩ := hasTableS hy
  obtain ⟨k, rfl, hk⟩ := hasInt hz
  have hk := u8_range hk
  obtain ⟨w, rfl⟩ : ∃ w : Nat, k = w := ⟨k.toNat, by omega⟩
  exact gateShannon_spec c l w hl (by omega)

end Go.Av
namespace Go.Proofs.Ytoffjeeajdmgfaa
open Go.ChangeShapes Go.WideShapes Go.ChangeAt Go.RowKit
open Go.Av (open_all shut_all OldS HasAll Sh CallsA shAll)

theorem own : ownKnob Try.prog.godebug = none := by kernel_rfl
theorem laidOut : laidOutB Try.prog = true := by kernel_rfl
theorem shs_eq : shAll Try.prog 12 Try.f5.params.toList = some Go.Av.sh_GateShannon := by kernel_rfl
theorem readable : (Try.f5.params.toList.all fun t => Try.prog.readableRec t && decide (t < Try.prog.types.size)) = true := by kernel_rfl

theorem lifted (os : Os) (started : os.Started) (H : Type) (enc : TypeId × Value → H) :
    ReturnsInHanded {} Try.checked os 5 .any (Rows.gateShannonSpec.pre6 enc Try.prog Try.f5 Rows.gateShannonRow.domain false) (Rows.gateShannonSpec.post enc Try.prog Try.f5 false true false false) := by
  refine returnsInHanded_of_change (C := Try.checked) own started (by kernel_rfl) Try.func5
    (ChangeSpec.witness6 (enc := enc) (C := Try.checked) false ⟨#[], #[.int .i64 0, .slice none 0 0, .int .u8 0], []⟩ 8 (by kernel_rfl) (by kernel_rfl) (by kernel_rfl) (by kernel_rfl)) ?_
  intro W base args ds gs before hval0 hW hcnd _
  have hval : ∀ (j : Nat) t v, Try.f5.params[j]? = some t → args[j]? = some v → Value.okWide Try.prog W .any base t v := hval0
  have hW' := hW
  obtain ⟨p, q, hA0, hV, rfl, hfz, hnd⟩ := hW
  have hA : DataW.TrodAll enc Try.prog W 0 (fun _ => true) true Try.f5.params.toList args.toList ds p := hA0
  obtain ⟨xs, hxs, hlen, hR⟩ := open_all (g := 12) _ _ _ _ Go.Av.sh_GateShannon hA (fun j t v ht hv => hval j t v (by simpa using ht) (by simpa using hv)) shs_eq
  obtain ⟨rfl, rfl⟩ := trodVars_none hV
  have hB := hA
  rw [Try.params5] at hB
  obtain ⟨v0, vs0, d0, ds0, p0, q0, hargs0, rfl, rfl, h0, r0⟩ := trodAll_cons hB
  obtain ⟨v1, vs1, d1, ds1, p1, q1, hargs1, rfl, rfl, h1, r1⟩ := trodAll_cons r0
  obtain ⟨v2, vs2, d2, ds2, p2, q2, hargs2, rfl, rfl, h2, r2⟩ := trodAll_cons r1
  obtain ⟨rfl, rfl, rfl⟩ := trodAll_nil r2
  refine ((Go.Av.law_GateShannon xs hxs).2 W (OldS W) args ⟨fun _ h => h, fun g cs hm => by simp [Go.Av.globs] at hm⟩ (by simpa using hlen) (fun i x y h1 h2 => hR i x y h1 (by simpa using h2))).mono ?_
  rintro e W' ⟨v, S', κ', rfl, hv, _, _, _, bel⟩
  rw [hv.v_inv]
  exact ⟨_, rfl, _, _, _, [], _, [], hW', trodAll_mk1 (shut_bool Try.underlying4 _), shut_all laidOut bel _ _ _ _ (fun t ht => by
    have := (List.all_eq_true.1 readable) t ht
    simpa using this) hA, rfl, bel.frame _, fun h => by cases h⟩

theorem gateShannon_holds : Rows.GateShannonSaid :=
  OpenClaim.holds_of_wide 5 Try.f5 rfl rfl rfl rfl rfl rfl rfl ⟨rfl, rfl, rfl, rfl, rfl⟩ rfl rfl rfl rfl rfl (by kernel_rfl) Try.func5 (by kernel_rfl)
    (of_decide_eq_true (by kernel_rfl)) (by unfold Func.isWrapper; first | (rw [if_pos (by decide +kernel)]; kernel_rfl) | (rw [if_neg (by decide +kernel)]; exact ⟨rfl, rfl⟩))
    (fun os started H enc _ => lifted os started H enc)

end Go.Proofs.Ytoffjeeajdmgfaa
