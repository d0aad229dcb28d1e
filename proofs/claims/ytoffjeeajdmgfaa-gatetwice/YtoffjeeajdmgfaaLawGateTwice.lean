/- Turned it is what it is; for all arguments. -/
import Derived.Test.YtoffjeeajdmgfaaCirX
import Derived.Test.YtoffjeeajdmgfaaRows
import Derived.ProofKit
set_option linter.unusedSimpArgs false
set_option linter.unusedVariables false
set_option maxRecDepth 100000
namespace Go.Av
open Go.Proofs

theorem gateTwice_spec (inn : Int) (l : List Gt) (w : Nat) (hl : (l.length : Int) < 2 ^ 63) (hw : w < 256) :
    CallsA Try.prog 6 [I inn, .ro 3 (l.map encG), .v (.int .u8 w)] (Bo true) [] := by
  obtain ⟨m, hcall, hbad, hgood⟩ := gateTurnP_spec inn l hl
  refine fn_of0 comp6 (by simp) ?_
  unfold code6
  have e00 : ((0 : Int) == 0) = true := by decide
  have n00 : ((0 : Int) != 0) = false := by decide
  have hml : ((m.map encG).length : Int) = m.length := by simp
  simp (maxSteps := 1000000) only [encG, XX, reduceIte, ↓reduceIte, Nat.reduceAdd, Nat.reduceLeDiff, Nat.reduceEqDiff, Nat.reduceLT, Nat.reduceSub, Nat.reduceBEq, forall_const, reduceCtorEq, implies_true, exists_eq_left', exists_eq_left, if_true, if_false, undef]
  refine callA (CallsA.args (hcall) (by simp [encG, XX, undef])) rfl ?_
  simp (maxSteps := 1000000) only [encG, XX, reduceIte, ↓reduceIte, Nat.reduceAdd, Nat.reduceLeDiff, Nat.reduceEqDiff, Nat.reduceLT, Nat.reduceSub, Nat.reduceBEq, forall_const, reduceCtorEq, implies_true, exists_eq_left', exists_eq_left, if_true, if_false, undef]
  refine callF (CallsA.args (gateCheck_spec inn l hl) (by simp [encG, XX, undef])) rfl (by simp [flat, encG, XX, undef]) ?_
  by_cases h0 : gateErr inn l = 0
  rotate_left
  · have f : (gateErr inn l != 0) = true := by simpa using h0
    simp (maxSteps := 1000000) only [f, Bo, encG, XX, reduceIte, ↓reduceIte, Nat.reduceAdd, Nat.reduceLeDiff, Nat.reduceEqDiff, Nat.reduceLT, Nat.reduceSub, Nat.reduceBEq, forall_const, reduceCtorEq, implies_true, exists_eq_left', exists_eq_left, if_true, if_false, undef]
  obtain ⟨hi, h40, hok⟩ := gate_ok h0
  obtain ⟨g1, g2, g3, g4, g5⟩ := hgood h0
  obtain ⟨n, rfl⟩ : ∃ n : Nat, inn = n := ⟨inn.toNat, by omega⟩
  have hn : n ≤ 5 := by omega
  have f1 : ((m.length : Int) == 0) = false := by simp only [beq_eq_false_iff_ne, ne_eq]; omega
  have hcv : IntKind.u64.wrap (n : Int) = (n : Int) := wrap_u64 (by omega) (by omega)
  have hsh := shl_one (show n < 62 by omega)
  have hcw : IntKind.i64.wrap (w : Int) = (w : Int) := by rw [wrap_id] <;> omega
  have hp : 0 < 2 ^ n := Nat.pow_pos (by decide)
  have hmod : (w : Int).tmod ((2 ^ n : Nat) : Int) = ((w % 2 ^ n : Nat) : Int) := by rw [Int.tmod_eq_emod_of_nonneg (by omega)]; simp
  have hk : w % 2 ^ n < 256 := by have := Nat.mod_le w (2 ^ n); omega
  have hb := bits_spec n (w % 2 ^ n) (by omega) (by omega)
  have hbl : (bitsL n (w % 2 ^ n)).length = n := by simp [bitsL]
  have hv := gateValueP_spec n l (bitsL n (w % 2 ^ n)) hl (by omega)
  rw [valueAns, if_neg (by simp [h0]), if_neg (by simp [hbl])] at hv
  have hv2 := gateValueP_spec n m (bitsL n (w % 2 ^ n)) (by omega) (by omega)
  have e : (gval (wordN (bitsL n (w % 2 ^ n))) l == gval (wordN (bitsL n (w % 2 ^ n))) l) = true := by simp
  simp (maxSteps := 1000000) only [h0, n00, hml, f1, hcv, hcw, hsh, hmod, encG, XX, reduceIte, ↓reduceIte, Nat.reduceAdd, Nat.reduceLeDiff, Nat.reduceEqDiff, Nat.reduceLT, Nat.reduceSub, Nat.reduceBEq, forall_const, reduceCtorEq, implies_true, exists_eq_left', exists_eq_left, if_true, if_false, undef]
  refine ⟨by omega, by omega, ?_⟩
  refine callA (CallsA.args (hb ) (by simp [ hmod,encG, XX, undef])) rfl ?_
  simp (maxSteps := 1000000) only [encG, XX, reduceIte, ↓reduceIte, Nat.reduceAdd, Nat.reduceLeDiff, Nat.reduceEqDiff, Nat.reduceLT, Nat.reduceSub, Nat.reduceBEq, forall_const, reduceCtorEq, implies_true, exists_eq_left', exists_eq_left, if_true, if_false, undef]
  refine callA (CallsA.args (hv) (by simp [encG, XX, undef])) rfl ?_
  by_cases h3 : m.length > 40
  · have f3 : decide ((m.length : Int) > 40) = true := by simp; omega
    simp (maxSteps := 1000000) only [n00, e00, hml, f3, Bo, encG, XX, reduceIte, ↓reduceIte, Nat.reduceAdd, Nat.reduceLeDiff, Nat.reduceEqDiff, Nat.reduceLT, Nat.reduceSub, Nat.reduceBEq, forall_const, reduceCtorEq, implies_true, exists_eq_left', exists_eq_left, if_true, if_false, undef]
    exact ⟨_, rfl⟩
  have f3 : decide ((m.length : Int) > 40) = false := by simp; omega
  have hm0 : gateErr (n : Int) m = 0 := by rw [gateErr, if_neg (by omega)]; exact gs_ok.2 g3
  rw [valueAns, if_neg (by simp [hm0]), if_neg (by simp [hbl]), g5] at hv2
  simp (maxSteps := 1000000) only [n00, e00, hml, f3, Bo, encG, XX, reduceIte, ↓reduceIte, Nat.reduceAdd, Nat.reduceLeDiff, Nat.reduceEqDiff, Nat.reduceLT, Nat.reduceSub, Nat.reduceBEq, forall_const, reduceCtorEq, implies_true, exists_eq_left', exists_eq_left, if_true, if_false, undef]
  refine callA (CallsA.args (hb ) (by simp [ hmod,encG, XX, undef])) rfl ?_
  simp (maxSteps := 1000000) only [encG, XX, reduceIte, ↓reduceIte, Nat.reduceAdd, Nat.reduceLeDiff, Nat.reduceEqDiff, Nat.reduceLT, Nat.reduceSub, Nat.reduceBEq, forall_const, reduceCtorEq, implies_true, exists_eq_left', exists_eq_left, if_true, if_false, undef]
  refine callA (CallsA.args (hv2) (by simp [encG, XX, undef])) rfl ?_
  simp (maxSteps := 1000000) only [e00, e, Bo, encG, XX, reduceIte, ↓reduceIte, Nat.reduceAdd, Nat.reduceLeDiff, Nat.reduceEqDiff, Nat.reduceLT, Nat.reduceSub, Nat.reduceBEq, forall_const, reduceCtorEq, implies_true, exists_eq_left', exists_eq_left, if_true, if_false, undef]

def sh_GateTwice : List Sh := [.int .i64, shGates, .int .u8]
theorem law_GateTwice (xs : List AV) (h : HasAll sh_GateTwice xs) : CallsA Try.prog 6 xs (.v (.bool true)) [] := by
  obtain ⟨x, r, rfl, hx, y, r, rfl, hy, z, r, rfl, hz, rfl⟩ := h
  obtain ⟨c, rfl, _⟩ := hasInt hx
  obtain ⟨l, rfl, hl⟩ := hasGates hy
  obtain ⟨k, rfl, hk⟩ := hasInt hz
  have hk := u8_range hk
  obtain ⟨w, rfl⟩ : ∃ w : Nat, k = w := ⟨k.toNat, by omega⟩
  exact gateTwice_spec c l w hl (by omega)

end Go.Av
namespace Go.Proofs.Ytoffjeeajdmgfaa
open Go.ChangeShapes Go.WideShapes Go.ChangeAt Go.RowKit
open Go.Av (open_all shut_all OldS HasAll Sh CallsA shAll)

theorem own : ownKnob Try.prog.godebug = none := by kernel_rfl
theorem laidOut : laidOutB Try.prog = true := by kernel_rfl
theorem shs_eq : shAll Try.prog 12 Try.f6.params.toList = some Go.Av.sh_GateTwice := by kernel_rfl
theorem readable : (Try.f6.params.toList.all fun t => Try.prog.readableRec t && decide (t < Try.prog.types.size)) = true := by kernel_rfl

theorem lifted (os : Os) (started : os.Started) (H : Type) (enc : TypeId × Value → H) :
    ReturnsInHanded {} Try.checked os 6 .any (Rows.gateTwiceSpec.pre6 enc Try.prog Try.f6 Rows.gateTwiceRow.domain false) (Rows.gateTwiceSpec.post enc Try.prog Try.f6 false true false false) := by
  refine returnsInHanded_of_change (C := Try.checked) own started (by kernel_rfl) Try.func6
    (ChangeSpec.witness6 (enc := enc) (C := Try.checked) false ⟨#[], #[.int .i64 0, .slice none 0 0, .int .u8 0], []⟩ 8 (by kernel_rfl) (by kernel_rfl) (by kernel_rfl) (by kernel_rfl)) ?_
  intro W base args ds gs before hval0 hW hcnd _
  have hval : ∀ (j : Nat) t v, Try.f6.params[j]? = some t → args[j]? = some v → Value.okWide Try.prog W .any base t v := hval0
  have hW' := hW
  obtain ⟨p, q, hA0, hV, rfl, hfz, hnd⟩ := hW
  have hA : DataW.TrodAll enc Try.prog W 0 (fun _ => true) true Try.f6.params.toList args.toList ds p := hA0
  obtain ⟨xs, hxs, hlen, hR⟩ := open_all (g := 12) _ _ _ _ Go.Av.sh_GateTwice hA (fun j t v ht hv => hval j t v (by simpa using ht) (by simpa using hv)) shs_eq
  obtain ⟨rfl, rfl⟩ := trodVars_none hV
  have hB := hA
  rw [Try.params6] at hB
  obtain ⟨v0, vs0, d0, ds0, p0, q0, hargs0, rfl, rfl, h0, r0⟩ := trodAll_cons hB
  obtain ⟨v1, vs1, d1, ds1, p1, q1, hargs1, rfl, rfl, h1, r1⟩ := trodAll_cons r0
  obtain ⟨v2, vs2, d2, ds2, p2, q2, hargs2, rfl, rfl, h2, r2⟩ := trodAll_cons r1
  obtain ⟨rfl, rfl, rfl⟩ := trodAll_nil r2
  refine ((Go.Av.law_GateTwice xs hxs).2 W (OldS W) args ⟨fun _ h => h, fun g cs hm => by simp [Go.Av.globs] at hm⟩ (by simpa using hlen) (fun i x y h1 h2 => hR i x y h1 (by simpa using h2))).mono ?_
  rintro e W' ⟨v, S', κ', rfl, hv, _, _, _, bel⟩
  rw [hv.v_inv]
  exact ⟨_, rfl, _, _, _, [], _, [], hW', trodAll_mk1 (shut_bool Try.underlying4 _), shut_all laidOut bel _ _ _ _ (fun t ht => by
    have := (List.all_eq_true.1 readable) t ht
    simpa using this) hA, rfl, bel.frame _, fun h => by cases h⟩

theorem gateTwice_holds : Rows.GateTwiceSaid :=
  OpenClaim.holds_of_wide 6 Try.f6 rfl rfl rfl rfl rfl rfl rfl ⟨rfl, rfl, rfl, rfl, rfl⟩ rfl rfl rfl rfl rfl (by kernel_rfl) Try.func6 (by kernel_rfl)
    (of_decide_eq_true (by kernel_rfl)) (by unfold Func.isWrapper; first | (rw [if_pos (by decide +kernel)]; kernel_rfl) | (rw [if_neg (by decide +kernel)]; exact ⟨rfl, rfl⟩))
    (fun os started H enc _ => lifted os started H enc)

end Go.Proofs.Ytoffjeeajdmgfaa
