/- A circuit's value is the document's; for all arguments. -/
import Derived.Test.YtelcipdpfoipiaaGateP
import Derived.Test.YtelcipdpfoipiaaRows
import Derived.ProofKit
set_option linter.unusedSimpArgs false
set_option linter.unusedVariables false
set_option maxRecDepth 100000
namespace Go.Av
open Go.Proofs

theorem hasHave {x : AV} (h : Has (.slice 1 .bool) x) : ∃ l : List Bool, x = .ro 1 (l.map Bo) ∧ (l.length : Int) < 2 ^ 63 := by
  cases h with
  | slice hl hh =>
    obtain ⟨l, rfl⟩ := listOf (enc := Bo) (fun i x hx => by cases hh i x hx with | bool b => exact ⟨b, rfl⟩)
    refine ⟨l, rfl, ?_⟩
    simp only [List.length_map] at hl
    have : maxLen < 2 ^ 63 := by decide
    omega

theorem gateValues_spec (inn : Int) (l : List Gt) (v : List Bool) (hl : (l.length : Int) < 2 ^ 63) (hv : (v.length : Int) < 2 ^ 63) : CallsA Try.prog 4 [I inn, .ro 3 (l.map encG), .ro 1 (v.map Bo)] (Bo true) [] := by
  refine fn_of0 comp4 (by simp) ?_
  unfold code4
  have e00 : ((0 : Int) == 0) = true := by decide
  have n00 : ((0 : Int) != 0) = false := by decide
  have n30 : ((3 : Int) != 0) = true := by decide
  have e33 : ((3 : Int) == 3) = true := by decide
  have hll : ((l.map encG).length : Int) = l.length := by simp
  have hvv : ((v.map Bo).length : Int) = v.length := by simp
  have hck := gateCheck_spec inn l hl
  simp (maxSteps := 1000000) only [encG, EA, EB, EC, ED, EE, EF, EG, EH, EI, XA, XB, XC, XD, XE, XF, XG, XH, XI, XJ, XK, XL, XM, XN, reduceIte, ↓reduceIte, Nat.reduceAdd, Nat.reduceLeDiff, Nat.reduceEqDiff, Nat.reduceLT, Nat.reduceSub, Nat.reduceBEq, forall_const, reduceCtorEq, implies_true, exists_eq_left', exists_eq_left, if_true, if_false, undef]
  refine callA (CallsA.args (gateValueP_spec inn l v hl hv) (by simp [encG, EA, EB, EC, ED, EE, EF, EG, EH, EI, XA, XB, XC, XD, XE, XF, XG, XH, XI, XJ, XK, XL, XM, XN, reduceIte, ↓reduceIte, Nat.reduceAdd, Nat.reduceLeDiff, Nat.reduceEqDiff, Nat.reduceLT, Nat.reduceSub, Nat.reduceBEq, forall_const, reduceCtorEq, implies_true, exists_eq_left', exists_eq_left, if_true, if_false, undef])) rfl ?_
  by_cases hc : gateErr inn l = 0
  rotate_left
  · have f0 : (gateErr inn l == 0) = false := by simpa using hc
    have f1 : (gateErr inn l != 0) = true := by simpa using hc
    have e : (gateErr inn l == gateErr inn l) = true := by simp
    rw [valueAns, if_pos hc]
    simp (maxSteps := 1000000) only [encG, EA, EB, EC, ED, EE, EF, EG, EH, EI, XA, XB, XC, XD, XE, XF, XG, XH, XI, XJ, XK, XL, XM, XN, reduceIte, ↓reduceIte, Nat.reduceAdd, Nat.reduceLeDiff, Nat.reduceEqDiff, Nat.reduceLT, Nat.reduceSub, Nat.reduceBEq, forall_const, reduceCtorEq, implies_true, exists_eq_left', exists_eq_left, if_true, if_false, undef]
    refine callF (CallsA.args (hck) (by simp [encG, EA, EB, EC, ED, EE, EF, EG, EH, EI, XA, XB, XC, XD, XE, XF, XG, XH, XI, XJ, XK, XL, XM, XN, reduceIte, ↓reduceIte, Nat.reduceAdd, Nat.reduceLeDiff, Nat.reduceEqDiff, Nat.reduceLT, Nat.reduceSub, Nat.reduceBEq, forall_const, reduceCtorEq, implies_true, exists_eq_left', exists_eq_left, if_true, if_false, undef])) rfl (by simp [flat, encG, EA, EB, EC, ED, EE, EF, EG, EH, EI, XA, XB, XC, XD, XE, XF, XG, XH, XI, XJ, XK, XL, XM, XN, reduceIte, ↓reduceIte, Nat.reduceAdd, Nat.reduceLeDiff, Nat.reduceEqDiff, Nat.reduceLT, Nat.reduceSub, Nat.reduceBEq, forall_const, reduceCtorEq, implies_true, exists_eq_left', exists_eq_left, if_true, if_false, undef]) ?_
    simp (maxSteps := 1000000) only [f0, f1, e, e00, Bo, encG, EA, EB, EC, ED, EE, EF, EG, EH, EI, XA, XB, XC, XD, XE, XF, XG, XH, XI, XJ, XK, XL, XM, XN, reduceIte, ↓reduceIte, Nat.reduceAdd, Nat.reduceLeDiff, Nat.reduceEqDiff, Nat.reduceLT, Nat.reduceSub, Nat.reduceBEq, forall_const, reduceCtorEq, implies_true, exists_eq_left', exists_eq_left, if_true, if_false, undef]
    done
  obtain ⟨h1, h2, h3⟩ := gate_ok hc
  rw [hc] at hck
  by_cases hn : (v.length : Int) = inn
  rotate_left
  · have f1 : ((v.length : Int) != inn) = true := by simpa using hn
    rw [valueAns, if_neg (by simp [hc]), if_pos hn]
    simp (maxSteps := 1000000) only [encG, EA, EB, EC, ED, EE, EF, EG, EH, EI, XA, XB, XC, XD, XE, XF, XG, XH, XI, XJ, XK, XL, XM, XN, reduceIte, ↓reduceIte, Nat.reduceAdd, Nat.reduceLeDiff, Nat.reduceEqDiff, Nat.reduceLT, Nat.reduceSub, Nat.reduceBEq, forall_const, reduceCtorEq, implies_true, exists_eq_left', exists_eq_left, if_true, if_false, undef]
    refine callF (CallsA.args (hck) (by simp [encG, EA, EB, EC, ED, EE, EF, EG, EH, EI, XA, XB, XC, XD, XE, XF, XG, XH, XI, XJ, XK, XL, XM, XN, reduceIte, ↓reduceIte, Nat.reduceAdd, Nat.reduceLeDiff, Nat.reduceEqDiff, Nat.reduceLT, Nat.reduceSub, Nat.reduceBEq, forall_const, reduceCtorEq, implies_true, exists_eq_left', exists_eq_left, if_true, if_false, undef])) rfl (by simp [flat, encG, EA, EB, EC, ED, EE, EF, EG, EH, EI, XA, XB, XC, XD, XE, XF, XG, XH, XI, XJ, XK, XL, XM, XN, reduceIte, ↓reduceIte, Nat.reduceAdd, Nat.reduceLeDiff, Nat.reduceEqDiff, Nat.reduceLT, Nat.reduceSub, Nat.reduceBEq, forall_const, reduceCtorEq, implies_true, exists_eq_left', exists_eq_left, if_true, if_false, undef]) ?_
    simp (maxSteps := 1000000) only [hvv, f1, e00, n30, e33, Bo, encG, EA, EB, EC, ED, EE, EF, EG, EH, EI, XA, XB, XC, XD, XE, XF, XG, XH, XI, XJ, XK, XL, XM, XN, reduceIte, ↓reduceIte, Nat.reduceAdd, Nat.reduceLeDiff, Nat.reduceEqDiff, Nat.reduceLT, Nat.reduceSub, Nat.reduceBEq, forall_const, reduceCtorEq, implies_true, exists_eq_left', exists_eq_left, if_true, if_false, undef]
    done
  have f1 : ((v.length : Int) != inn) = false := by simpa using hn
  have w1 : IntKind.i64.wrap ((l.length : Int) - 1) = ((l.length - 1 : Nat) : Int) := by rw [wrap_id] <;> omega
  have hg := gval_get (w := wordN v) (l := l) h2.1
  have hw : wordN v < 2 ^ 62 := Nat.lt_of_lt_of_le (wordN_lt v) (Nat.pow_le_pow_right (by decide) (by omega))
  have e : (gval (wordN v) l == gval (wordN v) l) = true := by simp
  rw [valueAns, if_neg (by simp [hc]), if_neg (by simp [hn])]
  simp (maxSteps := 1000000) only [encG, EA, EB, EC, ED, EE, EF, EG, EH, EI, XA, XB, XC, XD, XE, XF, XG, XH, XI, XJ, XK, XL, XM, XN, reduceIte, ↓reduceIte, Nat.reduceAdd, Nat.reduceLeDiff, Nat.reduceEqDiff, Nat.reduceLT, Nat.reduceSub, Nat.reduceBEq, forall_const, reduceCtorEq, implies_true, exists_eq_left', exists_eq_left, if_true, if_false, undef]
  refine callF (CallsA.args (hck) (by simp [encG, EA, EB, EC, ED, EE, EF, EG, EH, EI, XA, XB, XC, XD, XE, XF, XG, XH, XI, XJ, XK, XL, XM, XN, reduceIte, ↓reduceIte, Nat.reduceAdd, Nat.reduceLeDiff, Nat.reduceEqDiff, Nat.reduceLT, Nat.reduceSub, Nat.reduceBEq, forall_const, reduceCtorEq, implies_true, exists_eq_left', exists_eq_left, if_true, if_false, undef])) rfl (by simp [flat, encG, EA, EB, EC, ED, EE, EF, EG, EH, EI, XA, XB, XC, XD, XE, XF, XG, XH, XI, XJ, XK, XL, XM, XN, reduceIte, ↓reduceIte, Nat.reduceAdd, Nat.reduceLeDiff, Nat.reduceEqDiff, Nat.reduceLT, Nat.reduceSub, Nat.reduceBEq, forall_const, reduceCtorEq, implies_true, exists_eq_left', exists_eq_left, if_true, if_false, undef]) ?_
  simp (maxSteps := 1000000) only [hvv, f1, n00, e00, encG, EA, EB, EC, ED, EE, EF, EG, EH, EI, XA, XB, XC, XD, XE, XF, XG, XH, XI, XJ, XK, XL, XM, XN, reduceIte, ↓reduceIte, Nat.reduceAdd, Nat.reduceLeDiff, Nat.reduceEqDiff, Nat.reduceLT, Nat.reduceSub, Nat.reduceBEq, forall_const, reduceCtorEq, implies_true, exists_eq_left', exists_eq_left, if_true, if_false, undef]
  refine callA (CallsA.args (word_spec v (by omega)) (by simp [encG, EA, EB, EC, ED, EE, EF, EG, EH, EI, XA, XB, XC, XD, XE, XF, XG, XH, XI, XJ, XK, XL, XM, XN, reduceIte, ↓reduceIte, Nat.reduceAdd, Nat.reduceLeDiff, Nat.reduceEqDiff, Nat.reduceLT, Nat.reduceSub, Nat.reduceBEq, forall_const, reduceCtorEq, implies_true, exists_eq_left', exists_eq_left, if_true, if_false, undef])) rfl ?_
  simp (maxSteps := 1000000) only [encG, EA, EB, EC, ED, EE, EF, EG, EH, EI, XA, XB, XC, XD, XE, XF, XG, XH, XI, XJ, XK, XL, XM, XN, reduceIte, ↓reduceIte, Nat.reduceAdd, Nat.reduceLeDiff, Nat.reduceEqDiff, Nat.reduceLT, Nat.reduceSub, Nat.reduceBEq, forall_const, reduceCtorEq, implies_true, exists_eq_left', exists_eq_left, if_true, if_false, undef]
  refine callA (CallsA.args (gates_spec (wordN v) inn l hw (by omega) h3 (by omega)) (by simp [encG, EA, EB, EC, ED, EE, EF, EG, EH, EI, XA, XB, XC, XD, XE, XF, XG, XH, XI, XJ, XK, XL, XM, XN, reduceIte, ↓reduceIte, Nat.reduceAdd, Nat.reduceLeDiff, Nat.reduceEqDiff, Nat.reduceLT, Nat.reduceSub, Nat.reduceBEq, forall_const, reduceCtorEq, implies_true, exists_eq_left', exists_eq_left, if_true, if_false, undef])) rfl ?_
  simp (maxSteps := 1000000) only [hll, w1, encG, EA, EB, EC, ED, EE, EF, EG, EH, EI, XA, XB, XC, XD, XE, XF, XG, XH, XI, XJ, XK, XL, XM, XN, reduceIte, ↓reduceIte, Nat.reduceAdd, Nat.reduceLeDiff, Nat.reduceEqDiff, Nat.reduceLT, Nat.reduceSub, Nat.reduceBEq, forall_const, reduceCtorEq, implies_true, exists_eq_left', exists_eq_left, if_true, if_false, undef]
  refine ⟨by omega, Pick.mk (Bo (gval (wordN v) l)) (by rw [Int.toNat_natCast]; exact hg) ?_⟩
  simp (maxSteps := 1000000) only [e, Bo, encG, EA, EB, EC, ED, EE, EF, EG, EH, EI, XA, XB, XC, XD, XE, XF, XG, XH, XI, XJ, XK, XL, XM, XN, reduceIte, ↓reduceIte, Nat.reduceAdd, Nat.reduceLeDiff, Nat.reduceEqDiff, Nat.reduceLT, Nat.reduceSub, Nat.reduceBEq, forall_const, reduceCtorEq, implies_true, exists_eq_left', exists_eq_left, if_true, if_false, undef]

def sh_GateValues : List Sh := [.int .i64, shGates, .slice 1 .bool]
theorem law_GateValues (xs : List AV) (h : HasAll sh_GateValues xs) : CallsA Try.prog 4 xs (.v (.bool true)) [] := by
  obtain ⟨x, r, rfl, hx, y, r, rfl, hy, z, r, rfl, hz, rfl⟩ := h
  obtain ⟨c, rfl, _⟩ := hasInt hx
  obtain ⟨l, rfl, hl⟩ := hasGates hy
  obtain ⟨v, rfl, hv⟩ := hasHave hz
  exact gateValues_spec c l v hl hv

end Go.Av
namespace Go.Proofs.Ytelcipdpfoipiaa
open Go.ChangeShapes Go.WideShapes Go.ChangeAt Go.RowKit
open Go.Av (open_all shut_all OldS HasAll Sh CallsA shAll)

theorem own : ownKnob Try.prog.godebug = none := by kernel_rfl
theorem laidOut : laidOutB Try.prog = true := by kernel_rfl
theorem shs_eq : shAll Try.prog 12 Try.f4.params.toList = some Go.Av.sh_GateValues := by kernel_rfl
theorem readable : (Try.f4.params.toList.all fun t => Try.prog.readableRec t && decide (t < Try.prog.types.size)) = true := by kernel_rfl

theorem lifted (os : Os) (started : os.Started) (H : Type) (enc : TypeId × Value → H) :
    ReturnsInHanded {} Try.checked os 4 .any (Rows.gateValuesSpec.pre6 enc Try.prog Try.f4 Rows.gateValuesRow.domain false) (Rows.gateValuesSpec.post enc Try.prog Try.f4 false true false false) := by
  refine returnsInHanded_of_change (C := Try.checked) own started (by kernel_rfl) Try.func4
    (ChangeSpec.witness6 (enc := enc) (C := Try.checked) false ⟨#[], #[.int .i64 0, .slice none 0 0, .slice none 0 0], []⟩ 8 (by kernel_rfl) (by kernel_rfl) (by kernel_rfl) (by kernel_rfl)) ?_
  intro W base args ds gs before hval0 hW hcnd _
  have hval : ∀ (j : Nat) t v, Try.f4.params[j]? = some t → args[j]? = some v → Value.okWide Try.prog W .any base t v := hval0
  have hW' := hW
  obtain ⟨p, q, hA0, hV, rfl, hfz, hnd⟩ := hW
  have hA : DataW.TrodAll enc Try.prog W 0 (fun _ => true) true Try.f4.params.toList args.toList ds p := hA0
  obtain ⟨xs, hxs, hlen, hR⟩ := open_all (g := 12) _ _ _ _ Go.Av.sh_GateValues hA (fun j t v ht hv => hval j t v (by simpa using ht) (by simpa using hv)) shs_eq
  obtain ⟨rfl, rfl⟩ := trodVars_none hV
  have hB := hA
  rw [Try.params4] at hB
  obtain ⟨v0, vs0, d0, ds0, p0, q0, hargs0, rfl, rfl, h0, r0⟩ := trodAll_cons hB
  obtain ⟨v1, vs1, d1, ds1, p1, q1, hargs1, rfl, rfl, h1, r1⟩ := trodAll_cons r0
  obtain ⟨v2, vs2, d2, ds2, p2, q2, hargs2, rfl, rfl, h2, r2⟩ := trodAll_cons r1
  obtain ⟨rfl, rfl, rfl⟩ := trodAll_nil r2
  refine ((Go.Av.law_GateValues xs hxs).2 W (OldS W) args ⟨fun _ h => h, fun g cs hm => by simp [Go.Av.globs] at hm⟩ (by simpa using hlen) (fun i x y h1 h2 => hR i x y h1 (by simpa using h2))).mono ?_
  rintro e W' ⟨v, S', κ', rfl, hv, _, _, _, bel⟩
  rw [hv.v_inv]
  exact ⟨_, rfl, _, _, _, [], _, [], hW', trodAll_mk1 (shut_bool Try.underlying4 _), shut_all laidOut bel _ _ _ _ (fun t ht => by
    have := (List.all_eq_true.1 readable) t ht
    simpa using this) hA, rfl, bel.frame _, fun h => by cases h⟩

theorem gateValues_holds : Rows.GateValuesSaid :=
  OpenClaim.holds_of_wide 4 Try.f4 rfl rfl rfl rfl rfl rfl rfl ⟨rfl, rfl, rfl, rfl, rfl⟩ rfl rfl rfl rfl rfl (by kernel_rfl) Try.func4 (by kernel_rfl)
    (of_decide_eq_true (by kernel_rfl)) (by unfold Func.isWrapper; first | (rw [if_pos (by decide +kernel)]; kernel_rfl) | (rw [if_neg (by decide +kernel)]; exact ⟨rfl, rfl⟩))
    (fun os started H enc _ => lifted os started H enc)

end Go.Proofs.Ytelcipdpfoipiaa
