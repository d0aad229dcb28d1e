/- Any table has a circuit; for all arguments. -/
import Derived.Test.YtoffjeeajdmgfaaCirW
import Derived.Test.YtoffjeeajdmgfaaRows
import Derived.ProofKit
set_option linter.unusedSimpArgs false
set_option linter.unusedVariables false
set_option maxRecDepth 100000
namespace Go.Av
open Go.Proofs

theorem hasTable {x : AV} (h : Has (.slice 1 .bool) x) : ∃ l : List Bool, x = .ro 1 (l.map Bo) ∧ (l.length : Int) < 2 ^ 63 := by
  cases h with
  | slice hl hh =>
    obtain ⟨l, rfl⟩ := listOf (enc := Bo) (fun i x hx => by cases hh i x hx with | bool b => exact ⟨b, rfl⟩)
    refine ⟨l, rfl, ?_⟩
    simp only [List.length_map] at hl
    have : maxLen < 2 ^ 63 := by decide
    omega

theorem gateBuilds_spec (inn : Int) (t : List Bool) (ht : (t.length : Int) < 2 ^ 63) : CallsA Try.prog 3 [I inn, .ro 1 (t.map Bo)] (Bo true) [] := by
  obtain ⟨l, hcall, hbad, hgood⟩ := gateBuildP_spec inn t ht
  refine fn_of0 comp3 (by simp) ?_
  unfold code3
  have e00 : ((0 : Int) == 0) = true := by decide
  have n00 : ((0 : Int) != 0) = false := by decide
  have n10 : ((1 : Int) != 0) = true := by decide
  have e11 : ((1 : Int) == 1) = true := by decide
  have n30 : ((3 : Int) != 0) = true := by decide
  have e33 : ((3 : Int) == 3) = true := by decide
  have hll : ((l.map encG).length : Int) = l.length := by simp
  have htt : ((t.map Bo).length : Int) = t.length := by simp
  simp (maxSteps := 1000000) only [encG, XX, reduceIte, ↓reduceIte, Nat.reduceAdd, Nat.reduceLeDiff, Nat.reduceEqDiff, Nat.reduceLT, Nat.reduceSub, Nat.reduceBEq, forall_const, reduceCtorEq, implies_true, exists_eq_left', exists_eq_left, if_true, if_false, undef]
  refine callA (CallsA.args (hcall) (by simp [encG, XX, undef])) rfl ?_
  simp (maxSteps := 1000000) only [encG, XX, reduceIte, ↓reduceIte, Nat.reduceAdd, Nat.reduceLeDiff, Nat.reduceEqDiff, Nat.reduceLT, Nat.reduceSub, Nat.reduceBEq, forall_const, reduceCtorEq, implies_true, exists_eq_left', exists_eq_left, if_true, if_false, undef]
  refine callF (CallsA.args (within_spec 1 inn 5) (by simp [encG, XX, undef])) rfl (by simp [flat, encG, XX, undef]) ?_
  by_cases h1 : 1 ≤ inn ∧ inn ≤ 5
  rotate_left
  · have f1 : decide (1 ≤ inn ∧ inn ≤ 5) = false := by rw [decide_eq_false_iff_not]; exact h1
    have hb : bldErr inn t = 1 := by rw [bldErr, if_pos h1]
    obtain rfl := hbad (by rw [hb]; decide)
    rw [hb]
    simp (maxSteps := 1000000) only [f1, n10, e11, e00, List.map_nil, List.length_nil, Bo, encG, XX, reduceIte, ↓reduceIte, Nat.reduceAdd, Nat.reduceLeDiff, Nat.reduceEqDiff, Nat.reduceLT, Nat.reduceSub, Nat.reduceBEq, forall_const, reduceCtorEq, implies_true, exists_eq_left', exists_eq_left, if_true, if_false, undef]
    rfl
  have f1 : decide (1 ≤ inn ∧ inn ≤ 5) = true := by rw [decide_eq_true_iff]; exact h1
  obtain ⟨n, rfl⟩ : ∃ n : Nat, inn = n := ⟨inn.toNat, by omega⟩
  have hcv : IntKind.u64.wrap (n : Int) = (n : Int) := wrap_u64 (by omega) (by omega)
  have hsh := shl_one (show n < 62 by omega)
  by_cases h2 : t.length = 2 ^ n
  rotate_left
  · have f2 : ((t.length : Int) != ((2 ^ n : Nat) : Int)) = true := by simp only [bne_iff_ne, ne_eq]; omega
    have hb : bldErr n t = 3 := by rw [bldErr, if_neg (by omega), if_pos (by simpa using h2)]
    obtain rfl := hbad (by rw [hb]; decide)
    rw [hb]
    simp (maxSteps := 1000000) only [f1, htt, hcv, hsh, f2, n30, e33, e00, List.map_nil, List.length_nil, Bo, encG, XX, reduceIte, ↓reduceIte, Nat.reduceAdd, Nat.reduceLeDiff, Nat.reduceEqDiff, Nat.reduceLT, Nat.reduceSub, Nat.reduceBEq, forall_const, reduceCtorEq, implies_true, exists_eq_left', exists_eq_left, if_true, if_false, undef]
    exact ⟨by omega, rfl⟩
  have f2 : ((t.length : Int) != ((2 ^ n : Nat) : Int)) = false := by simp only [bne_eq_false_iff_eq]; omega
  have hb : bldErr n t = 0 := by rw [bldErr, if_neg (by omega), if_neg (by simpa using h2)]
  obtain ⟨g1, g2, g3, g4⟩ := hgood hb
  rw [hb]
  have hp : t.length ≤ 2 ^ 5 := h2 ▸ Nat.pow_le_pow_right (by decide) (by omega)
  have hp' : t.length ≤ 32 := hp
  have w0 : IntKind.i64.wrap (3 * (t.length : Int)) = 3 * (t.length : Int) := wrap_id (by omega) (by omega)
  have w1 : IntKind.i64.wrap (3 * (n : Int)) = 3 * (n : Int) := wrap_id (by omega) (by omega)
  have w2 : IntKind.i64.wrap (3 * (t.length : Int) + 3 * (n : Int)) = 3 * (t.length : Int) + 3 * (n : Int) := wrap_id (by omega) (by omega)
  have w3 : IntKind.i64.wrap (3 * (t.length : Int) + 3 * (n : Int) + 3) = 3 * (t.length : Int) + 3 * (n : Int) + 3 := wrap_id (by omega) (by omega)
  have f3 : ((l.length : Int) == 0) = false := by simp only [beq_eq_false_iff_ne, ne_eq]; omega
  have f4 : decide ((l.length : Int) > 3 * (t.length : Int) + 3 * (n : Int) + 3) = false := by simp only [decide_eq_false_iff_not]; omega
  have hgs := gatesCheck_spec n l (by omega)
  rw [gs_ok.2 g3] at hgs
  simp (maxSteps := 1000000) only [f1, htt, hll, hcv, hsh, f2, n00, e00, f3, w0, w1, w2, w3, f4, Bo, encG, XX, reduceIte, ↓reduceIte, Nat.reduceAdd, Nat.reduceLeDiff, Nat.reduceEqDiff, Nat.reduceLT, Nat.reduceSub, Nat.reduceBEq, forall_const, reduceCtorEq, implies_true, exists_eq_left', exists_eq_left, if_true, if_false, undef]
  refine ⟨by omega, ?_⟩
  refine callF (CallsA.args (hgs) (by simp [encG, XX, undef])) rfl (by simp [flat, encG, XX, undef]) ?_
  simp (maxSteps := 1000000) only [n00, Bo, encG, XX, reduceIte, ↓reduceIte, Nat.reduceAdd, Nat.reduceLeDiff, Nat.reduceEqDiff, Nat.reduceLT, Nat.reduceSub, Nat.reduceBEq, forall_const, reduceCtorEq, implies_true, exists_eq_left', exists_eq_left, if_true, if_false, undef]
  refine loop0 Nat [8] (fun k => [IN k]) (fun k => k ≤ t.length) (fun k => t.length - k) (by decide) 0 (by simp) (by simp [Back, BackF, fzT, fzM, fzU, fz, fzL, fzO, kin, SubT, Sub, SubL, SubM, SubO, keepM, srcOk, look, lookM, ev, evs, putT, argT, encG, XX, undef]) (fun k hk => ?_)
  by_cases c1 : k < t.length
  rotate_left
  · have c : decide ((k : Int) < (t.length : Int)) = false := by simp; omega
    simp (maxSteps := 1000000) only [htt, c, encG, XX, reduceIte, ↓reduceIte, Nat.reduceAdd, Nat.reduceLeDiff, Nat.reduceEqDiff, Nat.reduceLT, Nat.reduceSub, Nat.reduceBEq, forall_const, reduceCtorEq, implies_true, exists_eq_left', exists_eq_left, if_true, if_false, undef]
  have c : decide ((k : Int) < (t.length : Int)) = true := by simp [c1]
  have hwk : IntKind.i64.wrap ((k : Int) + 1) = ((k + 1 : Nat) : Int) := by rw [wrap_id] <;> omega
  have wl : IntKind.i64.wrap ((l.length : Int) - 1) = ((l.length - 1 : Nat) : Int) := by rw [wrap_id] <;> omega
  have hg := gval_get (w := k) (l := l) g1
  have hv := g4 k c1
  rw [hv] at hg
  have e : (t[k] != t[k]) = false := by simp
  simp (maxSteps := 1000000) only [htt, c, encG, XX, reduceIte, ↓reduceIte, Nat.reduceAdd, Nat.reduceLeDiff, Nat.reduceEqDiff, Nat.reduceLT, Nat.reduceSub, Nat.reduceBEq, forall_const, reduceCtorEq, implies_true, exists_eq_left', exists_eq_left, if_true, if_false, undef]
  refine callD (CallsA.args (gates_spec k n l (by omega) (by omega) g3 (by omega)) (by simp [encG, XX, undef])) rfl (by simp [flat, encG, XX, undef]) (by simp [encG, XX, undef]) ?_
  simp (maxSteps := 1000000) only [hll, wl, encG, XX, reduceIte, ↓reduceIte, Nat.reduceAdd, Nat.reduceLeDiff, Nat.reduceEqDiff, Nat.reduceLT, Nat.reduceSub, Nat.reduceBEq, forall_const, reduceCtorEq, implies_true, exists_eq_left', exists_eq_left, if_true, if_false, undef]
  refine ⟨by omega, Pick.mk (Bo t[k]) (by rw [Int.toNat_natCast]; exact hg) ?_⟩
  simp (maxSteps := 1000000) only [encG, XX, reduceIte, ↓reduceIte, Nat.reduceAdd, Nat.reduceLeDiff, Nat.reduceEqDiff, Nat.reduceLT, Nat.reduceSub, Nat.reduceBEq, forall_const, reduceCtorEq, implies_true, exists_eq_left', exists_eq_left, if_true, if_false, undef]
  refine ⟨by omega, pickM c1 ?_⟩
  simp (maxSteps := 1000000) only [e, hwk, Bo, encG, XX, reduceIte, ↓reduceIte, Nat.reduceAdd, Nat.reduceLeDiff, Nat.reduceEqDiff, Nat.reduceLT, Nat.reduceSub, Nat.reduceBEq, forall_const, reduceCtorEq, implies_true, exists_eq_left', exists_eq_left, if_true, if_false, undef]
  exact ⟨k + 1, by omega, by omega, by simp [Back, BackF, fzT, fzM, fzU, fz, fzL, fzO, kin, SubT, Sub, SubL, SubM, SubO, keepM, srcOk, look, lookM, ev, evs, putT, argT, encG, XX, undef]⟩

def sh_GateBuilds : List Sh := [.int .i64, .slice 1 .bool]
theorem law_GateBuilds (xs : List AV) (h : HasAll sh_GateBuilds xs) : CallsA Try.prog 3 xs (.v (.bool true)) [] := by
  obtain ⟨x, r, rfl, hx, y, r, rfl, hy, rfl⟩ := h
  obtain ⟨c, rfl, _⟩ := hasInt hx
  obtain ⟨l, rfl, hl⟩ := hasTable hy
  exact gateBuilds_spec c l hl

end Go.Av
namespace Go.Proofs.Ytoffjeeajdmgfaa
open Go.ChangeShapes Go.WideShapes Go.ChangeAt Go.RowKit
open Go.Av (open_all shut_all OldS HasAll Sh CallsA shAll)

theorem own : ownKnob Try.prog.godebug = none := by kernel_rfl
theorem laidOut : laidOutB Try.prog = true := by kernel_rfl
theorem shs_eq : shAll Try.prog 12 Try.f3.params.toList = some Go.Av.sh_GateBuilds := by kernel_rfl
theorem readable : (Try.f3.params.toList.all fun t => Try.prog.readableRec t && decide (t < Try.prog.types.size)) = true := by kernel_rfl

theorem lifted (os : Os) (started : os.Started) (H : Type) (enc : TypeId × Value → H) :
    ReturnsInHanded {} Try.checked os 3 .any (Rows.gateBuildsSpec.pre6 enc Try.prog Try.f3 Rows.gateBuildsRow.domain false) (Rows.gateBuildsSpec.post enc Try.prog Try.f3 false true false false) := by
  refine returnsInHanded_of_change (C := Try.checked) own started (by kernel_rfl) Try.func3
    (ChangeSpec.witness6 (enc := enc) (C := Try.checked) false ⟨#[], #[.int .i64 0, .slice none 0 0], []⟩ 8 (by kernel_rfl) (by kernel_rfl) (by kernel_rfl) (by kernel_rfl)) ?_
  intro W base args ds gs before hval0 hW hcnd _
  have hval : ∀ (j : Nat) t v, Try.f3.params[j]? = some t → args[j]? = some v → Value.okWide Try.prog W .any base t v := hval0
  have hW' := hW
  obtain ⟨p, q, hA0, hV, rfl, hfz, hnd⟩ := hW
  have hA : DataW.TrodAll enc Try.prog W 0 (fun _ => true) true Try.f3.params.toList args.toList ds p := hA0
  obtain ⟨xs, hxs, hlen, hR⟩ := open_all (g := 12) _ _ _ _ Go.Av.sh_GateBuilds hA (fun j t v ht hv => hval j t v (by simpa using ht) (by simpa using hv)) shs_eq
  obtain ⟨rfl, rfl⟩ := trodVars_none hV
  have hB := hA
  rw [Try.params3] at hB
  obtain ⟨v0, vs0, d0, ds0, p0, q0, hargs0, rfl, rfl, h0, r0⟩ := trodAll_cons hB
  obtain ⟨v1, vs1, d1, ds1, p1, q1, hargs1, rfl, rfl, h1, r1⟩ := trodAll_cons r0
  obtain ⟨rfl, rfl, rfl⟩ := trodAll_nil r1
  refine ((Go.Av.law_GateBuilds xs hxs).2 W (OldS W) args ⟨fun _ h => h, fun g cs hm => by simp [Go.Av.globs] at hm⟩ (by simpa using hlen) (fun i x y h1 h2 => hR i x y h1 (by simpa using h2))).mono ?_
  rintro e W' ⟨v, S', κ', rfl, hv, _, _, _, bel⟩
  rw [hv.v_inv]
  exact ⟨_, rfl, _, _, _, [], _, [], hW', trodAll_mk1 (shut_bool Try.underlying4 _), shut_all laidOut bel _ _ _ _ (fun t ht => by
    have := (List.all_eq_true.1 readable) t ht
    simpa using this) hA, rfl, bel.frame _, fun h => by cases h⟩

theorem gateBuilds_holds : Rows.GateBuildsSaid :=
  OpenClaim.holds_of_wide 3 Try.f3 rfl rfl rfl rfl rfl rfl rfl ⟨rfl, rfl, rfl, rfl, rfl⟩ rfl rfl rfl rfl rfl (by kernel_rfl) Try.func3 (by kernel_rfl)
    (of_decide_eq_true (by kernel_rfl)) (by unfold Func.isWrapper; first | (rw [if_pos (by decide +kernel)]; kernel_rfl) | (rw [if_neg (by decide +kernel)]; exact ⟨rfl, rfl⟩))
    (fun os started H enc _ => lifted os started H enc)

end Go.Proofs.Ytoffjeeajdmgfaa
