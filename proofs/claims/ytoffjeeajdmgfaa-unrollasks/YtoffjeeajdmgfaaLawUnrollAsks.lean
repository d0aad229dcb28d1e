/- A machine says yes on few cells as the document has it; for all arguments. -/
import Derived.Test.YtoffjeeajdmgfaaUnrP
import Derived.Test.YtoffjeeajdmgfaaRows
import Derived.ProofKit
set_option linter.unusedSimpArgs false
set_option linter.unusedVariables false
set_option maxRecDepth 100000
namespace Go.Av
open Go.Proofs

theorem unrollAsks_spec (M : Mach) (cells steps : Int) (v : List Bool) (hv : (v.length : Int) < 2 ^ 63) :
    CallsA Try.prog 7 [encM M, I cells, I steps, .ro 1 (v.map Bo)] (Bo true) [] := by
  refine fn_of0 comp7 (by simp) ?_
  unfold code7
  have e00 : ((0 : Int) == 0) = true := by decide
  have n00 : ((0 : Int) != 0) = false := by decide
  have n20 : ((2 : Int) != 0) = true := by decide
  have e22 : ((2 : Int) == 2) = true := by decide
  have hvv : ((v.map Bo).length : Int) = v.length := by simp
  have hck := unrollCheck_spec M cells steps
  have hak := unrollAskP_spec M cells steps v hv
  simp (maxSteps := 1000000) only [encM, encR, encRow, encM, encG, XX, reduceIte, ↓reduceIte, Nat.reduceAdd, Nat.reduceLeDiff, Nat.reduceEqDiff, Nat.reduceLT, Nat.reduceSub, Nat.reduceBEq, forall_const, reduceCtorEq, implies_true, exists_eq_left', exists_eq_left, if_true, if_false, undef]
  by_cases h0 : unrollErr M cells steps = 0
  rotate_left
  · have f0 : (unrollErr M cells steps == 0) = false := by simpa using h0
    have f1 : (unrollErr M cells steps != 0) = true := by simpa using h0
    have e : (unrollErr M cells steps == unrollErr M cells steps) = true := by simp
    rw [askAns, if_pos h0] at hak
    refine callA (CallsA.args (hak ) (by simp [ encM,encR, encRow, encM, encG, XX, undef])) rfl ?_
    simp (maxSteps := 1000000) only [encR, encRow, encM, encG, XX, reduceIte, ↓reduceIte, Nat.reduceAdd, Nat.reduceLeDiff, Nat.reduceEqDiff, Nat.reduceLT, Nat.reduceSub, Nat.reduceBEq, forall_const, reduceCtorEq, implies_true, exists_eq_left', exists_eq_left, if_true, if_false, undef]
    refine callF (CallsA.args (hck ) (by simp [ encM,encR, encRow, encM, encG, XX, undef])) rfl (by simp [flat, encR, encRow, encM, encG, XX, undef]) ?_
    simp (maxSteps := 1000000) only [f0, f1, e, e00, Bo, Bool.not_false, encR, encRow, encM, encG, XX, reduceIte, ↓reduceIte, Nat.reduceAdd, Nat.reduceLeDiff, Nat.reduceEqDiff, Nat.reduceLT, Nat.reduceSub, Nat.reduceBEq, forall_const, reduceCtorEq, implies_true, exists_eq_left', exists_eq_left, if_true, if_false, undef]
  obtain ⟨hM, h2, hs2, hc, hst⟩ := unroll_ok h0
  by_cases h1 : (v.length : Int) = cells
  rotate_left
  · have f : ((v.length : Int) != cells) = true := by simpa using h1
    rw [askAns, if_neg (by simp [h0]), if_pos h1] at hak
    rw [h0] at hck
    refine callA (CallsA.args (hak ) (by simp [ encM,encR, encRow, encM, encG, XX, undef])) rfl ?_
    simp (maxSteps := 1000000) only [encR, encRow, encM, encG, XX, reduceIte, ↓reduceIte, Nat.reduceAdd, Nat.reduceLeDiff, Nat.reduceEqDiff, Nat.reduceLT, Nat.reduceSub, Nat.reduceBEq, forall_const, reduceCtorEq, implies_true, exists_eq_left', exists_eq_left, if_true, if_false, undef]
    refine callF (CallsA.args (hck ) (by simp [ encM,encR, encRow, encM, encG, XX, undef])) rfl (by simp [flat, encR, encRow, encM, encG, XX, undef]) ?_
    simp (maxSteps := 1000000) only [hvv, f, e00, n20, e22, Bo, Bool.not_false, encR, encRow, encM, encG, XX, reduceIte, ↓reduceIte, Nat.reduceAdd, Nat.reduceLeDiff, Nat.reduceEqDiff, Nat.reduceLT, Nat.reduceSub, Nat.reduceBEq, forall_const, reduceCtorEq, implies_true, exists_eq_left', exists_eq_left, if_true, if_false, undef]
  have f : ((v.length : Int) != cells) = false := by simpa using h1
  obtain ⟨n, rfl⟩ : ∃ n : Nat, cells = n := ⟨cells.toNat, by omega⟩
  obtain ⟨s, rfl⟩ : ∃ s : Nat, steps = s := ⟨steps.toNat, by omega⟩
  rw [askAns, if_neg (by simp [h0]), if_neg (by simpa using h1)] at hak
  rw [h0] at hck
  have hwl := wordN_lt v
  have hp : 2 ^ v.length ≤ 2 ^ 5 := Nat.pow_le_pow_right (by decide) (by omega)
  have hp' : 2 ^ v.length ≤ 32 := hp
  have e : (asked M n s (wordN v) == asked M n s (wordN v)) = true := by simp
  refine callA (CallsA.args (hak ) (by simp [ encM,encR, encRow, encM, encG, XX, undef])) rfl ?_
  simp (maxSteps := 1000000) only [encR, encRow, encM, encG, XX, reduceIte, ↓reduceIte, Nat.reduceAdd, Nat.reduceLeDiff, Nat.reduceEqDiff, Nat.reduceLT, Nat.reduceSub, Nat.reduceBEq, forall_const, reduceCtorEq, implies_true, exists_eq_left', exists_eq_left, if_true, if_false, undef]
  refine callF (CallsA.args (hck ) (by simp [ encM,encR, encRow, encM, encG, XX, undef])) rfl (by simp [flat, encR, encRow, encM, encG, XX, undef]) ?_
  simp (maxSteps := 1000000) only [hvv, f, e00, n00, Bo, encR, encRow, encM, encG, XX, reduceIte, ↓reduceIte, Nat.reduceAdd, Nat.reduceLeDiff, Nat.reduceEqDiff, Nat.reduceLT, Nat.reduceSub, Nat.reduceBEq, forall_const, reduceCtorEq, implies_true, exists_eq_left', exists_eq_left, if_true, if_false, undef]
  refine callD (CallsA.args (word_spec v (by omega)) (by simp [encR, encRow, encM, encG, XX, undef])) rfl (by simp [flat, encR, encRow, encM, encG, XX, undef]) (by simp [encR, encRow, encM, encG, XX, undef]) ?_
  simp (maxSteps := 1000000) only [encR, encRow, encM, encG, XX, reduceIte, ↓reduceIte, Nat.reduceAdd, Nat.reduceLeDiff, Nat.reduceEqDiff, Nat.reduceLT, Nat.reduceSub, Nat.reduceBEq, forall_const, reduceCtorEq, implies_true, exists_eq_left', exists_eq_left, if_true, if_false, undef]
  refine callXd (CallsA.args (asked_spec M n s (wordN v) hM h2 (by omega) (by omega) (by omega) (by omega) ) (by simp [ encM,encR, encRow, encM, encG, XX, undef])) rfl (by simp [flat, encR, encRow, encM, encG, XX, undef]) (by simp [encR, encRow, encM, encG, XX, undef]) ?_
  simp (maxSteps := 1000000) only [Int.toNat_natCast, e, Bo, Option.toList_some, Option.toList_none, encR, encRow, encM, encG, XX, reduceIte, ↓reduceIte, Nat.reduceAdd, Nat.reduceLeDiff, Nat.reduceEqDiff, Nat.reduceLT, Nat.reduceSub, Nat.reduceBEq, forall_const, reduceCtorEq, implies_true, exists_eq_left', exists_eq_left, if_true, if_false, undef]

def sh_UnrollAsks : List Sh := [shMach, .int .i64, .int .i64, .slice 1 .bool]
theorem law_UnrollAsks (xs : List AV) (h : HasAll sh_UnrollAsks xs) : CallsA Try.prog 7 xs (.v (.bool true)) [] := by
  obtain ⟨x, r, rfl, hx, y, r, rfl, hy, z, r, rfl, hz, u, r, rfl, hu, rfl⟩ := h
  obtain ⟨m, rfl⟩ := hasMach hx
  obtain ⟨c, rfl, _⟩ := hasInt hy
  obtain ⟨s, rfl, _⟩ := hasInt hz
  obtain ⟨l, rfl, hl⟩ := hasBoolsU hu
  exact unrollAsks_spec m c s l hl

end Go.Av
namespace Go.Proofs.Ytoffjeeajdmgfaa
open Go.ChangeShapes Go.WideShapes Go.ChangeAt Go.RowKit
open Go.Av (open_all shut_all OldS HasAll Sh CallsA shAll)

theorem own : ownKnob Try.prog.godebug = none := by kernel_rfl
theorem laidOut : laidOutB Try.prog = true := by kernel_rfl
theorem shs_eq : shAll Try.prog 12 Try.f7.params.toList = some Go.Av.sh_UnrollAsks := by kernel_rfl
theorem readable : (Try.f7.params.toList.all fun t => Try.prog.readableRec t && decide (t < Try.prog.types.size)) = true := by kernel_rfl

theorem lifted (os : Os) (started : os.Started) (H : Type) (enc : TypeId × Value → H) :
    ReturnsInHanded {} Try.checked os 7 .any (Rows.unrollAsksSpec.pre6 enc Try.prog Try.f7 Rows.unrollAsksRow.domain false) (Rows.unrollAsksSpec.post enc Try.prog Try.f7 false true false false) := by
  refine returnsInHanded_of_change (C := Try.checked) own started (by kernel_rfl) Try.func7
    (ChangeSpec.witness6 (enc := enc) (C := Try.checked) false ⟨#[], #[.agg #[.int .i64 0, .int .i64 0, .slice none 0 0], .int .i64 0, .int .i64 0, .slice none 0 0], []⟩ 8 (by kernel_rfl) (by kernel_rfl) (by kernel_rfl) (by kernel_rfl)) ?_
  intro W base args ds gs before hval0 hW hcnd _
  have hval : ∀ (j : Nat) t v, Try.f7.params[j]? = some t → args[j]? = some v → Value.okWide Try.prog W .any base t v := hval0
  have hW' := hW
  obtain ⟨p, q, hA0, hV, rfl, hfz, hnd⟩ := hW
  have hA : DataW.TrodAll enc Try.prog W 0 (fun _ => true) true Try.f7.params.toList args.toList ds p := hA0
  obtain ⟨xs, hxs, hlen, hR⟩ := open_all (g := 12) _ _ _ _ Go.Av.sh_UnrollAsks hA (fun j t v ht hv => hval j t v (by simpa using ht) (by simpa using hv)) shs_eq
  obtain ⟨rfl, rfl⟩ := trodVars_none hV
  have hB := hA
  rw [Try.params7] at hB
  obtain ⟨v0, vs0, d0, ds0, p0, q0, hargs0, rfl, rfl, h0, r0⟩ := trodAll_cons hB
  obtain ⟨v1, vs1, d1, ds1, p1, q1, hargs1, rfl, rfl, h1, r1⟩ := trodAll_cons r0
  obtain ⟨v2, vs2, d2, ds2, p2, q2, hargs2, rfl, rfl, h2, r2⟩ := trodAll_cons r1
  obtain ⟨v3, vs3, d3, ds3, p3, q3, hargs3, rfl, rfl, h3, r3⟩ := trodAll_cons r2
  obtain ⟨rfl, rfl, rfl⟩ := trodAll_nil r3
  refine ((Go.Av.law_UnrollAsks xs hxs).2 W (OldS W) args ⟨fun _ h => h, fun g cs hm => by simp [Go.Av.globs] at hm⟩ (by simpa using hlen) (fun i x y h1 h2 => hR i x y h1 (by simpa using h2))).mono ?_
  rintro e W' ⟨v, S', κ', rfl, hv, _, _, _, bel⟩
  rw [hv.v_inv]
  exact ⟨_, rfl, _, _, _, [], _, [], hW', trodAll_mk1 (shut_bool Try.underlying4 _), shut_all laidOut bel _ _ _ _ (fun t ht => by
    have := (List.all_eq_true.1 readable) t ht
    simpa using this) hA, rfl, bel.frame _, fun h => by cases h⟩

theorem unrollAsks_holds : Rows.UnrollAsksSaid :=
  OpenClaim.holds_of_wide 7 Try.f7 rfl rfl rfl rfl rfl rfl rfl ⟨rfl, rfl, rfl, rfl, rfl⟩ rfl rfl rfl rfl rfl (by kernel_rfl) Try.func7 (by kernel_rfl)
    (of_decide_eq_true (by kernel_rfl)) (by unfold Func.isWrapper; first | (rw [if_pos (by decide +kernel)]; kernel_rfl) | (rw [if_neg (by decide +kernel)]; exact ⟨rfl, rfl⟩))
    (fun os started H enc _ => lifted os started H enc)

end Go.Proofs.Ytoffjeeajdmgfaa
