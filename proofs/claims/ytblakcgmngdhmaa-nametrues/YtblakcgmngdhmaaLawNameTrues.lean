/- Whether clauses hold is what the document says; for all arguments. -/
import Derived.Test.YtblakcgmngdhmaaNamP
import Derived.Test.YtblakcgmngdhmaaRows
import Derived.ProofKit
set_option linter.unusedSimpArgs false
set_option linter.unusedVariables false
set_option maxRecDepth 100000
namespace Go.Av
open Go.Proofs

theorem nameTrues_spec (vars : Int) (l : List Cl) (v : List Bool) (hl : ClLen l) (hv : (v.length : Int) < 2 ^ 63) :
    CallsA Try.prog 3 [I vars, .ro 2 (l.map encCl), .ro 1 (v.map Bo)] (Bo true) [] := by
  refine fn_of0 comp3 (by simp) ?_
  unfold code3
  have e00 : ((0 : Int) == 0) = true := by decide
  have n00 : ((0 : Int) != 0) = false := by decide
  have n30 : ((3 : Int) != 0) = true := by decide
  have e33 : ((3 : Int) == 3) = true := by decide
  have hvv : ((v.map Bo).length : Int) = v.length := by simp
  have hck := clausesCheck_spec vars 200 l hl.len hl.at_
  have hp := nameTrueP_spec vars l v hl hv
  simp (maxSteps := 1000000) only [encCl, encG, XX, reduceIte, ↓reduceIte, Nat.reduceAdd, Nat.reduceLeDiff, Nat.reduceEqDiff, Nat.reduceLT, Nat.reduceSub, Nat.reduceBEq, forall_const, reduceCtorEq, implies_true, exists_eq_left', exists_eq_left, if_true, if_false, undef]
  by_cases h0 : clausesErr vars 200 l = 0
  rotate_left
  · have f0 : (clausesErr vars 200 l == 0) = false := by simpa using h0
    have f1 : (clausesErr vars 200 l != 0) = true := by simpa using h0
    have e : (clausesErr vars 200 l == clausesErr vars 200 l) = true := by simp
    rw [trueAns, if_pos h0] at hp
    refine callA (CallsA.args (hp) (by simp [encCl, encG, XX, undef])) rfl ?_
    simp (maxSteps := 1000000) only [encCl, encG, XX, reduceIte, ↓reduceIte, Nat.reduceAdd, Nat.reduceLeDiff, Nat.reduceEqDiff, Nat.reduceLT, Nat.reduceSub, Nat.reduceBEq, forall_const, reduceCtorEq, implies_true, exists_eq_left', exists_eq_left, if_true, if_false, undef]
    refine callF (CallsA.args (hck) (by simp [encCl, encG, XX, undef])) rfl (by simp [flat, encCl, encG, XX, undef]) ?_
    simp (maxSteps := 1000000) only [f0, f1, e, e00, Bo, Bool.not_false, encCl, encG, XX, reduceIte, ↓reduceIte, Nat.reduceAdd, Nat.reduceLeDiff, Nat.reduceEqDiff, Nat.reduceLT, Nat.reduceSub, Nat.reduceBEq, forall_const, reduceCtorEq, implies_true, exists_eq_left', exists_eq_left, if_true, if_false, undef]
  obtain ⟨hr, h200, hok⟩ := clauses_ok h0
  rw [h0] at hck
  by_cases h1 : (v.length : Int) = vars
  rotate_left
  · have f : ((v.length : Int) != vars) = true := by simpa using h1
    rw [trueAns, if_neg (by simp [h0]), if_pos h1] at hp
    refine callA (CallsA.args (hp) (by simp [encCl, encG, XX, undef])) rfl ?_
    simp (maxSteps := 1000000) only [encCl, encG, XX, reduceIte, ↓reduceIte, Nat.reduceAdd, Nat.reduceLeDiff, Nat.reduceEqDiff, Nat.reduceLT, Nat.reduceSub, Nat.reduceBEq, forall_const, reduceCtorEq, implies_true, exists_eq_left', exists_eq_left, if_true, if_false, undef]
    refine callF (CallsA.args (hck) (by simp [encCl, encG, XX, undef])) rfl (by simp [flat, encCl, encG, XX, undef]) ?_
    simp (maxSteps := 1000000) only [hvv, f, e00, n30, e33, Bo, Bool.not_false, encCl, encG, XX, reduceIte, ↓reduceIte, Nat.reduceAdd, Nat.reduceLeDiff, Nat.reduceEqDiff, Nat.reduceLT, Nat.reduceSub, Nat.reduceBEq, forall_const, reduceCtorEq, implies_true, exists_eq_left', exists_eq_left, if_true, if_false, undef]
  have f : ((v.length : Int) != vars) = false := by simpa using h1
  have e : (allT l v == allT l v) = true := by simp
  rw [trueAns, if_neg (by simp [h0]), if_neg (by simpa using h1)] at hp
  refine callA (CallsA.args (hp) (by simp [encCl, encG, XX, undef])) rfl ?_
  simp (maxSteps := 1000000) only [encCl, encG, XX, reduceIte, ↓reduceIte, Nat.reduceAdd, Nat.reduceLeDiff, Nat.reduceEqDiff, Nat.reduceLT, Nat.reduceSub, Nat.reduceBEq, forall_const, reduceCtorEq, implies_true, exists_eq_left', exists_eq_left, if_true, if_false, undef]
  refine callF (CallsA.args (hck) (by simp [encCl, encG, XX, undef])) rfl (by simp [flat, encCl, encG, XX, undef]) ?_
  simp (maxSteps := 1000000) only [hvv, f, e00, n00, Bo, encCl, encG, XX, reduceIte, ↓reduceIte, Nat.reduceAdd, Nat.reduceLeDiff, Nat.reduceEqDiff, Nat.reduceLT, Nat.reduceSub, Nat.reduceBEq, forall_const, reduceCtorEq, implies_true, exists_eq_left', exists_eq_left, if_true, if_false, undef]
  refine callF (CallsA.args (true_spec l v (by rw [show v.length = vars.toNat by omega]; exact hok) (by omega) (by omega)) (by simp [encCl, encG, XX, undef])) rfl (by simp [flat, encCl, encG, XX, undef]) ?_
  simp (maxSteps := 1000000) only [e, Bo, encCl, encG, XX, reduceIte, ↓reduceIte, Nat.reduceAdd, Nat.reduceLeDiff, Nat.reduceEqDiff, Nat.reduceLT, Nat.reduceSub, Nat.reduceBEq, forall_const, reduceCtorEq, implies_true, exists_eq_left', exists_eq_left, if_true, if_false, undef]

def sh_NameTrues : List Sh := [.int .i64, shCls, .slice 1 .bool]
theorem law_NameTrues (xs : List AV) (h : HasAll sh_NameTrues xs) : CallsA Try.prog 3 xs (.v (.bool true)) [] := by
  obtain ⟨x, r, rfl, hx, y, r, rfl, hy, z, r, rfl, hz, rfl⟩ := h
  obtain ⟨n, rfl, _⟩ := hasInt hx
  obtain ⟨l, rfl, hl⟩ := hasClauses hy
  obtain ⟨v, rfl, hv⟩ := hasBoolsN hz
  exact nameTrues_spec n l v hl hv

end Go.Av
namespace Go.Proofs.Ytblakcgmngdhmaa
open Go.ChangeShapes Go.WideShapes Go.ChangeAt Go.RowKit
open Go.Av (open_all shut_all OldS HasAll Sh CallsA shAll)

theorem own : ownKnob Try.prog.godebug = none := by kernel_rfl
theorem laidOut : laidOutB Try.prog = true := by kernel_rfl
theorem shs_eq : shAll Try.prog 12 Try.f3.params.toList = some Go.Av.sh_NameTrues := by kernel_rfl
theorem readable : (Try.f3.params.toList.all fun t => Try.prog.readableRec t && decide (t < Try.prog.types.size)) = true := by kernel_rfl

theorem lifted (os : Os) (started : os.Started) (H : Type) (enc : TypeId × Value → H) :
    ReturnsInHanded {} Try.checked os 3 .any (Rows.nameTruesSpec.pre6 enc Try.prog Try.f3 Rows.nameTruesRow.domain false) (Rows.nameTruesSpec.post enc Try.prog Try.f3 false true false false) := by
  refine returnsInHanded_of_change (C := Try.checked) own started (by kernel_rfl) Try.func3
    (ChangeSpec.witness6 (enc := enc) (C := Try.checked) false ⟨#[], #[.int .i64 0, .slice none 0 0, .slice none 0 0], []⟩ 8 (by kernel_rfl) (by kernel_rfl) (by kernel_rfl) (by kernel_rfl)) ?_
  intro W base args ds gs before hval0 hW hcnd _
  have hval : ∀ (j : Nat) t v, Try.f3.params[j]? = some t → args[j]? = some v → Value.okWide Try.prog W .any base t v := hval0
  have hW' := hW
  obtain ⟨p, q, hA0, hV, rfl, hfz, hnd⟩ := hW
  have hA : DataW.TrodAll enc Try.prog W 0 (fun _ => true) true Try.f3.params.toList args.toList ds p := hA0
  obtain ⟨xs, hxs, hlen, hR⟩ := open_all (g := 12) _ _ _ _ Go.Av.sh_NameTrues hA (fun j t v ht hv => hval j t v (by simpa using ht) (by simpa using hv)) shs_eq
  obtain ⟨rfl, rfl⟩ := trodVars_none hV
  have hB := hA
  rw [Try.params3] at hB
  obtain ⟨v0, vs0, d0, ds0, p0, q0, hargs0, rfl, rfl, h0, r0⟩ := trodAll_cons hB
  obtain ⟨v1, vs1, d1, ds1, p1, q1, hargs1, rfl, rfl, h1, r1⟩ := trodAll_cons r0
  obtain ⟨v2, vs2, d2, ds2, p2, q2, hargs2, rfl, rfl, h2, r2⟩ := trodAll_cons r1
  obtain ⟨rfl, rfl, rfl⟩ := trodAll_nil r2
  refine ((Go.Av.law_NameTrues xs hxs).2 W (OldS W) args ⟨fun _ h => h, fun g cs hm => by simp [Go.Av.globs] at hm⟩ (by simpa using hlen) (fun i x y h1 h2 => hR i x y h1 (by simpa using h2))).mono ?_
  rintro e W' ⟨v, S', κ', rfl, hv, _, _, _, bel⟩
  rw [hv.v_inv]
  exact ⟨_, rfl, _, _, _, [], _, [], hW', trodAll_mk1 (shut_bool Try.underlying4 _), shut_all laidOut bel _ _ _ _ (fun t ht => by
    have := (List.all_eq_true.1 readable) t ht
    simpa using this) hA, rfl, bel.frame _, fun h => by cases h⟩

theorem nameTrues_holds : Rows.NameTruesSaid :=
  OpenClaim.holds_of_wide 3 Try.f3 rfl rfl rfl rfl rfl rfl rfl ⟨rfl, rfl, rfl, rfl, rfl⟩ rfl rfl rfl rfl rfl (by kernel_rfl) Try.func3 (by kernel_rfl)
    (of_decide_eq_true (by kernel_rfl)) (by unfold Func.isWrapper; first | (rw [if_pos (by decide +kernel)]; kernel_rfl) | (rw [if_neg (by decide +kernel)]; exact ⟨rfl, rfl⟩))
    (fun os started H enc _ => lifted os started H enc)

end Go.Proofs.Ytblakcgmngdhmaa
