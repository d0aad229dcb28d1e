/- Of how many values clauses hold is what the document says; for all arguments. -/
import Derived.Test.YtblakcgmngdhmaaNamP
import Derived.Test.YtblakcgmngdhmaaRows
import Derived.ProofKit
set_option linter.unusedSimpArgs false
set_option linter.unusedVariables false
set_option maxRecDepth 100000
namespace Go.Av
open Go.Proofs

theorem nameManies_spec (vars : Int) (l : List Cl) (hl : ClLen l) :
    CallsA Try.prog 4 [I vars, .ro 2 (l.map encCl)] (Bo true) [] := by
  refine fn_of0 comp4 (by simp) ?_
  unfold code4
  have e00 : ((0 : Int) == 0) = true := by decide
  have n00 : ((0 : Int) != 0) = false := by decide
  have hck := clausesCheck_spec vars 8 l hl.len hl.at_
  have hp := nameManyP_spec vars l hl
  simp (maxSteps := 1000000) only [encCl, encG, XX, reduceIte, ↓reduceIte, Nat.reduceAdd, Nat.reduceLeDiff, Nat.reduceEqDiff, Nat.reduceLT, Nat.reduceSub, Nat.reduceBEq, forall_const, reduceCtorEq, implies_true, exists_eq_left', exists_eq_left, if_true, if_false, undef]
  by_cases h0 : clausesErr vars 8 l = 0
  rotate_left
  · have f1 : (clausesErr vars 8 l != 0) = true := by simpa using h0
    have e : (clausesErr vars 8 l == clausesErr vars 8 l) = true := by simp
    rw [manyAns, if_pos h0] at hp
    refine callA (CallsA.args (hp) (by simp [encCl, encG, XX, undef])) rfl ?_
    simp (maxSteps := 1000000) only [encCl, encG, XX, reduceIte, ↓reduceIte, Nat.reduceAdd, Nat.reduceLeDiff, Nat.reduceEqDiff, Nat.reduceLT, Nat.reduceSub, Nat.reduceBEq, forall_const, reduceCtorEq, implies_true, exists_eq_left', exists_eq_left, if_true, if_false, undef]
    refine callF (CallsA.args (hck) (by simp [encCl, encG, XX, undef])) rfl (by simp [flat, encCl, encG, XX, undef]) ?_
    simp (maxSteps := 1000000) only [f1, e, e00, Bo, encCl, encG, XX, reduceIte, ↓reduceIte, Nat.reduceAdd, Nat.reduceLeDiff, Nat.reduceEqDiff, Nat.reduceLT, Nat.reduceSub, Nat.reduceBEq, forall_const, reduceCtorEq, implies_true, exists_eq_left', exists_eq_left, if_true, if_false, undef]
  obtain ⟨hr, h200, hok⟩ := clauses_ok h0
  obtain ⟨n, rfl⟩ : ∃ n : Nat, vars = n := ⟨vars.toNat, by omega⟩
  rw [Int.toNat_natCast] at hok
  rw [h0] at hck
  have e : ((manyN n l : Int) == (manyN n l : Int)) = true := by simp
  rw [manyAns, if_neg (by simp [h0]), Int.toNat_natCast] at hp
  refine callA (CallsA.args (hp) (by simp [encCl, encG, XX, undef])) rfl ?_
  simp (maxSteps := 1000000) only [encCl, encG, XX, reduceIte, ↓reduceIte, Nat.reduceAdd, Nat.reduceLeDiff, Nat.reduceEqDiff, Nat.reduceLT, Nat.reduceSub, Nat.reduceBEq, forall_const, reduceCtorEq, implies_true, exists_eq_left', exists_eq_left, if_true, if_false, undef]
  refine callF (CallsA.args (hck) (by simp [encCl, encG, XX, undef])) rfl (by simp [flat, encCl, encG, XX, undef]) ?_
  simp (maxSteps := 1000000) only [e00, n00, Bo, encCl, encG, XX, reduceIte, ↓reduceIte, Nat.reduceAdd, Nat.reduceLeDiff, Nat.reduceEqDiff, Nat.reduceLT, Nat.reduceSub, Nat.reduceBEq, forall_const, reduceCtorEq, implies_true, exists_eq_left', exists_eq_left, if_true, if_false, undef]
  refine callF (CallsA.args (many_spec n l (by omega) hok (by omega)) (by simp [encCl, encG, XX, undef])) rfl (by simp [flat, encCl, encG, XX, undef]) ?_
  simp (maxSteps := 1000000) only [e, Bo, encCl, encG, XX, reduceIte, ↓reduceIte, Nat.reduceAdd, Nat.reduceLeDiff, Nat.reduceEqDiff, Nat.reduceLT, Nat.reduceSub, Nat.reduceBEq, forall_const, reduceCtorEq, implies_true, exists_eq_left', exists_eq_left, if_true, if_false, undef]

def sh_NameManies : List Sh := [.int .i64, shCls]
theorem law_NameManies (xs : List AV) (h : HasAll sh_NameManies xs) : CallsA Try.prog 4 xs (.v (.bool true)) [] := by
  obtain ⟨x, r, rfl, hx, y, r, rfl, hy, rfl⟩ := h
  obtain ⟨n, rfl, _⟩ := hasInt hx
  obtain ⟨l, rfl, hl⟩ := hasClauses hy
  exact nameManies_spec n l hl

end Go.Av
namespace Go.Proofs.Ytblakcgmngdhmaa
open Go.ChangeShapes Go.WideShapes Go.ChangeAt Go.RowKit
open Go.Av (open_all shut_all OldS HasAll Sh CallsA shAll)

theorem own : ownKnob Try.prog.godebug = none := by kernel_rfl
theorem laidOut : laidOutB Try.prog = true := by kernel_rfl
theorem shs_eq : shAll Try.prog 12 Try.f4.params.toList = some Go.Av.sh_NameManies := by kernel_rfl
theorem readable : (Try.f4.params.toList.all fun t => Try.prog.readableRec t && decide (t < Try.prog.types.size)) = true := by kernel_rfl

theorem lifted (os : Os) (started : os.Started) (H : Type) (enc : TypeId × Value → H) :
    ReturnsInHanded {} Try.checked os 4 .any (Rows.nameManiesSpec.pre6 enc Try.prog Try.f4 Rows.nameManiesRow.domain false) (Rows.nameManiesSpec.post enc Try.prog Try.f4 false true false false) := by
  refine returnsInHanded_of_change (C := Try.checked) own started (by kernel_rfl) Try.func4
    (ChangeSpec.witness6 (enc := enc) (C := Try.checked) false ⟨#[], #[.int .i64 0, .slice none 0 0], []⟩ 8 (by kernel_rfl) (by kernel_rfl) (by kernel_rfl) (by kernel_rfl)) ?_
  intro W base args ds gs before hval0 hW hcnd _
  have hval : ∀ (j : Nat) t v, Try.f4.params[j]? = some t → args[j]? = some v → Value.okWide Try.prog W .any base t v := hval0
  have hW' := hW
  obtain ⟨p, q, hA0, hV, rfl, hfz, hnd⟩ := hW
  have hA : DataW.TrodAll enc Try.prog W 0 (fun _ => true) true Try.f4.params.toList args.toList ds p := hA0
  obtain ⟨xs, hxs, hlen, hR⟩ := open_all (g := 12) _ _ _ _ Go.Av.sh_NameManies hA (fun j t v ht hv => hval j t v (by simpa using ht) (by simpa using hv)) shs_eq
  obtain ⟨rfl, rfl⟩ := trodVars_none hV
  have hB := hA
  rw [Try.params4] at hB
  obtain ⟨v0, vs0, d0, ds0, p0, q0, hargs0, rfl, rfl, h0, r0⟩ := trodAll_cons hB
  obtain ⟨v1, vs1, d1, ds1, p1, q1, hargs1, rfl, rfl, h1, r1⟩ := trodAll_cons r0
  obtain ⟨rfl, rfl, rfl⟩ := trodAll_nil r1
  refine ((Go.Av.law_NameManies xs hxs).2 W (OldS W) args ⟨fun _ h => h, fun g cs hm => by simp [Go.Av.globs] at hm⟩ (by simpa using hlen) (fun i x y h1 h2 => hR i x y h1 (by simpa using h2))).mono ?_
  rintro e W' ⟨v, S', κ', rfl, hv, _, _, _, bel⟩
  rw [hv.v_inv]
  exact ⟨_, rfl, _, _, _, [], _, [], hW', trodAll_mk1 (shut_bool Try.underlying4 _), shut_all laidOut bel _ _ _ _ (fun t ht => by
    have := (List.all_eq_true.1 readable) t ht
    simpa using this) hA, rfl, bel.frame _, fun h => by cases h⟩

theorem nameManies_holds : Rows.NameManiesSaid :=
  OpenClaim.holds_of_wide 4 Try.f4 rfl rfl rfl rfl rfl rfl rfl ⟨rfl, rfl, rfl, rfl, rfl⟩ rfl rfl rfl rfl rfl (by kernel_rfl) Try.func4 (by kernel_rfl)
    (of_decide_eq_true (by kernel_rfl)) (by unfold Func.isWrapper; first | (rw [if_pos (by decide +kernel)]; kernel_rfl) | (rw [if_neg (by decide +kernel)]; exact ⟨rfl, rfl⟩))
    (fun os started H enc _ => lifted os started H enc)

end Go.Proofs.Ytblakcgmngdhmaa
