/- For any tag system and any word that comes again: behind so many turns it is what it was so many fewer behind; for all arguments. -/
import Derived.Test.YtgpdiifihleldaaTagSh
import Derived.Test.YtgpdiifihleldaaTagQ
import Derived.Test.YtgpdiifihleldaaRows
import Derived.ProofKit
set_option linter.unusedSimpArgs false
set_option linter.unusedVariables false
set_option maxRecDepth 100000
namespace Go.Av
open Go.Proofs

def runOf (g : TagS) (w : List Int) (N : Nat) : List Int × Int × Int := match trun g w N 0 with
  | some k => (tw g w k, k, 0)
  | none => ([], 0, 7)

theorem tagRun_of {signs : Int} {g : TagS} {w : List Int} (h1 : tagErr signs g w = 0) {N : Nat} (hN : N ≤ 400) : tagRun signs g w N = runOf g w N := by
  rw [tagRun, if_neg (by simp [h1]), if_neg (by omega), Int.toNat_natCast]; rfl

/-- all words before the n-th lead on, and none is too long -/
def Goes (g : TagS) (w : List Int) (n : Nat) : Prop := (∀ j, j < n → ¬ ((tw g w j).length : Int) < g.drop) ∧ ∀ j, j ≤ n → (tw g w j).length ≤ 40

theorem trun_full {g : TagS} {w : List Int} : ∀ f k, Goes g w (k + f) → trun g w f k = some (k + f) := by
  intro f
  induction f with
  | zero => intro k _; rfl
  | succ f ih =>
    intro k h
    rw [trun, if_neg (h.1 k (by omega)), if_neg (by have := h.2 (k + 1) (by omega); omega), ih (k + 1) (by rw [show k + 1 + f = k + (f + 1) by omega]; exact h)]
    congr 1; omega

theorem trnd_cases {g : TagS} {w : List Int} : ∀ f k, Goes g w k → (∃ n i : Nat, trnd g w f k = ((n : Int), (n : Int) - (i : Int), 0) ∧ i < n ∧ n ≤ k + f ∧ tw g w i = tw g w n ∧ Goes g w n) ∨ ∃ e : Int, e ≠ 0 ∧ trnd g w f k = (0, 0, e) := by
  intro f
  induction f with
  | zero =>
    intro k h
    by_cases c : ((tw g w k).length : Int) < g.drop
    · exact .inr ⟨5, by decide, trnd_fin c⟩
    · cases hf : fnd g w k with
      | none => exact .inr ⟨7, by decide, trnd_end c hf⟩
      | some i => exact .inl ⟨k, i, trnd_found c hf, (fnd_lt hf).1, by omega, (fnd_lt hf).2, h⟩
  | succ f ih =>
    intro k h
    by_cases c : ((tw g w k).length : Int) < g.drop
    · exact .inr ⟨5, by decide, trnd_fin c⟩
    · cases hf : fnd g w k with
      | some i => exact .inl ⟨k, i, trnd_found c hf, (fnd_lt hf).1, by omega, (fnd_lt hf).2, h⟩
      | none =>
        rw [trnd_on c hf]
        split
        · exact .inr ⟨7, by decide, rfl⟩
        · rename_i hl
          have hg : Goes g w (k + 1) := ⟨fun j hj => by
            by_cases hj' : j < k
            · exact h.1 j hj'
            · rw [show j = k by omega]; exact c, fun j hj => by
            by_cases hj' : j ≤ k
            · exact h.2 j hj'
            · rw [show j = k + 1 by omega]; omega⟩
          rcases ih (k + 1) hg with ⟨n, i, q1, q2, q3, q4, q5⟩ | q
          · exact .inl ⟨n, i, q1, q2, by omega, q4, q5⟩
          · exact .inr q

theorem tagRoundK_spec (signs : Int) (g : TagS) (w : List Int) (hl : TagLen g w) : CallsA Try.prog 6 [I signs, encG g, .ro 1 (w.map I)] (Bo true) [] := by
  refine fn_of0 comp6 (by simp) ?_
  unfold code6
  simp (maxSteps := 1000000) only [encL, encG, EA, EB, EC, ED, EE, EF, EG, EH, XA, XB, XC, XD, XE, XF, XG, XH, XI, XJ, XK, XL, XM, reduceIte, ↓reduceIte, Nat.reduceAdd, Nat.reduceLeDiff, Nat.reduceEqDiff, Nat.reduceLT, Nat.reduceSub, Nat.reduceBEq, forall_const, reduceCtorEq, implies_true, exists_eq_left', exists_eq_left, if_true, if_false, undef]
  refine callA (CallsA.args (tagRound_spec signs g w hl ) (by simp [ encG,encL, encG, EA, EB, EC, ED, EE, EF, EG, EH, XA, XB, XC, XD, XE, XF, XG, XH, XI, XJ, XK, XL, XM, reduceIte, ↓reduceIte, Nat.reduceAdd, Nat.reduceLeDiff, Nat.reduceEqDiff, Nat.reduceLT, Nat.reduceSub, Nat.reduceBEq, forall_const, reduceCtorEq, implies_true, exists_eq_left', exists_eq_left, if_true, if_false, undef])) rfl ?_
  simp (maxSteps := 1000000) only [tagRoundAns, encL, encG, EA, EB, EC, ED, EE, EF, EG, EH, XA, XB, XC, XD, XE, XF, XG, XH, XI, XJ, XK, XL, XM, reduceIte, ↓reduceIte, Nat.reduceAdd, Nat.reduceLeDiff, Nat.reduceEqDiff, Nat.reduceLT, Nat.reduceSub, Nat.reduceBEq, forall_const, reduceCtorEq, implies_true, exists_eq_left', exists_eq_left, if_true, if_false, undef]
  refine callF (CallsA.args (keepTagged_spec signs g w hl ) (by simp [ encG,encL, encG, EA, EB, EC, ED, EE, EF, EG, EH, XA, XB, XC, XD, XE, XF, XG, XH, XI, XJ, XK, XL, XM, reduceIte, ↓reduceIte, Nat.reduceAdd, Nat.reduceLeDiff, Nat.reduceEqDiff, Nat.reduceLT, Nat.reduceSub, Nat.reduceBEq, forall_const, reduceCtorEq, implies_true, exists_eq_left', exists_eq_left, if_true, if_false, undef])) rfl (by simp [flat, encL, encG, EA, EB, EC, ED, EE, EF, EG, EH, XA, XB, XC, XD, XE, XF, XG, XH, XI, XJ, XK, XL, XM, reduceIte, ↓reduceIte, Nat.reduceAdd, Nat.reduceLeDiff, Nat.reduceEqDiff, Nat.reduceLT, Nat.reduceSub, Nat.reduceBEq, forall_const, reduceCtorEq, implies_true, exists_eq_left', exists_eq_left, if_true, if_false, undef]) ?_
  by_cases h1 : tagErr signs g w = 0
  rotate_left
  · have e1 : (tagErr signs g w == 0) = false := by simp [h1]
    have e2 : (tagErr signs g w != 0) = true := by simp [h1]
    have hr : tagRound signs g w = (0, 0, tagErr signs g w) := by rw [tagRound, if_pos h1]
    rw [hr]
    simp (maxSteps := 1000000) only [e1, e2, encL, encG, EA, EB, EC, ED, EE, EF, EG, EH, XA, XB, XC, XD, XE, XF, XG, XH, XI, XJ, XK, XL, XM, reduceIte, ↓reduceIte, Nat.reduceAdd, Nat.reduceLeDiff, Nat.reduceEqDiff, Nat.reduceLT, Nat.reduceSub, Nat.reduceBEq, forall_const, reduceCtorEq, implies_true, exists_eq_left', exists_eq_left, if_true, if_false, undef]
  have e1 : (tagErr signs g w == 0) = true := by simp [h1]
  obtain ⟨ok, _⟩ := tagErr_ok h1
  have hw40 := ok.w
  have e0 : ((0 : Int) == 0) = true := by decide
  have e00 : ((0 : Int) != 0) = false := by decide
  have hr : tagRound signs g w = trnd g w 400 0 := by rw [tagRound, if_neg (by simp [h1])]
  rw [hr]
  rcases trnd_cases (g := g) (w := w) 400 0 ⟨fun j hj => by omega, fun j hj => by rw [show j = 0 by omega]; exact hw40⟩ with ⟨n, i, q1, q2, q3, q4, q5⟩ | ⟨e, q1, q2⟩
  rotate_left
  · have e2 : (e != 0) = true := by simp [q1]
    rw [q2]
    simp (maxSteps := 1000000) only [e1, e2, e0, encL, encG, EA, EB, EC, ED, EE, EF, EG, EH, XA, XB, XC, XD, XE, XF, XG, XH, XI, XJ, XK, XL, XM, reduceIte, ↓reduceIte, Nat.reduceAdd, Nat.reduceLeDiff, Nat.reduceEqDiff, Nat.reduceLT, Nat.reduceSub, Nat.reduceBEq, forall_const, reduceCtorEq, implies_true, exists_eq_left', exists_eq_left, if_true, if_false, undef]
  rw [q1]
  have f1 : decide ((n : Int) - (i : Int) < 1) = false := by simp; omega
  have f2 : decide ((n : Int) - (i : Int) > (n : Int)) = false := by simp; omega
  have f3 : decide ((n : Int) > 400) = false := by simp; omega
  simp (maxSteps := 1000000) only [e1, e00, f1, f2, f3, encL, encG, EA, EB, EC, ED, EE, EF, EG, EH, XA, XB, XC, XD, XE, XF, XG, XH, XI, XJ, XK, XL, XM, reduceIte, ↓reduceIte, Nat.reduceAdd, Nat.reduceLeDiff, Nat.reduceEqDiff, Nat.reduceLT, Nat.reduceSub, Nat.reduceBEq, forall_const, reduceCtorEq, implies_true, exists_eq_left', exists_eq_left, if_true, if_false, undef]
  have hn : trun g w n 0 = some n := by have := trun_full n 0 (by simpa using q5); simpa using this
  have hi : trun g w i 0 = some i := by
    have := trun_full (g := g) (w := w) i 0 ⟨fun j hj => q5.1 j (by omega), fun j hj => q5.2 j (by omega)⟩
    simpa using this
  have hln := q5.2 n (by omega)
  refine callA (CallsA.args (tagRun_spec signs g w n hl ) (by simp [ encG,encL, encG, EA, EB, EC, ED, EE, EF, EG, EH, XA, XB, XC, XD, XE, XF, XG, XH, XI, XJ, XK, XL, XM, reduceIte, ↓reduceIte, Nat.reduceAdd, Nat.reduceLeDiff, Nat.reduceEqDiff, Nat.reduceLT, Nat.reduceSub, Nat.reduceBEq, forall_const, reduceCtorEq, implies_true, exists_eq_left', exists_eq_left, if_true, if_false, undef])) rfl ?_
  rw [tagRun_of h1 (show n ≤ 400 by omega)]
  have hw1 : IntKind.i64.wrap ((n : Int) - ((n : Int) - (i : Int))) = (i : Int) := by rw [wrap_id] <;> omega
  simp (maxSteps := 1000000) only [runOf, hn, tagRunAns, hw1, encL, encG, EA, EB, EC, ED, EE, EF, EG, EH, XA, XB, XC, XD, XE, XF, XG, XH, XI, XJ, XK, XL, XM, reduceIte, ↓reduceIte, Nat.reduceAdd, Nat.reduceLeDiff, Nat.reduceEqDiff, Nat.reduceLT, Nat.reduceSub, Nat.reduceBEq, forall_const, reduceCtorEq, implies_true, exists_eq_left', exists_eq_left, if_true, if_false, undef]
  refine callA (CallsA.args (tagRun_spec signs g w i hl ) (by simp [ encG,encL, encG, EA, EB, EC, ED, EE, EF, EG, EH, XA, XB, XC, XD, XE, XF, XG, XH, XI, XJ, XK, XL, XM, reduceIte, ↓reduceIte, Nat.reduceAdd, Nat.reduceLeDiff, Nat.reduceEqDiff, Nat.reduceLT, Nat.reduceSub, Nat.reduceBEq, forall_const, reduceCtorEq, implies_true, exists_eq_left', exists_eq_left, if_true, if_false, undef])) rfl ?_
  rw [tagRun_of h1 (show i ≤ 400 by omega)]
  simp (maxSteps := 1000000) only [runOf, hi, tagRunAns, e0, q4, encL, encG, EA, EB, EC, ED, EE, EF, EG, EH, XA, XB, XC, XD, XE, XF, XG, XH, XI, XJ, XK, XL, XM, reduceIte, ↓reduceIte, Nat.reduceAdd, Nat.reduceLeDiff, Nat.reduceEqDiff, Nat.reduceLT, Nat.reduceSub, Nat.reduceBEq, forall_const, reduceCtorEq, implies_true, exists_eq_left', exists_eq_left, if_true, if_false, undef]
  refine callF (CallsA.args (ints_spec (tw g w n) (tw g w n) (by omega)) (by simp [encL, encG, EA, EB, EC, ED, EE, EF, EG, EH, XA, XB, XC, XD, XE, XF, XG, XH, XI, XJ, XK, XL, XM, reduceIte, ↓reduceIte, Nat.reduceAdd, Nat.reduceLeDiff, Nat.reduceEqDiff, Nat.reduceLT, Nat.reduceSub, Nat.reduceBEq, forall_const, reduceCtorEq, implies_true, exists_eq_left', exists_eq_left, if_true, if_false, undef])) rfl (by simp [flat, encL, encG, EA, EB, EC, ED, EE, EF, EG, EH, XA, XB, XC, XD, XE, XF, XG, XH, XI, XJ, XK, XL, XM, reduceIte, ↓reduceIte, Nat.reduceAdd, Nat.reduceLeDiff, Nat.reduceEqDiff, Nat.reduceLT, Nat.reduceSub, Nat.reduceBEq, forall_const, reduceCtorEq, implies_true, exists_eq_left', exists_eq_left, if_true, if_false, undef]) ?_
  simp [encL, encG, EA, EB, EC, ED, EE, EF, EG, EH, XA, XB, XC, XD, XE, XF, XG, XH, XI, XJ, XK, XL, XM, reduceIte, ↓reduceIte, Nat.reduceAdd, Nat.reduceLeDiff, Nat.reduceEqDiff, Nat.reduceLT, Nat.reduceSub, Nat.reduceBEq, forall_const, reduceCtorEq, implies_true, exists_eq_left', exists_eq_left, if_true, if_false, undef]

def sh_TagRound : List Sh := [.int .i64, shTag, .slice 1 (.int .i64)]
theorem law_TagRound (xs : List AV) (h : HasAll sh_TagRound xs) : CallsA Try.prog 6 xs (.v (.bool true)) [] := by
  obtain ⟨x, r, rfl, hx, y, r, rfl, hy, z, r, rfl, hz, rfl⟩ := h
  obtain ⟨s, rfl, _⟩ := hasInt hx
  obtain ⟨g, w, rfl, rfl, hl⟩ := hasTag hy hz
  exact tagRoundK_spec s g w hl

end Go.Av
namespace Go.Proofs.Ytgpdiifihleldaa
open Go.ChangeShapes Go.WideShapes Go.ChangeAt Go.RowKit
open Go.Av (open_all shut_all OldS HasAll Sh CallsA shAll)

theorem own : ownKnob Try.prog.godebug = none := by kernel_rfl
theorem laidOut : laidOutB Try.prog = true := by kernel_rfl
theorem shs_eq : shAll Try.prog 12 Try.f6.params.toList = some Go.Av.sh_TagRound := by kernel_rfl
theorem readable : (Try.f6.params.toList.all fun t => Try.prog.readableRec t && decide (t < Try.prog.types.size)) = true := by kernel_rfl

theorem lifted (os : Os) (started : os.Started) (H : Type) (enc : TypeId × Value → H) :
    ReturnsInHanded {} Try.checked os 6 .any (Rows.tagRoundSpec.pre6 enc Try.prog Try.f6 Rows.tagRoundRow.domain false) (Rows.tagRoundSpec.post enc Try.prog Try.f6 false true false false) := by
  refine returnsInHanded_of_change (C := Try.checked) own started (by kernel_rfl) Try.func6
    (ChangeSpec.witness6 (enc := enc) (C := Try.checked) false ⟨#[], #[.int .i64 0, .agg #[.int .i64 0, .slice none 0 0], .slice none 0 0], []⟩ 8 (by kernel_rfl) (by kernel_rfl) (by kernel_rfl) (by kernel_rfl)) ?_
  intro W base args ds gs before hval0 hW hcnd _
  have hval : ∀ (j : Nat) t v, Try.f6.params[j]? = some t → args[j]? = some v → Value.okWide Try.prog W .any base t v := hval0
  have hW' := hW
  obtain ⟨p, q, hA0, hV, rfl, hfz, hnd⟩ := hW
  have hA : DataW.TrodAll enc Try.prog W 0 (fun _ => true) true Try.f6.params.toList args.toList ds p := hA0
  obtain ⟨xs, hxs, hlen, hR⟩ := open_all (g := 12) _ _ _ _ Go.Av.sh_TagRound hA (fun j t v ht hv => hval j t v (by simpa using ht) (by simpa using hv)) shs_eq
  obtain ⟨rfl, rfl⟩ := trodVars_none hV
  have hB := hA
  rw [Try.params6] at hB
  obtain ⟨v0, vs0, d0, ds0, p0, q0, hargs0, rfl, rfl, h0, r0⟩ := trodAll_cons hB
  obtain ⟨v1, vs1, d1, ds1, p1, q1, hargs1, rfl, rfl, h1, r1⟩ := trodAll_cons r0
  obtain ⟨v2, vs2, d2, ds2, p2, q2, hargs2, rfl, rfl, h2, r2⟩ := trodAll_cons r1
  obtain ⟨rfl, rfl, rfl⟩ := trodAll_nil r2
  refine ((Go.Av.law_TagRound xs hxs).2 W (OldS W) args ⟨fun _ h => h, fun g cs hm => by simp [Go.Av.globs] at hm⟩ (by simpa using hlen) (fun i x y h1 h2 => hR i x y h1 (by simpa using h2))).mono ?_
  rintro e W' ⟨v, S', κ', rfl, hv, _, _, _, bel⟩
  rw [hv.v_inv]
  exact ⟨_, rfl, _, _, _, [], _, [], hW', trodAll_mk1 (shut_bool Try.underlying4 _), shut_all laidOut bel _ _ _ _ (fun t ht => by
    have := (List.all_eq_true.1 readable) t ht
    simpa using this) hA, rfl, bel.frame _, fun h => by cases h⟩

theorem tagRound_holds : Rows.TagRoundSaid :=
  OpenClaim.holds_of_wide 6 Try.f6 rfl rfl rfl rfl rfl rfl rfl ⟨rfl, rfl, rfl, rfl, rfl⟩ rfl rfl rfl rfl rfl (by kernel_rfl) Try.func6 (by kernel_rfl)
    (of_decide_eq_true (by kernel_rfl)) (by unfold Func.isWrapper; first | (rw [if_pos (by decide +kernel)]; kernel_rfl) | (rw [if_neg (by decide +kernel)]; exact ⟨rfl, rfl⟩))
    (fun os started H enc _ => lifted os started H enc)

end Go.Proofs.Ytgpdiifihleldaa
