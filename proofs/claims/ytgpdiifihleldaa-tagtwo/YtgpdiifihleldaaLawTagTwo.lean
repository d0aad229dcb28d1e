/- For any tag system, word and turns, divided in two: from the word behind the first turns on it comes to what it comes to; for all arguments. -/
import Derived.Test.YtgpdiifihleldaaTagSh
import Derived.Test.YtgpdiifihleldaaRows
import Derived.ProofKit
set_option linter.unusedSimpArgs false
set_option linter.unusedVariables false
set_option maxRecDepth 100000
namespace Go.Av
open Go.Proofs

theorem trun_lt {g : TagS} {w : List Int} : ∀ (f k n : Nat), trun g w f k = some n → (tw g w k).length ≤ 40 → (tw g w n).length ≤ 40 ∧ k ≤ n ∧ n ≤ k + f := by
  intro f
  induction f with
  | zero => intro k n h h0; simp only [trun, Option.some.injEq] at h; subst h; exact ⟨h0, by omega, by omega⟩
  | succ f ih =>
    intro k n h h0
    simp only [trun] at h
    split at h
    · simp only [Option.some.injEq] at h; subst h; exact ⟨h0, by omega, by omega⟩
    · split at h
      · cases h
      · obtain ⟨a, b, c⟩ := ih (k + 1) n h (by omega)
        exact ⟨a, by omega, by omega⟩

theorem trun_stop {g : TagS} {w : List Int} (j k : Nat) (h : ((tw g w k).length : Int) < g.drop) : trun g w j k = some k := by
  cases j with
  | zero => rfl
  | succ j => rw [trun, if_pos h]

theorem trun_add {g : TagS} {w : List Int} (j : Nat) : ∀ i k, trun g w (i + j) k = (trun g w i k).bind (trun g w j) := by
  intro i
  induction i with
  | zero => intro k; simp [trun]
  | succ i ih =>
    intro k
    rw [show i + 1 + j = i + j + 1 by omega]
    simp only [trun]
    split
    · rename_i h; rw [Option.bind_some, trun_stop j k h]
    · split
      · rfl
      · exact ih (k + 1)

theorem tw_add (g : TagS) (w : List Int) (m : Nat) : ∀ k, tw g (tw g w m) k = tw g w (m + k)
  | 0 => rfl
  | k + 1 => by rw [show m + (k + 1) = m + k + 1 by omega]; simp only [tw, tw_add g w m k]

theorem trun_shift (g : TagS) (w : List Int) (m : Nat) : ∀ j k, trun g (tw g w m) j k = (trun g w j (m + k)).map (· - m) := by
  intro j
  induction j with
  | zero => intro k; simp [trun]
  | succ j ih =>
    intro k
    simp only [trun, tw_add]
    rw [show m + (k + 1) = m + k + 1 by omega]
    split
    · simp
    · split
      · rfl
      · rw [ih (k + 1)]; rfl

def runOf (g : TagS) (w : List Int) (N : Nat) : List Int × Int × Int := match trun g w N 0 with
  | some k => (tw g w k, k, 0)
  | none => ([], 0, 7)

theorem tagRun_of {signs : Int} {g : TagS} {w : List Int} (h1 : tagErr signs g w = 0) {N : Nat} (hN : N ≤ 400) : tagRun signs g w N = runOf g w N := by
  rw [tagRun, if_neg (by simp [h1]), if_neg (by omega), Int.toNat_natCast]; rfl

set_option maxHeartbeats 2000000 in
theorem tagTwo_spec (signs : Int) (g : TagS) (w : List Int) (a b : Nat) (ha : a ≤ 255) (hb : b ≤ 255) (hl : TagLen g w) :
    CallsA Try.prog 5 [I signs, encG g, .ro 1 (w.map I), .v (.int .u8 a), .v (.int .u8 b)] (Bo true) [] := by
  refine fn_of0 comp5 (by simp) ?_
  unfold code5
  have wa : IntKind.i64.wrap (a : Int) = a := by rw [wrap_id] <;> omega
  have wb : IntKind.i64.wrap (b : Int) = b := by rw [wrap_id] <;> omega
  have wc : IntKind.i64.wrap ((a : Int) + 1) = ((a + 1 : Nat) : Int) := by rw [wrap_id] <;> omega
  have hm : Int.tmod (b : Int) ((a + 1 : Nat) : Int) = ((b % (a + 1) : Nat) : Int) := by rw [← Int.ofNat_tmod]
  have hi : b % (a + 1) ≤ a := by have := Nat.mod_lt b (show 0 < a + 1 by omega); omega
  simp (maxSteps := 1000000) only [wa, wb, wc, hm, encL, encG, EA, EB, EC, ED, EE, EF, EG, EH, XA, XB, XC, XD, XE, XF, XG, XH, XI, XJ, XK, XL, XM, reduceIte, ↓reduceIte, Nat.reduceAdd, Nat.reduceLeDiff, Nat.reduceEqDiff, Nat.reduceLT, Nat.reduceSub, Nat.reduceBEq, forall_const, reduceCtorEq, implies_true, exists_eq_left', exists_eq_left, if_true, if_false, undef]
  generalize b % (a + 1) = i at hi
  refine ⟨by omega, ?_⟩
  refine callA (CallsA.args (tagRun_spec signs g w a hl ) (by simp [ encG,encL, encG, EA, EB, EC, ED, EE, EF, EG, EH, XA, XB, XC, XD, XE, XF, XG, XH, XI, XJ, XK, XL, XM, reduceIte, ↓reduceIte, Nat.reduceAdd, Nat.reduceLeDiff, Nat.reduceEqDiff, Nat.reduceLT, Nat.reduceSub, Nat.reduceBEq, forall_const, reduceCtorEq, implies_true, exists_eq_left', exists_eq_left, if_true, if_false, undef])) rfl ?_
  simp (maxSteps := 1000000) only [tagRunAns, encL, encG, EA, EB, EC, ED, EE, EF, EG, EH, XA, XB, XC, XD, XE, XF, XG, XH, XI, XJ, XK, XL, XM, reduceIte, ↓reduceIte, Nat.reduceAdd, Nat.reduceLeDiff, Nat.reduceEqDiff, Nat.reduceLT, Nat.reduceSub, Nat.reduceBEq, forall_const, reduceCtorEq, implies_true, exists_eq_left', exists_eq_left, if_true, if_false, undef]
  refine callA (CallsA.args (tagRun_spec signs g w i hl ) (by simp [ encG,encL, encG, EA, EB, EC, ED, EE, EF, EG, EH, XA, XB, XC, XD, XE, XF, XG, XH, XI, XJ, XK, XL, XM, reduceIte, ↓reduceIte, Nat.reduceAdd, Nat.reduceLeDiff, Nat.reduceEqDiff, Nat.reduceLT, Nat.reduceSub, Nat.reduceBEq, forall_const, reduceCtorEq, implies_true, exists_eq_left', exists_eq_left, if_true, if_false, undef])) rfl ?_
  simp (maxSteps := 1000000) only [tagRunAns, encL, encG, EA, EB, EC, ED, EE, EF, EG, EH, XA, XB, XC, XD, XE, XF, XG, XH, XI, XJ, XK, XL, XM, reduceIte, ↓reduceIte, Nat.reduceAdd, Nat.reduceLeDiff, Nat.reduceEqDiff, Nat.reduceLT, Nat.reduceSub, Nat.reduceBEq, forall_const, reduceCtorEq, implies_true, exists_eq_left', exists_eq_left, if_true, if_false, undef]
  refine callF (CallsA.args (keepTagged_spec signs g w hl ) (by simp [ encG,encL, encG, EA, EB, EC, ED, EE, EF, EG, EH, XA, XB, XC, XD, XE, XF, XG, XH, XI, XJ, XK, XL, XM, reduceIte, ↓reduceIte, Nat.reduceAdd, Nat.reduceLeDiff, Nat.reduceEqDiff, Nat.reduceLT, Nat.reduceSub, Nat.reduceBEq, forall_const, reduceCtorEq, implies_true, exists_eq_left', exists_eq_left, if_true, if_false, undef])) rfl (by simp [flat, encL, encG, EA, EB, EC, ED, EE, EF, EG, EH, XA, XB, XC, XD, XE, XF, XG, XH, XI, XJ, XK, XL, XM, reduceIte, ↓reduceIte, Nat.reduceAdd, Nat.reduceLeDiff, Nat.reduceEqDiff, Nat.reduceLT, Nat.reduceSub, Nat.reduceBEq, forall_const, reduceCtorEq, implies_true, exists_eq_left', exists_eq_left, if_true, if_false, undef]) ?_
  by_cases h1 : tagErr signs g w = 0
  rotate_left
  · have e1 : (tagErr signs g w == 0) = false := by simp [h1]
    have e2 : (tagErr signs g w != 0) = true := by simp [h1]
    have hr : ∀ t, tagRun signs g w t = ([], 0, tagErr signs g w) := fun t => by rw [tagRun, if_pos h1]
    rw [hr, hr]
    simp (maxSteps := 1000000) only [e1, e2, encL, encG, EA, EB, EC, ED, EE, EF, EG, EH, XA, XB, XC, XD, XE, XF, XG, XH, XI, XJ, XK, XL, XM, reduceIte, ↓reduceIte, Nat.reduceAdd, Nat.reduceLeDiff, Nat.reduceEqDiff, Nat.reduceLT, Nat.reduceSub, Nat.reduceBEq, forall_const, reduceCtorEq, implies_true, exists_eq_left', exists_eq_left, if_true, if_false, undef]
  have e1 : (tagErr signs g w == 0) = true := by simp [h1]
  obtain ⟨ok, hs⟩ := tagErr_ok h1
  have hw40 := ok.w
  rw [tagRun_of h1 (show a ≤ 400 by omega), tagRun_of h1 (show i ≤ 400 by omega)]
  obtain ⟨j, rfl⟩ : ∃ j, a = i + j := ⟨a - i, by omega⟩
  have hadd := trun_add (g := g) (w := w) j i 0
  have e7 : ((7 : Int) != 0) = true := by decide
  have e00 : ((0 : Int) != 0) = false := by decide
  have e0 : ((0 : Int) == 0) = true := by decide
  have e77 : ((7 : Int) == 7) = true := by decide
  cases hti : trun g w i 0 with
  | none =>
    have hta : trun g w (i + j) 0 = none := by rw [hadd, hti]; rfl
    simp (maxSteps := 1000000) only [runOf, hti, hta, e1, e7, e77, encL, encG, EA, EB, EC, ED, EE, EF, EG, EH, XA, XB, XC, XD, XE, XF, XG, XH, XI, XJ, XK, XL, XM, reduceIte, ↓reduceIte, Nat.reduceAdd, Nat.reduceLeDiff, Nat.reduceEqDiff, Nat.reduceLT, Nat.reduceSub, Nat.reduceBEq, forall_const, reduceCtorEq, implies_true, exists_eq_left', exists_eq_left, if_true, if_false, undef]
  | some p =>
    obtain ⟨p1, p2, p3⟩ := trun_lt i 0 p hti (by simpa [tw] using hw40)
    have hta : trun g w (i + j) 0 = trun g w j p := by rw [hadd, hti]; rfl
    have wsub : IntKind.i64.wrap (((i + j : Nat) : Int) - (i : Int)) = (j : Int) := by rw [wrap_id] <;> omega
    have okp : TagOk g (tw g w p) := ⟨ok.d, ok.b, ok.l, ok.li, tw_in ok p, p1⟩
    have hlp : TagLen g (tw g w p) := ⟨hl.b, hl.l, by omega⟩
    simp (maxSteps := 1000000) only [runOf, hti, hta, e1, e00, wsub, encL, encG, EA, EB, EC, ED, EE, EF, EG, EH, XA, XB, XC, XD, XE, XF, XG, XH, XI, XJ, XK, XL, XM, reduceIte, ↓reduceIte, Nat.reduceAdd, Nat.reduceLeDiff, Nat.reduceEqDiff, Nat.reduceLT, Nat.reduceSub, Nat.reduceBEq, forall_const, reduceCtorEq, implies_true, exists_eq_left', exists_eq_left, if_true, if_false, undef]
    refine callA (CallsA.args (tagRun_spec signs g (tw g w p) j hlp ) (by simp [ encG,encL, encG, EA, EB, EC, ED, EE, EF, EG, EH, XA, XB, XC, XD, XE, XF, XG, XH, XI, XJ, XK, XL, XM, reduceIte, ↓reduceIte, Nat.reduceAdd, Nat.reduceLeDiff, Nat.reduceEqDiff, Nat.reduceLT, Nat.reduceSub, Nat.reduceBEq, forall_const, reduceCtorEq, implies_true, exists_eq_left', exists_eq_left, if_true, if_false, undef])) rfl ?_
    rw [tagRun_of (tagErr_of okp hs) (show j ≤ 400 by omega)]
    have hsh := trun_shift g w p j 0
    rw [Nat.add_zero] at hsh
    cases htj : trun g w j p with
    | none =>
      rw [htj] at hsh
      simp (maxSteps := 1000000) only [runOf, tagRunAns, hsh, Option.map_none, e7, e77, encL, encG, EA, EB, EC, ED, EE, EF, EG, EH, XA, XB, XC, XD, XE, XF, XG, XH, XI, XJ, XK, XL, XM, reduceIte, ↓reduceIte, Nat.reduceAdd, Nat.reduceLeDiff, Nat.reduceEqDiff, Nat.reduceLT, Nat.reduceSub, Nat.reduceBEq, forall_const, reduceCtorEq, implies_true, exists_eq_left', exists_eq_left, if_true, if_false, undef]
      exact ⟨_, rfl⟩
    | some d =>
      obtain ⟨d1, d2, d3⟩ := trun_lt j p d htj p1
      rw [htj] at hsh
      have htw : tw g (tw g w p) (d - p) = tw g w d := by rw [tw_add, Nat.add_sub_cancel' d2]
      have wadd : IntKind.i64.wrap ((p : Int) + ((d - p : Nat) : Int)) = (d : Int) := by rw [wrap_id] <;> omega
      simp (maxSteps := 1000000) only [runOf, tagRunAns, hsh, Option.map_some, e00, e0, htw, wadd, beq_self_eq_true, encL, encG, EA, EB, EC, ED, EE, EF, EG, EH, XA, XB, XC, XD, XE, XF, XG, XH, XI, XJ, XK, XL, XM, reduceIte, ↓reduceIte, Nat.reduceAdd, Nat.reduceLeDiff, Nat.reduceEqDiff, Nat.reduceLT, Nat.reduceSub, Nat.reduceBEq, forall_const, reduceCtorEq, implies_true, exists_eq_left', exists_eq_left, if_true, if_false, undef]
      refine callF (CallsA.args (ints_spec (tw g w d) (tw g w d) (by omega)) (by simp [encL, encG, EA, EB, EC, ED, EE, EF, EG, EH, XA, XB, XC, XD, XE, XF, XG, XH, XI, XJ, XK, XL, XM, reduceIte, ↓reduceIte, Nat.reduceAdd, Nat.reduceLeDiff, Nat.reduceEqDiff, Nat.reduceLT, Nat.reduceSub, Nat.reduceBEq, forall_const, reduceCtorEq, implies_true, exists_eq_left', exists_eq_left, if_true, if_false, undef])) rfl (by simp [flat, encL, encG, EA, EB, EC, ED, EE, EF, EG, EH, XA, XB, XC, XD, XE, XF, XG, XH, XI, XJ, XK, XL, XM, reduceIte, ↓reduceIte, Nat.reduceAdd, Nat.reduceLeDiff, Nat.reduceEqDiff, Nat.reduceLT, Nat.reduceSub, Nat.reduceBEq, forall_const, reduceCtorEq, implies_true, exists_eq_left', exists_eq_left, if_true, if_false, undef]) ?_
      simp [encL, encG, EA, EB, EC, ED, EE, EF, EG, EH, XA, XB, XC, XD, XE, XF, XG, XH, XI, XJ, XK, XL, XM, reduceIte, ↓reduceIte, Nat.reduceAdd, Nat.reduceLeDiff, Nat.reduceEqDiff, Nat.reduceLT, Nat.reduceSub, Nat.reduceBEq, forall_const, reduceCtorEq, implies_true, exists_eq_left', exists_eq_left, if_true, if_false, undef]

def sh_TagTwo : List Sh := [.int .i64, shTag, .slice 1 (.int .i64), .int .u8, .int .u8]
theorem law_TagTwo (xs : List AV) (h : HasAll sh_TagTwo xs) : CallsA Try.prog 5 xs (.v (.bool true)) [] := by
  obtain ⟨x, r, rfl, hx, y, r, rfl, hy, z, r, rfl, hz, u, r, rfl, hu, v, r, rfl, hv, rfl⟩ := h
  obtain ⟨s, rfl, _⟩ := hasInt hx
  obtain ⟨g, w, rfl, rfl, hl⟩ := hasTag hy hz
  obtain ⟨a, rfl, ha⟩ := hasInt hu
  obtain ⟨b, rfl, hb⟩ := hasInt hv
  have ha' := u8_range ha
  have hb' := u8_range hb
  obtain ⟨p, rfl⟩ : ∃ p : Nat, a = (p : Int) := ⟨a.toNat, by omega⟩
  obtain ⟨q, rfl⟩ : ∃ q : Nat, b = (q : Int) := ⟨b.toNat, by omega⟩
  exact tagTwo_spec s g w p q (by omega) (by omega) hl

end Go.Av
namespace Go.Proofs.Ytgpdiifihleldaa
open Go.ChangeShapes Go.WideShapes Go.ChangeAt Go.RowKit
open Go.Av (open_all shut_all OldS HasAll Sh CallsA shAll)

theorem own : ownKnob Try.prog.godebug = none := by kernel_rfl
theorem laidOut : laidOutB Try.prog = true := by kernel_rfl
theorem shs_eq : shAll Try.prog 12 Try.f5.params.toList = some Go.Av.sh_TagTwo := by kernel_rfl
theorem readable : (Try.f5.params.toList.all fun t => Try.prog.readableRec t && decide (t < Try.prog.types.size)) = true := by kernel_rfl

theorem lifted (os : Os) (started : os.Started) (H : Type) (enc : TypeId × Value → H) :
    ReturnsInHanded {} Try.checked os 5 .any (Rows.tagTwoSpec.pre6 enc Try.prog Try.f5 Rows.tagTwoRow.domain false) (Rows.tagTwoSpec.post enc Try.prog Try.f5 false true false false) := by
  refine returnsInHanded_of_change (C := Try.checked) own started (by kernel_rfl) Try.func5
    (ChangeSpec.witness6 (enc := enc) (C := Try.checked) false ⟨#[], #[.int .i64 0, .agg #[.int .i64 0, .slice none 0 0], .slice none 0 0, .int .u8 0, .int .u8 0], []⟩ 8 (by kernel_rfl) (by kernel_rfl) (by kernel_rfl) (by kernel_rfl)) ?_
  intro W base args ds gs before hval0 hW hcnd _
  have hval : ∀ (j : Nat) t v, Try.f5.params[j]? = some t → args[j]? = some v → Value.okWide Try.prog W .any base t v := hval0
  have hW' := hW
  obtain ⟨p, q, hA0, hV, rfl, hfz, hnd⟩ := hW
  have hA : DataW.TrodAll enc Try.prog W 0 (fun _ => true) true Try.f5.params.toList args.toList ds p := hA0
  obtain ⟨xs, hxs, hlen, hR⟩ := open_all (g := 12) _ _ _ _ Go.Av.sh_TagTwo hA (fun j t v ht hv => hval j t v (by simpa using ht) (by simpa using hv)) shs_eq
  obtain ⟨rfl, rfl⟩ := trodVars_none hV
  have hB := hA
  rw [Try.params5] at hB
  obtain ⟨v0, vs0, d0, ds0, p0, q0, hargs0, rfl, rfl, h0, r0⟩ := trodAll_cons hB
  obtain ⟨v1, vs1, d1, ds1, p1, q1, hargs1, rfl, rfl, h1, r1⟩ := trodAll_cons r0
  obtain ⟨v2, vs2, d2, ds2, p2, q2, hargs2, rfl, rfl, h2, r2⟩ := trodAll_cons r1
  obtain ⟨v3, vs3, d3, ds3, p3, q3, hargs3, rfl, rfl, h3, r3⟩ := trodAll_cons r2
  obtain ⟨v4, vs4, d4, ds4, p4, q4, hargs4, rfl, rfl, h4, r4⟩ := trodAll_cons r3
  obtain ⟨rfl, rfl, rfl⟩ := trodAll_nil r4
  refine ((Go.Av.law_TagTwo xs hxs).2 W (OldS W) args ⟨fun _ h => h, fun g cs hm => by simp [Go.Av.globs] at hm⟩ (by simpa using hlen) (fun i x y h1 h2 => hR i x y h1 (by simpa using h2))).mono ?_
  rintro e W' ⟨v, S', κ', rfl, hv, _, _, _, bel⟩
  rw [hv.v_inv]
  exact ⟨_, rfl, _, _, _, [], _, [], hW', trodAll_mk1 (shut_bool Try.underlying4 _), shut_all laidOut bel _ _ _ _ (fun t ht => by
    have := (List.all_eq_true.1 readable) t ht
    simpa using this) hA, rfl, bel.frame _, fun h => by cases h⟩

theorem tagTwo_holds : Rows.TagTwoSaid :=
  OpenClaim.holds_of_wide 5 Try.f5 rfl rfl rfl rfl rfl rfl rfl ⟨rfl, rfl, rfl, rfl, rfl⟩ rfl rfl rfl rfl rfl (by kernel_rfl) Try.func5 (by kernel_rfl)
    (of_decide_eq_true (by kernel_rfl)) (by unfold Func.isWrapper; first | (rw [if_pos (by decide +kernel)]; kernel_rfl) | (rw [if_neg (by decide +kernel)]; exact ⟨rfl, rfl⟩))
    (fun os started H enc _ => lifted os started H enc)

end Go.Proofs.Ytgpdiifihleldaa
