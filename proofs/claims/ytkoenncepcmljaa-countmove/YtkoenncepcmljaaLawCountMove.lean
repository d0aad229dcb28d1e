/- For any two numbers: two instructions bring what is in the first counter into the second one; for all arguments. -/
import Derived.Test.YtkoenncepcmljaaCountR
import Derived.Test.YtkoenncepcmljaaRows
import Derived.ProofKit
set_option linter.unusedSimpArgs false
set_option linter.unusedVariables false
set_option maxRecDepth 100000
namespace Go.Av
open Go.Proofs

def mvL : List Ord := [⟨2, 0, 1, 2⟩, ⟨1, 1, 0, 0⟩]

theorem mv_run (x y : Nat) : ∀ k, k ≤ x → crun mvL ([(x : Int), y], 0) (2 * k) = ([(x : Int) - k, y + k], 0) ∧ cdone mvL ([(x : Int), y], 0) (2 * k) = 2 * k
  | 0, _ => by simp [crun, cdone]
  | k + 1, h => by
    obtain ⟨h1, h2⟩ := mv_run x y k (by omega)
    have hp : (0 : Int) < x - k := by omega
    have s1 : crun mvL ([(x : Int), y], 0) (2 * k + 1) = ([(x : Int) - k - 1, y + k], 1) := by
      simp only [crun, h1]
      simp [cstep, mvL, ordAt, cAt, show k < x by omega]
    have d1 : cdone mvL ([(x : Int), y], 0) (2 * k + 1) = 2 * k + 1 := by
      simp only [cdone, h1, h2]
      simp [mvL]
    have s2 : crun mvL ([(x : Int), y], 0) (2 * k + 1 + 1) = ([(x : Int) - k - 1, y + k + 1], 0) := by
      rw [crun, s1]
      simp [cstep, mvL, ordAt, cAt]
    have d2 : cdone mvL ([(x : Int), y], 0) (2 * k + 1 + 1) = 2 * k + 1 + 1 := by
      rw [cdone, s1, d1]
      simp [mvL]
    rw [show 2 * (k + 1) = 2 * k + 1 + 1 by omega, s2, d2]
    refine ⟨?_, rfl⟩
    have e1 : (x : Int) - k - 1 = x - ((k + 1 : Nat) : Int) := by omega
    have e2 : (y : Int) + k + 1 = y + ((k + 1 : Nat) : Int) := by omega
    rw [e1, e2]

theorem mv_end (x y N : Nat) (hN : 2 * x + 1 ≤ N) : crun mvL ([(x : Int), y], 0) N = ([0, (x : Int) + y], 2) ∧ cdone mvL ([(x : Int), y], 0) N = 2 * x + 1 := by
  obtain ⟨h1, h2⟩ := mv_run x y x (Nat.le_refl _)
  have s1 : crun mvL ([(x : Int), y], 0) (2 * x + 1) = ([0, (x : Int) + y], 2) := by
    simp only [crun, h1]
    simp [cstep, mvL, ordAt, cAt, Int.add_comm]
  have d1 : cdone mvL ([(x : Int), y], 0) (2 * x + 1) = 2 * x + 1 := by
    simp only [cdone, h1, h2]
    simp [mvL]
  obtain ⟨a, b⟩ := cdone_stop (l := mvL) (s := ([(x : Int), y], 0)) (k := 2 * x + 1) (by rw [s1]; simp [mvL]) d1 N hN
  exact ⟨a.trans s1, b⟩

theorem countMove_spec (a b : Int) (ha : 0 ≤ a ∧ a ≤ 255) (hb : 0 ≤ b ∧ b ≤ 255) :
    CallsA Try.prog 9 [.v (.int .u8 a), .v (.int .u8 b)] (Bo true) [] := by
  refine fn_of0 comp9 (by simp) ?_
  unfold code9
  have hwa : IntKind.i64.wrap a = a := by rw [wrap_id] <;> omega
  have hwb : IntKind.i64.wrap b = b := by rw [wrap_id] <;> omega
  simp (maxSteps := 1000000) only [hwa, hwb, encO, EA, EB, EC, ED, EE, EF, EG, XA, XB, XC, XD, XE, XF, XG, XH, XI, XJ, reduceIte, ↓reduceIte, Nat.reduceAdd, Nat.reduceLeDiff, Nat.reduceEqDiff, Nat.reduceLT, Nat.reduceSub, Nat.reduceBEq, forall_const, reduceCtorEq, implies_true, exists_eq_left', exists_eq_left, if_true, if_false, undef]
  refine ⟨by decide, ?_⟩
  refine ⟨by decide, ?_⟩
  obtain ⟨x, hx⟩ : ∃ x : Nat, a.tmod 21 = (x : Int) := ⟨(a.tmod 21).toNat, by have := Int.tmod_nonneg 21 ha.1; omega⟩
  obtain ⟨y, hy⟩ : ∃ y : Nat, b.tmod 21 = (y : Int) := ⟨(b.tmod 21).toNat, by have := Int.tmod_nonneg 21 hb.1; omega⟩
  have hx21 : x ≤ 20 := by have := Int.tmod_lt_of_pos a (b := 21) (by decide); omega
  have hy21 : y ≤ 20 := by have := Int.tmod_lt_of_pos b (b := 21) (by decide); omega
  rw [hx, hy]
  have h0 : cntErr 2 mvL [(x : Int), y] 100 = 0 := by
    have h1 : countErr 2 mvL = 0 := by decide
    have h2 : haveErr 2 [(x : Int), y] 100 = 0 := by
      rw [haveErr, if_neg (by simp), if_neg (by simp; omega), if_neg (by simp)]
    simp [cntErr, h1, h2]
  obtain ⟨r1, r2⟩ := mv_end x y 100 (by omega)
  refine callA (CallsA.args (run_spec 2 100 mvL [(x : Int), y] (by simp [mvL]) (by simp) ) (by simp [ mvL, List.map,encO, EA, EB, EC, ED, EE, EF, EG, XA, XB, XC, XD, XE, XF, XG, XH, XI, XJ, reduceIte, ↓reduceIte, Nat.reduceAdd, Nat.reduceLeDiff, Nat.reduceEqDiff, Nat.reduceLT, Nat.reduceSub, Nat.reduceBEq, forall_const, reduceCtorEq, implies_true, exists_eq_left', exists_eq_left, if_true, if_false, undef])) rfl ?_
  rw [runAns, if_pos h0]
  have hw : IntKind.i64.wrap ((x : Int) + y) = (x : Int) + y := by rw [wrap_id] <;> omega
  have hw2 : IntKind.i64.wrap (2 * (x : Int)) = 2 * (x : Int) := by rw [wrap_id] <;> omega
  have hw3 : IntKind.i64.wrap (2 * (x : Int) + 1) = 2 * (x : Int) + 1 := by rw [wrap_id] <;> omega
  have hn : (100 : Int).toNat = 100 := rfl
  simp (maxSteps := 1000000) only [hn, r1, r2, beq_self_eq_true, hw, encO, EA, EB, EC, ED, EE, EF, EG, XA, XB, XC, XD, XE, XF, XG, XH, XI, XJ, reduceIte, ↓reduceIte, Nat.reduceAdd, Nat.reduceLeDiff, Nat.reduceEqDiff, Nat.reduceLT, Nat.reduceSub, Nat.reduceBEq, forall_const, reduceCtorEq, implies_true, exists_eq_left', exists_eq_left, if_true, if_false, undef]
  refine callF (CallsA.args (ints_spec [0, (x : Int) + y] [0, (x : Int) + y] (by simp) ) (by simp [ List.map, hw,encO, EA, EB, EC, ED, EE, EF, EG, XA, XB, XC, XD, XE, XF, XG, XH, XI, XJ, reduceIte, ↓reduceIte, Nat.reduceAdd, Nat.reduceLeDiff, Nat.reduceEqDiff, Nat.reduceLT, Nat.reduceSub, Nat.reduceBEq, forall_const, reduceCtorEq, implies_true, exists_eq_left', exists_eq_left, if_true, if_false, undef])) rfl (by simp [flat, encO, EA, EB, EC, ED, EE, EF, EG, XA, XB, XC, XD, XE, XF, XG, XH, XI, XJ, reduceIte, ↓reduceIte, Nat.reduceAdd, Nat.reduceLeDiff, Nat.reduceEqDiff, Nat.reduceLT, Nat.reduceSub, Nat.reduceBEq, forall_const, reduceCtorEq, implies_true, exists_eq_left', exists_eq_left, if_true, if_false, undef]) ?_
  have e1 : decide (([0, (x : Int) + y] : List Int) = [0, (x : Int) + y]) = true := by simp
  have e2 : (((2 * x + 1 : Nat) : Int) == 2 * (x : Int) + 1) = true := by simp
  simp (maxSteps := 1000000) only [e1, decide_true, e2, hw2, hw3, beq_self_eq_true, encO, EA, EB, EC, ED, EE, EF, EG, XA, XB, XC, XD, XE, XF, XG, XH, XI, XJ, reduceIte, ↓reduceIte, Nat.reduceAdd, Nat.reduceLeDiff, Nat.reduceEqDiff, Nat.reduceLT, Nat.reduceSub, Nat.reduceBEq, forall_const, reduceCtorEq, implies_true, exists_eq_left', exists_eq_left, if_true, if_false, undef]

def sh_CountMove : List Sh := [.int .u8, .int .u8]
theorem law_CountMove (xs : List AV) (h : HasAll sh_CountMove xs) : CallsA Try.prog 9 xs (.v (.bool true)) [] := by
  obtain ⟨x, r, rfl, hx, y, r, rfl, hy, rfl⟩ := h
  obtain ⟨a, rfl, h1⟩ := hasInt hx
  obtain ⟨b, rfl, h2⟩ := hasInt hy
  exact countMove_spec a b (u8_range h1) (u8_range h2)

end Go.Av
namespace Go.Proofs.Ytkoenncepcmljaa
open Go.ChangeShapes Go.WideShapes Go.ChangeAt Go.RowKit
open Go.Av (open_all shut_all OldS HasAll Sh CallsA shAll)

theorem own : ownKnob Try.prog.godebug = none := by kernel_rfl
theorem laidOut : laidOutB Try.prog = true := by kernel_rfl
theorem shs_eq : shAll Try.prog 12 Try.f9.params.toList = some Go.Av.sh_CountMove := by kernel_rfl
theorem readable : (Try.f9.params.toList.all fun t => Try.prog.readableRec t && decide (t < Try.prog.types.size)) = true := by kernel_rfl

theorem lifted (os : Os) (started : os.Started) (H : Type) (enc : TypeId × Value → H) :
    ReturnsInHanded {} Try.checked os 9 .any (Rows.countMoveSpec.pre6 enc Try.prog Try.f9 Rows.countMoveRow.domain false) (Rows.countMoveSpec.post enc Try.prog Try.f9 false true false false) := by
  refine returnsInHanded_of_change (C := Try.checked) own started (by kernel_rfl) Try.func9
    (ChangeSpec.witness6 (enc := enc) (C := Try.checked) false ⟨#[], #[.int .u8 0, .int .u8 0], []⟩ 8 (by kernel_rfl) (by kernel_rfl) (by kernel_rfl) (by kernel_rfl)) ?_
  intro W base args ds gs before hval0 hW hcnd _
  have hval : ∀ (j : Nat) t v, Try.f9.params[j]? = some t → args[j]? = some v → Value.okWide Try.prog W .any base t v := hval0
  have hW' := hW
  obtain ⟨p, q, hA0, hV, rfl, hfz, hnd⟩ := hW
  have hA : DataW.TrodAll enc Try.prog W 0 (fun _ => true) true Try.f9.params.toList args.toList ds p := hA0
  obtain ⟨xs, hxs, hlen, hR⟩ := open_all (g := 12) _ _ _ _ Go.Av.sh_CountMove hA (fun j t v ht hv => hval j t v (by simpa using ht) (by simpa using hv)) shs_eq
  obtain ⟨rfl, rfl⟩ := trodVars_none hV
  have hB := hA
  rw [Try.params9] at hB
  obtain ⟨v0, vs0, d0, ds0, p0, q0, hargs0, rfl, rfl, h0, r0⟩ := trodAll_cons hB
  obtain ⟨v1, vs1, d1, ds1, p1, q1, hargs1, rfl, rfl, h1, r1⟩ := trodAll_cons r0
  obtain ⟨rfl, rfl, rfl⟩ := trodAll_nil r1
  refine ((Go.Av.law_CountMove xs hxs).2 W (OldS W) args (fun _ h => h) (by simpa using hlen) (fun i x y h1 h2 => hR i x y h1 (by simpa using h2))).mono ?_
  rintro e W' ⟨v, S', κ', rfl, hv, _, _, _, bel⟩
  rw [hv.v_inv]
  exact ⟨_, rfl, _, _, _, [], _, [], hW', trodAll_mk1 (shut_bool Try.underlying4 _), shut_all laidOut bel _ _ _ _ (fun t ht => by
    have := (List.all_eq_true.1 readable) t ht
    simpa using this) hA, rfl, bel.frame _, fun h => by cases h⟩

theorem countMove_holds : Rows.CountMoveSaid :=
  OpenClaim.holds_of_wide 9 Try.f9 rfl rfl rfl rfl rfl rfl rfl ⟨rfl, rfl, rfl, rfl, rfl⟩ rfl rfl rfl rfl rfl (by kernel_rfl) Try.func9 (by kernel_rfl)
    (of_decide_eq_true (by kernel_rfl)) (by unfold Func.isWrapper; first | (rw [if_pos (by decide +kernel)]; kernel_rfl) | (rw [if_neg (by decide +kernel)]; exact ⟨rfl, rfl⟩))
    (fun os started H enc _ => lifted os started H enc)

end Go.Proofs.Ytkoenncepcmljaa
