/- The counters that the program tells for the encoding of counters are these counters; for all arguments, the listed variable holding what the program's text lays. -/
import Derived.Test.YtanmgfcgoffahaaDoorTwo
import Derived.Test.YtanmgfcgoffahaaDoorInts
import Derived.Test.YtanmgfcgoffahaaDoorLaid
import Derived.Test.YtanmgfcgoffahaaDoorCards
import Derived.Test.YtanmgfcgoffahaaDoorTie
set_option linter.unusedSimpArgs false
set_option linter.unusedVariables false
set_option maxRecDepth 100000
namespace Go.Av
open Go.Proofs

theorem open_back {c : List Int} (h1 : 1 ≤ c.length ∧ c.length ≤ 4) (hc : ∀ x ∈ c, 0 ≤ x) (hp : 1 ≤ (packed c : Int)) : openAns (c.length : Int) (packed c : Nat) = .tup [.ro 1 (c.map I), I 0] := by
  have ho := opn_packed h1.2 hc
  have h0 : openErr (c.length : Int) (packed c : Nat) = 0 := by
    rw [openErr, if_neg (by omega), if_neg (by omega), if_neg]
    simp [ho]
  rw [openAns, if_pos h0]
  simp only [Int.toNat_natCast, ho, List.map_map]
  congr 2
  congr 1
  refine List.map_congr_left fun x hx => ?_
  have := hc x hx
  simp only [Function.comp]
  rw [Int.toNat_of_nonneg this]

theorem twoBack_spec (c : List Int) (hc : (c.length : Int) < 2 ^ 63) : CallsA Tryd.prog 6 [.ro 1 (c.map I)] (Bo true) [] := by
  refine fn_of0 comp6 (by simp) ?_
  unfold code6
  simp (maxSteps := 1000000) only [EA, EB, EC, ED, EE, EF, EG, XA, XB, XC, XD, XE, XF, XG, XH, XI, XJ, XK, XL, reduceIte, ↓reduceIte, Nat.reduceAdd, Nat.reduceLeDiff, Nat.reduceEqDiff, Nat.reduceLT, Nat.reduceSub, Nat.reduceBEq, forall_const, reduceCtorEq, implies_true, exists_eq_left', exists_eq_left, if_true, if_false, undef]
  refine callA (CallsA.args (pack_spec c hc) (by simp [EA, EB, EC, ED, EE, EF, EG, XA, XB, XC, XD, XE, XF, XG, XH, XI, XJ, XK, XL, reduceIte, ↓reduceIte, Nat.reduceAdd, Nat.reduceLeDiff, Nat.reduceEqDiff, Nat.reduceLT, Nat.reduceSub, Nat.reduceBEq, forall_const, reduceCtorEq, implies_true, exists_eq_left', exists_eq_left, if_true, if_false, undef])) rfl ?_
  have hll : ((c.map I).length : Int) = c.length := by simp
  by_cases h0 : packErr c = 0
  · obtain ⟨h1, hE⟩ := packErr_ok h0
    have hb := packed4 hE
    have hp := packed_pos c
    have e1 : ((0 : Int) != 0) = false := by decide
    have e2 : ((0 : Int) == 0) = true := by decide
    simp (maxSteps := 1000000) only [packAns, h0, if_true, e1, hll, EA, EB, EC, ED, EE, EF, EG, XA, XB, XC, XD, XE, XF, XG, XH, XI, XJ, XK, XL, reduceIte, ↓reduceIte, Nat.reduceAdd, Nat.reduceLeDiff, Nat.reduceEqDiff, Nat.reduceLT, Nat.reduceSub, Nat.reduceBEq, forall_const, reduceCtorEq, implies_true, exists_eq_left', exists_eq_left, if_true, if_false, undef]
    refine callA (CallsA.args (open_spec (c.length : Int) (packed c : Nat) (by omega) ) (by simp [ hll,EA, EB, EC, ED, EE, EF, EG, XA, XB, XC, XD, XE, XF, XG, XH, XI, XJ, XK, XL, reduceIte, ↓reduceIte, Nat.reduceAdd, Nat.reduceLeDiff, Nat.reduceEqDiff, Nat.reduceLT, Nat.reduceSub, Nat.reduceBEq, forall_const, reduceCtorEq, implies_true, exists_eq_left', exists_eq_left, if_true, if_false, undef])) rfl ?_
    simp (maxSteps := 1000000) only [open_back h1 (fun x hx => (hE x hx).1) (by omega), e2, EA, EB, EC, ED, EE, EF, EG, XA, XB, XC, XD, XE, XF, XG, XH, XI, XJ, XK, XL, reduceIte, ↓reduceIte, Nat.reduceAdd, Nat.reduceLeDiff, Nat.reduceEqDiff, Nat.reduceLT, Nat.reduceSub, Nat.reduceBEq, forall_const, reduceCtorEq, implies_true, exists_eq_left', exists_eq_left, if_true, if_false, undef]
    refine callF (CallsA.args (ints_spec c c hc) (by simp [EA, EB, EC, ED, EE, EF, EG, XA, XB, XC, XD, XE, XF, XG, XH, XI, XJ, XK, XL, reduceIte, ↓reduceIte, Nat.reduceAdd, Nat.reduceLeDiff, Nat.reduceEqDiff, Nat.reduceLT, Nat.reduceSub, Nat.reduceBEq, forall_const, reduceCtorEq, implies_true, exists_eq_left', exists_eq_left, if_true, if_false, undef])) rfl (by simp [flat, EA, EB, EC, ED, EE, EF, EG, XA, XB, XC, XD, XE, XF, XG, XH, XI, XJ, XK, XL, reduceIte, ↓reduceIte, Nat.reduceAdd, Nat.reduceLeDiff, Nat.reduceEqDiff, Nat.reduceLT, Nat.reduceSub, Nat.reduceBEq, forall_const, reduceCtorEq, implies_true, exists_eq_left', exists_eq_left, if_true, if_false, undef]) ?_
    simp [EA, EB, EC, ED, EE, EF, EG, XA, XB, XC, XD, XE, XF, XG, XH, XI, XJ, XK, XL, reduceIte, ↓reduceIte, Nat.reduceAdd, Nat.reduceLeDiff, Nat.reduceEqDiff, Nat.reduceLT, Nat.reduceSub, Nat.reduceBEq, forall_const, reduceCtorEq, implies_true, exists_eq_left', exists_eq_left, if_true, if_false, undef]
  · have e1 : (packErr c != 0) = true := by simp [h0]
    simp (maxSteps := 1000000) only [packAns, h0, if_false, e1, EA, EB, EC, ED, EE, EF, EG, XA, XB, XC, XD, XE, XF, XG, XH, XI, XJ, XK, XL, reduceIte, ↓reduceIte, Nat.reduceAdd, Nat.reduceLeDiff, Nat.reduceEqDiff, Nat.reduceLT, Nat.reduceSub, Nat.reduceBEq, forall_const, reduceCtorEq, implies_true, exists_eq_left', exists_eq_left, if_true, if_false, undef]

def sh_TwoBack : List Sh := [.slice 1 (.int .i64)]
theorem law_TwoBack (xs : List AV) (h : HasAll sh_TwoBack xs) : CallsA Tryd.prog 6 xs (.v (.bool true)) [] := by
  obtain ⟨x, r, rfl, hx, rfl⟩ := h
  obtain ⟨c, rfl, hc⟩ := hasInts hx
  exact twoBack_spec c hc

end Go.Av
namespace Go.Proofs.YtanmgfcgoffahaaDoor
open Go.ChangeShapes Go.WideShapes Go.ChangeAt Go.RowKit
open Go.Av (open_all shut_all OldS HasAll Sh CallsA shAll)

theorem own : ownKnob Tryd.prog.godebug = none := by kernel_rfl
theorem laidOut : laidOutB Tryd.prog = true := by kernel_rfl
theorem shs_eq : shAll Tryd.prog 12 Tryd.f6.params.toList = some Go.Av.sh_TwoBack := by kernel_rfl
theorem readable : (Tryd.f6.params.toList.all fun t => Tryd.prog.readableRec t && decide (t < Tryd.prog.types.size)) = true := by kernel_rfl
theorem noStandIn : (Tryd.f6.params.toList.all fun t => !Tryd.prog.wantsStandIn t) = true := by kernel_rfl

theorem lifted (os : Os) (started : os.Started) (H : Type) (enc : TypeId × Value → H) :
    ReturnsInHanded {} Tryd.checked os 6 .any (fun w args => (Rows.twoBackSpec.pre enc Tryd.prog Tryd.f6 Rows.twoBackRow.domain false w args ∧ laidMet Tryd.prog Rows.twoBackRow.laid w) ∧ sizedMet enc Tryd.prog Tryd.f6 (OpenSpec.ofChange Rows.twoBackSpec) false w args)
      (Rows.twoBackSpec.post enc Tryd.prog Tryd.f6 false true false false) := by
  refine returnsInHanded_of_change_and (C := Tryd.checked) (X := fun w _ => laidMet Tryd.prog Rows.twoBackRow.laid w) (fun _ _ _ hh h => h.of_heap hh) own started (by kernel_rfl) Tryd.func6
    (ChangeSpec.witness_at (enc := enc) (C := Tryd.checked) (os := os) (X := fun w _ => laidMet Tryd.prog Rows.twoBackRow.laid w) false (laidWorld os) #[.slice none 0 0] 8 rfl (by kernel_rfl) (by kernel_rfl) (by kernel_rfl) (by kernel_rfl) (by kernel_rfl) (laid_met os _)) ?_
  intro W base args ds gs before hval0 hW hcnd _ hL _
  have hval : ∀ (j : Nat) t v, Tryd.f6.params[j]? = some t → args[j]? = some v → Value.okWide Tryd.prog W .any base t v := hval0
  have hW' := hW
  obtain ⟨p, q, hA0, hV, rfl, hfz, hnd⟩ := hW
  have hA : DataW.TrodAll enc Tryd.prog W 0 (fun _ => true) true Tryd.f6.params.toList args.toList ds p := hA0
  obtain ⟨xs, hxs, hlen, hR⟩ := open_all (g := 12) _ _ _ _ Go.Av.sh_TwoBack hA (fun j t v ht hv => hval j t v (by simpa using ht) (by simpa using hv)) shs_eq
  obtain ⟨rfl, rfl⟩ := trodVars_none hV
  have hB := hA
  rw [Tryd.params6] at hB
  obtain ⟨v0, vs0, d0, ds0, p0, q0, hargs0, rfl, rfl, h0, r0⟩ := trodAll_cons hB
  obtain ⟨rfl, rfl, rfl⟩ := trodAll_nil r0
  refine ((Go.Av.law_TwoBack xs hxs).2 W (OldS W) args (sb_of_laid hL) (by simpa using hlen) (fun i x y h1 h2 => hR i x y h1 (by simpa using h2))).mono ?_
  rintro e W' ⟨v, S', κ', rfl, hv, _, _, _, bel⟩
  rw [hv.v_inv]
  exact ⟨_, rfl, _, _, _, [], _, [], hW', trodAll_mk1 (shut_bool Tryd.underlying4 _), shut_all laidOut bel _ _ _ _ (fun t ht => by
    have := (List.all_eq_true.1 readable) t ht
    simpa using this) hA, rfl, bel.frame _, fun h => by cases h⟩

theorem twoBack_row : Rows.TwoBackSaid :=
  OpenClaim.holds_of_wide 6 Tryd.f6 rfl rfl rfl rfl rfl rfl rfl ⟨rfl, rfl, rfl, rfl, rfl⟩ rfl rfl rfl rfl rfl (by kernel_rfl) Tryd.func6 (by kernel_rfl)
    (of_decide_eq_true (by kernel_rfl)) (by unfold Func.isWrapper; first | (rw [if_pos (by decide +kernel)]; kernel_rfl) | (rw [if_neg (by decide +kernel)]; exact ⟨rfl, rfl⟩))
    (fun os started H enc _ => lifted os started H enc)

theorem twoBack_holds : Rows.TwoBackCardSaid :=
  Claim7.holds_tied_plain_at .later [] [.data] true (true, "7c311db4e37b5dccc0990b66dd926de2e0805e9f4338a1b0e7797fc0aa290842") false
    twoBack_row (fun _ h => by cases h) (by kernel_rfl) (fun _ h => by cases h) twoBack_row_tie rfl ⟨rfl, rfl⟩ (by kernel_rfl) rfl
    (fun f fn hf hfn => by
      obtain rfl : f = 6 := Option.some.inj ((show Tryd.prog.funcNamed "tapeworks/tapeworkskeep.TwoBack" = some 6 by kernel_rfl).symm.trans hf) |>.symm
      obtain rfl : fn = Tryd.f6 := (Option.some.inj (Tryd.func6.symm.trans hfn)).symm
      exact ⟨by kernel_rfl, fun j t ht => by
        have := (List.all_eq_true.1 noStandIn) t (List.mem_of_getElem? (by simpa using ht))
        exact (show Tryd.prog.wantsStandIn t = false by simpa using this)⟩)
    (by kernel_rfl)

end Go.Proofs.YtanmgfcgoffahaaDoor
