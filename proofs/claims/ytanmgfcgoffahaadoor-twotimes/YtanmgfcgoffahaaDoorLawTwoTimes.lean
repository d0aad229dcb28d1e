/- The product of the encodings of two lists of counters is the encoding of their sums; for all arguments, the listed variable holding what the program's text lays. -/
import Derived.Test.YtanmgfcgoffahaaDoorTwo
import Derived.Test.YtanmgfcgoffahaaDoorLaid
import Derived.Test.YtanmgfcgoffahaaDoorCards
import Derived.Test.YtanmgfcgoffahaaDoorTie
set_option linter.unusedSimpArgs false
set_option linter.unusedVariables false
set_option maxRecDepth 100000
namespace Go.Av
open Go.Proofs

theorem open_back {c : List Int} (h1 : 1 ≤ c.length ∧ c.length ≤ 4) (hc : ∀ x ∈ c, 0 ≤ x) (hp : 1 ≤ (packed c : Int)) : openAns (c.length : Int) (packed c : Nat) = .tup [.ro 1 (c.map I), I 0] := by
  have ho := opn_packed h1.2 hc
  have h0 : openErr (c.length : Int) (packed c : Nat) = 0 := by
    rw [openErr, if_neg (by omega), if_neg (by omega), if_neg]
    simp [ho]
  rw [openAns, if_pos h0]
  simp only [Int.toNat_natCast, ho, List.map_map]
  congr 2
  congr 1
  refine List.map_congr_left fun x hx => ?_
  have := hc x hx
  simp only [Function.comp]
  rw [Int.toNat_of_nonneg this]

theorem twoTimes_spec (a b : List Int) (ha : (a.length : Int) < 2 ^ 63) (hb : (b.length : Int) < 2 ^ 63) : CallsA Tryd.prog 7 [.ro 1 (a.map I), .ro 1 (b.map I)] (Bo true) [] := by
  refine fn_of0 comp7 (by simp) ?_
  unfold code7
  simp (maxSteps := 1000000) only [EA, EB, EC, ED, EE, EF, EG, XA, XB, XC, XD, XE, XF, XG, XH, XI, XJ, XK, XL, reduceIte, ↓reduceIte, Nat.reduceAdd, Nat.reduceLeDiff, Nat.reduceEqDiff, Nat.reduceLT, Nat.reduceSub, Nat.reduceBEq, forall_const, reduceCtorEq, implies_true, exists_eq_left', exists_eq_left, if_true, if_false, undef]
  refine callA (CallsA.args (pack_spec a ha) (by simp [EA, EB, EC, ED, EE, EF, EG, XA, XB, XC, XD, XE, XF, XG, XH, XI, XJ, XK, XL, reduceIte, ↓reduceIte, Nat.reduceAdd, Nat.reduceLeDiff, Nat.reduceEqDiff, Nat.reduceLT, Nat.reduceSub, Nat.reduceBEq, forall_const, reduceCtorEq, implies_true, exists_eq_left', exists_eq_left, if_true, if_false, undef])) rfl ?_
  have hal : ((a.map I).length : Int) = a.length := by simp
  have hbl : ((b.map I).length : Int) = b.length := by simp
  have e1 : ((0 : Int) != 0) = false := by decide
  have e2 : ((0 : Int) == 0) = true := by decide
  by_cases h0 : packErr a = 0
  · obtain ⟨h1, hE⟩ := packErr_ok h0
    have hB := packed4 hE
    have hp := packed_pos a
    simp (maxSteps := 1000000) only [packAns, h0, if_true, EA, EB, EC, ED, EE, EF, EG, XA, XB, XC, XD, XE, XF, XG, XH, XI, XJ, XK, XL, reduceIte, ↓reduceIte, Nat.reduceAdd, Nat.reduceLeDiff, Nat.reduceEqDiff, Nat.reduceLT, Nat.reduceSub, Nat.reduceBEq, forall_const, reduceCtorEq, implies_true, exists_eq_left', exists_eq_left, if_true, if_false, undef]
    refine callA (CallsA.args (pack_spec b hb) (by simp [EA, EB, EC, ED, EE, EF, EG, XA, XB, XC, XD, XE, XF, XG, XH, XI, XJ, XK, XL, reduceIte, ↓reduceIte, Nat.reduceAdd, Nat.reduceLeDiff, Nat.reduceEqDiff, Nat.reduceLT, Nat.reduceSub, Nat.reduceBEq, forall_const, reduceCtorEq, implies_true, exists_eq_left', exists_eq_left, if_true, if_false, undef])) rfl ?_
    by_cases g0 : packErr b = 0
    · obtain ⟨g1, gE⟩ := packErr_ok g0
      have gB := packed4 gE
      have gp := packed_pos b
      by_cases hl : a.length = b.length
      · have e3 : ((a.length : Int) != (b.length : Int)) = false := by simp [hl]
        simp (maxSteps := 1000000) only [packAns, g0, if_true, e1, e3, hal, hbl, EA, EB, EC, ED, EE, EF, EG, XA, XB, XC, XD, XE, XF, XG, XH, XI, XJ, XK, XL, reduceIte, ↓reduceIte, Nat.reduceAdd, Nat.reduceLeDiff, Nat.reduceEqDiff, Nat.reduceLT, Nat.reduceSub, Nat.reduceBEq, forall_const, reduceCtorEq, implies_true, exists_eq_left', exists_eq_left, if_true, if_false, undef]
        have hz : packed (List.zipWith (· + ·) a b) = packed a * packed b := packed_add hl (fun x hx => (hE x hx).1) (fun x hx => (gE x hx).1)
        have hzl : (List.zipWith (· + ·) a b).length = a.length := by simp [hl]
        have hbig : packed a * packed b ≤ 1944810000 * 1944810000 := Nat.mul_le_mul hB gB
        have hw : IntKind.i64.wrap ((packed a : Int) * (packed b : Int)) = (packed (List.zipWith (· + ·) a b) : Nat) := by
          rw [hz, ← Int.natCast_mul, wrap_id] <;> omega
        have hzp : 0 < packed (List.zipWith (· + ·) a b) := packed_pos _
        have hob := open_back (c := List.zipWith (· + ·) a b) (by omega) (fun x hx => by
          obtain ⟨i, hi, rfl⟩ := List.getElem_of_mem hx
          simp only [List.length_zipWith] at hi
          have := (hE a[i] (List.getElem_mem _)).1
          have := (gE b[i] (List.getElem_mem _)).1
          simp; omega) (by omega)
        rw [hzl] at hob
        simp (maxSteps := 1000000) only [hw, EA, EB, EC, ED, EE, EF, EG, XA, XB, XC, XD, XE, XF, XG, XH, XI, XJ, XK, XL, reduceIte, ↓reduceIte, Nat.reduceAdd, Nat.reduceLeDiff, Nat.reduceEqDiff, Nat.reduceLT, Nat.reduceSub, Nat.reduceBEq, forall_const, reduceCtorEq, implies_true, exists_eq_left', exists_eq_left, if_true, if_false, undef]
        refine callA (CallsA.args (open_spec (a.length : Int) (packed (List.zipWith (· + ·) a b) : Nat) (by omega) ) (by simp [ hal, hw,EA, EB, EC, ED, EE, EF, EG, XA, XB, XC, XD, XE, XF, XG, XH, XI, XJ, XK, XL, reduceIte, ↓reduceIte, Nat.reduceAdd, Nat.reduceLeDiff, Nat.reduceEqDiff, Nat.reduceLT, Nat.reduceSub, Nat.reduceBEq, forall_const, reduceCtorEq, implies_true, exists_eq_left', exists_eq_left, if_true, if_false, undef])) rfl ?_
        have hzl' : (((List.zipWith (· + ·) a b).map I).length : Int) = a.length := by simp [hl]
        have e4 : ((a.length : Int) != (a.length : Int)) = false := by simp
        simp (maxSteps := 1000000) only [hob, e1, hzl', hal, e4, EA, EB, EC, ED, EE, EF, EG, XA, XB, XC, XD, XE, XF, XG, XH, XI, XJ, XK, XL, reduceIte, ↓reduceIte, Nat.reduceAdd, Nat.reduceLeDiff, Nat.reduceEqDiff, Nat.reduceLT, Nat.reduceSub, Nat.reduceBEq, forall_const, reduceCtorEq, implies_true, exists_eq_left', exists_eq_left, if_true, if_false, undef]
        refine loop0 Nat [11] (fun k => [I k]) (fun k => k ≤ a.length) (fun k => a.length - k) (by decide) 0 (by simp) (by simp [Back, SubT, Sub, SubL, SubM, SubO, keepM, srcOk, look, lookM, ev, evs, putT, argT, EA, EB, EC, ED, EE, EF, EG, XA, XB, XC, XD, XE, XF, XG, XH, XI, XJ, XK, XL, reduceIte, ↓reduceIte, Nat.reduceAdd, Nat.reduceLeDiff, Nat.reduceEqDiff, Nat.reduceLT, Nat.reduceSub, Nat.reduceBEq, forall_const, reduceCtorEq, implies_true, exists_eq_left', exists_eq_left, if_true, if_false, undef]) (fun k hk => ?_)
        by_cases h : k < a.length
        · have f1 : decide ((k : Int) < (a.length : Int)) = true := by simp [h]
          have hw1 : IntKind.i64.wrap ((k : Int) + 1) = ((k + 1 : Nat) : Int) := by rw [wrap_id] <;> omega
          have hkb : k < b.length := by omega
          have r1 := hE a[k] (List.getElem_mem h)
          have r2 := gE b[k] (List.getElem_mem hkb)
          have hw2 : IntKind.i64.wrap (a[k] + b[k]) = a[k] + b[k] := by rw [wrap_id] <;> omega
          have hzk : (List.zipWith (· + ·) a b)[k]'(by omega) = a[k] + b[k] := by simp
          have f2 : ((a[k] + b[k]) != (a[k] + b[k])) = false := by simp
          simp (maxSteps := 1000000) only [f1, hzl', EA, EB, EC, ED, EE, EF, EG, XA, XB, XC, XD, XE, XF, XG, XH, XI, XJ, XK, XL, reduceIte, ↓reduceIte, Nat.reduceAdd, Nat.reduceLeDiff, Nat.reduceEqDiff, Nat.reduceLT, Nat.reduceSub, Nat.reduceBEq, forall_const, reduceCtorEq, implies_true, exists_eq_left', exists_eq_left, if_true, if_false, undef]
          refine ⟨by omega, pickM (by omega) ?_⟩
          simp (maxSteps := 1000000) only [EA, EB, EC, ED, EE, EF, EG, XA, XB, XC, XD, XE, XF, XG, XH, XI, XJ, XK, XL, reduceIte, ↓reduceIte, Nat.reduceAdd, Nat.reduceLeDiff, Nat.reduceEqDiff, Nat.reduceLT, Nat.reduceSub, Nat.reduceBEq, forall_const, reduceCtorEq, implies_true, exists_eq_left', exists_eq_left, if_true, if_false, undef]
          refine ⟨by omega, pickM h ?_⟩
          simp (maxSteps := 1000000) only [EA, EB, EC, ED, EE, EF, EG, XA, XB, XC, XD, XE, XF, XG, XH, XI, XJ, XK, XL, reduceIte, ↓reduceIte, Nat.reduceAdd, Nat.reduceLeDiff, Nat.reduceEqDiff, Nat.reduceLT, Nat.reduceSub, Nat.reduceBEq, forall_const, reduceCtorEq, implies_true, exists_eq_left', exists_eq_left, if_true, if_false, undef]
          refine ⟨by omega, pickM hkb ?_⟩
          simp (maxSteps := 1000000) only [hzk, hw2, f2, hw1, EA, EB, EC, ED, EE, EF, EG, XA, XB, XC, XD, XE, XF, XG, XH, XI, XJ, XK, XL, reduceIte, ↓reduceIte, Nat.reduceAdd, Nat.reduceLeDiff, Nat.reduceEqDiff, Nat.reduceLT, Nat.reduceSub, Nat.reduceBEq, forall_const, reduceCtorEq, implies_true, exists_eq_left', exists_eq_left, if_true, if_false, undef]
          exact ⟨k + 1, by omega, by omega, by simp [Back, SubT, Sub, SubL, SubM, SubO, keepM, srcOk, look, lookM, ev, evs, putT, argT, EA, EB, EC, ED, EE, EF, EG, XA, XB, XC, XD, XE, XF, XG, XH, XI, XJ, XK, XL, reduceIte, ↓reduceIte, Nat.reduceAdd, Nat.reduceLeDiff, Nat.reduceEqDiff, Nat.reduceLT, Nat.reduceSub, Nat.reduceBEq, forall_const, reduceCtorEq, implies_true, exists_eq_left', exists_eq_left, if_true, if_false, undef]⟩
        · have f1 : decide ((k : Int) < (a.length : Int)) = false := by simp [h]
          simp (maxSteps := 1000000) only [f1, hzl', EA, EB, EC, ED, EE, EF, EG, XA, XB, XC, XD, XE, XF, XG, XH, XI, XJ, XK, XL, reduceIte, ↓reduceIte, Nat.reduceAdd, Nat.reduceLeDiff, Nat.reduceEqDiff, Nat.reduceLT, Nat.reduceSub, Nat.reduceBEq, forall_const, reduceCtorEq, implies_true, exists_eq_left', exists_eq_left, if_true, if_false, undef]
      · have e3 : ((a.length : Int) != (b.length : Int)) = true := by simp; omega
        have e5 : ((packed a : Int) == 0) = false := by simp; omega
        have e6 : ((packed b : Int) == 0) = false := by simp; omega
        simp (maxSteps := 1000000) only [packAns, g0, if_true, e1, e3, e5, e6, hal, hbl, EA, EB, EC, ED, EE, EF, EG, XA, XB, XC, XD, XE, XF, XG, XH, XI, XJ, XK, XL, reduceIte, ↓reduceIte, Nat.reduceAdd, Nat.reduceLeDiff, Nat.reduceEqDiff, Nat.reduceLT, Nat.reduceSub, Nat.reduceBEq, forall_const, reduceCtorEq, implies_true, exists_eq_left', exists_eq_left, if_true, if_false, undef]
    · have e4 : (packErr b != 0) = true := by simp [g0]
      have e5 : ((packed a : Int) == 0) = false := by simp; omega
      simp (maxSteps := 1000000) only [packAns, g0, if_false, e1, e2, e4, e5, EA, EB, EC, ED, EE, EF, EG, XA, XB, XC, XD, XE, XF, XG, XH, XI, XJ, XK, XL, reduceIte, ↓reduceIte, Nat.reduceAdd, Nat.reduceLeDiff, Nat.reduceEqDiff, Nat.reduceLT, Nat.reduceSub, Nat.reduceBEq, forall_const, reduceCtorEq, implies_true, exists_eq_left', exists_eq_left, if_true, if_false, undef]
  · have e4 : (packErr a != 0) = true := by simp [h0]
    simp (maxSteps := 1000000) only [packAns, h0, if_false, EA, EB, EC, ED, EE, EF, EG, XA, XB, XC, XD, XE, XF, XG, XH, XI, XJ, XK, XL, reduceIte, ↓reduceIte, Nat.reduceAdd, Nat.reduceLeDiff, Nat.reduceEqDiff, Nat.reduceLT, Nat.reduceSub, Nat.reduceBEq, forall_const, reduceCtorEq, implies_true, exists_eq_left', exists_eq_left, if_true, if_false, undef]
    refine callA (CallsA.args (pack_spec b hb) (by simp [EA, EB, EC, ED, EE, EF, EG, XA, XB, XC, XD, XE, XF, XG, XH, XI, XJ, XK, XL, reduceIte, ↓reduceIte, Nat.reduceAdd, Nat.reduceLeDiff, Nat.reduceEqDiff, Nat.reduceLT, Nat.reduceSub, Nat.reduceBEq, forall_const, reduceCtorEq, implies_true, exists_eq_left', exists_eq_left, if_true, if_false, undef])) rfl ?_
    by_cases g0 : packErr b = 0
    · simp (maxSteps := 1000000) only [packAns, g0, if_true, e4, e2, EA, EB, EC, ED, EE, EF, EG, XA, XB, XC, XD, XE, XF, XG, XH, XI, XJ, XK, XL, reduceIte, ↓reduceIte, Nat.reduceAdd, Nat.reduceLeDiff, Nat.reduceEqDiff, Nat.reduceLT, Nat.reduceSub, Nat.reduceBEq, forall_const, reduceCtorEq, implies_true, exists_eq_left', exists_eq_left, if_true, if_false, undef]
      exact ⟨_, rfl⟩
    · simp (maxSteps := 1000000) only [packAns, g0, if_false, e4, e2, EA, EB, EC, ED, EE, EF, EG, XA, XB, XC, XD, XE, XF, XG, XH, XI, XJ, XK, XL, reduceIte, ↓reduceIte, Nat.reduceAdd, Nat.reduceLeDiff, Nat.reduceEqDiff, Nat.reduceLT, Nat.reduceSub, Nat.reduceBEq, forall_const, reduceCtorEq, implies_true, exists_eq_left', exists_eq_left, if_true, if_false, undef]
      exact ⟨_, rfl⟩

def sh_TwoTimes : List Sh := [.slice 1 (.int .i64), .slice 1 (.int .i64)]
theorem law_TwoTimes (xs : List AV) (h : HasAll sh_TwoTimes xs) : CallsA Tryd.prog 7 xs (.v (.bool true)) [] := by
  obtain ⟨x, r, rfl, hx, y, r, rfl, hy, rfl⟩ := h
  obtain ⟨a, rfl, ha⟩ := hasInts hx
  obtain ⟨b, rfl, hb⟩ := hasInts hy
  exact twoTimes_spec a b ha hb

end Go.Av
namespace Go.Proofs.YtanmgfcgoffahaaDoor
open Go.ChangeShapes Go.WideShapes Go.ChangeAt Go.RowKit
open Go.Av (open_all shut_all OldS HasAll Sh CallsA shAll)

theorem own : ownKnob Tryd.prog.godebug = none := by kernel_rfl
theorem laidOut : laidOutB Tryd.prog = true := by kernel_rfl
theorem shs_eq : shAll Tryd.prog 12 Tryd.f7.params.toList = some Go.Av.sh_TwoTimes := by kernel_rfl
theorem readable : (Tryd.f7.params.toList.all fun t => Tryd.prog.readableRec t && decide (t < Tryd.prog.types.size)) = true := by kernel_rfl
theorem noStandIn : (Tryd.f7.params.toList.all fun t => !Tryd.prog.wantsStandIn t) = true := by kernel_rfl

theorem lifted (os : Os) (started : os.Started) (H : Type) (enc : TypeId × Value → H) :
    ReturnsInHanded {} Tryd.checked os 7 .any (fun w args => (Rows.twoTimesSpec.pre enc Tryd.prog Tryd.f7 Rows.twoTimesRow.domain false w args ∧ laidMet Tryd.prog Rows.twoTimesRow.laid w) ∧ sizedMet enc Tryd.prog Tryd.f7 (OpenSpec.ofChange Rows.twoTimesSpec) false w args)
      (Rows.twoTimesSpec.post enc Tryd.prog Tryd.f7 false true false false) := by
  refine returnsInHanded_of_change_and (C := Tryd.checked) (X := fun w _ => laidMet Tryd.prog Rows.twoTimesRow.laid w) (fun _ _ _ hh h => h.of_heap hh) own started (by kernel_rfl) Tryd.func7
    (ChangeSpec.witness_at (enc := enc) (C := Tryd.checked) (os := os) (X := fun w _ => laidMet Tryd.prog Rows.twoTimesRow.laid w) false (laidWorld os) #[.slice none 0 0, .slice none 0 0] 8 rfl (by kernel_rfl) (by kernel_rfl) (by kernel_rfl) (by kernel_rfl) (by kernel_rfl) (laid_met os _)) ?_
  intro W base args ds gs before hval0 hW hcnd _ hL _
  have hval : ∀ (j : Nat) t v, Tryd.f7.params[j]? = some t → args[j]? = some v → Value.okWide Tryd.prog W .any base t v := hval0
  have hW' := hW
  obtain ⟨p, q, hA0, hV, rfl, hfz, hnd⟩ := hW
  have hA : DataW.TrodAll enc Tryd.prog W 0 (fun _ => true) true Tryd.f7.params.toList args.toList ds p := hA0
  obtain ⟨xs, hxs, hlen, hR⟩ := open_all (g := 12) _ _ _ _ Go.Av.sh_TwoTimes hA (fun j t v ht hv => hval j t v (by simpa using ht) (by simpa using hv)) shs_eq
  obtain ⟨rfl, rfl⟩ := trodVars_none hV
  have hB := hA
  rw [Tryd.params7] at hB
  obtain ⟨v0, vs0, d0, ds0, p0, q0, hargs0, rfl, rfl, h0, r0⟩ := trodAll_cons hB
  obtain ⟨v1, vs1, d1, ds1, p1, q1, hargs1, rfl, rfl, h1, r1⟩ := trodAll_cons r0
  obtain ⟨rfl, rfl, rfl⟩ := trodAll_nil r1
  refine ((Go.Av.law_TwoTimes xs hxs).2 W (OldS W) args (sb_of_laid hL) (by simpa using hlen) (fun i x y h1 h2 => hR i x y h1 (by simpa using h2))).mono ?_
  rintro e W' ⟨v, S', κ', rfl, hv, _, _, _, bel⟩
  rw [hv.v_inv]
  exact ⟨_, rfl, _, _, _, [], _, [], hW', trodAll_mk1 (shut_bool Tryd.underlying4 _), shut_all laidOut bel _ _ _ _ (fun t ht => by
    have := (List.all_eq_true.1 readable) t ht
    simpa using this) hA, rfl, bel.frame _, fun h => by cases h⟩

theorem twoTimes_row : Rows.TwoTimesSaid :=
  OpenClaim.holds_of_wide 7 Tryd.f7 rfl rfl rfl rfl rfl rfl rfl ⟨rfl, rfl, rfl, rfl, rfl⟩ rfl rfl rfl rfl rfl (by kernel_rfl) Tryd.func7 (by kernel_rfl)
    (of_decide_eq_true (by kernel_rfl)) (by unfold Func.isWrapper; first | (rw [if_pos (by decide +kernel)]; kernel_rfl) | (rw [if_neg (by decide +kernel)]; exact ⟨rfl, rfl⟩))
    (fun os started H enc _ => lifted os started H enc)

theorem twoTimes_holds : Rows.TwoTimesCardSaid :=
  Claim7.holds_tied_plain_at .later [] [.data] true (true, "7c311db4e37b5dccc0990b66dd926de2e0805e9f4338a1b0e7797fc0aa290842") false
    twoTimes_row (fun _ h => by cases h) (by kernel_rfl) (fun _ h => by cases h) twoTimes_row_tie rfl ⟨rfl, rfl⟩ (by kernel_rfl) rfl
    (fun f fn hf hfn => by
      obtain rfl : f = 7 := Option.some.inj ((show Tryd.prog.funcNamed "tapeworks/tapeworkskeep.TwoTimes" = some 7 by kernel_rfl).symm.trans hf) |>.symm
      obtain rfl : fn = Tryd.f7 := (Option.some.inj (Tryd.func7.symm.trans hfn)).symm
      exact ⟨by kernel_rfl, fun j t ht => by
        have := (List.all_eq_true.1 noStandIn) t (List.mem_of_getElem? (by simpa using ht))
        exact (show Tryd.prog.wantsStandIn t = false by simpa using this)⟩)
    (by kernel_rfl)

end Go.Proofs.YtanmgfcgoffahaaDoor
