/- One clause more holds of no more values; for arguments of bulk at most 1048576. -/
import Derived.Test.YtblakcgmngdhmaaNamP
import Derived.Test.YtblakcgmngdhmaaUpto
import Derived.Test.YtblakcgmngdhmaaLend
set_option linter.unusedSimpArgs false
set_option linter.unusedVariables false
set_option maxRecDepth 100000
namespace Go.Av
open Go.Proofs

theorem all_app (l : List Cl) (c : Cl) (v : List Bool) : allT (l ++ [c]) v = (allT l v && clT v c) := by simp [allT]
theorem many_app (n : Nat) (l : List Cl) (c : Cl) : manyN n (l ++ [c]) ≤ manyN n l := by
  refine sumR_le (fun w _ => ?_)
  rw [all_app]
  cases allT l (bitsL n w) <;> cases clT (bitsL n w) c <;> simp
theorem many_nil (n : Nat) : manyN n [] = 2 ^ n := by
  have : sumR (fun w => (allT [] (bitsL n w)).toNat) (2 ^ n) = sumR (fun _ => 1) (2 ^ n) := sumR_congr (fun k _ => rfl)
  rw [manyN, this, sumR_const, Nat.mul_one]
theorem firstErr_app {f : Cl → Int} {l : List Cl} {c : Cl} (h : firstErr f l ≠ 0) : firstErr f (l ++ [c]) ≠ 0 := by
  induction l with
  | nil => exact absurd rfl h
  | cons x l ih =>
    rw [firstErr] at h
    rw [List.cons_append, firstErr]
    split
    · rename_i h1; exact h1
    · rename_i h1; rw [if_neg h1] at h; exact ih h
theorem err_app {vars : Int} {l : List Cl} {c : Cl} (h : clausesErr vars 8 l ≠ 0) : clausesErr vars 8 (l ++ [c]) ≠ 0 := by
  rw [clausesErr] at h ⊢
  split
  · decide
  · rename_i h1
    rw [List.length_append, List.length_singleton] at h1
    rw [if_neg (by omega)] at h
    exact firstErr_app h

theorem nameMore_spec (vars : Int) (l : List Cl) (c : Cl) (hl : l.length ≤ 1048576) (hle : ClLen l) (hc : (c.yes.length : Int) < 2 ^ 63 ∧ (c.no.length : Int) < 2 ^ 63) :
    CallsA Try.prog 7 [I vars, .ro 2 (l.map encCl), encCl c] (Bo true) [] := by
  refine fn_of0 comp7 (by simp) ?_
  unfold code7
  have e00 : ((0 : Int) == 0) = true := by decide
  have n00 : ((0 : Int) != 0) = false := by decide
  have hll : ((l.map encCl).length : Int) = l.length := by simp
  have hle2 : ClLen (l ++ [c]) := ⟨by simp; omega, fun k hk => by
    rcases List.mem_append.1 hk with hk | hk
    · exact hle.at_ k hk
    · simp only [List.mem_singleton] at hk; subst hk; exact hc⟩
  have hp := nameManyP_spec vars l hle
  have hq := nameManyP_spec vars (l ++ [c]) hle2
  have hM : CallsM Try.prog 11 [I vars, .arr 0 0 (l.length + 1)] [.arr 2 (l.map encCl ++ [encCl c])] (manyAns vars (l ++ [c])) [none] := by
    rw [List.map_append] at hq
    exact CallsM.ofA hq (by simp [frzL, frz, pos, memOf, memFrom, lookM, List.take_of_length_le]) rfl
  simp (maxSteps := 1000000) only [encCl, encG, XX, reduceIte, ↓reduceIte, Nat.reduceAdd, Nat.reduceLeDiff, Nat.reduceEqDiff, Nat.reduceLT, Nat.reduceSub, Nat.reduceBEq, forall_const, reduceCtorEq, implies_true, exists_eq_left', exists_eq_left, if_true, if_false, undef]
  refine callA (CallsA.args (hp) (by simp [encCl, encG, XX, undef])) rfl ?_
  have hA : ∃ (a e : Int), manyAns vars l = .tup [I a, I e] ∧ (e = 0 → clausesErr vars 8 l = 0 ∧ a = manyN vars.toNat l) ∧ (e ≠ 0 → clausesErr vars 8 l ≠ 0 ∧ a = 0) := by
    by_cases h : clausesErr vars 8 l = 0
    · exact ⟨_, _, by rw [manyAns, if_neg (by simp [h])], fun _ => ⟨h, rfl⟩, fun hh => absurd rfl hh⟩
    · exact ⟨_, _, by rw [manyAns, if_pos h], fun hh => absurd hh h, fun _ => ⟨h, rfl⟩⟩
  have hB : ∃ (a e : Int), manyAns vars (l ++ [c]) = .tup [I a, I e] ∧ (e = 0 → clausesErr vars 8 (l ++ [c]) = 0 ∧ a = manyN vars.toNat (l ++ [c])) ∧ (e ≠ 0 → clausesErr vars 8 (l ++ [c]) ≠ 0 ∧ a = 0) := by
    by_cases h : clausesErr vars 8 (l ++ [c]) = 0
    · exact ⟨_, _, by rw [manyAns, if_neg (by simp [h])], fun _ => ⟨h, rfl⟩, fun hh => absurd rfl hh⟩
    · exact ⟨_, _, by rw [manyAns, if_pos h], fun hh => absurd hh h, fun _ => ⟨h, rfl⟩⟩
  obtain ⟨a, e, ha, a1, a2⟩ := hA
  obtain ⟨b, f, hb, b1, b2⟩ := hB
  rw [ha]
  rw [hb] at hM
  simp (maxSteps := 1000000) only [hll, splice, AV.cells, encCl, List.length_map, encCl, encG, XX, reduceIte, ↓reduceIte, Nat.reduceAdd, Nat.reduceLeDiff, Nat.reduceEqDiff, Nat.reduceLT, Nat.reduceSub, Nat.reduceBEq, forall_const, reduceCtorEq, implies_true, exists_eq_left', exists_eq_left, if_true, if_false, undef]
  refine ⟨by omega, by omega, ?_⟩
  refine callX [16] [] (hM) (by simp [encCl, encG, XX, undef]) (by simp [encCl, encG, XX, undef]) (by simp) (by simp [encCl, encG, XX, undef]) (by simp [encCl, encG, XX, undef]) (by simp [encCl, encG, XX, undef]) (by simp [encCl, encG, XX, undef]) (by simp) ?_
  simp (maxSteps := 1000000) only [Option.toList_some, Option.toList_none, encCl, encG, XX, reduceIte, ↓reduceIte, Nat.reduceAdd, Nat.reduceLeDiff, Nat.reduceEqDiff, Nat.reduceLT, Nat.reduceSub, Nat.reduceBEq, forall_const, reduceCtorEq, implies_true, exists_eq_left', exists_eq_left, if_true, if_false, undef]
  refine ⟨by decide, ?_⟩
  by_cases he : e = 0
  rotate_left
  · obtain ⟨h1, rfl⟩ := a2 he
    have hf : f ≠ 0 := fun hh => err_app h1 (b1 hh).1
    obtain ⟨h2, rfl⟩ := b2 hf
    have g1 : (e != 0) = true := by simpa using he
    have g2 : (f != 0) = true := by simpa using hf
    simp (maxSteps := 1000000) only [g1, g2, e00, Bo, encCl, encG, XX, reduceIte, ↓reduceIte, Nat.reduceAdd, Nat.reduceLeDiff, Nat.reduceEqDiff, Nat.reduceLT, Nat.reduceSub, Nat.reduceBEq, forall_const, reduceCtorEq, implies_true, exists_eq_left', exists_eq_left, if_true, if_false, undef]
  obtain ⟨h1, rfl⟩ := a1 he
  subst he
  by_cases hf : f = 0
  rotate_left
  · obtain ⟨h2, rfl⟩ := b2 hf
    have g2 : (f != 0) = true := by simpa using hf
    simp (maxSteps := 1000000) only [n00, g2, e00, Bo, encCl, encG, XX, reduceIte, ↓reduceIte, Nat.reduceAdd, Nat.reduceLeDiff, Nat.reduceEqDiff, Nat.reduceLT, Nat.reduceSub, Nat.reduceBEq, forall_const, reduceCtorEq, implies_true, exists_eq_left', exists_eq_left, if_true, if_false, undef]
  obtain ⟨h2, rfl⟩ := b1 hf
  subst hf
  obtain ⟨hr, h200, hok⟩ := clauses_ok h1
  obtain ⟨n, rfl⟩ : ∃ n : Nat, vars = n := ⟨vars.toNat, by omega⟩
  rw [Int.toNat_natCast]
  have hma := many_app n l c
  have hm0 := many_nil n
  have hcv : IntKind.u64.wrap (n : Int) = (n : Int) := wrap_u64 (by omega) (by omega)
  have hsh := shl_one (show n < 62 by omega)
  have g3 : decide ((manyN n (l ++ [c]) : Int) ≤ (manyN n l : Int)) = true := by simp only [decide_eq_true_eq]; omega
  have g4 : decide ((manyN n (l ++ [c]) : Int) ≥ 0) = true := by simp only [decide_eq_true_eq]; omega
  by_cases hl0 : l.length > 0
  · have g5 : decide ((l.length : Int) > 0) = true := by simp only [decide_eq_true_eq]; omega
    simp (maxSteps := 1000000) only [n00, g3, g4, g5, hll, Bo, encCl, encG, XX, reduceIte, ↓reduceIte, Nat.reduceAdd, Nat.reduceLeDiff, Nat.reduceEqDiff, Nat.reduceLT, Nat.reduceSub, Nat.reduceBEq, forall_const, reduceCtorEq, implies_true, exists_eq_left', exists_eq_left, if_true, if_false, undef]
  · have g5 : decide ((l.length : Int) > 0) = false := by simp only [decide_eq_false_iff_not]; omega
    have hnil : l = [] := List.eq_nil_of_length_eq_zero (by omega)
    have g6 : ((manyN n l : Int) == ((2 ^ n : Nat) : Int)) = true := by rw [hnil, hm0]; simp
    simp (maxSteps := 1000000) only [n00, g3, g4, g5, g6, hcv, hsh, hll, Bo, encCl, encG, XX, reduceIte, ↓reduceIte, Nat.reduceAdd, Nat.reduceLeDiff, Nat.reduceEqDiff, Nat.reduceLT, Nat.reduceSub, Nat.reduceBEq, forall_const, reduceCtorEq, implies_true, exists_eq_left', exists_eq_left, if_true, if_false, undef]
    omega

def sh_NameMore : List Sh := [.int .i64, shCls, shCl]
theorem law_NameMore (xs : List AV) (h : HasAll sh_NameMore xs) (hb : ∀ sz l, xs[1]? = some (.ro sz l) → l.length ≤ 1048576) : CallsA Try.prog 7 xs (.v (.bool true)) [] := by
  obtain ⟨x, r, rfl, hx, y, r, rfl, hy, z, r, rfl, hz, rfl⟩ := h
  obtain ⟨n, rfl, _⟩ := hasInt hx
  obtain ⟨l, rfl, hl⟩ := hasClauses hy
  obtain ⟨c, rfl, hc⟩ := hasClause hz
  exact nameMore_spec n l c (by have := hb 2 _ rfl; rwa [List.length_map] at this) hl hc

end Go.Av
namespace Go.Proofs.Ytblakcgmngdhmaa
open Go.ChangeShapes Go.WideShapes Go.ChangeAt Go.RowKit
open Go.Av (open_all shut_all OldS HasAll Sh CallsA shAll)

theorem own : ownKnob Try.prog.godebug = none := by kernel_rfl
theorem laidOut : laidOutB Try.prog = true := by kernel_rfl
theorem shs_eq : shAll Try.prog 12 Try.f7.params.toList = some Go.Av.sh_NameMore := by kernel_rfl
theorem readable : (Try.f7.params.toList.all fun t => Try.prog.readableRec t && decide (t < Try.prog.types.size)) = true := by kernel_rfl

theorem lifted (os : Os) (started : os.Started) (H : Type) (enc : TypeId × Value → H) (F : Stop.Interp) :
    ReturnsInHanded {} Try.checked os 7 .any ((Rows.OpenSpec.upto Rows.nameMoreSpec).pre6 enc Try.prog Try.f7 Rows.nameMoreUptoRow.domain false) (((Rows.OpenSpec.upto Rows.nameMoreSpec).at F).post enc Try.prog Try.f7 false true false false) := by
  refine returnsInHanded_of_cond (C := Try.checked) (s := Rows.OpenSpec.upto Rows.nameMoreSpec) (k := Rows.uptoSmall) rfl own started (by kernel_rfl) Try.func7
    (OpenSpec.witness (enc := enc) (C := Try.checked) (s := Rows.OpenSpec.upto Rows.nameMoreSpec) (k := Rows.uptoSmall) rfl false ⟨#[], #[.int .i64 0, .slice none 0 0, .agg #[.slice none 0 0, .slice none 0 0]], []⟩ 8 (by kernel_rfl) (by kernel_rfl) (by kernel_rfl)
      (x := ([.lit (.int .i64 0), .nil, .agg [.nil, .nil]], [], [])) (by kernel_rfl) rfl (by kernel_rfl)) ?_
  intro W base args ds gs before hval0 hW _ hk _
  have hval : ∀ (j : Nat) t v, Try.f7.params[j]? = some t → args[j]? = some v → Value.okWide Try.prog W .any base t v := hval0
  have hW' := hW
  obtain ⟨p, q, hA0, hV, rfl, hfz, hnd⟩ := hW
  have hA : DataW.TrodAll enc Try.prog W 0 (fun _ => true) true Try.f7.params.toList args.toList ds p := hA0
  obtain ⟨xs, hxs, hlen, hR⟩ := open_all (g := 12) _ _ _ _ Go.Av.sh_NameMore hA (fun j t v ht hv => hval j t v (by simpa using ht) (by simpa using hv)) shs_eq
  obtain ⟨rfl, rfl⟩ := trodVars_none hV
  have hB := hA
  rw [Try.params7] at hB
  obtain ⟨v0, vs0, d0, ds0, p0, q0, hargs0, rfl, rfl, h0, r0⟩ := trodAll_cons hB
  obtain ⟨v1, vs1, d1, ds1, p1, q1, hargs1, rfl, rfl, h1, r1⟩ := trodAll_cons r0
  obtain ⟨v2, vs2, d2, ds2, p2, q2, hargs2, rfl, rfl, h2, r2⟩ := trodAll_cons r1
  obtain ⟨rfl, rfl, rfl⟩ := trodAll_nil r2
  refine ((Go.Av.law_NameMore xs hxs (fun sz l hx => Nat.le_trans (Go.Av.top_len (by kernel_rfl) h1 (hR 1 _ _ hx (by simp [hargs0, hargs1])) sz l rfl) (Go.Av.bulk_bound hk (by simp)))).2 W (OldS W) args ⟨fun _ h => h, fun g cs hm => by simp [Go.Av.globs] at hm⟩ (by simpa using hlen) (fun i x y h1 h2 => hR i x y h1 (by simpa using h2))).mono ?_
  rintro e W' ⟨v, S', κ', rfl, hv, _, _, _, bel⟩
  rw [hv.v_inv]
  exact ⟨_, rfl, _, _, _, [], _, [], hW', trodAll_mk1 (shut_bool Try.underlying4 _), shut_all laidOut bel _ _ _ _ (fun t ht => by
    have := (List.all_eq_true.1 readable) t ht
    simpa using this) hA, rfl, bel.frame _, fun h => by cases h⟩

theorem nameMore_holds : Rows.NameMoreUptoSaid :=
  OpenClaim.holds_of_cond 7 Try.f7 rfl rfl rfl rfl rfl rfl rfl ⟨rfl, rfl, rfl, rfl, rfl⟩ rfl rfl rfl rfl rfl (by kernel_rfl) Try.func7 (by kernel_rfl)
    (of_decide_eq_true (by kernel_rfl)) (by unfold Func.isWrapper; first | (rw [if_pos (by decide +kernel)]; kernel_rfl) | (rw [if_neg (by decide +kernel)]; exact ⟨rfl, rfl⟩))
    (fun os started H enc _ F => lifted os started H enc F)

end Go.Proofs.Ytblakcgmngdhmaa
