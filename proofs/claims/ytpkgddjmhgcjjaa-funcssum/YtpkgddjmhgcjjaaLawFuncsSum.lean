/- For any two numbers: what goes on from the one by one more each time is their sum; for all arguments. -/
import Derived.Test.YtpkgddjmhgcjjaaFunY
import Derived.Test.YtpkgddjmhgcjjaaRows
import Derived.ProofKit
set_option linter.unusedSimpArgs false
set_option linter.unusedVariables false
set_option maxRecDepth 100000
namespace Go.Av
open Go.Proofs

def sumL : List Fn := [⟨3, 1, 0, 0, 0, []⟩, ⟨2, 1, 0, 0, 0, []⟩, ⟨3, 3, 2, 0, 0, []⟩, ⟨4, 3, 0, 1, 0, [2]⟩, ⟨5, 2, 0, 0, 3, []⟩]
theorem sum_chk : chk sumL = 0 := by kernel_rfl
theorem sum_rank : rankV sumL = 6 := by kernel_rfl
def sumOk (x y : Nat) : Bool := (valR sumL [x, y]).1 && ((valR sumL [x, y]).2.1 == x + y)
theorem sum_all : ((List.range 21).all fun x => (List.range 21).all fun y => sumOk x y) = true := by kernel_rfl
theorem sum_val {x y : Nat} (hx : x < 21) (hy : y < 21) : valAns (valR sumL [x, y]) = .tup [IN (x + y), I 0] := by
  have h := (List.all_eq_true.1 ((List.all_eq_true.1 sum_all) x (List.mem_range.2 hx))) y (List.mem_range.2 hy)
  simp only [sumOk, Bool.and_eq_true, beq_iff_eq] at h
  rw [valAns, if_pos h.1, h.2]

/-- a slice that is only read whose elements' parts stand for others -/
def RoW (xs ys : List AV) : Prop := xs.length = ys.length ∧ ∀ (i : Nat) x y, xs[i]? = some x → ys[i]? = some y → x.cells.length = y.cells.length ∧ allCell y.cells = true ∧ WkL x.cells y.cells
theorem RoW.R0 {w : World} {S : Nat → Prop} {sz : Nat} {xs ys : List AV} {v : Value} (hw : RoW xs ys) (h : R0 w S (.ro sz xs) v) : R0 w S (.ro sz ys) v := by
  obtain ⟨hl, hw⟩ := hw
  cases h with
  | roNil => have : ys = [] := List.length_eq_zero_iff.1 (by simpa using hl.symm); subst this; exact .roNil
  | ro hb hcap hs hc h =>
    have get : ∀ (i : Nat) y, ys[i]? = some y → ∃ x, xs[i]? = some x := fun i y hy => by
      have := (List.getElem?_eq_some_iff.1 hy).1
      exact ⟨xs[i], by simp⟩
    rw [hl]
    refine .ro hb (by omega) (fun i y hy => ?_) (fun o ho => hc o (by rw [hl]; exact ho)) (fun i y j z hy hz => ?_)
    · obtain ⟨x, hx⟩ := get i y hy
      obtain ⟨h1, h2, h3⟩ := hw i x y hx hy
      exact ⟨by rw [← h1]; exact (hs i x hx).1, h2⟩
    · obtain ⟨x, hx⟩ := get i y hy
      obtain ⟨h1, h2, h3⟩ := hw i x y hx hy
      have hj : j < x.cells.length := by have := (List.getElem?_eq_some_iff.1 hz).1; omega
      exact Wk_R0 (h i x j x.cells[j] hx (by simp [hj])) ((WkL_get h3).2 j _ z (by simp [hj]) hz)
theorem CallsA.args2 {P : Program} {f : FuncId} {args args' : List AV} {r : AV} {rm : List MObj} (h : CallsA P f args' r rm) (hl : args.length = args'.length)
    (hw : ∀ (i : Nat) x y, args[i]? = some x → args'[i]? = some y → ∀ w S v, R0 w S x v → R0 w S y v) : CallsA P f args r rm := by
  refine ⟨h.1, fun w S vals hS hl2 hR => h.2 w S vals hS (by omega) (fun i x y hx hy => ?_)⟩
  have hi : i < args.length := by have := (List.getElem?_eq_some_iff.1 hx).1; omega
  exact hw i args[i] x (by simp [hi]) hx _ _ _ (hR i args[i] y (by simp [hi]) hy)

def sumA : List AV := [.agg [I 3, I 1, I 0, I 0, I 0, .v (.slice none 0 0)], .agg [I 2, I 1, I 0, I 0, I 0, .v (.slice none 0 0)], .agg [I 3, I 3, I 2, I 0, I 0, .v (.slice none 0 0)], .agg [I 4, I 3, I 0, I 1, I 0, .ro 1 [I 2]], .agg [I 5, I 2, I 0, I 0, I 3, .v (.slice none 0 0)]]
theorem sum_row : RoW sumA (sumL.map encF) := by
  refine ⟨rfl, fun i x y hx hy => ?_⟩
  have hi : i < 5 := (List.getElem?_eq_some_iff.1 hx).1
  have hc : i = 0 ∨ i = 1 ∨ i = 2 ∨ i = 3 ∨ i = 4 := by omega
  rcases hc with rfl | rfl | rfl | rfl | rfl <;>
  · simp only [sumA, sumL, List.map_cons, List.map_nil, List.getElem?_cons_succ, List.getElem?_cons_zero, Option.some.injEq, encF] at hx hy
    subst hx hy
    refine ⟨rfl, rfl, ?_⟩
    simp [AV.cells, WkL, Wk, I]

theorem sum_r0 (w : World) (S : Nat → Prop) (v : Value) (h : R0 w S (.ro 6 sumA) v) : R0 w S (.ro 6 (sumL.map encF)) v := sum_row.R0 h

theorem funcsSum_spec (a b : Nat) (ha : a < 256) (hb : b < 256) : CallsA Try.prog 8 [.v (.int .u8 a), .v (.int .u8 b)] (Bo true) [] := by
  refine fn_of0 comp8 (by simp) ?_
  unfold code8
  have e1 : (IntKind.i64.wrap (a : Int)).tmod 21 = ((a % 21 : Nat) : Int) := by
    rw [wrap_id, Int.tmod_eq_emod_of_nonneg] <;> omega
  have e2 : (IntKind.i64.wrap (b : Int)).tmod 21 = ((b % 21 : Nat) : Int) := by
    rw [wrap_id, Int.tmod_eq_emod_of_nonneg] <;> omega
  have hx : a % 21 < 21 := by omega
  have hy : b % 21 < 21 := by omega
  have v1 := value_spec sumL [a % 21, b % 21] (by simp; omega) sum_chk rfl
  have v2 := rank_spec sumL sum_chk
  rw [sum_val hx hy] at v1
  rw [sum_rank] at v2
  have h1 : CallsA Try.prog 12 [.ro 6 sumA, aN [a % 21, b % 21]] (.tup [IN (a % 21 + b % 21), I 0]) [] := by
    refine CallsA.args2 v1 rfl (fun i x y h1 h2 w S v hR => ?_)
    match i, h1, h2 with
    | 0, h1, h2 => simp only [List.getElem?_cons_zero, Option.some.injEq] at h1 h2; subst h1 h2; exact sum_r0 w S v hR
    | 1, h1, h2 => simp only [List.getElem?_cons_succ, List.getElem?_cons_zero, Option.some.injEq] at h1 h2; subst h1 h2; exact hR
    | i + 2, h1, h2 => simp at h1
  have h2 : CallsA Try.prog 15 [.ro 6 sumA] (.tup [I 6, I 0]) [] := by
    refine CallsA.args2 v2 rfl (fun i x y h1 h2 w S v hR => ?_)
    match i, h1, h2 with
    | 0, h1, h2 => simp only [List.getElem?_cons_zero, Option.some.injEq] at h1 h2; subst h1 h2; exact sum_r0 w S v hR
    | i + 1, h1, h2 => simp at h1
  clear v1 v2
  simp (maxSteps := 1000000) only [e1, e2, encF, encU, EA, EB, EC, ED, EE, EF, EG, EH, XA, XB, XC, XD, XE, XF, XG, XH, XI, XJ, XK, XL, XM, reduceIte, ↓reduceIte, Nat.reduceAdd, Nat.reduceLeDiff, Nat.reduceEqDiff, Nat.reduceLT, Nat.reduceSub, Nat.reduceBEq, forall_const, reduceCtorEq, implies_true, exists_eq_left', exists_eq_left, if_true, if_false, undef]
  generalize a % 21 = x at *
  generalize b % 21 = y at *
  have w1 : IntKind.i64.wrap ((x : Int) + (y : Int)) = ((x + y : Nat) : Int) := by rw [wrap_id] <;> omega
  have q1 : (((x + y : Nat) : Int) == ((x + y : Nat) : Int)) = true := by simp
  have q2 : ((0 : Int) == 0) = true := by decide
  have q3 : ((6 : Int) == 6) = true := by decide
  refine ⟨by decide, by decide, FzVC.no ?_⟩
  simp (maxSteps := 1000000) only [encF, encU, EA, EB, EC, ED, EE, EF, EG, EH, XA, XB, XC, XD, XE, XF, XG, XH, XI, XJ, XK, XL, XM, reduceIte, ↓reduceIte, Nat.reduceAdd, Nat.reduceLeDiff, Nat.reduceEqDiff, Nat.reduceLT, Nat.reduceSub, Nat.reduceBEq, forall_const, reduceCtorEq, implies_true, exists_eq_left', exists_eq_left, if_true, if_false, undef]
  refine callA (CallsA.args (h1 ) (by simp [ sumA,encF, encU, EA, EB, EC, ED, EE, EF, EG, EH, XA, XB, XC, XD, XE, XF, XG, XH, XI, XJ, XK, XL, XM, reduceIte, ↓reduceIte, Nat.reduceAdd, Nat.reduceLeDiff, Nat.reduceEqDiff, Nat.reduceLT, Nat.reduceSub, Nat.reduceBEq, forall_const, reduceCtorEq, implies_true, exists_eq_left', exists_eq_left, if_true, if_false, undef])) rfl ?_
  simp (maxSteps := 1000000) only [encF, encU, EA, EB, EC, ED, EE, EF, EG, EH, XA, XB, XC, XD, XE, XF, XG, XH, XI, XJ, XK, XL, XM, reduceIte, ↓reduceIte, Nat.reduceAdd, Nat.reduceLeDiff, Nat.reduceEqDiff, Nat.reduceLT, Nat.reduceSub, Nat.reduceBEq, forall_const, reduceCtorEq, implies_true, exists_eq_left', exists_eq_left, if_true, if_false, undef]
  refine callA (CallsA.args (h2 ) (by simp [ sumA,encF, encU, EA, EB, EC, ED, EE, EF, EG, EH, XA, XB, XC, XD, XE, XF, XG, XH, XI, XJ, XK, XL, XM, reduceIte, ↓reduceIte, Nat.reduceAdd, Nat.reduceLeDiff, Nat.reduceEqDiff, Nat.reduceLT, Nat.reduceSub, Nat.reduceBEq, forall_const, reduceCtorEq, implies_true, exists_eq_left', exists_eq_left, if_true, if_false, undef])) rfl ?_
  simp (maxSteps := 1000000) only [w1, q1, q2, q3, Bo, encF, encU, EA, EB, EC, ED, EE, EF, EG, EH, XA, XB, XC, XD, XE, XF, XG, XH, XI, XJ, XK, XL, XM, reduceIte, ↓reduceIte, Nat.reduceAdd, Nat.reduceLeDiff, Nat.reduceEqDiff, Nat.reduceLT, Nat.reduceSub, Nat.reduceBEq, forall_const, reduceCtorEq, implies_true, exists_eq_left', exists_eq_left, if_true, if_false, undef]

def sh_FuncsSum : List Sh := [.int .u8, .int .u8]
theorem law_FuncsSum (xs : List AV) (h : HasAll sh_FuncsSum xs) : CallsA Try.prog 8 xs (.v (.bool true)) [] := by
  obtain ⟨x, r, rfl, hx, y, r, rfl, hy, rfl⟩ := h
  obtain ⟨c, rfl, hc⟩ := hasInt hx
  obtain ⟨d, rfl, hd⟩ := hasInt hy
  have := u8_range hc
  have := u8_range hd
  have := funcsSum_spec c.toNat d.toNat (by omega) (by omega)
  rw [Int.toNat_of_nonneg (by omega), Int.toNat_of_nonneg (by omega)] at this
  exact this

end Go.Av
namespace Go.Proofs.Ytpkgddjmhgcjjaa
open Go.ChangeShapes Go.WideShapes Go.ChangeAt Go.RowKit
open Go.Av (open_all shut_all OldS HasAll Sh CallsA shAll)

theorem own : ownKnob Try.prog.godebug = none := by kernel_rfl
theorem laidOut : laidOutB Try.prog = true := by kernel_rfl
theorem shs_eq : shAll Try.prog 12 Try.f8.params.toList = some Go.Av.sh_FuncsSum := by kernel_rfl
theorem readable : (Try.f8.params.toList.all fun t => Try.prog.readableRec t && decide (t < Try.prog.types.size)) = true := by kernel_rfl

theorem lifted (os : Os) (started : os.Started) (H : Type) (enc : TypeId × Value → H) :
    ReturnsInHanded {} Try.checked os 8 .any (Rows.funcsSumSpec.pre6 enc Try.prog Try.f8 Rows.funcsSumRow.domain false) (Rows.funcsSumSpec.post enc Try.prog Try.f8 false true false false) := by
  refine returnsInHanded_of_change (C := Try.checked) own started (by kernel_rfl) Try.func8
    (ChangeSpec.witness6 (enc := enc) (C := Try.checked) false ⟨#[], #[.int .u8 0, .int .u8 0], []⟩ 8 (by kernel_rfl) (by kernel_rfl) (by kernel_rfl) (by kernel_rfl)) ?_
  intro W base args ds gs before hval0 hW hcnd _
  have hval : ∀ (j : Nat) t v, Try.f8.params[j]? = some t → args[j]? = some v → Value.okWide Try.prog W .any base t v := hval0
  have hW' := hW
  obtain ⟨p, q, hA0, hV, rfl, hfz, hnd⟩ := hW
  have hA : DataW.TrodAll enc Try.prog W 0 (fun _ => true) true Try.f8.params.toList args.toList ds p := hA0
  obtain ⟨xs, hxs, hlen, hR⟩ := open_all (g := 12) _ _ _ _ Go.Av.sh_FuncsSum hA (fun j t v ht hv => hval j t v (by simpa using ht) (by simpa using hv)) shs_eq
  obtain ⟨rfl, rfl⟩ := trodVars_none hV
  have hB := hA
  rw [Try.params8] at hB
  obtain ⟨v0, vs0, d0, ds0, p0, q0, hargs0, rfl, rfl, h0, r0⟩ := trodAll_cons hB
  obtain ⟨v1, vs1, d1, ds1, p1, q1, hargs1, rfl, rfl, h1, r1⟩ := trodAll_cons r0
  obtain ⟨rfl, rfl, rfl⟩ := trodAll_nil r1
  refine ((Go.Av.law_FuncsSum xs hxs).2 W (OldS W) args ⟨fun _ h => h, fun g cs hm => by simp [Go.Av.globs] at hm⟩ (by simpa using hlen) (fun i x y h1 h2 => hR i x y h1 (by simpa using h2))).mono ?_
  rintro e W' ⟨v, S', κ', rfl, hv, _, _, _, bel⟩
  rw [hv.v_inv]
  exact ⟨_, rfl, _, _, _, [], _, [], hW', trodAll_mk1 (shut_bool Try.underlying4 _), shut_all laidOut bel _ _ _ _ (fun t ht => by
    have := (List.all_eq_true.1 readable) t ht
    simpa using this) hA, rfl, bel.frame _, fun h => by cases h⟩

theorem funcsSum_holds : Rows.FuncsSumSaid :=
  OpenClaim.holds_of_wide 8 Try.f8 rfl rfl rfl rfl rfl rfl rfl ⟨rfl, rfl, rfl, rfl, rfl⟩ rfl rfl rfl rfl rfl (by kernel_rfl) Try.func8 (by kernel_rfl)
    (of_decide_eq_true (by kernel_rfl)) (by unfold Func.isWrapper; first | (rw [if_pos (by decide +kernel)]; kernel_rfl) | (rw [if_neg (by decide +kernel)]; exact ⟨rfl, rfl⟩))
    (fun os started H enc _ => lifted os started H enc)

end Go.Proofs.Ytpkgddjmhgcjjaa
