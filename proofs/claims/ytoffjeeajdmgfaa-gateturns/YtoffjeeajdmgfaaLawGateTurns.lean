/- Any circuit has an equal one in which what is not is an input; for all arguments. -/
import Derived.Test.YtoffjeeajdmgfaaCirX
import Derived.Test.YtoffjeeajdmgfaaRows
import Derived.ProofKit
set_option linter.unusedSimpArgs false
set_option linter.unusedVariables false
set_option maxRecDepth 100000
namespace Go.Av
open Go.Proofs

theorem gateTurns_spec (inn : Int) (l : List Gt) (hl : (l.length : Int) < 2 ^ 63) : CallsA Try.prog 4 [I inn, .ro 3 (l.map encG)] (Bo true) [] := by
  obtain ⟨m, hcall, hbad, hgood⟩ := gateTurnP_spec inn l hl
  refine fn_of0 comp4 (by simp) ?_
  unfold code4
  have e00 : ((0 : Int) == 0) = true := by decide
  have n00 : ((0 : Int) != 0) = false := by decide
  have hll : ((l.map encG).length : Int) = l.length := by simp
  have hml : ((m.map encG).length : Int) = m.length := by simp
  simp (maxSteps := 1000000) only [encG, XX, reduceIte, ↓reduceIte, Nat.reduceAdd, Nat.reduceLeDiff, Nat.reduceEqDiff, Nat.reduceLT, Nat.reduceSub, Nat.reduceBEq, forall_const, reduceCtorEq, implies_true, exists_eq_left', exists_eq_left, if_true, if_false, undef]
  refine callA (CallsA.args (hcall) (by simp [encG, XX, undef])) rfl ?_
  simp (maxSteps := 1000000) only [encG, XX, reduceIte, ↓reduceIte, Nat.reduceAdd, Nat.reduceLeDiff, Nat.reduceEqDiff, Nat.reduceLT, Nat.reduceSub, Nat.reduceBEq, forall_const, reduceCtorEq, implies_true, exists_eq_left', exists_eq_left, if_true, if_false, undef]
  refine callF (CallsA.args (gateCheck_spec inn l hl) (by simp [encG, XX, undef])) rfl (by simp [flat, encG, XX, undef]) ?_
  by_cases h0 : gateErr inn l = 0
  rotate_left
  · have f : (gateErr inn l != 0) = true := by simpa using h0
    have e : (gateErr inn l == gateErr inn l) = true := by simp
    obtain rfl := hbad h0
    simp (maxSteps := 1000000) only [f, e, e00, List.map_nil, List.length_nil, Int.ofNat_eq_natCast, Int.natCast_zero, Bo, encG, XX, reduceIte, ↓reduceIte, Nat.reduceAdd, Nat.reduceLeDiff, Nat.reduceEqDiff, Nat.reduceLT, Nat.reduceSub, Nat.reduceBEq, forall_const, reduceCtorEq, implies_true, exists_eq_left', exists_eq_left, if_true, if_false, undef]
    try rfl
  obtain ⟨hi, h40, hok⟩ := gate_ok h0
  obtain ⟨g1, g2, g3, g4, g5⟩ := hgood h0
  obtain ⟨n, rfl⟩ : ∃ n : Nat, inn = n := ⟨inn.toNat, by omega⟩
  have hn : n ≤ 5 := by omega
  have f1 : ((m.length : Int) == 0) = false := by simp only [beq_eq_false_iff_ne, ne_eq]; omega
  have w2 : IntKind.i64.wrap (2 * (l.length : Int)) = 2 * (l.length : Int) := wrap_id (by omega) (by omega)
  have f2 : decide ((m.length : Int) > 2 * (l.length : Int)) = false := by simp; omega
  have hcv : IntKind.u64.wrap (n : Int) = (n : Int) := wrap_u64 (by omega) (by omega)
  have hsh := shl_one (show n < 62 by omega)
  have hgs := gatesCheck_spec n m (by omega)
  rw [gs_ok.2 g3] at hgs
  rw [h0]
  simp (maxSteps := 1000000) only [n00, hll, hml, f1, f2, w2, encG, XX, reduceIte, ↓reduceIte, Nat.reduceAdd, Nat.reduceLeDiff, Nat.reduceEqDiff, Nat.reduceLT, Nat.reduceSub, Nat.reduceBEq, forall_const, reduceCtorEq, implies_true, exists_eq_left', exists_eq_left, if_true, if_false, undef]
  refine callF (CallsA.args (hgs) (by simp [encG, XX, undef])) rfl (by simp [flat, encG, XX, undef]) ?_
  simp (maxSteps := 1000000) only [n00, hml, encG, XX, reduceIte, ↓reduceIte, Nat.reduceAdd, Nat.reduceLeDiff, Nat.reduceEqDiff, Nat.reduceLT, Nat.reduceSub, Nat.reduceBEq, forall_const, reduceCtorEq, implies_true, exists_eq_left', exists_eq_left, if_true, if_false, undef]
  refine loop0 Nat [53] (fun k => [IN k]) (fun k => k ≤ m.length) (fun k => m.length - k) (by decide) 0 (by simp) (by simp [Back, BackF, fzT, fzM, fzU, fz, fzL, fzO, kin, SubT, Sub, SubL, SubM, SubO, keepM, srcOk, look, lookM, ev, evs, putT, argT, encG, XX, undef]) (fun k hk => ?_)
  by_cases c1 : k < m.length
  · have c : decide ((k : Int) < (m.length : Int)) = true := by simp [c1]
    have hwk : IntKind.i64.wrap ((k : Int) + 1) = ((k + 1 : Nat) : Int) := by rw [wrap_id] <;> omega
    have hok2 := g3 k c1
    have hnn := g4 k c1
    simp (maxSteps := 1000000) only [hml, c, encG, XX, reduceIte, ↓reduceIte, Nat.reduceAdd, Nat.reduceLeDiff, Nat.reduceEqDiff, Nat.reduceLT, Nat.reduceSub, Nat.reduceBEq, forall_const, reduceCtorEq, implies_true, exists_eq_left', exists_eq_left, if_true, if_false, undef]
    refine ⟨by omega, pickM c1 ?_⟩
    generalize m[k] = g at *
    obtain ⟨kd, a, b⟩ := g
    simp (maxSteps := 1000000) only [encG, splice, AV.cells, encG, XX, reduceIte, ↓reduceIte, Nat.reduceAdd, Nat.reduceLeDiff, Nat.reduceEqDiff, Nat.reduceLT, Nat.reduceSub, Nat.reduceBEq, forall_const, reduceCtorEq, implies_true, exists_eq_left', exists_eq_left, if_true, if_false, undef]
    by_cases h2 : kd = 2
    · have f : (kd == 2) = true := by simpa using h2
      have ha := hok2.first (by simp only; omega)
      simp only at ha
      have hga : gAt m a.toNat = m[a.toNat] := by rw [gAt, List.getElem?_eq_getElem (by omega)]; rfl
      have hka := hnn h2
      simp only at hka
      rw [hga] at hka
      simp (maxSteps := 1000000) only [f, encG, XX, reduceIte, ↓reduceIte, Nat.reduceAdd, Nat.reduceLeDiff, Nat.reduceEqDiff, Nat.reduceLT, Nat.reduceSub, Nat.reduceBEq, forall_const, reduceCtorEq, implies_true, exists_eq_left', exists_eq_left, if_true, if_false, undef]
      refine ⟨by omega, pickI (by omega) ?_⟩
      generalize m[a.toNat] = ga at *
      obtain ⟨kd', a', b'⟩ := ga
      simp only at hka
      have f' : (kd' != 1) = false := by simp [hka]
      simp (maxSteps := 1000000) only [encG, f', hwk, AV.cells, encG, XX, reduceIte, ↓reduceIte, Nat.reduceAdd, Nat.reduceLeDiff, Nat.reduceEqDiff, Nat.reduceLT, Nat.reduceSub, Nat.reduceBEq, forall_const, reduceCtorEq, implies_true, exists_eq_left', exists_eq_left, if_true, if_false, undef]
      exact ⟨k + 1, by omega, by omega, by simp [Back, BackF, fzT, fzM, fzU, fz, fzL, fzO, kin, SubT, Sub, SubL, SubM, SubO, keepM, srcOk, look, lookM, ev, evs, putT, argT, encG, XX, undef]⟩
    · have f : (kd == 2) = false := by simpa using h2
      simp (maxSteps := 1000000) only [f, hwk, encG, XX, reduceIte, ↓reduceIte, Nat.reduceAdd, Nat.reduceLeDiff, Nat.reduceEqDiff, Nat.reduceLT, Nat.reduceSub, Nat.reduceBEq, forall_const, reduceCtorEq, implies_true, exists_eq_left', exists_eq_left, if_true, if_false, undef]
      exact ⟨k + 1, by omega, by omega, by simp [Back, BackF, fzT, fzM, fzU, fz, fzL, fzO, kin, SubT, Sub, SubL, SubM, SubO, keepM, srcOk, look, lookM, ev, evs, putT, argT, encG, XX, undef]⟩
  have c : decide ((k : Int) < (m.length : Int)) = false := by simp; omega
  simp (maxSteps := 1000000) only [hml, c, encG, XX, reduceIte, ↓reduceIte, Nat.reduceAdd, Nat.reduceLeDiff, Nat.reduceEqDiff, Nat.reduceLT, Nat.reduceSub, Nat.reduceBEq, forall_const, reduceCtorEq, implies_true, exists_eq_left', exists_eq_left, if_true, if_false, undef]
  have hp5 : 2 ^ n ≤ 2 ^ 5 := Nat.pow_le_pow_right (by decide) hn
  have hp5' : 2 ^ n ≤ 32 := hp5
  refine loop0 Nat [10] (fun k => [IN k]) (fun k => k ≤ 2 ^ n) (fun k => 2 ^ n - k) (by decide) 0 (by simp) (by simp [Back, BackF, fzT, fzM, fzU, fz, fzL, fzO, kin, SubT, Sub, SubL, SubM, SubO, keepM, srcOk, look, lookM, ev, evs, putT, argT, encG, XX, undef]) (fun w hwl => ?_)
  by_cases c2 : w < 2 ^ n
  rotate_left
  · have c : decide ((w : Int) < ((2 ^ n : Nat) : Int)) = false := decide_eq_false (fun h => c2 (Int.ofNat_lt.1 h))
    simp (maxSteps := 1000000) only [hcv, hsh, c, Bo, encG, XX, reduceIte, ↓reduceIte, Nat.reduceAdd, Nat.reduceLeDiff, Nat.reduceEqDiff, Nat.reduceLT, Nat.reduceSub, Nat.reduceBEq, forall_const, reduceCtorEq, implies_true, exists_eq_left', exists_eq_left, if_true, if_false, undef]
    omega
  have c : decide ((w : Int) < ((2 ^ n : Nat) : Int)) = true := decide_eq_true (Int.ofNat_lt.2 c2)
  have hww : IntKind.i64.wrap ((w : Int) + 1) = ((w + 1 : Nat) : Int) := by rw [wrap_id] <;> omega
  have wl : IntKind.i64.wrap ((l.length : Int) - 1) = ((l.length - 1 : Nat) : Int) := by rw [wrap_id] <;> omega
  have wm : IntKind.i64.wrap ((m.length : Int) - 1) = ((m.length - 1 : Nat) : Int) := by rw [wrap_id] <;> omega
  have hgl := gval_get (w := w) (l := l) h40.1
  have hgm := gval_get (w := w) (l := m) g1
  rw [g5] at hgm
  have e : (gval w l != gval w l) = false := by simp
  simp (maxSteps := 1000000) only [hcv, hsh, c, hll, wl, encG, XX, reduceIte, ↓reduceIte, Nat.reduceAdd, Nat.reduceLeDiff, Nat.reduceEqDiff, Nat.reduceLT, Nat.reduceSub, Nat.reduceBEq, forall_const, reduceCtorEq, implies_true, exists_eq_left', exists_eq_left, if_true, if_false, undef]
  refine ⟨by omega, ?_⟩
  refine callXd (CallsA.args (gates_spec w n l (by omega) (by omega) hok (by omega)) (by simp [encG, XX, undef])) rfl (by simp [flat, encG, XX, undef]) (by simp [encG, XX, undef]) ?_
  simp (maxSteps := 1000000) only [hll, wl, encG, XX, reduceIte, ↓reduceIte, Nat.reduceAdd, Nat.reduceLeDiff, Nat.reduceEqDiff, Nat.reduceLT, Nat.reduceSub, Nat.reduceBEq, forall_const, reduceCtorEq, implies_true, exists_eq_left', exists_eq_left, if_true, if_false, undef]
  refine ⟨by omega, Pick.mk (Bo (gval w l)) (by rw [Int.toNat_natCast]; exact hgl) ?_⟩
  simp (maxSteps := 1000000) only [encG, XX, reduceIte, ↓reduceIte, Nat.reduceAdd, Nat.reduceLeDiff, Nat.reduceEqDiff, Nat.reduceLT, Nat.reduceSub, Nat.reduceBEq, forall_const, reduceCtorEq, implies_true, exists_eq_left', exists_eq_left, if_true, if_false, undef]
  refine callD (CallsA.args (gates_spec w n m (by omega) (by omega) g3 (by omega)) (by simp [encG, XX, undef])) rfl (by simp [flat, encG, XX, undef]) (by simp [encG, XX, undef]) ?_
  simp (maxSteps := 1000000) only [hml, wm, encG, XX, reduceIte, ↓reduceIte, Nat.reduceAdd, Nat.reduceLeDiff, Nat.reduceEqDiff, Nat.reduceLT, Nat.reduceSub, Nat.reduceBEq, forall_const, reduceCtorEq, implies_true, exists_eq_left', exists_eq_left, if_true, if_false, undef]
  refine ⟨by omega, Pick.mk (Bo (gval w l)) (by rw [Int.toNat_natCast]; exact hgm) ?_⟩
  simp (maxSteps := 1000000) only [e, hww, Bo, Option.toList_some, Option.toList_none, encG, XX, reduceIte, ↓reduceIte, Nat.reduceAdd, Nat.reduceLeDiff, Nat.reduceEqDiff, Nat.reduceLT, Nat.reduceSub, Nat.reduceBEq, forall_const, reduceCtorEq, implies_true, exists_eq_left', exists_eq_left, if_true, if_false, undef]
  exact ⟨w + 1, by omega, by omega, by simp [Back, BackF, fzT, fzM, fzU, fz, fzL, fzO, kin, SubT, Sub, SubL, SubM, SubO, keepM, srcOk, look, lookM, ev, evs, putT, argT, encG, XX, undef]⟩

def sh_GateTurns : List Sh := [.int .i64, shGates]
theorem law_GateTurns (xs : List AV) (h : HasAll sh_GateTurns xs) : CallsA Try.prog 4 xs (.v (.bool true)) [] := by
  obtain ⟨x, r, rfl, hx, y, r, rfl, hy, rfl⟩ := h
  obtain ⟨c, rfl, _⟩ := hasInt hx
  obtain ⟨l, rfl, hl⟩ := hasGates hy
  exact gateTurns_spec c l hl

end Go.Av
namespace Go.Proofs.Ytoffjeeajdmgfaa
open Go.ChangeShapes Go.WideShapes Go.ChangeAt Go.RowKit
open Go.Av (open_all shut_all OldS HasAll Sh CallsA shAll)

theorem own : ownKnob Try.prog.godebug = none := by kernel_rfl
theorem laidOut : laidOutB Try.prog = true := by kernel_rfl
theorem shs_eq : shAll Try.prog 12 Try.f4.params.toList = some Go.Av.sh_GateTurns := by kernel_rfl
theorem readable : (Try.f4.params.toList.all fun t => Try.prog.readableRec t && decide (t < Try.prog.types.size)) = true := by kernel_rfl

theorem lifted (os : Os) (started : os.Started) (H : Type) (enc : TypeId × Value → H) :
    ReturnsInHanded {} Try.checked os 4 .any (Rows.gateTurnsSpec.pre6 enc Try.prog Try.f4 Rows.gateTurnsRow.domain false) (Rows.gateTurnsSpec.post enc Try.prog Try.f4 false true false false) := by
  refine returnsInHanded_of_change (C := Try.checked) own started (by kernel_rfl) Try.func4
    (ChangeSpec.witness6 (enc := enc) (C := Try.checked) false ⟨#[], #[.int .i64 0, .slice none 0 0], []⟩ 8 (by kernel_rfl) (by kernel_rfl) (by kernel_rfl) (by kernel_rfl)) ?_
  intro W base args ds gs before hval0 hW hcnd _
  have hval : ∀ (j : Nat) t v, Try.f4.params[j]? = some t → args[j]? = some v → Value.okWide Try.prog W .any base t v := hval0
  have hW' := hW
  obtain ⟨p, q, hA0, hV, rfl, hfz, hnd⟩ := hW
  have hA : DataW.TrodAll enc Try.prog W 0 (fun _ => true) true Try.f4.params.toList args.toList ds p := hA0
  obtain ⟨xs, hxs, hlen, hR⟩ := open_all (g := 12) _ _ _ _ Go.Av.sh_GateTurns hA (fun j t v ht hv => hval j t v (by simpa using ht) (by simpa using hv)) shs_eq
  obtain ⟨rfl, rfl⟩ := trodVars_none hV
  have hB := hA
  rw [Try.params4] at hB
  obtain ⟨v0, vs0, d0, ds0, p0, q0, hargs0, rfl, rfl, h0, r0⟩ := trodAll_cons hB
  obtain ⟨v1, vs1, d1, ds1, p1, q1, hargs1, rfl, rfl, h1, r1⟩ := trodAll_cons r0
  obtain ⟨rfl, rfl, rfl⟩ := trodAll_nil r1
  refine ((Go.Av.law_GateTurns xs hxs).2 W (OldS W) args ⟨fun _ h => h, fun g cs hm => by simp [Go.Av.globs] at hm⟩ (by simpa using hlen) (fun i x y h1 h2 => hR i x y h1 (by simpa using h2))).mono ?_
  rintro e W' ⟨v, S', κ', rfl, hv, _, _, _, bel⟩
  rw [hv.v_inv]
  exact ⟨_, rfl, _, _, _, [], _, [], hW', trodAll_mk1 (shut_bool Try.underlying4 _), shut_all laidOut bel _ _ _ _ (fun t ht => by
    have := (List.all_eq_true.1 readable) t ht
    simpa using this) hA, rfl, bel.frame _, fun h => by cases h⟩

theorem gateTurns_holds : Rows.GateTurnsSaid :=
  OpenClaim.holds_of_wide 4 Try.f4 rfl rfl rfl rfl rfl rfl rfl ⟨rfl, rfl, rfl, rfl, rfl⟩ rfl rfl rfl rfl rfl (by kernel_rfl) Try.func4 (by kernel_rfl)
    (of_decide_eq_true (by kernel_rfl)) (by unfold Func.isWrapper; first | (rw [if_pos (by decide +kernel)]; kernel_rfl) | (rw [if_neg (by decide +kernel)]; exact ⟨rfl, rfl⟩))
    (fun os started H enc _ => lifted os started H enc)

end Go.Proofs.Ytoffjeeajdmgfaa
