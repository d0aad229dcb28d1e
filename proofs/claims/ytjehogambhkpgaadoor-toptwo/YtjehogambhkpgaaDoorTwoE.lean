/- The compiler to two counters: its points are put in. -/
import Derived.Test.YtjehogambhkpgaaDoorTwoB
set_option linter.unusedSimpArgs false
set_option linter.unusedVariables false
set_option maxRecDepth 100000
namespace Go.Av
open Go.Proofs

def afind : List (Int × Int) → Int → Option Int
  | [], _ => none
  | (q, v) :: r, x => if q = x then some v else afind r x
theorem mfind_a (es : List (Int × Int)) (x : Int) : mfind x (encE es) = (afind es x).map I := by
  induction es with
  | nil => rfl
  | cons p es ih =>
    obtain ⟨q, v⟩ := p
    by_cases h : q = x
    · subst h; simp [encE, mfind, afind, keyIs]
    · have e1 : mfind x (encE ((q, v) :: es)) = mfind x (encE es) := by simp [encE, mfind, keyIs, h]
      rw [e1, ih]; simp [afind, h]
theorem afind_aset (es : List (Int × Int)) (x y z : Int) : afind (aset es x y) z = if z = x then some y else afind es z := by
  induction es with
  | nil => simp only [aset, afind, eq_comm]
  | cons p es ih =>
    obtain ⟨q, v⟩ := p
    by_cases h : q = x
    · subst h
      simp only [aset, if_true, afind]
      by_cases hz : q = z
      · subst hz; simp
      · simp [hz, Ne.symm hz]
    · simp only [aset, h, if_false, afind, ih]
      by_cases hz : q = z
      · subst hz; simp [h]
      · simp [hz]

/-- an instruction with its point put in -/
def fixO (es : List (Int × Int)) (st : List Int) (i : Nat) (o : Ord) : Ord :=
  match afind es (i : Nat) with
  | some og => ⟨o.kind, o.counter, o.next, st.getD og.toNat 0⟩
  | none => o
def fixK (es : List (Int × Int)) (st : List Int) (k : Nat) (code : List Ord) : List Ord := code.mapIdx fun i o => if i < k then fixO es st i o else o
theorem fixK_length (es : List (Int × Int)) (st : List Int) (k : Nat) (code : List Ord) : (fixK es st k code).length = code.length := by simp [fixK]
theorem fixK_zero (es : List (Int × Int)) (st : List Int) (code : List Ord) : fixK es st 0 code = code := by
  refine List.ext_getElem? fun i => ?_
  simp [fixK]
theorem fixK_get {es : List (Int × Int)} {st : List Int} {k : Nat} {code : List Ord} {o : Ord} (h : code[k]? = some o) : (fixK es st k code)[k]? = some o := by simp [fixK, h]
theorem fixK_set {es : List (Int × Int)} {st : List Int} {k : Nat} {code : List Ord} {o : Ord} (h : code[k]? = some o) : (fixK es st k code).set k (fixO es st k o) = fixK es st (k + 1) code := by
  have hk := (List.getElem?_eq_some_iff.1 h).1
  refine List.ext_getElem? fun i => ?_
  rw [List.getElem?_set]
  by_cases c : k = i
  · subst c
    have hx := (List.getElem?_eq_some_iff.1 h).2
    simp [fixK, hk, hx]
  · rw [if_neg c]
    simp only [fixK, List.getElem?_mapIdx]
    cases code[i]? with
    | none => rfl
    | some x => simp only [Option.map_some]; congr 1; by_cases c2 : i < k
                · rw [if_pos c2, if_pos (by omega)]
                · rw [if_neg c2, if_neg (by omega)]
theorem fixK_skip {es : List (Int × Int)} {st : List Int} {k : Nat} {code : List Ord} {o : Ord} (h : code[k]? = some o) (hf : afind es (k : Nat) = none) : fixK es st (k + 1) code = fixK es st k code := by
  rw [← fixK_set h]
  have : fixO es st k o = o := by simp [fixO, hf]
  rw [this]
  refine List.ext_getElem? fun i => ?_
  rw [List.getElem?_set]
  split
  · rename_i c; subst c
    have hk := (List.getElem?_eq_some_iff.1 h).1
    rw [if_pos (by rw [fixK_length]; exact hk), fixK_get h]
  · rfl

theorem connect_spec (code : List Ord) (es : List (Int × Int)) (st : List Int) (hl : code.length ≤ 100000) (hes : ∀ i og, afind es i = some og → 0 ≤ og ∧ og < st.length) :
    CallsM Tryd.prog 13 [.ptr 0 0, .arr 3 0 st.length] [.box [.arr 1 0 code.length, .mp 2], .arr 4 (code.map encO), .map (encE es), .arr 1 (st.map I)] (.tup [])
      [some (.box [.arr 1 0 code.length, .mp 2]), some (.arr 4 ((fixK es st code.length code).map encO)), some (.map (encE es)), some (.arr 1 (st.map I))] := by
  have hll : (code.map encO).length = code.length := by simp
  refine fnM_of comp13 (by simp) (by simp [cmpM, cmpR]) ?_
  unfold code13
  simp (maxSteps := 1000000) only [cmpM, memOf, hll, encO, EA, EB, EC, ED, EE, EF, EG, EH, XA, XB, XC, XD, XE, XF, XG, XH, XI, XJ, XK, XL, XM, reduceIte, ↓reduceIte, Nat.reduceAdd, Nat.reduceLeDiff, Nat.reduceEqDiff, Nat.reduceLT, Nat.reduceSub, Nat.reduceBEq, forall_const, reduceCtorEq, implies_true, exists_eq_left', exists_eq_left, if_true, if_false, undef]
  refine loopO Nat [12] (fun k => [I k]) (fun k => [(1, some (.arr 4 ((fixK es st k code).map encO)))]) (fun k => k ≤ code.length) (fun k => code.length - k) (by decide) 0 (by simp) (by simp [Back, BackF, fzT, fzM, fzU, fz, fzL, fzO, kin, SubT, Sub, SubL, SubM, SubO, keepM, srcOk, look, lookM, ev, evs, putT, argT, encO, EA, EB, EC, ED, EE, EF, EG, EH, XA, XB, XC, XD, XE, XF, XG, XH, XI, XJ, XK, XL, XM, reduceIte, ↓reduceIte, Nat.reduceAdd, Nat.reduceLeDiff, Nat.reduceEqDiff, Nat.reduceLT, Nat.reduceSub, Nat.reduceBEq, forall_const, reduceCtorEq, implies_true, exists_eq_left', exists_eq_left, if_true, if_false, undef, fixK_zero]) (fun k hk => ?_)
  by_cases h : k < code.length
  · have e1 : decide ((k : Int) < (code.length : Int)) = true := by simp [h]
    have hw : IntKind.i64.wrap ((k : Int) + 1) = ((k + 1 : Nat) : Int) := by rw [wrap_id] <;> omega
    have hck : code[k]? = some code[k] := by simp [h]
    cases hf : afind es (k : Nat) with
    | none =>
      simp (maxSteps := 1000000) only [e1, encE_T, mfind_a, hf, Option.map_none, Option.isSome_none, hw, encO, EA, EB, EC, ED, EE, EF, EG, EH, XA, XB, XC, XD, XE, XF, XG, XH, XI, XJ, XK, XL, XM, reduceIte, ↓reduceIte, Nat.reduceAdd, Nat.reduceLeDiff, Nat.reduceEqDiff, Nat.reduceLT, Nat.reduceSub, Nat.reduceBEq, forall_const, reduceCtorEq, implies_true, exists_eq_left', exists_eq_left, if_true, if_false, undef]
      exact ⟨k + 1, by omega, by omega, by simp [Back, BackF, fzT, fzM, fzU, fz, fzL, fzO, kin, SubT, Sub, SubL, SubM, SubO, keepM, srcOk, look, lookM, ev, evs, putT, argT, encO, EA, EB, EC, ED, EE, EF, EG, EH, XA, XB, XC, XD, XE, XF, XG, XH, XI, XJ, XK, XL, XM, reduceIte, ↓reduceIte, Nat.reduceAdd, Nat.reduceLeDiff, Nat.reduceEqDiff, Nat.reduceLT, Nat.reduceSub, Nat.reduceBEq, forall_const, reduceCtorEq, implies_true, exists_eq_left', exists_eq_left, if_true, if_false, undef, fixK_skip hck hf]⟩
    | some og =>
      have hog := hes _ _ hf
      simp (maxSteps := 1000000) only [e1, encE_T, mfind_a, hf, Option.map_some, Option.isSome_some, encO, EA, EB, EC, ED, EE, EF, EG, EH, XA, XB, XC, XD, XE, XF, XG, XH, XI, XJ, XK, XL, XM, reduceIte, ↓reduceIte, Nat.reduceAdd, Nat.reduceLeDiff, Nat.reduceEqDiff, Nat.reduceLT, Nat.reduceSub, Nat.reduceBEq, forall_const, reduceCtorEq, implies_true, exists_eq_left', exists_eq_left, if_true, if_false, undef]
      have hst : st[og.toNat]? = some (st.getD og.toNat 0) := by
        have : og.toNat < st.length := by omega
        simp [this]
      have hfo : encO (fixO es st k code[k]) = .agg [I code[k].kind, I code[k].counter, I code[k].next, I (st.getD og.toNat 0)] := by simp [fixO, hf, encO]
      refine ⟨hog.1, hog.2, ?_⟩
      simp (maxSteps := 1000000) only [encO, EA, EB, EC, ED, EE, EF, EG, EH, XA, XB, XC, XD, XE, XF, XG, XH, XI, XJ, XK, XL, XM, reduceIte, ↓reduceIte, Nat.reduceAdd, Nat.reduceLeDiff, Nat.reduceEqDiff, Nat.reduceLT, Nat.reduceSub, Nat.reduceBEq, forall_const, reduceCtorEq, implies_true, exists_eq_left', exists_eq_left, if_true, if_false, undef]
      refine pickA (by rw [Nat.zero_add]; exact hst) ?_
      simp (maxSteps := 1000000) only [encO, EA, EB, EC, ED, EE, EF, EG, EH, XA, XB, XC, XD, XE, XF, XG, XH, XI, XJ, XK, XL, XM, reduceIte, ↓reduceIte, Nat.reduceAdd, Nat.reduceLeDiff, Nat.reduceEqDiff, Nat.reduceLT, Nat.reduceSub, Nat.reduceBEq, forall_const, reduceCtorEq, implies_true, exists_eq_left', exists_eq_left, if_true, if_false, undef]
      refine ⟨by omega, by omega, ?_⟩
      simp (maxSteps := 1000000) only [encO, EA, EB, EC, ED, EE, EF, EG, EH, XA, XB, XC, XD, XE, XF, XG, XH, XI, XJ, XK, XL, XM, reduceIte, ↓reduceIte, Nat.reduceAdd, Nat.reduceLeDiff, Nat.reduceEqDiff, Nat.reduceLT, Nat.reduceSub, Nat.reduceBEq, forall_const, reduceCtorEq, implies_true, exists_eq_left', exists_eq_left, if_true, if_false, undef]
      refine pickA (x := code[k]) (by rw [Int.toNat_natCast]; exact fixK_get hck) ?_
      simp (maxSteps := 1000000) only [encO, hw, encO, EA, EB, EC, ED, EE, EF, EG, EH, XA, XB, XC, XD, XE, XF, XG, XH, XI, XJ, XK, XL, XM, reduceIte, ↓reduceIte, Nat.reduceAdd, Nat.reduceLeDiff, Nat.reduceEqDiff, Nat.reduceLT, Nat.reduceSub, Nat.reduceBEq, forall_const, reduceCtorEq, implies_true, exists_eq_left', exists_eq_left, if_true, if_false, undef]
      refine ⟨k + 1, by omega, by omega, ?_⟩
      rw [← fixK_set hck, List.map_set, hfo]
      simp [Back, BackF, fzT, fzM, fzU, fz, fzL, fzO, kin, SubT, Sub, SubL, SubM, SubO, keepM, srcOk, look, lookM, ev, evs, putT, argT, encO, EA, EB, EC, ED, EE, EF, EG, EH, XA, XB, XC, XD, XE, XF, XG, XH, XI, XJ, XK, XL, XM, reduceIte, ↓reduceIte, Nat.reduceAdd, Nat.reduceLeDiff, Nat.reduceEqDiff, Nat.reduceLT, Nat.reduceSub, Nat.reduceBEq, forall_const, reduceCtorEq, implies_true, exists_eq_left', exists_eq_left, if_true, if_false, undef]
  · have e1 : decide ((k : Int) < (code.length : Int)) = false := by simp [h]
    have : k = code.length := by omega
    subst this
    simp (maxSteps := 1000000) only [e1, encO, EA, EB, EC, ED, EE, EF, EG, EH, XA, XB, XC, XD, XE, XF, XG, XH, XI, XJ, XK, XL, XM, reduceIte, ↓reduceIte, Nat.reduceAdd, Nat.reduceLeDiff, Nat.reduceEqDiff, Nat.reduceLT, Nat.reduceSub, Nat.reduceBEq, forall_const, reduceCtorEq, implies_true, exists_eq_left', exists_eq_left, if_true, if_false, undef]
    exact ⟨[], by simp, by simp [encO, EA, EB, EC, ED, EE, EF, EG, EH, XA, XB, XC, XD, XE, XF, XG, XH, XI, XJ, XK, XL, XM, reduceIte, ↓reduceIte, Nat.reduceAdd, Nat.reduceLeDiff, Nat.reduceEqDiff, Nat.reduceLT, Nat.reduceSub, Nat.reduceBEq, forall_const, reduceCtorEq, implies_true, exists_eq_left', exists_eq_left, if_true, if_false, undef]⟩

end Go.Av
