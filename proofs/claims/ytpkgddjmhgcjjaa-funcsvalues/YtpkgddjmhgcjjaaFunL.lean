/- Functions: the document's rank. -/
import Derived.Test.YtpkgddjmhgcjjaaFunK
set_option linter.unusedSimpArgs false
set_option linter.unusedVariables false
set_option maxRecDepth 100000
namespace Go.Av
open Go.Proofs

theorem rkI_get {l : List Fn} {k : Nat} {j : Int} (hk : k ≤ l.length) (hj : 0 ≤ j ∧ j < (k : Int)) : ((ranks (l.take k)).map IN)[j.toNat]? = some (IN ((ranks (l.take k)).getD j.toNat 0)) := by
  have hl : (ranks (l.take k)).length = k := by rw [ranks_len, List.length_take]; omega
  rw [List.getElem?_map, List.getD_eq_getElem?_getD, List.getElem?_eq_getElem (by omega)]; rfl

theorem refRank_spec (l : List Fn) (h : chk l = 0) : CallsA Try.prog 16 [.ro 6 (l.map encF)] (IN (rankV l)) [] := by
  have hg := good_of h
  have hlen := hg.len
  refine fn_of0 comp16 (by simp) ?_
  unfold code16
  have hll : ((l.map encF).length : Int) = l.length := by simp
  simp (maxSteps := 1000000) only [hll, encF, encU, EA, EB, EC, ED, EE, EF, EG, EH, XA, XB, XC, XD, XE, XF, XG, XH, XI, XJ, XK, XL, XM, reduceIte, ↓reduceIte, Nat.reduceAdd, Nat.reduceLeDiff, Nat.reduceEqDiff, Nat.reduceLT, Nat.reduceSub, Nat.reduceBEq, forall_const, reduceCtorEq, implies_true, exists_eq_left', exists_eq_left, if_true, if_false, undef]
  refine loopR Nat [13, 3] (fun k => [I (k : Nat), .arr 5 0 k]) (fun k => [(5, some (.arr 1 ((ranks (l.take k)).map IN)))]) 1 (fun k => k ≤ l.length) (fun k => l.length - k) (by decide) 0 [none] rfl (by simp) (by simp [Back, BackF, fzT, fzM, fzU, fz, fzL, fzO, kin, SubT, Sub, SubL, SubM, SubO, keepM, srcOk, look, lookM, ev, evs, putT, argT, encF, encU, EA, EB, EC, ED, EE, EF, EG, EH, XA, XB, XC, XD, XE, XF, XG, XH, XI, XJ, XK, XL, XM, reduceIte, ↓reduceIte, Nat.reduceAdd, Nat.reduceLeDiff, Nat.reduceEqDiff, Nat.reduceLT, Nat.reduceSub, Nat.reduceBEq, forall_const, reduceCtorEq, implies_true, exists_eq_left', exists_eq_left, if_true, if_false, undef, ranks, rks]) (fun k hk => ?_)
  have hrl : (ranks (l.take k)).length = k := by rw [ranks_len, List.length_take]; omega
  by_cases c1 : k < l.length
  rotate_left
  · have g1 : decide ((k : Int) < (l.length : Int)) = false := by simp [c1]
    have : k = l.length := by omega
    subst this
    have w1 : IntKind.i64.wrap ((l.length : Int) - 1) = ((l.length - 1 : Nat) : Int) := by rw [wrap_id] <;> omega
    have hgt := rkI_get (l := l) (k := l.length) (j := ((l.length - 1 : Nat) : Int)) (Nat.le_refl _) (by omega)
    rw [Int.toNat_natCast] at hgt
    simp (maxSteps := 1000000) only [hll, g1, w1, Int.toNat_natCast, Nat.zero_add, encF, encU, EA, EB, EC, ED, EE, EF, EG, EH, XA, XB, XC, XD, XE, XF, XG, XH, XI, XJ, XK, XL, XM, reduceIte, ↓reduceIte, Nat.reduceAdd, Nat.reduceLeDiff, Nat.reduceEqDiff, Nat.reduceLT, Nat.reduceSub, Nat.reduceBEq, forall_const, reduceCtorEq, implies_true, exists_eq_left', exists_eq_left, if_true, if_false, undef]
    refine ⟨by omega, by omega, _, hgt, ?_⟩
    simp (maxSteps := 1000000) only [rankV, List.take_length, encF, encU, EA, EB, EC, ED, EE, EF, EG, EH, XA, XB, XC, XD, XE, XF, XG, XH, XI, XJ, XK, XL, XM, reduceIte, ↓reduceIte, Nat.reduceAdd, Nat.reduceLeDiff, Nat.reduceEqDiff, Nat.reduceLT, Nat.reduceSub, Nat.reduceBEq, forall_const, reduceCtorEq, implies_true, exists_eq_left', exists_eq_left, if_true, if_false, undef]
  have g1 : decide ((k : Int) < (l.length : Int)) = true := by simp [c1]
  have hw : IntKind.i64.wrap ((k : Int) + 1) = ((k + 1 : Nat) : Int) := by rw [wrap_id] <;> omega
  have hof := hg.okF c1
  have hsu := ranks_take c1
  have hb := ranks_le k l hk
  have hget : ∀ j : Int, 0 ≤ j ∧ j < (k : Int) → _ := fun j hj => rkI_get hk hj
  simp (maxSteps := 1000000) only [hll, g1, encF, encU, EA, EB, EC, ED, EE, EF, EG, EH, XA, XB, XC, XD, XE, XF, XG, XH, XI, XJ, XK, XL, XM, reduceIte, ↓reduceIte, Nat.reduceAdd, Nat.reduceLeDiff, Nat.reduceEqDiff, Nat.reduceLT, Nat.reduceSub, Nat.reduceBEq, forall_const, reduceCtorEq, implies_true, exists_eq_left', exists_eq_left, if_true, if_false, undef]
  refine ⟨by omega, pickM c1 ?_⟩
  generalize l[k] = f at hof hsu
  generalize ranks (l.take k) = acc at hsu hb hget hrl
  have hgl := grw_le f.kind
  have hwb := mx_le (acc := acc) (B := 3 * k) (fun x hx => (hb x hx).2) (blw f)
  have hbu : ∀ j ∈ blw f, 0 ≤ j ∧ j < (k : Int) := fun j hj => by
    obtain ⟨u, hu, rfl⟩ := List.mem_map.1 hj
    exact hof.uses u hu
  have hfl : ((f.into.map I).length : Int) = f.into.length := by simp
  have hmxs : ∀ j (h : j < (blw f).length), mx acc ((blw f).take (j + 1)) = max (mx acc ((blw f).take j)) (acc.getD ((blw f)[j]).toNat 0) := fun j h => by
    rw [List.take_add_one, List.getElem?_eq_getElem h]; exact mx_snoc _ _ _
  simp (maxSteps := 1000000) only [encF, encU, EA, EB, EC, ED, EE, EF, EG, EH, XA, XB, XC, XD, XE, XF, XG, XH, XI, XJ, XK, XL, XM, reduceIte, ↓reduceIte, Nat.reduceAdd, Nat.reduceLeDiff, Nat.reduceEqDiff, Nat.reduceLT, Nat.reduceSub, Nat.reduceBEq, forall_const, reduceCtorEq, implies_true, exists_eq_left', exists_eq_left, if_true, if_false, undef]
  by_cases h4 : f.kind = 4
  · have g4 : (f.kind == 4) = true := by simpa using h4
    have g5 : (f.kind == 5) = false := by rw [h4]; decide
    have hi4 := hof.into h4
    have hbl : blw f = f.a :: f.into := by rw [blw, usL, if_pos h4, List.map_cons, List.map_map]; simp [Function.comp_def]
    have hgr : grw f.kind = 2 := by rw [grw, if_pos h4]
    have w2 : IntKind.i64.wrap ((mx acc (blw f) : Int) + 2) = ((rkF acc f : Nat) : Int) := by rw [wrap_id, rkF, hgr] <;> omega
    simp (maxSteps := 1000000) only [g4, g5, encF, encU, EA, EB, EC, ED, EE, EF, EG, EH, XA, XB, XC, XD, XE, XF, XG, XH, XI, XJ, XK, XL, XM, reduceIte, ↓reduceIte, Nat.reduceAdd, Nat.reduceLeDiff, Nat.reduceEqDiff, Nat.reduceLT, Nat.reduceSub, Nat.reduceBEq, forall_const, reduceCtorEq, implies_true, exists_eq_left', exists_eq_left, if_true, if_false, undef]
    refine ⟨by simp; omega, by decide, ?_⟩
    have hbm : (blw f).map I = I f.a :: f.into.map I := by rw [hbl]; rfl
    have hbn : (1 + f.into.length : Nat) = (blw f).length := by rw [hbl]; simp; omega
    simp only [List.length_map]
    have hbl1 : (((blw f).map I).length : Int) = (blw f).length := by simp
    rw [← hbm]
    refine loopO Nat [38, 6] (fun j => [I (j : Nat), IN (mx acc ((blw f).take j))]) (fun _ => []) (fun j => j ≤ (blw f).length) (fun j => (blw f).length - j) (by decide) 0 (by simp) (by simp [Back, BackF, fzT, fzM, fzU, fz, fzL, fzO, kin, SubT, Sub, SubL, SubM, SubO, keepM, srcOk, look, lookM, ev, evs, putT, argT, encF, encU, EA, EB, EC, ED, EE, EF, EG, EH, XA, XB, XC, XD, XE, XF, XG, XH, XI, XJ, XK, XL, XM, reduceIte, ↓reduceIte, Nat.reduceAdd, Nat.reduceLeDiff, Nat.reduceEqDiff, Nat.reduceLT, Nat.reduceSub, Nat.reduceBEq, forall_const, reduceCtorEq, implies_true, exists_eq_left', exists_eq_left, if_true, if_false, undef, mx]) (fun j hj => ?_)
    by_cases d1 : j < (blw f).length
    rotate_left
    · have g2 : decide ((j : Int) < ((blw f).length : Int)) = false := by simp [d1]
      have : j = (blw f).length := by omega
      subst this
      rw [List.take_length]
      simp (maxSteps := 1000000) only [hbn, g2, w2, hw, List.length_map, hrl, encF, encU, EA, EB, EC, ED, EE, EF, EG, EH, XA, XB, XC, XD, XE, XF, XG, XH, XI, XJ, XK, XL, XM, reduceIte, ↓reduceIte, Nat.reduceAdd, Nat.reduceLeDiff, Nat.reduceEqDiff, Nat.reduceLT, Nat.reduceSub, Nat.reduceBEq, forall_const, reduceCtorEq, implies_true, exists_eq_left', exists_eq_left, if_true, if_false, undef]
      refine ⟨by omega, k + 1, [some 39], rfl, by omega, by omega, ?_⟩
      rw [hsu]
      simp [Back, BackF, fzT, fzM, fzU, fz, fzL, fzO, kin, SubT, Sub, SubL, SubM, SubO, keepM, srcOk, look, lookM, ev, evs, putT, argT, encF, encU, EA, EB, EC, ED, EE, EF, EG, EH, XA, XB, XC, XD, XE, XF, XG, XH, XI, XJ, XK, XL, XM, reduceIte, ↓reduceIte, Nat.reduceAdd, Nat.reduceLeDiff, Nat.reduceEqDiff, Nat.reduceLT, Nat.reduceSub, Nat.reduceBEq, forall_const, reduceCtorEq, implies_true, exists_eq_left', exists_eq_left, if_true, if_false, undef]
    have g2 : decide ((j : Int) < ((blw f).length : Int)) = true := by simp [d1]
    have hw2 : IntKind.i64.wrap ((j : Int) + 1) = ((j + 1 : Nat) : Int) := by rw [wrap_id] <;> omega
    have hu := hbu _ (List.getElem_mem d1)
    have hgu := hget _ hu
    have hmx := hmxs j d1
    have hpk : ((blw f).map I)[((j : Nat) : Int).toNat]? = some (I (blw f)[j]) := by rw [Int.toNat_natCast, List.getElem?_map, List.getElem?_eq_getElem d1]; rfl
    generalize (blw f)[j] = u at *
    generalize acc.getD u.toNat 0 = y at *
    simp (maxSteps := 1000000) only [hbn, g2, encF, encU, EA, EB, EC, ED, EE, EF, EG, EH, XA, XB, XC, XD, XE, XF, XG, XH, XI, XJ, XK, XL, XM, reduceIte, ↓reduceIte, Nat.reduceAdd, Nat.reduceLeDiff, Nat.reduceEqDiff, Nat.reduceLT, Nat.reduceSub, Nat.reduceBEq, forall_const, reduceCtorEq, implies_true, exists_eq_left', exists_eq_left, if_true, if_false, undef]
    refine ⟨by omega, by omega, I u, by first | exact hpk | (rw [Nat.zero_add]; exact hpk), ?_⟩
    simp (maxSteps := 1000000) only [encF, encU, EA, EB, EC, ED, EE, EF, EG, EH, XA, XB, XC, XD, XE, XF, XG, XH, XI, XJ, XK, XL, XM, reduceIte, ↓reduceIte, Nat.reduceAdd, Nat.reduceLeDiff, Nat.reduceEqDiff, Nat.reduceLT, Nat.reduceSub, Nat.reduceBEq, forall_const, reduceCtorEq, implies_true, exists_eq_left', exists_eq_left, if_true, if_false, undef]
    refine ⟨hu.1, by omega, _, by first | exact hgu | (rw [Nat.zero_add]; exact hgu), ?_⟩
    have hmm := max_eq (mx acc ((blw f).take j)) y
    by_cases hgt : (y : Int) > (mx acc ((blw f).take j) : Int)
    · have g3 : decide ((y : Int) > (mx acc ((blw f).take j) : Int)) = true := by simpa using hgt
      rw [if_pos hgt] at hmm
      simp (maxSteps := 1000000) only [g3, hw2, encF, encU, EA, EB, EC, ED, EE, EF, EG, EH, XA, XB, XC, XD, XE, XF, XG, XH, XI, XJ, XK, XL, XM, reduceIte, ↓reduceIte, Nat.reduceAdd, Nat.reduceLeDiff, Nat.reduceEqDiff, Nat.reduceLT, Nat.reduceSub, Nat.reduceBEq, forall_const, reduceCtorEq, implies_true, exists_eq_left', exists_eq_left, if_true, if_false, undef]
      refine ⟨hu.1, by omega, _, by first | exact hgu | (rw [Nat.zero_add]; exact hgu), ?_⟩
      simp (maxSteps := 1000000) only [hw2, encF, encU, EA, EB, EC, ED, EE, EF, EG, EH, XA, XB, XC, XD, XE, XF, XG, XH, XI, XJ, XK, XL, XM, reduceIte, ↓reduceIte, Nat.reduceAdd, Nat.reduceLeDiff, Nat.reduceEqDiff, Nat.reduceLT, Nat.reduceSub, Nat.reduceBEq, forall_const, reduceCtorEq, implies_true, exists_eq_left', exists_eq_left, if_true, if_false, undef]
      exact ⟨j + 1, by omega, by omega, by simp [Back, BackF, fzT, fzM, fzU, fz, fzL, fzO, kin, SubT, Sub, SubL, SubM, SubO, keepM, srcOk, look, lookM, ev, evs, putT, argT, encF, encU, EA, EB, EC, ED, EE, EF, EG, EH, XA, XB, XC, XD, XE, XF, XG, XH, XI, XJ, XK, XL, XM, reduceIte, ↓reduceIte, Nat.reduceAdd, Nat.reduceLeDiff, Nat.reduceEqDiff, Nat.reduceLT, Nat.reduceSub, Nat.reduceBEq, forall_const, reduceCtorEq, implies_true, exists_eq_left', exists_eq_left, if_true, if_false, undef, hmx, hmm]⟩
    · have g3 : decide ((y : Int) > (mx acc ((blw f).take j) : Int)) = false := by simpa using hgt
      rw [if_neg hgt] at hmm
      simp (maxSteps := 1000000) only [g3, hw2, encF, encU, EA, EB, EC, ED, EE, EF, EG, EH, XA, XB, XC, XD, XE, XF, XG, XH, XI, XJ, XK, XL, XM, reduceIte, ↓reduceIte, Nat.reduceAdd, Nat.reduceLeDiff, Nat.reduceEqDiff, Nat.reduceLT, Nat.reduceSub, Nat.reduceBEq, forall_const, reduceCtorEq, implies_true, exists_eq_left', exists_eq_left, if_true, if_false, undef]
      exact ⟨j + 1, by omega, by omega, by simp [Back, BackF, fzT, fzM, fzU, fz, fzL, fzO, kin, SubT, Sub, SubL, SubM, SubO, keepM, srcOk, look, lookM, ev, evs, putT, argT, encF, encU, EA, EB, EC, ED, EE, EF, EG, EH, XA, XB, XC, XD, XE, XF, XG, XH, XI, XJ, XK, XL, XM, reduceIte, ↓reduceIte, Nat.reduceAdd, Nat.reduceLeDiff, Nat.reduceEqDiff, Nat.reduceLT, Nat.reduceSub, Nat.reduceBEq, forall_const, reduceCtorEq, implies_true, exists_eq_left', exists_eq_left, if_true, if_false, undef, hmx, hmm]⟩
  have g4 : (f.kind == 4) = false := by simpa using h4
  by_cases h5 : f.kind = 5
  · have g5 : (f.kind == 5) = true := by simpa using h5
    have hbl : blw f = [f.a, f.b] := by rw [blw, usL, if_neg h4, if_pos h5]; rfl
    have hgr : grw f.kind = 3 := by rw [grw, if_neg h4, if_pos h5]
    have w2 : IntKind.i64.wrap ((mx acc (blw f) : Int) + 3) = ((rkF acc f : Nat) : Int) := by rw [wrap_id, rkF, hgr] <;> omega
    simp (maxSteps := 1000000) only [g4, g5, encF, encU, EA, EB, EC, ED, EE, EF, EG, EH, XA, XB, XC, XD, XE, XF, XG, XH, XI, XJ, XK, XL, XM, reduceIte, ↓reduceIte, Nat.reduceAdd, Nat.reduceLeDiff, Nat.reduceEqDiff, Nat.reduceLT, Nat.reduceSub, Nat.reduceBEq, forall_const, reduceCtorEq, implies_true, exists_eq_left', exists_eq_left, if_true, if_false, undef]
    have hbm : (blw f).map I = [I f.a, I f.b] := by rw [hbl]; rfl
    have hbn : (2 : Nat) = (blw f).length := by rw [hbl]; rfl
    have hbl1 : (((blw f).map I).length : Int) = (blw f).length := by simp
    rw [← hbm]
    refine loopO Nat [38, 6] (fun j => [I (j : Nat), IN (mx acc ((blw f).take j))]) (fun _ => []) (fun j => j ≤ (blw f).length) (fun j => (blw f).length - j) (by decide) 0 (by simp) (by simp [Back, BackF, fzT, fzM, fzU, fz, fzL, fzO, kin, SubT, Sub, SubL, SubM, SubO, keepM, srcOk, look, lookM, ev, evs, putT, argT, encF, encU, EA, EB, EC, ED, EE, EF, EG, EH, XA, XB, XC, XD, XE, XF, XG, XH, XI, XJ, XK, XL, XM, reduceIte, ↓reduceIte, Nat.reduceAdd, Nat.reduceLeDiff, Nat.reduceEqDiff, Nat.reduceLT, Nat.reduceSub, Nat.reduceBEq, forall_const, reduceCtorEq, implies_true, exists_eq_left', exists_eq_left, if_true, if_false, undef, mx]) (fun j hj => ?_)
    by_cases d1 : j < (blw f).length
    rotate_left
    · have g2 : decide ((j : Int) < ((blw f).length : Int)) = false := by simp [d1]
      have : j = (blw f).length := by omega
      subst this
      rw [List.take_length]
      simp (maxSteps := 1000000) only [hbn, g2, w2, hw, List.length_map, hrl, encF, encU, EA, EB, EC, ED, EE, EF, EG, EH, XA, XB, XC, XD, XE, XF, XG, XH, XI, XJ, XK, XL, XM, reduceIte, ↓reduceIte, Nat.reduceAdd, Nat.reduceLeDiff, Nat.reduceEqDiff, Nat.reduceLT, Nat.reduceSub, Nat.reduceBEq, forall_const, reduceCtorEq, implies_true, exists_eq_left', exists_eq_left, if_true, if_false, undef]
      refine ⟨by omega, k + 1, [some 36], rfl, by omega, by omega, ?_⟩
      rw [hsu]
      simp [Back, BackF, fzT, fzM, fzU, fz, fzL, fzO, kin, SubT, Sub, SubL, SubM, SubO, keepM, srcOk, look, lookM, ev, evs, putT, argT, encF, encU, EA, EB, EC, ED, EE, EF, EG, EH, XA, XB, XC, XD, XE, XF, XG, XH, XI, XJ, XK, XL, XM, reduceIte, ↓reduceIte, Nat.reduceAdd, Nat.reduceLeDiff, Nat.reduceEqDiff, Nat.reduceLT, Nat.reduceSub, Nat.reduceBEq, forall_const, reduceCtorEq, implies_true, exists_eq_left', exists_eq_left, if_true, if_false, undef]
    have g2 : decide ((j : Int) < ((blw f).length : Int)) = true := by simp [d1]
    have hw2 : IntKind.i64.wrap ((j : Int) + 1) = ((j + 1 : Nat) : Int) := by rw [wrap_id] <;> omega
    have hu := hbu _ (List.getElem_mem d1)
    have hgu := hget _ hu
    have hmx := hmxs j d1
    have hpk : ((blw f).map I)[((j : Nat) : Int).toNat]? = some (I (blw f)[j]) := by rw [Int.toNat_natCast, List.getElem?_map, List.getElem?_eq_getElem d1]; rfl
    generalize (blw f)[j] = u at *
    generalize acc.getD u.toNat 0 = y at *
    simp (maxSteps := 1000000) only [hbn, g2, encF, encU, EA, EB, EC, ED, EE, EF, EG, EH, XA, XB, XC, XD, XE, XF, XG, XH, XI, XJ, XK, XL, XM, reduceIte, ↓reduceIte, Nat.reduceAdd, Nat.reduceLeDiff, Nat.reduceEqDiff, Nat.reduceLT, Nat.reduceSub, Nat.reduceBEq, forall_const, reduceCtorEq, implies_true, exists_eq_left', exists_eq_left, if_true, if_false, undef]
    refine ⟨by omega, by omega, I u, by first | exact hpk | (rw [Nat.zero_add]; exact hpk), ?_⟩
    simp (maxSteps := 1000000) only [encF, encU, EA, EB, EC, ED, EE, EF, EG, EH, XA, XB, XC, XD, XE, XF, XG, XH, XI, XJ, XK, XL, XM, reduceIte, ↓reduceIte, Nat.reduceAdd, Nat.reduceLeDiff, Nat.reduceEqDiff, Nat.reduceLT, Nat.reduceSub, Nat.reduceBEq, forall_const, reduceCtorEq, implies_true, exists_eq_left', exists_eq_left, if_true, if_false, undef]
    refine ⟨hu.1, by omega, _, by first | exact hgu | (rw [Nat.zero_add]; exact hgu), ?_⟩
    have hmm := max_eq (mx acc ((blw f).take j)) y
    by_cases hgt : (y : Int) > (mx acc ((blw f).take j) : Int)
    · have g3 : decide ((y : Int) > (mx acc ((blw f).take j) : Int)) = true := by simpa using hgt
      rw [if_pos hgt] at hmm
      simp (maxSteps := 1000000) only [g3, hw2, encF, encU, EA, EB, EC, ED, EE, EF, EG, EH, XA, XB, XC, XD, XE, XF, XG, XH, XI, XJ, XK, XL, XM, reduceIte, ↓reduceIte, Nat.reduceAdd, Nat.reduceLeDiff, Nat.reduceEqDiff, Nat.reduceLT, Nat.reduceSub, Nat.reduceBEq, forall_const, reduceCtorEq, implies_true, exists_eq_left', exists_eq_left, if_true, if_false, undef]
      refine ⟨hu.1, by omega, _, by first | exact hgu | (rw [Nat.zero_add]; exact hgu), ?_⟩
      simp (maxSteps := 1000000) only [hw2, encF, encU, EA, EB, EC, ED, EE, EF, EG, EH, XA, XB, XC, XD, XE, XF, XG, XH, XI, XJ, XK, XL, XM, reduceIte, ↓reduceIte, Nat.reduceAdd, Nat.reduceLeDiff, Nat.reduceEqDiff, Nat.reduceLT, Nat.reduceSub, Nat.reduceBEq, forall_const, reduceCtorEq, implies_true, exists_eq_left', exists_eq_left, if_true, if_false, undef]
      exact ⟨j + 1, by omega, by omega, by simp [Back, BackF, fzT, fzM, fzU, fz, fzL, fzO, kin, SubT, Sub, SubL, SubM, SubO, keepM, srcOk, look, lookM, ev, evs, putT, argT, encF, encU, EA, EB, EC, ED, EE, EF, EG, EH, XA, XB, XC, XD, XE, XF, XG, XH, XI, XJ, XK, XL, XM, reduceIte, ↓reduceIte, Nat.reduceAdd, Nat.reduceLeDiff, Nat.reduceEqDiff, Nat.reduceLT, Nat.reduceSub, Nat.reduceBEq, forall_const, reduceCtorEq, implies_true, exists_eq_left', exists_eq_left, if_true, if_false, undef, hmx, hmm]⟩
    · have g3 : decide ((y : Int) > (mx acc ((blw f).take j) : Int)) = false := by simpa using hgt
      rw [if_neg hgt] at hmm
      simp (maxSteps := 1000000) only [g3, hw2, encF, encU, EA, EB, EC, ED, EE, EF, EG, EH, XA, XB, XC, XD, XE, XF, XG, XH, XI, XJ, XK, XL, XM, reduceIte, ↓reduceIte, Nat.reduceAdd, Nat.reduceLeDiff, Nat.reduceEqDiff, Nat.reduceLT, Nat.reduceSub, Nat.reduceBEq, forall_const, reduceCtorEq, implies_true, exists_eq_left', exists_eq_left, if_true, if_false, undef]
      exact ⟨j + 1, by omega, by omega, by simp [Back, BackF, fzT, fzM, fzU, fz, fzL, fzO, kin, SubT, Sub, SubL, SubM, SubO, keepM, srcOk, look, lookM, ev, evs, putT, argT, encF, encU, EA, EB, EC, ED, EE, EF, EG, EH, XA, XB, XC, XD, XE, XF, XG, XH, XI, XJ, XK, XL, XM, reduceIte, ↓reduceIte, Nat.reduceAdd, Nat.reduceLeDiff, Nat.reduceEqDiff, Nat.reduceLT, Nat.reduceSub, Nat.reduceBEq, forall_const, reduceCtorEq, implies_true, exists_eq_left', exists_eq_left, if_true, if_false, undef, hmx, hmm]⟩
  have g5 : (f.kind == 5) = false := by simpa using h5
  have hbl : blw f = [] := by rw [blw, usL, if_neg h4, if_neg h5]; rfl
  have hgr : grw f.kind = 1 := by rw [grw, if_neg h4, if_neg h5]
  have w2 : IntKind.i64.wrap ((0 : Int) + 1) = ((rkF acc f : Nat) : Int) := by rw [rkF, hgr, hbl]; rfl
  simp (maxSteps := 1000000) only [g4, g5, encF, encU, EA, EB, EC, ED, EE, EF, EG, EH, XA, XB, XC, XD, XE, XF, XG, XH, XI, XJ, XK, XL, XM, reduceIte, ↓reduceIte, Nat.reduceAdd, Nat.reduceLeDiff, Nat.reduceEqDiff, Nat.reduceLT, Nat.reduceSub, Nat.reduceBEq, forall_const, reduceCtorEq, implies_true, exists_eq_left', exists_eq_left, if_true, if_false, undef]
  refine loopO Unit [38, 6] (fun _ => [I 0, I 0]) (fun _ => []) (fun _ => True) (fun _ => 0) (by decide) () trivial (by simp [Back, BackF, fzT, fzM, fzU, fz, fzL, fzO, kin, SubT, Sub, SubL, SubM, SubO, keepM, srcOk, look, lookM, ev, evs, putT, argT, encF, encU, EA, EB, EC, ED, EE, EF, EG, EH, XA, XB, XC, XD, XE, XF, XG, XH, XI, XJ, XK, XL, XM, reduceIte, ↓reduceIte, Nat.reduceAdd, Nat.reduceLeDiff, Nat.reduceEqDiff, Nat.reduceLT, Nat.reduceSub, Nat.reduceBEq, forall_const, reduceCtorEq, implies_true, exists_eq_left', exists_eq_left, if_true, if_false, undef]) (fun _ _ => ?_)
  have g2 : decide ((0 : Int) < ((0 : Nat) : Int)) = false := by decide
  simp (maxSteps := 1000000) only [g2, w2, hw, List.length_map, hrl, encF, encU, EA, EB, EC, ED, EE, EF, EG, EH, XA, XB, XC, XD, XE, XF, XG, XH, XI, XJ, XK, XL, XM, reduceIte, ↓reduceIte, Nat.reduceAdd, Nat.reduceLeDiff, Nat.reduceEqDiff, Nat.reduceLT, Nat.reduceSub, Nat.reduceBEq, forall_const, reduceCtorEq, implies_true, exists_eq_left', exists_eq_left, if_true, if_false, undef]
  refine ⟨by omega, k + 1, [some 29], rfl, by omega, by omega, ?_⟩
  rw [hsu]
  simp [Back, BackF, fzT, fzM, fzU, fz, fzL, fzO, kin, SubT, Sub, SubL, SubM, SubO, keepM, srcOk, look, lookM, ev, evs, putT, argT, encF, encU, EA, EB, EC, ED, EE, EF, EG, EH, XA, XB, XC, XD, XE, XF, XG, XH, XI, XJ, XK, XL, XM, reduceIte, ↓reduceIte, Nat.reduceAdd, Nat.reduceLeDiff, Nat.reduceEqDiff, Nat.reduceLT, Nat.reduceSub, Nat.reduceBEq, forall_const, reduceCtorEq, implies_true, exists_eq_left', exists_eq_left, if_true, if_false, undef]

end Go.Av
