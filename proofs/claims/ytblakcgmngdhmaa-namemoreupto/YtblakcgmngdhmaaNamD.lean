/- Clauses: the document's search for the rest of the values. -/
import Derived.Test.YtblakcgmngdhmaaNamC
set_option linter.unusedSimpArgs false
set_option linter.unusedVariables false
set_option maxRecDepth 100000
namespace Go.Av
open Go.Proofs

/-- the first values known, the rest not -/
def fstH (n : Nat) (v : List Bool) : List (Option Bool) := v.map some ++ List.replicate (n - v.length) none
theorem encO_neg (o : Option Bool) : decide (encO o < 0) = o.isNone := by cases o with | none => rfl | some b => cases b <;> rfl
theorem encO_ge (o : Option Bool) : decide (encO o ≥ 0) = o.isSome := by cases o with | none => rfl | some b => cases b <;> rfl
theorem encO_one (o : Option Bool) : (encO o == 1) = (o == some true) := by cases o with | none => rfl | some b => cases b <;> rfl
theorem encO_zero (o : Option Bool) : (encO o == 0) = (o == some false) := by cases o with | none => rfl | some b => cases b <;> rfl
theorem getPick {h : List (Option Bool)} {i : Int} (hi : 0 ≤ i ∧ i < h.length) {K : AV → Prop} (hK : K (I (encO (getH h i)))) : Pick (encH h) i.toNat K := by
  refine pickI (by omega) ?_
  have : getH h i = h[i.toNat]'(by omega) := by rw [getH, List.getD_eq_getElem?_getD, List.getElem?_eq_getElem (by omega)]; rfl
  rwa [← this]
theorem encH_set (h : List (Option Bool)) (i : Nat) (o : Option Bool) : (encH h).set i (I (encO o)) = encH (h.set i o) := by rw [encH, encH, List.map_set]

theorem scY_le (g : List (Option Bool)) (ys : List Int) : ∀ j, ((ys.take j).foldl (scY g) sc0).m ≤ j + 0
  | 0 => by simp [sc0]
  | j + 1 => by
    have ih := scY_le g ys j
    rw [List.take_add_one, List.foldl_append]
    cases hh : ys[j]? with
    | none => simp only [Option.toList_none, List.foldl_nil]; omega
    | some i =>
      simp only [Option.toList_some, List.foldl_cons, List.foldl_nil]
      rw [scY]; split <;> simp only <;> omega
theorem scN_le (g : List (Option Bool)) {ys : List Int} (ns : List Int) : ∀ j, ((ns.take j).foldl (scN g) (scanY g ys)).m ≤ j + ys.length
  | 0 => by
    have := scY_le g ys ys.length
    rw [List.take_length] at this
    simp only [List.take_zero, List.foldl_nil, scanY]; omega
  | j + 1 => by
    have ih := scN_le g (ys := ys) ns j
    rw [List.take_add_one, List.foldl_append]
    cases hh : ns[j]? with
    | none => simp only [Option.toList_none, List.foldl_nil]; omega
    | some i =>
      simp only [Option.toList_some, List.foldl_cons, List.foldl_nil]
      rw [scN]; split <;> simp only <;> omega

theorem choices_spec (l : List Cl) (hll : l.length ≤ 100000) : ∀ (N : Nat) (h : List (Option Bool)), noneN h = N → ClsOk h.length l → h.length ≤ 1000 →
    CallsA Try.prog 28 [.ro 2 (l.map encCl), .ro 1 (encH h)] (IN (min 2 (cntS l [] h))) [] := by
  intro N
  induction N using Nat.strongRecOn with
  | _ N ih =>
  intro h0 hN hcl hlen
  have ihc : ∀ h : List (Option Bool), noneN h < N → h.length = h0.length → CallsA Try.prog 28 [.ro 2 (l.map encCl), .ro 1 (encH h)] (IN (min 2 (cntS l [] h))) [] := fun h h1 h2 =>
    ih _ h1 h rfl (by rw [h2]; exact hcl) (by omega)
  have hle : ((l.map encCl).length : Int) = l.length := by simp
  refine fn_of0 comp28 (by simp) ?_
  unfold code28
  have hh0 : (encH h0).length = h0.length := by simp
  simp (maxSteps := 1000000) only [hh0, List.drop_zero, List.nil_append, Nat.zero_add, encCl, XX, reduceIte, ↓reduceIte, Nat.reduceAdd, Nat.reduceLeDiff, Nat.reduceEqDiff, Nat.reduceLT, Nat.reduceSub, Nat.reduceBEq, forall_const, reduceCtorEq, implies_true, exists_eq_left', exists_eq_left, if_true, if_false, undef]
  refine ⟨by omega, ?_⟩
  refine loopO (Bool × List (Option Bool)) [5] (fun s => [Bo s.1]) (fun s => [(3, some (.arr 1 (encH s.2)))])
    (fun s => s.2.length = h0.length ∧ cntS l [] s.2 = cntS l [] h0 ∧ noneN s.2 ≤ N ∧ (s.1 = false → ∀ c ∈ l, DoneC s.2 c)) (fun s => 2 * noneN s.2 + s.1.toNat) (by decide) (true, h0)
    ⟨rfl, rfl, by simp only; omega, fun hh => by cases hh⟩ (by simp [Back, BackF, fzT, fzM, fzU, fz, fzL, fzO, kin, SubT, Sub, SubL, SubM, SubO, keepM, srcOk, look, lookM, ev, evs, putT, argT, encCl, XX, undef]) ?_
  rintro ⟨more, h⟩ ⟨hl0, hcn, hnn, hdone⟩
  simp only at hl0 hcn hnn hdone
  have hhl : (encH h).length = h.length := by simp
  have hclh : ClsOk h.length l := by rw [hl0]; exact hcl
  cases more with
  | false =>
    have hdone := hdone rfl
    rw [← hcn]
    simp (maxSteps := 1000000) only [Bo, encCl, XX, reduceIte, ↓reduceIte, Nat.reduceAdd, Nat.reduceLeDiff, Nat.reduceEqDiff, Nat.reduceLT, Nat.reduceSub, Nat.reduceBEq, forall_const, reduceCtorEq, implies_true, exists_eq_left', exists_eq_left, if_true, if_false, undef]
    refine loop0 Nat [16] (fun j => [IN j]) (fun j => j ≤ h.length ∧ ∀ i, i < j → h[i]? ≠ some none) (fun j => h.length - j) (by decide) 0 (by simp) (by simp [Back, BackF, fzT, fzM, fzU, fz, fzL, fzO, kin, SubT, Sub, SubL, SubM, SubO, keepM, srcOk, look, lookM, ev, evs, putT, argT, encCl, XX, undef]) ?_
    rintro j ⟨hj, hkn⟩
    by_cases c2 : j < h.length
    rotate_left
    · have g2 : decide ((j : Int) < (h0.length : Int)) = false := by simp; omega
      obtain rfl : j = h.length := by omega
      have hone := cnt_one hclh hdone hkn
      rw [hone]
      simp (maxSteps := 1000000) only [g2, encCl, XX, reduceIte, ↓reduceIte, Nat.reduceAdd, Nat.reduceLeDiff, Nat.reduceEqDiff, Nat.reduceLT, Nat.reduceSub, Nat.reduceBEq, forall_const, reduceCtorEq, implies_true, exists_eq_left', exists_eq_left, if_true, if_false, undef]
      rfl
    have g2 : decide ((j : Int) < (h0.length : Int)) = true := by simp; omega
    have hwj : IntKind.i64.wrap ((j : Int) + 1) = ((j + 1 : Nat) : Int) := by rw [wrap_id] <;> omega
    have hji : 0 ≤ (j : Int) ∧ (j : Int) < h.length := by omega
    simp (maxSteps := 1000000) only [g2, encCl, XX, reduceIte, ↓reduceIte, Nat.reduceAdd, Nat.reduceLeDiff, Nat.reduceEqDiff, Nat.reduceLT, Nat.reduceSub, Nat.reduceBEq, forall_const, reduceCtorEq, implies_true, exists_eq_left', exists_eq_left, if_true, if_false, undef]
    refine ⟨by omega, by omega, ?_⟩
    try rw [Nat.zero_add]
    refine getPick hji ?_
    have e1 := encO_ge (getH h j)
    cases hg : getH h j with
    | some b =>
      rw [hg, Option.isSome_some] at e1
      have hne : h[j]? ≠ some none := by
        have := getH_some hji hg
        rw [Int.toNat_natCast] at this
        rw [this]; simp
      simp (maxSteps := 1000000) only [e1, hwj, encCl, XX, reduceIte, ↓reduceIte, Nat.reduceAdd, Nat.reduceLeDiff, Nat.reduceEqDiff, Nat.reduceLT, Nat.reduceSub, Nat.reduceBEq, forall_const, reduceCtorEq, implies_true, exists_eq_left', exists_eq_left, if_true, if_false, undef]
      refine ⟨j + 1, ⟨by omega, fun i hi => ?_⟩, by omega, by simp [Back, BackF, fzT, fzM, fzU, fz, fzL, fzO, kin, SubT, Sub, SubL, SubM, SubO, keepM, srcOk, look, lookM, ev, evs, putT, argT, encCl, XX, undef]⟩
      by_cases hij : i = j
      · subst hij; exact hne
      · exact hkn i (by omega)
    | none =>
      rw [hg, Option.isSome_none] at e1
      have hjn := getH_some hji hg
      rw [Int.toNat_natCast] at hjn
      have hsp := cntS_split l h [] j hjn
      have n1 := noneN_set (b := false) hjn
      have n2 := noneN_set (b := true) hjn
      have c1 := ihc (h.set j (some false)) (by omega) (by simp [hl0])
      have c2' := ihc (h.set j (some true)) (by omega) (by simp [hl0])
      have hs1 : (encH h).set j (AV.v (.int .i64 0)) = encH (h.set j (some false)) := by rw [← encH_set]; rfl
      have hs2 : (encH (h.set j (some false))).set j (AV.v (.int .i64 1)) = encH (h.set j (some true)) := by
        have := encH_set (h.set j (some false)) j (some true)
        rw [List.set_set] at this
        rw [← this]; rfl
      have hl1 : (encH (h.set j (some false))).length = h0.length := by simp [hl0]
      have hl2 : (encH (h.set j (some true))).length = h0.length := by simp [hl0]
      rw [hsp]
      generalize cntS l [] (h.set j (some false)) = A at *
      generalize cntS l [] (h.set j (some true)) = B at *
      simp (maxSteps := 1000000) only [e1, encCl, XX, reduceIte, ↓reduceIte, Nat.reduceAdd, Nat.reduceLeDiff, Nat.reduceEqDiff, Nat.reduceLT, Nat.reduceSub, Nat.reduceBEq, forall_const, reduceCtorEq, implies_true, exists_eq_left', exists_eq_left, if_true, if_false, undef]
      refine ⟨by omega, by omega, by simp only [hhl]; omega, ?_⟩
      have ht1 : (encH (h.set j (some false))).take h0.length = encH (h.set j (some false)) := List.take_of_length_le (by omega)
      have ht2 : (encH (h.set j (some true))).take h0.length = encH (h.set j (some true)) := List.take_of_length_le (by omega)
      simp (maxSteps := 1000000) only [Int.toNat_natCast, Nat.zero_add, hs1, encCl, XX, reduceIte, ↓reduceIte, Nat.reduceAdd, Nat.reduceLeDiff, Nat.reduceEqDiff, Nat.reduceLT, Nat.reduceSub, Nat.reduceBEq, forall_const, reduceCtorEq, implies_true, exists_eq_left', exists_eq_left, if_true, if_false, undef]
      refine callF (CallsA.args c1 (by simp only [ht1, hs1, Int.toNat_natCast, Nat.zero_add, encCl, XX, reduceIte, ↓reduceIte, Nat.reduceAdd, Nat.reduceLeDiff, Nat.reduceEqDiff, Nat.reduceLT, Nat.reduceSub, Nat.reduceBEq, forall_const, reduceCtorEq, implies_true, exists_eq_left', exists_eq_left, if_true, if_false, undef])) rfl (by simp [flat, encCl, XX, undef]) ?_
      by_cases hA : 2 ≤ A
      · have q1 : decide (((min 2 A : Nat) : Int) > 1) = true := by simp only [decide_eq_true_eq]; omega
        have q2 : min 2 (A + B) = 2 := by omega
        rw [q2]
        simp (maxSteps := 1000000) only [q1, encCl, XX, reduceIte, ↓reduceIte, Nat.reduceAdd, Nat.reduceLeDiff, Nat.reduceEqDiff, Nat.reduceLT, Nat.reduceSub, Nat.reduceBEq, forall_const, reduceCtorEq, implies_true, exists_eq_left', exists_eq_left, if_true, if_false, undef]
        rfl
      have q1 : decide (((min 2 A : Nat) : Int) > 1) = false := by simp only [decide_eq_false_iff_not]; omega
      simp (maxSteps := 1000000) only [q1, Int.toNat_natCast, Nat.zero_add, hs1, encCl, XX, reduceIte, ↓reduceIte, Nat.reduceAdd, Nat.reduceLeDiff, Nat.reduceEqDiff, Nat.reduceLT, Nat.reduceSub, Nat.reduceBEq, forall_const, reduceCtorEq, implies_true, exists_eq_left', exists_eq_left, if_true, if_false, undef]
      refine ⟨by omega, by omega, by rw [hl1]; omega, ?_⟩
      simp (maxSteps := 1000000) only [Int.toNat_natCast, Nat.zero_add, hs1, hs2, encCl, XX, reduceIte, ↓reduceIte, Nat.reduceAdd, Nat.reduceLeDiff, Nat.reduceEqDiff, Nat.reduceLT, Nat.reduceSub, Nat.reduceBEq, forall_const, reduceCtorEq, implies_true, exists_eq_left', exists_eq_left, if_true, if_false, undef]
      refine callF (CallsA.args c2' (by simp only [ht2, hs1, hs2, Int.toNat_natCast, Nat.zero_add, encCl, XX, reduceIte, ↓reduceIte, Nat.reduceAdd, Nat.reduceLeDiff, Nat.reduceEqDiff, Nat.reduceLT, Nat.reduceSub, Nat.reduceBEq, forall_const, reduceCtorEq, implies_true, exists_eq_left', exists_eq_left, if_true, if_false, undef])) rfl (by simp [flat, encCl, XX, undef]) ?_
      have q3 : IntKind.i64.wrap (((min 2 A : Nat) : Int) + ((min 2 B : Nat) : Int)) = ((min 2 A + min 2 B : Nat) : Int) := by rw [wrap_id] <;> omega
      by_cases hB : min 2 A + min 2 B > 2
      · have q4 : decide (((min 2 A + min 2 B : Nat) : Int) > 2) = true := by simp only [decide_eq_true_eq]; omega
        have q2 : min 2 (A + B) = 2 := by omega
        rw [q2]
        simp (maxSteps := 1000000) only [q3, q4, encCl, XX, reduceIte, ↓reduceIte, Nat.reduceAdd, Nat.reduceLeDiff, Nat.reduceEqDiff, Nat.reduceLT, Nat.reduceSub, Nat.reduceBEq, forall_const, reduceCtorEq, implies_true, exists_eq_left', exists_eq_left, if_true, if_false, undef]
        rfl
      have q4 : decide (((min 2 A + min 2 B : Nat) : Int) > 2) = false := by simp only [decide_eq_false_iff_not]; omega
      have q2 : min 2 (A + B) = min 2 A + min 2 B := by omega
      rw [q2]
      simp (maxSteps := 1000000) only [q3, q4, encCl, XX, reduceIte, ↓reduceIte, Nat.reduceAdd, Nat.reduceLeDiff, Nat.reduceEqDiff, Nat.reduceLT, Nat.reduceSub, Nat.reduceBEq, forall_const, reduceCtorEq, implies_true, exists_eq_left', exists_eq_left, if_true, if_false, undef]
  | true =>
    simp (maxSteps := 1000000) only [hle, Bo, encCl, XX, reduceIte, ↓reduceIte, Nat.reduceAdd, Nat.reduceLeDiff, Nat.reduceEqDiff, Nat.reduceLT, Nat.reduceSub, Nat.reduceBEq, forall_const, reduceCtorEq, implies_true, exists_eq_left', exists_eq_left, if_true, if_false, undef]
    refine loopO (Nat × Bool × List (Option Bool)) [25, 5] (fun s => [IN s.1, Bo s.2.1]) (fun s => [(3, some (.arr 1 (encH s.2.2)))])
      (fun s => s.1 ≤ l.length ∧ s.2.2.length = h.length ∧ cntS l [] s.2.2 = cntS l [] h ∧ (s.2.1 = false → s.2.2 = h ∧ ∀ c ∈ l.take s.1, DoneC h c) ∧ (s.2.1 = true → noneN s.2.2 < noneN h)) (fun s => l.length - s.1) (by decide) (0, false, h)
      ⟨by simp, rfl, rfl, fun _ => ⟨rfl, by simp⟩, fun hh => by cases hh⟩ (by simp [Back, BackF, fzT, fzM, fzU, fz, fzL, fzO, kin, SubT, Sub, SubL, SubM, SubO, keepM, srcOk, look, lookM, ev, evs, putT, argT, encCl, XX, undef]) ?_
    rintro ⟨k, more, g⟩ ⟨hk, gl, gcn, gf, gt⟩
    simp only at hk gl gcn gf gt
    by_cases c1 : k < l.length
    rotate_left
    · have g1 : decide ((k : Int) < (l.length : Int)) = false := by simp; omega
      obtain rfl : k = l.length := by omega
      rw [List.take_length] at gf
      simp (maxSteps := 1000000) only [hle, g1, encCl, XX, reduceIte, ↓reduceIte, Nat.reduceAdd, Nat.reduceLeDiff, Nat.reduceEqDiff, Nat.reduceLT, Nat.reduceSub, Nat.reduceBEq, forall_const, reduceCtorEq, implies_true, exists_eq_left', exists_eq_left, if_true, if_false, undef]
      cases more with
      | false =>
        obtain ⟨rfl, gd⟩ := gf rfl
        exact ⟨(false, g), ⟨hl0, hcn, hnn, fun _ => gd⟩, by simp, by simp [Back, BackF, fzT, fzM, fzU, fz, fzL, fzO, kin, SubT, Sub, SubL, SubM, SubO, keepM, srcOk, look, lookM, ev, evs, putT, argT, encCl, XX, undef]⟩
      | true =>
        have gt := gt rfl
        exact ⟨(true, g), ⟨by simp only; omega, gcn.trans hcn, by simp only; omega, fun hh => by cases hh⟩, by simp only [Bool.toNat_true]; omega, by simp [Back, BackF, fzT, fzM, fzU, fz, fzL, fzO, kin, SubT, Sub, SubL, SubM, SubO, keepM, srcOk, look, lookM, ev, evs, putT, argT, encCl, XX, undef]⟩
    have g1 : decide ((k : Int) < (l.length : Int)) = true := by simp [c1]
    have hw : IntKind.i64.wrap ((k : Int) + 1) = ((k + 1 : Nat) : Int) := by rw [wrap_id] <;> omega
    simp (maxSteps := 1000000) only [hle, g1, encCl, XX, reduceIte, ↓reduceIte, Nat.reduceAdd, Nat.reduceLeDiff, Nat.reduceEqDiff, Nat.reduceLT, Nat.reduceSub, Nat.reduceBEq, forall_const, reduceCtorEq, implies_true, exists_eq_left', exists_eq_left, if_true, if_false, undef]
    refine ⟨by omega, pickM c1 ?_⟩
    have hmem : l[k] ∈ l := List.getElem_mem c1
    have htk : ∀ c, c ∈ l.take (k + 1) → c ∈ l.take k ∨ c = l[k] := fun c hc => by
      rw [List.take_add_one, List.getElem?_eq_getElem c1, List.mem_append] at hc
      exact hc.imp id (fun hh => by simpa using hh)
    have hck : ClOk g.length l[k] := by rw [gl]; exact hclh _ hmem
    generalize l[k] = c at *
    obtain ⟨ys, ns⟩ := c
    have hyl : ((ys.map I).length : Int) = ys.length := by simp
    have hnl : ((ns.map I).length : Int) = ns.length := by simp
    have hy8 := hck.y8
    have hn8 := hck.n8
    simp only at hy8 hn8
    have hry := hck.y
    have hrn := hck.n
    simp only at hry hrn
    simp (maxSteps := 1000000) only [encCl, splice, AV.cells, hyl, hnl, encCl, XX, reduceIte, ↓reduceIte, Nat.reduceAdd, Nat.reduceLeDiff, Nat.reduceEqDiff, Nat.reduceLT, Nat.reduceSub, Nat.reduceBEq, forall_const, reduceCtorEq, implies_true, exists_eq_left', exists_eq_left, if_true, if_false, undef]
    refine loop0 Nat [32, 8, 9, 10, 11] (fun j => [IN j, I ((ys.take j).foldl (scY g) sc0).f, I ((ys.take j).foldl (scY g) sc0).v, IN ((ys.take j).foldl (scY g) sc0).m, Bo ((ys.take j).foldl (scY g) sc0).s]) (fun j => j ≤ ys.length) (fun j => ys.length - j) (by decide) 0 (by simp) (by simp [Back, BackF, fzT, fzM, fzU, fz, fzL, fzO, kin, SubT, Sub, SubL, SubM, SubO, keepM, srcOk, look, lookM, ev, evs, putT, argT, encCl, XX, undef, sc0]) ?_
    intro j hj
    by_cases c2 : j < ys.length
    · have g2 : decide ((j : Int) < (ys.length : Int)) = true := by simp [c2]
      have hwj : IntKind.i64.wrap ((j : Int) + 1) = ((j + 1 : Nat) : Int) := by rw [wrap_id] <;> omega
      have hr := hry _ (List.getElem_mem c2)
      have hnx : (ys.take (j + 1)).foldl (scY g) sc0 = scY g ((ys.take j).foldl (scY g) sc0) ys[j] := by
        rw [List.take_add_one, List.getElem?_eq_getElem c2, List.foldl_append]; rfl
      have hmle : ((ys.take j).foldl (scY g) sc0).m ≤ j + 0 := scY_le g ys j
      generalize (ys.take j).foldl (scY g) sc0 = st at *
      obtain ⟨sf, sv, sm, ss⟩ := st
      simp only at hmle
      simp (maxSteps := 1000000) only [hyl, hnl, g2, encCl, XX, reduceIte, ↓reduceIte, Nat.reduceAdd, Nat.reduceLeDiff, Nat.reduceEqDiff, Nat.reduceLT, Nat.reduceSub, Nat.reduceBEq, forall_const, reduceCtorEq, implies_true, exists_eq_left', exists_eq_left, if_true, if_false, undef]
      refine ⟨by omega, pickM c2 ?_⟩
      generalize ys[j] = i at *
      have hwm : IntKind.i64.wrap ((sm : Int) + 1) = ((sm + 1 : Nat) : Int) := by rw [wrap_id] <;> omega
      have hgp := fun K => getPick (h := g) (K := K) hr
      have e1 := encO_neg (getH g i)
      have e2 := encO_one (getH g i)
      rw [scY] at hnx
      have ei : ((i.toNat : Nat) : Int) = i := by omega
      cases ss with
      | true =>
        simp (maxSteps := 1000000) only [encCl, XX, reduceIte, ↓reduceIte, Nat.reduceAdd, Nat.reduceLeDiff, Nat.reduceEqDiff, Nat.reduceLT, Nat.reduceSub, Nat.reduceBEq, forall_const, reduceCtorEq, implies_true, exists_eq_left', exists_eq_left, if_true, if_false, undef]
        refine ⟨by omega, by omega, ?_⟩
        try rw [Nat.zero_add]
        refine hgp _ ?_
        cases hg : getH g i with
        | none =>
          rw [hg] at e1 e2 hnx
          rw [if_pos rfl] at hnx
          simp (maxSteps := 1000000) only [e1, hwj, hwm, Option.isNone_none, encCl, XX, reduceIte, ↓reduceIte, Nat.reduceAdd, Nat.reduceLeDiff, Nat.reduceEqDiff, Nat.reduceLT, Nat.reduceSub, Nat.reduceBEq, forall_const, reduceCtorEq, implies_true, exists_eq_left', exists_eq_left, if_true, if_false, undef]
          exact ⟨j + 1, by omega, by omega, by rw [hnx]; simp [Back, BackF, fzT, fzM, fzU, fz, fzL, fzO, kin, SubT, Sub, SubL, SubM, SubO, keepM, srcOk, look, lookM, ev, evs, putT, argT, encCl, XX, reduceIte, ↓reduceIte, Nat.reduceAdd, Nat.reduceLeDiff, Nat.reduceEqDiff, Nat.reduceLT, Nat.reduceSub, Nat.reduceBEq, forall_const, reduceCtorEq, implies_true, exists_eq_left', exists_eq_left, if_true, if_false, undef, hwm]⟩
        | some b =>
          rw [hg] at e1 e2 hnx
          rw [if_neg (by simp)] at hnx
          simp (maxSteps := 1000000) only [e1, hwj, hwm, Option.isNone_some, encCl, XX, reduceIte, ↓reduceIte, Nat.reduceAdd, Nat.reduceLeDiff, Nat.reduceEqDiff, Nat.reduceLT, Nat.reduceSub, Nat.reduceBEq, forall_const, reduceCtorEq, implies_true, exists_eq_left', exists_eq_left, if_true, if_false, undef]
          exact ⟨j + 1, by omega, by omega, by rw [hnx]; simp [Back, BackF, fzT, fzM, fzU, fz, fzL, fzO, kin, SubT, Sub, SubL, SubM, SubO, keepM, srcOk, look, lookM, ev, evs, putT, argT, encCl, XX, reduceIte, ↓reduceIte, Nat.reduceAdd, Nat.reduceLeDiff, Nat.reduceEqDiff, Nat.reduceLT, Nat.reduceSub, Nat.reduceBEq, forall_const, reduceCtorEq, implies_true, exists_eq_left', exists_eq_left, if_true, if_false, undef]⟩
      | false =>
        simp (maxSteps := 1000000) only [encCl, XX, reduceIte, ↓reduceIte, Nat.reduceAdd, Nat.reduceLeDiff, Nat.reduceEqDiff, Nat.reduceLT, Nat.reduceSub, Nat.reduceBEq, forall_const, reduceCtorEq, implies_true, exists_eq_left', exists_eq_left, if_true, if_false, undef]
        refine ⟨by omega, by omega, ?_⟩
        try rw [Nat.zero_add]
        refine hgp _ ?_
        simp (maxSteps := 1000000) only [encCl, XX, reduceIte, ↓reduceIte, Nat.reduceAdd, Nat.reduceLeDiff, Nat.reduceEqDiff, Nat.reduceLT, Nat.reduceSub, Nat.reduceBEq, forall_const, reduceCtorEq, implies_true, exists_eq_left', exists_eq_left, if_true, if_false, undef]
        refine ⟨by omega, by omega, ?_⟩
        try rw [Nat.zero_add]
        refine hgp _ ?_
        cases hg : getH g i with
        | none =>
          rw [hg] at e1 e2 hnx
          rw [if_pos rfl] at hnx
          simp (maxSteps := 1000000) only [e1, e2, hwj, hwm, Option.isNone_none, encCl, XX, reduceIte, ↓reduceIte, Nat.reduceAdd, Nat.reduceLeDiff, Nat.reduceEqDiff, Nat.reduceLT, Nat.reduceSub, Nat.reduceBEq, forall_const, reduceCtorEq, implies_true, exists_eq_left', exists_eq_left, if_true, if_false, undef]
          exact ⟨j + 1, by omega, by omega, by rw [hnx]; simp [Back, BackF, fzT, fzM, fzU, fz, fzL, fzO, kin, SubT, Sub, SubL, SubM, SubO, keepM, srcOk, look, lookM, ev, evs, putT, argT, encCl, XX, reduceIte, ↓reduceIte, Nat.reduceAdd, Nat.reduceLeDiff, Nat.reduceEqDiff, Nat.reduceLT, Nat.reduceSub, Nat.reduceBEq, forall_const, reduceCtorEq, implies_true, exists_eq_left', exists_eq_left, if_true, if_false, undef, e2, hwm]⟩
        | some b =>
          rw [hg] at e1 e2 hnx
          rw [if_neg (by simp)] at hnx
          simp (maxSteps := 1000000) only [e1, e2, hwj, hwm, Option.isNone_some, encCl, XX, reduceIte, ↓reduceIte, Nat.reduceAdd, Nat.reduceLeDiff, Nat.reduceEqDiff, Nat.reduceLT, Nat.reduceSub, Nat.reduceBEq, forall_const, reduceCtorEq, implies_true, exists_eq_left', exists_eq_left, if_true, if_false, undef]
          exact ⟨j + 1, by omega, by omega, by rw [hnx]; simp [Back, BackF, fzT, fzM, fzU, fz, fzL, fzO, kin, SubT, Sub, SubL, SubM, SubO, keepM, srcOk, look, lookM, ev, evs, putT, argT, encCl, XX, reduceIte, ↓reduceIte, Nat.reduceAdd, Nat.reduceLeDiff, Nat.reduceEqDiff, Nat.reduceLT, Nat.reduceSub, Nat.reduceBEq, forall_const, reduceCtorEq, implies_true, exists_eq_left', exists_eq_left, if_true, if_false, undef, e2]⟩
    have g2 : decide ((j : Int) < (ys.length : Int)) = false := by simp; omega
    obtain rfl : j = ys.length := by omega
    rw [List.take_length]
    simp (maxSteps := 1000000) only [hyl, hnl, g2, encCl, XX, reduceIte, ↓reduceIte, Nat.reduceAdd, Nat.reduceLeDiff, Nat.reduceEqDiff, Nat.reduceLT, Nat.reduceSub, Nat.reduceBEq, forall_const, reduceCtorEq, implies_true, exists_eq_left', exists_eq_left, if_true, if_false, undef]
    clear g2 c2 hj
    have hY : ys.foldl (scY g) sc0 = scanY g ys := rfl
    rw [hY]
    refine loop0 Nat [56, 8, 9, 10, 11] (fun j => [IN j, I ((ns.take j).foldl (scN g) (scanY g ys)).f, I ((ns.take j).foldl (scN g) (scanY g ys)).v, IN ((ns.take j).foldl (scN g) (scanY g ys)).m, Bo ((ns.take j).foldl (scN g) (scanY g ys)).s]) (fun j => j ≤ ns.length) (fun j => ns.length - j) (by decide) 0 (by simp) (by simp [Back, BackF, fzT, fzM, fzU, fz, fzL, fzO, kin, SubT, Sub, SubL, SubM, SubO, keepM, srcOk, look, lookM, ev, evs, putT, argT, encCl, XX, undef]) ?_
    intro j hj
    by_cases c2 : j < ns.length
    · have g2 : decide ((j : Int) < (ns.length : Int)) = true := by simp [c2]
      have hwj : IntKind.i64.wrap ((j : Int) + 1) = ((j + 1 : Nat) : Int) := by rw [wrap_id] <;> omega
      have hr := hrn _ (List.getElem_mem c2)
      have hnx : (ns.take (j + 1)).foldl (scN g) (scanY g ys) = scN g ((ns.take j).foldl (scN g) (scanY g ys)) ns[j] := by
        rw [List.take_add_one, List.getElem?_eq_getElem c2, List.foldl_append]; rfl
      have hmle : ((ns.take j).foldl (scN g) (scanY g ys)).m ≤ j + ys.length := scN_le g ns j
      generalize (ns.take j).foldl (scN g) (scanY g ys) = st at *
      obtain ⟨sf, sv, sm, ss⟩ := st
      simp only at hmle
      simp (maxSteps := 1000000) only [hyl, hnl, g2, encCl, XX, reduceIte, ↓reduceIte, Nat.reduceAdd, Nat.reduceLeDiff, Nat.reduceEqDiff, Nat.reduceLT, Nat.reduceSub, Nat.reduceBEq, forall_const, reduceCtorEq, implies_true, exists_eq_left', exists_eq_left, if_true, if_false, undef]
      refine ⟨by omega, pickM c2 ?_⟩
      generalize ns[j] = i at *
      have hwm : IntKind.i64.wrap ((sm : Int) + 1) = ((sm + 1 : Nat) : Int) := by rw [wrap_id] <;> omega
      have hgp := fun K => getPick (h := g) (K := K) hr
      have e1 := encO_neg (getH g i)
      have e2 := encO_zero (getH g i)
      rw [scN] at hnx
      have ei : ((i.toNat : Nat) : Int) = i := by omega
      cases ss with
      | true =>
        simp (maxSteps := 1000000) only [encCl, XX, reduceIte, ↓reduceIte, Nat.reduceAdd, Nat.reduceLeDiff, Nat.reduceEqDiff, Nat.reduceLT, Nat.reduceSub, Nat.reduceBEq, forall_const, reduceCtorEq, implies_true, exists_eq_left', exists_eq_left, if_true, if_false, undef]
        refine ⟨by omega, by omega, ?_⟩
        try rw [Nat.zero_add]
        refine hgp _ ?_
        cases hg : getH g i with
        | none =>
          rw [hg] at e1 e2 hnx
          rw [if_pos rfl] at hnx
          simp (maxSteps := 1000000) only [e1, hwj, hwm, Option.isNone_none, encCl, XX, reduceIte, ↓reduceIte, Nat.reduceAdd, Nat.reduceLeDiff, Nat.reduceEqDiff, Nat.reduceLT, Nat.reduceSub, Nat.reduceBEq, forall_const, reduceCtorEq, implies_true, exists_eq_left', exists_eq_left, if_true, if_false, undef]
          exact ⟨j + 1, by omega, by omega, by rw [hnx]; simp [Back, BackF, fzT, fzM, fzU, fz, fzL, fzO, kin, SubT, Sub, SubL, SubM, SubO, keepM, srcOk, look, lookM, ev, evs, putT, argT, encCl, XX, reduceIte, ↓reduceIte, Nat.reduceAdd, Nat.reduceLeDiff, Nat.reduceEqDiff, Nat.reduceLT, Nat.reduceSub, Nat.reduceBEq, forall_const, reduceCtorEq, implies_true, exists_eq_left', exists_eq_left, if_true, if_false, undef, hwm]⟩
        | some b =>
          rw [hg] at e1 e2 hnx
          rw [if_neg (by simp)] at hnx
          simp (maxSteps := 1000000) only [e1, hwj, hwm, Option.isNone_some, encCl, XX, reduceIte, ↓reduceIte, Nat.reduceAdd, Nat.reduceLeDiff, Nat.reduceEqDiff, Nat.reduceLT, Nat.reduceSub, Nat.reduceBEq, forall_const, reduceCtorEq, implies_true, exists_eq_left', exists_eq_left, if_true, if_false, undef]
          exact ⟨j + 1, by omega, by omega, by rw [hnx]; simp [Back, BackF, fzT, fzM, fzU, fz, fzL, fzO, kin, SubT, Sub, SubL, SubM, SubO, keepM, srcOk, look, lookM, ev, evs, putT, argT, encCl, XX, reduceIte, ↓reduceIte, Nat.reduceAdd, Nat.reduceLeDiff, Nat.reduceEqDiff, Nat.reduceLT, Nat.reduceSub, Nat.reduceBEq, forall_const, reduceCtorEq, implies_true, exists_eq_left', exists_eq_left, if_true, if_false, undef]⟩
      | false =>
        simp (maxSteps := 1000000) only [encCl, XX, reduceIte, ↓reduceIte, Nat.reduceAdd, Nat.reduceLeDiff, Nat.reduceEqDiff, Nat.reduceLT, Nat.reduceSub, Nat.reduceBEq, forall_const, reduceCtorEq, implies_true, exists_eq_left', exists_eq_left, if_true, if_false, undef]
        refine ⟨by omega, by omega, ?_⟩
        try rw [Nat.zero_add]
        refine hgp _ ?_
        simp (maxSteps := 1000000) only [encCl, XX, reduceIte, ↓reduceIte, Nat.reduceAdd, Nat.reduceLeDiff, Nat.reduceEqDiff, Nat.reduceLT, Nat.reduceSub, Nat.reduceBEq, forall_const, reduceCtorEq, implies_true, exists_eq_left', exists_eq_left, if_true, if_false, undef]
        refine ⟨by omega, by omega, ?_⟩
        try rw [Nat.zero_add]
        refine hgp _ ?_
        cases hg : getH g i with
        | none =>
          rw [hg] at e1 e2 hnx
          rw [if_pos rfl] at hnx
          simp (maxSteps := 1000000) only [e1, e2, hwj, hwm, Option.isNone_none, encCl, XX, reduceIte, ↓reduceIte, Nat.reduceAdd, Nat.reduceLeDiff, Nat.reduceEqDiff, Nat.reduceLT, Nat.reduceSub, Nat.reduceBEq, forall_const, reduceCtorEq, implies_true, exists_eq_left', exists_eq_left, if_true, if_false, undef]
          exact ⟨j + 1, by omega, by omega, by rw [hnx]; simp [Back, BackF, fzT, fzM, fzU, fz, fzL, fzO, kin, SubT, Sub, SubL, SubM, SubO, keepM, srcOk, look, lookM, ev, evs, putT, argT, encCl, XX, reduceIte, ↓reduceIte, Nat.reduceAdd, Nat.reduceLeDiff, Nat.reduceEqDiff, Nat.reduceLT, Nat.reduceSub, Nat.reduceBEq, forall_const, reduceCtorEq, implies_true, exists_eq_left', exists_eq_left, if_true, if_false, undef, e2, hwm]⟩
        | some b =>
          rw [hg] at e1 e2 hnx
          rw [if_neg (by simp)] at hnx
          simp (maxSteps := 1000000) only [e1, e2, hwj, hwm, Option.isNone_some, encCl, XX, reduceIte, ↓reduceIte, Nat.reduceAdd, Nat.reduceLeDiff, Nat.reduceEqDiff, Nat.reduceLT, Nat.reduceSub, Nat.reduceBEq, forall_const, reduceCtorEq, implies_true, exists_eq_left', exists_eq_left, if_true, if_false, undef]
          exact ⟨j + 1, by omega, by omega, by rw [hnx]; simp [Back, BackF, fzT, fzM, fzU, fz, fzL, fzO, kin, SubT, Sub, SubL, SubM, SubO, keepM, srcOk, look, lookM, ev, evs, putT, argT, encCl, XX, reduceIte, ↓reduceIte, Nat.reduceAdd, Nat.reduceLeDiff, Nat.reduceEqDiff, Nat.reduceLT, Nat.reduceSub, Nat.reduceBEq, forall_const, reduceCtorEq, implies_true, exists_eq_left', exists_eq_left, if_true, if_false, undef, e2]⟩
    have g2 : decide ((j : Int) < (ns.length : Int)) = false := by simp; omega
    obtain rfl : j = ns.length := by omega
    rw [List.take_length]
    have hS : ns.foldl (scN g) (scanY g ys) = scan g ⟨ys, ns⟩ := rfl
    rw [hS]
    simp (maxSteps := 1000000) only [hyl, hnl, g2, encCl, XX, reduceIte, ↓reduceIte, Nat.reduceAdd, Nat.reduceLeDiff, Nat.reduceEqDiff, Nat.reduceLT, Nat.reduceSub, Nat.reduceBEq, forall_const, reduceCtorEq, implies_true, exists_eq_left', exists_eq_left, if_true, if_false, undef]
    have hsok := scan_ok g ⟨ys, ns⟩
    have hmle : (scan g ⟨ys, ns⟩).m ≤ ns.length + ys.length := by
      have := scN_le g (ys := ys) ns ns.length
      rw [List.take_length] at this
      exact this
    have next : DoneC g ⟨ys, ns⟩ → more = false → g = h ∧ ∀ c, c ∈ l.take (k + 1) → DoneC h c := fun hd hm => by
      obtain ⟨e, hd2⟩ := gf hm
      refine ⟨e, fun c hc => ?_⟩
      rcases htk c hc with hc | rfl
      · exact hd2 c hc
      · rwa [← e]
    cases hs : (scan g ⟨ys, ns⟩).s with
    | true =>
      simp (maxSteps := 1000000) only [hw, encCl, XX, reduceIte, ↓reduceIte, Nat.reduceAdd, Nat.reduceLeDiff, Nat.reduceEqDiff, Nat.reduceLT, Nat.reduceSub, Nat.reduceBEq, forall_const, reduceCtorEq, implies_true, exists_eq_left', exists_eq_left, if_true, if_false, undef]
      exact ⟨(k + 1, more, g), ⟨by simp only; omega, gl, gcn, next (.inl hs), gt⟩, by simp only; omega, by simp [Back, BackF, fzT, fzM, fzU, fz, fzL, fzO, kin, SubT, Sub, SubL, SubM, SubO, keepM, srcOk, look, lookM, ev, evs, putT, argT, encCl, XX, undef]⟩
    | false =>
    by_cases m0 : (scan g ⟨ys, ns⟩).m = 0
    · have f0 : (((scan g ⟨ys, ns⟩).m : Int) == 0) = true := by simp [m0]
      have hz : cntS l [] h0 = 0 := by rw [← hcn, ← gcn]; exact cnt_conflict hmem hs m0
      rw [hz]
      simp (maxSteps := 1000000) only [f0, encCl, XX, reduceIte, ↓reduceIte, Nat.reduceAdd, Nat.reduceLeDiff, Nat.reduceEqDiff, Nat.reduceLT, Nat.reduceSub, Nat.reduceBEq, forall_const, reduceCtorEq, implies_true, exists_eq_left', exists_eq_left, if_true, if_false, undef]
      rfl
    have f0 : (((scan g ⟨ys, ns⟩).m : Int) == 0) = false := by simp; omega
    by_cases m1 : (scan g ⟨ys, ns⟩).m = 1
    rotate_left
    · have f1 : (((scan g ⟨ys, ns⟩).m : Int) == 1) = false := by simp; omega
      simp (maxSteps := 1000000) only [f0, f1, hw, encCl, XX, reduceIte, ↓reduceIte, Nat.reduceAdd, Nat.reduceLeDiff, Nat.reduceEqDiff, Nat.reduceLT, Nat.reduceSub, Nat.reduceBEq, forall_const, reduceCtorEq, implies_true, exists_eq_left', exists_eq_left, if_true, if_false, undef]
      exact ⟨(k + 1, more, g), ⟨by simp only; omega, gl, gcn, next (.inr (by omega)), gt⟩, by simp only; omega, by simp [Back, BackF, fzT, fzM, fzU, fz, fzL, fzO, kin, SubT, Sub, SubL, SubM, SubO, keepM, srcOk, look, lookM, ev, evs, putT, argT, encCl, XX, undef]⟩
    have f1 : (((scan g ⟨ys, ns⟩).m : Int) == 1) = true := by simp [m1]
    have hf := scan_f hck m1
    have hu := cnt_unit hmem hck hs m1
    obtain ⟨o1, o2, _, _, _⟩ := hsok.o m1
    have hnone := noneN_set (b := (scan g ⟨ys, ns⟩).v == 1) (getH_some hf o1)
    have hge : noneN g ≤ noneN h := by
      cases more with
      | false => rw [(gf rfl).1]; exact Nat.le_refl _
      | true => have := gt rfl; omega
    have hv : I (scan g ⟨ys, ns⟩).v = I (encO (some ((scan g ⟨ys, ns⟩).v == 1))) := by
      rcases o2 with o2 | o2 <;> rw [o2] <;> rfl
    have hset := encH_set g (scan g ⟨ys, ns⟩).f.toNat (some ((scan g ⟨ys, ns⟩).v == 1))
    rw [← hv] at hset
    have hgl : (encH g).length = g.length := by simp
    simp (maxSteps := 1000000) only [f0, f1, hw, encCl, XX, reduceIte, ↓reduceIte, Nat.reduceAdd, Nat.reduceLeDiff, Nat.reduceEqDiff, Nat.reduceLT, Nat.reduceSub, Nat.reduceBEq, forall_const, reduceCtorEq, implies_true, exists_eq_left', exists_eq_left, if_true, if_false, undef]
    refine ⟨by omega, by omega, by simp only [hgl]; omega, ?_⟩
    refine ⟨(k + 1, true, g.set (scan g ⟨ys, ns⟩).f.toNat (some ((scan g ⟨ys, ns⟩).v == 1))), ⟨by simp only; omega, by simp only [List.length_set]; exact gl, by simp only; rw [hu]; exact gcn, (fun hh => by cases hh), fun _ => by simp only; omega⟩, by simp only; omega, ?_⟩
    simp [Back, BackF, fzT, fzM, fzU, fz, fzL, fzO, kin, SubT, Sub, SubL, SubM, SubO, keepM, srcOk, look, lookM, ev, evs, putT, argT, encCl, XX, reduceIte, ↓reduceIte, Nat.reduceAdd, Nat.reduceLeDiff, Nat.reduceEqDiff, Nat.reduceLT, Nat.reduceSub, Nat.reduceBEq, forall_const, reduceCtorEq, implies_true, exists_eq_left', exists_eq_left, if_true, if_false, undef, hset]

theorem choices0_spec (n : Nat) (l : List Cl) (v : List Bool) (hn : n ≤ 1000) (hv : v.length ≤ n) (hl : l.length ≤ 100000) (hc : ClsOk n l) :
    CallsA Try.prog 18 [IN n, .ro 2 (l.map encCl), .ro 1 (v.map Bo)] (IN (min 2 (cntS l [] (fstH n v)))) [] := by
  refine fn_of0 comp18 (by simp) ?_
  unfold code18
  have hlen : (fstH n v).length = n := by simp [fstH]; omega
  have hvv : ((v.map Bo).length : Int) = v.length := by simp
  have hrep : List.replicate ((n : Int)).toNat (AV.v (.int .i64 0)) = (encH (fstH n v)).take 0 ++ List.replicate (n - 0) (I 0) := by simp [I]
  have hcs := choices_spec l hl _ (fstH n v) rfl (by rw [hlen]; exact hc) (by omega)
  simp (maxSteps := 1000000) only [hrep, encCl, XX, reduceIte, ↓reduceIte, Nat.reduceAdd, Nat.reduceLeDiff, Nat.reduceEqDiff, Nat.reduceLT, Nat.reduceSub, Nat.reduceBEq, forall_const, reduceCtorEq, implies_true, exists_eq_left', exists_eq_left, if_true, if_false, undef]
  refine ⟨by omega, by omega, by omega, ?_⟩
  refine loopO Nat [8] (fun k => [IN k]) (fun k => [(2, some (.arr 1 ((encH (fstH n v)).take k ++ List.replicate (n - k) (I 0))))]) (fun k => k ≤ n) (fun k => n - k) (by decide) 0 (by simp) (by simp [Back, BackF, fzT, fzM, fzU, fz, fzL, fzO, kin, SubT, Sub, SubL, SubM, SubO, keepM, srcOk, look, lookM, ev, evs, putT, argT, encCl, XX, undef]) ?_
  intro k hk
  have hal : ((encH (fstH n v)).take k ++ List.replicate (n - k) (I 0)).length = n := by simp [hlen]; omega
  by_cases c1 : k < n
  rotate_left
  · have g1 : decide ((k : Int) < (n : Int)) = false := by simp; omega
    obtain rfl : k = n := by omega
    have hfin : (encH (fstH k v)).take k ++ List.replicate (k - k) (I 0) = encH (fstH k v) := by rw [Nat.sub_self, List.replicate_zero, List.append_nil, List.take_of_length_le (by simp [hlen])]
    have ht : (encH (fstH k v)).take k = encH (fstH k v) := List.take_of_length_le (by simp [hlen])
    simp (maxSteps := 1000000) only [g1, hfin, Int.toNat_natCast, encCl, XX, reduceIte, ↓reduceIte, Nat.reduceAdd, Nat.reduceLeDiff, Nat.reduceEqDiff, Nat.reduceLT, Nat.reduceSub, Nat.reduceBEq, forall_const, reduceCtorEq, implies_true, exists_eq_left', exists_eq_left, if_true, if_false, undef]
    refine callF (CallsA.args hcs (by simp only [ht, Int.toNat_natCast, encCl, XX, reduceIte, ↓reduceIte, Nat.reduceAdd, Nat.reduceLeDiff, Nat.reduceEqDiff, Nat.reduceLT, Nat.reduceSub, Nat.reduceBEq, forall_const, reduceCtorEq, implies_true, exists_eq_left', exists_eq_left, if_true, if_false, undef])) rfl (by simp [flat, encCl, XX, undef]) ?_
    simp (maxSteps := 1000000) only [encCl, XX, reduceIte, ↓reduceIte, Nat.reduceAdd, Nat.reduceLeDiff, Nat.reduceEqDiff, Nat.reduceLT, Nat.reduceSub, Nat.reduceBEq, forall_const, reduceCtorEq, implies_true, exists_eq_left', exists_eq_left, if_true, if_false, undef]
  have g1 : decide ((k : Int) < (n : Int)) = true := by simp [c1]
  have hw : IntKind.i64.wrap ((k : Int) + 1) = ((k + 1 : Nat) : Int) := by rw [wrap_id] <;> omega
  have hstep : ∀ o : Option Bool, (fstH n v)[k]? = some o → ((encH (fstH n v)).take k ++ List.replicate (n - k) (I 0)).set k (I (encO o)) = (encH (fstH n v)).take (k + 1) ++ List.replicate (n - (k + 1)) (I 0) := fun o ho => by
    rw [List.set_append_right _ _ (by simp; omega), show n - k = (n - (k + 1)) + 1 by omega, List.replicate_succ, List.length_take, List.length_map, hlen, Nat.min_eq_left (by omega), Nat.sub_self, List.set_cons_zero, List.take_add_one, List.getElem?_map, ho]
    simp
  simp (maxSteps := 1000000) only [g1, encCl, XX, reduceIte, ↓reduceIte, Nat.reduceAdd, Nat.reduceLeDiff, Nat.reduceEqDiff, Nat.reduceLT, Nat.reduceSub, Nat.reduceBEq, forall_const, reduceCtorEq, implies_true, exists_eq_left', exists_eq_left, if_true, if_false, undef]
  refine ⟨by omega, by omega, by rw [hal, Int.toNat_natCast]; omega, ?_⟩
  by_cases c2 : k < v.length
  · have g2 : decide ((k : Int) < (v.length : Int)) = true := by simp; omega
    have hget : (fstH n v)[k]? = some (some v[k]) := by rw [fstH, List.getElem?_append_left (by simp; omega)]; simp
    have hs := hstep _ hget
    simp (maxSteps := 1000000) only [g2, hvv, encCl, XX, reduceIte, ↓reduceIte, Nat.reduceAdd, Nat.reduceLeDiff, Nat.reduceEqDiff, Nat.reduceLT, Nat.reduceSub, Nat.reduceBEq, forall_const, reduceCtorEq, implies_true, exists_eq_left', exists_eq_left, if_true, if_false, undef]
    refine ⟨by omega, by omega, by rw [List.length_set, hal, Int.toNat_natCast]; omega, by omega, pickM c2 ?_⟩
    generalize v[k] = b at *
    cases b with
    | false =>
      simp (maxSteps := 1000000) only [hw, Bo, encCl, XX, reduceIte, ↓reduceIte, Nat.reduceAdd, Nat.reduceLeDiff, Nat.reduceEqDiff, Nat.reduceLT, Nat.reduceSub, Nat.reduceBEq, forall_const, reduceCtorEq, implies_true, exists_eq_left', exists_eq_left, if_true, if_false, undef]
      exact ⟨k + 1, by omega, by omega, by rw [← hs]; simp [Back, BackF, fzT, fzM, fzU, fz, fzL, fzO, kin, SubT, Sub, SubL, SubM, SubO, keepM, srcOk, look, lookM, ev, evs, putT, argT, encCl, XX, reduceIte, ↓reduceIte, Nat.reduceAdd, Nat.reduceLeDiff, Nat.reduceEqDiff, Nat.reduceLT, Nat.reduceSub, Nat.reduceBEq, forall_const, reduceCtorEq, implies_true, exists_eq_left', exists_eq_left, if_true, if_false, undef, encO]⟩
    | true =>
      simp (maxSteps := 1000000) only [hw, Bo, encCl, XX, reduceIte, ↓reduceIte, Nat.reduceAdd, Nat.reduceLeDiff, Nat.reduceEqDiff, Nat.reduceLT, Nat.reduceSub, Nat.reduceBEq, forall_const, reduceCtorEq, implies_true, exists_eq_left', exists_eq_left, if_true, if_false, undef]
      refine ⟨by omega, by omega, by rw [List.length_set, List.length_set, hal, Int.toNat_natCast]; omega, ?_⟩
      exact ⟨k + 1, by omega, by omega, by rw [← hs]; simp [Back, BackF, fzT, fzM, fzU, fz, fzL, fzO, kin, SubT, Sub, SubL, SubM, SubO, keepM, srcOk, look, lookM, ev, evs, putT, argT, encCl, XX, reduceIte, ↓reduceIte, Nat.reduceAdd, Nat.reduceLeDiff, Nat.reduceEqDiff, Nat.reduceLT, Nat.reduceSub, Nat.reduceBEq, forall_const, reduceCtorEq, implies_true, exists_eq_left', exists_eq_left, if_true, if_false, undef, encO]⟩
  · have g2 : decide ((k : Int) < (v.length : Int)) = false := by simp; omega
    have hget : (fstH n v)[k]? = some none := by
      rw [fstH, List.getElem?_append_right (by simp; omega), List.getElem?_replicate, if_pos (by simp; omega)]
    have hs := hstep _ hget
    simp (maxSteps := 1000000) only [g2, hvv, hw, encCl, XX, reduceIte, ↓reduceIte, Nat.reduceAdd, Nat.reduceLeDiff, Nat.reduceEqDiff, Nat.reduceLT, Nat.reduceSub, Nat.reduceBEq, forall_const, reduceCtorEq, implies_true, exists_eq_left', exists_eq_left, if_true, if_false, undef]
    exact ⟨k + 1, by omega, by omega, by rw [← hs]; simp [Back, BackF, fzT, fzM, fzU, fz, fzL, fzO, kin, SubT, Sub, SubL, SubM, SubO, keepM, srcOk, look, lookM, ev, evs, putT, argT, encCl, XX, reduceIte, ↓reduceIte, Nat.reduceAdd, Nat.reduceLeDiff, Nat.reduceEqDiff, Nat.reduceLT, Nat.reduceSub, Nat.reduceBEq, forall_const, reduceCtorEq, implies_true, exists_eq_left', exists_eq_left, if_true, if_false, undef, encO]⟩

end Go.Av
