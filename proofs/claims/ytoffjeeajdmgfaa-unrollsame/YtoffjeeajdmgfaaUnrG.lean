/- Machines on few cells: the program's step and Build. -/
import Derived.Test.YtoffjeeajdmgfaaUnrD
set_option linter.unusedSimpArgs false
set_option linter.unusedVariables false
set_option maxRecDepth 100000
namespace Go.Av
open Go.Proofs

theorem accS_facts (M : Mach) (s : Ust) : ∀ i, (accS M s i).ones = s.ones ∧ (accS M s i).heads = s.heads ∧ (accS M s i).gs.length ≤ s.gs.length + 2 * i
  | 0 => ⟨rfl, rfl, by simp [accS]⟩
  | i + 1 => by
    obtain ⟨h1, h2, h3⟩ := accS_facts M s i
    rw [accS]
    generalize accS M s i = x at *
    have l1 : (a1R M x i).1.length ≤ x.gs.length + 1 := uand_len _ _ _
    have l2 : (a2R M x i).1.length ≤ (a1R M x i).1.length + 1 := uor_len _ _ _
    exact ⟨h1, h2, by simp only; omega⟩

set_option maxHeartbeats 1000000
theorem ustep_spec (M : Mach) (cells k : Nat) (s : Ust) (hM : MOk M) (h2 : M.signs = 2) (hs2 : M.states ≤ 2) (h1 : 1 ≤ cells) (h5 : cells ≤ 5) (hk : k ≤ 6) (U : UI M cells k s) :
    CallsM Try.prog 37 [.ptr 0 0] [uB M 1 2 3 4 s, .arr 3 (s.gs.map encG), .map (knE 0 s.gs), .arr 1 (s.ones.map I), .mat 1 (s.heads.map rwU)] (.tup [])
      [some (uB M 5 2 3 6 (stepS M cells s)), none, some (.map (knE 0 (stepS M cells s).gs)), some (.arr 1 ((stepS M cells s).ones.map I)), none, some (.arr 3 ((stepS M cells s).gs.map encG)), some (.mat 1 ((stepS M cells s).heads.map rwU))] := by
  have C := leave_ok (k := k) (s0 := ⟨s.gs, s.ones, nwh M cells, s.acc⟩) (before := s.heads) hM h2 hs2 h1 h5 U.ok U.onl U.onp (nwh_hs M cells s.gs) U.hs U.vo (fun w hw t n ht hn => by simp only; rw [nwh_at M cells t n ht hn]; rfl) U.vb
  have hst : stepS M cells s = accS M (lvC M cells ⟨s.gs, s.ones, nwh M cells, s.acc⟩ s.heads cells) cells := rfl
  have hC0 : lvC M cells ⟨s.gs, s.ones, nwh M cells, s.acc⟩ s.heads 0 = ⟨s.gs, s.ones, nwh M cells, s.acc⟩ := rfl
  have hCS : ∀ i, lvC M cells ⟨s.gs, s.ones, nwh M cells, s.acc⟩ s.heads (i + 1) = leaveS M cells (lvC M cells ⟨s.gs, s.ones, nwh M cells, s.acc⟩ s.heads i) i (s.heads.getD i []) := fun i => rfl
  rw [hst]
  generalize lvC M cells ⟨s.gs, s.ones, nwh M cells, s.acc⟩ s.heads = T at *
  have ho := U.onl
  have hh := U.hs
  have hhl := hh.len
  have hul := U.len
  have s1 := hM.s1
  have hw := fun rest => nowhere_spec rest M s.gs s.ones hM (by omega)
  rw [ho] at hw
  refine fnM_of comp37 (by simp) (by simp [uB]) ?_
  unfold code37
  simp (maxSteps := 1000000) only [memOf, uB, ho, hhl, XU, XX, reduceIte, ↓reduceIte, Nat.reduceAdd, Nat.reduceLeDiff, Nat.reduceEqDiff, Nat.reduceLT, Nat.reduceSub, Nat.reduceBEq, forall_const, reduceCtorEq, implies_true, exists_eq_left', exists_eq_left, if_true, if_false, undef]
  refine callP 0 6 rfl (by simp) (fun rest hrest => callM [some 0, some 1, some 2, some 3] (hw rest) (by simp [XU, XX, undef]) (by simp [XU, XX, undef]) (by simp [XU, XX, undef]) ⟨[.arr 1 0 s.gs.length, .mp 2, I M.states, I M.signs, .ro 1 (M.rules.map encRow), .arr 3 0 cells], by simp [XU, XX, undef], ?_⟩)
  simp (maxSteps := 1000000) only [XU, XX, reduceIte, ↓reduceIte, Nat.reduceAdd, Nat.reduceLeDiff, Nat.reduceEqDiff, Nat.reduceLT, Nat.reduceSub, Nat.reduceBEq, forall_const, reduceCtorEq, implies_true, exists_eq_left', exists_eq_left, if_true, if_false, undef]
  refine loopR Nat [19] (fun i => [IN i]) (fun i => [(0, some (.box [.arr 24 0 (T i).gs.length, .mp 2, I M.states, I M.signs, .ro 1 (M.rules.map encRow), .arr 3 0 cells, .arr 16 0 cells, I (T i).acc])), (24, some (.arr 3 ((T i).gs.map encG))), (2, some (.map (knE 0 (T i).gs))), (3, some (.arr 1 ((T i).ones.map I))), (16, some (.mat 1 ((T i).heads.map rwU))), (1, none), (4, some (.mat 1 (s.heads.map rwU)))])
    1 (fun i => i ≤ cells) (fun i => cells - i) (by decide) 0 [some 1] rfl (by omega) (by simp [Back, BackF, fzT, fzM, fzU, fz, fzL, fzO, kin, SubT, Sub, SubL, SubM, SubO, keepM, srcOk, look, lookM, ev, evs, putT, argT, XU, XX, undef, hC0]) ?_
  intro i hi
  have X := C i hi
  have hXl := X.len
  simp only at hXl
  have hXo := X.ok
  have hXh := X.hs
  have hXn := X.onl
  have hXp := X.onp
  have hXhl := hXh.len
  have hXpre := X.pre
  clear X
  by_cases c1 : i < cells
  · have g1 : decide ((i : Int) < (cells : Int)) = true := by simp [c1]
    have hwi : IntKind.i64.wrap ((i : Int) + 1) = ((i + 1 : Nat) : Int) := by rw [wrap_id] <;> omega
    obtain ⟨hrl, hrp⟩ := hh.get c1
    have hlv := leave_spec M cells i (T i) (s.heads.getD i []) hM h2 hs2 c1 h5 hXn hXh hrl (by omega) hXo hXp (hrp.up hXpre)
    have hnx := hCS i
    have hXn2 : (leaveS M cells (T i) i (s.heads.getD i [])).ones.length = cells := by rw [← hCS i]; exact (C (i + 1) (by omega)).onl
    have hXh2 : (leaveS M cells (T i) i (s.heads.getD i [])).heads.length = cells := by rw [← hCS i]; exact (C (i + 1) (by omega)).hs.len
    generalize leaveS M cells (T i) i (s.heads.getD i []) = Y at *
    generalize T i = X at *
    have hset : ((s.heads.map rwU).set i .gone).set i (.own ((s.heads.getD i []).map I)) = s.heads.map rwU := by
      rw [List.set_set, rw_set, set_same]
    have hpk : (s.heads.map rwU)[i]? = some (.own ((s.heads.getD i []).map I)) := by
      rw [List.getElem?_map, List.getElem?_eq_getElem (by omega), List.getD_eq_getElem?_getD, List.getElem?_eq_getElem (by omega)]; rfl
    generalize s.heads.getD i [] = row at *
    simp only [uB, hXn, hXhl, hXn2, hXh2] at hlv
    simp (maxSteps := 1000000) only [g1, XU, XX, reduceIte, ↓reduceIte, Nat.reduceAdd, Nat.reduceLeDiff, Nat.reduceEqDiff, Nat.reduceLT, Nat.reduceSub, Nat.reduceBEq, forall_const, reduceCtorEq, implies_true, exists_eq_left', exists_eq_left, if_true, if_false, undef]
    refine ⟨by omega, by omega, ?_⟩
    simp only [Int.toNat_natCast, Nat.zero_add]
    refine ⟨.own (row.map I), hpk, ?_⟩
    simp (maxSteps := 1000000) only [List.length_map, XU, XX, reduceIte, ↓reduceIte, Nat.reduceAdd, Nat.reduceLeDiff, Nat.reduceEqDiff, Nat.reduceLT, Nat.reduceSub, Nat.reduceBEq, forall_const, reduceCtorEq, implies_true, exists_eq_left', exists_eq_left, if_true, if_false, undef]
    refine callM [some 0, some 24, some 2, some 3, some 16, some 28] (hlv) (by simp [XU, XX, undef]) (by simp [XU, XX, undef]) (by simp [XU, XX, undef]) ?_
    simp (maxSteps := 1000000) only [hwi, XU, XX, reduceIte, ↓reduceIte, Nat.reduceAdd, Nat.reduceLeDiff, Nat.reduceEqDiff, Nat.reduceLT, Nat.reduceSub, Nat.reduceBEq, forall_const, reduceCtorEq, implies_true, exists_eq_left', exists_eq_left, if_true, if_false, undef]
    refine ⟨i + 1, [some 40], rfl, by omega, by omega, ?_⟩
    rw [hnx]
    simp [Back, BackF, fzT, fzM, fzU, fz, fzL, fzO, kin, SubT, Sub, SubL, SubM, SubO, keepM, srcOk, look, lookM, ev, evs, putT, argT, XU, XX, reduceIte, ↓reduceIte, Nat.reduceAdd, Nat.reduceLeDiff, Nat.reduceEqDiff, Nat.reduceLT, Nat.reduceSub, Nat.reduceBEq, forall_const, reduceCtorEq, implies_true, exists_eq_left', exists_eq_left, if_true, if_false, undef, hset, I]
  have g1 : decide ((i : Int) < (cells : Int)) = false := by simp; omega
  obtain rfl : i = cells := by omega
  generalize T i = X at *
  have F := accS_facts M X
  have hA0 : accS M X 0 = X := rfl
  have hAS : ∀ j, accS M X (j + 1) = ⟨(a2R M (accS M X j) j).1, (accS M X j).ones, (accS M X j).heads, (a2R M (accS M X j) j).2⟩ := fun j => rfl
  simp (maxSteps := 1000000) only [g1, XU, XX, reduceIte, ↓reduceIte, Nat.reduceAdd, Nat.reduceLeDiff, Nat.reduceEqDiff, Nat.reduceLT, Nat.reduceSub, Nat.reduceBEq, forall_const, reduceCtorEq, implies_true, exists_eq_left', exists_eq_left, if_true, if_false, undef]
  refine loopR Nat [34] (fun j => [IN j]) (fun j => [(0, some (.box [.arr 32 0 (accS M X j).gs.length, .mp 2, I M.states, I M.signs, .ro 1 (M.rules.map encRow), .arr 3 0 i, .arr 16 0 i, I (accS M X j).acc])), (32, some (.arr 3 ((accS M X j).gs.map encG))), (2, some (.map (knE 0 (accS M X j).gs))), (16, some (.mat 1 (X.heads.map rwU))), (24, none)])
    1 (fun j => j ≤ i) (fun j => i - j) (by decide) 0 [some 24] rfl (by omega) (by simp [Back, BackF, fzT, fzM, fzU, fz, fzL, fzO, kin, SubT, Sub, SubL, SubM, SubO, keepM, srcOk, look, lookM, ev, evs, putT, argT, XU, XX, undef, hA0]) ?_
  intro j hj
  obtain ⟨f1, f2, f3⟩ := F j
  by_cases c2 : j < i
  · have g2 : decide ((j : Int) < (i : Int)) = true := by simp [c2]
    have hwj : IntKind.i64.wrap ((j : Int) + 1) = ((j + 1 : Nat) : Int) := by rw [wrap_id] <;> omega
    have hnx := hAS j
    obtain ⟨hrl, hrp⟩ := hXh.get c2
    have hset : ((X.heads.map rwU).set j .gone).set j (.own ((X.heads.getD j []).map I)) = X.heads.map rwU := by
      rw [List.set_set, rw_set, set_same]
    have hpk : (X.heads.map rwU)[j]? = some (.own ((X.heads.getD j []).map I)) := by
      rw [List.getElem?_map, List.getElem?_eq_getElem (by omega), List.getD_eq_getElem?_getD, List.getElem?_eq_getElem (by omega)]; rfl
    have hat : ((X.heads.getD j []).map I)[M.states.toNat]? = some (I (hAt X.heads j M.states.toNat)) := by
      rw [hAt, List.getElem?_map, List.getElem?_eq_getElem (by omega), List.getD_eq_getElem?_getD (l := X.heads.getD j []), List.getElem?_eq_getElem (by omega)]; rfl
    have hone : (X.ones.map I)[j]? = some (I (X.ones.getD j 0)) := by
      rw [List.getElem?_map, List.getElem?_eq_getElem (by omega), List.getD_eq_getElem?_getD, List.getElem?_eq_getElem (by omega)]; rfl
    have hrll : ((X.heads.getD j []).map I).length = M.states.toNat + 1 := by rw [List.length_map, hrl]
    have ha1 : a1R M (accS M X j) j = andR (accS M X j).gs (hAt X.heads j M.states.toNat) (X.ones.getD j 0) := by unfold a1R; rw [f1, f2]
    have ha2 : a2R M (accS M X j) j = orR (a1R M (accS M X j) j).1 (accS M X j).acc (a1R M (accS M X j) j).2 := rfl
    rw [ha1] at ha2
    generalize accS M X j = Y at *
    generalize hAt X.heads j M.states.toNat = x1 at *
    generalize X.heads.getD j [] = row at *
    simp (maxSteps := 1000000) only [g2, XU, XX, reduceIte, ↓reduceIte, Nat.reduceAdd, Nat.reduceLeDiff, Nat.reduceEqDiff, Nat.reduceLT, Nat.reduceSub, Nat.reduceBEq, forall_const, reduceCtorEq, implies_true, exists_eq_left', exists_eq_left, if_true, if_false, undef]
    refine ⟨by omega, by omega, ?_⟩
    simp only [Int.toNat_natCast, Nat.zero_add]
    refine ⟨.own (row.map I), hpk, ?_⟩
    simp (maxSteps := 1000000) only [XU, XX, reduceIte, ↓reduceIte, Nat.reduceAdd, Nat.reduceLeDiff, Nat.reduceEqDiff, Nat.reduceLT, Nat.reduceSub, Nat.reduceBEq, forall_const, reduceCtorEq, implies_true, exists_eq_left', exists_eq_left, if_true, if_false, undef]
    refine ⟨by omega, by omega, Pick.mk (I (x1)) (by simp only [Nat.zero_add]; exact hat) ?_⟩
    simp (maxSteps := 1000000) only [XU, XX, reduceIte, ↓reduceIte, Nat.reduceAdd, Nat.reduceLeDiff, Nat.reduceEqDiff, Nat.reduceLT, Nat.reduceSub, Nat.reduceBEq, forall_const, reduceCtorEq, implies_true, exists_eq_left', exists_eq_left, if_true, if_false, undef]
    refine ⟨by omega, by omega, Pick.mk (I (X.ones.getD j 0)) (by simp only [Int.toNat_natCast, Nat.zero_add]; exact hone) ?_⟩
    have hA := fun rest => cand_spec rest Y.gs (x1) (X.ones.getD j 0) (by omega)
    have al := uand_len Y.gs (x1) (X.ones.getD j 0)
    generalize andR Y.gs (x1) (X.ones.getD j 0) = A at *
    generalize X.ones.getD j 0 = x2 at *
    have hB := fun rest => cor_spec rest A.1 Y.acc A.2 (by omega)
    rw [ha2] at hnx
    generalize orR A.1 Y.acc A.2 = B at *
    simp (maxSteps := 1000000) only [XU, XX, reduceIte, ↓reduceIte, Nat.reduceAdd, Nat.reduceLeDiff, Nat.reduceEqDiff, Nat.reduceLT, Nat.reduceSub, Nat.reduceBEq, forall_const, reduceCtorEq, implies_true, exists_eq_left', exists_eq_left, if_true, if_false, undef]
    refine callYp 0 [32, 2] [] [.arr 1 0 Y.gs.length, .mp 2] [.arr 3 0 A.1.length, .mp 2] [.arr 3 (Y.gs.map encG), .map (knE 0 Y.gs)] [none, some (.map (knE 0 A.1))] [some (.arr 3 (A.1.map encG))] (fun rest _ => hA rest) rfl (by simp) rfl (by simp [XU, XX, undef]) (by simp) (by simp [XU, XX, undef]) (by simp [XU, XX, undef]) (by simp [XU, XX, undef]) (by simp [XU, XX, undef]) (by simp [XU, XX, undef]) (by simp) (by simp) (by simp [XU, XX, undef]) ?_
    simp (maxSteps := 1000000) only [XU, XX, reduceIte, ↓reduceIte, Nat.reduceAdd, Nat.reduceLeDiff, Nat.reduceEqDiff, Nat.reduceLT, Nat.reduceSub, Nat.reduceBEq, forall_const, reduceCtorEq, implies_true, exists_eq_left', exists_eq_left, if_true, if_false, undef]
    refine callXp 0 [67, 2] [] [.arr 1 0 A.1.length, .mp 2] [.arr 3 0 B.1.length, .mp 2] [.arr 3 (A.1.map encG), .map (knE 0 A.1)] [none, some (.map (knE 0 B.1))] [some (.arr 3 (B.1.map encG))] (fun rest _ => hB rest) rfl (by simp) rfl (by simp [XU, XX, undef]) (by simp) (by simp [XU, XX, undef]) (by simp [XU, XX, undef]) (by simp [XU, XX, undef]) (by simp [XU, XX, undef]) (by simp [XU, XX, undef]) (by simp) (by simp) (by simp [XU, XX, undef]) ?_
    simp (maxSteps := 1000000) only [hwj, XU, XX, reduceIte, ↓reduceIte, Nat.reduceAdd, Nat.reduceLeDiff, Nat.reduceEqDiff, Nat.reduceLT, Nat.reduceSub, Nat.reduceBEq, forall_const, reduceCtorEq, implies_true, exists_eq_left', exists_eq_left, if_true, if_false, undef]
    refine ⟨.inr (.inl trivial), j + 1, [some 68], rfl, by omega, by omega, ?_⟩
    rw [hnx]
    simp [Back, BackF, fzT, fzM, fzU, fz, fzL, fzO, kin, SubT, Sub, SubL, SubM, SubO, keepM, srcOk, look, lookM, ev, evs, putT, argT, XU, XX, reduceIte, ↓reduceIte, Nat.reduceAdd, Nat.reduceLeDiff, Nat.reduceEqDiff, Nat.reduceLT, Nat.reduceSub, Nat.reduceBEq, forall_const, reduceCtorEq, implies_true, exists_eq_left', exists_eq_left, if_true, if_false, undef, hset, I]
  · obtain rfl : j = i := by omega
    have g2 : decide ((j : Int) < (j : Int)) = false := by simp
    generalize accS M X j = Y at *
    simp (maxSteps := 1000000) only [g2, XU, XX, reduceIte, ↓reduceIte, Nat.reduceAdd, Nat.reduceLeDiff, Nat.reduceEqDiff, Nat.reduceLT, Nat.reduceSub, Nat.reduceBEq, forall_const, reduceCtorEq, implies_true, exists_eq_left', exists_eq_left, if_true, if_false, undef]
    exact ⟨[32, 16], by simp [XU, XX, undef], by simp [uB, f1, f2, hXn, hXhl, XU, XX, undef], by rw [f1], by simp [f2, XU, XX, undef]⟩

theorem unrollBuildP_spec (M : Mach) (cells steps : Int) : ∃ l : List Gt, CallsA Try.prog 23 [encM M, I cells, I steps] (.tup [.ro 3 (l.map encG), I (unrollErr M cells steps)]) [] ∧ (unrollErr M cells steps ≠ 0 → l = []) ∧
    (unrollErr M cells steps = 0 → 1 ≤ l.length ∧ l.length ≤ 100000 ∧ GsOk cells l ∧ ∀ w, w < 2 ^ cells.toNat → gval w l = asked M cells.toNat steps.toNat w) := by
  refine ⟨if unrollErr M cells steps = 0 then unrR M cells.toNat steps.toNat else [], ?_, fun h => if_neg h, fun h => ?_⟩
  rotate_left
  · obtain ⟨hM, h2, hs2, hc, hst⟩ := unroll_ok h
    rw [if_pos h]
    have := unrR_ok (steps := steps.toNat) hM h2 hs2 (show 1 ≤ cells.toNat by omega) (by omega) (by omega)
    rwa [show ((cells.toNat : Nat) : Int) = cells by omega] at this
  have hck := ucheck_spec M cells steps
  refine fn_of0 comp23 (by simp) ?_
  unfold code23
  simp (maxSteps := 1000000) only [encM, XU, XX, reduceIte, ↓reduceIte, Nat.reduceAdd, Nat.reduceLeDiff, Nat.reduceEqDiff, Nat.reduceLT, Nat.reduceSub, Nat.reduceBEq, forall_const, reduceCtorEq, implies_true, exists_eq_left', exists_eq_left, if_true, if_false, undef]
  refine callF (CallsA.args (hck ) (by simp [ encM,XU, XX, undef])) rfl (by simp [flat, XU, XX, undef]) ?_
  by_cases h0 : unrollErr M cells steps = 0
  rotate_left
  · have f : (unrollErr M cells steps != 0) = true := by simpa using h0
    rw [if_neg h0]
    simp (maxSteps := 1000000) only [f, List.map_nil, XU, XX, reduceIte, ↓reduceIte, Nat.reduceAdd, Nat.reduceLeDiff, Nat.reduceEqDiff, Nat.reduceLT, Nat.reduceSub, Nat.reduceBEq, forall_const, reduceCtorEq, implies_true, exists_eq_left', exists_eq_left, if_true, if_false, undef]
  have f : (unrollErr M cells steps != 0) = false := by simpa using h0
  obtain ⟨hM, h2, hs2, hc, hst⟩ := unroll_ok h0
  rw [if_pos h0]
  obtain ⟨c, rfl⟩ : ∃ c : Nat, cells = c := ⟨cells.toNat, by omega⟩
  obtain ⟨n, rfl⟩ : ∃ n : Nat, steps = n := ⟨steps.toNat, by omega⟩
  have hnu := newU_spec M c hM (by omega) (by omega)
  have hU := uSk_ok (M := M) (cells := c) hM h2 hs2 (by omega) (by omega)
  have hr : unrR M c n = prune (setS (uSk M c n).gs (uSk M c n).acc).1 (setS (uSk M c n).gs (uSk M c n).acc).2.toNat := rfl
  have hk0 : uSk M c 0 = uS0 M c := rfl
  have hkS : ∀ k, uSk M c (k + 1) = stepS M c (uSk M c k) := fun k => rfl
  have ha0 : (uS0 M c).acc = -1 := rfl
  simp only [Int.toNat_natCast]
  rw [hr, h0]
  rw [← hk0] at hnu ha0
  generalize uSk M c = Z at *
  simp (maxSteps := 1000000) only [f, XU, XX, reduceIte, ↓reduceIte, Nat.reduceAdd, Nat.reduceLeDiff, Nat.reduceEqDiff, Nat.reduceLT, Nat.reduceSub, Nat.reduceBEq, forall_const, reduceCtorEq, implies_true, exists_eq_left', exists_eq_left, if_true, if_false, undef]
  refine callM [] (hnu) (by simp [ encM,XU, XX, undef]) (by simp [XU, XX, undef]) (by simp [ encM,XU, XX, undef]) ?_
  simp (maxSteps := 1000000) only [XU, XX, reduceIte, ↓reduceIte, Nat.reduceAdd, Nat.reduceLeDiff, Nat.reduceEqDiff, Nat.reduceLT, Nat.reduceSub, Nat.reduceBEq, forall_const, reduceCtorEq, implies_true, exists_eq_left', exists_eq_left, if_true, if_false, undef]
  refine loopR Nat [21] (fun k => [IN k]) (fun k => [(12, some (.box [.arr 21 0 (Z k).gs.length, .mp 14, I M.states, I M.signs, .ro 1 (M.rules.map encRow), .arr 15 0 c, .arr 22 0 c, I (Z k).acc])), (21, some (.arr 3 ((Z k).gs.map encG))), (14, some (.map (knE 0 (Z k).gs))), (15, some (.arr 1 ((Z k).ones.map I))), (22, some (.mat 1 ((Z k).heads.map rwU))), (13, none), (16, none)])
    2 (fun k => k ≤ n) (fun k => n - k) (by decide) 0 [some 13, some 16] rfl (by omega) (by simp [Back, BackF, fzT, fzM, fzU, fz, fzL, fzO, kin, SubT, Sub, SubL, SubM, SubO, keepM, srcOk, look, lookM, ev, evs, putT, argT, XU, XX, undef, ha0]) ?_
  intro k hk
  have U := hU k
  by_cases c1 : k < n
  · have g1 : decide ((k : Int) < (n : Int)) = true := by simp [c1]
    have hwk : IntKind.i64.wrap ((k : Int) + 1) = ((k + 1 : Nat) : Int) := by rw [wrap_id] <;> omega
    have U2 := hU (k + 1)
    have hus := ustep_spec M c k (Z k) hM h2 hs2 (by omega) (by omega) (by omega) U
    have hnx := hkS k
    rw [← hnx] at hus
    simp only [uB, U.onl, U.hs.len, U2.onl, U2.hs.len] at hus
    generalize hZ : Z (k + 1) = W at *
    simp (maxSteps := 1000000) only [g1, XU, XX, reduceIte, ↓reduceIte, Nat.reduceAdd, Nat.reduceLeDiff, Nat.reduceEqDiff, Nat.reduceLT, Nat.reduceSub, Nat.reduceBEq, forall_const, reduceCtorEq, implies_true, exists_eq_left', exists_eq_left, if_true, if_false, undef]
    refine callM [some 12, some 21, some 14, some 15, some 22] (hus) (by simp [XU, XX, undef]) (by simp [XU, XX, undef]) (by simp [XU, XX, undef]) ?_
    simp (maxSteps := 1000000) only [hwk, XU, XX, reduceIte, ↓reduceIte, Nat.reduceAdd, Nat.reduceLeDiff, Nat.reduceEqDiff, Nat.reduceLT, Nat.reduceSub, Nat.reduceBEq, forall_const, reduceCtorEq, implies_true, exists_eq_left', exists_eq_left, if_true, if_false, undef]
    refine ⟨k + 1, [some 30, some 31], rfl, by omega, by omega, ?_⟩
    rw [hZ]
    simp [Back, BackF, fzT, fzM, fzU, fz, fzL, fzO, kin, SubT, Sub, SubL, SubM, SubO, keepM, srcOk, look, lookM, ev, evs, putT, argT, XU, XX, reduceIte, ↓reduceIte, Nat.reduceAdd, Nat.reduceLeDiff, Nat.reduceEqDiff, Nat.reduceLT, Nat.reduceSub, Nat.reduceBEq, forall_const, reduceCtorEq, implies_true, exists_eq_left', exists_eq_left, if_true, if_false, undef, I]
  · obtain rfl : k = n := by omega
    have g1 : decide ((k : Int) < (k : Int)) = false := by simp
    have ul := U.len
    have hcc := fun rest => ccircuit_spec rest (Z k).gs c (Z k).acc (by omega) U.ok U.ap (by omega)
    generalize Z k = X at *
    generalize prune (setS X.gs X.acc).1 (setS X.gs X.acc).2.toNat = g at *
    generalize (setS X.gs X.acc).1 = g3 at *
    have htk : ∀ l : List Gt, (l.map encG).take l.length = l.map encG := fun l => List.take_of_length_le (by simp)
    simp (maxSteps := 1000000) only [g1, XU, XX, reduceIte, ↓reduceIte, Nat.reduceAdd, Nat.reduceLeDiff, Nat.reduceEqDiff, Nat.reduceLT, Nat.reduceSub, Nat.reduceBEq, forall_const, reduceCtorEq, implies_true, exists_eq_left', exists_eq_left, if_true, if_false, undef]
    refine callYp 12 [21, 14] [] [.arr 1 0 X.gs.length, .mp 2] [.arr 3 0 g3.length, .mp 2] [.arr 3 (X.gs.map encG), .map (knE 0 X.gs)] [none, some (.map (knE 0 g3))] [some (.arr 3 (g3.map encG))] (fun rest _ => hcc rest) rfl (by simp) rfl (by simp [XU, XX, undef]) (by simp) (by simp [XU, XX, undef]) (by simp [XU, XX, undef]) (by simp [XU, XX, undef]) (by simp [XU, XX, undef]) (by simp [XU, XX, undef]) (by simp) (by simp) (by simp [XU, XX, undef]) ?_
    simp (maxSteps := 1000000) only [XU, XX, reduceIte, ↓reduceIte, Nat.reduceAdd, Nat.reduceLeDiff, Nat.reduceEqDiff, Nat.reduceLT, Nat.reduceSub, Nat.reduceBEq, forall_const, reduceCtorEq, implies_true, exists_eq_left', exists_eq_left, if_true, if_false, undef]

end Go.Av
