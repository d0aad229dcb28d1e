/- Machines on few cells: the program's functions that make gates (nowhere, newUnroller). -/
import Derived.Test.YtoffjeeajdmgfaaUnrF
import Derived.Test.YtoffjeeajdmgfaaUnrB
import Derived.Test.YtoffjeeajdmgfaaCirC
set_option linter.unusedSimpArgs false
set_option linter.unusedVariables false
set_option maxRecDepth 100000
namespace Go.Av
open Go.Proofs

theorem XU : type_of% (And.intro @encG.eq_1 (And.intro @encM.eq_1 (And.intro @clM.eq_1 (And.intro @clR.eq_1 (And.intro @clZ.eq_1 (And.intro @clN.eq_1 (And.intro @vrest.eq_1 (And.intro @frzL_vs (And.intro @kysL_vs (And.intro @reGL_vs (And.intro @keysInL_vs (And.intro @fzL_vs (And.intro @SubL_vs (And.intro nbT (And.intro nbF (And.intro @spl0 (And.intro @List.contains_nil.{0} (And.intro @List.contains_cons.{0} (And.intro @Bool.false_or (And.intro @Bool.true_or @Bool.or_false)))))))))))))))))))) :=
  (And.intro @encG.eq_1 (And.intro @encM.eq_1 (And.intro @clM.eq_1 (And.intro @clR.eq_1 (And.intro @clZ.eq_1 (And.intro @clN.eq_1 (And.intro @vrest.eq_1 (And.intro @frzL_vs (And.intro @kysL_vs (And.intro @reGL_vs (And.intro @keysInL_vs (And.intro @fzL_vs (And.intro @SubL_vs (And.intro nbT (And.intro nbF (And.intro @spl0 (And.intro @List.contains_nil.{0} (And.intro @List.contains_cons.{0} (And.intro @Bool.false_or (And.intro @Bool.true_or @Bool.or_false))))))))))))))))))))

def rwU (l : List Int) : MRow := .own (l.map I)
theorem pickRu {L : List (List Int)} {i : Nat} {K : MRow → Prop} (h : i < L.length) (hK : K (.own ((L.getD i []).map I))) : PickR (L.map rwU) i K :=
  ⟨.own ((L.getD i []).map I), by rw [List.getElem?_map, List.getElem?_eq_getElem h, List.getD_eq_getElem?_getD, List.getElem?_eq_getElem h]; rfl, hK⟩
theorem rw_set {L : List (List Int)} {i : Nat} {l : List Int} : (L.map rwU).set i (.own (l.map I)) = (L.set i l).map rwU := by rw [List.map_set]; rfl
theorem set_same {L : List (List Int)} {i : Nat} : L.set i (L.getD i []) = L := by
  apply List.ext_getElem?
  intro j
  rw [List.getElem?_set]
  by_cases h : i = j
  · subst h
    rw [if_pos rfl]
    by_cases hi : i < L.length
    · rw [if_pos hi, List.getD_eq_getElem?_getD, List.getElem?_eq_getElem hi]; rfl
    · rw [if_neg hi, List.getElem?_eq_none (by omega)]
  · rw [if_neg h]

/-- heads that are nowhere, in the making -/
def nwL (S n i j : Nat) : List (List Int) := (List.range n).map fun x => if x < i then List.replicate S (-1) else if x = i then List.replicate j (-1) else []
theorem nwL_len (S n i j : Nat) : (nwL S n i j).length = n := by simp [nwL]
theorem nwL_zero (S n : Nat) : (nwL S n 0 0).map rwU = List.replicate n (.own []) := by
  apply List.ext_getElem?
  intro x
  by_cases hx : x < n <;> simp [nwL, hx, rwU]
theorem nwL_next (S n i : Nat) : nwL S n i S = nwL S n (i + 1) 0 := by
  apply List.ext_getElem?
  intro x
  by_cases hx : x < n
  · simp only [nwL, List.getElem?_map, List.getElem?_range hx, Option.map_some, Option.some.injEq]
    by_cases h1 : x < i
    · rw [if_pos h1, if_pos (by omega)]
    · rw [if_neg h1]
      by_cases h2 : x = i
      · rw [if_pos h2, if_pos (by omega)]
      · rw [if_neg h2, if_neg (by omega)]; split <;> rfl
  · simp [nwL, hx]
theorem nwL_get {S n i j : Nat} (hi : i < n) : (nwL S n i j).getD i [] = List.replicate j (-1) := by
  rw [List.getD_eq_getElem?_getD, nwL, List.getElem?_map, List.getElem?_range hi]
  simp
theorem nwL_set {S n i j : Nat} (hi : i < n) : (nwL S n i j).set i (List.replicate j (-1) ++ [-1]) = nwL S n i (j + 1) := by
  apply List.ext_getElem?
  intro x
  rw [List.getElem?_set]
  by_cases hx : x < n
  · by_cases h1 : i = x
    · subst h1
      rw [if_pos rfl, if_pos (by rw [nwL_len]; exact hi), nwL, List.getElem?_map, List.getElem?_range hi]
      simp [List.replicate_succ']
    · rw [if_neg h1]
      simp only [nwL, List.getElem?_map, List.getElem?_range hx, Option.map_some, Option.some.injEq]
      by_cases h2 : x < i
      · rw [if_pos h2, if_pos h2]
      · rw [if_neg h2, if_neg (by omega), if_neg h2, if_neg (by omega)]
  · rw [if_neg (by omega)]; simp [nwL, hx]
theorem nwL_all (M : Mach) (n : Nat) : nwL (M.states.toNat + 1) n n 0 = nwh M n := by
  apply List.ext_getElem?
  intro x
  by_cases hx : x < n
  · simp only [nwL, nwh, List.getElem?_map, List.getElem?_range hx, Option.map_some]
    rw [List.getElem?_replicate, if_pos hx, if_pos hx]
  · simp [nwL, nwh, hx]

theorem nowhere_spec (rest : List Value) (M : Mach) (gs : List Gt) (ones : List Int) (hM : MOk M) (hl : ones.length ≤ 5) :
    CallsM Try.prog 48 [.ptr 0 0] [.box (.arr 1 0 gs.length :: .mp 2 :: I M.states :: I M.signs :: .ro 1 (M.rules.map encRow) :: .arr 3 0 ones.length :: vrest rest), .arr 3 (gs.map encG), .map (knE 0 gs), .arr 1 (ones.map I)] (.arr 4 0 ones.length)
      [some (.box (.arr 1 0 gs.length :: .mp 2 :: I M.states :: I M.signs :: .ro 1 (M.rules.map encRow) :: .arr 3 0 ones.length :: vrest rest)), some (.arr 3 (gs.map encG)), some (.map (knE 0 gs)), some (.arr 1 (ones.map I)), some (.mat 1 ((nwh M ones.length).map rwU))] := by
  have s1 := hM.s1
  have s5 := hM.s5
  obtain ⟨S, hS⟩ : ∃ S : Nat, M.states = S := ⟨M.states.toNat, by omega⟩
  generalize hn : ones.length = n at *
  have hw1 : IntKind.i64.wrap ((S : Int) + 1) = ((S + 1 : Nat) : Int) := by rw [wrap_id] <;> omega
  have hnw := nwL_all M n
  rw [hS, Int.toNat_natCast] at hnw
  refine fnM_of comp48 (by simp) (by simp) ?_
  unfold code48
  simp (maxSteps := 1000000) only [memOf, hS, XU, XX, reduceIte, ↓reduceIte, Nat.reduceAdd, Nat.reduceLeDiff, Nat.reduceEqDiff, Nat.reduceLT, Nat.reduceSub, Nat.reduceBEq, forall_const, reduceCtorEq, implies_true, exists_eq_left', exists_eq_left, if_true, if_false, undef]
  refine ⟨by omega, by omega, by omega, .inr ?_⟩
  rw [Int.toNat_natCast, ← nwL_zero (S + 1) n]
  simp (maxSteps := 1000000) only [XU, XX, reduceIte, ↓reduceIte, Nat.reduceAdd, Nat.reduceLeDiff, Nat.reduceEqDiff, Nat.reduceLT, Nat.reduceSub, Nat.reduceBEq, forall_const, reduceCtorEq, implies_true, exists_eq_left', exists_eq_left, if_true, if_false, undef]
  refine loopO Nat [13] (fun i => [IN i]) (fun i => [(10, some (.mat 1 ((nwL (S + 1) n i 0).map rwU)))]) (fun i => i ≤ n) (fun i => n - i) (by decide) 0 (by simp) (by simp [Back, BackF, fzT, fzM, fzU, fz, fzL, fzO, kin, SubT, Sub, SubL, SubM, SubO, keepM, srcOk, look, lookM, ev, evs, putT, argT, XU, XX, undef]) ?_
  intro i hi
  by_cases c1 : i < n
  · have g1 : decide ((i : Int) < (n : Int)) = true := by simp [c1]
    have hwi : IntKind.i64.wrap ((i : Int) + 1) = ((i + 1 : Nat) : Int) := by rw [wrap_id] <;> omega
    simp (maxSteps := 1000000) only [g1, hS, hw1, XU, XX, reduceIte, ↓reduceIte, Nat.reduceAdd, Nat.reduceLeDiff, Nat.reduceEqDiff, Nat.reduceLT, Nat.reduceSub, Nat.reduceBEq, forall_const, reduceCtorEq, implies_true, exists_eq_left', exists_eq_left, if_true, if_false, undef]
    refine loopO Nat [22] (fun j => [IN j]) (fun j => [(10, some (.mat 1 ((nwL (S + 1) n i j).map rwU)))]) (fun j => j ≤ S + 1) (fun j => S + 1 - j) (by decide) 0 (by simp) (by simp [Back, BackF, fzT, fzM, fzU, fz, fzL, fzO, kin, SubT, Sub, SubL, SubM, SubO, keepM, srcOk, look, lookM, ev, evs, putT, argT, XU, XX, undef]) ?_
    intro j hj
    have hg := nwL_get (S := S + 1) (j := j) c1
    by_cases c2 : j < S + 1
    · have g2 : decide ((j : Int) < IntKind.i64.wrap ((S : Int) + 1)) = true := by rw [hw1]; simp; omega
      have hwj : IntKind.i64.wrap ((j : Int) + 1) = ((j + 1 : Nat) : Int) := by rw [wrap_id] <;> omega
      simp (maxSteps := 1000000) only [g2, XU, XX, reduceIte, ↓reduceIte, Nat.reduceAdd, Nat.reduceLeDiff, Nat.reduceEqDiff, Nat.reduceLT, Nat.reduceSub, Nat.reduceBEq, forall_const, reduceCtorEq, implies_true, exists_eq_left', exists_eq_left, if_true, if_false, undef]
      refine ⟨by omega, by omega, ?_⟩
      simp only [Int.toNat_natCast, Nat.zero_add]
      refine pickRu (by rw [nwL_len]; exact c1) ?_
      rw [hg]
      simp (maxSteps := 1000000) only [List.length_map, List.length_replicate, hwj, XU, XX, reduceIte, ↓reduceIte, Nat.reduceAdd, Nat.reduceLeDiff, Nat.reduceEqDiff, Nat.reduceLT, Nat.reduceSub, Nat.reduceBEq, forall_const, reduceCtorEq, implies_true, exists_eq_left', exists_eq_left, if_true, if_false, undef]
      have hx : (((nwL (S + 1) n i j).map rwU).set i .gone).set i (.own ((List.replicate j (-1)).map I ++ [I (-1)])) = (nwL (S + 1) n i (j + 1)).map rwU := by
        rw [List.set_set, ← nwL_set c1, ← rw_set, List.map_append]; rfl
      refine ⟨by omega, by omega, by omega, by simp [nwL_len]; exact c1, by simp, j + 1, by omega, by omega, ?_⟩
      rw [← hx]
      simp [Back, BackF, fzT, fzM, fzU, fz, fzL, fzO, kin, SubT, Sub, SubL, SubM, SubO, keepM, srcOk, look, lookM, ev, evs, putT, argT, XU, XX, reduceIte, ↓reduceIte, Nat.reduceAdd, Nat.reduceLeDiff, Nat.reduceEqDiff, Nat.reduceLT, Nat.reduceSub, Nat.reduceBEq, forall_const, reduceCtorEq, implies_true, exists_eq_left', exists_eq_left, if_true, if_false, undef, I]
    · have g2 : decide (((S + 1 : Nat) : Int) < IntKind.i64.wrap ((S : Int) + 1)) = false := by rw [hw1]; simp
      obtain rfl : j = S + 1 := by omega
      simp (maxSteps := 1000000) only [g2, hwi, XU, XX, reduceIte, ↓reduceIte, Nat.reduceAdd, Nat.reduceLeDiff, Nat.reduceEqDiff, Nat.reduceLT, Nat.reduceSub, Nat.reduceBEq, forall_const, reduceCtorEq, implies_true, exists_eq_left', exists_eq_left, if_true, if_false, undef]
      exact ⟨i + 1, by omega, by omega, by simp [Back, BackF, fzT, fzM, fzU, fz, fzL, fzO, kin, SubT, Sub, SubL, SubM, SubO, keepM, srcOk, look, lookM, ev, evs, putT, argT, XU, XX, undef, nwL_next]⟩
  · have g1 : decide ((i : Int) < (n : Int)) = false := by simp; omega
    obtain rfl : i = n := by omega
    simp (maxSteps := 1000000) only [g1, hnw, XU, XX, reduceIte, ↓reduceIte, Nat.reduceAdd, Nat.reduceLeDiff, Nat.reduceEqDiff, Nat.reduceLT, Nat.reduceSub, Nat.reduceBEq, forall_const, reduceCtorEq, implies_true, exists_eq_left', exists_eq_left, if_true, if_false, undef]
    exact ⟨[10], by simp [XU, XX, undef], by simp [XU, XX, undef], by simp [hS, XU, XX, undef]⟩

/-- the unroller while its inputs are made -/
def uiB (M : Mach) (c : Nat) (x y : AV) : Option MObj := some (.box [x, y, I M.states, I M.signs, .ro 1 (M.rules.map encRow), .arr 4 0 c, .v (.slice none 0 0), I (-1)])
def uiO (M : Mach) (c n : Nat) (s : List Gt × List Int) : Mem := if s.1 = [] then [(6, uiB M c (.v (.slice none 0 0)) (.v (.map none))), (4, some (.arr 1 (s.2.map I)))]
  else [(6, uiB M c (.arr n 0 s.1.length) (.mp (n + 1))), (4, some (.arr 1 (s.2.map I))), (n, some (.arr 3 (s.1.map encG))), (n + 1, some (.map (knE 0 s.1)))]
theorem uiO0 {M : Mach} {c n : Nat} {s : List Gt × List Int} (h : s.1 = []) : uiO M c n s = [(6, uiB M c (.v (.slice none 0 0)) (.v (.map none))), (4, some (.arr 1 (s.2.map I)))] := by unfold uiO; rw [if_pos h]
theorem uiO1 {M : Mach} {c n : Nat} {s : List Gt × List Int} (h : s.1 ≠ []) : uiO M c n s = [(6, uiB M c (.arr n 0 s.1.length) (.mp (n + 1))), (4, some (.arr 1 (s.2.map I))), (n, some (.arr 3 (s.1.map encG))), (n + 1, some (.map (knE 0 s.1)))] := by unfold uiO; rw [if_neg h]
theorem newU_spec (M : Mach) (cells : Nat) (hM : MOk M) (h1 : 1 ≤ cells) (h5 : cells ≤ 5) :
    CallsM Try.prog 36 [encM M, IN cells] [] (.ptr 0 0)
      [some (.box [.arr 1 0 (uS0 M cells).gs.length, .mp 2, I M.states, I M.signs, .ro 1 (M.rules.map encRow), .arr 3 0 cells, .arr 4 0 cells, I (-1)]), some (.arr 3 ((uS0 M cells).gs.map encG)), some (.map (knE 0 (uS0 M cells).gs)), some (.arr 1 ((uS0 M cells).ones.map I)), some (.mat 1 ((uS0 M cells).heads.map rwU))] := by
  refine fnM_of comp36 (by simp) (by simp) ?_
  unfold code36
  simp (maxSteps := 1000000) only [memOf, XU, XX, reduceIte, ↓reduceIte, Nat.reduceAdd, Nat.reduceLeDiff, Nat.reduceEqDiff, Nat.reduceLT, Nat.reduceSub, Nat.reduceBEq, forall_const, reduceCtorEq, implies_true, exists_eq_left', exists_eq_left, if_true, if_false, undef]
  refine FzVC.no ?_
  simp (maxSteps := 1000000) only [XU, XX, reduceIte, ↓reduceIte, Nat.reduceAdd, Nat.reduceLeDiff, Nat.reduceEqDiff, Nat.reduceLT, Nat.reduceSub, Nat.reduceBEq, forall_const, reduceCtorEq, implies_true, exists_eq_left', exists_eq_left, if_true, if_false, undef]
  have hrep : List.replicate cells (AV.v (.int .i64 0)) = (inS cells 0).2.map I := by simp [inS, I]
  simp only [Int.toNat_natCast, hrep]
  refine ⟨by omega, by omega, by omega, ?_⟩
  refine loopR Nat [17] (fun i => [IN i]) (fun i => uiO M cells 14 (inS cells i)) 2 (fun i => i ≤ cells) (fun i => cells - i) (by decide) 0 [none, none] rfl (by omega) (by rw [uiO0 (show (inS cells 0).1 = [] from rfl)]; simp [Back, BackF, fzT, fzM, fzU, fz, fzL, fzO, kin, SubT, Sub, SubL, SubM, SubO, keepM, srcOk, look, lookM, ev, evs, putT, argT, XU, XX, reduceIte, ↓reduceIte, Nat.reduceAdd, Nat.reduceLeDiff, Nat.reduceEqDiff, Nat.reduceLT, Nat.reduceSub, Nat.reduceBEq, forall_const, reduceCtorEq, implies_true, exists_eq_left', exists_eq_left, if_true, if_false, undef, uiB]) ?_
  intro i hi
  have J := in_ok (cells := cells) i hi
  have jl := J.len
  have jo := J.onl
  by_cases c1 : i < cells
  · have g1 : decide ((i : Int) < (cells : Int)) = true := by simp [c1]
    have hwi : IntKind.i64.wrap ((i : Int) + 1) = ((i + 1 : Nat) : Int) := by rw [wrap_id] <;> omega
    have hnx : inS cells (i + 1) = ((inR (inS cells i).1 (i : Int)).1, (inS cells i).2.set i (inR (inS cells i).1 (i : Int)).2) := rfl
    have jne := (in_ok (cells := cells) (i + 1) (by omega)).ne (by omega)
    by_cases hz : i = 0
    · subst hz
      have hsz := fun rest => cin0_spec rest ((0 : Nat) : Int)
      have e1 : inS cells 1 = ([⟨1, 0, 0⟩], (inS cells 0).2.set 0 0) := rfl
      rw [uiO0 (show (inS cells 0).1 = [] from rfl)]
      simp (maxSteps := 1000000) only [uiB, g1, XU, XX, reduceIte, ↓reduceIte, Nat.reduceAdd, Nat.reduceLeDiff, Nat.reduceEqDiff, Nat.reduceLT, Nat.reduceSub, Nat.reduceBEq, forall_const, reduceCtorEq, implies_true, exists_eq_left', exists_eq_left, if_true, if_false, undef]
      refine callYp 6 [] [] [.v (.slice none 0 0), .v (.map none)] [.arr 1 0 1, .mp 2] [] [] [some (.arr 3 ([⟨1, 0, 0⟩].map encG)), some (.map (knE 0 [⟨1, 0, 0⟩]))] (fun rest _ => hsz rest) rfl (by simp) rfl (by simp [XU, XX, undef]) (by simp) (by simp [XU, XX, undef]) (by simp [XU, XX, undef]) (by simp [XU, XX, undef]) (by simp [XU, XX, undef]) (by simp [XU, XX, undef]) (by simp) (by simp) (by simp [XU, XX, undef]) ?_
      simp (maxSteps := 1000000) only [hwi, XU, XX, reduceIte, ↓reduceIte, Nat.reduceAdd, Nat.reduceLeDiff, Nat.reduceEqDiff, Nat.reduceLT, Nat.reduceSub, Nat.reduceBEq, forall_const, reduceCtorEq, implies_true, exists_eq_left', exists_eq_left, if_true, if_false, undef]
      refine ⟨by omega, by omega, by simp [jo]; omega, .inr (.inl trivial), 1, [some 28, some 31], rfl, by omega, by omega, ?_⟩
      rw [uiO1 jne, e1]
      simp [Back, BackF, fzT, fzM, fzU, fz, fzL, fzO, kin, SubT, Sub, SubL, SubM, SubO, keepM, srcOk, look, lookM, ev, evs, putT, argT, XU, XX, reduceIte, ↓reduceIte, Nat.reduceAdd, Nat.reduceLeDiff, Nat.reduceEqDiff, Nat.reduceLT, Nat.reduceSub, Nat.reduceBEq, forall_const, reduceCtorEq, implies_true, exists_eq_left', exists_eq_left, if_true, if_false, undef, uiB, I]
      rfl
    · have jz := J.ne (by omega)
      have hsp := fun rest => cin_spec rest (inS cells i).1 ((i : Nat) : Int) (by omega)
      rw [uiO1 jz]
      generalize inS cells i = s at *
      generalize inR s.1 (i : Int) = c at *
      simp (maxSteps := 1000000) only [uiB, g1, XU, XX, reduceIte, ↓reduceIte, Nat.reduceAdd, Nat.reduceLeDiff, Nat.reduceEqDiff, Nat.reduceLT, Nat.reduceSub, Nat.reduceBEq, forall_const, reduceCtorEq, implies_true, exists_eq_left', exists_eq_left, if_true, if_false, undef]
      refine callYp 6 [14, 15] [] [.arr 1 0 s.1.length, .mp 2] [.arr 3 0 c.1.length, .mp 2] [.arr 3 (s.1.map encG), .map (knE 0 s.1)] [none, some (.map (knE 0 c.1))] [some (.arr 3 (c.1.map encG))] (fun rest _ => hsp rest) rfl (by simp) rfl (by simp [XU, XX, undef]) (by simp) (by simp [XU, XX, undef]) (by simp [XU, XX, undef]) (by simp [XU, XX, undef]) (by simp [XU, XX, undef]) (by simp [XU, XX, undef]) (by simp) (by simp) (by simp [XU, XX, undef]) ?_
      simp (maxSteps := 1000000) only [hwi, XU, XX, reduceIte, ↓reduceIte, Nat.reduceAdd, Nat.reduceLeDiff, Nat.reduceEqDiff, Nat.reduceLT, Nat.reduceSub, Nat.reduceBEq, forall_const, reduceCtorEq, implies_true, exists_eq_left', exists_eq_left, if_true, if_false, undef]
      refine ⟨by omega, by omega, by simp [jo]; omega, .inr (.inl trivial), i + 1, [some 28, some 15], rfl, by omega, by omega, ?_⟩
      rw [uiO1 jne, hnx]
      simp [Back, BackF, fzT, fzM, fzU, fz, fzL, fzO, kin, SubT, Sub, SubL, SubM, SubO, keepM, srcOk, look, lookM, ev, evs, putT, argT, XU, XX, reduceIte, ↓reduceIte, Nat.reduceAdd, Nat.reduceLeDiff, Nat.reduceEqDiff, Nat.reduceLT, Nat.reduceSub, Nat.reduceBEq, forall_const, reduceCtorEq, implies_true, exists_eq_left', exists_eq_left, if_true, if_false, undef, uiB, I]
  · have g1 : decide ((i : Int) < (cells : Int)) = false := by simp; omega
    obtain rfl : i = cells := by omega
    have jz := J.ne (by omega)
    rw [uiO1 jz]
    have hu : uS0 M i = ⟨(inS i i).1, (inS i i).2, hSet (nwh M i) 0 0 (-2), -1⟩ := rfl
    rw [hu]
    generalize inS i i = s at *
    have hw := fun rest => nowhere_spec rest M s.1 s.2 hM (by omega)
    rw [jo] at hw
    simp (maxSteps := 1000000) only [uiB, g1, XU, XX, reduceIte, ↓reduceIte, Nat.reduceAdd, Nat.reduceLeDiff, Nat.reduceEqDiff, Nat.reduceLT, Nat.reduceSub, Nat.reduceBEq, forall_const, reduceCtorEq, implies_true, exists_eq_left', exists_eq_left, if_true, if_false, undef]
    refine callP 6 6 rfl (by simp) (fun rest hrest => callM [some 6, some 14, some 15, some 4] (hw rest) (by simp [XU, XX, undef]) (by simp [XU, XX, undef]) (by simp [XU, XX, undef]) ⟨[.arr 14 0 s.1.length, .mp 15, I M.states, I M.signs, .ro 1 (M.rules.map encRow), .arr 4 0 i], by simp [XU, XX, undef], ?_⟩)
    simp (maxSteps := 1000000) only [XU, XX, reduceIte, ↓reduceIte, Nat.reduceAdd, Nat.reduceLeDiff, Nat.reduceEqDiff, Nat.reduceLT, Nat.reduceSub, Nat.reduceBEq, forall_const, reduceCtorEq, implies_true, exists_eq_left', exists_eq_left, if_true, if_false, undef]
    refine ⟨by omega, by omega, ?_⟩
    simp only [show 0 + Int.toNat 0 = 0 from rfl]
    refine pickRu (by simp [nwh]; omega) ?_
    simp (maxSteps := 1000000) only [XU, XX, reduceIte, ↓reduceIte, Nat.reduceAdd, Nat.reduceLeDiff, Nat.reduceEqDiff, Nat.reduceLT, Nat.reduceSub, Nat.reduceBEq, forall_const, reduceCtorEq, implies_true, exists_eq_left', exists_eq_left, if_true, if_false, undef]
    have hrow : (nwh M i).getD 0 [] = List.replicate (M.states.toNat + 1) (-1) := by
      rw [nwh, List.getD_eq_getElem?_getD, List.getElem?_replicate, if_pos (by omega)]; rfl
    have hx : (((nwh M i).map rwU).set 0 .gone).set 0 (.own ((((nwh M i).getD 0 []).map I).set 0 (I (-2)))) = (hSet (nwh M i) 0 0 (-2)).map rwU := by
      rw [List.set_set, hSet, ← rw_set, List.map_set]
    have hll : 0 < (((nwh M i).getD 0 []).map I).length := by rw [hrow]; simp
    refine ⟨by omega, by omega, hll, [6, 14, 15, 4, 23], by simp [XU, XX, undef], by simp [XU, XX, undef], ?_⟩
    rw [← hx]
    simp [XU, XX, reduceIte, ↓reduceIte, Nat.reduceAdd, Nat.reduceLeDiff, Nat.reduceEqDiff, Nat.reduceLT, Nat.reduceSub, Nat.reduceBEq, forall_const, reduceCtorEq, implies_true, exists_eq_left', exists_eq_left, if_true, if_false, undef, I]

set_option maxHeartbeats 1000000
theorem unot_len (gs : List Gt) (a : Int) : (notR gs a).1.length ≤ gs.length + 1 := by
  unfold notR; split <;> (try split) <;> first | exact (addG_len _ _).2 | (simp only; omega)
theorem uand_len (gs : List Gt) (a b : Int) : (andR gs a b).1.length ≤ gs.length + 1 := by
  unfold andR; split <;> (try split) <;> (try split) <;> first | exact (addG_len _ _).2 | (simp only; omega)
theorem uor_len (gs : List Gt) (a b : Int) : (orR gs a b).1.length ≤ gs.length + 1 := by
  unfold orR; split <;> (try split) <;> (try split) <;> first | exact (addG_len _ _).2 | (simp only; omega)
/-- the unroller -/
def uB (M : Mach) (kg kk ko kh : Nat) (s : Ust) : MObj := .box [.arr kg 0 s.gs.length, .mp kk, I M.states, I M.signs, .ro 1 (M.rules.map encRow), .arr ko 0 s.ones.length, .arr kh 0 s.heads.length, I s.acc]
theorem leave_spec (M : Mach) (cells i : Nat) (s : Ust) (row : List Int) (hM : MOk M) (h2 : M.signs = 2) (hs2 : M.states ≤ 2) (hi : i < cells) (h5 : cells ≤ 5) (ho : s.ones.length = cells) (hh : HS s.gs s.heads cells (M.states.toNat + 1)) (hr : row.length = M.states.toNat + 1) (hg : s.gs.length ≤ 1000)
    (hok : GsOk cells s.gs) (hop : PL s.gs s.ones) (hrp : PL s.gs row) :
    CallsM Try.prog 49 [.ptr 0 0, IN i, .arr 5 0 row.length] [uB M 1 2 3 4 s, .arr 3 (s.gs.map encG), .map (knE 0 s.gs), .arr 1 (s.ones.map I), .mat 1 (s.heads.map rwU), .arr 1 (row.map I)] (.tup [])
      [some (uB M 6 2 3 4 (leaveS M cells s i row)), none, some (.map (knE 0 (leaveS M cells s i row).gs)), some (.arr 1 ((leaveS M cells s i row).ones.map I)), some (.mat 1 ((leaveS M cells s i row).heads.map rwU)), some (.arr 1 (row.map I)), some (.arr 3 ((leaveS M cells s i row).gs.map encG))] := by
  have hhl := hh.len
  have s1 := hM.s1
  obtain ⟨S, hS⟩ : ∃ S : Nat, M.states = S := ⟨M.states.toNat, by omega⟩
  have hSS : M.states.toNat = S := by omega
  have hrl : M.rules.length = S := by have := hM.len; omega
  rw [hSS] at hr
  have hone : (s.ones.map I)[i]? = some (I (s.ones.getD i 0)) := by
    rw [List.getElem?_map, List.getElem?_eq_getElem (by omega), List.getD_eq_getElem?_getD, List.getElem?_eq_getElem (by omega)]; rfl
  have hnot := fun rest => cnot_spec rest s.gs (s.ones.getD i 0) (by omega)
  refine fnM_of comp49 (by simp) (by simp [uB]) ?_
  unfold code49
  simp (maxSteps := 1000000) only [memOf, uB, ho, hhl, hr, XU, XX, reduceIte, ↓reduceIte, Nat.reduceAdd, Nat.reduceLeDiff, Nat.reduceEqDiff, Nat.reduceLT, Nat.reduceSub, Nat.reduceBEq, forall_const, reduceCtorEq, implies_true, exists_eq_left', exists_eq_left, if_true, if_false, undef]
  refine ⟨by omega, by omega, Pick.mk (I (s.ones.getD i 0)) (by simp only [Int.toNat_natCast, Nat.zero_add]; exact hone) ?_⟩
  have hop1 : Part s.gs (s.ones.getD i 0) := hop.get (by omega)
  have N := not_rs hok hop1
  have LQ := fun q hq => lvQ_ok (cell := i) (fi := fun w q => (pv w (notR s.gs (s.ones.getD i 0)).1 (row.getD (q / 2) 0) && pv w (notR s.gs (s.ones.getD i 0)).1 (if q % 2 = 0 then (notR s.gs (s.ones.getD i 0)).2 else s.ones.getD i 0))) hM h2 (by omega)
    (s0 := ⟨(notR s.gs (s.ones.getD i 0)).1, s.heads, -1, -1⟩) (one := s.ones.getD i 0) (n1 := (notR s.gs (s.ones.getD i 0)).2) (row := row) N.ok (hh.up N.pre) (hop1.up N.pre) N.part (hrp.up N.pre) (by omega) rfl rfl (fun _ _ _ _ => rfl) q hq
  have hnl := N.len
  have hlv : leaveS M cells s i row = leaveS M cells s i row := rfl
  conv at hlv => rhs; unfold leaveS l3R l2R l1R lvOf
  rw [hlv]
  have hL0 : lvQ M cells i (s.ones.getD i 0) (notR s.gs (s.ones.getD i 0)).2 row ⟨(notR s.gs (s.ones.getD i 0)).1, s.heads, -1, -1⟩ 0 = ⟨(notR s.gs (s.ones.getD i 0)).1, s.heads, -1, -1⟩ := rfl
  have hLS : ∀ q, lvQ M cells i (s.ones.getD i 0) (notR s.gs (s.ones.getD i 0)).2 row ⟨(notR s.gs (s.ones.getD i 0)).1, s.heads, -1, -1⟩ (q + 1) = ruS M cells i (s.ones.getD i 0) (notR s.gs (s.ones.getD i 0)).2 row (lvQ M cells i (s.ones.getD i 0) (notR s.gs (s.ones.getD i 0)).2 row ⟨(notR s.gs (s.ones.getD i 0)).1, s.heads, -1, -1⟩ q) q := fun q => rfl
  generalize lvQ M cells i (s.ones.getD i 0) (notR s.gs (s.ones.getD i 0)).2 row ⟨(notR s.gs (s.ones.getD i 0)).1, s.heads, -1, -1⟩ = L at *
  generalize s.ones.getD i 0 = one at *
  generalize notR s.gs one = nn at *
  simp (maxSteps := 1000000) only [XU, XX, reduceIte, ↓reduceIte, Nat.reduceAdd, Nat.reduceLeDiff, Nat.reduceEqDiff, Nat.reduceLT, Nat.reduceSub, Nat.reduceBEq, forall_const, reduceCtorEq, implies_true, exists_eq_left', exists_eq_left, if_true, if_false, undef]
  refine callP 0 2 rfl (by simp) (fun rest hrest => callM [some 0, some 1, some 2] (hnot rest) (by simp [XU, XX, undef]) (by simp [XU, XX, undef]) (by simp [XU, XX, undef]) ⟨[.arr 21 0 nn.1.length, .mp 2], by simp [XU, XX, undef], ?_⟩)
  simp (maxSteps := 1000000) only [XU, XX, reduceIte, ↓reduceIte, Nat.reduceAdd, Nat.reduceLeDiff, Nat.reduceEqDiff, Nat.reduceLT, Nat.reduceSub, Nat.reduceBEq, forall_const, reduceCtorEq, implies_true, exists_eq_left', exists_eq_left, if_true, if_false, undef]
  have hlr : ((M.rules.map encRow).length : Int) = (S : Int) := by simp [hrl]
  rw [hSS] at LQ ⊢
  refine loopR Nat [36, 8, 9] (fun p => [IN p, I (L (2 * p)).wr, I (L (2 * p)).er]) (fun p => [(0, some (.box [.arr 36 0 (L (2 * p)).gs.length, .mp 2, I M.states, I M.signs, .ro 1 (M.rules.map encRow), .arr 3 0 cells, .arr 4 0 cells, I s.acc])), (36, some (.arr 3 ((L (2 * p)).gs.map encG))), (2, some (.map (knE 0 (L (2 * p)).gs))), (4, some (.mat 1 ((L (2 * p)).heads.map rwU))), (21, none)])
    1 (fun p => p ≤ S) (fun p => S - p) (by decide) 0 [some 21] rfl (by omega) (by simp [Back, BackF, fzT, fzM, fzU, fz, fzL, fzO, kin, SubT, Sub, SubL, SubM, SubO, keepM, srcOk, look, lookM, ev, evs, putT, argT, XU, XX, undef, hL0, I]) ?_
  intro p hp
  by_cases c1 : p < S
  · have g1 : decide ((p : Int) < ((M.rules.map encRow).length : Int)) = true := by rw [hlr]; simp [c1]
    have hwp : IntKind.i64.wrap ((p : Int) + 1) = ((p + 1 : Nat) : Int) := by rw [wrap_id] <;> omega
    simp (maxSteps := 1000000) only [g1, XU, XX, reduceIte, ↓reduceIte, Nat.reduceAdd, Nat.reduceLeDiff, Nat.reduceEqDiff, Nat.reduceLT, Nat.reduceSub, Nat.reduceBEq, forall_const, reduceCtorEq, implies_true, exists_eq_left', exists_eq_left, if_true, if_false, undef]
    refine ⟨by omega, pickM (show p < M.rules.length by omega) ?_⟩
    have hlen := hM.row M.rules[p] (List.getElem_mem _)
    have hrq : ∀ a, a < 2 → (M.rules[p])[a]?.getD ⟨0, 0, 0⟩ = rq M (2 * p + a) := fun a ha => by
      unfold rq ruleAt
      rw [show (((2 * p + a) / 2 : Nat) : Int).toNat = p by omega, show (((2 * p + a) % 2 : Nat) : Int).toNat = a by omega, List.getElem?_eq_getElem (show p < M.rules.length by omega)]; rfl
    generalize M.rules[p] = rules at *
    have hl2 : ((rules.map encR).length : Int) = 2 := by simp; omega
    simp (maxSteps := 1000000) only [encRow, XU, XX, reduceIte, ↓reduceIte, Nat.reduceAdd, Nat.reduceLeDiff, Nat.reduceEqDiff, Nat.reduceLT, Nat.reduceSub, Nat.reduceBEq, forall_const, reduceCtorEq, implies_true, exists_eq_left', exists_eq_left, if_true, if_false, undef]
    refine loopR Nat [43, 8, 9] (fun a => [IN a, I (L (2 * p + a)).wr, I (L (2 * p + a)).er]) (fun a => [(0, some (.box [.arr 46 0 (L (2 * p + a)).gs.length, .mp 2, I M.states, I M.signs, .ro 1 (M.rules.map encRow), .arr 3 0 cells, .arr 4 0 cells, I s.acc])), (46, some (.arr 3 ((L (2 * p + a)).gs.map encG))), (2, some (.map (knE 0 (L (2 * p + a)).gs))), (4, some (.mat 1 ((L (2 * p + a)).heads.map rwU))), (36, none)])
      1 (fun a => a ≤ 2) (fun a => 2 - a) (by decide) 0 [some 36] rfl (by omega) (by simp [Back, BackF, fzT, fzM, fzU, fz, fzL, fzO, kin, SubT, Sub, SubL, SubM, SubO, keepM, srcOk, look, lookM, ev, evs, putT, argT, XU, XX, undef, I]) ?_
    intro a ha
    by_cases c2 : a < 2
    · have g2 : decide ((a : Int) < ((rules.map encR).length : Int)) = true := by rw [hl2]; simp; omega
      have hwa : IntKind.i64.wrap ((a : Int) + 1) = ((a + 1 : Nat) : Int) := by rw [wrap_id] <;> omega
      simp (maxSteps := 1000000) only [g2, XU, XX, reduceIte, ↓reduceIte, Nat.reduceAdd, Nat.reduceLeDiff, Nat.reduceEqDiff, Nat.reduceLT, Nat.reduceSub, Nat.reduceBEq, forall_const, reduceCtorEq, implies_true, exists_eq_left', exists_eq_left, if_true, if_false, undef]
      refine ⟨by omega, pickM (show a < rules.length by omega) ?_⟩
      have hra : rules[a]'(by omega) = rq M (2 * p + a) := by
        rw [← hrq a c2, List.getElem?_eq_getElem (show a < rules.length by omega)]; rfl
      rw [hra]
      simp (maxSteps := 1000000) only [encR, XU, XX, reduceIte, ↓reduceIte, Nat.reduceAdd, Nat.reduceLeDiff, Nat.reduceEqDiff, Nat.reduceLT, Nat.reduceSub, Nat.reduceBEq, forall_const, reduceCtorEq, implies_true, exists_eq_left', exists_eq_left, if_true, if_false, undef]
      have hnx : L (2 * p + (a + 1)) = ruS M cells i one nn.2 row (L (2 * p + a)) (2 * p + a) := hLS _
      have X := LQ (2 * p + a) (by omega)
      have hXl := X.len
      simp only at hXl
      have hXh := X.hs
      have hXo := X.ok
      clear X
      have hrp1 : (row.map I)[p]? = some (I (row.getD p 0)) := by
        rw [List.getElem?_map, List.getElem?_eq_getElem (by omega), List.getD_eq_getElem?_getD, List.getElem?_eq_getElem (by omega)]; rfl
      have haR : apR one nn.2 row (L (2 * p + a)) (2 * p + a) = andR (L (2 * p + a)).gs (row.getD p 0) (if a = 0 then nn.2 else one) := by
        unfold apR
        rw [show (2 * p + a) / 2 = p by omega, show (2 * p + a) % 2 = a by omega]
      generalize L (2 * p + a) = X at *
      obtain ⟨_, ⟨rm0, rm1⟩, rn0, rn1⟩ := rq_ok hM h2 (q := 2 * p + a) (by omega)
      rw [hSS] at rn1
      generalize hrr : rq M (2 * p + a) = r at *
      refine ⟨by omega, by omega, Pick.mk (I (row.getD p 0)) (by simp only [Int.toNat_natCast, Nat.zero_add]; exact hrp1) ?_⟩
      generalize row.getD p 0 = ap at *
      simp (maxSteps := 1000000) only [XU, XX, reduceIte, ↓reduceIte, Nat.reduceAdd, Nat.reduceLeDiff, Nat.reduceEqDiff, Nat.reduceLT, Nat.reduceSub, Nat.reduceBEq, forall_const, reduceCtorEq, implies_true, exists_eq_left', exists_eq_left, if_true, if_false, undef]
      have hy : [I nn.2, I one][(a : Int).toNat * 1]? = some (I (if a = 0 then nn.2 else one)) := by
        rcases (show a = 0 ∨ a = 1 by omega) with rfl | rfl <;> rfl
      refine ⟨by omega, by omega, _, hy, ?_⟩
      generalize (if a = 0 then nn.2 else one) = y at *
      have hand := fun rest => cand_spec rest X.gs ap y (by omega)
      have al := uand_len X.gs ap y
      have hru : ruS M cells i one nn.2 row X (2 * p + a) = ruS M cells i one nn.2 row X (2 * p + a) := rfl
      conv at hru => rhs; unfold ruS nxR
      rw [haR, hrr] at hru
      generalize andR X.gs ap y = A at *
      simp (maxSteps := 1000000) only [XU, XX, reduceIte, ↓reduceIte, Nat.reduceAdd, Nat.reduceLeDiff, Nat.reduceEqDiff, Nat.reduceLT, Nat.reduceSub, Nat.reduceBEq, forall_const, reduceCtorEq, implies_true, exists_eq_left', exists_eq_left, if_true, if_false, undef]
      refine callYp 0 [46, 2] [] [.arr 1 0 X.gs.length, .mp 2] [.arr 3 0 A.1.length, .mp 2] [.arr 3 (X.gs.map encG), .map (knE 0 X.gs)] [none, some (.map (knE 0 A.1))] [some (.arr 3 (A.1.map encG))] (fun rest _ => hand rest) rfl (by simp) rfl (by simp [XU, XX, undef]) (by simp) (by simp [XU, XX, undef]) (by simp [XU, XX, undef]) (by simp [XU, XX, undef]) (by simp [XU, XX, undef]) (by simp [XU, XX, undef]) (by simp) (by simp) (by simp [XU, XX, undef]) ?_
      simp (maxSteps := 1000000) only [XU, XX, reduceIte, ↓reduceIte, Nat.reduceAdd, Nat.reduceLeDiff, Nat.reduceEqDiff, Nat.reduceLT, Nat.reduceSub, Nat.reduceBEq, forall_const, reduceCtorEq, implies_true, exists_eq_left', exists_eq_left, if_true, if_false, undef]
      have hwm : IntKind.i64.wrap ((i : Int) + r.m) = (i : Int) + r.m := by rw [wrap_id] <;> omega
      refine callD (CallsA.args (uwithin_spec ((i : Int) + r.m) cells (by omega) (by omega) ) (by simp [ hwm,XU, XX, undef])) rfl (by simp [flat, XU, XX, undef]) (by simp [XU, XX, undef]) ?_
      have ht : clampN cells ((i : Int) + r.m) < cells := clampN_lt (by omega)
      generalize clampN cells ((i : Int) + r.m) = t at *
      simp (maxSteps := 1000000) only [XU, XX, reduceIte, ↓reduceIte, Nat.reduceAdd, Nat.reduceLeDiff, Nat.reduceEqDiff, Nat.reduceLT, Nat.reduceSub, Nat.reduceBEq, forall_const, reduceCtorEq, implies_true, exists_eq_left', exists_eq_left, if_true, if_false, undef]
      refine ⟨by omega, by omega, ?_⟩
      simp only [Int.toNat_natCast, Nat.zero_add]
      refine pickRu (by have := hXh.len; omega) ?_
      simp (maxSteps := 1000000) only [XU, XX, reduceIte, ↓reduceIte, Nat.reduceAdd, Nat.reduceLeDiff, Nat.reduceEqDiff, Nat.reduceLT, Nat.reduceSub, Nat.reduceBEq, forall_const, reduceCtorEq, implies_true, exists_eq_left', exists_eq_left, if_true, if_false, undef]
      obtain ⟨hgl, _⟩ := hXh.get ht
      rw [hSS] at hgl
      have hgll : ((X.heads.getD t []).map I).length = S + 1 := by rw [List.length_map, hgl]
      have hgv : ((X.heads.getD t []).map I)[0 + r.n.toNat]? = some (I (hAt X.heads t r.n.toNat)) := by
        rw [Nat.zero_add, hAt, List.getElem?_map, List.getElem?_eq_getElem (by omega), List.getD_eq_getElem?_getD (l := X.heads.getD t []), List.getElem?_eq_getElem (by omega)]; rfl
      refine ⟨rn0, by omega, Pick.mk (I (hAt X.heads t r.n.toNat)) hgv ?_⟩
      have hor := fun rest => cor_spec rest A.1 (hAt X.heads t r.n.toNat) A.2 (by omega)
      have ol := uor_len A.1 (hAt X.heads t r.n.toNat) A.2
      generalize orR A.1 (hAt X.heads t r.n.toNat) A.2 = o at *
      simp (maxSteps := 1000000) only [XU, XX, reduceIte, ↓reduceIte, Nat.reduceAdd, Nat.reduceLeDiff, Nat.reduceEqDiff, Nat.reduceLT, Nat.reduceSub, Nat.reduceBEq, forall_const, reduceCtorEq, implies_true, exists_eq_left', exists_eq_left, if_true, if_false, undef]
      refine callYp 0 [64, 2] [] [.arr 1 0 A.1.length, .mp 2] [.arr 3 0 o.1.length, .mp 2] [.arr 3 (A.1.map encG), .map (knE 0 A.1)] [none, some (.map (knE 0 o.1))] [some (.arr 3 (o.1.map encG))] (fun rest _ => hor rest) rfl (by simp) rfl (by simp [XU, XX, undef]) (by simp) (by simp [XU, XX, undef]) (by simp [XU, XX, undef]) (by simp [XU, XX, undef]) (by simp [XU, XX, undef]) (by simp [XU, XX, undef]) (by simp) (by simp) (by simp [XU, XX, undef]) ?_
      simp (maxSteps := 1000000) only [XU, XX, reduceIte, ↓reduceIte, Nat.reduceAdd, Nat.reduceLeDiff, Nat.reduceEqDiff, Nat.reduceLT, Nat.reduceSub, Nat.reduceBEq, forall_const, reduceCtorEq, implies_true, exists_eq_left', exists_eq_left, if_true, if_false, undef]
      have hq2 : (((2 * p + a) % 2 : Nat) : Int) = (a : Int) := by omega
      rw [hq2] at hru
      have hset : (((X.heads.map rwU).set t .gone).set t (.own (((X.heads.getD t []).map I).set r.n.toNat (I o.2)))) = (hSet X.heads t r.n.toNat o.2).map rwU := by
        rw [List.set_set, hSet, ← rw_set, List.map_set]
      refine ⟨by omega, ?_⟩
      by_cases d1 : r.w > (a : Int)
      · have f1 : decide (r.w > (a : Int)) = true := decide_eq_true d1
        rw [if_pos d1] at hru
        have hw := fun rest => cor_spec rest o.1 X.wr A.2 (by omega)
        generalize orR o.1 X.wr A.2 = W at *
        simp (maxSteps := 1000000) only [f1, XU, XX, reduceIte, ↓reduceIte, Nat.reduceAdd, Nat.reduceLeDiff, Nat.reduceEqDiff, Nat.reduceLT, Nat.reduceSub, Nat.reduceBEq, forall_const, reduceCtorEq, implies_true, exists_eq_left', exists_eq_left, if_true, if_false, undef]
        refine callP 0 2 rfl (by simp) (fun rest hrest => callM [some 0, some 95, some 2] (hw rest) (by simp [XU, XX, undef]) (by simp [XU, XX, undef]) (by simp [XU, XX, undef]) ⟨[.arr 112 0 W.1.length, .mp 2], by simp [XU, XX, undef], ?_⟩)
        simp (maxSteps := 1000000) only [hwa, XU, XX, reduceIte, ↓reduceIte, Nat.reduceAdd, Nat.reduceLeDiff, Nat.reduceEqDiff, Nat.reduceLT, Nat.reduceSub, Nat.reduceBEq, forall_const, reduceCtorEq, implies_true, exists_eq_left', exists_eq_left, if_true, if_false, undef]
        refine ⟨a + 1, [some 112], rfl, by omega, by omega, ?_⟩
        rw [hnx, hru]
        simp [Back, BackF, fzT, fzM, fzU, fz, fzL, fzO, kin, SubT, Sub, SubL, SubM, SubO, keepM, srcOk, look, lookM, ev, evs, putT, argT, XU, XX, reduceIte, ↓reduceIte, Nat.reduceAdd, Nat.reduceLeDiff, Nat.reduceEqDiff, Nat.reduceLT, Nat.reduceSub, Nat.reduceBEq, forall_const, reduceCtorEq, implies_true, exists_eq_left', exists_eq_left, if_true, if_false, undef, ← hset, I]
      have f1 : decide (r.w > (a : Int)) = false := decide_eq_false d1
      rw [if_neg d1] at hru
      by_cases d2 : r.w < (a : Int)
      · have f2 : decide (r.w < (a : Int)) = true := decide_eq_true d2
        rw [if_pos d2] at hru
        have hw := fun rest => cor_spec rest o.1 X.er A.2 (by omega)
        generalize orR o.1 X.er A.2 = W at *
        simp (maxSteps := 1000000) only [f1, f2, XU, XX, reduceIte, ↓reduceIte, Nat.reduceAdd, Nat.reduceLeDiff, Nat.reduceEqDiff, Nat.reduceLT, Nat.reduceSub, Nat.reduceBEq, forall_const, reduceCtorEq, implies_true, exists_eq_left', exists_eq_left, if_true, if_false, undef]
        refine callP 0 2 rfl (by simp) (fun rest hrest => callM [some 0, some 95, some 2] (hw rest) (by simp [XU, XX, undef]) (by simp [XU, XX, undef]) (by simp [XU, XX, undef]) ⟨[.arr 117 0 W.1.length, .mp 2], by simp [XU, XX, undef], ?_⟩)
        simp (maxSteps := 1000000) only [hwa, XU, XX, reduceIte, ↓reduceIte, Nat.reduceAdd, Nat.reduceLeDiff, Nat.reduceEqDiff, Nat.reduceLT, Nat.reduceSub, Nat.reduceBEq, forall_const, reduceCtorEq, implies_true, exists_eq_left', exists_eq_left, if_true, if_false, undef]
        refine ⟨a + 1, [some 117], rfl, by omega, by omega, ?_⟩
        rw [hnx, hru]
        simp [Back, BackF, fzT, fzM, fzU, fz, fzL, fzO, kin, SubT, Sub, SubL, SubM, SubO, keepM, srcOk, look, lookM, ev, evs, putT, argT, XU, XX, reduceIte, ↓reduceIte, Nat.reduceAdd, Nat.reduceLeDiff, Nat.reduceEqDiff, Nat.reduceLT, Nat.reduceSub, Nat.reduceBEq, forall_const, reduceCtorEq, implies_true, exists_eq_left', exists_eq_left, if_true, if_false, undef, ← hset, I]
      · have f2 : decide (r.w < (a : Int)) = false := decide_eq_false d2
        rw [if_neg d2] at hru
        simp (maxSteps := 1000000) only [f1, f2, hwa, XU, XX, reduceIte, ↓reduceIte, Nat.reduceAdd, Nat.reduceLeDiff, Nat.reduceEqDiff, Nat.reduceLT, Nat.reduceSub, Nat.reduceBEq, forall_const, reduceCtorEq, implies_true, exists_eq_left', exists_eq_left, if_true, if_false, undef]
        refine ⟨a + 1, [some 95], rfl, by omega, by omega, ?_⟩
        rw [hnx, hru]
        simp [Back, BackF, fzT, fzM, fzU, fz, fzL, fzO, kin, SubT, Sub, SubL, SubM, SubO, keepM, srcOk, look, lookM, ev, evs, putT, argT, XU, XX, reduceIte, ↓reduceIte, Nat.reduceAdd, Nat.reduceLeDiff, Nat.reduceEqDiff, Nat.reduceLT, Nat.reduceSub, Nat.reduceBEq, forall_const, reduceCtorEq, implies_true, exists_eq_left', exists_eq_left, if_true, if_false, undef, ← hset, I]
    · obtain rfl : a = 2 := by omega
      have g2 : decide (((2 : Nat) : Int) < ((rules.map encR).length : Int)) = false := by rw [hl2]; decide
      simp (maxSteps := 1000000) only [g2, hwp, XU, XX, reduceIte, ↓reduceIte, Nat.reduceAdd, Nat.reduceLeDiff, Nat.reduceEqDiff, Nat.reduceLT, Nat.reduceSub, Nat.reduceBEq, forall_const, reduceCtorEq, implies_true, exists_eq_left', exists_eq_left, if_true, if_false, undef]
      refine ⟨p + 1, [some 46], rfl, by omega, by omega, ?_⟩
      rw [show 2 * (p + 1) = 2 * p + 2 by omega]
      simp [Back, BackF, fzT, fzM, fzU, fz, fzL, fzO, kin, SubT, Sub, SubL, SubM, SubO, keepM, srcOk, look, lookM, ev, evs, putT, argT, XU, XX, reduceIte, ↓reduceIte, Nat.reduceAdd, Nat.reduceLeDiff, Nat.reduceEqDiff, Nat.reduceLT, Nat.reduceSub, Nat.reduceBEq, forall_const, reduceCtorEq, implies_true, exists_eq_left', exists_eq_left, if_true, if_false, undef, I]
  · obtain rfl : p = S := by omega
    have g1 : decide ((p : Int) < ((M.rules.map encRow).length : Int)) = false := by rw [hlr]; simp
    have X := LQ (2 * p) (by omega)
    have hXl := X.len
    simp only at hXl
    have hXo := X.ok
    have hXhl := X.hs.len
    clear X
    generalize L (2 * p) = X at *
    simp (maxSteps := 1000000) only [g1, XU, XX, reduceIte, ↓reduceIte, Nat.reduceAdd, Nat.reduceLeDiff, Nat.reduceEqDiff, Nat.reduceLT, Nat.reduceSub, Nat.reduceBEq, forall_const, reduceCtorEq, implies_true, exists_eq_left', exists_eq_left, if_true, if_false, undef]
    have hD := fun rest => cnot_spec rest X.gs X.er (by omega)
    have dl := unot_len X.gs X.er
    generalize notR X.gs X.er = D at *
    refine callYp 0 [36, 2] [] [.arr 1 0 X.gs.length, .mp 2] [.arr 3 0 D.1.length, .mp 2] [.arr 3 (X.gs.map encG), .map (knE 0 X.gs)] [none, some (.map (knE 0 D.1))] [some (.arr 3 (D.1.map encG))] (fun rest _ => hD rest) rfl (by simp) rfl (by simp [XU, XX, undef]) (by simp) (by simp [XU, XX, undef]) (by simp [XU, XX, undef]) (by simp [XU, XX, undef]) (by simp [XU, XX, undef]) (by simp [XU, XX, undef]) (by simp) (by simp) (by simp [XU, XX, undef]) ?_
    have hE := fun rest => cand_spec rest D.1 one D.2 (by omega)
    have el := uand_len D.1 one D.2
    generalize andR D.1 one D.2 = E at *
    simp (maxSteps := 1000000) only [XU, XX, reduceIte, ↓reduceIte, Nat.reduceAdd, Nat.reduceLeDiff, Nat.reduceEqDiff, Nat.reduceLT, Nat.reduceSub, Nat.reduceBEq, forall_const, reduceCtorEq, implies_true, exists_eq_left', exists_eq_left, if_true, if_false, undef]
    refine callXp 0 [54, 2] [] [.arr 1 0 D.1.length, .mp 2] [.arr 3 0 E.1.length, .mp 2] [.arr 3 (D.1.map encG), .map (knE 0 D.1)] [none, some (.map (knE 0 E.1))] [some (.arr 3 (E.1.map encG))] (fun rest _ => hE rest) rfl (by simp) rfl (by simp [XU, XX, undef]) (by simp) (by simp [XU, XX, undef]) (by simp [XU, XX, undef]) (by simp [XU, XX, undef]) (by simp [XU, XX, undef]) (by simp [XU, XX, undef]) (by simp) (by simp) (by simp [XU, XX, undef]) ?_
    have hF := fun rest => cor_spec rest E.1 E.2 X.wr (by omega)
    generalize orR E.1 E.2 X.wr = F at *
    simp (maxSteps := 1000000) only [XU, XX, reduceIte, ↓reduceIte, Nat.reduceAdd, Nat.reduceLeDiff, Nat.reduceEqDiff, Nat.reduceLT, Nat.reduceSub, Nat.reduceBEq, forall_const, reduceCtorEq, implies_true, exists_eq_left', exists_eq_left, if_true, if_false, undef]
    refine callXp 0 [55, 2] [] [.arr 1 0 E.1.length, .mp 2] [.arr 3 0 F.1.length, .mp 2] [.arr 3 (E.1.map encG), .map (knE 0 E.1)] [none, some (.map (knE 0 F.1))] [some (.arr 3 (F.1.map encG))] (fun rest _ => hF rest) rfl (by simp) rfl (by simp [XU, XX, undef]) (by simp) (by simp [XU, XX, undef]) (by simp [XU, XX, undef]) (by simp [XU, XX, undef]) (by simp [XU, XX, undef]) (by simp [XU, XX, undef]) (by simp) (by simp) (by simp [XU, XX, undef]) ?_
    simp (maxSteps := 1000000) only [XU, XX, reduceIte, ↓reduceIte, Nat.reduceAdd, Nat.reduceLeDiff, Nat.reduceEqDiff, Nat.reduceLT, Nat.reduceSub, Nat.reduceBEq, forall_const, reduceCtorEq, implies_true, exists_eq_left', exists_eq_left, if_true, if_false, undef]
    refine ⟨by omega, by omega, by simp [ho]; omega, ⟨.inr (.inl trivial), .inr (.inl trivial), .inr (.inl trivial)⟩, [57], by simp [XU, XX, undef], by simp [uB, ho, hXhl, XU, XX, undef], by simp, by simp [XU, XX, undef]⟩

end Go.Av
