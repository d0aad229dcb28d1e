/- The compiler to two counters: its functions. -/
import Derived.Test.YtjehogambhkpgaaDoorCountR
import Derived.Test.YtjehogambhkpgaaDoorTwo
set_option linter.unusedSimpArgs false
set_option linter.unusedVariables false
set_option maxRecDepth 100000
namespace Go.Av
open Go.Proofs

/-- the compiler: its code, its points -/
def cmpM (code : List Ord) (es : List (Int × Int)) : List MObj := [.box [.arr 1 0 code.length, .mp 2], .arr 4 (code.map encO), .map (encE es)]
def cmpR (code : List Ord) (es : List (Int × Int)) : List (Option MObj) := [some (.box [.arr 3 0 code.length, .mp 2]), none, some (.map (encE es)), some (.arr 4 (code.map encO))]

theorem add_spec (o : Ord) (code : List Ord) (es : List (Int × Int)) (hl : code.length ≤ 100000) :
    CallsM Tryd.prog 24 [.ptr 0 0, encO o] (cmpM code es) (.tup []) (cmpR (code ++ [o]) es) := by
  have hll : (code.map encO).length = code.length := by simp
  refine fnM_of comp24 (by simp) (by simp [cmpM, cmpR]) ?_
  unfold code24
  simp (maxSteps := 1000000) only [encO, cmpM, cmpR, memOf, hll, encO, cmpM, cmpR, EA, EB, EC, ED, EE, EF, EG, EH, XA, XB, XC, XD, XE, XF, XG, XH, XI, XJ, XK, XL, XM, reduceIte, ↓reduceIte, Nat.reduceAdd, Nat.reduceLeDiff, Nat.reduceEqDiff, Nat.reduceLT, Nat.reduceSub, Nat.reduceBEq, forall_const, reduceCtorEq, implies_true, exists_eq_left', exists_eq_left, if_true, if_false, undef]
  exact ⟨by omega, [11], by simp, by simp [encO, cmpM, cmpR, EA, EB, EC, ED, EE, EF, EG, EH, XA, XB, XC, XD, XE, XF, XG, XH, XI, XJ, XK, XL, XM, reduceIte, ↓reduceIte, Nat.reduceAdd, Nat.reduceLeDiff, Nat.reduceEqDiff, Nat.reduceLT, Nat.reduceSub, Nat.reduceBEq, forall_const, reduceCtorEq, implies_true, exists_eq_left', exists_eq_left, if_true, if_false, undef], by simp [encO, cmpM, cmpR, EA, EB, EC, ED, EE, EF, EG, EH, XA, XB, XC, XD, XE, XF, XG, XH, XI, XJ, XK, XL, XM, reduceIte, ↓reduceIte, Nat.reduceAdd, Nat.reduceLeDiff, Nat.reduceEqDiff, Nat.reduceLT, Nat.reduceSub, Nat.reduceBEq, forall_const, reduceCtorEq, implies_true, exists_eq_left', exists_eq_left, if_true, if_false, undef]⟩

/-- an increment, a decrement -/
def mo (ctr next : Int) : Ord := ⟨1, ctr, next, 0⟩
def le (ctr next zero : Int) : Ord := ⟨2, ctr, next, zero⟩
/-- increments one after the other, from the place q on -/
def mos (ctr : Int) (q : Nat) : Nat → List Ord
  | 0 => []
  | t + 1 => mos ctr q t ++ [mo ctr ((q + t + 1 : Nat) : Int)]
theorem mos_length (ctr : Int) (q t : Nat) : (mos ctr q t).length = t := by
  induction t with
  | zero => rfl
  | succ t ih => simp [mos, ih]

theorem more_spec (ctr : Int) (t : Nat) (code : List Ord) (es : List (Int × Int)) (hl : code.length ≤ 10000) (ht : t ≤ 10) :
    CallsM Tryd.prog 25 [.ptr 0 0, I ctr, I (t : Nat)] (cmpM code es) (.tup []) (cmpR (code ++ mos ctr code.length t) es) := by
  have hll : (code.map encO).length = code.length := by simp
  refine fnM_of comp25 (by simp) (by simp [cmpM, cmpR]) ?_
  unfold code25
  simp (maxSteps := 1000000) only [encO, cmpM, cmpR, memOf, hll, encO, cmpM, cmpR, EA, EB, EC, ED, EE, EF, EG, EH, XA, XB, XC, XD, XE, XF, XG, XH, XI, XJ, XK, XL, XM, reduceIte, ↓reduceIte, Nat.reduceAdd, Nat.reduceLeDiff, Nat.reduceEqDiff, Nat.reduceLT, Nat.reduceSub, Nat.reduceBEq, forall_const, reduceCtorEq, implies_true, exists_eq_left', exists_eq_left, if_true, if_false, undef]
  refine loopR Nat [7] (fun k => [I k]) (fun k => [(0, some (.box [.arr 5 0 (code.length + k), .mp 2])), (5, some (.arr 4 ((code ++ mos ctr code.length k).map encO))), (1, none)]) 1 (fun k => k ≤ t) (fun k => t - k) (by decide) 0 [some 1] rfl (by simp) (by simp [Back, BackF, fzT, fzM, fzU, fz, fzL, fzO, kin, SubT, Sub, SubL, SubM, SubO, keepM, srcOk, look, lookM, ev, evs, putT, argT, encO, cmpM, cmpR, EA, EB, EC, ED, EE, EF, EG, EH, XA, XB, XC, XD, XE, XF, XG, XH, XI, XJ, XK, XL, XM, reduceIte, ↓reduceIte, Nat.reduceAdd, Nat.reduceLeDiff, Nat.reduceEqDiff, Nat.reduceLT, Nat.reduceSub, Nat.reduceBEq, forall_const, reduceCtorEq, implies_true, exists_eq_left', exists_eq_left, if_true, if_false, undef, mos]) (fun k hk => ?_)
  by_cases h : k < t
  · have e1 : decide ((k : Int) < (t : Int)) = true := by simp [h]
    have hw : IntKind.i64.wrap ((k : Int) + 1) = ((k + 1 : Nat) : Int) := by rw [wrap_id] <;> omega
    have hlc : (code ++ mos ctr code.length k).length = code.length + k := by simp [mos_length]
    have hw2 : IntKind.i64.wrap (((code.length + k : Nat) : Int) + 1) = ((code.length + k + 1 : Nat) : Int) := by rw [wrap_id] <;> omega
    have hw2' : IntKind.i64.wrap ((code.length : Int) + (k : Int) + 1) = (code.length : Int) + (k : Int) + 1 := by rw [wrap_id] <;> omega
    simp (maxSteps := 1000000) only [e1, hw2, encO, cmpM, cmpR, EA, EB, EC, ED, EE, EF, EG, EH, XA, XB, XC, XD, XE, XF, XG, XH, XI, XJ, XK, XL, XM, reduceIte, ↓reduceIte, Nat.reduceAdd, Nat.reduceLeDiff, Nat.reduceEqDiff, Nat.reduceLT, Nat.reduceSub, Nat.reduceBEq, forall_const, reduceCtorEq, implies_true, exists_eq_left', exists_eq_left, if_true, if_false, undef]
    refine callM [some 0, some 5, some 2] (add_spec (mo ctr ((code.length + k + 1 : Nat) : Int)) (code ++ mos ctr code.length k) es (by omega)) (by simp [ hw2, hw2', hlc, mo,encO, cmpM, cmpR, EA, EB, EC, ED, EE, EF, EG, EH, XA, XB, XC, XD, XE, XF, XG, XH, XI, XJ, XK, XL, XM, reduceIte, ↓reduceIte, Nat.reduceAdd, Nat.reduceLeDiff, Nat.reduceEqDiff, Nat.reduceLT, Nat.reduceSub, Nat.reduceBEq, forall_const, reduceCtorEq, implies_true, exists_eq_left', exists_eq_left, if_true, if_false, undef]) (by simp [encO, cmpM, cmpR, EA, EB, EC, ED, EE, EF, EG, EH, XA, XB, XC, XD, XE, XF, XG, XH, XI, XJ, XK, XL, XM, reduceIte, ↓reduceIte, Nat.reduceAdd, Nat.reduceLeDiff, Nat.reduceEqDiff, Nat.reduceLT, Nat.reduceSub, Nat.reduceBEq, forall_const, reduceCtorEq, implies_true, exists_eq_left', exists_eq_left, if_true, if_false, undef]) (by simp [ hw2, hw2', hlc, mo,encO, cmpM, cmpR, EA, EB, EC, ED, EE, EF, EG, EH, XA, XB, XC, XD, XE, XF, XG, XH, XI, XJ, XK, XL, XM, reduceIte, ↓reduceIte, Nat.reduceAdd, Nat.reduceLeDiff, Nat.reduceEqDiff, Nat.reduceLT, Nat.reduceSub, Nat.reduceBEq, forall_const, reduceCtorEq, implies_true, exists_eq_left', exists_eq_left, if_true, if_false, undef]) ?_
    have hlc2 : (code ++ mos ctr code.length k ++ [mo ctr ((code.length + k + 1 : Nat) : Int)]).length = code.length + (k + 1) := by simp [mos_length]
    have hnx : code ++ mos ctr code.length k ++ [mo ctr ((code.length + k + 1 : Nat) : Int)] = code ++ mos ctr code.length (k + 1) := by simp [mos]
    rw [hnx] at hlc2
    simp (maxSteps := 1000000) only [hnx, hlc2, hw, encO, cmpM, cmpR, EA, EB, EC, ED, EE, EF, EG, EH, XA, XB, XC, XD, XE, XF, XG, XH, XI, XJ, XK, XL, XM, reduceIte, ↓reduceIte, Nat.reduceAdd, Nat.reduceLeDiff, Nat.reduceEqDiff, Nat.reduceLT, Nat.reduceSub, Nat.reduceBEq, forall_const, reduceCtorEq, implies_true, exists_eq_left', exists_eq_left, if_true, if_false, undef]
    exact ⟨k + 1, [some 19], rfl, by omega, by omega, by simp [Back, BackF, fzT, fzM, fzU, fz, fzL, fzO, kin, SubT, Sub, SubL, SubM, SubO, keepM, srcOk, look, lookM, ev, evs, putT, argT, encO, cmpM, cmpR, EA, EB, EC, ED, EE, EF, EG, EH, XA, XB, XC, XD, XE, XF, XG, XH, XI, XJ, XK, XL, XM, reduceIte, ↓reduceIte, Nat.reduceAdd, Nat.reduceLeDiff, Nat.reduceEqDiff, Nat.reduceLT, Nat.reduceSub, Nat.reduceBEq, forall_const, reduceCtorEq, implies_true, exists_eq_left', exists_eq_left, if_true, if_false, undef]⟩
  · have e1 : decide ((k : Int) < (t : Int)) = false := by simp [h]
    have : k = t := by omega
    subst this
    simp (maxSteps := 1000000) only [e1, encO, cmpM, cmpR, EA, EB, EC, ED, EE, EF, EG, EH, XA, XB, XC, XD, XE, XF, XG, XH, XI, XJ, XK, XL, XM, reduceIte, ↓reduceIte, Nat.reduceAdd, Nat.reduceLeDiff, Nat.reduceEqDiff, Nat.reduceLT, Nat.reduceSub, Nat.reduceBEq, forall_const, reduceCtorEq, implies_true, exists_eq_left', exists_eq_left, if_true, if_false, undef]
    exact ⟨[5], by simp [mos_length, encO, cmpM, cmpR, EA, EB, EC, ED, EE, EF, EG, EH, XA, XB, XC, XD, XE, XF, XG, XH, XI, XJ, XK, XL, XM, reduceIte, ↓reduceIte, Nat.reduceAdd, Nat.reduceLeDiff, Nat.reduceEqDiff, Nat.reduceLT, Nat.reduceSub, Nat.reduceBEq, forall_const, reduceCtorEq, implies_true, exists_eq_left', exists_eq_left, if_true, if_false, undef], by simp [mos_length, encO, cmpM, cmpR, EA, EB, EC, ED, EE, EF, EG, EH, XA, XB, XC, XD, XE, XF, XG, XH, XI, XJ, XK, XL, XM, reduceIte, ↓reduceIte, Nat.reduceAdd, Nat.reduceLeDiff, Nat.reduceEqDiff, Nat.reduceLT, Nat.reduceSub, Nat.reduceBEq, forall_const, reduceCtorEq, implies_true, exists_eq_left', exists_eq_left, if_true, if_false, undef], by simp [mos_length, encO, cmpM, cmpR, EA, EB, EC, ED, EE, EF, EG, EH, XA, XB, XC, XD, XE, XF, XG, XH, XI, XJ, XK, XL, XM, reduceIte, ↓reduceIte, Nat.reduceAdd, Nat.reduceLeDiff, Nat.reduceEqDiff, Nat.reduceLT, Nat.reduceSub, Nat.reduceBEq, forall_const, reduceCtorEq, implies_true, exists_eq_left', exists_eq_left, if_true, if_false, undef]⟩

/-- a loop that empties one counter into another, so many times over, from the place q on -/
def mvs (fr to : Int) (t q : Nat) (zero : Int) : List Ord := le fr ((q + 1 : Nat) : Int) zero :: (mos to (q + 1) (t - 1) ++ [mo to (q : Nat)])
theorem mvs_length (fr to : Int) (t q : Nat) (z : Int) (ht : 1 ≤ t) : (mvs fr to t q z).length = t + 1 := by simp [mvs, mos_length]; omega

theorem move_spec (fr to : Int) (t : Nat) (code : List Ord) (es : List (Int × Int)) (hl : code.length ≤ 1000) (ht : 1 ≤ t ∧ t ≤ 10) :
    CallsM Tryd.prog 21 [.ptr 0 0, I fr, I to, I (t : Nat)] (cmpM code es) (I (code.length : Nat)) (cmpR (code ++ mvs fr to t code.length ((code.length + t + 1 : Nat) : Int)) es) := by
  have hll : (code.map encO).length = code.length := by simp
  refine fnM_of comp21 (by simp) (by simp [cmpM, cmpR]) ?_
  unfold code21
  simp (maxSteps := 1000000) only [encO, cmpM, cmpR, memOf, hll, encO, cmpM, cmpR, EA, EB, EC, ED, EE, EF, EG, EH, XA, XB, XC, XD, XE, XF, XG, XH, XI, XJ, XK, XL, XM, reduceIte, ↓reduceIte, Nat.reduceAdd, Nat.reduceLeDiff, Nat.reduceEqDiff, Nat.reduceLT, Nat.reduceSub, Nat.reduceBEq, forall_const, reduceCtorEq, implies_true, exists_eq_left', exists_eq_left, if_true, if_false, undef]
  have w1 : IntKind.i64.wrap ((code.length : Int) + 1) = (code.length : Int) + 1 := by rw [wrap_id] <;> omega
  have w2 : IntKind.i64.wrap ((code.length : Int) + (t : Int)) = (code.length : Int) + (t : Int) := by rw [wrap_id] <;> omega
  have w3 : IntKind.i64.wrap ((code.length : Int) + (t : Int) + 1) = (code.length : Int) + (t : Int) + 1 := by rw [wrap_id] <;> omega
  have w4 : IntKind.i64.wrap ((t : Int) - 1) = ((t - 1 : Nat) : Int) := by rw [wrap_id] <;> omega
  refine callM [some 0, some 1, some 2] (add_spec (le fr ((code.length + 1 : Nat) : Int) ((code.length + t + 1 : Nat) : Int)) code es (by omega)) (by simp [ w1, w2, w3, le,encO, cmpM, cmpR, EA, EB, EC, ED, EE, EF, EG, EH, XA, XB, XC, XD, XE, XF, XG, XH, XI, XJ, XK, XL, XM, reduceIte, ↓reduceIte, Nat.reduceAdd, Nat.reduceLeDiff, Nat.reduceEqDiff, Nat.reduceLT, Nat.reduceSub, Nat.reduceBEq, forall_const, reduceCtorEq, implies_true, exists_eq_left', exists_eq_left, if_true, if_false, undef]) (by simp [encO, cmpM, cmpR, EA, EB, EC, ED, EE, EF, EG, EH, XA, XB, XC, XD, XE, XF, XG, XH, XI, XJ, XK, XL, XM, reduceIte, ↓reduceIte, Nat.reduceAdd, Nat.reduceLeDiff, Nat.reduceEqDiff, Nat.reduceLT, Nat.reduceSub, Nat.reduceBEq, forall_const, reduceCtorEq, implies_true, exists_eq_left', exists_eq_left, if_true, if_false, undef]) (by simp [ w1, w2, w3, le,encO, cmpM, cmpR, EA, EB, EC, ED, EE, EF, EG, EH, XA, XB, XC, XD, XE, XF, XG, XH, XI, XJ, XK, XL, XM, reduceIte, ↓reduceIte, Nat.reduceAdd, Nat.reduceLeDiff, Nat.reduceEqDiff, Nat.reduceLT, Nat.reduceSub, Nat.reduceBEq, forall_const, reduceCtorEq, implies_true, exists_eq_left', exists_eq_left, if_true, if_false, undef]) ?_
  obtain ⟨c1, hc1⟩ : ∃ c1, c1 = code ++ [le fr ((code.length + 1 : Nat) : Int) ((code.length + t + 1 : Nat) : Int)] := ⟨_, rfl⟩
  have hl1 : c1.length = code.length + 1 := by rw [hc1]; simp
  simp (maxSteps := 1000000) only [← hc1, encO, cmpM, cmpR, EA, EB, EC, ED, EE, EF, EG, EH, XA, XB, XC, XD, XE, XF, XG, XH, XI, XJ, XK, XL, XM, reduceIte, ↓reduceIte, Nat.reduceAdd, Nat.reduceLeDiff, Nat.reduceEqDiff, Nat.reduceLT, Nat.reduceSub, Nat.reduceBEq, forall_const, reduceCtorEq, implies_true, exists_eq_left', exists_eq_left, if_true, if_false, undef]
  refine callM [some 0, some 22, some 2] (more_spec to (t - 1) c1 es (by omega) (by omega)) (by simp [ w4,encO, cmpM, cmpR, EA, EB, EC, ED, EE, EF, EG, EH, XA, XB, XC, XD, XE, XF, XG, XH, XI, XJ, XK, XL, XM, reduceIte, ↓reduceIte, Nat.reduceAdd, Nat.reduceLeDiff, Nat.reduceEqDiff, Nat.reduceLT, Nat.reduceSub, Nat.reduceBEq, forall_const, reduceCtorEq, implies_true, exists_eq_left', exists_eq_left, if_true, if_false, undef]) (by simp [encO, cmpM, cmpR, EA, EB, EC, ED, EE, EF, EG, EH, XA, XB, XC, XD, XE, XF, XG, XH, XI, XJ, XK, XL, XM, reduceIte, ↓reduceIte, Nat.reduceAdd, Nat.reduceLeDiff, Nat.reduceEqDiff, Nat.reduceLT, Nat.reduceSub, Nat.reduceBEq, forall_const, reduceCtorEq, implies_true, exists_eq_left', exists_eq_left, if_true, if_false, undef]) (by simp [ w4,encO, cmpM, cmpR, EA, EB, EC, ED, EE, EF, EG, EH, XA, XB, XC, XD, XE, XF, XG, XH, XI, XJ, XK, XL, XM, reduceIte, ↓reduceIte, Nat.reduceAdd, Nat.reduceLeDiff, Nat.reduceEqDiff, Nat.reduceLT, Nat.reduceSub, Nat.reduceBEq, forall_const, reduceCtorEq, implies_true, exists_eq_left', exists_eq_left, if_true, if_false, undef]) ?_
  obtain ⟨c2, hc2⟩ : ∃ c2, c2 = c1 ++ mos to c1.length (t - 1) := ⟨_, rfl⟩
  have hl2 : c2.length = code.length + t := by rw [hc2]; simp [mos_length, hl1]; omega
  simp (maxSteps := 1000000) only [← hc2, encO, cmpM, cmpR, EA, EB, EC, ED, EE, EF, EG, EH, XA, XB, XC, XD, XE, XF, XG, XH, XI, XJ, XK, XL, XM, reduceIte, ↓reduceIte, Nat.reduceAdd, Nat.reduceLeDiff, Nat.reduceEqDiff, Nat.reduceLT, Nat.reduceSub, Nat.reduceBEq, forall_const, reduceCtorEq, implies_true, exists_eq_left', exists_eq_left, if_true, if_false, undef]
  refine callM [some 0, some 31, some 2] (add_spec (mo to (code.length : Nat)) c2 es (by omega)) (by simp [ mo,encO, cmpM, cmpR, EA, EB, EC, ED, EE, EF, EG, EH, XA, XB, XC, XD, XE, XF, XG, XH, XI, XJ, XK, XL, XM, reduceIte, ↓reduceIte, Nat.reduceAdd, Nat.reduceLeDiff, Nat.reduceEqDiff, Nat.reduceLT, Nat.reduceSub, Nat.reduceBEq, forall_const, reduceCtorEq, implies_true, exists_eq_left', exists_eq_left, if_true, if_false, undef]) (by simp [encO, cmpM, cmpR, EA, EB, EC, ED, EE, EF, EG, EH, XA, XB, XC, XD, XE, XF, XG, XH, XI, XJ, XK, XL, XM, reduceIte, ↓reduceIte, Nat.reduceAdd, Nat.reduceLeDiff, Nat.reduceEqDiff, Nat.reduceLT, Nat.reduceSub, Nat.reduceBEq, forall_const, reduceCtorEq, implies_true, exists_eq_left', exists_eq_left, if_true, if_false, undef]) (by simp [ mo,encO, cmpM, cmpR, EA, EB, EC, ED, EE, EF, EG, EH, XA, XB, XC, XD, XE, XF, XG, XH, XI, XJ, XK, XL, XM, reduceIte, ↓reduceIte, Nat.reduceAdd, Nat.reduceLeDiff, Nat.reduceEqDiff, Nat.reduceLT, Nat.reduceSub, Nat.reduceBEq, forall_const, reduceCtorEq, implies_true, exists_eq_left', exists_eq_left, if_true, if_false, undef]) ?_
  have hfin : c2 ++ [mo to (code.length : Nat)] = code ++ mvs fr to t code.length ((code.length + t + 1 : Nat) : Int) := by rw [hc2, hl1, hc1]; simp [mvs]
  simp (maxSteps := 1000000) only [hfin, encO, cmpM, cmpR, EA, EB, EC, ED, EE, EF, EG, EH, XA, XB, XC, XD, XE, XF, XG, XH, XI, XJ, XK, XL, XM, reduceIte, ↓reduceIte, Nat.reduceAdd, Nat.reduceLeDiff, Nat.reduceEqDiff, Nat.reduceLT, Nat.reduceSub, Nat.reduceBEq, forall_const, reduceCtorEq, implies_true, exists_eq_left', exists_eq_left, if_true, if_false, undef]
  exact ⟨[40], by simp [encO, cmpM, cmpR, EA, EB, EC, ED, EE, EF, EG, EH, XA, XB, XC, XD, XE, XF, XG, XH, XI, XJ, XK, XL, XM, reduceIte, ↓reduceIte, Nat.reduceAdd, Nat.reduceLeDiff, Nat.reduceEqDiff, Nat.reduceLT, Nat.reduceSub, Nat.reduceBEq, forall_const, reduceCtorEq, implies_true, exists_eq_left', exists_eq_left, if_true, if_false, undef], by simp [encO, cmpM, cmpR, EA, EB, EC, ED, EE, EF, EG, EH, XA, XB, XC, XD, XE, XF, XG, XH, XI, XJ, XK, XL, XM, reduceIte, ↓reduceIte, Nat.reduceAdd, Nat.reduceLeDiff, Nat.reduceEqDiff, Nat.reduceLT, Nat.reduceSub, Nat.reduceBEq, forall_const, reduceCtorEq, implies_true, exists_eq_left', exists_eq_left, if_true, if_false, undef], by simp [encO, cmpM, cmpR, EA, EB, EC, ED, EE, EF, EG, EH, XA, XB, XC, XD, XE, XF, XG, XH, XI, XJ, XK, XL, XM, reduceIte, ↓reduceIte, Nat.reduceAdd, Nat.reduceLeDiff, Nat.reduceEqDiff, Nat.reduceLT, Nat.reduceSub, Nat.reduceBEq, forall_const, reduceCtorEq, implies_true, exists_eq_left', exists_eq_left, if_true, if_false, undef], by simp [encO, cmpM, cmpR, EA, EB, EC, ED, EE, EF, EG, EH, XA, XB, XC, XD, XE, XF, XG, XH, XI, XJ, XK, XL, XM, reduceIte, ↓reduceIte, Nat.reduceAdd, Nat.reduceLeDiff, Nat.reduceEqDiff, Nat.reduceLT, Nat.reduceSub, Nat.reduceBEq, forall_const, reduceCtorEq, implies_true, exists_eq_left', exists_eq_left, if_true, if_false, undef]⟩

/-- what is added to the map of points -/
theorem leave_spec (t : Nat) (og : Int) (code : List Ord) (es : List (Int × Int)) (hl : code.length ≤ 1000) (ht : 1 ≤ t ∧ t ≤ 10) :
    CallsM Tryd.prog 22 [.ptr 0 0, I (t : Nat), I og] (cmpM code es) (.tup []) (cmpR (code ++ mvs 1 0 t code.length ((code.length + t + 1 : Nat) : Int)) (aset es (code.length : Nat) og)) := by
  have hll : (code.map encO).length = code.length := by simp
  refine fnM_of comp22 (by simp) (by simp [cmpM, cmpR]) ?_
  unfold code22
  simp (maxSteps := 1000000) only [encO, cmpM, cmpR, memOf, hll, encO, cmpM, cmpR, EA, EB, EC, ED, EE, EF, EG, EH, XA, XB, XC, XD, XE, XF, XG, XH, XI, XJ, XK, XL, XM, reduceIte, ↓reduceIte, Nat.reduceAdd, Nat.reduceLeDiff, Nat.reduceEqDiff, Nat.reduceLT, Nat.reduceSub, Nat.reduceBEq, forall_const, reduceCtorEq, implies_true, exists_eq_left', exists_eq_left, if_true, if_false, undef]
  refine callM [some 0, some 1, some 2] (move_spec 1 0 t code es hl ht) (by simp [encO, cmpM, cmpR, EA, EB, EC, ED, EE, EF, EG, EH, XA, XB, XC, XD, XE, XF, XG, XH, XI, XJ, XK, XL, XM, reduceIte, ↓reduceIte, Nat.reduceAdd, Nat.reduceLeDiff, Nat.reduceEqDiff, Nat.reduceLT, Nat.reduceSub, Nat.reduceBEq, forall_const, reduceCtorEq, implies_true, exists_eq_left', exists_eq_left, if_true, if_false, undef]) (by simp [encO, cmpM, cmpR, EA, EB, EC, ED, EE, EF, EG, EH, XA, XB, XC, XD, XE, XF, XG, XH, XI, XJ, XK, XL, XM, reduceIte, ↓reduceIte, Nat.reduceAdd, Nat.reduceLeDiff, Nat.reduceEqDiff, Nat.reduceLT, Nat.reduceSub, Nat.reduceBEq, forall_const, reduceCtorEq, implies_true, exists_eq_left', exists_eq_left, if_true, if_false, undef]) (by simp [encO, cmpM, cmpR, EA, EB, EC, ED, EE, EF, EG, EH, XA, XB, XC, XD, XE, XF, XG, XH, XI, XJ, XK, XL, XM, reduceIte, ↓reduceIte, Nat.reduceAdd, Nat.reduceLeDiff, Nat.reduceEqDiff, Nat.reduceLT, Nat.reduceSub, Nat.reduceBEq, forall_const, reduceCtorEq, implies_true, exists_eq_left', exists_eq_left, if_true, if_false, undef]) ?_
  obtain ⟨c1, hc1⟩ : ∃ c1, c1 = code ++ mvs 1 0 t code.length ((code.length + t + 1 : Nat) : Int) := ⟨_, rfl⟩
  simp (maxSteps := 1000000) only [← hc1, encE_T, mput_enc, encO, cmpM, cmpR, EA, EB, EC, ED, EE, EF, EG, EH, XA, XB, XC, XD, XE, XF, XG, XH, XI, XJ, XK, XL, XM, reduceIte, ↓reduceIte, Nat.reduceAdd, Nat.reduceLeDiff, Nat.reduceEqDiff, Nat.reduceLT, Nat.reduceSub, Nat.reduceBEq, forall_const, reduceCtorEq, implies_true, exists_eq_left', exists_eq_left, if_true, if_false, undef]
  exact ⟨[8], by simp, by simp [encO, cmpM, cmpR, EA, EB, EC, ED, EE, EF, EG, EH, XA, XB, XC, XD, XE, XF, XG, XH, XI, XJ, XK, XL, XM, reduceIte, ↓reduceIte, Nat.reduceAdd, Nat.reduceLeDiff, Nat.reduceEqDiff, Nat.reduceLT, Nat.reduceSub, Nat.reduceBEq, forall_const, reduceCtorEq, implies_true, exists_eq_left', exists_eq_left, if_true, if_false, undef], by simp [encO, cmpM, cmpR, EA, EB, EC, ED, EE, EF, EG, EH, XA, XB, XC, XD, XE, XF, XG, XH, XI, XJ, XK, XL, XM, reduceIte, ↓reduceIte, Nat.reduceAdd, Nat.reduceLeDiff, Nat.reduceEqDiff, Nat.reduceLT, Nat.reduceSub, Nat.reduceBEq, forall_const, reduceCtorEq, implies_true, exists_eq_left', exists_eq_left, if_true, if_false, undef]⟩

/-- the decrements that divide by p, but for the first -/
def chn (q p : Nat) : Nat → List Ord
  | 0 => []
  | k + 1 => chn q p k ++ [le 0 ((q + (k + 1) + 1 : Nat) : Int) (((q + 2 * p + 2 : Nat) : Int) - ((k + 1 : Nat) : Int))]
theorem chn_length (q p k : Nat) : (chn q p k).length = k := by
  induction k with
  | zero => rfl
  | succ k ih => simp [chn, ih]

def lsA (q p : Nat) : List Ord := le 0 ((q + 1 : Nat) : Int) ((q + p + 1 : Nat) : Int) :: (chn q p (p - 1) ++ [mo 1 (q : Nat)])
def lsL (q p : Nat) (n z : Int) : List Ord := lsA q p ++ (mvs 1 0 1 (q + p + 1) n ++ (mos 0 (q + p + 3) (p - 1) ++ mvs 1 0 p (q + 2 * p + 2) z))

end Go.Av
