/- Circuits: how deep; what the functions tell. -/
import Derived.Test.YtelcipdpfoipiaaGateB
set_option linter.unusedSimpArgs false
set_option linter.unusedVariables false
set_option maxRecDepth 100000
namespace Go.Av
open Go.Proofs

def dev (v : List Nat) (g : Gt) : Nat :=
  if g.kind = 1 then 0 else if g.kind = 2 then v.getD g.a.toNat 0 + 1 else max (v.getD g.a.toNat 0) (v.getD g.b.toNat 0) + 1
def dpk (l : List Gt) : Nat → List Nat
  | 0 => []
  | k + 1 => dpk l k ++ [dev (dpk l k) (gAt l k)]
theorem dpk_length (l : List Gt) : ∀ k, (dpk l k).length = k
  | 0 => rfl
  | k + 1 => by simp [dpk, dpk_length l k]
theorem dpk_le (l : List Gt) : ∀ k, ∀ x ∈ dpk l k, x ≤ k
  | 0, x, hx => by simp [dpk] at hx
  | k + 1, x, hx => by
    have ih := dpk_le l k
    have hg : ∀ i, (dpk l k).getD i 0 ≤ k := fun i => by
      rw [List.getD_eq_getElem?_getD]
      cases h : (dpk l k)[i]? with
      | none => simp
      | some y => exact ih y (List.mem_of_getElem? h)
    rw [dpk] at hx
    rcases List.mem_append.1 hx with hx | hx
    · have := ih x hx; omega
    · have h1 := hg (gAt l k).a.toNat
      have h2 := hg (gAt l k).b.toNat
      simp only [List.mem_singleton] at hx
      subst hx
      simp only [dev]; split
      · omega
      · split <;> omega
def dpArr (l : List Gt) (k : Nat) : List AV := (dpk l k).map IN ++ List.replicate (l.length - k) (I 0)
theorem dpArr_length {l : List Gt} {k : Nat} (h : k ≤ l.length) : (dpArr l k).length = l.length := by simp [dpArr, dpk_length]; omega
theorem dpArr_get {l : List Gt} {k i : Nat} (h : i < k) : (dpArr l k)[i]? = some (IN ((dpk l k).getD i 0)) := by
  have hl := dpk_length l k
  rw [dpArr, List.getElem?_append_left (by simp [hl]; exact h), List.getElem?_map, List.getElem?_eq_getElem (by omega), List.getD_eq_getElem?_getD, List.getElem?_eq_getElem (by omega)]; rfl
theorem dpArr_set {l : List Gt} {k : Nat} (h : k < l.length) : (dpArr l k).set k (IN (dev (dpk l k) (gAt l k))) = dpArr l (k + 1) := by
  have hl := dpk_length l k
  rw [dpArr, List.set_append_right _ _ (by simp [hl]), List.length_map, hl, Nat.sub_self, show l.length - k = (l.length - (k + 1)) + 1 by omega, List.replicate_succ, List.set_cons_zero, dpArr, dpk, List.map_append, List.append_assoc]
  rfl
theorem dpArr_skip {l : List Gt} {k : Nat} (h : k < l.length) (hd : dev (dpk l k) (gAt l k) = 0) : dpArr l k = dpArr l (k + 1) := by
  rw [dpArr, show l.length - k = (l.length - (k + 1)) + 1 by omega, List.replicate_succ, dpArr, dpk, hd, List.map_append, List.append_assoc]
  rfl

theorem deep_spec (inn : Int) (l : List Gt) (h : GsOk inn l) (hl : l.length ≤ 100000) : CallsA Try.prog 17 [.ro 3 (l.map encG)] (.ro 1 ((dpk l l.length).map IN)) [] := by
  refine fn_of0 comp17 (by simp) ?_
  unfold code17
  have hll : ((l.map encG).length : Int) = l.length := by simp
  have hrep : List.replicate ((l.length : Int)).toNat (AV.v (.int .i64 0)) = dpArr l 0 := by simp [dpArr, dpk, I]
  simp (maxSteps := 1000000) only [hll, hrep, encG, EA, EB, EC, ED, EE, EF, EG, EH, EI, XA, XB, XC, XD, XE, XF, XG, XH, XI, XJ, XK, XL, XM, XN, reduceIte, ↓reduceIte, Nat.reduceAdd, Nat.reduceLeDiff, Nat.reduceEqDiff, Nat.reduceLT, Nat.reduceSub, Nat.reduceBEq, forall_const, reduceCtorEq, implies_true, exists_eq_left', exists_eq_left, if_true, if_false, undef]
  refine ⟨by omega, by omega, by omega, ?_⟩
  refine loopO Nat [11] (fun k => [IN k]) (fun k => [(3, some (.arr 1 (dpArr l k)))]) (fun k => k ≤ l.length) (fun k => l.length - k) (by decide) 0 (by simp) (by simp [Back, BackF, fzT, fzM, fzU, fz, fzL, fzO, kin, SubT, Sub, SubL, SubM, SubO, keepM, srcOk, look, lookM, ev, evs, putT, argT, encG, EA, EB, EC, ED, EE, EF, EG, EH, EI, XA, XB, XC, XD, XE, XF, XG, XH, XI, XJ, XK, XL, XM, XN, reduceIte, ↓reduceIte, Nat.reduceAdd, Nat.reduceLeDiff, Nat.reduceEqDiff, Nat.reduceLT, Nat.reduceSub, Nat.reduceBEq, forall_const, reduceCtorEq, implies_true, exists_eq_left', exists_eq_left, if_true, if_false, undef]) ?_
  intro k hk
  have hal := dpArr_length (l := l) hk
  by_cases c1 : k < l.length
  rotate_left
  · have g1 : decide ((k : Int) < (l.length : Int)) = false := by simp; omega
    obtain rfl : k = l.length := by omega
    have hfin : dpArr l l.length = (dpk l l.length).map IN := by simp [dpArr]
    simp (maxSteps := 1000000) only [hll, g1, hfin, encG, EA, EB, EC, ED, EE, EF, EG, EH, EI, XA, XB, XC, XD, XE, XF, XG, XH, XI, XJ, XK, XL, XM, XN, reduceIte, ↓reduceIte, Nat.reduceAdd, Nat.reduceLeDiff, Nat.reduceEqDiff, Nat.reduceLT, Nat.reduceSub, Nat.reduceBEq, forall_const, reduceCtorEq, implies_true, exists_eq_left', exists_eq_left, if_true, if_false, undef]
    rw [List.take_of_length_le (by simp [dpk_length])]
  have g1 : decide ((k : Int) < (l.length : Int)) = true := by simp [c1]
  have hwk : IntKind.i64.wrap ((k : Int) + 1) = ((k + 1 : Nat) : Int) := by rw [wrap_id] <;> omega
  have hok := h k c1
  have hset := dpArr_set c1
  have hskip := dpArr_skip c1
  have hgat : gAt l k = l[k] := by rw [gAt, List.getElem?_eq_getElem c1]; rfl
  have hle := dpk_le l k
  have hg : ∀ i, (dpk l k).getD i 0 ≤ k := fun i => by
    rw [List.getD_eq_getElem?_getD]
    cases hh : (dpk l k)[i]? with
    | none => simp
    | some y => exact hle y (List.mem_of_getElem? hh)
  rw [hgat] at hset hskip
  simp (maxSteps := 1000000) only [hll, g1, encG, EA, EB, EC, ED, EE, EF, EG, EH, EI, XA, XB, XC, XD, XE, XF, XG, XH, XI, XJ, XK, XL, XM, XN, reduceIte, ↓reduceIte, Nat.reduceAdd, Nat.reduceLeDiff, Nat.reduceEqDiff, Nat.reduceLT, Nat.reduceSub, Nat.reduceBEq, forall_const, reduceCtorEq, implies_true, exists_eq_left', exists_eq_left, if_true, if_false, undef]
  refine ⟨by omega, pickM c1 ?_⟩
  generalize l[k] = g at *
  obtain ⟨kd, a, b⟩ := g
  have hkd := hok.kind
  have hfi := hok.first
  have hse := hok.second
  simp only at hkd hfi hse
  simp (maxSteps := 1000000) only [encG, splice, AV.cells, encG, EA, EB, EC, ED, EE, EF, EG, EH, EI, XA, XB, XC, XD, XE, XF, XG, XH, XI, XJ, XK, XL, XM, XN, reduceIte, ↓reduceIte, Nat.reduceAdd, Nat.reduceLeDiff, Nat.reduceEqDiff, Nat.reduceLT, Nat.reduceSub, Nat.reduceBEq, forall_const, reduceCtorEq, implies_true, exists_eq_left', exists_eq_left, if_true, if_false, undef]
  by_cases k1 : kd = 1
  · have e1 : (kd == 1) = true := by simpa using k1
    have hs := hskip (by simp [dev, k1])
    simp (maxSteps := 1000000) only [e1, hwk, encG, EA, EB, EC, ED, EE, EF, EG, EH, EI, XA, XB, XC, XD, XE, XF, XG, XH, XI, XJ, XK, XL, XM, XN, reduceIte, ↓reduceIte, Nat.reduceAdd, Nat.reduceLeDiff, Nat.reduceEqDiff, Nat.reduceLT, Nat.reduceSub, Nat.reduceBEq, forall_const, reduceCtorEq, implies_true, exists_eq_left', exists_eq_left, if_true, if_false, undef]
    exact ⟨k + 1, by omega, by omega, by rw [← hs]; simp [Back, BackF, fzT, fzM, fzU, fz, fzL, fzO, kin, SubT, Sub, SubL, SubM, SubO, keepM, srcOk, look, lookM, ev, evs, putT, argT, encG, EA, EB, EC, ED, EE, EF, EG, EH, EI, XA, XB, XC, XD, XE, XF, XG, XH, XI, XJ, XK, XL, XM, XN, reduceIte, ↓reduceIte, Nat.reduceAdd, Nat.reduceLeDiff, Nat.reduceEqDiff, Nat.reduceLT, Nat.reduceSub, Nat.reduceBEq, forall_const, reduceCtorEq, implies_true, exists_eq_left', exists_eq_left, if_true, if_false, undef]⟩
  have e1 : (kd == 1) = false := by simpa using k1
  obtain ⟨p1, p2⟩ := hfi k1
  have hga := dpArr_get (l := l) (k := k) (i := a.toNat) (by omega)
  have hA := hg a.toNat
  simp (maxSteps := 1000000) only [e1, encG, EA, EB, EC, ED, EE, EF, EG, EH, EI, XA, XB, XC, XD, XE, XF, XG, XH, XI, XJ, XK, XL, XM, XN, reduceIte, ↓reduceIte, Nat.reduceAdd, Nat.reduceLeDiff, Nat.reduceEqDiff, Nat.reduceLT, Nat.reduceSub, Nat.reduceBEq, forall_const, reduceCtorEq, implies_true, exists_eq_left', exists_eq_left, if_true, if_false, undef]
  by_cases k2 : kd = 2
  · have e3 : decide (kd ≥ 3) = false := by simp; omega
    have hv : dev (dpk l k) ⟨kd, a, b⟩ = (dpk l k).getD a.toNat 0 + 1 := by simp [dev, k2]
    rw [hv] at hset
    generalize (dpk l k).getD a.toNat 0 = A at *
    have w1 : IntKind.i64.wrap ((A : Int) + 1) = ((A + 1 : Nat) : Int) := by rw [wrap_id] <;> omega
    refine ⟨by omega, by omega, Pick.mk (IN A) (by simpa using hga) ?_⟩
    simp (maxSteps := 1000000) only [w1, e3, hwk, encG, EA, EB, EC, ED, EE, EF, EG, EH, EI, XA, XB, XC, XD, XE, XF, XG, XH, XI, XJ, XK, XL, XM, XN, reduceIte, ↓reduceIte, Nat.reduceAdd, Nat.reduceLeDiff, Nat.reduceEqDiff, Nat.reduceLT, Nat.reduceSub, Nat.reduceBEq, forall_const, reduceCtorEq, implies_true, exists_eq_left', exists_eq_left, if_true, if_false, undef]
    exact ⟨by omega, by omega, by rw [Int.toNat_natCast]; omega, k + 1, by omega, by omega, by simp [Back, BackF, fzT, fzM, fzU, fz, fzL, fzO, kin, SubT, Sub, SubL, SubM, SubO, keepM, srcOk, look, lookM, ev, evs, putT, argT, encG, EA, EB, EC, ED, EE, EF, EG, EH, EI, XA, XB, XC, XD, XE, XF, XG, XH, XI, XJ, XK, XL, XM, XN, reduceIte, ↓reduceIte, Nat.reduceAdd, Nat.reduceLeDiff, Nat.reduceEqDiff, Nat.reduceLT, Nat.reduceSub, Nat.reduceBEq, forall_const, reduceCtorEq, implies_true, exists_eq_left', exists_eq_left, if_true, if_false, undef, ← hset, IN, I]⟩
  have e3 : decide (kd ≥ 3) = true := by simp; omega
  obtain ⟨q1, q2⟩ := hse (by omega)
  have hgb := dpArr_get (l := l) (k := k) (i := b.toNat) (by omega)
  have hB := hg b.toNat
  have hv : dev (dpk l k) ⟨kd, a, b⟩ = max ((dpk l k).getD a.toNat 0) ((dpk l k).getD b.toNat 0) + 1 := by simp [dev, k1, k2]
  rw [hv] at hset
  generalize (dpk l k).getD a.toNat 0 = A at *
  generalize (dpk l k).getD b.toNat 0 = B at *
  have w1 : IntKind.i64.wrap ((A : Int) + 1) = ((A + 1 : Nat) : Int) := by rw [wrap_id] <;> omega
  have w2 : IntKind.i64.wrap ((B : Int) + 1) = ((B + 1 : Nat) : Int) := by rw [wrap_id] <;> omega
  have hgb2 : ∀ v, ((dpArr l k).set k v)[b.toNat]? = some (IN B) := fun v => by rw [List.getElem?_set, if_neg (by omega)]; exact hgb
  have hgk2 : ∀ v, ((dpArr l k).set k v)[k]? = some v := fun v => by rw [List.getElem?_set, if_pos rfl, if_pos (by omega)]
  refine ⟨by omega, by omega, Pick.mk (IN A) (by simpa using hga) ?_⟩
  simp (maxSteps := 1000000) only [w1, e3, encG, EA, EB, EC, ED, EE, EF, EG, EH, EI, XA, XB, XC, XD, XE, XF, XG, XH, XI, XJ, XK, XL, XM, XN, reduceIte, ↓reduceIte, Nat.reduceAdd, Nat.reduceLeDiff, Nat.reduceEqDiff, Nat.reduceLT, Nat.reduceSub, Nat.reduceBEq, forall_const, reduceCtorEq, implies_true, exists_eq_left', exists_eq_left, if_true, if_false, undef]
  refine ⟨by omega, by omega, by rw [Int.toNat_natCast]; omega, ?_⟩
  simp (maxSteps := 1000000) only [e3, encG, EA, EB, EC, ED, EE, EF, EG, EH, EI, XA, XB, XC, XD, XE, XF, XG, XH, XI, XJ, XK, XL, XM, XN, reduceIte, ↓reduceIte, Nat.reduceAdd, Nat.reduceLeDiff, Nat.reduceEqDiff, Nat.reduceLT, Nat.reduceSub, Nat.reduceBEq, forall_const, reduceCtorEq, implies_true, exists_eq_left', exists_eq_left, if_true, if_false, undef]
  refine ⟨by omega, by omega, Pick.mk (IN B) (by simpa using hgb2 _) ?_⟩
  simp (maxSteps := 1000000) only [e3, encG, EA, EB, EC, ED, EE, EF, EG, EH, EI, XA, XB, XC, XD, XE, XF, XG, XH, XI, XJ, XK, XL, XM, XN, reduceIte, ↓reduceIte, Nat.reduceAdd, Nat.reduceLeDiff, Nat.reduceEqDiff, Nat.reduceLT, Nat.reduceSub, Nat.reduceBEq, forall_const, reduceCtorEq, implies_true, exists_eq_left', exists_eq_left, if_true, if_false, undef]
  refine ⟨by omega, by omega, Pick.mk (IN (A + 1)) (by simp only [Int.toNat_natCast, w1, Nat.zero_add]; exact hgk2 _) ?_⟩
  by_cases hc : B ≥ A + 1
  · have e4 : decide ((B : Int) ≥ ((A + 1 : Nat) : Int)) = true := by simp only [decide_eq_true_eq]; omega
    have hm : max A B + 1 = B + 1 := by omega
    rw [hm] at hset
    simp (maxSteps := 1000000) only [e4, w1, hwk, encG, EA, EB, EC, ED, EE, EF, EG, EH, EI, XA, XB, XC, XD, XE, XF, XG, XH, XI, XJ, XK, XL, XM, XN, reduceIte, ↓reduceIte, Nat.reduceAdd, Nat.reduceLeDiff, Nat.reduceEqDiff, Nat.reduceLT, Nat.reduceSub, Nat.reduceBEq, forall_const, reduceCtorEq, implies_true, exists_eq_left', exists_eq_left, if_true, if_false, undef]
    refine ⟨by omega, by omega, Pick.mk (IN B) (by simpa using hgb2 _) ?_⟩
    simp (maxSteps := 1000000) only [w2, encG, EA, EB, EC, ED, EE, EF, EG, EH, EI, XA, XB, XC, XD, XE, XF, XG, XH, XI, XJ, XK, XL, XM, XN, reduceIte, ↓reduceIte, Nat.reduceAdd, Nat.reduceLeDiff, Nat.reduceEqDiff, Nat.reduceLT, Nat.reduceSub, Nat.reduceBEq, forall_const, reduceCtorEq, implies_true, exists_eq_left', exists_eq_left, if_true, if_false, undef]
    exact ⟨by omega, by omega, by simp only [List.length_set, Int.toNat_natCast]; omega, k + 1, by omega, by omega, by simp [Back, BackF, fzT, fzM, fzU, fz, fzL, fzO, kin, SubT, Sub, SubL, SubM, SubO, keepM, srcOk, look, lookM, ev, evs, putT, argT, encG, EA, EB, EC, ED, EE, EF, EG, EH, EI, XA, XB, XC, XD, XE, XF, XG, XH, XI, XJ, XK, XL, XM, XN, reduceIte, ↓reduceIte, Nat.reduceAdd, Nat.reduceLeDiff, Nat.reduceEqDiff, Nat.reduceLT, Nat.reduceSub, Nat.reduceBEq, forall_const, reduceCtorEq, implies_true, exists_eq_left', exists_eq_left, if_true, if_false, undef, hwk, ← hset, IN, I]⟩
  · have e4 : decide ((B : Int) ≥ ((A + 1 : Nat) : Int)) = false := by simp only [decide_eq_false_iff_not]; omega
    have hm : max A B + 1 = A + 1 := by omega
    rw [hm] at hset
    simp (maxSteps := 1000000) only [e4, w1, hwk, encG, EA, EB, EC, ED, EE, EF, EG, EH, EI, XA, XB, XC, XD, XE, XF, XG, XH, XI, XJ, XK, XL, XM, XN, reduceIte, ↓reduceIte, Nat.reduceAdd, Nat.reduceLeDiff, Nat.reduceEqDiff, Nat.reduceLT, Nat.reduceSub, Nat.reduceBEq, forall_const, reduceCtorEq, implies_true, exists_eq_left', exists_eq_left, if_true, if_false, undef]
    exact ⟨k + 1, by omega, by omega, by simp [Back, BackF, fzT, fzM, fzU, fz, fzL, fzO, kin, SubT, Sub, SubL, SubM, SubO, keepM, srcOk, look, lookM, ev, evs, putT, argT, encG, EA, EB, EC, ED, EE, EF, EG, EH, EI, XA, XB, XC, XD, XE, XF, XG, XH, XI, XJ, XK, XL, XM, XN, reduceIte, ↓reduceIte, Nat.reduceAdd, Nat.reduceLeDiff, Nat.reduceEqDiff, Nat.reduceLT, Nat.reduceSub, Nat.reduceBEq, forall_const, reduceCtorEq, implies_true, exists_eq_left', exists_eq_left, if_true, if_false, undef, w1, ← hset, IN, I]⟩

theorem gate_ok {inn : Int} {l : List Gt} (h : gateErr inn l = 0) : (0 ≤ inn ∧ inn ≤ 5) ∧ (1 ≤ l.length ∧ l.length ≤ 40) ∧ GsOk inn l := by
  rw [gateErr] at h
  split at h
  · omega
  · rename_i h1
    exact ⟨by omega, by omega, gs_ok.1 h⟩
/-- the circuit's value at a word -/
def gval (w : Nat) (l : List Gt) : Bool := (gvk w l l.length).getD (l.length - 1) false
def gdeep (l : List Gt) : Nat := (dpk l l.length).getD (l.length - 1) 0
def valueAns (inn : Int) (l : List Gt) (v : List Bool) : AV :=
  if gateErr inn l ≠ 0 then .tup [Bo false, I (gateErr inn l)] else if (v.length : Int) ≠ inn then .tup [Bo false, I 3] else .tup [Bo (gval (wordN v) l), I 0]
def deepAns (inn : Int) (l : List Gt) : AV := if gateErr inn l ≠ 0 then .tup [I 0, I (gateErr inn l)] else .tup [IN (gdeep l), I 0]
theorem gval_get {w : Nat} {l : List Gt} (h : 1 ≤ l.length) : ((gvk w l l.length).map Bo)[l.length - 1]? = some (Bo (gval w l)) := by
  have hl := gvk_length w l l.length
  rw [List.getElem?_map, List.getElem?_eq_getElem (by omega), gval, List.getD_eq_getElem?_getD, List.getElem?_eq_getElem (by omega)]; rfl
theorem gdeep_get {l : List Gt} (h : 1 ≤ l.length) : ((dpk l l.length).map IN)[l.length - 1]? = some (IN (gdeep l)) := by
  have hl := dpk_length l l.length
  rw [List.getElem?_map, List.getElem?_eq_getElem (by omega), gdeep, List.getD_eq_getElem?_getD, List.getElem?_eq_getElem (by omega)]; rfl
theorem hasGates {x : AV} (h : Has (.slice 3 (.agg [.int .i64, .int .i64, .int .i64])) x) : ∃ l : List Gt, x = .ro 3 (l.map encG) ∧ (l.length : Int) < 2 ^ 63 := by
  cases h with
  | slice hl hh =>
    obtain ⟨l, rfl⟩ := listOf (enc := encG) (fun i x hx => by
      obtain ⟨y, z, w, h1, h2, h3, rfl⟩ := hasAgg3 (hh i x hx)
      obtain ⟨a, rfl, _⟩ := hasInt h1
      obtain ⟨b, rfl, _⟩ := hasInt h2
      obtain ⟨c, rfl, _⟩ := hasInt h3
      exact ⟨⟨a, b, c⟩, rfl⟩)
    refine ⟨l, rfl, ?_⟩
    simp only [List.length_map] at hl
    have : maxLen < 2 ^ 63 := by decide
    omega
def bldErr (inn : Int) (t : List Bool) : Int := if ¬(1 ≤ inn ∧ inn ≤ 5) then 1 else if t.length ≠ 2 ^ inn.toNat then 3 else 0
def shGates : Sh := .slice 3 (.agg [.int .i64, .int .i64, .int .i64])

end Go.Av
