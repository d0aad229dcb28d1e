/- Circuits: the values of all gates. -/
import Derived.Test.YtblakcgmngdhmaaGateA
set_option linter.unusedSimpArgs false
set_option linter.unusedVariables false
set_option maxRecDepth 100000
namespace Go.Av
open Go.Proofs

def bitsL (n w : Nat) : List Bool := (List.range n).map w.testBit
/-- a gate's value, by those before it -/
def gev (w : Nat) (v : List Bool) (g : Gt) : Bool :=
  if g.kind = 1 then w.testBit g.a.toNat else if g.kind = 2 then !(v.getD g.a.toNat false) else if g.kind = 3 then v.getD g.a.toNat false && v.getD g.b.toNat false else v.getD g.a.toNat false || v.getD g.b.toNat false
def gvk (w : Nat) (l : List Gt) : Nat → List Bool
  | 0 => []
  | k + 1 => gvk w l k ++ [gev w (gvk w l k) (gAt l k)]
theorem gvk_length (w : Nat) (l : List Gt) : ∀ k, (gvk w l k).length = k
  | 0 => rfl
  | k + 1 => by simp [gvk, gvk_length w l k]
def gvArr (w : Nat) (l : List Gt) (k : Nat) : List AV := (gvk w l k).map Bo ++ List.replicate (l.length - k) (Bo false)
theorem gvArr_length {w : Nat} {l : List Gt} {k : Nat} (h : k ≤ l.length) : (gvArr w l k).length = l.length := by simp [gvArr, gvk_length]; omega
theorem gvArr_get {w : Nat} {l : List Gt} {k i : Nat} (h : i < k) : (gvArr w l k)[i]? = some (Bo ((gvk w l k).getD i false)) := by
  have hl := gvk_length w l k
  rw [gvArr, List.getElem?_append_left (by simp [hl]; exact h), List.getElem?_map, List.getElem?_eq_getElem (by omega), List.getD_eq_getElem?_getD, List.getElem?_eq_getElem (by omega)]; rfl
theorem gvArr_set {w : Nat} {l : List Gt} {k : Nat} (h : k < l.length) : (gvArr w l k).set k (Bo (gev w (gvk w l k) (gAt l k))) = gvArr w l (k + 1) := by
  have hl := gvk_length w l k
  rw [gvArr, List.set_append_right _ _ (by simp [hl]), List.length_map, hl, Nat.sub_self, show l.length - k = (l.length - (k + 1)) + 1 by omega, List.replicate_succ, List.set_cons_zero, gvArr, gvk, List.map_append, List.append_assoc]
  rfl

theorem gates_spec (w : Nat) (inn : Int) (l : List Gt) (hw : w < 2 ^ 62) (hi : inn ≤ 60) (h : GsOk inn l) (hl : l.length ≤ 100000) : CallsA Try.prog 17 [.ro 3 (l.map encG), IN w] (.ro 1 ((gvk w l l.length).map Bo)) [] := by
  refine fn_of0 comp17 (by simp) ?_
  unfold code17
  have hll : ((l.map encG).length : Int) = l.length := by simp
  have hrep : List.replicate ((l.length : Int)).toNat (AV.v (.bool false)) = gvArr w l 0 := by simp [gvArr, gvk, Bo]
  simp (maxSteps := 1000000) only [hll, hrep, encG, XX, reduceIte, ↓reduceIte, Nat.reduceAdd, Nat.reduceLeDiff, Nat.reduceEqDiff, Nat.reduceLT, Nat.reduceSub, Nat.reduceBEq, forall_const, reduceCtorEq, implies_true, exists_eq_left', exists_eq_left, if_true, if_false, undef]
  refine ⟨by omega, by omega, by omega, ?_⟩
  refine loopO Nat [13] (fun k => [IN k]) (fun k => [(3, some (.arr 1 (gvArr w l k)))]) (fun k => k ≤ l.length) (fun k => l.length - k) (by decide) 0 (by simp) (by simp [Back, BackF, fzT, fzM, fzU, fz, fzL, fzO, kin, SubT, Sub, SubL, SubM, SubO, keepM, srcOk, look, lookM, ev, evs, putT, argT, encG, XX, undef]) ?_
  intro k hk
  have hal := gvArr_length (w := w) (l := l) hk
  by_cases c1 : k < l.length
  rotate_left
  · have g1 : decide ((k : Int) < (l.length : Int)) = false := by simp; omega
    obtain rfl : k = l.length := by omega
    have hfin : gvArr w l l.length = (gvk w l l.length).map Bo := by simp [gvArr]
    simp (maxSteps := 1000000) only [hll, g1, hfin, encG, XX, reduceIte, ↓reduceIte, Nat.reduceAdd, Nat.reduceLeDiff, Nat.reduceEqDiff, Nat.reduceLT, Nat.reduceSub, Nat.reduceBEq, forall_const, reduceCtorEq, implies_true, exists_eq_left', exists_eq_left, if_true, if_false, undef]
    rw [List.take_of_length_le (by simp [gvk_length])]
  have g1 : decide ((k : Int) < (l.length : Int)) = true := by simp [c1]
  have hwk : IntKind.i64.wrap ((k : Int) + 1) = ((k + 1 : Nat) : Int) := by rw [wrap_id] <;> omega
  have hok := h k c1
  have hset := gvArr_set (w := w) c1
  have hgat : gAt l k = l[k] := by rw [gAt, List.getElem?_eq_getElem c1]; rfl
  rw [hgat] at hset
  simp (maxSteps := 1000000) only [hll, g1, encG, XX, reduceIte, ↓reduceIte, Nat.reduceAdd, Nat.reduceLeDiff, Nat.reduceEqDiff, Nat.reduceLT, Nat.reduceSub, Nat.reduceBEq, forall_const, reduceCtorEq, implies_true, exists_eq_left', exists_eq_left, if_true, if_false, undef]
  refine ⟨by omega, pickM c1 ?_⟩
  generalize l[k] = g at *
  obtain ⟨kd, a, b⟩ := g
  have hkd := hok.kind
  have hin := hok.input
  have hfi := hok.first
  have hse := hok.second
  simp only at hkd hin hfi hse
  simp (maxSteps := 1000000) only [encG, splice, AV.cells, encG, XX, reduceIte, ↓reduceIte, Nat.reduceAdd, Nat.reduceLeDiff, Nat.reduceEqDiff, Nat.reduceLT, Nat.reduceSub, Nat.reduceBEq, forall_const, reduceCtorEq, implies_true, exists_eq_left', exists_eq_left, if_true, if_false, undef]
  have n12 : ((1 : Int) == 2) = false := by decide
  rcases (by omega : kd = 1 ∨ kd = 2 ∨ kd = 3 ∨ kd = 4) with rfl | rfl | rfl | rfl
  · obtain ⟨p1, p2⟩ := hin rfl
    have e1 : ((1 : Int) == 1) = true := by decide
    have ea : a = ((a.toNat : Nat) : Int) := by omega
    have hb := bit_spec w a.toNat hw (by omega)
    rw [← ea] at hb
    have hv : gev w (gvk w l k) ⟨1, a, b⟩ = w.testBit a.toNat := by simp [gev]
    rw [hv] at hset
    simp (maxSteps := 1000000) only [e1, encG, XX, reduceIte, ↓reduceIte, Nat.reduceAdd, Nat.reduceLeDiff, Nat.reduceEqDiff, Nat.reduceLT, Nat.reduceSub, Nat.reduceBEq, forall_const, reduceCtorEq, implies_true, exists_eq_left', exists_eq_left, if_true, if_false, undef]
    refine callF (CallsA.args (hb) (by simp [encG, XX, undef])) rfl (by simp [flat, encG, XX, undef]) ?_
    simp (maxSteps := 1000000) only [hwk, encG, XX, reduceIte, ↓reduceIte, Nat.reduceAdd, Nat.reduceLeDiff, Nat.reduceEqDiff, Nat.reduceLT, Nat.reduceSub, Nat.reduceBEq, forall_const, reduceCtorEq, implies_true, exists_eq_left', exists_eq_left, if_true, if_false, undef]
    exact ⟨by omega, by omega, by rw [Int.toNat_natCast]; omega, k + 1, by omega, by omega, by simp [Back, BackF, fzT, fzM, fzU, fz, fzL, fzO, kin, SubT, Sub, SubL, SubM, SubO, keepM, srcOk, look, lookM, ev, evs, putT, argT, encG, XX, undef, ← hset, Bo]⟩
  · obtain ⟨p1, p2⟩ := hfi (by omega)
    have e1 : ((2 : Int) == 1) = false := by decide
    have e2 : ((2 : Int) == 2) = true := by decide
    have hga := gvArr_get (w := w) (l := l) (k := k) (i := a.toNat) (by omega)
    have hv : gev w (gvk w l k) ⟨2, a, b⟩ = !((gvk w l k).getD a.toNat false) := by simp [gev]
    rw [hv] at hset
    generalize (gvk w l k).getD a.toNat false = A at *
    simp (maxSteps := 1000000) only [e1, e2, encG, XX, reduceIte, ↓reduceIte, Nat.reduceAdd, Nat.reduceLeDiff, Nat.reduceEqDiff, Nat.reduceLT, Nat.reduceSub, Nat.reduceBEq, forall_const, reduceCtorEq, implies_true, exists_eq_left', exists_eq_left, if_true, if_false, undef]
    refine ⟨by omega, by omega, Pick.mk (Bo A) (by simpa using hga) ?_⟩
    simp (maxSteps := 1000000) only [hwk, Bo, encG, XX, reduceIte, ↓reduceIte, Nat.reduceAdd, Nat.reduceLeDiff, Nat.reduceEqDiff, Nat.reduceLT, Nat.reduceSub, Nat.reduceBEq, forall_const, reduceCtorEq, implies_true, exists_eq_left', exists_eq_left, if_true, if_false, undef]
    exact ⟨by omega, by omega, by rw [Int.toNat_natCast]; omega, k + 1, by omega, by omega, by simp [Back, BackF, fzT, fzM, fzU, fz, fzL, fzO, kin, SubT, Sub, SubL, SubM, SubO, keepM, srcOk, look, lookM, ev, evs, putT, argT, encG, XX, undef, ← hset, Bo]⟩
  · obtain ⟨p1, p2⟩ := hfi (by omega)
    obtain ⟨q1, q2⟩ := hse (by omega)
    have e1 : ((3 : Int) == 1) = false := by decide
    have e2 : ((3 : Int) == 2) = false := by decide
    have e3 : ((3 : Int) == 3) = true := by decide
    have hga := gvArr_get (w := w) (l := l) (k := k) (i := a.toNat) (by omega)
    have hgb := gvArr_get (w := w) (l := l) (k := k) (i := b.toNat) (by omega)
    have hv : gev w (gvk w l k) ⟨3, a, b⟩ = ((gvk w l k).getD a.toNat false && (gvk w l k).getD b.toNat false) := by simp [gev]
    rw [hv] at hset
    generalize (gvk w l k).getD a.toNat false = A at *
    generalize (gvk w l k).getD b.toNat false = B at *
    simp (maxSteps := 1000000) only [e1, e2, e3, encG, XX, reduceIte, ↓reduceIte, Nat.reduceAdd, Nat.reduceLeDiff, Nat.reduceEqDiff, Nat.reduceLT, Nat.reduceSub, Nat.reduceBEq, forall_const, reduceCtorEq, implies_true, exists_eq_left', exists_eq_left, if_true, if_false, undef]
    refine ⟨by omega, by omega, Pick.mk (Bo A) (by simpa using hga) ?_⟩
    cases A with
    | false =>
      simp (maxSteps := 1000000) only [hwk, Bo, encG, XX, reduceIte, ↓reduceIte, Nat.reduceAdd, Nat.reduceLeDiff, Nat.reduceEqDiff, Nat.reduceLT, Nat.reduceSub, Nat.reduceBEq, forall_const, reduceCtorEq, implies_true, exists_eq_left', exists_eq_left, if_true, if_false, undef]
      exact ⟨by omega, by omega, by rw [Int.toNat_natCast]; omega, k + 1, by omega, by omega, by simp [Back, BackF, fzT, fzM, fzU, fz, fzL, fzO, kin, SubT, Sub, SubL, SubM, SubO, keepM, srcOk, look, lookM, ev, evs, putT, argT, encG, XX, undef, ← hset, Bo]⟩
    | true =>
      simp (maxSteps := 1000000) only [Bo, encG, XX, reduceIte, ↓reduceIte, Nat.reduceAdd, Nat.reduceLeDiff, Nat.reduceEqDiff, Nat.reduceLT, Nat.reduceSub, Nat.reduceBEq, forall_const, reduceCtorEq, implies_true, exists_eq_left', exists_eq_left, if_true, if_false, undef]
      refine ⟨by omega, by omega, Pick.mk (Bo B) (by simpa using hgb) ?_⟩
      simp (maxSteps := 1000000) only [hwk, Bo, encG, XX, reduceIte, ↓reduceIte, Nat.reduceAdd, Nat.reduceLeDiff, Nat.reduceEqDiff, Nat.reduceLT, Nat.reduceSub, Nat.reduceBEq, forall_const, reduceCtorEq, implies_true, exists_eq_left', exists_eq_left, if_true, if_false, undef]
      exact ⟨by omega, by omega, by rw [Int.toNat_natCast]; omega, k + 1, by omega, by omega, by simp [Back, BackF, fzT, fzM, fzU, fz, fzL, fzO, kin, SubT, Sub, SubL, SubM, SubO, keepM, srcOk, look, lookM, ev, evs, putT, argT, encG, XX, undef, ← hset, Bo]⟩
  · obtain ⟨p1, p2⟩ := hfi (by omega)
    obtain ⟨q1, q2⟩ := hse (by omega)
    have e1 : ((4 : Int) == 1) = false := by decide
    have e2 : ((4 : Int) == 2) = false := by decide
    have e3 : ((4 : Int) == 3) = false := by decide
    have e4 : ((4 : Int) == 4) = true := by decide
    have hga := gvArr_get (w := w) (l := l) (k := k) (i := a.toNat) (by omega)
    have hgb := gvArr_get (w := w) (l := l) (k := k) (i := b.toNat) (by omega)
    have hv : gev w (gvk w l k) ⟨4, a, b⟩ = ((gvk w l k).getD a.toNat false || (gvk w l k).getD b.toNat false) := by simp [gev]
    rw [hv] at hset
    generalize (gvk w l k).getD a.toNat false = A at *
    generalize (gvk w l k).getD b.toNat false = B at *
    simp (maxSteps := 1000000) only [e1, e2, e3, e4, encG, XX, reduceIte, ↓reduceIte, Nat.reduceAdd, Nat.reduceLeDiff, Nat.reduceEqDiff, Nat.reduceLT, Nat.reduceSub, Nat.reduceBEq, forall_const, reduceCtorEq, implies_true, exists_eq_left', exists_eq_left, if_true, if_false, undef]
    refine ⟨by omega, by omega, Pick.mk (Bo A) (by simpa using hga) ?_⟩
    cases A with
    | true =>
      simp (maxSteps := 1000000) only [hwk, Bo, encG, XX, reduceIte, ↓reduceIte, Nat.reduceAdd, Nat.reduceLeDiff, Nat.reduceEqDiff, Nat.reduceLT, Nat.reduceSub, Nat.reduceBEq, forall_const, reduceCtorEq, implies_true, exists_eq_left', exists_eq_left, if_true, if_false, undef]
      exact ⟨by omega, by omega, by rw [Int.toNat_natCast]; omega, k + 1, by omega, by omega, by simp [Back, BackF, fzT, fzM, fzU, fz, fzL, fzO, kin, SubT, Sub, SubL, SubM, SubO, keepM, srcOk, look, lookM, ev, evs, putT, argT, encG, XX, undef, ← hset, Bo]⟩
    | false =>
      simp (maxSteps := 1000000) only [Bo, encG, XX, reduceIte, ↓reduceIte, Nat.reduceAdd, Nat.reduceLeDiff, Nat.reduceEqDiff, Nat.reduceLT, Nat.reduceSub, Nat.reduceBEq, forall_const, reduceCtorEq, implies_true, exists_eq_left', exists_eq_left, if_true, if_false, undef]
      refine ⟨by omega, by omega, Pick.mk (Bo B) (by simpa using hgb) ?_⟩
      simp (maxSteps := 1000000) only [hwk, Bo, encG, XX, reduceIte, ↓reduceIte, Nat.reduceAdd, Nat.reduceLeDiff, Nat.reduceEqDiff, Nat.reduceLT, Nat.reduceSub, Nat.reduceBEq, forall_const, reduceCtorEq, implies_true, exists_eq_left', exists_eq_left, if_true, if_false, undef]
      exact ⟨by omega, by omega, by rw [Int.toNat_natCast]; omega, k + 1, by omega, by omega, by simp [Back, BackF, fzT, fzM, fzU, fz, fzL, fzO, kin, SubT, Sub, SubL, SubM, SubO, keepM, srcOk, look, lookM, ev, evs, putT, argT, encG, XX, undef, ← hset, Bo]⟩

theorem bits_spec (n w : Nat) (hn : n ≤ 60) (hw : w < 2 ^ 62) : CallsA Try.prog 19 [IN n, IN w] (.ro 1 ((bitsL n w).map Bo)) [] := by
  refine fn_of0 comp19 (by simp) ?_
  unfold code19
  simp (maxSteps := 1000000) only [encG, XX, reduceIte, ↓reduceIte, Nat.reduceAdd, Nat.reduceLeDiff, Nat.reduceEqDiff, Nat.reduceLT, Nat.reduceSub, Nat.reduceBEq, forall_const, reduceCtorEq, implies_true, exists_eq_left', exists_eq_left, if_true, if_false, undef]
  have hbl : ∀ k, (bitsL k w).length = k := fun k => by simp [bitsL]
  have hbs : ∀ k, bitsL (k + 1) w = bitsL k w ++ [w.testBit k] := fun k => by simp [bitsL, List.range_succ]
  refine loopR Nat [6, 5] (fun k => [IN k, .arr 3 0 k]) (fun k => [(3, some (.arr 1 ((bitsL k w).map Bo)))]) 1 (fun k => k ≤ n) (fun k => n - k) (by decide) 0 [none] rfl (by simp) (by simp [Back, BackF, fzT, fzM, fzU, fz, fzL, fzO, kin, SubT, Sub, SubL, SubM, SubO, keepM, srcOk, look, lookM, ev, evs, putT, argT, encG, XX, undef, bitsL]) ?_
  intro k hk
  by_cases c1 : k < n
  rotate_left
  · have g1 : decide ((k : Int) < (n : Int)) = false := by simp; omega
    obtain rfl : k = n := by omega
    simp (maxSteps := 1000000) only [g1, encG, XX, reduceIte, ↓reduceIte, Nat.reduceAdd, Nat.reduceLeDiff, Nat.reduceEqDiff, Nat.reduceLT, Nat.reduceSub, Nat.reduceBEq, forall_const, reduceCtorEq, implies_true, exists_eq_left', exists_eq_left, if_true, if_false, undef]
    rw [List.take_of_length_le (by simp [hbl])]
  have g1 : decide ((k : Int) < (n : Int)) = true := by simp [c1]
  have hwk : IntKind.i64.wrap ((k : Int) + 1) = ((k + 1 : Nat) : Int) := by rw [wrap_id] <;> omega
  simp (maxSteps := 1000000) only [g1, encG, XX, reduceIte, ↓reduceIte, Nat.reduceAdd, Nat.reduceLeDiff, Nat.reduceEqDiff, Nat.reduceLT, Nat.reduceSub, Nat.reduceBEq, forall_const, reduceCtorEq, implies_true, exists_eq_left', exists_eq_left, if_true, if_false, undef]
  refine callF (CallsA.args (bit_spec w k hw (by omega)) (by simp [encG, XX, undef])) rfl (by simp [flat, encG, XX, undef]) ?_
  simp (maxSteps := 1000000) only [List.length_map, hbl, hwk, encG, XX, reduceIte, ↓reduceIte, Nat.reduceAdd, Nat.reduceLeDiff, Nat.reduceEqDiff, Nat.reduceLT, Nat.reduceSub, Nat.reduceBEq, forall_const, reduceCtorEq, implies_true, exists_eq_left', exists_eq_left, if_true, if_false, undef]
  exact ⟨by omega, k + 1, [some 12], rfl, by omega, by omega, by rw [hbs]; simp [Back, BackF, fzT, fzM, fzU, fz, fzL, fzO, kin, SubT, Sub, SubL, SubM, SubO, keepM, srcOk, look, lookM, ev, evs, putT, argT, encG, XX, reduceIte, ↓reduceIte, Nat.reduceAdd, Nat.reduceLeDiff, Nat.reduceEqDiff, Nat.reduceLT, Nat.reduceSub, Nat.reduceBEq, forall_const, reduceCtorEq, implies_true, exists_eq_left', exists_eq_left, if_true, if_false, undef, Bo]⟩

end Go.Av
