/- For any instructions, any one of them and any counters: two counters do what it does; for all arguments, the listed variable holding what the program's text lays. -/
import Derived.Test.YtanmgfcgoffahaaDoorTwoH
import Derived.Test.YtanmgfcgoffahaaDoorLaid
import Derived.Test.YtanmgfcgoffahaaDoorCards
import Derived.Test.YtanmgfcgoffahaaDoorTie
set_option linter.unusedSimpArgs false
set_option linter.unusedVariables false
set_option maxRecDepth 100000
namespace Go.Av
open Go.Proofs

theorem bgs_inj {l : List Ord} {i j : Nat} (h : j < i) (hi : i ≤ l.length) : ((psn l i : Int) == (psn l j : Int)) = false := by
  have := psn_lt (l := l) h hi
  simp; omega

theorem sts_get {l : List Ord} {i : Nat} (h : i ≤ l.length) : (sts l)[i]? = some (psn l i : Int) := by
  rw [sts_eq, List.getElem?_map, bgs_get h]; rfl
theorem sts_mem {l : List Ord} {q : Nat} : (q : Int) ∈ sts l ↔ q ∈ bgs l := by
  rw [sts_eq, List.mem_map]
  constructor
  · rintro ⟨a, h1, h2⟩
    have : a = q := Int.ofNat.inj h2
    subst this; exact h1
  · intro h; exact ⟨q, h, rfl⟩
theorem sts_inside (l : List Ord) : ((sts l).all fun i => decide (0 ≤ i ∧ i < ((bldCode l).length : Int) + 1)) = true := by
  rw [List.all_eq_true]
  intro x hx
  rw [sts_eq, List.mem_map] at hx
  obtain ⟨a, h1, rfl⟩ := hx
  simp only [bgs, List.mem_map, List.mem_range] at h1
  obtain ⟨k, hk, rfl⟩ := h1
  have := psn_le (l := l) (show k ≤ l.length by omega) (Nat.le_refl _)
  have := code_length l
  simp; omega

theorem stp_at {code : List Ord} {s s' : St} (h : Stp code s s') : ∃ o, code[s.1]? = some o ∧ estep o [(s.2.1 : Int), (s.2.2 : Int)] = ([(s'.2.1 : Int), (s'.2.2 : Int)], (s'.1 : Int)) ∧ s'.2.1 ≤ s.2.1 + 1 ∧ s'.2.2 ≤ s.2.2 + 1 := by
  cases h with
  | more0 h => exact ⟨_, h, by simp [estep, mo, cAt], by simp, by simp⟩
  | more1 h => exact ⟨_, h, by simp [estep, mo, cAt], by simp, by simp⟩
  | less0 h => exact ⟨_, h, by simp [estep, le, cAt], by simp; omega, by simp⟩
  | less1 h => exact ⟨_, h, by simp [estep, le, cAt], by simp, by simp; omega⟩
  | zero0 h => exact ⟨_, h, by simp [estep, le, cAt], by simp, by simp⟩
  | zero1 h => exact ⟨_, h, by simp [estep, le, cAt], by simp, by simp⟩

theorem pickB {a b v : Int} {i j : Nat} {K : AV → Prop} (h : [a, b][i]? = some v) (hj : j = i) (hK : K (I v)) : Pick [I a, I b] j K := by
  refine ⟨I v, ?_, hK⟩
  show (List.map I [a, b])[j]? = some (I v)
  rw [List.getElem?_map, hj, h]; rfl
theorem setB {a b v a' b' : Int} {i : Nat} (h : [a, b].set i v = [a', b']) : [I a, I b].set i (I v) = [I a', I b'] := by
  have := congrArg (List.map I) h
  rwa [List.map_set] at this

theorem rch_pos {code : List Ord} {B : List Nat} {e s : St} {n : Nat} (h : Rch code B e n s) : 1 ≤ n ∧ ∃ s', Stp code s s' ∧ ((Stop B s' ∧ s' = e) ∨ (¬ Stop B s' ∧ Rch code B e (n - 1) s')) := by
  cases h with
  | last h hs => exact ⟨Nat.le_refl _, _, h, .inl ⟨hs, rfl⟩⟩
  | cons h hs r => exact ⟨by omega, _, h, .inr ⟨hs, by simpa using r⟩⟩

set_option maxHeartbeats 4000000 in
theorem twoBuilds_spec (counters at_ : Int) (l : List Ord) (c : List Int) (hl : (l.length : Int) < 2 ^ 63) (hc : (c.length : Int) < 2 ^ 63) (ha : 0 ≤ at_ ∧ at_ ≤ 255) :
    CallsA Tryd.prog 5 [I counters, .ro 4 (l.map encO), .v (.int .u8 at_), .ro 1 (c.map I)] (Bo true) [] := by
  refine fn_of0 comp5 (by simp) ?_
  unfold code5
  simp (maxSteps := 1000000) only [encO, EA, EB, EC, ED, EE, EF, EG, XA, XB, XC, XD, XE, XF, XG, XH, XI, XJ, XK, XL, reduceIte, ↓reduceIte, Nat.reduceAdd, Nat.reduceLeDiff, Nat.reduceEqDiff, Nat.reduceLT, Nat.reduceSub, Nat.reduceBEq, forall_const, reduceCtorEq, implies_true, exists_eq_left', exists_eq_left, if_true, if_false, undef]
  refine callA (CallsA.args (build_spec counters l hl) (by simp [encO, EA, EB, EC, ED, EE, EF, EG, XA, XB, XC, XD, XE, XF, XG, XH, XI, XJ, XK, XL, reduceIte, ↓reduceIte, Nat.reduceAdd, Nat.reduceLeDiff, Nat.reduceEqDiff, Nat.reduceLT, Nat.reduceSub, Nat.reduceBEq, forall_const, reduceCtorEq, implies_true, exists_eq_left', exists_eq_left, if_true, if_false, undef])) rfl ?_
  by_cases h0 : countErr counters l = 0
  · obtain ⟨hcn, hln, hord⟩ := countErr_ok h0
    have hcl := code_length l
    have hsz := (bld_size l).1
    rw [(bld_psn l).1] at hsz
    have hbl : (sts l).length = l.length + 1 := by rw [sts_eq]; simp [bgs]
    have hML : (((bldCode l).map encO).length : Int) = (bldCode l).length := by simp
    have hSL : (((sts l).map I).length : Int) = (l.length : Int) + 1 := by simp [hbl]
    have hll : ((l.map encO).length : Int) = l.length := by simp
    have e1 : ((0 : Int) != 0) = false := by decide
    have w1 : IntKind.i64.wrap ((l.length : Int) + 1) = (l.length : Int) + 1 := by rw [wrap_id] <;> omega
    have w2 : IntKind.i64.wrap (((bldCode l).length : Int) + 1) = ((bldCode l).length : Int) + 1 := by rw [wrap_id] <;> omega
    have e2 : (((l.length : Int) + 1) != ((l.length : Int) + 1)) = false := by simp
    have e3 : (((bldCode l).length : Int) != ((bldCode l).length : Int)) = false := by simp
    simp (maxSteps := 1000000) only [buildAns, h0, if_true, encO, EA, EB, EC, ED, EE, EF, EG, XA, XB, XC, XD, XE, XF, XG, XH, XI, XJ, XK, XL, reduceIte, ↓reduceIte, Nat.reduceAdd, Nat.reduceLeDiff, Nat.reduceEqDiff, Nat.reduceLT, Nat.reduceSub, Nat.reduceBEq, forall_const, reduceCtorEq, implies_true, exists_eq_left', exists_eq_left, if_true, if_false, undef]
    refine callF (CallsA.args (countCheck_spec counters l hl) (by simp [encO, EA, EB, EC, ED, EE, EF, EG, XA, XB, XC, XD, XE, XF, XG, XH, XI, XJ, XK, XL, reduceIte, ↓reduceIte, Nat.reduceAdd, Nat.reduceLeDiff, Nat.reduceEqDiff, Nat.reduceLT, Nat.reduceSub, Nat.reduceBEq, forall_const, reduceCtorEq, implies_true, exists_eq_left', exists_eq_left, if_true, if_false, undef])) rfl (by simp [flat, encO, EA, EB, EC, ED, EE, EF, EG, XA, XB, XC, XD, XE, XF, XG, XH, XI, XJ, XK, XL, reduceIte, ↓reduceIte, Nat.reduceAdd, Nat.reduceLeDiff, Nat.reduceEqDiff, Nat.reduceLT, Nat.reduceSub, Nat.reduceBEq, forall_const, reduceCtorEq, implies_true, exists_eq_left', exists_eq_left, if_true, if_false, undef]) ?_
    simp (maxSteps := 1000000) only [h0, e1, encO, EA, EB, EC, ED, EE, EF, EG, XA, XB, XC, XD, XE, XF, XG, XH, XI, XJ, XK, XL, reduceIte, ↓reduceIte, Nat.reduceAdd, Nat.reduceLeDiff, Nat.reduceEqDiff, Nat.reduceLT, Nat.reduceSub, Nat.reduceBEq, forall_const, reduceCtorEq, implies_true, exists_eq_left', exists_eq_left, if_true, if_false, undef]
    refine callF (CallsA.args (ordersCheck_spec 2 (bldCode l) (by omega)) (by simp [encO, EA, EB, EC, ED, EE, EF, EG, XA, XB, XC, XD, XE, XF, XG, XH, XI, XJ, XK, XL, reduceIte, ↓reduceIte, Nat.reduceAdd, Nat.reduceLeDiff, Nat.reduceEqDiff, Nat.reduceLT, Nat.reduceSub, Nat.reduceBEq, forall_const, reduceCtorEq, implies_true, exists_eq_left', exists_eq_left, if_true, if_false, undef])) rfl (by simp [flat, encO, EA, EB, EC, ED, EE, EF, EG, XA, XB, XC, XD, XE, XF, XG, XH, XI, XJ, XK, XL, reduceIte, ↓reduceIte, Nat.reduceAdd, Nat.reduceLeDiff, Nat.reduceEqDiff, Nat.reduceLT, Nat.reduceSub, Nat.reduceBEq, forall_const, reduceCtorEq, implies_true, exists_eq_left', exists_eq_left, if_true, if_false, undef]) ?_
    have hce := code_err hord
    simp (maxSteps := 1000000) only [hce, e1, hSL, hll, w1, e2, encO, EA, EB, EC, ED, EE, EF, EG, XA, XB, XC, XD, XE, XF, XG, XH, XI, XJ, XK, XL, reduceIte, ↓reduceIte, Nat.reduceAdd, Nat.reduceLeDiff, Nat.reduceEqDiff, Nat.reduceLT, Nat.reduceSub, Nat.reduceBEq, forall_const, reduceCtorEq, implies_true, exists_eq_left', exists_eq_left, if_true, if_false, undef]
    refine ⟨by omega, pickA (x := ((bldCode l).length : Int)) (by rw [sts_eq, List.getElem?_map, Int.toNat_natCast, bgs_get (Nat.le_refl _), hcl]; rfl) ?_⟩
    simp (maxSteps := 1000000) only [hML, w2, e3, encO, EA, EB, EC, ED, EE, EF, EG, XA, XB, XC, XD, XE, XF, XG, XH, XI, XJ, XK, XL, reduceIte, ↓reduceIte, Nat.reduceAdd, Nat.reduceLeDiff, Nat.reduceEqDiff, Nat.reduceLT, Nat.reduceSub, Nat.reduceBEq, forall_const, reduceCtorEq, implies_true, exists_eq_left', exists_eq_left, if_true, if_false, undef]
    refine callF (CallsA.args (inside_spec (((bldCode l).length : Int) + 1) (sts l) (by omega) ) (by simp [ hML, w2,encO, EA, EB, EC, ED, EE, EF, EG, XA, XB, XC, XD, XE, XF, XG, XH, XI, XJ, XK, XL, reduceIte, ↓reduceIte, Nat.reduceAdd, Nat.reduceLeDiff, Nat.reduceEqDiff, Nat.reduceLT, Nat.reduceSub, Nat.reduceBEq, forall_const, reduceCtorEq, implies_true, exists_eq_left', exists_eq_left, if_true, if_false, undef])) rfl (by simp [flat, encO, EA, EB, EC, ED, EE, EF, EG, XA, XB, XC, XD, XE, XF, XG, XH, XI, XJ, XK, XL, reduceIte, ↓reduceIte, Nat.reduceAdd, Nat.reduceLeDiff, Nat.reduceEqDiff, Nat.reduceLT, Nat.reduceSub, Nat.reduceBEq, forall_const, reduceCtorEq, implies_true, exists_eq_left', exists_eq_left, if_true, if_false, undef]) ?_
    have hin := sts_inside l
    simp (maxSteps := 1000000) only [hin, encO, EA, EB, EC, ED, EE, EF, EG, XA, XB, XC, XD, XE, XF, XG, XH, XI, XJ, XK, XL, reduceIte, ↓reduceIte, Nat.reduceAdd, Nat.reduceLeDiff, Nat.reduceEqDiff, Nat.reduceLT, Nat.reduceSub, Nat.reduceBEq, forall_const, reduceCtorEq, implies_true, exists_eq_left', exists_eq_left, if_true, if_false, undef]
    refine loop0 Nat [13] (fun i => [I i]) (fun i => i ≤ l.length + 1) (fun i => l.length + 1 - i) (by decide) 0 (by simp) (by simp [Back, SubT, Sub, SubL, SubM, SubO, keepM, srcOk, look, lookM, ev, evs, putT, argT, encO, EA, EB, EC, ED, EE, EF, EG, XA, XB, XC, XD, XE, XF, XG, XH, XI, XJ, XK, XL, reduceIte, ↓reduceIte, Nat.reduceAdd, Nat.reduceLeDiff, Nat.reduceEqDiff, Nat.reduceLT, Nat.reduceSub, Nat.reduceBEq, forall_const, reduceCtorEq, implies_true, exists_eq_left', exists_eq_left, if_true, if_false, undef]) (fun i hi => ?_)
    by_cases h1 : i < l.length + 1
    · have f1 : decide ((i : Int) < (l.length : Int) + 1) = true := by simp; omega
      have v1 : IntKind.i64.wrap ((i : Int) + 1) = ((i + 1 : Nat) : Int) := by rw [wrap_id] <;> omega
      simp (maxSteps := 1000000) only [f1, hSL, encO, EA, EB, EC, ED, EE, EF, EG, XA, XB, XC, XD, XE, XF, XG, XH, XI, XJ, XK, XL, reduceIte, ↓reduceIte, Nat.reduceAdd, Nat.reduceLeDiff, Nat.reduceEqDiff, Nat.reduceLT, Nat.reduceSub, Nat.reduceBEq, forall_const, reduceCtorEq, implies_true, exists_eq_left', exists_eq_left, if_true, if_false, undef]
      refine loop0 Nat [14] (fun j => [I j]) (fun j => j ≤ i) (fun j => i - j) (by decide) 0 (by simp) (by simp [Back, SubT, Sub, SubL, SubM, SubO, keepM, srcOk, look, lookM, ev, evs, putT, argT, encO, EA, EB, EC, ED, EE, EF, EG, XA, XB, XC, XD, XE, XF, XG, XH, XI, XJ, XK, XL, reduceIte, ↓reduceIte, Nat.reduceAdd, Nat.reduceLeDiff, Nat.reduceEqDiff, Nat.reduceLT, Nat.reduceSub, Nat.reduceBEq, forall_const, reduceCtorEq, implies_true, exists_eq_left', exists_eq_left, if_true, if_false, undef]) (fun j hj => ?_)
      by_cases h2 : j < i
      · have f2 : decide ((j : Int) < (i : Int)) = true := by simp [h2]
        have v2 : IntKind.i64.wrap ((j : Int) + 1) = ((j + 1 : Nat) : Int) := by rw [wrap_id] <;> omega
        have f3 := bgs_inj (l := l) h2 (by omega)
        simp (maxSteps := 1000000) only [f2, encO, EA, EB, EC, ED, EE, EF, EG, XA, XB, XC, XD, XE, XF, XG, XH, XI, XJ, XK, XL, reduceIte, ↓reduceIte, Nat.reduceAdd, Nat.reduceLeDiff, Nat.reduceEqDiff, Nat.reduceLT, Nat.reduceSub, Nat.reduceBEq, forall_const, reduceCtorEq, implies_true, exists_eq_left', exists_eq_left, if_true, if_false, undef]
        refine ⟨by omega, pickA (by rw [Int.toNat_natCast]; exact sts_get (by omega)) ?_⟩
        simp (maxSteps := 1000000) only [encO, EA, EB, EC, ED, EE, EF, EG, XA, XB, XC, XD, XE, XF, XG, XH, XI, XJ, XK, XL, reduceIte, ↓reduceIte, Nat.reduceAdd, Nat.reduceLeDiff, Nat.reduceEqDiff, Nat.reduceLT, Nat.reduceSub, Nat.reduceBEq, forall_const, reduceCtorEq, implies_true, exists_eq_left', exists_eq_left, if_true, if_false, undef]
        refine ⟨by omega, pickA (by rw [Int.toNat_natCast]; exact sts_get (by omega)) ?_⟩
        simp (maxSteps := 1000000) only [f3, v2, encO, EA, EB, EC, ED, EE, EF, EG, XA, XB, XC, XD, XE, XF, XG, XH, XI, XJ, XK, XL, reduceIte, ↓reduceIte, Nat.reduceAdd, Nat.reduceLeDiff, Nat.reduceEqDiff, Nat.reduceLT, Nat.reduceSub, Nat.reduceBEq, forall_const, reduceCtorEq, implies_true, exists_eq_left', exists_eq_left, if_true, if_false, undef]
        exact ⟨j + 1, by omega, by omega, by simp [Back, SubT, Sub, SubL, SubM, SubO, keepM, srcOk, look, lookM, ev, evs, putT, argT, encO, EA, EB, EC, ED, EE, EF, EG, XA, XB, XC, XD, XE, XF, XG, XH, XI, XJ, XK, XL, reduceIte, ↓reduceIte, Nat.reduceAdd, Nat.reduceLeDiff, Nat.reduceEqDiff, Nat.reduceLT, Nat.reduceSub, Nat.reduceBEq, forall_const, reduceCtorEq, implies_true, exists_eq_left', exists_eq_left, if_true, if_false, undef]⟩
      · have f2 : decide ((j : Int) < (i : Int)) = false := by simp [h2]
        simp (maxSteps := 1000000) only [f2, v1, encO, EA, EB, EC, ED, EE, EF, EG, XA, XB, XC, XD, XE, XF, XG, XH, XI, XJ, XK, XL, reduceIte, ↓reduceIte, Nat.reduceAdd, Nat.reduceLeDiff, Nat.reduceEqDiff, Nat.reduceLT, Nat.reduceSub, Nat.reduceBEq, forall_const, reduceCtorEq, implies_true, exists_eq_left', exists_eq_left, if_true, if_false, undef]
        exact ⟨i + 1, by omega, by omega, by simp [Back, SubT, Sub, SubL, SubM, SubO, keepM, srcOk, look, lookM, ev, evs, putT, argT, encO, EA, EB, EC, ED, EE, EF, EG, XA, XB, XC, XD, XE, XF, XG, XH, XI, XJ, XK, XL, reduceIte, ↓reduceIte, Nat.reduceAdd, Nat.reduceLeDiff, Nat.reduceEqDiff, Nat.reduceLT, Nat.reduceSub, Nat.reduceBEq, forall_const, reduceCtorEq, implies_true, exists_eq_left', exists_eq_left, if_true, if_false, undef]⟩
    · have f1 : decide ((i : Int) < (l.length : Int) + 1) = false := by simp; omega
      have hcll : ((c.map I).length : Int) = c.length := by simp
      simp (maxSteps := 1000000) only [f1, hSL, hcll, encO, EA, EB, EC, ED, EE, EF, EG, XA, XB, XC, XD, XE, XF, XG, XH, XI, XJ, XK, XL, reduceIte, ↓reduceIte, Nat.reduceAdd, Nat.reduceLeDiff, Nat.reduceEqDiff, Nat.reduceLT, Nat.reduceSub, Nat.reduceBEq, forall_const, reduceCtorEq, implies_true, exists_eq_left', exists_eq_left, if_true, if_false, undef]
      by_cases g1 : (c.length : Int) = counters
      · have f4 : ((c.length : Int) != counters) = false := by simp [g1]
        simp (maxSteps := 1000000) only [f4, encO, EA, EB, EC, ED, EE, EF, EG, XA, XB, XC, XD, XE, XF, XG, XH, XI, XJ, XK, XL, reduceIte, ↓reduceIte, Nat.reduceAdd, Nat.reduceLeDiff, Nat.reduceEqDiff, Nat.reduceLT, Nat.reduceSub, Nat.reduceBEq, forall_const, reduceCtorEq, implies_true, exists_eq_left', exists_eq_left, if_true, if_false, undef]
        refine loop0 Nat [108] (fun k => [I k]) (fun k => k ≤ c.length ∧ ∀ x ∈ c.take k, 0 ≤ x ∧ x ≤ 2) (fun k => c.length - k) (by decide) 0 (by simp) (by simp [Back, SubT, Sub, SubL, SubM, SubO, keepM, srcOk, look, lookM, ev, evs, putT, argT, encO, EA, EB, EC, ED, EE, EF, EG, XA, XB, XC, XD, XE, XF, XG, XH, XI, XJ, XK, XL, reduceIte, ↓reduceIte, Nat.reduceAdd, Nat.reduceLeDiff, Nat.reduceEqDiff, Nat.reduceLT, Nat.reduceSub, Nat.reduceBEq, forall_const, reduceCtorEq, implies_true, exists_eq_left', exists_eq_left, if_true, if_false, undef]) (fun k hk => ?_)
        obtain ⟨hk, hkE⟩ := hk
        by_cases h3 : k < c.length
        · have f5 : decide ((k : Int) < (c.length : Int)) = true := by simp [h3]
          have v3 : IntKind.i64.wrap ((k : Int) + 1) = ((k + 1 : Nat) : Int) := by rw [wrap_id] <;> omega
          simp (maxSteps := 1000000) only [f5, hcll, encO, EA, EB, EC, ED, EE, EF, EG, XA, XB, XC, XD, XE, XF, XG, XH, XI, XJ, XK, XL, reduceIte, ↓reduceIte, Nat.reduceAdd, Nat.reduceLeDiff, Nat.reduceEqDiff, Nat.reduceLT, Nat.reduceSub, Nat.reduceBEq, forall_const, reduceCtorEq, implies_true, exists_eq_left', exists_eq_left, if_true, if_false, undef]
          refine ⟨by omega, pickM h3 ?_⟩
          simp (maxSteps := 1000000) only [encO, EA, EB, EC, ED, EE, EF, EG, XA, XB, XC, XD, XE, XF, XG, XH, XI, XJ, XK, XL, reduceIte, ↓reduceIte, Nat.reduceAdd, Nat.reduceLeDiff, Nat.reduceEqDiff, Nat.reduceLT, Nat.reduceSub, Nat.reduceBEq, forall_const, reduceCtorEq, implies_true, exists_eq_left', exists_eq_left, if_true, if_false, undef]
          refine callF (CallsA.args (within_spec 0 c[k] 2) (by simp [encO, EA, EB, EC, ED, EE, EF, EG, XA, XB, XC, XD, XE, XF, XG, XH, XI, XJ, XK, XL, reduceIte, ↓reduceIte, Nat.reduceAdd, Nat.reduceLeDiff, Nat.reduceEqDiff, Nat.reduceLT, Nat.reduceSub, Nat.reduceBEq, forall_const, reduceCtorEq, implies_true, exists_eq_left', exists_eq_left, if_true, if_false, undef])) rfl (by simp [flat, encO, EA, EB, EC, ED, EE, EF, EG, XA, XB, XC, XD, XE, XF, XG, XH, XI, XJ, XK, XL, reduceIte, ↓reduceIte, Nat.reduceAdd, Nat.reduceLeDiff, Nat.reduceEqDiff, Nat.reduceLT, Nat.reduceSub, Nat.reduceBEq, forall_const, reduceCtorEq, implies_true, exists_eq_left', exists_eq_left, if_true, if_false, undef]) ?_
          by_cases h4 : 0 ≤ c[k] ∧ c[k] ≤ 2
          · have f6 : decide (0 ≤ c[k] ∧ c[k] ≤ 2) = true := by simp [h4]
            simp (maxSteps := 1000000) only [f6, v3, encO, EA, EB, EC, ED, EE, EF, EG, XA, XB, XC, XD, XE, XF, XG, XH, XI, XJ, XK, XL, reduceIte, ↓reduceIte, Nat.reduceAdd, Nat.reduceLeDiff, Nat.reduceEqDiff, Nat.reduceLT, Nat.reduceSub, Nat.reduceBEq, forall_const, reduceCtorEq, implies_true, exists_eq_left', exists_eq_left, if_true, if_false, undef]
            refine ⟨k + 1, ⟨by omega, fun x hx => ?_⟩, by omega, by simp [Back, SubT, Sub, SubL, SubM, SubO, keepM, srcOk, look, lookM, ev, evs, putT, argT, encO, EA, EB, EC, ED, EE, EF, EG, XA, XB, XC, XD, XE, XF, XG, XH, XI, XJ, XK, XL, reduceIte, ↓reduceIte, Nat.reduceAdd, Nat.reduceLeDiff, Nat.reduceEqDiff, Nat.reduceLT, Nat.reduceSub, Nat.reduceBEq, forall_const, reduceCtorEq, implies_true, exists_eq_left', exists_eq_left, if_true, if_false, undef]⟩
            rw [List.take_add_one, List.getElem?_eq_getElem h3] at hx
            rcases List.mem_append.1 hx with hx | hx
            · exact hkE x hx
            · simp at hx; rw [hx]; exact h4
          · have f6 : decide (0 ≤ c[k] ∧ c[k] ≤ 2) = false := by simp [h4]
            simp (maxSteps := 1000000) only [f6, encO, EA, EB, EC, ED, EE, EF, EG, XA, XB, XC, XD, XE, XF, XG, XH, XI, XJ, XK, XL, reduceIte, ↓reduceIte, Nat.reduceAdd, Nat.reduceLeDiff, Nat.reduceEqDiff, Nat.reduceLT, Nat.reduceSub, Nat.reduceBEq, forall_const, reduceCtorEq, implies_true, exists_eq_left', exists_eq_left, if_true, if_false, undef]
        · have f5 : decide ((k : Int) < (c.length : Int)) = false := by simp [h3]
          have hkc : k = c.length := by omega
          subst hkc
          rw [List.take_length] at hkE
          have v4 : IntKind.i64.wrap at_ = at_ := by rw [wrap_id] <;> omega
          have hidx : ((at_.toNat % l.length : Nat) : Int) = Int.tmod at_ (l.length : Int) := by
            have : at_ = (at_.toNat : Int) := by omega
            rw [this, tmod_nat]; simp
          obtain ⟨x, hx⟩ : ∃ x, x = at_.toNat % l.length := ⟨_, rfl⟩
          rw [← hx] at hidx
          have hxl : x < l.length := by rw [hx]; exact Nat.mod_lt _ (by omega)
          have hox := hord l[x] (List.getElem_mem hxl)
          have hEb : ∀ y ∈ c, 0 ≤ y ∧ y ≤ 1000000 := fun y hy => by have := hkE y hy; omega
          simp (maxSteps := 1000000) only [f5, hcll, v4, hll, encO, EA, EB, EC, ED, EE, EF, EG, XA, XB, XC, XD, XE, XF, XG, XH, XI, XJ, XK, XL, reduceIte, ↓reduceIte, Nat.reduceAdd, Nat.reduceLeDiff, Nat.reduceEqDiff, Nat.reduceLT, Nat.reduceSub, Nat.reduceBEq, forall_const, reduceCtorEq, implies_true, exists_eq_left', exists_eq_left, if_true, if_false, undef]
          refine ⟨by omega, ?_⟩
          simp (maxSteps := 1000000) only [encO, EA, EB, EC, ED, EE, EF, EG, XA, XB, XC, XD, XE, XF, XG, XH, XI, XJ, XK, XL, reduceIte, ↓reduceIte, Nat.reduceAdd, Nat.reduceLeDiff, Nat.reduceEqDiff, Nat.reduceLT, Nat.reduceSub, Nat.reduceBEq, forall_const, reduceCtorEq, implies_true, exists_eq_left', exists_eq_left, if_true, if_false, undef]
          rw [← hidx]
          refine ⟨by omega, pickM hxl ?_⟩
          simp (maxSteps := 1000000) only [encO, encO, EA, EB, EC, ED, EE, EF, EG, XA, XB, XC, XD, XE, XF, XG, XH, XI, XJ, XK, XL, reduceIte, ↓reduceIte, Nat.reduceAdd, Nat.reduceLeDiff, Nat.reduceEqDiff, Nat.reduceLT, Nat.reduceSub, Nat.reduceBEq, forall_const, reduceCtorEq, implies_true, exists_eq_left', exists_eq_left, if_true, if_false, undef]
          refine callA (CallsA.args (oneOrder_spec counters.toNat l.length l[x] c hox (by omega) (by omega) hEb ) (by simp [ encO,encO, EA, EB, EC, ED, EE, EF, EG, XA, XB, XC, XD, XE, XF, XG, XH, XI, XJ, XK, XL, reduceIte, ↓reduceIte, Nat.reduceAdd, Nat.reduceLeDiff, Nat.reduceEqDiff, Nat.reduceLT, Nat.reduceSub, Nat.reduceBEq, forall_const, reduceCtorEq, implies_true, exists_eq_left', exists_eq_left, if_true, if_false, undef])) rfl ?_
          have hp2 := packed2 (c := c) hkE
          simp (maxSteps := 1000000) only [encO, EA, EB, EC, ED, EE, EF, EG, XA, XB, XC, XD, XE, XF, XG, XH, XI, XJ, XK, XL, reduceIte, ↓reduceIte, Nat.reduceAdd, Nat.reduceLeDiff, Nat.reduceEqDiff, Nat.reduceLT, Nat.reduceSub, Nat.reduceBEq, forall_const, reduceCtorEq, implies_true, exists_eq_left', exists_eq_left, if_true, if_false, undef]
          refine callF (CallsA.args (packed_spec c (by omega) (by omega)) (by simp [encO, EA, EB, EC, ED, EE, EF, EG, XA, XB, XC, XD, XE, XF, XG, XH, XI, XJ, XK, XL, reduceIte, ↓reduceIte, Nat.reduceAdd, Nat.reduceLeDiff, Nat.reduceEqDiff, Nat.reduceLT, Nat.reduceSub, Nat.reduceBEq, forall_const, reduceCtorEq, implies_true, exists_eq_left', exists_eq_left, if_true, if_false, undef])) rfl (by simp [flat, encO, EA, EB, EC, ED, EE, EF, EG, XA, XB, XC, XD, XE, XF, XG, XH, XI, XJ, XK, XL, reduceIte, ↓reduceIte, Nat.reduceAdd, Nat.reduceLeDiff, Nat.reduceEqDiff, Nat.reduceLT, Nat.reduceSub, Nat.reduceBEq, forall_const, reduceCtorEq, implies_true, exists_eq_left', exists_eq_left, if_true, if_false, undef]) ?_
          simp (maxSteps := 1000000) only [encO, EA, EB, EC, ED, EE, EF, EG, XA, XB, XC, XD, XE, XF, XG, XH, XI, XJ, XK, XL, reduceIte, ↓reduceIte, Nat.reduceAdd, Nat.reduceLeDiff, Nat.reduceEqDiff, Nat.reduceLT, Nat.reduceSub, Nat.reduceBEq, forall_const, reduceCtorEq, implies_true, exists_eq_left', exists_eq_left, if_true, if_false, undef]
          refine ⟨by omega, pickA (by rw [Int.toNat_natCast]; exact sts_get (by omega)) ?_⟩
          simp (maxSteps := 1000000) only [encO, EA, EB, EC, ED, EE, EF, EG, XA, XB, XC, XD, XE, XF, XG, XH, XI, XJ, XK, XL, reduceIte, ↓reduceIte, Nat.reduceAdd, Nat.reduceLeDiff, Nat.reduceEqDiff, Nat.reduceLT, Nat.reduceSub, Nat.reduceBEq, forall_const, reduceCtorEq, implies_true, exists_eq_left', exists_eq_left, if_true, if_false, undef]
          obtain ⟨K, hK, hR⟩ := sim (by omega) hord hxl (c := c) (by omega) (fun y hy => (hkE y hy).1)
          have hto : 0 ≤ (estep l[x] c).2 ∧ (estep l[x] c).2 ≤ l.length := by
            have h7 := hox.next
            unfold estep
            split
            · exact h7
            · split
              · exact h7
              · exact hox.zero (by rcases hox.kind with h | h <;> omega)
          have hwant : packed (estep l[x] c).1 ≤ 9261000 ∧ (estep l[x] c).1.length = c.length := by
            refine ⟨packed3 (fun y hy => ?_), ?_⟩
            · have hcc : 0 ≤ cAt c l[x].counter ∧ cAt c l[x].counter ≤ 2 := by
                unfold cAt
                cases hcx : c[l[x].counter.toNat]? with
                | none => simp
                | some w => simpa using hkE w (List.mem_of_getElem? hcx)
              unfold estep at hy
              split at hy
              · rcases List.mem_or_eq_of_mem_set hy with hy | rfl
                · have := hkE y hy; omega
                · omega
              · split at hy
                · rcases List.mem_or_eq_of_mem_set hy with hy | rfl
                  · have := hkE y hy; omega
                  · omega
                · have := hkE y hy; omega
            · unfold estep
              split
              · simp
              · split <;> simp
          have u1 : IntKind.i64.wrap (100 * (packed c : Int)) = 100 * (packed c : Int) := by rw [wrap_id] <;> omega
          have u2 : IntKind.i64.wrap (100 * (packed c : Int) + 100) = 100 * (packed c : Int) + 100 := by rw [wrap_id] <;> omega
          refine loopO (Nat × Nat × St) [22, 21] (fun q => [I (q.1 : Nat), I (q.2.2.1 : Nat)]) (fun q => [(82, some (.arr 1 ([(q.2.2.2.1 : Int), (q.2.2.2.2 : Int)].map I)))])
            (fun q => Rch (bldCode l) (bgs l) (psn l (estep l[x] c).2.toNat, packed (estep l[x] c).1, 0) q.2.1 q.2.2 ∧ q.1 + q.2.1 ≤ 100 * packed c + 100 ∧ q.2.2.2.1 ≤ packed c + q.1 ∧ q.2.2.2.2 ≤ q.1)
            (fun q => q.2.1) (by decide) (0, K, psn l x, packed c, 0) ⟨hR, by simp only; omega, by simp, by simp⟩ (by simp [Back, SubT, Sub, SubL, SubM, SubO, keepM, srcOk, look, lookM, ev, evs, putT, argT, encO, EA, EB, EC, ED, EE, EF, EG, XA, XB, XC, XD, XE, XF, XG, XH, XI, XJ, XK, XL, reduceIte, ↓reduceIte, Nat.reduceAdd, Nat.reduceLeDiff, Nat.reduceEqDiff, Nat.reduceLT, Nat.reduceSub, Nat.reduceBEq, forall_const, reduceCtorEq, implies_true, exists_eq_left', exists_eq_left, if_true, if_false, undef]) (fun q hq => ?_)
          obtain ⟨turn, n, now, x0, y0⟩ := q
          obtain ⟨hr, hb1, hb2, hb3⟩ := hq
          simp only at hr hb1 hb2 hb3
          obtain ⟨hn1, s', hst, hcase⟩ := rch_pos hr
          obtain ⟨r', x', y'⟩ := s'
          obtain ⟨o, hoc, hes, hx1, hy1⟩ := stp_at hst
          simp only at hoc hes hx1 hy1
          have hnl : now < (bldCode l).length := (List.getElem?_eq_some_iff.1 hoc).1
          have hok := code_ok hord o (List.mem_of_getElem? hoc)
          have hctr := hok.counter
          have t1 : decide ((turn : Int) < 100 * (packed c : Int) + 100) = true := by simp; omega
          have t2 : decide ((now : Int) ≥ ((bldCode l).length : Int)) = false := by simp; omega
          have hcx : [(x0 : Int), (y0 : Int)][o.counter.toNat]? = some (cAt [(x0 : Int), (y0 : Int)] o.counter) := by
            rw [cAt, List.getElem?_eq_getElem (by simp; omega)]; rfl
          have hcb : 0 ≤ cAt [(x0 : Int), (y0 : Int)] o.counter ∧ cAt [(x0 : Int), (y0 : Int)] o.counter ≤ 10000000 := by
            have := List.mem_of_getElem? hcx
            simp only [List.mem_cons, List.not_mem_nil, or_false] at this
            omega
          generalize hcv : cAt [(x0 : Int), (y0 : Int)] o.counter = cv at *
          have m1 : IntKind.i64.wrap (cv + 1) = cv + 1 := by rw [wrap_id] <;> omega
          have m2 : IntKind.i64.wrap (cv - 1) = cv - 1 := by rw [wrap_id] <;> omega
          simp (maxSteps := 1000000) only [encO, EA, EB, EC, ED, EE, EF, EG, XA, XB, XC, XD, XE, XF, XG, XH, XI, XJ, XK, XL, reduceIte, ↓reduceIte, Nat.reduceAdd, Nat.reduceLeDiff, Nat.reduceEqDiff, Nat.reduceLT, Nat.reduceSub, Nat.reduceBEq, forall_const, reduceCtorEq, implies_true, exists_eq_left', exists_eq_left, if_true, if_false, undef]
          refine callF (CallsA.args (packed_spec c (by omega) (by omega)) (by simp [encO, EA, EB, EC, ED, EE, EF, EG, XA, XB, XC, XD, XE, XF, XG, XH, XI, XJ, XK, XL, reduceIte, ↓reduceIte, Nat.reduceAdd, Nat.reduceLeDiff, Nat.reduceEqDiff, Nat.reduceLT, Nat.reduceSub, Nat.reduceBEq, forall_const, reduceCtorEq, implies_true, exists_eq_left', exists_eq_left, if_true, if_false, undef])) rfl (by simp [flat, encO, EA, EB, EC, ED, EE, EF, EG, XA, XB, XC, XD, XE, XF, XG, XH, XI, XJ, XK, XL, reduceIte, ↓reduceIte, Nat.reduceAdd, Nat.reduceLeDiff, Nat.reduceEqDiff, Nat.reduceLT, Nat.reduceSub, Nat.reduceBEq, forall_const, reduceCtorEq, implies_true, exists_eq_left', exists_eq_left, if_true, if_false, undef]) ?_
          simp (maxSteps := 1000000) only [u1, u2, t1, hML, t2, encO, EA, EB, EC, ED, EE, EF, EG, XA, XB, XC, XD, XE, XF, XG, XH, XI, XJ, XK, XL, reduceIte, ↓reduceIte, Nat.reduceAdd, Nat.reduceLeDiff, Nat.reduceEqDiff, Nat.reduceLT, Nat.reduceSub, Nat.reduceBEq, forall_const, reduceCtorEq, implies_true, exists_eq_left', exists_eq_left, if_true, if_false, undef]
          refine ⟨by omega, pickA (by rw [Int.toNat_natCast]; exact hoc) ?_⟩
          simp (maxSteps := 1000000) only [encO, encO, EA, EB, EC, ED, EE, EF, EG, XA, XB, XC, XD, XE, XF, XG, XH, XI, XJ, XK, XL, reduceIte, ↓reduceIte, Nat.reduceAdd, Nat.reduceLeDiff, Nat.reduceEqDiff, Nat.reduceLT, Nat.reduceSub, Nat.reduceBEq, forall_const, reduceCtorEq, implies_true, exists_eq_left', exists_eq_left, if_true, if_false, undef]
          by_cases hk1 : o.kind = 1
          · have k1 : (o.kind == 1) = true := by simp [hk1]
            have hs2 : ([(x0 : Int), (y0 : Int)].set o.counter.toNat (cv + 1), o.next) = ([(x' : Int), (y' : Int)], (r' : Int)) := by rw [← hes, estep, if_pos hk1, hcv]
            have hset := (Prod.mk.inj hs2).1
            have hnx := (Prod.mk.inj hs2).2
            simp (maxSteps := 1000000) only [k1, encO, EA, EB, EC, ED, EE, EF, EG, XA, XB, XC, XD, XE, XF, XG, XH, XI, XJ, XK, XL, reduceIte, ↓reduceIte, Nat.reduceAdd, Nat.reduceLeDiff, Nat.reduceEqDiff, Nat.reduceLT, Nat.reduceSub, Nat.reduceBEq, forall_const, reduceCtorEq, implies_true, exists_eq_left', exists_eq_left, if_true, if_false, undef]
            have HS : [I (x0 : Int), I (y0 : Int)].set o.counter.toNat (.v (.int .i64 (IntKind.i64.wrap (cv + 1)))) = [I (x' : Int), I (y' : Int)] := by rw [m1]; exact setB hset
            refine ⟨hctr.1, by omega, pickB hcx (Nat.zero_add _) ?_⟩
            simp (maxSteps := 1000000) only [m1, encO, EA, EB, EC, ED, EE, EF, EG, XA, XB, XC, XD, XE, XF, XG, XH, XI, XJ, XK, XL, reduceIte, ↓reduceIte, Nat.reduceAdd, Nat.reduceLeDiff, Nat.reduceEqDiff, Nat.reduceLT, Nat.reduceSub, Nat.reduceBEq, forall_const, reduceCtorEq, implies_true, exists_eq_left', exists_eq_left, if_true, if_false, undef]
            refine ⟨hctr.1, by omega, ?_⟩
            simp (maxSteps := 1000000) only [m1, encO, EA, EB, EC, ED, EE, EF, EG, XA, XB, XC, XD, XE, XF, XG, XH, XI, XJ, XK, XL, reduceIte, ↓reduceIte, Nat.reduceAdd, Nat.reduceLeDiff, Nat.reduceEqDiff, Nat.reduceLT, Nat.reduceSub, Nat.reduceBEq, forall_const, reduceCtorEq, implies_true, exists_eq_left', exists_eq_left, if_true, if_false, undef]
            refine ⟨by omega, ?_⟩
            simp (maxSteps := 1000000) only [hnx, encO, EA, EB, EC, ED, EE, EF, EG, XA, XB, XC, XD, XE, XF, XG, XH, XI, XJ, XK, XL, reduceIte, ↓reduceIte, Nat.reduceAdd, Nat.reduceLeDiff, Nat.reduceEqDiff, Nat.reduceLT, Nat.reduceSub, Nat.reduceBEq, forall_const, reduceCtorEq, implies_true, exists_eq_left', exists_eq_left, if_true, if_false, undef]
            refine ⟨by decide, by decide, Pick.mk (I (y' : Int)) (by rw [HS]; rfl) ?_⟩
            rcases hcase with ⟨hstop, heq⟩ | ⟨hns, hrest⟩
            · obtain ⟨hy0, hrB⟩ := hstop
              simp only at hy0 hrB
              have z1 : ((y' : Int) == 0) = true := by simp [hy0]
              have z2 : decide ((r' : Int) ∈ sts l) = true := by simp [sts_mem, hrB]
              have q1 : r' = psn l (estep l[x] c).2.toNat := congrArg (fun s : St => s.1) heq
              have q2 : x' = packed (estep l[x] c).1 := congrArg (fun s : St => s.2.1) heq
              have z3 : ((r' : Int) == (psn l (estep l[x] c).2.toNat : Int)) = true := by simp [q1]
              simp (maxSteps := 1000000) only [z1, encO, EA, EB, EC, ED, EE, EF, EG, XA, XB, XC, XD, XE, XF, XG, XH, XI, XJ, XK, XL, reduceIte, ↓reduceIte, Nat.reduceAdd, Nat.reduceLeDiff, Nat.reduceEqDiff, Nat.reduceLT, Nat.reduceSub, Nat.reduceBEq, forall_const, reduceCtorEq, implies_true, exists_eq_left', exists_eq_left, if_true, if_false, undef]
              refine callF (CallsA.args (has_spec (sts l) (r' : Int) (by omega) ) (by simp [ hnx,encO, EA, EB, EC, ED, EE, EF, EG, XA, XB, XC, XD, XE, XF, XG, XH, XI, XJ, XK, XL, reduceIte, ↓reduceIte, Nat.reduceAdd, Nat.reduceLeDiff, Nat.reduceEqDiff, Nat.reduceLT, Nat.reduceSub, Nat.reduceBEq, forall_const, reduceCtorEq, implies_true, exists_eq_left', exists_eq_left, if_true, if_false, undef])) rfl (by simp [flat, encO, EA, EB, EC, ED, EE, EF, EG, XA, XB, XC, XD, XE, XF, XG, XH, XI, XJ, XK, XL, reduceIte, ↓reduceIte, Nat.reduceAdd, Nat.reduceLeDiff, Nat.reduceEqDiff, Nat.reduceLT, Nat.reduceSub, Nat.reduceBEq, forall_const, reduceCtorEq, implies_true, exists_eq_left', exists_eq_left, if_true, if_false, undef]) ?_
              simp (maxSteps := 1000000) only [z2, encO, EA, EB, EC, ED, EE, EF, EG, XA, XB, XC, XD, XE, XF, XG, XH, XI, XJ, XK, XL, reduceIte, ↓reduceIte, Nat.reduceAdd, Nat.reduceLeDiff, Nat.reduceEqDiff, Nat.reduceLT, Nat.reduceSub, Nat.reduceBEq, forall_const, reduceCtorEq, implies_true, exists_eq_left', exists_eq_left, if_true, if_false, undef]
              refine ⟨hto.1, pickA (sts_get (by omega)) ?_⟩
              simp (maxSteps := 1000000) only [hnx, z3, encO, EA, EB, EC, ED, EE, EF, EG, XA, XB, XC, XD, XE, XF, XG, XH, XI, XJ, XK, XL, reduceIte, ↓reduceIte, Nat.reduceAdd, Nat.reduceLeDiff, Nat.reduceEqDiff, Nat.reduceLT, Nat.reduceSub, Nat.reduceBEq, forall_const, reduceCtorEq, implies_true, exists_eq_left', exists_eq_left, if_true, if_false, undef]
              refine ⟨by decide, by decide, Pick.mk (I (x' : Int)) (by rw [HS]; rfl) ?_⟩
              simp (maxSteps := 1000000) only [encO, EA, EB, EC, ED, EE, EF, EG, XA, XB, XC, XD, XE, XF, XG, XH, XI, XJ, XK, XL, reduceIte, ↓reduceIte, Nat.reduceAdd, Nat.reduceLeDiff, Nat.reduceEqDiff, Nat.reduceLT, Nat.reduceSub, Nat.reduceBEq, forall_const, reduceCtorEq, implies_true, exists_eq_left', exists_eq_left, if_true, if_false, undef]
              refine callD (CallsA.args (packed_spec (estep l[x] c).1 (by omega) (by omega)) (by simp [encO, EA, EB, EC, ED, EE, EF, EG, XA, XB, XC, XD, XE, XF, XG, XH, XI, XJ, XK, XL, reduceIte, ↓reduceIte, Nat.reduceAdd, Nat.reduceLeDiff, Nat.reduceEqDiff, Nat.reduceLT, Nat.reduceSub, Nat.reduceBEq, forall_const, reduceCtorEq, implies_true, exists_eq_left', exists_eq_left, if_true, if_false, undef])) rfl (by simp [flat, encO, EA, EB, EC, ED, EE, EF, EG, XA, XB, XC, XD, XE, XF, XG, XH, XI, XJ, XK, XL, reduceIte, ↓reduceIte, Nat.reduceAdd, Nat.reduceLeDiff, Nat.reduceEqDiff, Nat.reduceLT, Nat.reduceSub, Nat.reduceBEq, forall_const, reduceCtorEq, implies_true, exists_eq_left', exists_eq_left, if_true, if_false, undef]) (by simp [encO, EA, EB, EC, ED, EE, EF, EG, XA, XB, XC, XD, XE, XF, XG, XH, XI, XJ, XK, XL, reduceIte, ↓reduceIte, Nat.reduceAdd, Nat.reduceLeDiff, Nat.reduceEqDiff, Nat.reduceLT, Nat.reduceSub, Nat.reduceBEq, forall_const, reduceCtorEq, implies_true, exists_eq_left', exists_eq_left, if_true, if_false, undef]) ?_
              simp [q2, encO, EA, EB, EC, ED, EE, EF, EG, XA, XB, XC, XD, XE, XF, XG, XH, XI, XJ, XK, XL, reduceIte, ↓reduceIte, Nat.reduceAdd, Nat.reduceLeDiff, Nat.reduceEqDiff, Nat.reduceLT, Nat.reduceSub, Nat.reduceBEq, forall_const, reduceCtorEq, implies_true, exists_eq_left', exists_eq_left, if_true, if_false, undef]
            · have cont : turn + 1 < 100 * packed c + 100 + 1 := by omega
              have v7 : IntKind.i64.wrap ((turn : Int) + 1) = ((turn + 1 : Nat) : Int) := by rw [wrap_id] <;> omega
              by_cases hy0 : y' = 0
              · have z1 : ((y' : Int) == 0) = true := by simp [hy0]
                have z2 : decide ((r' : Int) ∈ sts l) = false := by
                  simp only [decide_eq_false_iff_not, sts_mem]
                  exact fun hh => hns ⟨hy0, hh⟩
                simp (maxSteps := 1000000) only [z1, encO, EA, EB, EC, ED, EE, EF, EG, XA, XB, XC, XD, XE, XF, XG, XH, XI, XJ, XK, XL, reduceIte, ↓reduceIte, Nat.reduceAdd, Nat.reduceLeDiff, Nat.reduceEqDiff, Nat.reduceLT, Nat.reduceSub, Nat.reduceBEq, forall_const, reduceCtorEq, implies_true, exists_eq_left', exists_eq_left, if_true, if_false, undef]
                refine callF (CallsA.args (has_spec (sts l) (r' : Int) (by omega) ) (by simp [ hnx,encO, EA, EB, EC, ED, EE, EF, EG, XA, XB, XC, XD, XE, XF, XG, XH, XI, XJ, XK, XL, reduceIte, ↓reduceIte, Nat.reduceAdd, Nat.reduceLeDiff, Nat.reduceEqDiff, Nat.reduceLT, Nat.reduceSub, Nat.reduceBEq, forall_const, reduceCtorEq, implies_true, exists_eq_left', exists_eq_left, if_true, if_false, undef])) rfl (by simp [flat, encO, EA, EB, EC, ED, EE, EF, EG, XA, XB, XC, XD, XE, XF, XG, XH, XI, XJ, XK, XL, reduceIte, ↓reduceIte, Nat.reduceAdd, Nat.reduceLeDiff, Nat.reduceEqDiff, Nat.reduceLT, Nat.reduceSub, Nat.reduceBEq, forall_const, reduceCtorEq, implies_true, exists_eq_left', exists_eq_left, if_true, if_false, undef]) ?_
                simp (maxSteps := 1000000) only [z2, v7, encO, EA, EB, EC, ED, EE, EF, EG, XA, XB, XC, XD, XE, XF, XG, XH, XI, XJ, XK, XL, reduceIte, ↓reduceIte, Nat.reduceAdd, Nat.reduceLeDiff, Nat.reduceEqDiff, Nat.reduceLT, Nat.reduceSub, Nat.reduceBEq, forall_const, reduceCtorEq, implies_true, exists_eq_left', exists_eq_left, if_true, if_false, undef]
                exact ⟨(turn + 1, n - 1, r', x', y'), ⟨hrest, by simp only; omega, by simp only; omega, by simp only; omega⟩, by simp only; omega, by simp [hnx, HS, Back, SubT, Sub, SubL, SubM, SubO, keepM, srcOk, look, lookM, ev, evs, putT, argT, encO, EA, EB, EC, ED, EE, EF, EG, XA, XB, XC, XD, XE, XF, XG, XH, XI, XJ, XK, XL, reduceIte, ↓reduceIte, Nat.reduceAdd, Nat.reduceLeDiff, Nat.reduceEqDiff, Nat.reduceLT, Nat.reduceSub, Nat.reduceBEq, forall_const, reduceCtorEq, implies_true, exists_eq_left', exists_eq_left, if_true, if_false, undef]⟩
              · have z1 : ((y' : Int) == 0) = false := by simp; omega
                simp (maxSteps := 1000000) only [z1, v7, encO, EA, EB, EC, ED, EE, EF, EG, XA, XB, XC, XD, XE, XF, XG, XH, XI, XJ, XK, XL, reduceIte, ↓reduceIte, Nat.reduceAdd, Nat.reduceLeDiff, Nat.reduceEqDiff, Nat.reduceLT, Nat.reduceSub, Nat.reduceBEq, forall_const, reduceCtorEq, implies_true, exists_eq_left', exists_eq_left, if_true, if_false, undef]
                exact ⟨(turn + 1, n - 1, r', x', y'), ⟨hrest, by simp only; omega, by simp only; omega, by simp only; omega⟩, by simp only; omega, by simp [hnx, HS, Back, SubT, Sub, SubL, SubM, SubO, keepM, srcOk, look, lookM, ev, evs, putT, argT, encO, EA, EB, EC, ED, EE, EF, EG, XA, XB, XC, XD, XE, XF, XG, XH, XI, XJ, XK, XL, reduceIte, ↓reduceIte, Nat.reduceAdd, Nat.reduceLeDiff, Nat.reduceEqDiff, Nat.reduceLT, Nat.reduceSub, Nat.reduceBEq, forall_const, reduceCtorEq, implies_true, exists_eq_left', exists_eq_left, if_true, if_false, undef]⟩
          · have k1 : (o.kind == 1) = false := by simp [hk1]
            simp (maxSteps := 1000000) only [k1, encO, EA, EB, EC, ED, EE, EF, EG, XA, XB, XC, XD, XE, XF, XG, XH, XI, XJ, XK, XL, reduceIte, ↓reduceIte, Nat.reduceAdd, Nat.reduceLeDiff, Nat.reduceEqDiff, Nat.reduceLT, Nat.reduceSub, Nat.reduceBEq, forall_const, reduceCtorEq, implies_true, exists_eq_left', exists_eq_left, if_true, if_false, undef]
            refine ⟨hctr.1, by omega, pickB hcx (Nat.zero_add _) ?_⟩
            by_cases hz : 0 < cv
            · have k2 : decide (cv > 0) = true := by simp [hz]
              have hs2 : ([(x0 : Int), (y0 : Int)].set o.counter.toNat (cv - 1), o.next) = ([(x' : Int), (y' : Int)], (r' : Int)) := by rw [← hes, estep, if_neg hk1, hcv, if_pos hz]
              have hset := (Prod.mk.inj hs2).1
              have hnx := (Prod.mk.inj hs2).2
              have HS : [I (x0 : Int), I (y0 : Int)].set o.counter.toNat (.v (.int .i64 (IntKind.i64.wrap (cv - 1)))) = [I (x' : Int), I (y' : Int)] := by rw [m2]; exact setB hset
              simp (maxSteps := 1000000) only [k2, encO, EA, EB, EC, ED, EE, EF, EG, XA, XB, XC, XD, XE, XF, XG, XH, XI, XJ, XK, XL, reduceIte, ↓reduceIte, Nat.reduceAdd, Nat.reduceLeDiff, Nat.reduceEqDiff, Nat.reduceLT, Nat.reduceSub, Nat.reduceBEq, forall_const, reduceCtorEq, implies_true, exists_eq_left', exists_eq_left, if_true, if_false, undef]
              refine ⟨hctr.1, by omega, pickB hcx (Nat.zero_add _) ?_⟩
              simp (maxSteps := 1000000) only [m2, encO, EA, EB, EC, ED, EE, EF, EG, XA, XB, XC, XD, XE, XF, XG, XH, XI, XJ, XK, XL, reduceIte, ↓reduceIte, Nat.reduceAdd, Nat.reduceLeDiff, Nat.reduceEqDiff, Nat.reduceLT, Nat.reduceSub, Nat.reduceBEq, forall_const, reduceCtorEq, implies_true, exists_eq_left', exists_eq_left, if_true, if_false, undef]
              refine ⟨hctr.1, by omega, ?_⟩
              simp (maxSteps := 1000000) only [m2, encO, EA, EB, EC, ED, EE, EF, EG, XA, XB, XC, XD, XE, XF, XG, XH, XI, XJ, XK, XL, reduceIte, ↓reduceIte, Nat.reduceAdd, Nat.reduceLeDiff, Nat.reduceEqDiff, Nat.reduceLT, Nat.reduceSub, Nat.reduceBEq, forall_const, reduceCtorEq, implies_true, exists_eq_left', exists_eq_left, if_true, if_false, undef]
              refine ⟨by omega, ?_⟩
              simp (maxSteps := 1000000) only [hnx, encO, EA, EB, EC, ED, EE, EF, EG, XA, XB, XC, XD, XE, XF, XG, XH, XI, XJ, XK, XL, reduceIte, ↓reduceIte, Nat.reduceAdd, Nat.reduceLeDiff, Nat.reduceEqDiff, Nat.reduceLT, Nat.reduceSub, Nat.reduceBEq, forall_const, reduceCtorEq, implies_true, exists_eq_left', exists_eq_left, if_true, if_false, undef]
              refine ⟨by decide, by decide, Pick.mk (I (y' : Int)) (by rw [HS]; rfl) ?_⟩
              rcases hcase with ⟨hstop, heq⟩ | ⟨hns, hrest⟩
              · obtain ⟨hy0, hrB⟩ := hstop
                simp only at hy0 hrB
                have z1 : ((y' : Int) == 0) = true := by simp [hy0]
                have z2 : decide ((r' : Int) ∈ sts l) = true := by simp [sts_mem, hrB]
                have q1 : r' = psn l (estep l[x] c).2.toNat := congrArg (fun s : St => s.1) heq
                have q2 : x' = packed (estep l[x] c).1 := congrArg (fun s : St => s.2.1) heq
                have z3 : ((r' : Int) == (psn l (estep l[x] c).2.toNat : Int)) = true := by simp [q1]
                simp (maxSteps := 1000000) only [z1, encO, EA, EB, EC, ED, EE, EF, EG, XA, XB, XC, XD, XE, XF, XG, XH, XI, XJ, XK, XL, reduceIte, ↓reduceIte, Nat.reduceAdd, Nat.reduceLeDiff, Nat.reduceEqDiff, Nat.reduceLT, Nat.reduceSub, Nat.reduceBEq, forall_const, reduceCtorEq, implies_true, exists_eq_left', exists_eq_left, if_true, if_false, undef]
                refine callF (CallsA.args (has_spec (sts l) (r' : Int) (by omega) ) (by simp [ hnx,encO, EA, EB, EC, ED, EE, EF, EG, XA, XB, XC, XD, XE, XF, XG, XH, XI, XJ, XK, XL, reduceIte, ↓reduceIte, Nat.reduceAdd, Nat.reduceLeDiff, Nat.reduceEqDiff, Nat.reduceLT, Nat.reduceSub, Nat.reduceBEq, forall_const, reduceCtorEq, implies_true, exists_eq_left', exists_eq_left, if_true, if_false, undef])) rfl (by simp [flat, encO, EA, EB, EC, ED, EE, EF, EG, XA, XB, XC, XD, XE, XF, XG, XH, XI, XJ, XK, XL, reduceIte, ↓reduceIte, Nat.reduceAdd, Nat.reduceLeDiff, Nat.reduceEqDiff, Nat.reduceLT, Nat.reduceSub, Nat.reduceBEq, forall_const, reduceCtorEq, implies_true, exists_eq_left', exists_eq_left, if_true, if_false, undef]) ?_
                simp (maxSteps := 1000000) only [z2, encO, EA, EB, EC, ED, EE, EF, EG, XA, XB, XC, XD, XE, XF, XG, XH, XI, XJ, XK, XL, reduceIte, ↓reduceIte, Nat.reduceAdd, Nat.reduceLeDiff, Nat.reduceEqDiff, Nat.reduceLT, Nat.reduceSub, Nat.reduceBEq, forall_const, reduceCtorEq, implies_true, exists_eq_left', exists_eq_left, if_true, if_false, undef]
                refine ⟨hto.1, pickA (sts_get (by omega)) ?_⟩
                simp (maxSteps := 1000000) only [hnx, z3, encO, EA, EB, EC, ED, EE, EF, EG, XA, XB, XC, XD, XE, XF, XG, XH, XI, XJ, XK, XL, reduceIte, ↓reduceIte, Nat.reduceAdd, Nat.reduceLeDiff, Nat.reduceEqDiff, Nat.reduceLT, Nat.reduceSub, Nat.reduceBEq, forall_const, reduceCtorEq, implies_true, exists_eq_left', exists_eq_left, if_true, if_false, undef]
                refine ⟨by decide, by decide, Pick.mk (I (x' : Int)) (by rw [HS]; rfl) ?_⟩
                simp (maxSteps := 1000000) only [encO, EA, EB, EC, ED, EE, EF, EG, XA, XB, XC, XD, XE, XF, XG, XH, XI, XJ, XK, XL, reduceIte, ↓reduceIte, Nat.reduceAdd, Nat.reduceLeDiff, Nat.reduceEqDiff, Nat.reduceLT, Nat.reduceSub, Nat.reduceBEq, forall_const, reduceCtorEq, implies_true, exists_eq_left', exists_eq_left, if_true, if_false, undef]
                refine callD (CallsA.args (packed_spec (estep l[x] c).1 (by omega) (by omega)) (by simp [encO, EA, EB, EC, ED, EE, EF, EG, XA, XB, XC, XD, XE, XF, XG, XH, XI, XJ, XK, XL, reduceIte, ↓reduceIte, Nat.reduceAdd, Nat.reduceLeDiff, Nat.reduceEqDiff, Nat.reduceLT, Nat.reduceSub, Nat.reduceBEq, forall_const, reduceCtorEq, implies_true, exists_eq_left', exists_eq_left, if_true, if_false, undef])) rfl (by simp [flat, encO, EA, EB, EC, ED, EE, EF, EG, XA, XB, XC, XD, XE, XF, XG, XH, XI, XJ, XK, XL, reduceIte, ↓reduceIte, Nat.reduceAdd, Nat.reduceLeDiff, Nat.reduceEqDiff, Nat.reduceLT, Nat.reduceSub, Nat.reduceBEq, forall_const, reduceCtorEq, implies_true, exists_eq_left', exists_eq_left, if_true, if_false, undef]) (by simp [encO, EA, EB, EC, ED, EE, EF, EG, XA, XB, XC, XD, XE, XF, XG, XH, XI, XJ, XK, XL, reduceIte, ↓reduceIte, Nat.reduceAdd, Nat.reduceLeDiff, Nat.reduceEqDiff, Nat.reduceLT, Nat.reduceSub, Nat.reduceBEq, forall_const, reduceCtorEq, implies_true, exists_eq_left', exists_eq_left, if_true, if_false, undef]) ?_
                simp [q2, encO, EA, EB, EC, ED, EE, EF, EG, XA, XB, XC, XD, XE, XF, XG, XH, XI, XJ, XK, XL, reduceIte, ↓reduceIte, Nat.reduceAdd, Nat.reduceLeDiff, Nat.reduceEqDiff, Nat.reduceLT, Nat.reduceSub, Nat.reduceBEq, forall_const, reduceCtorEq, implies_true, exists_eq_left', exists_eq_left, if_true, if_false, undef]
              · have cont : turn + 1 < 100 * packed c + 100 + 1 := by omega
                have v7 : IntKind.i64.wrap ((turn : Int) + 1) = ((turn + 1 : Nat) : Int) := by rw [wrap_id] <;> omega
                by_cases hy0 : y' = 0
                · have z1 : ((y' : Int) == 0) = true := by simp [hy0]
                  have z2 : decide ((r' : Int) ∈ sts l) = false := by
                    simp only [decide_eq_false_iff_not, sts_mem]
                    exact fun hh => hns ⟨hy0, hh⟩
                  simp (maxSteps := 1000000) only [z1, encO, EA, EB, EC, ED, EE, EF, EG, XA, XB, XC, XD, XE, XF, XG, XH, XI, XJ, XK, XL, reduceIte, ↓reduceIte, Nat.reduceAdd, Nat.reduceLeDiff, Nat.reduceEqDiff, Nat.reduceLT, Nat.reduceSub, Nat.reduceBEq, forall_const, reduceCtorEq, implies_true, exists_eq_left', exists_eq_left, if_true, if_false, undef]
                  refine callF (CallsA.args (has_spec (sts l) (r' : Int) (by omega) ) (by simp [ hnx,encO, EA, EB, EC, ED, EE, EF, EG, XA, XB, XC, XD, XE, XF, XG, XH, XI, XJ, XK, XL, reduceIte, ↓reduceIte, Nat.reduceAdd, Nat.reduceLeDiff, Nat.reduceEqDiff, Nat.reduceLT, Nat.reduceSub, Nat.reduceBEq, forall_const, reduceCtorEq, implies_true, exists_eq_left', exists_eq_left, if_true, if_false, undef])) rfl (by simp [flat, encO, EA, EB, EC, ED, EE, EF, EG, XA, XB, XC, XD, XE, XF, XG, XH, XI, XJ, XK, XL, reduceIte, ↓reduceIte, Nat.reduceAdd, Nat.reduceLeDiff, Nat.reduceEqDiff, Nat.reduceLT, Nat.reduceSub, Nat.reduceBEq, forall_const, reduceCtorEq, implies_true, exists_eq_left', exists_eq_left, if_true, if_false, undef]) ?_
                  simp (maxSteps := 1000000) only [z2, v7, encO, EA, EB, EC, ED, EE, EF, EG, XA, XB, XC, XD, XE, XF, XG, XH, XI, XJ, XK, XL, reduceIte, ↓reduceIte, Nat.reduceAdd, Nat.reduceLeDiff, Nat.reduceEqDiff, Nat.reduceLT, Nat.reduceSub, Nat.reduceBEq, forall_const, reduceCtorEq, implies_true, exists_eq_left', exists_eq_left, if_true, if_false, undef]
                  exact ⟨(turn + 1, n - 1, r', x', y'), ⟨hrest, by simp only; omega, by simp only; omega, by simp only; omega⟩, by simp only; omega, by simp [hnx, HS, Back, SubT, Sub, SubL, SubM, SubO, keepM, srcOk, look, lookM, ev, evs, putT, argT, encO, EA, EB, EC, ED, EE, EF, EG, XA, XB, XC, XD, XE, XF, XG, XH, XI, XJ, XK, XL, reduceIte, ↓reduceIte, Nat.reduceAdd, Nat.reduceLeDiff, Nat.reduceEqDiff, Nat.reduceLT, Nat.reduceSub, Nat.reduceBEq, forall_const, reduceCtorEq, implies_true, exists_eq_left', exists_eq_left, if_true, if_false, undef]⟩
                · have z1 : ((y' : Int) == 0) = false := by simp; omega
                  simp (maxSteps := 1000000) only [z1, v7, encO, EA, EB, EC, ED, EE, EF, EG, XA, XB, XC, XD, XE, XF, XG, XH, XI, XJ, XK, XL, reduceIte, ↓reduceIte, Nat.reduceAdd, Nat.reduceLeDiff, Nat.reduceEqDiff, Nat.reduceLT, Nat.reduceSub, Nat.reduceBEq, forall_const, reduceCtorEq, implies_true, exists_eq_left', exists_eq_left, if_true, if_false, undef]
                  exact ⟨(turn + 1, n - 1, r', x', y'), ⟨hrest, by simp only; omega, by simp only; omega, by simp only; omega⟩, by simp only; omega, by simp [hnx, HS, Back, SubT, Sub, SubL, SubM, SubO, keepM, srcOk, look, lookM, ev, evs, putT, argT, encO, EA, EB, EC, ED, EE, EF, EG, XA, XB, XC, XD, XE, XF, XG, XH, XI, XJ, XK, XL, reduceIte, ↓reduceIte, Nat.reduceAdd, Nat.reduceLeDiff, Nat.reduceEqDiff, Nat.reduceLT, Nat.reduceSub, Nat.reduceBEq, forall_const, reduceCtorEq, implies_true, exists_eq_left', exists_eq_left, if_true, if_false, undef]⟩
            · have k2 : decide (cv > 0) = false := by simp; omega
              have hs2 : ([(x0 : Int), (y0 : Int)], o.zero) = ([(x' : Int), (y' : Int)], (r' : Int)) := by rw [← hes, estep, if_neg hk1, hcv, if_neg hz]
              have hset := (Prod.mk.inj hs2).1
              have hnx := (Prod.mk.inj hs2).2
              have HS : [I (x0 : Int), I (y0 : Int)] = [I (x' : Int), I (y' : Int)] := congrArg (List.map I) hset
              simp (maxSteps := 1000000) only [k2, hnx, encO, EA, EB, EC, ED, EE, EF, EG, XA, XB, XC, XD, XE, XF, XG, XH, XI, XJ, XK, XL, reduceIte, ↓reduceIte, Nat.reduceAdd, Nat.reduceLeDiff, Nat.reduceEqDiff, Nat.reduceLT, Nat.reduceSub, Nat.reduceBEq, forall_const, reduceCtorEq, implies_true, exists_eq_left', exists_eq_left, if_true, if_false, undef]
              refine ⟨by decide, by decide, Pick.mk (I (y' : Int)) (by rw [HS]; rfl) ?_⟩
              rcases hcase with ⟨hstop, heq⟩ | ⟨hns, hrest⟩
              · obtain ⟨hy0, hrB⟩ := hstop
                simp only at hy0 hrB
                have z1 : ((y' : Int) == 0) = true := by simp [hy0]
                have z2 : decide ((r' : Int) ∈ sts l) = true := by simp [sts_mem, hrB]
                have q1 : r' = psn l (estep l[x] c).2.toNat := congrArg (fun s : St => s.1) heq
                have q2 : x' = packed (estep l[x] c).1 := congrArg (fun s : St => s.2.1) heq
                have z3 : ((r' : Int) == (psn l (estep l[x] c).2.toNat : Int)) = true := by simp [q1]
                simp (maxSteps := 1000000) only [z1, encO, EA, EB, EC, ED, EE, EF, EG, XA, XB, XC, XD, XE, XF, XG, XH, XI, XJ, XK, XL, reduceIte, ↓reduceIte, Nat.reduceAdd, Nat.reduceLeDiff, Nat.reduceEqDiff, Nat.reduceLT, Nat.reduceSub, Nat.reduceBEq, forall_const, reduceCtorEq, implies_true, exists_eq_left', exists_eq_left, if_true, if_false, undef]
                refine callF (CallsA.args (has_spec (sts l) (r' : Int) (by omega) ) (by simp [ hnx,encO, EA, EB, EC, ED, EE, EF, EG, XA, XB, XC, XD, XE, XF, XG, XH, XI, XJ, XK, XL, reduceIte, ↓reduceIte, Nat.reduceAdd, Nat.reduceLeDiff, Nat.reduceEqDiff, Nat.reduceLT, Nat.reduceSub, Nat.reduceBEq, forall_const, reduceCtorEq, implies_true, exists_eq_left', exists_eq_left, if_true, if_false, undef])) rfl (by simp [flat, encO, EA, EB, EC, ED, EE, EF, EG, XA, XB, XC, XD, XE, XF, XG, XH, XI, XJ, XK, XL, reduceIte, ↓reduceIte, Nat.reduceAdd, Nat.reduceLeDiff, Nat.reduceEqDiff, Nat.reduceLT, Nat.reduceSub, Nat.reduceBEq, forall_const, reduceCtorEq, implies_true, exists_eq_left', exists_eq_left, if_true, if_false, undef]) ?_
                simp (maxSteps := 1000000) only [z2, encO, EA, EB, EC, ED, EE, EF, EG, XA, XB, XC, XD, XE, XF, XG, XH, XI, XJ, XK, XL, reduceIte, ↓reduceIte, Nat.reduceAdd, Nat.reduceLeDiff, Nat.reduceEqDiff, Nat.reduceLT, Nat.reduceSub, Nat.reduceBEq, forall_const, reduceCtorEq, implies_true, exists_eq_left', exists_eq_left, if_true, if_false, undef]
                refine ⟨hto.1, pickA (sts_get (by omega)) ?_⟩
                simp (maxSteps := 1000000) only [hnx, z3, encO, EA, EB, EC, ED, EE, EF, EG, XA, XB, XC, XD, XE, XF, XG, XH, XI, XJ, XK, XL, reduceIte, ↓reduceIte, Nat.reduceAdd, Nat.reduceLeDiff, Nat.reduceEqDiff, Nat.reduceLT, Nat.reduceSub, Nat.reduceBEq, forall_const, reduceCtorEq, implies_true, exists_eq_left', exists_eq_left, if_true, if_false, undef]
                refine ⟨by decide, by decide, Pick.mk (I (x' : Int)) (by rw [HS]; rfl) ?_⟩
                simp (maxSteps := 1000000) only [encO, EA, EB, EC, ED, EE, EF, EG, XA, XB, XC, XD, XE, XF, XG, XH, XI, XJ, XK, XL, reduceIte, ↓reduceIte, Nat.reduceAdd, Nat.reduceLeDiff, Nat.reduceEqDiff, Nat.reduceLT, Nat.reduceSub, Nat.reduceBEq, forall_const, reduceCtorEq, implies_true, exists_eq_left', exists_eq_left, if_true, if_false, undef]
                refine callD (CallsA.args (packed_spec (estep l[x] c).1 (by omega) (by omega)) (by simp [encO, EA, EB, EC, ED, EE, EF, EG, XA, XB, XC, XD, XE, XF, XG, XH, XI, XJ, XK, XL, reduceIte, ↓reduceIte, Nat.reduceAdd, Nat.reduceLeDiff, Nat.reduceEqDiff, Nat.reduceLT, Nat.reduceSub, Nat.reduceBEq, forall_const, reduceCtorEq, implies_true, exists_eq_left', exists_eq_left, if_true, if_false, undef])) rfl (by simp [flat, encO, EA, EB, EC, ED, EE, EF, EG, XA, XB, XC, XD, XE, XF, XG, XH, XI, XJ, XK, XL, reduceIte, ↓reduceIte, Nat.reduceAdd, Nat.reduceLeDiff, Nat.reduceEqDiff, Nat.reduceLT, Nat.reduceSub, Nat.reduceBEq, forall_const, reduceCtorEq, implies_true, exists_eq_left', exists_eq_left, if_true, if_false, undef]) (by simp [encO, EA, EB, EC, ED, EE, EF, EG, XA, XB, XC, XD, XE, XF, XG, XH, XI, XJ, XK, XL, reduceIte, ↓reduceIte, Nat.reduceAdd, Nat.reduceLeDiff, Nat.reduceEqDiff, Nat.reduceLT, Nat.reduceSub, Nat.reduceBEq, forall_const, reduceCtorEq, implies_true, exists_eq_left', exists_eq_left, if_true, if_false, undef]) ?_
                simp [q2, encO, EA, EB, EC, ED, EE, EF, EG, XA, XB, XC, XD, XE, XF, XG, XH, XI, XJ, XK, XL, reduceIte, ↓reduceIte, Nat.reduceAdd, Nat.reduceLeDiff, Nat.reduceEqDiff, Nat.reduceLT, Nat.reduceSub, Nat.reduceBEq, forall_const, reduceCtorEq, implies_true, exists_eq_left', exists_eq_left, if_true, if_false, undef]
              · have cont : turn + 1 < 100 * packed c + 100 + 1 := by omega
                have v7 : IntKind.i64.wrap ((turn : Int) + 1) = ((turn + 1 : Nat) : Int) := by rw [wrap_id] <;> omega
                by_cases hy0 : y' = 0
                · have z1 : ((y' : Int) == 0) = true := by simp [hy0]
                  have z2 : decide ((r' : Int) ∈ sts l) = false := by
                    simp only [decide_eq_false_iff_not, sts_mem]
                    exact fun hh => hns ⟨hy0, hh⟩
                  simp (maxSteps := 1000000) only [z1, encO, EA, EB, EC, ED, EE, EF, EG, XA, XB, XC, XD, XE, XF, XG, XH, XI, XJ, XK, XL, reduceIte, ↓reduceIte, Nat.reduceAdd, Nat.reduceLeDiff, Nat.reduceEqDiff, Nat.reduceLT, Nat.reduceSub, Nat.reduceBEq, forall_const, reduceCtorEq, implies_true, exists_eq_left', exists_eq_left, if_true, if_false, undef]
                  refine callF (CallsA.args (has_spec (sts l) (r' : Int) (by omega) ) (by simp [ hnx,encO, EA, EB, EC, ED, EE, EF, EG, XA, XB, XC, XD, XE, XF, XG, XH, XI, XJ, XK, XL, reduceIte, ↓reduceIte, Nat.reduceAdd, Nat.reduceLeDiff, Nat.reduceEqDiff, Nat.reduceLT, Nat.reduceSub, Nat.reduceBEq, forall_const, reduceCtorEq, implies_true, exists_eq_left', exists_eq_left, if_true, if_false, undef])) rfl (by simp [flat, encO, EA, EB, EC, ED, EE, EF, EG, XA, XB, XC, XD, XE, XF, XG, XH, XI, XJ, XK, XL, reduceIte, ↓reduceIte, Nat.reduceAdd, Nat.reduceLeDiff, Nat.reduceEqDiff, Nat.reduceLT, Nat.reduceSub, Nat.reduceBEq, forall_const, reduceCtorEq, implies_true, exists_eq_left', exists_eq_left, if_true, if_false, undef]) ?_
                  simp (maxSteps := 1000000) only [z2, v7, encO, EA, EB, EC, ED, EE, EF, EG, XA, XB, XC, XD, XE, XF, XG, XH, XI, XJ, XK, XL, reduceIte, ↓reduceIte, Nat.reduceAdd, Nat.reduceLeDiff, Nat.reduceEqDiff, Nat.reduceLT, Nat.reduceSub, Nat.reduceBEq, forall_const, reduceCtorEq, implies_true, exists_eq_left', exists_eq_left, if_true, if_false, undef]
                  exact ⟨(turn + 1, n - 1, r', x', y'), ⟨hrest, by simp only; omega, by simp only; omega, by simp only; omega⟩, by simp only; omega, by simp [hnx, HS, Back, SubT, Sub, SubL, SubM, SubO, keepM, srcOk, look, lookM, ev, evs, putT, argT, encO, EA, EB, EC, ED, EE, EF, EG, XA, XB, XC, XD, XE, XF, XG, XH, XI, XJ, XK, XL, reduceIte, ↓reduceIte, Nat.reduceAdd, Nat.reduceLeDiff, Nat.reduceEqDiff, Nat.reduceLT, Nat.reduceSub, Nat.reduceBEq, forall_const, reduceCtorEq, implies_true, exists_eq_left', exists_eq_left, if_true, if_false, undef]⟩
                · have z1 : ((y' : Int) == 0) = false := by simp; omega
                  simp (maxSteps := 1000000) only [z1, v7, encO, EA, EB, EC, ED, EE, EF, EG, XA, XB, XC, XD, XE, XF, XG, XH, XI, XJ, XK, XL, reduceIte, ↓reduceIte, Nat.reduceAdd, Nat.reduceLeDiff, Nat.reduceEqDiff, Nat.reduceLT, Nat.reduceSub, Nat.reduceBEq, forall_const, reduceCtorEq, implies_true, exists_eq_left', exists_eq_left, if_true, if_false, undef]
                  exact ⟨(turn + 1, n - 1, r', x', y'), ⟨hrest, by simp only; omega, by simp only; omega, by simp only; omega⟩, by simp only; omega, by simp [hnx, HS, Back, SubT, Sub, SubL, SubM, SubO, keepM, srcOk, look, lookM, ev, evs, putT, argT, encO, EA, EB, EC, ED, EE, EF, EG, XA, XB, XC, XD, XE, XF, XG, XH, XI, XJ, XK, XL, reduceIte, ↓reduceIte, Nat.reduceAdd, Nat.reduceLeDiff, Nat.reduceEqDiff, Nat.reduceLT, Nat.reduceSub, Nat.reduceBEq, forall_const, reduceCtorEq, implies_true, exists_eq_left', exists_eq_left, if_true, if_false, undef]⟩
      · have f4 : ((c.length : Int) != counters) = true := by simp [g1]
        simp (maxSteps := 1000000) only [f4, encO, EA, EB, EC, ED, EE, EF, EG, XA, XB, XC, XD, XE, XF, XG, XH, XI, XJ, XK, XL, reduceIte, ↓reduceIte, Nat.reduceAdd, Nat.reduceLeDiff, Nat.reduceEqDiff, Nat.reduceLT, Nat.reduceSub, Nat.reduceBEq, forall_const, reduceCtorEq, implies_true, exists_eq_left', exists_eq_left, if_true, if_false, undef]
  · have hE : (countErr counters l != 0) = true := by simp [h0]
    simp (maxSteps := 1000000) only [buildAns, h0, if_false, encO, EA, EB, EC, ED, EE, EF, EG, XA, XB, XC, XD, XE, XF, XG, XH, XI, XJ, XK, XL, reduceIte, ↓reduceIte, Nat.reduceAdd, Nat.reduceLeDiff, Nat.reduceEqDiff, Nat.reduceLT, Nat.reduceSub, Nat.reduceBEq, forall_const, reduceCtorEq, implies_true, exists_eq_left', exists_eq_left, if_true, if_false, undef]
    refine callF (CallsA.args (countCheck_spec counters l hl) (by simp [encO, EA, EB, EC, ED, EE, EF, EG, XA, XB, XC, XD, XE, XF, XG, XH, XI, XJ, XK, XL, reduceIte, ↓reduceIte, Nat.reduceAdd, Nat.reduceLeDiff, Nat.reduceEqDiff, Nat.reduceLT, Nat.reduceSub, Nat.reduceBEq, forall_const, reduceCtorEq, implies_true, exists_eq_left', exists_eq_left, if_true, if_false, undef])) rfl (by simp [flat, encO, EA, EB, EC, ED, EE, EF, EG, XA, XB, XC, XD, XE, XF, XG, XH, XI, XJ, XK, XL, reduceIte, ↓reduceIte, Nat.reduceAdd, Nat.reduceLeDiff, Nat.reduceEqDiff, Nat.reduceLT, Nat.reduceSub, Nat.reduceBEq, forall_const, reduceCtorEq, implies_true, exists_eq_left', exists_eq_left, if_true, if_false, undef]) ?_
    have e2 : (countErr counters l == countErr counters l) = true := by simp
    simp (maxSteps := 1000000) only [hE, e2, encO, EA, EB, EC, ED, EE, EF, EG, XA, XB, XC, XD, XE, XF, XG, XH, XI, XJ, XK, XL, reduceIte, ↓reduceIte, Nat.reduceAdd, Nat.reduceLeDiff, Nat.reduceEqDiff, Nat.reduceLT, Nat.reduceSub, Nat.reduceBEq, forall_const, reduceCtorEq, implies_true, exists_eq_left', exists_eq_left, if_true, if_false, undef]
    simp [encO, EA, EB, EC, ED, EE, EF, EG, XA, XB, XC, XD, XE, XF, XG, XH, XI, XJ, XK, XL, reduceIte, ↓reduceIte, Nat.reduceAdd, Nat.reduceLeDiff, Nat.reduceEqDiff, Nat.reduceLT, Nat.reduceSub, Nat.reduceBEq, forall_const, reduceCtorEq, implies_true, exists_eq_left', exists_eq_left, if_true, if_false, undef]

def sh_TwoBuilds : List Sh := [.int .i64, shOrds, .int .u8, .slice 1 (.int .i64)]
theorem law_TwoBuilds (xs : List AV) (h : HasAll sh_TwoBuilds xs) : CallsA Tryd.prog 5 xs (.v (.bool true)) [] := by
  obtain ⟨x, r, rfl, hx, y, r, rfl, hy, z, r, rfl, hz, u, r, rfl, hu, rfl⟩ := h
  obtain ⟨c, rfl, _⟩ := hasInt hx
  obtain ⟨l, rfl, hl⟩ := hasOrds hy
  obtain ⟨a, rfl, ha⟩ := hasInt hz
  obtain ⟨q, rfl, hq⟩ := hasInts hu
  exact twoBuilds_spec c a l q hl hq (u8_range ha)

end Go.Av
namespace Go.Proofs.YtanmgfcgoffahaaDoor
open Go.ChangeShapes Go.WideShapes Go.ChangeAt Go.RowKit
open Go.Av (open_all shut_all OldS HasAll Sh CallsA shAll)

theorem own : ownKnob Tryd.prog.godebug = none := by kernel_rfl
theorem laidOut : laidOutB Tryd.prog = true := by kernel_rfl
theorem shs_eq : shAll Tryd.prog 12 Tryd.f5.params.toList = some Go.Av.sh_TwoBuilds := by kernel_rfl
theorem readable : (Tryd.f5.params.toList.all fun t => Tryd.prog.readableRec t && decide (t < Tryd.prog.types.size)) = true := by kernel_rfl
theorem noStandIn : (Tryd.f5.params.toList.all fun t => !Tryd.prog.wantsStandIn t) = true := by kernel_rfl

theorem lifted (os : Os) (started : os.Started) (H : Type) (enc : TypeId × Value → H) :
    ReturnsInHanded {} Tryd.checked os 5 .any (fun w args => (Rows.twoBuildsSpec.pre enc Tryd.prog Tryd.f5 Rows.twoBuildsRow.domain false w args ∧ laidMet Tryd.prog Rows.twoBuildsRow.laid w) ∧ sizedMet enc Tryd.prog Tryd.f5 (OpenSpec.ofChange Rows.twoBuildsSpec) false w args)
      (Rows.twoBuildsSpec.post enc Tryd.prog Tryd.f5 false true false false) := by
  refine returnsInHanded_of_change_and (C := Tryd.checked) (X := fun w _ => laidMet Tryd.prog Rows.twoBuildsRow.laid w) (fun _ _ _ hh h => h.of_heap hh) own started (by kernel_rfl) Tryd.func5
    (ChangeSpec.witness_at (enc := enc) (C := Tryd.checked) (os := os) (X := fun w _ => laidMet Tryd.prog Rows.twoBuildsRow.laid w) false (laidWorld os) #[.int .i64 0, .slice none 0 0, .int .u8 0, .slice none 0 0] 8 rfl (by kernel_rfl) (by kernel_rfl) (by kernel_rfl) (by kernel_rfl) (by kernel_rfl) (laid_met os _)) ?_
  intro W base args ds gs before hval0 hW hcnd _ hL _
  have hval : ∀ (j : Nat) t v, Tryd.f5.params[j]? = some t → args[j]? = some v → Value.okWide Tryd.prog W .any base t v := hval0
  have hW' := hW
  obtain ⟨p, q, hA0, hV, rfl, hfz, hnd⟩ := hW
  have hA : DataW.TrodAll enc Tryd.prog W 0 (fun _ => true) true Tryd.f5.params.toList args.toList ds p := hA0
  obtain ⟨xs, hxs, hlen, hR⟩ := open_all (g := 12) _ _ _ _ Go.Av.sh_TwoBuilds hA (fun j t v ht hv => hval j t v (by simpa using ht) (by simpa using hv)) shs_eq
  obtain ⟨rfl, rfl⟩ := trodVars_none hV
  have hB := hA
  rw [Tryd.params5] at hB
  obtain ⟨v0, vs0, d0, ds0, p0, q0, hargs0, rfl, rfl, h0, r0⟩ := trodAll_cons hB
  obtain ⟨v1, vs1, d1, ds1, p1, q1, hargs1, rfl, rfl, h1, r1⟩ := trodAll_cons r0
  obtain ⟨v2, vs2, d2, ds2, p2, q2, hargs2, rfl, rfl, h2, r2⟩ := trodAll_cons r1
  obtain ⟨v3, vs3, d3, ds3, p3, q3, hargs3, rfl, rfl, h3, r3⟩ := trodAll_cons r2
  obtain ⟨rfl, rfl, rfl⟩ := trodAll_nil r3
  refine ((Go.Av.law_TwoBuilds xs hxs).2 W (OldS W) args (sb_of_laid hL) (by simpa using hlen) (fun i x y h1 h2 => hR i x y h1 (by simpa using h2))).mono ?_
  rintro e W' ⟨v, S', κ', rfl, hv, _, _, _, bel⟩
  rw [hv.v_inv]
  exact ⟨_, rfl, _, _, _, [], _, [], hW', trodAll_mk1 (shut_bool Tryd.underlying4 _), shut_all laidOut bel _ _ _ _ (fun t ht => by
    have := (List.all_eq_true.1 readable) t ht
    simpa using this) hA, rfl, bel.frame _, fun h => by cases h⟩

theorem twoBuilds_row : Rows.TwoBuildsSaid :=
  OpenClaim.holds_of_wide 5 Tryd.f5 rfl rfl rfl rfl rfl rfl rfl ⟨rfl, rfl, rfl, rfl, rfl⟩ rfl rfl rfl rfl rfl (by kernel_rfl) Tryd.func5 (by kernel_rfl)
    (of_decide_eq_true (by kernel_rfl)) (by unfold Func.isWrapper; first | (rw [if_pos (by decide +kernel)]; kernel_rfl) | (rw [if_neg (by decide +kernel)]; exact ⟨rfl, rfl⟩))
    (fun os started H enc _ => lifted os started H enc)

theorem twoBuilds_holds : Rows.TwoBuildsCardSaid :=
  Claim7.holds_tied_plain_at .later [] [.data] true (true, "7c311db4e37b5dccc0990b66dd926de2e0805e9f4338a1b0e7797fc0aa290842") false
    twoBuilds_row (fun _ h => by cases h) (by kernel_rfl) (fun _ h => by cases h) twoBuilds_row_tie rfl ⟨rfl, rfl⟩ (by kernel_rfl) rfl
    (fun f fn hf hfn => by
      obtain rfl : f = 5 := Option.some.inj ((show Tryd.prog.funcNamed "tapeworks/tapeworkslaw.TwoBuilds" = some 5 by kernel_rfl).symm.trans hf) |>.symm
      obtain rfl : fn = Tryd.f5 := (Option.some.inj (Tryd.func5.symm.trans hfn)).symm
      exact ⟨by kernel_rfl, fun j t ht => by
        have := (List.all_eq_true.1 noStandIn) t (List.mem_of_getElem? (by simpa using ht))
        exact (show Tryd.prog.wantsStandIn t = false by simpa using this)⟩)
    (by kernel_rfl)

end Go.Proofs.YtanmgfcgoffahaaDoor
