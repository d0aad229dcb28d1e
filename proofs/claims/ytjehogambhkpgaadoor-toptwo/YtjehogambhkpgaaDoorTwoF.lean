/- The compiler to two counters: an instruction; the whole. -/
import Derived.Test.YtjehogambhkpgaaDoorTwoC
import Derived.Test.YtjehogambhkpgaaDoorTwoE
set_option linter.unusedSimpArgs false
set_option linter.unusedVariables false
set_option maxRecDepth 100000
namespace Go.Av
open Go.Proofs

def prm (o : Ord) : Nat := prs.getD o.counter.toNat 2
/-- the code of an instruction at the place q: with what it continues at -/
def blk (q : Nat) (o : Ord) (n z : Int) : List Ord :=
  if o.kind = 1 then mvs 0 1 (prm o) q ((q + prm o + 1 : Nat) : Int) ++ mvs 1 0 1 (q + prm o + 1) n else lsL q (prm o) n z
def blkLen (o : Ord) : Nat := if o.kind = 1 then prm o + 3 else 3 * prm o + 3
def blk0 (q : Nat) (o : Ord) : List Ord := if o.kind = 1 then blk q o ((q + prm o + 3 : Nat) : Int) 0 else blk q o ((q + prm o + 3 : Nat) : Int) ((q + 3 * prm o + 3 : Nat) : Int)
def pts (es : List (Int × Int)) (q : Nat) (o : Ord) : List (Int × Int) :=
  if o.kind = 1 then aset es ((q + prm o + 1 : Nat) : Int) o.next else aset (aset es ((q + prm o + 1 : Nat) : Int) o.next) ((q + 2 * prm o + 2 : Nat) : Int) o.zero

theorem prm_range (o : Ord) : 2 ≤ prm o ∧ prm o ≤ 7 := by
  have : ∀ i : Nat, 2 ≤ prs.getD i 2 ∧ prs.getD i 2 ≤ 7 := fun i => by
    match i with
    | 0 => decide
    | 1 => decide
    | 2 => decide
    | 3 => decide
    | i + 4 => simp [prs]
  exact this _
theorem lsL_length (q p : Nat) (n z : Int) (hp : 2 ≤ p) : (lsL q p n z).length = 3 * p + 3 := by
  simp only [lsL, lsA, List.length_append, List.length_cons, List.length_nil, chn_length, mos_length]
  rw [mvs_length _ _ _ _ _ (by omega), mvs_length _ _ _ _ _ (by omega)]
  omega
theorem blk_length (q : Nat) (o : Ord) (n z : Int) : (blk q o n z).length = blkLen o := by
  have := prm_range o
  unfold blk blkLen
  split
  · rw [List.length_append, mvs_length _ _ _ _ _ (by omega), mvs_length _ _ _ _ _ (by omega)]
  · exact lsL_length _ _ _ _ (by omega)
theorem blk0_length (q : Nat) (o : Ord) : (blk0 q o).length = blkLen o := by unfold blk0; split <;> exact blk_length _ _ _ _

theorem compile_spec (o : Ord) (code : List Ord) (es : List (Int × Int)) (hl : code.length ≤ 800) (hk : o.kind = 1 ∨ o.kind = 2) (hc : 0 ≤ o.counter ∧ o.counter < 4) :
    CallsM Tryd.prog 12 [.ptr 0 0, encO o] (cmpM code es) (.tup []) (cmpR (code ++ blk0 code.length o) (pts es code.length o)) := by
  have hll : (code.map encO).length = code.length := by simp
  have hpr := prm_range o
  have hcl : o.counter.toNat < prs.length := by simp [prs]; omega
  have hpm : prs[o.counter.toNat] = prm o := by simp [prm, hcl]
  refine fnM_of comp12 (by simp) (by simp [cmpM, cmpR]) ?_
  unfold code12
  simp (maxSteps := 1000000) only [encO, cmpM, cmpR, memOf, hll, encO, EA, EB, EC, ED, EE, EF, EG, EH, XA, XB, XC, XD, XE, XF, XG, XH, XI, XJ, XK, XL, XM, reduceIte, ↓reduceIte, Nat.reduceAdd, Nat.reduceLeDiff, Nat.reduceEqDiff, Nat.reduceLT, Nat.reduceSub, Nat.reduceBEq, forall_const, reduceCtorEq, implies_true, exists_eq_left', exists_eq_left, if_true, if_false, undef]
  refine ⟨hc.1, by omega, pickP hcl (by simp) ?_⟩
  rw [hpm]
  rcases hk with h1 | h2
  · have e1 : (o.kind == 1) = true := by simp [h1]
    simp (maxSteps := 1000000) only [e1, encO, EA, EB, EC, ED, EE, EF, EG, EH, XA, XB, XC, XD, XE, XF, XG, XH, XI, XJ, XK, XL, XM, reduceIte, ↓reduceIte, Nat.reduceAdd, Nat.reduceLeDiff, Nat.reduceEqDiff, Nat.reduceLT, Nat.reduceSub, Nat.reduceBEq, forall_const, reduceCtorEq, implies_true, exists_eq_left', exists_eq_left, if_true, if_false, undef]
    refine callM [some 0, some 1, some 2] (move_spec 0 1 (prm o) code es (by omega) (by omega)) (by simp [ cmpM, cmpR,encO, EA, EB, EC, ED, EE, EF, EG, EH, XA, XB, XC, XD, XE, XF, XG, XH, XI, XJ, XK, XL, XM, reduceIte, ↓reduceIte, Nat.reduceAdd, Nat.reduceLeDiff, Nat.reduceEqDiff, Nat.reduceLT, Nat.reduceSub, Nat.reduceBEq, forall_const, reduceCtorEq, implies_true, exists_eq_left', exists_eq_left, if_true, if_false, undef]) (by simp [encO, EA, EB, EC, ED, EE, EF, EG, EH, XA, XB, XC, XD, XE, XF, XG, XH, XI, XJ, XK, XL, XM, reduceIte, ↓reduceIte, Nat.reduceAdd, Nat.reduceLeDiff, Nat.reduceEqDiff, Nat.reduceLT, Nat.reduceSub, Nat.reduceBEq, forall_const, reduceCtorEq, implies_true, exists_eq_left', exists_eq_left, if_true, if_false, undef]) (by simp [ cmpM, cmpR,encO, EA, EB, EC, ED, EE, EF, EG, EH, XA, XB, XC, XD, XE, XF, XG, XH, XI, XJ, XK, XL, XM, reduceIte, ↓reduceIte, Nat.reduceAdd, Nat.reduceLeDiff, Nat.reduceEqDiff, Nat.reduceLT, Nat.reduceSub, Nat.reduceBEq, forall_const, reduceCtorEq, implies_true, exists_eq_left', exists_eq_left, if_true, if_false, undef]) ?_
    obtain ⟨c1, hc1⟩ : ∃ c1, c1 = code ++ mvs 0 1 (prm o) code.length ((code.length + prm o + 1 : Nat) : Int) := ⟨_, rfl⟩
    have hl1 : c1.length = code.length + prm o + 1 := by rw [hc1, List.length_append, mvs_length _ _ _ _ _ (by omega)]; omega
    simp (maxSteps := 1000000) only [cmpR, ← hc1, encO, EA, EB, EC, ED, EE, EF, EG, EH, XA, XB, XC, XD, XE, XF, XG, XH, XI, XJ, XK, XL, XM, reduceIte, ↓reduceIte, Nat.reduceAdd, Nat.reduceLeDiff, Nat.reduceEqDiff, Nat.reduceLT, Nat.reduceSub, Nat.reduceBEq, forall_const, reduceCtorEq, implies_true, exists_eq_left', exists_eq_left, if_true, if_false, undef]
    refine callM [some 0, some 17, some 2] (leave_spec 1 o.next c1 es (by omega) (by omega)) (by simp [ cmpM, cmpR,encO, EA, EB, EC, ED, EE, EF, EG, EH, XA, XB, XC, XD, XE, XF, XG, XH, XI, XJ, XK, XL, XM, reduceIte, ↓reduceIte, Nat.reduceAdd, Nat.reduceLeDiff, Nat.reduceEqDiff, Nat.reduceLT, Nat.reduceSub, Nat.reduceBEq, forall_const, reduceCtorEq, implies_true, exists_eq_left', exists_eq_left, if_true, if_false, undef]) (by simp [encO, EA, EB, EC, ED, EE, EF, EG, EH, XA, XB, XC, XD, XE, XF, XG, XH, XI, XJ, XK, XL, XM, reduceIte, ↓reduceIte, Nat.reduceAdd, Nat.reduceLeDiff, Nat.reduceEqDiff, Nat.reduceLT, Nat.reduceSub, Nat.reduceBEq, forall_const, reduceCtorEq, implies_true, exists_eq_left', exists_eq_left, if_true, if_false, undef]) (by simp [ cmpM, cmpR,encO, EA, EB, EC, ED, EE, EF, EG, EH, XA, XB, XC, XD, XE, XF, XG, XH, XI, XJ, XK, XL, XM, reduceIte, ↓reduceIte, Nat.reduceAdd, Nat.reduceLeDiff, Nat.reduceEqDiff, Nat.reduceLT, Nat.reduceSub, Nat.reduceBEq, forall_const, reduceCtorEq, implies_true, exists_eq_left', exists_eq_left, if_true, if_false, undef]) ?_
    have hfin : c1 ++ mvs 1 0 1 c1.length ((c1.length + 1 + 1 : Nat) : Int) = code ++ blk0 code.length o := by
      rw [hl1, hc1, blk0, if_pos h1, blk, if_pos h1, show code.length + prm o + 1 + 1 + 1 = code.length + prm o + 3 by omega, List.append_assoc]
    have hes : aset es (c1.length : Nat) o.next = pts es code.length o := by rw [hl1, pts, if_pos h1]
    simp (maxSteps := 1000000) only [cmpR, hfin, hes, encO, EA, EB, EC, ED, EE, EF, EG, EH, XA, XB, XC, XD, XE, XF, XG, XH, XI, XJ, XK, XL, XM, reduceIte, ↓reduceIte, Nat.reduceAdd, Nat.reduceLeDiff, Nat.reduceEqDiff, Nat.reduceLT, Nat.reduceSub, Nat.reduceBEq, forall_const, reduceCtorEq, implies_true, exists_eq_left', exists_eq_left, if_true, if_false, undef]
    exact ⟨[25], by simp [encO, EA, EB, EC, ED, EE, EF, EG, EH, XA, XB, XC, XD, XE, XF, XG, XH, XI, XJ, XK, XL, XM, reduceIte, ↓reduceIte, Nat.reduceAdd, Nat.reduceLeDiff, Nat.reduceEqDiff, Nat.reduceLT, Nat.reduceSub, Nat.reduceBEq, forall_const, reduceCtorEq, implies_true, exists_eq_left', exists_eq_left, if_true, if_false, undef], by simp [encO, EA, EB, EC, ED, EE, EF, EG, EH, XA, XB, XC, XD, XE, XF, XG, XH, XI, XJ, XK, XL, XM, reduceIte, ↓reduceIte, Nat.reduceAdd, Nat.reduceLeDiff, Nat.reduceEqDiff, Nat.reduceLT, Nat.reduceSub, Nat.reduceBEq, forall_const, reduceCtorEq, implies_true, exists_eq_left', exists_eq_left, if_true, if_false, undef], by simp [encO, EA, EB, EC, ED, EE, EF, EG, EH, XA, XB, XC, XD, XE, XF, XG, XH, XI, XJ, XK, XL, XM, reduceIte, ↓reduceIte, Nat.reduceAdd, Nat.reduceLeDiff, Nat.reduceEqDiff, Nat.reduceLT, Nat.reduceSub, Nat.reduceBEq, forall_const, reduceCtorEq, implies_true, exists_eq_left', exists_eq_left, if_true, if_false, undef]⟩
  · have e1 : (o.kind == 1) = false := by simp [h2]
    have h1 : ¬ o.kind = 1 := by omega
    simp (maxSteps := 1000000) only [e1, encO, EA, EB, EC, ED, EE, EF, EG, EH, XA, XB, XC, XD, XE, XF, XG, XH, XI, XJ, XK, XL, XM, reduceIte, ↓reduceIte, Nat.reduceAdd, Nat.reduceLeDiff, Nat.reduceEqDiff, Nat.reduceLT, Nat.reduceSub, Nat.reduceBEq, forall_const, reduceCtorEq, implies_true, exists_eq_left', exists_eq_left, if_true, if_false, undef]
    refine callM [some 0, some 1, some 2] (less_spec (prm o) o.next o.zero code es (by omega) hpr) (by simp [ cmpM, cmpR,encO, EA, EB, EC, ED, EE, EF, EG, EH, XA, XB, XC, XD, XE, XF, XG, XH, XI, XJ, XK, XL, XM, reduceIte, ↓reduceIte, Nat.reduceAdd, Nat.reduceLeDiff, Nat.reduceEqDiff, Nat.reduceLT, Nat.reduceSub, Nat.reduceBEq, forall_const, reduceCtorEq, implies_true, exists_eq_left', exists_eq_left, if_true, if_false, undef]) (by simp [encO, EA, EB, EC, ED, EE, EF, EG, EH, XA, XB, XC, XD, XE, XF, XG, XH, XI, XJ, XK, XL, XM, reduceIte, ↓reduceIte, Nat.reduceAdd, Nat.reduceLeDiff, Nat.reduceEqDiff, Nat.reduceLT, Nat.reduceSub, Nat.reduceBEq, forall_const, reduceCtorEq, implies_true, exists_eq_left', exists_eq_left, if_true, if_false, undef]) (by simp [ cmpM, cmpR,encO, EA, EB, EC, ED, EE, EF, EG, EH, XA, XB, XC, XD, XE, XF, XG, XH, XI, XJ, XK, XL, XM, reduceIte, ↓reduceIte, Nat.reduceAdd, Nat.reduceLeDiff, Nat.reduceEqDiff, Nat.reduceLT, Nat.reduceSub, Nat.reduceBEq, forall_const, reduceCtorEq, implies_true, exists_eq_left', exists_eq_left, if_true, if_false, undef]) ?_
    have hfin : code ++ lsL code.length (prm o) ((code.length + prm o + 3 : Nat) : Int) ((code.length + 3 * prm o + 3 : Nat) : Int) = code ++ blk0 code.length o := by
      rw [blk0, if_neg h1, blk, if_neg h1]
    have hes : aset (aset es (code.length + prm o + 1 : Nat) o.next) (code.length + 2 * prm o + 2 : Nat) o.zero = pts es code.length o := by rw [pts, if_neg h1]
    simp (maxSteps := 1000000) only [cmpR, hfin, hes, encO, EA, EB, EC, ED, EE, EF, EG, EH, XA, XB, XC, XD, XE, XF, XG, XH, XI, XJ, XK, XL, XM, reduceIte, ↓reduceIte, Nat.reduceAdd, Nat.reduceLeDiff, Nat.reduceEqDiff, Nat.reduceLT, Nat.reduceSub, Nat.reduceBEq, forall_const, reduceCtorEq, implies_true, exists_eq_left', exists_eq_left, if_true, if_false, undef]
    exact ⟨[21], by simp [encO, EA, EB, EC, ED, EE, EF, EG, EH, XA, XB, XC, XD, XE, XF, XG, XH, XI, XJ, XK, XL, XM, reduceIte, ↓reduceIte, Nat.reduceAdd, Nat.reduceLeDiff, Nat.reduceEqDiff, Nat.reduceLT, Nat.reduceSub, Nat.reduceBEq, forall_const, reduceCtorEq, implies_true, exists_eq_left', exists_eq_left, if_true, if_false, undef], by simp [encO, EA, EB, EC, ED, EE, EF, EG, EH, XA, XB, XC, XD, XE, XF, XG, XH, XI, XJ, XK, XL, XM, reduceIte, ↓reduceIte, Nat.reduceAdd, Nat.reduceLeDiff, Nat.reduceEqDiff, Nat.reduceLT, Nat.reduceSub, Nat.reduceBEq, forall_const, reduceCtorEq, implies_true, exists_eq_left', exists_eq_left, if_true, if_false, undef], by simp [encO, EA, EB, EC, ED, EE, EF, EG, EH, XA, XB, XC, XD, XE, XF, XG, XH, XI, XJ, XK, XL, XM, reduceIte, ↓reduceIte, Nat.reduceAdd, Nat.reduceLeDiff, Nat.reduceEqDiff, Nat.reduceLT, Nat.reduceSub, Nat.reduceBEq, forall_const, reduceCtorEq, implies_true, exists_eq_left', exists_eq_left, if_true, if_false, undef]⟩

/-- the whole: code, points, starts -/
def bld : List Ord → List Ord × List (Int × Int) × List Nat
  | l => l.foldl (fun s o => (s.1 ++ blk0 s.1.length o, pts s.2.1 s.1.length o, s.2.2 ++ [s.1.length])) ([], [], [])
theorem bld_snoc (l : List Ord) (o : Ord) : bld (l ++ [o]) = ((bld l).1 ++ blk0 (bld l).1.length o, pts (bld l).2.1 (bld l).1.length o, (bld l).2.2 ++ [(bld l).1.length]) := by
  simp [bld, List.foldl_append]
theorem bld_nil : bld [] = ([], [], []) := rfl
def sts (l : List Ord) : List Int := ((bld l).2.2 ++ [(bld l).1.length]).map Int.ofNat
def bldCode (l : List Ord) : List Ord := fixK (bld l).2.1 (sts l) (bld l).1.length (bld l).1

theorem blkLen_le (o : Ord) : 5 ≤ blkLen o ∧ blkLen o ≤ 24 := by have := prm_range o; unfold blkLen; split <;> omega
theorem snocInd {α : Type} {P : List α → Prop} (h0 : P []) (h1 : ∀ l x, P l → P (l ++ [x])) (l : List α) : P l := by
  rw [← List.reverse_reverse l]
  induction l.reverse with
  | nil => exact h0
  | cons x t ih => rw [List.reverse_cons]; exact h1 _ x ih
theorem bld_size (l : List Ord) : (bld l).1.length ≤ 24 * l.length ∧ (bld l).2.2.length = l.length := by
  refine snocInd (P := fun l => (bld l).1.length ≤ 24 * l.length ∧ (bld l).2.2.length = l.length) (by simp [bld_nil]) (fun l o ih => ?_) l
  have := blkLen_le o
  rw [bld_snoc]
  simp [blk0_length]; omega

end Go.Av
