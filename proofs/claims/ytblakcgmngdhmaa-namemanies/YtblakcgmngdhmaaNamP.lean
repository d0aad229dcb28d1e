/- Clauses: the program's function Build. -/
import Derived.Test.YtblakcgmngdhmaaNamO
import Derived.Test.YtblakcgmngdhmaaGateP
set_option linter.unusedSimpArgs false
set_option linter.unusedVariables false
set_option maxRecDepth 100000
namespace Go.Av
open Go.Proofs

theorem cvAdd_nil (c : Cl) : CallsM Try.prog 32 [.ro 1 (c.yes.map I), .ro 1 (c.no.map I), .ptr 0 0] [.box [.v (.slice none 0 0)]] (.tup []) [some (.box [.arr 1 0 1]), some (.arr 2 ([c].map encCl))] := by
  refine fnM_of comp32 (by simp) (by simp) ?_
  unfold code32
  simp (maxSteps := 1000000) only [memOf, encCl, XX, reduceIte, ↓reduceIte, Nat.reduceAdd, Nat.reduceLeDiff, Nat.reduceEqDiff, Nat.reduceLT, Nat.reduceSub, Nat.reduceBEq, forall_const, reduceCtorEq, implies_true, exists_eq_left', exists_eq_left, if_true, if_false, undef]
  refine FzVC.no ?_
  simp (maxSteps := 1000000) only [encCl, XX, reduceIte, ↓reduceIte, Nat.reduceAdd, Nat.reduceLeDiff, Nat.reduceEqDiff, Nat.reduceLT, Nat.reduceSub, Nat.reduceBEq, forall_const, reduceCtorEq, implies_true, exists_eq_left', exists_eq_left, if_true, if_false, undef]
  exact ⟨[6], by simp [encCl, XX, undef], by simp [encCl, XX, undef], by simp [encCl, XX, undef]⟩
theorem cvAdd_more (cs : List Cl) (c : Cl) (N : Nat) (hN : cs.length = N) (hl : N ≤ 100000) : CallsM Try.prog 32 [.ro 1 (c.yes.map I), .ro 1 (c.no.map I), .ptr 0 0] [.box [.arr 1 0 N], .arr 2 (cs.map encCl)] (.tup []) [some (.box [.arr 2 0 (N + 1)]), none, some (.arr 2 ((cs ++ [c]).map encCl))] := by
  refine fnM_of comp32 (by simp) (by simp) ?_
  unfold code32
  have hll : (cs.map encCl).length = N := by simp [hN]
  simp (maxSteps := 1000000) only [memOf, encCl, XX, reduceIte, ↓reduceIte, Nat.reduceAdd, Nat.reduceLeDiff, Nat.reduceEqDiff, Nat.reduceLT, Nat.reduceSub, Nat.reduceBEq, forall_const, reduceCtorEq, implies_true, exists_eq_left', exists_eq_left, if_true, if_false, undef]
  refine FzVC.no ?_
  simp (maxSteps := 1000000) only [hll, encCl, XX, reduceIte, ↓reduceIte, Nat.reduceAdd, Nat.reduceLeDiff, Nat.reduceEqDiff, Nat.reduceLT, Nat.reduceSub, Nat.reduceBEq, forall_const, reduceCtorEq, implies_true, exists_eq_left', exists_eq_left, if_true, if_false, undef]
  exact ⟨by omega, [7], by simp [encCl, XX, undef], by simp [encCl, XX, undef], by simp [encCl, XX, undef]⟩

/-- the variables of the gates so far -/
def vrA (q : List Nat) (r : Nat) : List AV := q.map IN ++ List.replicate r (I 0)
theorem vrA_get {q : List Nat} {r j : Nat} {K : AV → Prop} (h : j < q.length) (hK : K (IN (q.getD j 0))) : Pick (vrA q r) j K := by
  refine ⟨IN (q.getD j 0), ?_, hK⟩
  rw [vrA, List.getElem?_append_left (by simp [h]), List.getElem?_map, List.getD_eq_getElem?_getD, List.getElem?_eq_getElem h]; rfl
theorem vrA_set {q : List Nat} {r x : Nat} : (vrA q (r + 1)).set q.length (IN x) = vrA (q ++ [x]) r := by
  rw [vrA, List.set_append_right _ _ (by simp), List.length_map, Nat.sub_self, List.replicate_succ, List.set_cons_zero, vrA, List.map_append, List.append_assoc]
  rfl
def cvOb (cs : List Cl) : Mem := if cs = [] then [(2, some (.box [.v (.slice none 0 0)])), (14, none)] else [(2, some (.box [.arr 14 0 cs.length])), (14, some (.arr 2 (cs.map encCl)))]
theorem convertP_spec (n : Nat) (l : List Gt) (hn : n ≤ 60) (h1 : 1 ≤ l.length) (h40 : l.length ≤ 40) (hok : GsOk n l) :
    CallsA Try.prog 25 [IN n, .ro 3 (l.map encG)] (.tup [IN (cvN n l), .ro 2 ((cvC n l).map encCl)]) [] := by
  refine fn_of0 comp25 (by simp) ?_
  unfold code25
  have hll : ((l.map encG).length : Int) = l.length := by simp
  simp (maxSteps := 1000000) only [hll, encCl, XX, reduceIte, ↓reduceIte, Nat.reduceAdd, Nat.reduceLeDiff, Nat.reduceEqDiff, Nat.reduceLT, Nat.reduceSub, Nat.reduceBEq, forall_const, reduceCtorEq, implies_true, exists_eq_left', exists_eq_left, if_true, if_false, undef]
  simp (maxSteps := 1000000) only [Int.toNat_natCast]
  repeat (refine ⟨by omega, ?_⟩)
  refine loopR Nat [23, 8] (fun k => [IN k, IN (cvk n l k).v]) (fun k => cvOb (cvk n l k).c ++ [(9, some (.arr 1 (vrA (cvk n l k).q (l.length - k))))]) 1 (fun k => k ≤ l.length) (fun k => l.length - k) (by decide) 0 [none] rfl (by omega)
    (by simp [Back, BackF, fzT, fzM, fzU, fz, fzL, fzO, kin, SubT, Sub, SubL, SubM, SubO, keepM, srcOk, look, lookM, ev, evs, putT, argT, encCl, XX, undef, cvk, cvOb, vrA]) ?_
  intro k hk
  have hcv := cv_ok 0 hok hk
  have hql := hcv.ql
  have hqq := hcv.q
  have hlo := hcv.lo
  have hhi := hcv.hi
  have hcl := hcv.cl
  clear hcv
  by_cases c1 : k < l.length
  · have g1 : decide ((k : Int) < (l.length : Int)) = true := by simp [c1]
    have hw : IntKind.i64.wrap ((k : Int) + 1) = ((k + 1 : Nat) : Int) := by rw [wrap_id] <;> omega
    have hsk : cvk n l (k + 1) = cvS (cvk n l k) l[k] := by rw [cvk, gAt, List.getElem?_eq_getElem c1]; rfl
    obtain ⟨hkind, hin, hfa, hfb⟩ := hok k c1
    have hrr : l.length - k = (l.length - (k + 1)) + 1 := by omega
    generalize cvk n l k = s at *
    obtain ⟨v, q, cs⟩ := s
    simp only at hql hqq hlo hhi hcl hsk
    have hvw : IntKind.i64.wrap ((v : Int) + 1) = ((v + 1 : Nat) : Int) := by rw [wrap_id] <;> omega
    have hvl : (vrA q (l.length - k)).length = l.length := by simp [vrA, hql]; omega
    have hvs : ∀ x : Nat, (vrA q (l.length - k)).set k (IN x) = vrA (q ++ [x]) (l.length - (k + 1)) := fun x => by rw [hrr, ← hql]; exact vrA_set
    by_cases hc0 : cs = []
    · subst hc0
      simp (maxSteps := 1000000) only [hll, g1, cvOb, if_true, List.cons_append, List.nil_append, encCl, XX, reduceIte, ↓reduceIte, Nat.reduceAdd, Nat.reduceLeDiff, Nat.reduceEqDiff, Nat.reduceLT, Nat.reduceSub, Nat.reduceBEq, forall_const, reduceCtorEq, implies_true, exists_eq_left', exists_eq_left, if_true, if_false, undef]
      refine ⟨by omega, pickM c1 ?_⟩
      generalize l[k] = g at *
      obtain ⟨kd, a, b⟩ := g
      simp only at hkind hin hfa hfb
      by_cases k1 : kd = 1
      · have f1 : (kd == 1) = true := by simpa using k1
        have hx := hvs a.toNat
        rw [show IN a.toNat = I a by simp only [IN]; rw [Int.toNat_of_nonneg (hin k1).1]] at hx
        have hst : cvS ⟨v, q, []⟩ ⟨kd, a, b⟩ = ⟨v, q ++ [a.toNat], []⟩ := by rw [cvS, if_pos k1]
        simp (maxSteps := 1000000) only [f1, hw, hvl, encG, splice, AV.cells, encCl, XX, reduceIte, ↓reduceIte, Nat.reduceAdd, Nat.reduceLeDiff, Nat.reduceEqDiff, Nat.reduceLT, Nat.reduceSub, Nat.reduceBEq, forall_const, reduceCtorEq, implies_true, exists_eq_left', exists_eq_left, if_true, if_false, undef]
        refine ⟨by omega, by omega, by omega, k + 1, [none], rfl, by omega, by omega, ?_⟩
        rw [hsk, hst]
        simp [Back, BackF, fzT, fzM, fzU, fz, fzL, fzO, kin, SubT, Sub, SubL, SubM, SubO, keepM, srcOk, look, lookM, ev, evs, putT, argT, encCl, XX, reduceIte, ↓reduceIte, Nat.reduceAdd, Nat.reduceLeDiff, Nat.reduceEqDiff, Nat.reduceLT, Nat.reduceSub, Nat.reduceBEq, forall_const, reduceCtorEq, implies_true, exists_eq_left', exists_eq_left, if_true, if_false, undef, cvOb, hx]
      have f1 : (kd == 1) = false := by simpa using k1
      obtain ⟨a0, ak⟩ := hfa k1
      have hqa := (hqq a.toNat (by omega)).1
      have hpa : ∀ {K : AV → Prop}, K (IN (q.getD a.toNat 0)) → Pick (vrA q (l.length - k)) (0 + a.toNat) K := fun h => by rw [Nat.zero_add]; exact vrA_get (by omega) h
      have hcs : cvS ⟨v, q, []⟩ ⟨kd, a, b⟩ = ⟨v + 1, q ++ [v], [] ++ gcl v (q.getD a.toNat 0) (q.getD b.toNat 0) kd⟩ := by rw [cvS, if_neg k1]
      rw [hcs] at hsk
      generalize q.getD a.toNat 0 = x at *
      simp (maxSteps := 1000000) only [f1, hw, hvl, encG, splice, AV.cells, encCl, XX, reduceIte, ↓reduceIte, Nat.reduceAdd, Nat.reduceLeDiff, Nat.reduceEqDiff, Nat.reduceLT, Nat.reduceSub, Nat.reduceBEq, forall_const, reduceCtorEq, implies_true, exists_eq_left', exists_eq_left, if_true, if_false, undef]
      refine ⟨by omega, by omega, hpa ?_⟩
      simp (maxSteps := 1000000) only [hvl, hvw, hvs, Int.toNat_natCast, Option.toList_some, Option.toList_none, encCl, XX, reduceIte, ↓reduceIte, Nat.reduceAdd, Nat.reduceLeDiff, Nat.reduceEqDiff, Nat.reduceLT, Nat.reduceSub, Nat.reduceBEq, forall_const, reduceCtorEq, implies_true, exists_eq_left', exists_eq_left, if_true, if_false, undef]
      refine ⟨by omega, by omega, c1, ?_⟩
      by_cases k2 : kd = 2
      · have f2 : (kd == 2) = true := by simpa using k2
        simp (maxSteps := 1000000) only [f2, encCl, XX, reduceIte, ↓reduceIte, Nat.reduceAdd, Nat.reduceLeDiff, Nat.reduceEqDiff, Nat.reduceLT, Nat.reduceSub, Nat.reduceBEq, forall_const, reduceCtorEq, implies_true, exists_eq_left', exists_eq_left, if_true, if_false, undef]
        refine callM [some 2] (cvAdd_nil ⟨[(v : Int), (x : Int)], []⟩) (by simp [encCl, XX, undef]) (by simp [encCl, XX, undef]) (by simp [encCl, XX, undef]) ?_
        simp (maxSteps := 1000000) only [hw, encCl, XX, reduceIte, ↓reduceIte, Nat.reduceAdd, Nat.reduceLeDiff, Nat.reduceEqDiff, Nat.reduceLT, Nat.reduceSub, Nat.reduceBEq, forall_const, reduceCtorEq, implies_true, exists_eq_left', exists_eq_left, if_true, if_false, undef]
        refine callM [some 2, some 50] (cvAdd_more [⟨[(v : Int), (x : Int)], []⟩] ⟨[], [(v : Int), (x : Int)]⟩ 1 rfl (by omega)) (by simp [encCl, XX, undef]) (by simp [encCl, XX, undef]) (by simp [encCl, XX, undef]) ?_
        simp (maxSteps := 1000000) only [hw, encCl, XX, reduceIte, ↓reduceIte, Nat.reduceAdd, Nat.reduceLeDiff, Nat.reduceEqDiff, Nat.reduceLT, Nat.reduceSub, Nat.reduceBEq, forall_const, reduceCtorEq, implies_true, exists_eq_left', exists_eq_left, if_true, if_false, undef]
        refine ⟨k + 1, [some 58], rfl, by omega, by omega, ?_⟩
        rw [hsk, gcl, if_pos k2]
        simp [Back, BackF, fzT, fzM, fzU, fz, fzL, fzO, kin, SubT, Sub, SubL, SubM, SubO, keepM, srcOk, look, lookM, ev, evs, putT, argT, encCl, XX, reduceIte, ↓reduceIte, Nat.reduceAdd, Nat.reduceLeDiff, Nat.reduceEqDiff, Nat.reduceLT, Nat.reduceSub, Nat.reduceBEq, forall_const, reduceCtorEq, implies_true, exists_eq_left', exists_eq_left, if_true, if_false, undef, cvOb]
      have f2 : (kd == 2) = false := by simpa using k2
      obtain ⟨b0, bk⟩ := hfb (by omega)
      have hqb := (hqq b.toNat (by omega)).1
      have hvl' : (vrA (q ++ [v]) (l.length - (k + 1))).length = l.length := by simp [vrA, hql]; omega
      have hpb : ∀ {K : AV → Prop}, K (IN (q.getD b.toNat 0)) → Pick (vrA (q ++ [v]) (l.length - (k + 1))) (0 + b.toNat) K := fun h => by rw [Nat.zero_add]; exact vrA_get (by simp; omega) (by rw [getD_snoc (by omega)]; exact h)
      generalize q.getD b.toNat 0 = y at *
      by_cases k3 : kd = 3
      · have f3 : (kd == 3) = true := by simpa using k3
        simp (maxSteps := 1000000) only [f2, f3, hvl', encCl, XX, reduceIte, ↓reduceIte, Nat.reduceAdd, Nat.reduceLeDiff, Nat.reduceEqDiff, Nat.reduceLT, Nat.reduceSub, Nat.reduceBEq, forall_const, reduceCtorEq, implies_true, exists_eq_left', exists_eq_left, if_true, if_false, undef]
        refine ⟨by omega, by omega, hpb ?_⟩
        simp (maxSteps := 1000000) only [encCl, XX, reduceIte, ↓reduceIte, Nat.reduceAdd, Nat.reduceLeDiff, Nat.reduceEqDiff, Nat.reduceLT, Nat.reduceSub, Nat.reduceBEq, forall_const, reduceCtorEq, implies_true, exists_eq_left', exists_eq_left, if_true, if_false, undef]
        refine callM [some 2] (cvAdd_nil ⟨[(x : Int)], [(v : Int)]⟩) (by simp [encCl, XX, undef]) (by simp [encCl, XX, undef]) (by simp [encCl, XX, undef]) ?_
        simp (maxSteps := 1000000) only [hw, encCl, XX, reduceIte, ↓reduceIte, Nat.reduceAdd, Nat.reduceLeDiff, Nat.reduceEqDiff, Nat.reduceLT, Nat.reduceSub, Nat.reduceBEq, forall_const, reduceCtorEq, implies_true, exists_eq_left', exists_eq_left, if_true, if_false, undef]
        refine callM [some 2, some 59] (cvAdd_more [⟨[(x : Int)], [(v : Int)]⟩] ⟨[(y : Int)], [(v : Int)]⟩ 1 rfl (by omega)) (by simp [encCl, XX, undef]) (by simp [encCl, XX, undef]) (by simp [encCl, XX, undef]) ?_
        simp (maxSteps := 1000000) only [hw, encCl, XX, reduceIte, ↓reduceIte, Nat.reduceAdd, Nat.reduceLeDiff, Nat.reduceEqDiff, Nat.reduceLT, Nat.reduceSub, Nat.reduceBEq, forall_const, reduceCtorEq, implies_true, exists_eq_left', exists_eq_left, if_true, if_false, undef]
        refine callM [some 2, some 68] (cvAdd_more [⟨[(x : Int)], [(v : Int)]⟩, ⟨[(y : Int)], [(v : Int)]⟩] ⟨[(v : Int)], [(x : Int), (y : Int)]⟩ 2 rfl (by omega)) (by simp [encCl, XX, undef]) (by simp [encCl, XX, undef]) (by simp [encCl, XX, undef]) ?_
        simp (maxSteps := 1000000) only [hw, encCl, XX, reduceIte, ↓reduceIte, Nat.reduceAdd, Nat.reduceLeDiff, Nat.reduceEqDiff, Nat.reduceLT, Nat.reduceSub, Nat.reduceBEq, forall_const, reduceCtorEq, implies_true, exists_eq_left', exists_eq_left, if_true, if_false, undef]
        refine ⟨k + 1, [some 78], rfl, by omega, by omega, ?_⟩
        rw [hsk, gcl, if_neg k2, if_pos k3]
        simp [Back, BackF, fzT, fzM, fzU, fz, fzL, fzO, kin, SubT, Sub, SubL, SubM, SubO, keepM, srcOk, look, lookM, ev, evs, putT, argT, encCl, XX, reduceIte, ↓reduceIte, Nat.reduceAdd, Nat.reduceLeDiff, Nat.reduceEqDiff, Nat.reduceLT, Nat.reduceSub, Nat.reduceBEq, forall_const, reduceCtorEq, implies_true, exists_eq_left', exists_eq_left, if_true, if_false, undef, cvOb]
      · have f3 : (kd == 3) = false := by simpa using k3
        have f4 : (kd == 4) = true := by simp; omega
        simp (maxSteps := 1000000) only [f2, f3, f4, hvl', encCl, XX, reduceIte, ↓reduceIte, Nat.reduceAdd, Nat.reduceLeDiff, Nat.reduceEqDiff, Nat.reduceLT, Nat.reduceSub, Nat.reduceBEq, forall_const, reduceCtorEq, implies_true, exists_eq_left', exists_eq_left, if_true, if_false, undef]
        refine ⟨by omega, by omega, hpb ?_⟩
        simp (maxSteps := 1000000) only [encCl, XX, reduceIte, ↓reduceIte, Nat.reduceAdd, Nat.reduceLeDiff, Nat.reduceEqDiff, Nat.reduceLT, Nat.reduceSub, Nat.reduceBEq, forall_const, reduceCtorEq, implies_true, exists_eq_left', exists_eq_left, if_true, if_false, undef]
        refine callM [some 2] (cvAdd_nil ⟨[(v : Int)], [(x : Int)]⟩) (by simp [encCl, XX, undef]) (by simp [encCl, XX, undef]) (by simp [encCl, XX, undef]) ?_
        simp (maxSteps := 1000000) only [hw, encCl, XX, reduceIte, ↓reduceIte, Nat.reduceAdd, Nat.reduceLeDiff, Nat.reduceEqDiff, Nat.reduceLT, Nat.reduceSub, Nat.reduceBEq, forall_const, reduceCtorEq, implies_true, exists_eq_left', exists_eq_left, if_true, if_false, undef]
        refine callM [some 2, some 61] (cvAdd_more [⟨[(v : Int)], [(x : Int)]⟩] ⟨[(v : Int)], [(y : Int)]⟩ 1 rfl (by omega)) (by simp [encCl, XX, undef]) (by simp [encCl, XX, undef]) (by simp [encCl, XX, undef]) ?_
        simp (maxSteps := 1000000) only [hw, encCl, XX, reduceIte, ↓reduceIte, Nat.reduceAdd, Nat.reduceLeDiff, Nat.reduceEqDiff, Nat.reduceLT, Nat.reduceSub, Nat.reduceBEq, forall_const, reduceCtorEq, implies_true, exists_eq_left', exists_eq_left, if_true, if_false, undef]
        refine callM [some 2, some 70] (cvAdd_more [⟨[(v : Int)], [(x : Int)]⟩, ⟨[(v : Int)], [(y : Int)]⟩] ⟨[(x : Int), (y : Int)], [(v : Int)]⟩ 2 rfl (by omega)) (by simp [encCl, XX, undef]) (by simp [encCl, XX, undef]) (by simp [encCl, XX, undef]) ?_
        simp (maxSteps := 1000000) only [hw, encCl, XX, reduceIte, ↓reduceIte, Nat.reduceAdd, Nat.reduceLeDiff, Nat.reduceEqDiff, Nat.reduceLT, Nat.reduceSub, Nat.reduceBEq, forall_const, reduceCtorEq, implies_true, exists_eq_left', exists_eq_left, if_true, if_false, undef]
        refine ⟨k + 1, [some 80], rfl, by omega, by omega, ?_⟩
        rw [hsk, gcl, if_neg k2, if_neg k3]
        simp [Back, BackF, fzT, fzM, fzU, fz, fzL, fzO, kin, SubT, Sub, SubL, SubM, SubO, keepM, srcOk, look, lookM, ev, evs, putT, argT, encCl, XX, reduceIte, ↓reduceIte, Nat.reduceAdd, Nat.reduceLeDiff, Nat.reduceEqDiff, Nat.reduceLT, Nat.reduceSub, Nat.reduceBEq, forall_const, reduceCtorEq, implies_true, exists_eq_left', exists_eq_left, if_true, if_false, undef, cvOb]
    · have hcn : ∀ c : List Cl, (cs ++ c = []) = False := fun c => by simp [hc0]
      simp (maxSteps := 1000000) only [hll, g1, cvOb, hc0, if_false, List.cons_append, List.nil_append, encCl, XX, reduceIte, ↓reduceIte, Nat.reduceAdd, Nat.reduceLeDiff, Nat.reduceEqDiff, Nat.reduceLT, Nat.reduceSub, Nat.reduceBEq, forall_const, reduceCtorEq, implies_true, exists_eq_left', exists_eq_left, if_true, if_false, undef]
      refine ⟨by omega, pickM c1 ?_⟩
      generalize l[k] = g at *
      obtain ⟨kd, a, b⟩ := g
      simp only at hkind hin hfa hfb
      by_cases k1 : kd = 1
      · have f1 : (kd == 1) = true := by simpa using k1
        have hx := hvs a.toNat
        rw [show IN a.toNat = I a by simp only [IN]; rw [Int.toNat_of_nonneg (hin k1).1]] at hx
        have hst : cvS ⟨v, q, cs⟩ ⟨kd, a, b⟩ = ⟨v, q ++ [a.toNat], cs⟩ := by rw [cvS, if_pos k1]
        simp (maxSteps := 1000000) only [f1, hw, hvl, encG, splice, AV.cells, encCl, XX, reduceIte, ↓reduceIte, Nat.reduceAdd, Nat.reduceLeDiff, Nat.reduceEqDiff, Nat.reduceLT, Nat.reduceSub, Nat.reduceBEq, forall_const, reduceCtorEq, implies_true, exists_eq_left', exists_eq_left, if_true, if_false, undef]
        refine ⟨by omega, by omega, by omega, k + 1, [some 14], rfl, by omega, by omega, ?_⟩
        rw [hsk, hst]
        simp [Back, BackF, fzT, fzM, fzU, fz, fzL, fzO, kin, SubT, Sub, SubL, SubM, SubO, keepM, srcOk, look, lookM, ev, evs, putT, argT, encCl, XX, reduceIte, ↓reduceIte, Nat.reduceAdd, Nat.reduceLeDiff, Nat.reduceEqDiff, Nat.reduceLT, Nat.reduceSub, Nat.reduceBEq, forall_const, reduceCtorEq, implies_true, exists_eq_left', exists_eq_left, if_true, if_false, undef, cvOb, hx, hcn, hc0]
      have f1 : (kd == 1) = false := by simpa using k1
      obtain ⟨a0, ak⟩ := hfa k1
      have hqa := (hqq a.toNat (by omega)).1
      have hpa : ∀ {K : AV → Prop}, K (IN (q.getD a.toNat 0)) → Pick (vrA q (l.length - k)) (0 + a.toNat) K := fun h => by rw [Nat.zero_add]; exact vrA_get (by omega) h
      have hcs : cvS ⟨v, q, cs⟩ ⟨kd, a, b⟩ = ⟨v + 1, q ++ [v], cs ++ gcl v (q.getD a.toNat 0) (q.getD b.toNat 0) kd⟩ := by rw [cvS, if_neg k1]
      rw [hcs] at hsk
      generalize q.getD a.toNat 0 = x at *
      simp (maxSteps := 1000000) only [f1, hw, hvl, encG, splice, AV.cells, encCl, XX, reduceIte, ↓reduceIte, Nat.reduceAdd, Nat.reduceLeDiff, Nat.reduceEqDiff, Nat.reduceLT, Nat.reduceSub, Nat.reduceBEq, forall_const, reduceCtorEq, implies_true, exists_eq_left', exists_eq_left, if_true, if_false, undef]
      refine ⟨by omega, by omega, hpa ?_⟩
      simp (maxSteps := 1000000) only [hvl, hvw, hvs, Int.toNat_natCast, Option.toList_some, Option.toList_none, encCl, XX, reduceIte, ↓reduceIte, Nat.reduceAdd, Nat.reduceLeDiff, Nat.reduceEqDiff, Nat.reduceLT, Nat.reduceSub, Nat.reduceBEq, forall_const, reduceCtorEq, implies_true, exists_eq_left', exists_eq_left, if_true, if_false, undef]
      refine ⟨by omega, by omega, c1, ?_⟩
      by_cases k2 : kd = 2
      · have f2 : (kd == 2) = true := by simpa using k2
        simp (maxSteps := 1000000) only [f2, encCl, XX, reduceIte, ↓reduceIte, Nat.reduceAdd, Nat.reduceLeDiff, Nat.reduceEqDiff, Nat.reduceLT, Nat.reduceSub, Nat.reduceBEq, forall_const, reduceCtorEq, implies_true, exists_eq_left', exists_eq_left, if_true, if_false, undef]
        refine callM [some 2, some 14] (cvAdd_more cs ⟨[(v : Int), (x : Int)], []⟩ cs.length rfl (by omega)) (by simp [encCl, XX, undef]) (by simp [encCl, XX, undef]) (by simp [encCl, XX, undef]) ?_
        simp (maxSteps := 1000000) only [hw, encCl, XX, reduceIte, ↓reduceIte, Nat.reduceAdd, Nat.reduceLeDiff, Nat.reduceEqDiff, Nat.reduceLT, Nat.reduceSub, Nat.reduceBEq, forall_const, reduceCtorEq, implies_true, exists_eq_left', exists_eq_left, if_true, if_false, undef]
        refine callM [some 2, some 51] (cvAdd_more (cs ++ [⟨[(v : Int), (x : Int)], []⟩]) ⟨[], [(v : Int), (x : Int)]⟩ (cs.length + 1) (by simp) (by omega)) (by simp [encCl, XX, undef]) (by simp [encCl, XX, undef]) (by simp [encCl, XX, undef]) ?_
        simp (maxSteps := 1000000) only [hw, encCl, XX, reduceIte, ↓reduceIte, Nat.reduceAdd, Nat.reduceLeDiff, Nat.reduceEqDiff, Nat.reduceLT, Nat.reduceSub, Nat.reduceBEq, forall_const, reduceCtorEq, implies_true, exists_eq_left', exists_eq_left, if_true, if_false, undef]
        refine ⟨k + 1, [some 59], rfl, by omega, by omega, ?_⟩
        rw [hsk, gcl, if_pos k2]
        simp [Back, BackF, fzT, fzM, fzU, fz, fzL, fzO, kin, SubT, Sub, SubL, SubM, SubO, keepM, srcOk, look, lookM, ev, evs, putT, argT, encCl, XX, reduceIte, ↓reduceIte, Nat.reduceAdd, Nat.reduceLeDiff, Nat.reduceEqDiff, Nat.reduceLT, Nat.reduceSub, Nat.reduceBEq, forall_const, reduceCtorEq, implies_true, exists_eq_left', exists_eq_left, if_true, if_false, undef, cvOb, hcn, hc0]
      have f2 : (kd == 2) = false := by simpa using k2
      obtain ⟨b0, bk⟩ := hfb (by omega)
      have hqb := (hqq b.toNat (by omega)).1
      have hvl' : (vrA (q ++ [v]) (l.length - (k + 1))).length = l.length := by simp [vrA, hql]; omega
      have hpb : ∀ {K : AV → Prop}, K (IN (q.getD b.toNat 0)) → Pick (vrA (q ++ [v]) (l.length - (k + 1))) (0 + b.toNat) K := fun h => by rw [Nat.zero_add]; exact vrA_get (by simp; omega) (by rw [getD_snoc (by omega)]; exact h)
      generalize q.getD b.toNat 0 = y at *
      by_cases k3 : kd = 3
      · have f3 : (kd == 3) = true := by simpa using k3
        simp (maxSteps := 1000000) only [f2, f3, hvl', encCl, XX, reduceIte, ↓reduceIte, Nat.reduceAdd, Nat.reduceLeDiff, Nat.reduceEqDiff, Nat.reduceLT, Nat.reduceSub, Nat.reduceBEq, forall_const, reduceCtorEq, implies_true, exists_eq_left', exists_eq_left, if_true, if_false, undef]
        refine ⟨by omega, by omega, hpb ?_⟩
        simp (maxSteps := 1000000) only [encCl, XX, reduceIte, ↓reduceIte, Nat.reduceAdd, Nat.reduceLeDiff, Nat.reduceEqDiff, Nat.reduceLT, Nat.reduceSub, Nat.reduceBEq, forall_const, reduceCtorEq, implies_true, exists_eq_left', exists_eq_left, if_true, if_false, undef]
        refine callM [some 2, some 14] (cvAdd_more cs ⟨[(x : Int)], [(v : Int)]⟩ cs.length rfl (by omega)) (by simp [encCl, XX, undef]) (by simp [encCl, XX, undef]) (by simp [encCl, XX, undef]) ?_
        simp (maxSteps := 1000000) only [hw, encCl, XX, reduceIte, ↓reduceIte, Nat.reduceAdd, Nat.reduceLeDiff, Nat.reduceEqDiff, Nat.reduceLT, Nat.reduceSub, Nat.reduceBEq, forall_const, reduceCtorEq, implies_true, exists_eq_left', exists_eq_left, if_true, if_false, undef]
        refine callM [some 2, some 60] (cvAdd_more (cs ++ [⟨[(x : Int)], [(v : Int)]⟩]) ⟨[(y : Int)], [(v : Int)]⟩ (cs.length + 1) (by simp) (by omega)) (by simp [encCl, XX, undef]) (by simp [encCl, XX, undef]) (by simp [encCl, XX, undef]) ?_
        simp (maxSteps := 1000000) only [hw, encCl, XX, reduceIte, ↓reduceIte, Nat.reduceAdd, Nat.reduceLeDiff, Nat.reduceEqDiff, Nat.reduceLT, Nat.reduceSub, Nat.reduceBEq, forall_const, reduceCtorEq, implies_true, exists_eq_left', exists_eq_left, if_true, if_false, undef]
        refine callM [some 2, some 69] (cvAdd_more (cs ++ [⟨[(x : Int)], [(v : Int)]⟩, ⟨[(y : Int)], [(v : Int)]⟩]) ⟨[(v : Int)], [(x : Int), (y : Int)]⟩ (cs.length + 2) (by simp) (by omega)) (by simp [encCl, XX, undef]) (by simp [encCl, XX, undef]) (by simp [encCl, XX, undef]) ?_
        simp (maxSteps := 1000000) only [hw, encCl, XX, reduceIte, ↓reduceIte, Nat.reduceAdd, Nat.reduceLeDiff, Nat.reduceEqDiff, Nat.reduceLT, Nat.reduceSub, Nat.reduceBEq, forall_const, reduceCtorEq, implies_true, exists_eq_left', exists_eq_left, if_true, if_false, undef]
        refine ⟨k + 1, [some 79], rfl, by omega, by omega, ?_⟩
        rw [hsk, gcl, if_neg k2, if_pos k3]
        simp [Back, BackF, fzT, fzM, fzU, fz, fzL, fzO, kin, SubT, Sub, SubL, SubM, SubO, keepM, srcOk, look, lookM, ev, evs, putT, argT, encCl, XX, reduceIte, ↓reduceIte, Nat.reduceAdd, Nat.reduceLeDiff, Nat.reduceEqDiff, Nat.reduceLT, Nat.reduceSub, Nat.reduceBEq, forall_const, reduceCtorEq, implies_true, exists_eq_left', exists_eq_left, if_true, if_false, undef, cvOb, hcn, hc0]
      · have f3 : (kd == 3) = false := by simpa using k3
        have f4 : (kd == 4) = true := by simp; omega
        simp (maxSteps := 1000000) only [f2, f3, f4, hvl', encCl, XX, reduceIte, ↓reduceIte, Nat.reduceAdd, Nat.reduceLeDiff, Nat.reduceEqDiff, Nat.reduceLT, Nat.reduceSub, Nat.reduceBEq, forall_const, reduceCtorEq, implies_true, exists_eq_left', exists_eq_left, if_true, if_false, undef]
        refine ⟨by omega, by omega, hpb ?_⟩
        simp (maxSteps := 1000000) only [encCl, XX, reduceIte, ↓reduceIte, Nat.reduceAdd, Nat.reduceLeDiff, Nat.reduceEqDiff, Nat.reduceLT, Nat.reduceSub, Nat.reduceBEq, forall_const, reduceCtorEq, implies_true, exists_eq_left', exists_eq_left, if_true, if_false, undef]
        refine callM [some 2, some 14] (cvAdd_more cs ⟨[(v : Int)], [(x : Int)]⟩ cs.length rfl (by omega)) (by simp [encCl, XX, undef]) (by simp [encCl, XX, undef]) (by simp [encCl, XX, undef]) ?_
        simp (maxSteps := 1000000) only [hw, encCl, XX, reduceIte, ↓reduceIte, Nat.reduceAdd, Nat.reduceLeDiff, Nat.reduceEqDiff, Nat.reduceLT, Nat.reduceSub, Nat.reduceBEq, forall_const, reduceCtorEq, implies_true, exists_eq_left', exists_eq_left, if_true, if_false, undef]
        refine callM [some 2, some 62] (cvAdd_more (cs ++ [⟨[(v : Int)], [(x : Int)]⟩]) ⟨[(v : Int)], [(y : Int)]⟩ (cs.length + 1) (by simp) (by omega)) (by simp [encCl, XX, undef]) (by simp [encCl, XX, undef]) (by simp [encCl, XX, undef]) ?_
        simp (maxSteps := 1000000) only [hw, encCl, XX, reduceIte, ↓reduceIte, Nat.reduceAdd, Nat.reduceLeDiff, Nat.reduceEqDiff, Nat.reduceLT, Nat.reduceSub, Nat.reduceBEq, forall_const, reduceCtorEq, implies_true, exists_eq_left', exists_eq_left, if_true, if_false, undef]
        refine callM [some 2, some 71] (cvAdd_more (cs ++ [⟨[(v : Int)], [(x : Int)]⟩, ⟨[(v : Int)], [(y : Int)]⟩]) ⟨[(x : Int), (y : Int)], [(v : Int)]⟩ (cs.length + 2) (by simp) (by omega)) (by simp [encCl, XX, undef]) (by simp [encCl, XX, undef]) (by simp [encCl, XX, undef]) ?_
        simp (maxSteps := 1000000) only [hw, encCl, XX, reduceIte, ↓reduceIte, Nat.reduceAdd, Nat.reduceLeDiff, Nat.reduceEqDiff, Nat.reduceLT, Nat.reduceSub, Nat.reduceBEq, forall_const, reduceCtorEq, implies_true, exists_eq_left', exists_eq_left, if_true, if_false, undef]
        refine ⟨k + 1, [some 81], rfl, by omega, by omega, ?_⟩
        rw [hsk, gcl, if_neg k2, if_neg k3]
        simp [Back, BackF, fzT, fzM, fzU, fz, fzL, fzO, kin, SubT, Sub, SubL, SubM, SubO, keepM, srcOk, look, lookM, ev, evs, putT, argT, encCl, XX, reduceIte, ↓reduceIte, Nat.reduceAdd, Nat.reduceLeDiff, Nat.reduceEqDiff, Nat.reduceLT, Nat.reduceSub, Nat.reduceBEq, forall_const, reduceCtorEq, implies_true, exists_eq_left', exists_eq_left, if_true, if_false, undef, cvOb, hcn, hc0]
  have g1 : decide ((k : Int) < (l.length : Int)) = false := by simp; omega
  obtain rfl : k = l.length := by omega
  have hl1 : IntKind.i64.wrap ((l.length : Int) - 1) = ((l.length - 1 : Nat) : Int) := by rw [wrap_id] <;> omega
  have hq1 := (hqq (l.length - 1) (by omega)).1
  have hpl : ∀ {K : AV → Prop}, K (IN ((cvk n l l.length).q.getD (l.length - 1) 0)) → Pick (vrA (cvk n l l.length).q (l.length - l.length)) (l.length - 1) K := fun h => vrA_get (by omega) h
  have hcN : cvN n l = (cvk n l l.length).v := rfl
  have hcC : cvC n l = (cvk n l l.length).c ++ [⟨[(((cvk n l l.length).q.getD (l.length - 1) 0 : Nat) : Int)], []⟩] := rfl
  rw [hcN, hcC]
  generalize (cvk n l l.length).q.getD (l.length - 1) 0 = x at *
  generalize cvk n l l.length = s at *
  obtain ⟨v, q, cs⟩ := s
  simp only at hql hqq hlo hhi hcl hpl ⊢
  have hvl : (vrA q (l.length - l.length)).length = l.length := by simp [vrA, hql]
  by_cases hc0 : cs = []
  · subst hc0
    simp (maxSteps := 1000000) only [hll, g1, hl1, hvl, cvOb, if_true, List.cons_append, List.nil_append, Int.toNat_natCast, encCl, XX, reduceIte, ↓reduceIte, Nat.reduceAdd, Nat.reduceLeDiff, Nat.reduceEqDiff, Nat.reduceLT, Nat.reduceSub, Nat.reduceBEq, forall_const, reduceCtorEq, implies_true, exists_eq_left', exists_eq_left, if_true, if_false, undef]
    refine ⟨by omega, by omega, hpl ?_⟩
    simp (maxSteps := 1000000) only [encCl, XX, reduceIte, ↓reduceIte, Nat.reduceAdd, Nat.reduceLeDiff, Nat.reduceEqDiff, Nat.reduceLT, Nat.reduceSub, Nat.reduceBEq, forall_const, reduceCtorEq, implies_true, exists_eq_left', exists_eq_left, if_true, if_false, undef]
    refine callM [some 2] (cvAdd_nil ⟨[(x : Int)], []⟩) (by simp [encCl, XX, undef]) (by simp [encCl, XX, undef]) (by simp [encCl, XX, undef]) ?_
    simp (maxSteps := 1000000) only [Option.toList_some, Option.toList_none, encCl, XX, reduceIte, ↓reduceIte, Nat.reduceAdd, Nat.reduceLeDiff, Nat.reduceEqDiff, Nat.reduceLT, Nat.reduceSub, Nat.reduceBEq, forall_const, reduceCtorEq, implies_true, exists_eq_left', exists_eq_left, if_true, if_false, undef]
  · simp (maxSteps := 1000000) only [hll, g1, hl1, hvl, cvOb, hc0, if_false, List.cons_append, List.nil_append, Int.toNat_natCast, encCl, XX, reduceIte, ↓reduceIte, Nat.reduceAdd, Nat.reduceLeDiff, Nat.reduceEqDiff, Nat.reduceLT, Nat.reduceSub, Nat.reduceBEq, forall_const, reduceCtorEq, implies_true, exists_eq_left', exists_eq_left, if_true, if_false, undef]
    refine ⟨by omega, by omega, hpl ?_⟩
    simp (maxSteps := 1000000) only [encCl, XX, reduceIte, ↓reduceIte, Nat.reduceAdd, Nat.reduceLeDiff, Nat.reduceEqDiff, Nat.reduceLT, Nat.reduceSub, Nat.reduceBEq, forall_const, reduceCtorEq, implies_true, exists_eq_left', exists_eq_left, if_true, if_false, undef]
    refine callM [some 2, some 14] (cvAdd_more cs ⟨[(x : Int)], []⟩ cs.length rfl (by omega)) (by simp [encCl, XX, undef]) (by simp [encCl, XX, undef]) (by simp [encCl, XX, undef]) ?_
    simp (maxSteps := 1000000) only [Option.toList_some, Option.toList_none, encCl, XX, reduceIte, ↓reduceIte, Nat.reduceAdd, Nat.reduceLeDiff, Nat.reduceEqDiff, Nat.reduceLT, Nat.reduceSub, Nat.reduceBEq, forall_const, reduceCtorEq, implies_true, exists_eq_left', exists_eq_left, if_true, if_false, undef]
    exact List.take_of_length_le (by simp)

theorem nameBuildP_spec (inn : Int) (l : List Gt) (hl : (l.length : Int) < 2 ^ 63) : ∃ (vs : Nat) (c : List Cl), CallsA Try.prog 13 [I inn, .ro 3 (l.map encG)] (.tup [IN vs, .ro 2 (c.map encCl), I (gateErr inn l)]) [] ∧ (gateErr inn l ≠ 0 → vs = 0 ∧ c = []) ∧ (gateErr inn l = 0 → Named inn.toNat l vs c) := by
  by_cases h0 : gateErr inn l = 0
  · obtain ⟨hi, h40, hok⟩ := gate_ok h0
    obtain ⟨n, rfl⟩ : ∃ n : Nat, inn = n := ⟨inn.toNat, by omega⟩
    refine ⟨cvN n l, cvC n l, ?_, fun h => absurd h0 h, fun _ => by rw [Int.toNat_natCast]; exact cv_named h40.1 hok⟩
    have hcv := convertP_spec n l (by omega) h40.1 h40.2 hok
    have f : ((0 : Int) != 0) = false := by decide
    refine fn_of0 comp13 (by simp) ?_
    unfold code13
    simp (maxSteps := 1000000) only [encCl, XX, reduceIte, ↓reduceIte, Nat.reduceAdd, Nat.reduceLeDiff, Nat.reduceEqDiff, Nat.reduceLT, Nat.reduceSub, Nat.reduceBEq, forall_const, reduceCtorEq, implies_true, exists_eq_left', exists_eq_left, if_true, if_false, undef]
    refine callF (CallsA.args (gateCheckP_spec (n : Int) l hl) (by simp [encCl, XX, undef])) rfl (by simp [flat, encCl, XX, undef]) ?_
    rw [h0]
    simp (maxSteps := 1000000) only [f, encCl, XX, reduceIte, ↓reduceIte, Nat.reduceAdd, Nat.reduceLeDiff, Nat.reduceEqDiff, Nat.reduceLT, Nat.reduceSub, Nat.reduceBEq, forall_const, reduceCtorEq, implies_true, exists_eq_left', exists_eq_left, if_true, if_false, undef]
    refine callA (CallsA.args (hcv) (by simp [encCl, XX, undef])) rfl ?_
    simp (maxSteps := 1000000) only [encCl, XX, reduceIte, ↓reduceIte, Nat.reduceAdd, Nat.reduceLeDiff, Nat.reduceEqDiff, Nat.reduceLT, Nat.reduceSub, Nat.reduceBEq, forall_const, reduceCtorEq, implies_true, exists_eq_left', exists_eq_left, if_true, if_false, undef]
  · refine ⟨0, [], ?_, fun _ => ⟨rfl, rfl⟩, fun h => absurd h h0⟩
    have f : (gateErr inn l != 0) = true := by simpa using h0
    refine fn_of0 comp13 (by simp) ?_
    unfold code13
    simp (maxSteps := 1000000) only [encCl, XX, reduceIte, ↓reduceIte, Nat.reduceAdd, Nat.reduceLeDiff, Nat.reduceEqDiff, Nat.reduceLT, Nat.reduceSub, Nat.reduceBEq, forall_const, reduceCtorEq, implies_true, exists_eq_left', exists_eq_left, if_true, if_false, undef]
    refine callF (CallsA.args (gateCheckP_spec inn l hl) (by simp [encCl, XX, undef])) rfl (by simp [flat, encCl, XX, undef]) ?_
    simp (maxSteps := 1000000) only [f, encCl, XX, reduceIte, ↓reduceIte, Nat.reduceAdd, Nat.reduceLeDiff, Nat.reduceEqDiff, Nat.reduceLT, Nat.reduceSub, Nat.reduceBEq, forall_const, reduceCtorEq, implies_true, exists_eq_left', exists_eq_left, if_true, if_false, undef]
    rfl

end Go.Av
