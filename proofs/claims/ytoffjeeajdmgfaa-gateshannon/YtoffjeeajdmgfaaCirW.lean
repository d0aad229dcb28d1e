/- Circuits for truth tables: the whole table. -/
import Derived.Test.YtoffjeeajdmgfaaCirR
import Derived.Test.YtoffjeeajdmgfaaGateP
set_option linter.unusedSimpArgs false
set_option linter.unusedVariables false
set_option maxRecDepth 100000
namespace Go.Av
open Go.Proofs

/-- the parts, in the course of one level: the new ones, what is left of the old ones, and what lies behind them -/
def ptC (qs all : List Int) (i : Nat) : List AV := (qs ++ all.drop i).map I
theorem ptC_len {qs all : List Int} {i : Nat} (h : qs.length = i) (hi : i ≤ all.length) : (ptC qs all i).length = all.length := by simp [ptC, h]; omega
theorem ptC_get {qs all : List Int} {i j : Nat} (h : qs.length = i) (hj : i ≤ j) (hl : j < all.length) : (ptC qs all i)[j]? = some (I (all.getD j 0)) := by
  rw [ptC, List.getElem?_map, List.getElem?_append_right (by omega), List.getElem?_drop, h, show i + (j - i) = j by omega, List.getD_eq_getElem?_getD, List.getElem?_eq_getElem hl]; rfl
theorem ptC_set {qs all : List Int} {i : Nat} {x : Int} (h : qs.length = i) (hl : i < all.length) : (ptC qs all i).set i (I x) = ptC (qs ++ [x]) all (i + 1) := by
  rw [ptC, ptC, List.map_append, List.set_append_right _ _ (by simp [h]), List.length_map, h, Nat.sub_self, List.drop_eq_getElem_cons hl, List.map_cons, List.set_cons_zero]
  simp
def psK (t : List Bool) (k : Nat) : List AV := ((tbP t).take k).map I ++ List.replicate (t.length - k) (I 0)
theorem psK_len {t : List Bool} {k : Nat} (h : k ≤ t.length) : (psK t k).length = t.length := by simp [psK, tbP]; omega
theorem psK_set {t : List Bool} {k : Nat} (h : k < t.length) : ((psK t k).set k (I (bif t[k] then -2 else -1))) = psK t (k + 1) := by
  have hl : ((tbP t).take k).length = k := by simp [tbP]; omega
  have hk : k < (tbP t).length := by simpa [tbP] using h
  rw [psK, List.set_append_right _ _ (by rw [List.length_map, hl]; exact Nat.le_refl _), List.length_map, hl, Nat.sub_self, show t.length - k = (t.length - (k + 1)) + 1 by omega, List.replicate_succ, List.set_cons_zero, psK, List.take_add_one, List.getElem?_eq_getElem hk, Option.toList_some,
    List.map_append, List.append_assoc]
  simp [tbP]

/-- the builder at a loop's head -/
def bOb (n : Nat) (gs : List Gt) : Mem := if gs = [] then [(0, some (.box [.v (.slice none 0 0), .v (.map none)]))] else [(0, some (.box [.arr n 0 gs.length, .mp (n + 1)])), (n, some (.arr 3 (gs.map encG))), (n + 1, some (.map (knE 0 gs)))]
theorem bOb0 (n : Nat) : bOb n [] = [(0, some (.box [.v (.slice none 0 0), .v (.map none)]))] := rfl
theorem bOb1 {n : Nat} {gs : List Gt} (h : gs ≠ []) : bOb n gs = [(0, some (.box [.arr n 0 gs.length, .mp (n + 1)])), (n, some (.arr 3 (gs.map encG))), (n + 1, some (.map (knE 0 gs)))] := by unfold bOb; rw [if_neg h]
def bR (gs : List Gt) : List (Option MObj) := if gs = [] then [some (.box [.v (.slice none 0 0), .v (.map none)])] else clN [] gs
theorem ne_pre {gs gs' : List Gt} (h : gs ≠ []) (hp : ∃ r, gs' = gs ++ r) : gs' ≠ [] := by
  obtain ⟨r, rfl⟩ := hp; simp [h]

theorem addR_pre (gs : List Gt) (g : Gt) : ∃ x, (addR gs g).1 = gs ++ x := addG_pre gs g
theorem notR_pre (gs : List Gt) (a : Int) : ∃ x, (notR gs a).1 = gs ++ x := by
  unfold notR; split <;> (try split) <;> first | exact addR_pre _ _ | exact ⟨[], by simp⟩
theorem andR_pre (gs : List Gt) (a b : Int) : ∃ x, (andR gs a b).1 = gs ++ x := by
  unfold andR; split <;> (try split) <;> (try split) <;> first | exact addR_pre _ _ | exact ⟨[], by simp⟩
theorem orR_pre (gs : List Gt) (a b : Int) : ∃ x, (orR gs a b).1 = gs ++ x := by
  unfold orR; split <;> (try split) <;> (try split) <;> first | exact addR_pre _ _ | exact ⟨[], by simp⟩
theorem addR_ne (gs : List Gt) (g : Gt) : (addR gs g).1 ≠ [] := fun h => by
  have := addN_lt gs g
  rw [show addG gs g = [] from h] at this
  simp at this
theorem cho_ne {gs : List Gt} {d : Nat} {no yes : Int} (h : no ≠ yes) : (choR gs d no yes).1 ≠ [] := by
  unfold choR
  rw [if_neg h]
  have h1 := ne_pre (addR_ne gs ⟨1, d, 0⟩) (notR_pre (inR gs d).1 (inR gs d).2)
  split
  · exact ne_pre h1 (orR_pre _ _ _)
  · split
    · exact ne_pre h1 (orR_pre _ _ _)
    · exact ne_pre (ne_pre (ne_pre h1 (andR_pre _ _ _)) (andR_pre _ _ _)) (orR_pre _ _ _)
theorem cho_same (gs : List Gt) (d : Nat) (no : Int) : choR gs d no no = (gs, no) := by unfold choR; rw [if_pos rfl]

theorem ctab_spec (inn : Nat) (t : List Bool) (hi : 1 ≤ inn ∧ inn ≤ 5) (ht : t.length = 2 ^ inn) : CallsM Try.prog 25 [.ptr 0 0, IN inn, .ro 1 (t.map Bo)] (clZ []) (I ((tbR t inn).2.getD 0 0)) (bR (tbR t inn).1) := by
  have ht5 : t.length ≤ 32 := by
    rw [ht]; calc 2 ^ inn ≤ 2 ^ 5 := Nat.pow_le_pow_right (by omega) hi.2
              _ = 32 := rfl
  have hll : ((t.map Bo).length : Int) = t.length := by simp
  have hrep : List.replicate ((t.length : Int)).toNat (AV.v (.int .i64 0)) = psK t 0 := by simp [psK, I]
  refine fnM_of comp25 (by simp) (by unfold bR; split <;> simp [clZ, clN]) ?_
  unfold code25
  simp (maxSteps := 1000000) only [memOf, hll, hrep, List.map_nil, List.length_nil, encG, clM, clR, clZ, clN, vrest, frzL_vs, kysL_vs, reGL_vs, keysInL_vs, fzL_vs, SubL_vs, nbT, nbF, spl0, List.contains_nil, List.contains_cons, Bool.false_or, Bool.true_or, Bool.or_false, XX, reduceIte, ↓reduceIte, Nat.reduceAdd, Nat.reduceLeDiff, Nat.reduceEqDiff, Nat.reduceLT, Nat.reduceSub, Nat.reduceBEq, forall_const, reduceCtorEq, implies_true, exists_eq_left', exists_eq_left, if_true, if_false, undef]
  refine ⟨by omega, by omega, by omega, ?_⟩
  refine loopO Nat [18] (fun k => [IN k]) (fun k => [(4, some (.arr 1 (psK t k)))]) (fun k => k ≤ t.length) (fun k => t.length - k) (by decide) 0 (by simp) (by simp [Back, BackF, fzT, fzM, fzU, fz, fzL, fzO, kin, SubT, Sub, SubL, SubM, SubO, keepM, srcOk, look, lookM, ev, evs, putT, argT, encG, clM, clR, clZ, clN, vrest, frzL_vs, kysL_vs, reGL_vs, keysInL_vs, fzL_vs, SubL_vs, nbT, nbF, spl0, List.contains_nil, List.contains_cons, Bool.false_or, Bool.true_or, Bool.or_false, XX, undef]) ?_
  intro k hk
  have hal := psK_len hk
  by_cases c1 : k < t.length
  · have g1 : decide ((k : Int) < (t.length : Int)) = true := by simp [c1]
    have hwk : IntKind.i64.wrap ((k : Int) + 1) = ((k + 1 : Nat) : Int) := by rw [wrap_id] <;> omega
    have hset := psK_set c1
    simp (maxSteps := 1000000) only [g1, encG, clM, clR, clZ, clN, vrest, frzL_vs, kysL_vs, reGL_vs, keysInL_vs, fzL_vs, SubL_vs, nbT, nbF, spl0, List.contains_nil, List.contains_cons, Bool.false_or, Bool.true_or, Bool.or_false, XX, reduceIte, ↓reduceIte, Nat.reduceAdd, Nat.reduceLeDiff, Nat.reduceEqDiff, Nat.reduceLT, Nat.reduceSub, Nat.reduceBEq, forall_const, reduceCtorEq, implies_true, exists_eq_left', exists_eq_left, if_true, if_false, undef]
    refine ⟨by omega, pickM c1 ?_⟩
    have hx := c1
    generalize t[k] = b at *
    simp (maxSteps := 1000000) only [encG, clM, clR, clZ, clN, vrest, frzL_vs, kysL_vs, reGL_vs, keysInL_vs, fzL_vs, SubL_vs, nbT, nbF, spl0, List.contains_nil, List.contains_cons, Bool.false_or, Bool.true_or, Bool.or_false, XX, reduceIte, ↓reduceIte, Nat.reduceAdd, Nat.reduceLeDiff, Nat.reduceEqDiff, Nat.reduceLT, Nat.reduceSub, Nat.reduceBEq, forall_const, reduceCtorEq, implies_true, exists_eq_left', exists_eq_left, if_true, if_false, undef]
    refine ⟨by omega, by omega, by omega, ?_⟩
    cases b with
    | false =>
      simp (maxSteps := 1000000) only [hwk, Bo, encG, clM, clR, clZ, clN, vrest, frzL_vs, kysL_vs, reGL_vs, keysInL_vs, fzL_vs, SubL_vs, nbT, nbF, spl0, List.contains_nil, List.contains_cons, Bool.false_or, Bool.true_or, Bool.or_false, XX, reduceIte, ↓reduceIte, Nat.reduceAdd, Nat.reduceLeDiff, Nat.reduceEqDiff, Nat.reduceLT, Nat.reduceSub, Nat.reduceBEq, forall_const, reduceCtorEq, implies_true, exists_eq_left', exists_eq_left, if_true, if_false, undef]
      exact ⟨k + 1, by omega, by omega, by simp only [cond_false] at hset; simp [Back, BackF, fzT, fzM, fzU, fz, fzL, fzO, kin, SubT, Sub, SubL, SubM, SubO, keepM, srcOk, look, lookM, ev, evs, putT, argT, encG, clM, clR, clZ, clN, vrest, frzL_vs, kysL_vs, reGL_vs, keysInL_vs, fzL_vs, SubL_vs, nbT, nbF, spl0, List.contains_nil, List.contains_cons, Bool.false_or, Bool.true_or, Bool.or_false, XX, reduceIte, ↓reduceIte, Nat.reduceAdd, Nat.reduceLeDiff, Nat.reduceEqDiff, Nat.reduceLT, Nat.reduceSub, Nat.reduceBEq, forall_const, reduceCtorEq, implies_true, exists_eq_left', exists_eq_left, if_true, if_false, undef, ← hset, I]⟩
    | true =>
      simp (maxSteps := 1000000) only [hwk, Bo, encG, clM, clR, clZ, clN, vrest, frzL_vs, kysL_vs, reGL_vs, keysInL_vs, fzL_vs, SubL_vs, nbT, nbF, spl0, List.contains_nil, List.contains_cons, Bool.false_or, Bool.true_or, Bool.or_false, XX, reduceIte, ↓reduceIte, Nat.reduceAdd, Nat.reduceLeDiff, Nat.reduceEqDiff, Nat.reduceLT, Nat.reduceSub, Nat.reduceBEq, forall_const, reduceCtorEq, implies_true, exists_eq_left', exists_eq_left, if_true, if_false, undef]
      exact ⟨by omega, by omega, by simp only [List.length_set]; omega, k + 1, by omega, by omega, by simp only [cond_true] at hset; simp [Back, BackF, fzT, fzM, fzU, fz, fzL, fzO, kin, SubT, Sub, SubL, SubM, SubO, keepM, srcOk, look, lookM, ev, evs, putT, argT, encG, clM, clR, clZ, clN, vrest, frzL_vs, kysL_vs, reGL_vs, keysInL_vs, fzL_vs, SubL_vs, nbT, nbF, spl0, List.contains_nil, List.contains_cons, Bool.false_or, Bool.true_or, Bool.or_false, XX, reduceIte, ↓reduceIte, Nat.reduceAdd, Nat.reduceLeDiff, Nat.reduceEqDiff, Nat.reduceLT, Nat.reduceSub, Nat.reduceBEq, forall_const, reduceCtorEq, implies_true, exists_eq_left', exists_eq_left, if_true, if_false, undef, ← hset, I]⟩
  have g1 : decide ((k : Int) < (t.length : Int)) = false := by simp; omega
  obtain rfl : k = t.length := by omega
  have hps : psK t t.length = (tbP t).map I := by
    have hl : (tbP t).length = t.length := by simp [tbP]
    rw [psK, Nat.sub_self, List.replicate_zero, List.append_nil, ← hl, List.take_length]
  simp (maxSteps := 1000000) only [g1, hps, encG, clM, clR, clZ, clN, vrest, frzL_vs, kysL_vs, reGL_vs, keysInL_vs, fzL_vs, SubL_vs, nbT, nbF, spl0, List.contains_nil, List.contains_cons, Bool.false_or, Bool.true_or, Bool.or_false, XX, reduceIte, ↓reduceIte, Nat.reduceAdd, Nat.reduceLeDiff, Nat.reduceEqDiff, Nat.reduceLT, Nat.reduceSub, Nat.reduceBEq, forall_const, reduceCtorEq, implies_true, exists_eq_left', exists_eq_left, if_true, if_false, undef]
  refine loopR (Nat × List Int) [32, 7] (fun s => [IN s.1, .arr 4 0 (tbR t s.1).2.length]) (fun s => bOb 12 (tbR t s.1).1 ++ [(4, some (.arr 1 (((tbR t s.1).2 ++ s.2).map I)))]) 2
    (fun s => s.1 ≤ inn ∧ (tbR t s.1).2.length + s.2.length = t.length) (fun s => inn - s.1) (by decide) (0, []) [none, none] rfl ⟨by omega, by simp [tbR, tbP]⟩ (by simp [Back, BackF, fzT, fzM, fzU, fz, fzL, fzO, kin, SubT, Sub, SubL, SubM, SubO, keepM, srcOk, look, lookM, ev, evs, putT, argT, encG, clM, clR, clZ, clN, vrest, frzL_vs, kysL_vs, reGL_vs, keysInL_vs, fzL_vs, SubL_vs, nbT, nbF, spl0, List.contains_nil, List.contains_cons, Bool.false_or, Bool.true_or, Bool.or_false, XX, undef, tbR, tbP, bOb0]) ?_
  rintro ⟨d, junk⟩ ⟨hd, hjl⟩
  simp only at hd hjl
  have T := tbR_ok ht d hd
  have hc := T.cnt
  have hpow : 2 ^ inn ≤ 32 := by omega
  by_cases c2 : d < inn
  · have g2 : decide ((d : Int) < (inn : Int)) = true := by simp [c2]
    have hwd : IntKind.i64.wrap ((d : Int) + 1) = ((d + 1 : Nat) : Int) := by rw [wrap_id] <;> omega
    have hnx : tbR t (d + 1) = lvR d (tbR t d).1 (tbR t d).2 ((tbR t d).2.length / 2) := rfl
    have hps2 : (tbR t d).2.length = 2 * ((tbR t d).2.length / 2) := by
      have : (tbR t d).2.length = 2 * 2 ^ (inn - (d + 1)) := by rw [T.len, ← Nat.pow_succ', show (inn - (d + 1)).succ = inn - d by omega]
      omega
    have L := fun i (h : 2 * i ≤ (tbR t d).2.length) => lvR_ok (inn := inn) c2 T.ok T.rng i h
    generalize tbR t d = s at *
    obtain ⟨half, hhalf⟩ : ∃ half, half = s.2.length / 2 := ⟨_, rfl⟩
    rw [← hhalf] at hps2 hnx
    have hq : IntKind.i64.wrap ((s.2.length : Int).tdiv 2) = (half : Int) := by
      rw [Int.tdiv_eq_ediv_of_nonneg (by omega), hps2, wrap_id] <;> omega
    have hal2 : (s.2 ++ junk).length = t.length := by rw [List.length_append]; omega
    have hgD : ∀ j, j < s.2.length → (s.2 ++ junk).getD j 0 = s.2.getD j 0 := fun j hj => by rw [List.getD_eq_getElem?_getD, List.getElem?_append_left hj, ← List.getD_eq_getElem?_getD]
    by_cases hz : s.1 = []
    · simp (maxSteps := 1000000) only [hz, bOb0, g2, hq, encG, clM, clR, clZ, clN, vrest, frzL_vs, kysL_vs, reGL_vs, keysInL_vs, fzL_vs, SubL_vs, nbT, nbF, spl0, List.contains_nil, List.contains_cons, Bool.false_or, Bool.true_or, Bool.or_false, XX, reduceIte, ↓reduceIte, Nat.reduceAdd, Nat.reduceLeDiff, Nat.reduceEqDiff, Nat.reduceLT, Nat.reduceSub, Nat.reduceBEq, forall_const, reduceCtorEq, implies_true, exists_eq_left', exists_eq_left, if_true, if_false, undef]
      rw [hz] at L
      refine ⟨by decide, ?_⟩
      refine loopR Nat [39] (fun i => [IN i]) (fun i => bOb 23 (lvR d [] s.2 i).1 ++ [(4, some (.arr 1 (ptC (lvR d [] s.2 i).2 (s.2 ++ junk) i)))]) 2
        (fun i => i ≤ half) (fun i => half - i) (by decide) 0 [none, none] rfl (by omega) (by simp [Back, BackF, fzT, fzM, fzU, fz, fzL, fzO, kin, SubT, Sub, SubL, SubM, SubO, keepM, srcOk, look, lookM, ev, evs, putT, argT, encG, clM, clR, clZ, clN, vrest, frzL_vs, kysL_vs, reGL_vs, keysInL_vs, fzL_vs, SubL_vs, nbT, nbF, spl0, List.contains_nil, List.contains_cons, Bool.false_or, Bool.true_or, Bool.or_false, XX, undef, lvR, ptC, bOb0]) ?_
      intro i hi2
      have J := L i (by omega)
      have jc := J.cnt
      have jp := phi_le (lvR d [] s.2 i).1 d
      have jl := J.len
      simp only [List.length_nil] at jc
      by_cases c3 : i < half
      · have g3 : decide ((i : Int) < (half : Int)) = true := by simp [c3]
        have hwi : IntKind.i64.wrap ((i : Int) + 1) = ((i + 1 : Nat) : Int) := by rw [wrap_id] <;> omega
        have w2 : IntKind.i64.wrap (2 * (i : Int)) = ((2 * i : Nat) : Int) := by rw [wrap_id] <;> omega
        have w3 : IntKind.i64.wrap (((2 * i : Nat) : Int) + 1) = ((2 * i + 1 : Nat) : Int) := by rw [wrap_id] <;> omega
        have hsp := fun rest => cchoose_spec rest (lvR d [] s.2 i).1 d (s.2.getD (2 * i) 0) (s.2.getD (2 * i + 1) 0) (by omega)
        have hsz := fun rest (hne : s.2.getD (2 * i) 0 ≠ s.2.getD (2 * i + 1) 0) => cchoose0_spec rest d (s.2.getD (2 * i) 0) (s.2.getD (2 * i + 1) 0) hne
        have hcn := @cho_ne (lvR d [] s.2 i).1 d (s.2.getD (2 * i) 0) (s.2.getD (2 * i + 1) 0)
        have hst : lvR d [] s.2 (i + 1) = ((choR (lvR d [] s.2 i).1 d (s.2.getD (2 * i) 0) (s.2.getD (2 * i + 1) 0)).1, (lvR d [] s.2 i).2 ++ [(choR (lvR d [] s.2 i).1 d (s.2.getD (2 * i) 0) (s.2.getD (2 * i + 1) 0)).2]) := rfl
        have hp1 := ptC_get (all := s.2 ++ junk) (j := 2 * i) jl (by omega) (by omega)
        have hp2 := ptC_get (all := s.2 ++ junk) (j := 2 * i + 1) jl (by omega) (by omega)
        rw [hgD _ (by omega)] at hp1 hp2
        have hpl := ptC_len (all := s.2 ++ junk) jl (by omega)
        have hps := fun x => ptC_set (all := s.2 ++ junk) (x := x) jl (by omega)
        have Jp := J.pre
        generalize hqq : lvR d [] s.2 i = q at *
        generalize s.2.getD (2 * i) 0 = no at *
        generalize s.2.getD (2 * i + 1) 0 = yes at *
        by_cases hqz : q.1 = []
        · rw [hqz] at hst hcn
          simp (maxSteps := 1000000) only [hqz, bOb0, g3, w2, w3, encG, clM, clR, clZ, clN, vrest, frzL_vs, kysL_vs, reGL_vs, keysInL_vs, fzL_vs, SubL_vs, nbT, nbF, spl0, List.contains_nil, List.contains_cons, Bool.false_or, Bool.true_or, Bool.or_false, XX, reduceIte, ↓reduceIte, Nat.reduceAdd, Nat.reduceLeDiff, Nat.reduceEqDiff, Nat.reduceLT, Nat.reduceSub, Nat.reduceBEq, forall_const, reduceCtorEq, implies_true, exists_eq_left', exists_eq_left, if_true, if_false, undef]
          refine ⟨by omega, by omega, Pick.mk (I no) (by simp only [Int.toNat_natCast, Nat.zero_add]; exact hp1) ?_⟩
          simp (maxSteps := 1000000) only [w2, w3, encG, clM, clR, clZ, clN, vrest, frzL_vs, kysL_vs, reGL_vs, keysInL_vs, fzL_vs, SubL_vs, nbT, nbF, spl0, List.contains_nil, List.contains_cons, Bool.false_or, Bool.true_or, Bool.or_false, XX, reduceIte, ↓reduceIte, Nat.reduceAdd, Nat.reduceLeDiff, Nat.reduceEqDiff, Nat.reduceLT, Nat.reduceSub, Nat.reduceBEq, forall_const, reduceCtorEq, implies_true, exists_eq_left', exists_eq_left, if_true, if_false, undef]
          refine ⟨by omega, by omega, Pick.mk (I yes) (by simp only [Int.toNat_natCast, Nat.zero_add]; exact hp2) ?_⟩
          simp (maxSteps := 1000000) only [w2, w3, encG, clM, clR, clZ, clN, vrest, frzL_vs, kysL_vs, reGL_vs, keysInL_vs, fzL_vs, SubL_vs, nbT, nbF, spl0, List.contains_nil, List.contains_cons, Bool.false_or, Bool.true_or, Bool.or_false, XX, reduceIte, ↓reduceIte, Nat.reduceAdd, Nat.reduceLeDiff, Nat.reduceEqDiff, Nat.reduceLT, Nat.reduceSub, Nat.reduceBEq, forall_const, reduceCtorEq, implies_true, exists_eq_left', exists_eq_left, if_true, if_false, undef]
          by_cases hne : no = yes
          · subst hne
            rw [cho_same] at hst
            refine callYp 0 [] [] [.v (.slice none 0 0), .v (.map none)] [.v (.slice none 0 0), .v (.map none)] [] [] [] (fun rest _ => cchooseS_spec rest d no) rfl (by simp) rfl (by simp [encG, clM, clR, clZ, clN, vrest, frzL_vs, kysL_vs, reGL_vs, keysInL_vs, fzL_vs, SubL_vs, nbT, nbF, spl0, List.contains_nil, List.contains_cons, Bool.false_or, Bool.true_or, Bool.or_false, XX, undef]) (by simp) (by simp [encG, clM, clR, clZ, clN, vrest, frzL_vs, kysL_vs, reGL_vs, keysInL_vs, fzL_vs, SubL_vs, nbT, nbF, spl0, List.contains_nil, List.contains_cons, Bool.false_or, Bool.true_or, Bool.or_false, XX, undef]) (by simp [encG, clM, clR, clZ, clN, vrest, frzL_vs, kysL_vs, reGL_vs, keysInL_vs, fzL_vs, SubL_vs, nbT, nbF, spl0, List.contains_nil, List.contains_cons, Bool.false_or, Bool.true_or, Bool.or_false, XX, undef]) (by simp [encG, clM, clR, clZ, clN, vrest, frzL_vs, kysL_vs, reGL_vs, keysInL_vs, fzL_vs, SubL_vs, nbT, nbF, spl0, List.contains_nil, List.contains_cons, Bool.false_or, Bool.true_or, Bool.or_false, XX, undef]) (by simp [encG, clM, clR, clZ, clN, vrest, frzL_vs, kysL_vs, reGL_vs, keysInL_vs, fzL_vs, SubL_vs, nbT, nbF, spl0, List.contains_nil, List.contains_cons, Bool.false_or, Bool.true_or, Bool.or_false, XX, undef]) (by simp [encG, clM, clR, clZ, clN, vrest, frzL_vs, kysL_vs, reGL_vs, keysInL_vs, fzL_vs, SubL_vs, nbT, nbF, spl0, List.contains_nil, List.contains_cons, Bool.false_or, Bool.true_or, Bool.or_false, XX, undef]) (by simp) (by simp) (by simp [encG, clM, clR, clZ, clN, vrest, frzL_vs, kysL_vs, reGL_vs, keysInL_vs, fzL_vs, SubL_vs, nbT, nbF, spl0, List.contains_nil, List.contains_cons, Bool.false_or, Bool.true_or, Bool.or_false, XX, undef]) ?_
            simp (maxSteps := 1000000) only [w2, w3, hwi, encG, clM, clR, clZ, clN, vrest, frzL_vs, kysL_vs, reGL_vs, keysInL_vs, fzL_vs, SubL_vs, nbT, nbF, spl0, List.contains_nil, List.contains_cons, Bool.false_or, Bool.true_or, Bool.or_false, XX, reduceIte, ↓reduceIte, Nat.reduceAdd, Nat.reduceLeDiff, Nat.reduceEqDiff, Nat.reduceLT, Nat.reduceSub, Nat.reduceBEq, forall_const, reduceCtorEq, implies_true, exists_eq_left', exists_eq_left, if_true, if_false, undef]
            exact ⟨by omega, by omega, by omega, i + 1, [none, none], rfl, by omega, by omega, by simp [Back, BackF, fzT, fzM, fzU, fz, fzL, fzO, kin, SubT, Sub, SubL, SubM, SubO, keepM, srcOk, look, lookM, ev, evs, putT, argT, encG, clM, clR, clZ, clN, vrest, frzL_vs, kysL_vs, reGL_vs, keysInL_vs, fzL_vs, SubL_vs, nbT, nbF, spl0, List.contains_nil, List.contains_cons, Bool.false_or, Bool.true_or, Bool.or_false, XX, undef, hst, bOb0, ← hps]⟩
          · have hcn' := hcn hne
            have hsz' := fun rest => hsz rest hne
            generalize choR [] d no yes = c at *
            refine callYp 0 [] [] [.v (.slice none 0 0), .v (.map none)] [.arr 1 0 c.1.length, .mp 2] [] [] [some (.arr 3 (c.1.map encG)), some (.map (knE 0 c.1))] (fun rest _ => hsz' rest) rfl (by simp) rfl (by simp [encG, clM, clR, clZ, clN, vrest, frzL_vs, kysL_vs, reGL_vs, keysInL_vs, fzL_vs, SubL_vs, nbT, nbF, spl0, List.contains_nil, List.contains_cons, Bool.false_or, Bool.true_or, Bool.or_false, XX, undef]) (by simp) (by simp [encG, clM, clR, clZ, clN, vrest, frzL_vs, kysL_vs, reGL_vs, keysInL_vs, fzL_vs, SubL_vs, nbT, nbF, spl0, List.contains_nil, List.contains_cons, Bool.false_or, Bool.true_or, Bool.or_false, XX, undef]) (by simp [encG, clM, clR, clZ, clN, vrest, frzL_vs, kysL_vs, reGL_vs, keysInL_vs, fzL_vs, SubL_vs, nbT, nbF, spl0, List.contains_nil, List.contains_cons, Bool.false_or, Bool.true_or, Bool.or_false, XX, undef]) (by simp [encG, clM, clR, clZ, clN, vrest, frzL_vs, kysL_vs, reGL_vs, keysInL_vs, fzL_vs, SubL_vs, nbT, nbF, spl0, List.contains_nil, List.contains_cons, Bool.false_or, Bool.true_or, Bool.or_false, XX, undef]) (by simp [encG, clM, clR, clZ, clN, vrest, frzL_vs, kysL_vs, reGL_vs, keysInL_vs, fzL_vs, SubL_vs, nbT, nbF, spl0, List.contains_nil, List.contains_cons, Bool.false_or, Bool.true_or, Bool.or_false, XX, undef]) (by simp [encG, clM, clR, clZ, clN, vrest, frzL_vs, kysL_vs, reGL_vs, keysInL_vs, fzL_vs, SubL_vs, nbT, nbF, spl0, List.contains_nil, List.contains_cons, Bool.false_or, Bool.true_or, Bool.or_false, XX, undef]) (by simp) (by simp) (by simp [encG, clM, clR, clZ, clN, vrest, frzL_vs, kysL_vs, reGL_vs, keysInL_vs, fzL_vs, SubL_vs, nbT, nbF, spl0, List.contains_nil, List.contains_cons, Bool.false_or, Bool.true_or, Bool.or_false, XX, undef]) ?_
            simp (maxSteps := 1000000) only [w2, w3, hwi, encG, clM, clR, clZ, clN, vrest, frzL_vs, kysL_vs, reGL_vs, keysInL_vs, fzL_vs, SubL_vs, nbT, nbF, spl0, List.contains_nil, List.contains_cons, Bool.false_or, Bool.true_or, Bool.or_false, XX, reduceIte, ↓reduceIte, Nat.reduceAdd, Nat.reduceLeDiff, Nat.reduceEqDiff, Nat.reduceLT, Nat.reduceSub, Nat.reduceBEq, forall_const, reduceCtorEq, implies_true, exists_eq_left', exists_eq_left, if_true, if_false, undef]
            exact ⟨by omega, by omega, by omega, i + 1, [some 43, some 46], rfl, by omega, by omega, by simp [Back, BackF, fzT, fzM, fzU, fz, fzL, fzO, kin, SubT, Sub, SubL, SubM, SubO, keepM, srcOk, look, lookM, ev, evs, putT, argT, encG, clM, clR, clZ, clN, vrest, frzL_vs, kysL_vs, reGL_vs, keysInL_vs, fzL_vs, SubL_vs, nbT, nbF, spl0, List.contains_nil, List.contains_cons, Bool.false_or, Bool.true_or, Bool.or_false, XX, undef, hst, bOb1 hcn', ← hps]⟩
        · have hcn2 : (choR q.1 d no yes).1 ≠ [] := by
            by_cases hne : no = yes
            · rw [hne, cho_same]; exact hqz
            · exact hcn hne
          generalize choR q.1 d no yes = c at *
          simp (maxSteps := 1000000) only [bOb1 hqz, g3, w2, w3, encG, clM, clR, clZ, clN, vrest, frzL_vs, kysL_vs, reGL_vs, keysInL_vs, fzL_vs, SubL_vs, nbT, nbF, spl0, List.contains_nil, List.contains_cons, Bool.false_or, Bool.true_or, Bool.or_false, XX, reduceIte, ↓reduceIte, Nat.reduceAdd, Nat.reduceLeDiff, Nat.reduceEqDiff, Nat.reduceLT, Nat.reduceSub, Nat.reduceBEq, forall_const, reduceCtorEq, implies_true, exists_eq_left', exists_eq_left, if_true, if_false, undef]
          refine ⟨by omega, by omega, Pick.mk (I no) (by simp only [Int.toNat_natCast, Nat.zero_add]; exact hp1) ?_⟩
          simp (maxSteps := 1000000) only [w2, w3, encG, clM, clR, clZ, clN, vrest, frzL_vs, kysL_vs, reGL_vs, keysInL_vs, fzL_vs, SubL_vs, nbT, nbF, spl0, List.contains_nil, List.contains_cons, Bool.false_or, Bool.true_or, Bool.or_false, XX, reduceIte, ↓reduceIte, Nat.reduceAdd, Nat.reduceLeDiff, Nat.reduceEqDiff, Nat.reduceLT, Nat.reduceSub, Nat.reduceBEq, forall_const, reduceCtorEq, implies_true, exists_eq_left', exists_eq_left, if_true, if_false, undef]
          refine ⟨by omega, by omega, Pick.mk (I yes) (by simp only [Int.toNat_natCast, Nat.zero_add]; exact hp2) ?_⟩
          simp (maxSteps := 1000000) only [w2, w3, encG, clM, clR, clZ, clN, vrest, frzL_vs, kysL_vs, reGL_vs, keysInL_vs, fzL_vs, SubL_vs, nbT, nbF, spl0, List.contains_nil, List.contains_cons, Bool.false_or, Bool.true_or, Bool.or_false, XX, reduceIte, ↓reduceIte, Nat.reduceAdd, Nat.reduceLeDiff, Nat.reduceEqDiff, Nat.reduceLT, Nat.reduceSub, Nat.reduceBEq, forall_const, reduceCtorEq, implies_true, exists_eq_left', exists_eq_left, if_true, if_false, undef]
          refine callYp 0 [23, 24] [] [.arr 1 0 q.1.length, .mp 2] [.arr 3 0 c.1.length, .mp 2] [.arr 3 (q.1.map encG), .map (knE 0 q.1)] [none, some (.map (knE 0 c.1))] [some (.arr 3 (c.1.map encG))] (fun rest _ => hsp rest) rfl (by simp) rfl (by simp [encG, clM, clR, clZ, clN, vrest, frzL_vs, kysL_vs, reGL_vs, keysInL_vs, fzL_vs, SubL_vs, nbT, nbF, spl0, List.contains_nil, List.contains_cons, Bool.false_or, Bool.true_or, Bool.or_false, XX, undef]) (by simp) (by simp [encG, clM, clR, clZ, clN, vrest, frzL_vs, kysL_vs, reGL_vs, keysInL_vs, fzL_vs, SubL_vs, nbT, nbF, spl0, List.contains_nil, List.contains_cons, Bool.false_or, Bool.true_or, Bool.or_false, XX, undef]) (by simp [encG, clM, clR, clZ, clN, vrest, frzL_vs, kysL_vs, reGL_vs, keysInL_vs, fzL_vs, SubL_vs, nbT, nbF, spl0, List.contains_nil, List.contains_cons, Bool.false_or, Bool.true_or, Bool.or_false, XX, undef]) (by simp [encG, clM, clR, clZ, clN, vrest, frzL_vs, kysL_vs, reGL_vs, keysInL_vs, fzL_vs, SubL_vs, nbT, nbF, spl0, List.contains_nil, List.contains_cons, Bool.false_or, Bool.true_or, Bool.or_false, XX, undef]) (by simp [encG, clM, clR, clZ, clN, vrest, frzL_vs, kysL_vs, reGL_vs, keysInL_vs, fzL_vs, SubL_vs, nbT, nbF, spl0, List.contains_nil, List.contains_cons, Bool.false_or, Bool.true_or, Bool.or_false, XX, undef]) (by simp [encG, clM, clR, clZ, clN, vrest, frzL_vs, kysL_vs, reGL_vs, keysInL_vs, fzL_vs, SubL_vs, nbT, nbF, spl0, List.contains_nil, List.contains_cons, Bool.false_or, Bool.true_or, Bool.or_false, XX, undef]) (by simp) (by simp) (by simp [encG, clM, clR, clZ, clN, vrest, frzL_vs, kysL_vs, reGL_vs, keysInL_vs, fzL_vs, SubL_vs, nbT, nbF, spl0, List.contains_nil, List.contains_cons, Bool.false_or, Bool.true_or, Bool.or_false, XX, undef]) ?_
          simp (maxSteps := 1000000) only [w2, w3, hwi, encG, clM, clR, clZ, clN, vrest, frzL_vs, kysL_vs, reGL_vs, keysInL_vs, fzL_vs, SubL_vs, nbT, nbF, spl0, List.contains_nil, List.contains_cons, Bool.false_or, Bool.true_or, Bool.or_false, XX, reduceIte, ↓reduceIte, Nat.reduceAdd, Nat.reduceLeDiff, Nat.reduceEqDiff, Nat.reduceLT, Nat.reduceSub, Nat.reduceBEq, forall_const, reduceCtorEq, implies_true, exists_eq_left', exists_eq_left, if_true, if_false, undef]
          exact ⟨by omega, by omega, by omega, i + 1, [some 43, some 24], rfl, by omega, by omega, by simp [Back, BackF, fzT, fzM, fzU, fz, fzL, fzO, kin, SubT, Sub, SubL, SubM, SubO, keepM, srcOk, look, lookM, ev, evs, putT, argT, encG, clM, clR, clZ, clN, vrest, frzL_vs, kysL_vs, reGL_vs, keysInL_vs, fzL_vs, SubL_vs, nbT, nbF, spl0, List.contains_nil, List.contains_cons, Bool.false_or, Bool.true_or, Bool.or_false, XX, undef, hst, bOb1 hcn2, ← hps]⟩
      have g3 : decide ((i : Int) < (half : Int)) = false := by simp; omega
      obtain rfl : i = half := by omega
      rw [hz] at hnx
      by_cases hqz : (lvR d [] s.2 i).1 = []
      · simp (maxSteps := 1000000) only [hqz, bOb0, g3, hwd, encG, clM, clR, clZ, clN, vrest, frzL_vs, kysL_vs, reGL_vs, keysInL_vs, fzL_vs, SubL_vs, nbT, nbF, spl0, List.contains_nil, List.contains_cons, Bool.false_or, Bool.true_or, Bool.or_false, XX, reduceIte, ↓reduceIte, Nat.reduceAdd, Nat.reduceLeDiff, Nat.reduceEqDiff, Nat.reduceLT, Nat.reduceSub, Nat.reduceBEq, forall_const, reduceCtorEq, implies_true, exists_eq_left', exists_eq_left, if_true, if_false, undef]
        refine ⟨by omega, by omega, by omega, (d + 1, (s.2 ++ junk).drop i), [none, none], rfl, ⟨by omega, ?_⟩, by simp only; omega, ?_⟩
        · simp only
          rw [hnx, jl, List.length_drop, hal2]; omega
        · rw [hnx]; simp [Back, BackF, fzT, fzM, fzU, fz, fzL, fzO, kin, SubT, Sub, SubL, SubM, SubO, keepM, srcOk, look, lookM, ev, evs, putT, argT, encG, clM, clR, clZ, clN, vrest, frzL_vs, kysL_vs, reGL_vs, keysInL_vs, fzL_vs, SubL_vs, nbT, nbF, spl0, List.contains_nil, List.contains_cons, Bool.false_or, Bool.true_or, Bool.or_false, XX, reduceIte, ↓reduceIte, Nat.reduceAdd, Nat.reduceLeDiff, Nat.reduceEqDiff, Nat.reduceLT, Nat.reduceSub, Nat.reduceBEq, forall_const, reduceCtorEq, implies_true, exists_eq_left', exists_eq_left, if_true, if_false, undef, jl, ptC, hqz, bOb0]
      · simp (maxSteps := 1000000) only [bOb1 hqz, g3, hwd, encG, clM, clR, clZ, clN, vrest, frzL_vs, kysL_vs, reGL_vs, keysInL_vs, fzL_vs, SubL_vs, nbT, nbF, spl0, List.contains_nil, List.contains_cons, Bool.false_or, Bool.true_or, Bool.or_false, XX, reduceIte, ↓reduceIte, Nat.reduceAdd, Nat.reduceLeDiff, Nat.reduceEqDiff, Nat.reduceLT, Nat.reduceSub, Nat.reduceBEq, forall_const, reduceCtorEq, implies_true, exists_eq_left', exists_eq_left, if_true, if_false, undef]
        refine ⟨by omega, by omega, by omega, (d + 1, (s.2 ++ junk).drop i), [some 23, some 24], rfl, ⟨by omega, ?_⟩, by simp only; omega, ?_⟩
        · simp only
          rw [hnx, jl, List.length_drop, hal2]; omega
        · rw [hnx]; simp [Back, BackF, fzT, fzM, fzU, fz, fzL, fzO, kin, SubT, Sub, SubL, SubM, SubO, keepM, srcOk, look, lookM, ev, evs, putT, argT, encG, clM, clR, clZ, clN, vrest, frzL_vs, kysL_vs, reGL_vs, keysInL_vs, fzL_vs, SubL_vs, nbT, nbF, spl0, List.contains_nil, List.contains_cons, Bool.false_or, Bool.true_or, Bool.or_false, XX, reduceIte, ↓reduceIte, Nat.reduceAdd, Nat.reduceLeDiff, Nat.reduceEqDiff, Nat.reduceLT, Nat.reduceSub, Nat.reduceBEq, forall_const, reduceCtorEq, implies_true, exists_eq_left', exists_eq_left, if_true, if_false, undef, jl, ptC, bOb1 hqz]
    · simp (maxSteps := 1000000) only [bOb1 hz, g2, hq, encG, clM, clR, clZ, clN, vrest, frzL_vs, kysL_vs, reGL_vs, keysInL_vs, fzL_vs, SubL_vs, nbT, nbF, spl0, List.contains_nil, List.contains_cons, Bool.false_or, Bool.true_or, Bool.or_false, XX, reduceIte, ↓reduceIte, Nat.reduceAdd, Nat.reduceLeDiff, Nat.reduceEqDiff, Nat.reduceLT, Nat.reduceSub, Nat.reduceBEq, forall_const, reduceCtorEq, implies_true, exists_eq_left', exists_eq_left, if_true, if_false, undef]
      refine ⟨by decide, ?_⟩
      refine loopR Nat [39] (fun i => [IN i]) (fun i => [(0, some (.box [.arr 23 0 (lvR d s.1 s.2 i).1.length, .mp 24])), (23, some (.arr 3 ((lvR d s.1 s.2 i).1.map encG))), (24, some (.map (knE 0 (lvR d s.1 s.2 i).1))), (12, none), (13, none), (4, some (.arr 1 (ptC (lvR d s.1 s.2 i).2 (s.2 ++ junk) i)))]) 2
        (fun i => i ≤ half) (fun i => half - i) (by decide) 0 [some 12, some 13] rfl (by omega) (by simp [Back, BackF, fzT, fzM, fzU, fz, fzL, fzO, kin, SubT, Sub, SubL, SubM, SubO, keepM, srcOk, look, lookM, ev, evs, putT, argT, encG, clM, clR, clZ, clN, vrest, frzL_vs, kysL_vs, reGL_vs, keysInL_vs, fzL_vs, SubL_vs, nbT, nbF, spl0, List.contains_nil, List.contains_cons, Bool.false_or, Bool.true_or, Bool.or_false, XX, undef, lvR, ptC]) ?_
      intro i hi2
      have J := L i (by omega)
      have jc := J.cnt
      have jp := phi_le (lvR d s.1 s.2 i).1 d
      have jl := J.len
      have jne := ne_pre hz J.pre
      by_cases c3 : i < half
      · have g3 : decide ((i : Int) < (half : Int)) = true := by simp [c3]
        have hwi : IntKind.i64.wrap ((i : Int) + 1) = ((i + 1 : Nat) : Int) := by rw [wrap_id] <;> omega
        have w2 : IntKind.i64.wrap (2 * (i : Int)) = ((2 * i : Nat) : Int) := by rw [wrap_id] <;> omega
        have w3 : IntKind.i64.wrap (((2 * i : Nat) : Int) + 1) = ((2 * i + 1 : Nat) : Int) := by rw [wrap_id] <;> omega
        have hsp := fun rest => cchoose_spec rest (lvR d s.1 s.2 i).1 d (s.2.getD (2 * i) 0) (s.2.getD (2 * i + 1) 0) (by omega)
        have hst : lvR d s.1 s.2 (i + 1) = ((choR (lvR d s.1 s.2 i).1 d (s.2.getD (2 * i) 0) (s.2.getD (2 * i + 1) 0)).1, (lvR d s.1 s.2 i).2 ++ [(choR (lvR d s.1 s.2 i).1 d (s.2.getD (2 * i) 0) (s.2.getD (2 * i + 1) 0)).2]) := rfl
        have hp1 := ptC_get (all := s.2 ++ junk) (j := 2 * i) jl (by omega) (by omega)
        have hp2 := ptC_get (all := s.2 ++ junk) (j := 2 * i + 1) jl (by omega) (by omega)
        rw [hgD _ (by omega)] at hp1 hp2
        have hpl := ptC_len (all := s.2 ++ junk) jl (by omega)
        have hps := fun x => ptC_set (all := s.2 ++ junk) (x := x) jl (by omega)
        generalize lvR d s.1 s.2 i = q at *
        generalize s.2.getD (2 * i) 0 = no at *
        generalize s.2.getD (2 * i + 1) 0 = yes at *
        generalize choR q.1 d no yes = c at *
        simp (maxSteps := 1000000) only [g3, w2, w3, encG, clM, clR, clZ, clN, vrest, frzL_vs, kysL_vs, reGL_vs, keysInL_vs, fzL_vs, SubL_vs, nbT, nbF, spl0, List.contains_nil, List.contains_cons, Bool.false_or, Bool.true_or, Bool.or_false, XX, reduceIte, ↓reduceIte, Nat.reduceAdd, Nat.reduceLeDiff, Nat.reduceEqDiff, Nat.reduceLT, Nat.reduceSub, Nat.reduceBEq, forall_const, reduceCtorEq, implies_true, exists_eq_left', exists_eq_left, if_true, if_false, undef]
        refine ⟨by omega, by omega, Pick.mk (I no) (by simp only [Int.toNat_natCast, Nat.zero_add]; exact hp1) ?_⟩
        simp (maxSteps := 1000000) only [w2, w3, encG, clM, clR, clZ, clN, vrest, frzL_vs, kysL_vs, reGL_vs, keysInL_vs, fzL_vs, SubL_vs, nbT, nbF, spl0, List.contains_nil, List.contains_cons, Bool.false_or, Bool.true_or, Bool.or_false, XX, reduceIte, ↓reduceIte, Nat.reduceAdd, Nat.reduceLeDiff, Nat.reduceEqDiff, Nat.reduceLT, Nat.reduceSub, Nat.reduceBEq, forall_const, reduceCtorEq, implies_true, exists_eq_left', exists_eq_left, if_true, if_false, undef]
        refine ⟨by omega, by omega, Pick.mk (I yes) (by simp only [Int.toNat_natCast, Nat.zero_add]; exact hp2) ?_⟩
        simp (maxSteps := 1000000) only [w2, w3, encG, clM, clR, clZ, clN, vrest, frzL_vs, kysL_vs, reGL_vs, keysInL_vs, fzL_vs, SubL_vs, nbT, nbF, spl0, List.contains_nil, List.contains_cons, Bool.false_or, Bool.true_or, Bool.or_false, XX, reduceIte, ↓reduceIte, Nat.reduceAdd, Nat.reduceLeDiff, Nat.reduceEqDiff, Nat.reduceLT, Nat.reduceSub, Nat.reduceBEq, forall_const, reduceCtorEq, implies_true, exists_eq_left', exists_eq_left, if_true, if_false, undef]
        refine callYp 0 [23, 24] [] [.arr 1 0 q.1.length, .mp 2] [.arr 3 0 c.1.length, .mp 2] [.arr 3 (q.1.map encG), .map (knE 0 q.1)] [none, some (.map (knE 0 c.1))] [some (.arr 3 (c.1.map encG))] (fun rest _ => hsp rest) rfl (by simp) rfl (by simp [encG, clM, clR, clZ, clN, vrest, frzL_vs, kysL_vs, reGL_vs, keysInL_vs, fzL_vs, SubL_vs, nbT, nbF, spl0, List.contains_nil, List.contains_cons, Bool.false_or, Bool.true_or, Bool.or_false, XX, undef]) (by simp) (by simp [encG, clM, clR, clZ, clN, vrest, frzL_vs, kysL_vs, reGL_vs, keysInL_vs, fzL_vs, SubL_vs, nbT, nbF, spl0, List.contains_nil, List.contains_cons, Bool.false_or, Bool.true_or, Bool.or_false, XX, undef]) (by simp [encG, clM, clR, clZ, clN, vrest, frzL_vs, kysL_vs, reGL_vs, keysInL_vs, fzL_vs, SubL_vs, nbT, nbF, spl0, List.contains_nil, List.contains_cons, Bool.false_or, Bool.true_or, Bool.or_false, XX, undef]) (by simp [encG, clM, clR, clZ, clN, vrest, frzL_vs, kysL_vs, reGL_vs, keysInL_vs, fzL_vs, SubL_vs, nbT, nbF, spl0, List.contains_nil, List.contains_cons, Bool.false_or, Bool.true_or, Bool.or_false, XX, undef]) (by simp [encG, clM, clR, clZ, clN, vrest, frzL_vs, kysL_vs, reGL_vs, keysInL_vs, fzL_vs, SubL_vs, nbT, nbF, spl0, List.contains_nil, List.contains_cons, Bool.false_or, Bool.true_or, Bool.or_false, XX, undef]) (by simp [encG, clM, clR, clZ, clN, vrest, frzL_vs, kysL_vs, reGL_vs, keysInL_vs, fzL_vs, SubL_vs, nbT, nbF, spl0, List.contains_nil, List.contains_cons, Bool.false_or, Bool.true_or, Bool.or_false, XX, undef]) (by simp) (by simp) (by simp [encG, clM, clR, clZ, clN, vrest, frzL_vs, kysL_vs, reGL_vs, keysInL_vs, fzL_vs, SubL_vs, nbT, nbF, spl0, List.contains_nil, List.contains_cons, Bool.false_or, Bool.true_or, Bool.or_false, XX, undef]) ?_
        simp (maxSteps := 1000000) only [w2, w3, hwi, encG, clM, clR, clZ, clN, vrest, frzL_vs, kysL_vs, reGL_vs, keysInL_vs, fzL_vs, SubL_vs, nbT, nbF, spl0, List.contains_nil, List.contains_cons, Bool.false_or, Bool.true_or, Bool.or_false, XX, reduceIte, ↓reduceIte, Nat.reduceAdd, Nat.reduceLeDiff, Nat.reduceEqDiff, Nat.reduceLT, Nat.reduceSub, Nat.reduceBEq, forall_const, reduceCtorEq, implies_true, exists_eq_left', exists_eq_left, if_true, if_false, undef]
        exact ⟨by omega, by omega, by omega, i + 1, [some 43, some 24], rfl, by omega, by omega, by simp [Back, BackF, fzT, fzM, fzU, fz, fzL, fzO, kin, SubT, Sub, SubL, SubM, SubO, keepM, srcOk, look, lookM, ev, evs, putT, argT, encG, clM, clR, clZ, clN, vrest, frzL_vs, kysL_vs, reGL_vs, keysInL_vs, fzL_vs, SubL_vs, nbT, nbF, spl0, List.contains_nil, List.contains_cons, Bool.false_or, Bool.true_or, Bool.or_false, XX, undef, hst, ← hps]⟩
      have g3 : decide ((i : Int) < (half : Int)) = false := by simp; omega
      obtain rfl : i = half := by omega
      simp (maxSteps := 1000000) only [g3, hwd, encG, clM, clR, clZ, clN, vrest, frzL_vs, kysL_vs, reGL_vs, keysInL_vs, fzL_vs, SubL_vs, nbT, nbF, spl0, List.contains_nil, List.contains_cons, Bool.false_or, Bool.true_or, Bool.or_false, XX, reduceIte, ↓reduceIte, Nat.reduceAdd, Nat.reduceLeDiff, Nat.reduceEqDiff, Nat.reduceLT, Nat.reduceSub, Nat.reduceBEq, forall_const, reduceCtorEq, implies_true, exists_eq_left', exists_eq_left, if_true, if_false, undef]
      refine ⟨by omega, by omega, by omega, (d + 1, (s.2 ++ junk).drop i), [some 23, some 24], rfl, ⟨by omega, ?_⟩, by simp only; omega, ?_⟩
      · simp only
        rw [hnx, jl, List.length_drop, hal2]; omega
      · rw [hnx]; simp [Back, BackF, fzT, fzM, fzU, fz, fzL, fzO, kin, SubT, Sub, SubL, SubM, SubO, keepM, srcOk, look, lookM, ev, evs, putT, argT, encG, clM, clR, clZ, clN, vrest, frzL_vs, kysL_vs, reGL_vs, keysInL_vs, fzL_vs, SubL_vs, nbT, nbF, spl0, List.contains_nil, List.contains_cons, Bool.false_or, Bool.true_or, Bool.or_false, XX, reduceIte, ↓reduceIte, Nat.reduceAdd, Nat.reduceLeDiff, Nat.reduceEqDiff, Nat.reduceLT, Nat.reduceSub, Nat.reduceBEq, forall_const, reduceCtorEq, implies_true, exists_eq_left', exists_eq_left, if_true, if_false, undef, jl, ptC, bOb1 jne]
  · have g2 : decide ((d : Int) < (inn : Int)) = false := by simp; omega
    obtain rfl : d = inn := by omega
    have hl1 : (tbR t d).2.length = 1 := by rw [T.len, Nat.sub_self]
    have hg0 : (((tbR t d).2 ++ junk).map I)[0]? = some (I ((tbR t d).2.getD 0 0)) := by
      rw [List.getElem?_map, List.getElem?_append_left (by omega), List.getElem?_eq_getElem (by omega), List.getD_eq_getElem?_getD, List.getElem?_eq_getElem (by omega)]; rfl
    generalize tbR t d = s at *
    generalize s.2.getD 0 0 = p at *
    by_cases hz : s.1 = []
    · simp (maxSteps := 1000000) only [hz, bOb0, bR, g2, encG, clM, clR, clZ, clN, vrest, frzL_vs, kysL_vs, reGL_vs, keysInL_vs, fzL_vs, SubL_vs, nbT, nbF, spl0, List.contains_nil, List.contains_cons, Bool.false_or, Bool.true_or, Bool.or_false, XX, reduceIte, ↓reduceIte, Nat.reduceAdd, Nat.reduceLeDiff, Nat.reduceEqDiff, Nat.reduceLT, Nat.reduceSub, Nat.reduceBEq, forall_const, reduceCtorEq, implies_true, exists_eq_left', exists_eq_left, if_true, if_false, undef]
      refine ⟨by omega, by omega, Pick.mk (I p) (by simpa using hg0) ?_⟩
      simp (maxSteps := 1000000) only [hz, bOb0, bR, encG, clM, clR, clZ, clN, vrest, frzL_vs, kysL_vs, reGL_vs, keysInL_vs, fzL_vs, SubL_vs, nbT, nbF, spl0, List.contains_nil, List.contains_cons, Bool.false_or, Bool.true_or, Bool.or_false, XX, reduceIte, ↓reduceIte, Nat.reduceAdd, Nat.reduceLeDiff, Nat.reduceEqDiff, Nat.reduceLT, Nat.reduceSub, Nat.reduceBEq, forall_const, reduceCtorEq, implies_true, exists_eq_left', exists_eq_left, if_true, if_false, undef]
      exact ⟨[], by simp, by simp [encG, clM, clR, clZ, clN, vrest, frzL_vs, kysL_vs, reGL_vs, keysInL_vs, fzL_vs, SubL_vs, nbT, nbF, spl0, List.contains_nil, List.contains_cons, Bool.false_or, Bool.true_or, Bool.or_false, XX, undef]⟩
    · have hbR : bR s.1 = clN [] s.1 := by unfold bR; rw [if_neg hz]
      simp (maxSteps := 1000000) only [bOb1 hz, hbR, g2, encG, clM, clR, clZ, clN, vrest, frzL_vs, kysL_vs, reGL_vs, keysInL_vs, fzL_vs, SubL_vs, nbT, nbF, spl0, List.contains_nil, List.contains_cons, Bool.false_or, Bool.true_or, Bool.or_false, XX, reduceIte, ↓reduceIte, Nat.reduceAdd, Nat.reduceLeDiff, Nat.reduceEqDiff, Nat.reduceLT, Nat.reduceSub, Nat.reduceBEq, forall_const, reduceCtorEq, implies_true, exists_eq_left', exists_eq_left, if_true, if_false, undef]
      refine ⟨by omega, by omega, Pick.mk (I p) (by simpa using hg0) ?_⟩
      simp (maxSteps := 1000000) only [encG, clM, clR, clZ, clN, vrest, frzL_vs, kysL_vs, reGL_vs, keysInL_vs, fzL_vs, SubL_vs, nbT, nbF, spl0, List.contains_nil, List.contains_cons, Bool.false_or, Bool.true_or, Bool.or_false, XX, reduceIte, ↓reduceIte, Nat.reduceAdd, Nat.reduceLeDiff, Nat.reduceEqDiff, Nat.reduceLT, Nat.reduceSub, Nat.reduceBEq, forall_const, reduceCtorEq, implies_true, exists_eq_left', exists_eq_left, if_true, if_false, undef]
      simp (maxSteps := 1000000) only [hbR, encG, clM, clR, clZ, clN, vrest, frzL_vs, kysL_vs, reGL_vs, keysInL_vs, fzL_vs, SubL_vs, nbT, nbF, spl0, List.contains_nil, List.contains_cons, Bool.false_or, Bool.true_or, Bool.or_false, XX, reduceIte, ↓reduceIte, Nat.reduceAdd, Nat.reduceLeDiff, Nat.reduceEqDiff, Nat.reduceLT, Nat.reduceSub, Nat.reduceBEq, forall_const, reduceCtorEq, implies_true, exists_eq_left', exists_eq_left, if_true, if_false, undef]
      exact ⟨[12, 13], by simp [encG, clM, clR, clZ, clN, vrest, frzL_vs, kysL_vs, reGL_vs, keysInL_vs, fzL_vs, SubL_vs, nbT, nbF, spl0, List.contains_nil, List.contains_cons, Bool.false_or, Bool.true_or, Bool.or_false, XX, undef], by simp [encG, clM, clR, clZ, clN, vrest, frzL_vs, kysL_vs, reGL_vs, keysInL_vs, fzL_vs, SubL_vs, nbT, nbF, spl0, List.contains_nil, List.contains_cons, Bool.false_or, Bool.true_or, Bool.or_false, XX, undef], by simp [encG, clM, clR, clZ, clN, vrest, frzL_vs, kysL_vs, reGL_vs, keysInL_vs, fzL_vs, SubL_vs, nbT, nbF, spl0, List.contains_nil, List.contains_cons, Bool.false_or, Bool.true_or, Bool.or_false, XX, undef]⟩

theorem buildC_spec (inn : Int) (t : List Bool) (ht : (t.length : Int) < 2 ^ 63) : CallsA Try.prog 11 [I inn, .ro 1 (t.map Bo)] (.tup [.ro 3 ((if bldErr inn t = 0 then bldR inn.toNat t else []).map encG), I (bldErr inn t)]) [] := by
  have hll : ((t.map Bo).length : Int) = t.length := by simp
  refine fn_of0 comp11 (by simp) ?_
  unfold code11
  simp (maxSteps := 1000000) only [hll, encG, clM, clR, clZ, clN, vrest, frzL_vs, kysL_vs, reGL_vs, keysInL_vs, fzL_vs, SubL_vs, nbT, nbF, spl0, List.contains_nil, List.contains_cons, Bool.false_or, Bool.true_or, Bool.or_false, XX, reduceIte, ↓reduceIte, Nat.reduceAdd, Nat.reduceLeDiff, Nat.reduceEqDiff, Nat.reduceLT, Nat.reduceSub, Nat.reduceBEq, forall_const, reduceCtorEq, implies_true, exists_eq_left', exists_eq_left, if_true, if_false, undef]
  by_cases c1 : inn < 1
  · have f1 : decide (inn < 1) = true := by simpa using c1
    have he : bldErr inn t = 1 := by rw [bldErr, if_pos (by omega)]
    rw [he, if_neg (by decide)]
    simp (maxSteps := 1000000) only [f1, List.map_nil, encG, clM, clR, clZ, clN, vrest, frzL_vs, kysL_vs, reGL_vs, keysInL_vs, fzL_vs, SubL_vs, nbT, nbF, spl0, List.contains_nil, List.contains_cons, Bool.false_or, Bool.true_or, Bool.or_false, XX, reduceIte, ↓reduceIte, Nat.reduceAdd, Nat.reduceLeDiff, Nat.reduceEqDiff, Nat.reduceLT, Nat.reduceSub, Nat.reduceBEq, forall_const, reduceCtorEq, implies_true, exists_eq_left', exists_eq_left, if_true, if_false, undef]
  have f1 : decide (inn < 1) = false := by simpa using c1
  by_cases c2 : inn > 5
  · have f2 : decide (inn > 5) = true := by simpa using c2
    have he : bldErr inn t = 1 := by rw [bldErr, if_pos (by omega)]
    rw [he, if_neg (by decide)]
    simp (maxSteps := 1000000) only [f1, f2, List.map_nil, encG, clM, clR, clZ, clN, vrest, frzL_vs, kysL_vs, reGL_vs, keysInL_vs, fzL_vs, SubL_vs, nbT, nbF, spl0, List.contains_nil, List.contains_cons, Bool.false_or, Bool.true_or, Bool.or_false, XX, reduceIte, ↓reduceIte, Nat.reduceAdd, Nat.reduceLeDiff, Nat.reduceEqDiff, Nat.reduceLT, Nat.reduceSub, Nat.reduceBEq, forall_const, reduceCtorEq, implies_true, exists_eq_left', exists_eq_left, if_true, if_false, undef]
  have f2 : decide (inn > 5) = false := by simpa using c2
  obtain ⟨n, rfl⟩ : ∃ n : Nat, inn = n := ⟨inn.toNat, by omega⟩
  have hsh := shl_one (i := n) (by omega)
  simp (maxSteps := 1000000) only [f1, f2, hsh, hll, encG, clM, clR, clZ, clN, vrest, frzL_vs, kysL_vs, reGL_vs, keysInL_vs, fzL_vs, SubL_vs, nbT, nbF, spl0, List.contains_nil, List.contains_cons, Bool.false_or, Bool.true_or, Bool.or_false, XX, reduceIte, ↓reduceIte, Nat.reduceAdd, Nat.reduceLeDiff, Nat.reduceEqDiff, Nat.reduceLT, Nat.reduceSub, Nat.reduceBEq, forall_const, reduceCtorEq, implies_true, exists_eq_left', exists_eq_left, if_true, if_false, undef]
  refine ⟨by omega, ?_⟩
  by_cases c3 : t.length = 2 ^ n
  rotate_left
  · have f3 : ((t.length : Int) != ((2 ^ n : Nat) : Int)) = true := by
      simp only [bne_iff_ne, ne_eq]; omega
    have he : bldErr n t = 3 := by rw [bldErr, if_neg (by omega), Int.toNat_natCast, if_pos c3]
    rw [he, if_neg (by decide)]
    simp (maxSteps := 1000000) only [f3, hll, List.map_nil, encG, clM, clR, clZ, clN, vrest, frzL_vs, kysL_vs, reGL_vs, keysInL_vs, fzL_vs, SubL_vs, nbT, nbF, spl0, List.contains_nil, List.contains_cons, Bool.false_or, Bool.true_or, Bool.or_false, XX, reduceIte, ↓reduceIte, Nat.reduceAdd, Nat.reduceLeDiff, Nat.reduceEqDiff, Nat.reduceLT, Nat.reduceSub, Nat.reduceBEq, forall_const, reduceCtorEq, implies_true, exists_eq_left', exists_eq_left, if_true, if_false, undef]
  have f3 : ((t.length : Int) != ((2 ^ n : Nat) : Int)) = false := by
    rw [bne_eq_false_iff_eq]; omega
  have he : bldErr n t = 0 := by rw [bldErr, if_neg (by omega), Int.toNat_natCast, if_neg (fun h => h c3)]
  rw [he, if_pos rfl, Int.toNat_natCast]
  have hbt := ctab_spec n t (by omega) c3
  have T := tbR_ok c3 n (Nat.le_refl _)
  have hbd : bldR n t = prune (setS (tbR t n).1 ((tbR t n).2.getD 0 0)).1 (setS (tbR t n).1 ((tbR t n).2.getD 0 0)).2.toNat := rfl
  have hl1 : (tbR t n).2.length = 1 := by rw [T.len, Nat.sub_self]
  have hrg := T.rng _ (getD_mem (l := (tbR t n).2) (i := 0) (by omega))
  have hcn := T.cnt
  have h32 : 2 ^ n ≤ 32 := by
    calc 2 ^ n ≤ 2 ^ 5 := Nat.pow_le_pow_right (by omega) (by omega)
      _ = 32 := rfl
  rw [hbd]
  generalize tbR t n = s at *
  generalize s.2.getD 0 0 = p at *
  have htk : ∀ l : List Gt, (l.map encG).take l.length = l.map encG := fun l => List.take_of_length_le (by simp)
  by_cases hz : s.1 = []
  · have hbR : bR s.1 = [some (.box [.v (.slice none 0 0), .v (.map none)])] := by unfold bR; rw [if_pos hz]
    rw [hbR] at hbt
    rw [hz] at hrg ⊢
    have hp : p = -1 ∨ p = -2 := by
      rcases hrg with h | h | h
      · exact .inl h
      · exact .inr h
      · simp at h; omega
    have hcc := ccircuit0_spec [] n p (by omega) hp
    generalize prune (setS [] p).1 (setS [] p).2.toNat = g at *
    generalize (setS [] p).1 = g3 at *
    simp (maxSteps := 1000000) only [f3, hll, encG, clM, clR, clZ, clN, vrest, frzL_vs, kysL_vs, reGL_vs, keysInL_vs, fzL_vs, SubL_vs, nbT, nbF, spl0, List.contains_nil, List.contains_cons, Bool.false_or, Bool.true_or, Bool.or_false, XX, reduceIte, ↓reduceIte, Nat.reduceAdd, Nat.reduceLeDiff, Nat.reduceEqDiff, Nat.reduceLT, Nat.reduceSub, Nat.reduceBEq, forall_const, reduceCtorEq, implies_true, exists_eq_left', exists_eq_left, if_true, if_false, undef]
    refine callM [some 13] (hbt) (by simp [encG, clM, clR, clZ, clN, vrest, frzL_vs, kysL_vs, reGL_vs, keysInL_vs, fzL_vs, SubL_vs, nbT, nbF, spl0, List.contains_nil, List.contains_cons, Bool.false_or, Bool.true_or, Bool.or_false, XX, undef]) (by simp [encG, clM, clR, clZ, clN, vrest, frzL_vs, kysL_vs, reGL_vs, keysInL_vs, fzL_vs, SubL_vs, nbT, nbF, spl0, List.contains_nil, List.contains_cons, Bool.false_or, Bool.true_or, Bool.or_false, XX, undef]) (by simp [encG, clM, clR, clZ, clN, vrest, frzL_vs, kysL_vs, reGL_vs, keysInL_vs, fzL_vs, SubL_vs, nbT, nbF, spl0, List.contains_nil, List.contains_cons, Bool.false_or, Bool.true_or, Bool.or_false, XX, undef]) ?_
    simp (maxSteps := 1000000) only [encG, clM, clR, clZ, clN, vrest, frzL_vs, kysL_vs, reGL_vs, keysInL_vs, fzL_vs, SubL_vs, nbT, nbF, spl0, List.contains_nil, List.contains_cons, Bool.false_or, Bool.true_or, Bool.or_false, XX, reduceIte, ↓reduceIte, Nat.reduceAdd, Nat.reduceLeDiff, Nat.reduceEqDiff, Nat.reduceLT, Nat.reduceSub, Nat.reduceBEq, forall_const, reduceCtorEq, implies_true, exists_eq_left', exists_eq_left, if_true, if_false, undef]
    refine callM [some 13] (hcc) (by simp [encG, clM, clR, clZ, clN, vrest, frzL_vs, kysL_vs, reGL_vs, keysInL_vs, fzL_vs, SubL_vs, nbT, nbF, spl0, List.contains_nil, List.contains_cons, Bool.false_or, Bool.true_or, Bool.or_false, XX, undef]) (by simp [encG, clM, clR, clZ, clN, vrest, frzL_vs, kysL_vs, reGL_vs, keysInL_vs, fzL_vs, SubL_vs, nbT, nbF, spl0, List.contains_nil, List.contains_cons, Bool.false_or, Bool.true_or, Bool.or_false, XX, undef]) (by simp [encG, clM, clR, clZ, clN, vrest, frzL_vs, kysL_vs, reGL_vs, keysInL_vs, fzL_vs, SubL_vs, nbT, nbF, spl0, List.contains_nil, List.contains_cons, Bool.false_or, Bool.true_or, Bool.or_false, XX, undef]) ?_
    simp (maxSteps := 1000000) only [encG, clM, clR, clZ, clN, vrest, frzL_vs, kysL_vs, reGL_vs, keysInL_vs, fzL_vs, SubL_vs, nbT, nbF, spl0, List.contains_nil, List.contains_cons, Bool.false_or, Bool.true_or, Bool.or_false, XX, reduceIte, ↓reduceIte, Nat.reduceAdd, Nat.reduceLeDiff, Nat.reduceEqDiff, Nat.reduceLT, Nat.reduceSub, Nat.reduceBEq, forall_const, reduceCtorEq, implies_true, exists_eq_left', exists_eq_left, if_true, if_false, undef]
    all_goals exact htk g
  · have hbR : bR s.1 = clN [] s.1 := by unfold bR; rw [if_neg hz]
    rw [hbR] at hbt
    have hcc := ccircuit_spec [] s.1 n p (by omega) T.ok hrg (by omega)
    generalize prune (setS s.1 p).1 (setS s.1 p).2.toNat = g at *
    generalize (setS s.1 p).1 = g3 at *
    simp (maxSteps := 1000000) only [f3, hll, encG, clM, clR, clZ, clN, vrest, frzL_vs, kysL_vs, reGL_vs, keysInL_vs, fzL_vs, SubL_vs, nbT, nbF, spl0, List.contains_nil, List.contains_cons, Bool.false_or, Bool.true_or, Bool.or_false, XX, reduceIte, ↓reduceIte, Nat.reduceAdd, Nat.reduceLeDiff, Nat.reduceEqDiff, Nat.reduceLT, Nat.reduceSub, Nat.reduceBEq, forall_const, reduceCtorEq, implies_true, exists_eq_left', exists_eq_left, if_true, if_false, undef]
    refine callM [some 13] (hbt) (by simp [encG, clM, clR, clZ, clN, vrest, frzL_vs, kysL_vs, reGL_vs, keysInL_vs, fzL_vs, SubL_vs, nbT, nbF, spl0, List.contains_nil, List.contains_cons, Bool.false_or, Bool.true_or, Bool.or_false, XX, undef]) (by simp [encG, clM, clR, clZ, clN, vrest, frzL_vs, kysL_vs, reGL_vs, keysInL_vs, fzL_vs, SubL_vs, nbT, nbF, spl0, List.contains_nil, List.contains_cons, Bool.false_or, Bool.true_or, Bool.or_false, XX, undef]) (by simp [encG, clM, clR, clZ, clN, vrest, frzL_vs, kysL_vs, reGL_vs, keysInL_vs, fzL_vs, SubL_vs, nbT, nbF, spl0, List.contains_nil, List.contains_cons, Bool.false_or, Bool.true_or, Bool.or_false, XX, undef]) ?_
    simp (maxSteps := 1000000) only [encG, clM, clR, clZ, clN, vrest, frzL_vs, kysL_vs, reGL_vs, keysInL_vs, fzL_vs, SubL_vs, nbT, nbF, spl0, List.contains_nil, List.contains_cons, Bool.false_or, Bool.true_or, Bool.or_false, XX, reduceIte, ↓reduceIte, Nat.reduceAdd, Nat.reduceLeDiff, Nat.reduceEqDiff, Nat.reduceLT, Nat.reduceSub, Nat.reduceBEq, forall_const, reduceCtorEq, implies_true, exists_eq_left', exists_eq_left, if_true, if_false, undef]
    refine callM [some 13, some 17, some 18] (hcc) (by simp [encG, clM, clR, clZ, clN, vrest, frzL_vs, kysL_vs, reGL_vs, keysInL_vs, fzL_vs, SubL_vs, nbT, nbF, spl0, List.contains_nil, List.contains_cons, Bool.false_or, Bool.true_or, Bool.or_false, XX, undef]) (by simp [encG, clM, clR, clZ, clN, vrest, frzL_vs, kysL_vs, reGL_vs, keysInL_vs, fzL_vs, SubL_vs, nbT, nbF, spl0, List.contains_nil, List.contains_cons, Bool.false_or, Bool.true_or, Bool.or_false, XX, undef]) (by simp [encG, clM, clR, clZ, clN, vrest, frzL_vs, kysL_vs, reGL_vs, keysInL_vs, fzL_vs, SubL_vs, nbT, nbF, spl0, List.contains_nil, List.contains_cons, Bool.false_or, Bool.true_or, Bool.or_false, XX, undef]) ?_
    simp (maxSteps := 1000000) only [encG, clM, clR, clZ, clN, vrest, frzL_vs, kysL_vs, reGL_vs, keysInL_vs, fzL_vs, SubL_vs, nbT, nbF, spl0, List.contains_nil, List.contains_cons, Bool.false_or, Bool.true_or, Bool.or_false, XX, reduceIte, ↓reduceIte, Nat.reduceAdd, Nat.reduceLeDiff, Nat.reduceEqDiff, Nat.reduceLT, Nat.reduceSub, Nat.reduceBEq, forall_const, reduceCtorEq, implies_true, exists_eq_left', exists_eq_left, if_true, if_false, undef]
    all_goals exact htk g

theorem gateBuildP_spec (inn : Int) (t : List Bool) (ht : (t.length : Int) < 2 ^ 63) : ∃ l : List Gt, CallsA Try.prog 11 [I inn, .ro 1 (t.map Bo)] (.tup [.ro 3 (l.map encG), I (bldErr inn t)]) [] ∧ (bldErr inn t ≠ 0 → l = []) ∧ (bldErr inn t = 0 → 1 ≤ l.length ∧ (l.length : Int) ≤ 3 * t.length + 3 * inn + 3 ∧ GsOk inn l ∧ ∀ k (h : k < t.length), gval k l = t[k]) := by
  refine ⟨_, buildC_spec inn t ht, fun h => if_neg h, fun h => ?_⟩
  rw [if_pos h]
  rw [bldErr] at h
  split at h
  · cases h
  · rename_i h1
    split at h
    · cases h
    · rename_i h2
      obtain ⟨q1, q2, q3, q4⟩ := bldR_ok (inn := inn.toNat) (t := t) (by omega) (by omega)
      rw [show ((inn.toNat : Nat) : Int) = inn by omega] at q3
      exact ⟨q1, by omega, q3, q4⟩

end Go.Av
