/- The compiled code with its points put in: valid, and it does what the instruction does. -/
import Derived.Test.YtjehogambhkpgaaDoorTwoP
set_option linter.unusedSimpArgs false
set_option linter.unusedVariables false
set_option maxRecDepth 100000
namespace Go.Av
open Go.Proofs

theorem get_mid {α : Type} {A R : List α} {x : α} (j : Nat) : (A ++ x :: R)[j]? = if j < A.length then A[j]? else if j = A.length then some x else R[j - A.length - 1]? := by
  split
  · rename_i h; rw [List.getElem?_append_left h]
  · rename_i h
    rw [List.getElem?_append_right (by omega)]
    split
    · rename_i h2; subst h2; simp
    · rename_i h2
      rw [show j - A.length = (j - A.length - 1) + 1 by omega, List.getElem?_cons_succ]; simp

def fixP (v : Int → Int) (p : Option Int) (x : Ord) : Ord :=
  match p with
  | some og => ⟨x.kind, x.counter, x.next, v og⟩
  | none => x

theorem blk_fix {q : Nat} {o : Ord} {v : Int → Int} {j : Nat} {x : Ord} (h : (blk q o (v o.next) (v o.zero))[j]? = some x) : ∃ x0, (blk0 q o)[j]? = some x0 ∧ x = fixP v (ptAt o j) x0 := by
  have hp := prm_range o
  generalize hP : prm o = p at hp
  by_cases hk : o.kind = 1
  · have hA : (mvs 0 1 p q ((q + p + 1 : Nat) : Int)).length = p + 1 := mvs_length _ _ _ _ _ (by omega)
    have e : ∀ n z : Int, blk q o n z = mvs 0 1 p q ((q + p + 1 : Nat) : Int) ++ le 1 ((q + p + 1 + 1 : Nat) : Int) n :: (mos 0 (q + p + 1 + 1) 0 ++ [mo 0 ((q + p + 1 : Nat) : Int)]) := fun n z => by
      rw [blk, if_pos hk, hP]; rfl
    rw [blk0, if_pos hk, e]
    rw [e, get_mid, hA] at h
    rw [get_mid, hA]
    split at h
    · rename_i c
      refine ⟨x, by rw [if_pos c]; exact h, ?_⟩
      simp only [fixP, ptAt, hP]; rw [if_neg (by omega), if_neg (fun hh => hh.1 hk)]
    · rename_i c
      split at h
      · rename_i c2
        refine ⟨_, by rw [if_neg c, if_pos c2], ?_⟩
        simp only [Option.some.injEq] at h
        rw [← h]
        simp only [fixP, ptAt, hP]; rw [if_pos c2]; rfl
      · rename_i c2
        refine ⟨x, by rw [if_neg c, if_neg c2]; exact h, ?_⟩
        simp only [fixP, ptAt, hP]; rw [if_neg c2, if_neg (fun hh => hh.1 hk)]
  · have hA : (lsA q p).length = p + 1 := by simp [lsA, chn_length]; omega
    have e : ∀ n z : Int, blk q o n z = lsA q p ++ le 1 ((q + p + 1 + 1 : Nat) : Int) n :: ((mo 0 ((q + p + 1 : Nat) : Int) :: mos 0 (q + p + 3) (p - 1)) ++ le 1 ((q + 2 * p + 2 + 1 : Nat) : Int) z :: (mos 0 (q + 2 * p + 2 + 1) (p - 1) ++ [mo 0 ((q + 2 * p + 2 : Nat) : Int)])) := fun n z => by
      rw [blk, if_neg hk, hP]; rfl
    have hM : (mo 0 ((q + p + 1 : Nat) : Int) :: mos 0 (q + p + 3) (p - 1)).length = p := by simp [mos_length]; omega
    rw [blk0, if_neg hk, e]
    rw [e, get_mid, hA] at h
    rw [get_mid, hA]
    split at h
    · rename_i c
      refine ⟨x, by rw [if_pos c]; exact h, ?_⟩
      simp only [fixP, ptAt, hP]; rw [if_neg (by omega), if_neg (fun hh => by omega)]
    · rename_i c
      split at h
      · rename_i c2
        refine ⟨_, by rw [if_neg c, if_pos c2], ?_⟩
        simp only [Option.some.injEq] at h
        rw [← h]
        simp only [fixP, ptAt, hP]; rw [if_pos c2]; rfl
      · rename_i c2
        rw [get_mid, hM] at h
        rw [if_neg c, if_neg c2, get_mid, hM]
        split at h
        · rename_i c3
          refine ⟨x, by rw [if_pos c3]; exact h, ?_⟩
          simp only [fixP, ptAt, hP]; rw [if_neg c2, if_neg (fun hh => by omega)]
        · rename_i c3
          split at h
          · rename_i c4
            refine ⟨_, by rw [if_neg c3, if_pos c4], ?_⟩
            simp only [Option.some.injEq] at h
            rw [← h]
            simp only [fixP, ptAt, hP]; rw [if_neg c2, if_pos ⟨hk, by omega⟩]; rfl
          · rename_i c4
            refine ⟨x, by rw [if_neg c3, if_neg c4]; exact h, ?_⟩
            simp only [fixP, ptAt, hP]; rw [if_neg c2, if_neg (fun hh => by omega)]

/-- what a point leads to -/
def tgt (l : List Ord) (og : Int) : Int := (sts l).getD og.toNat 0
theorem tgt_eq {l : List Ord} {og : Int} (h : 0 ≤ og ∧ og ≤ l.length) : tgt l og = (psn l og.toNat : Nat) := by
  have : (sts l)[og.toNat]? = some (Int.ofNat (psn l og.toNat)) := by rw [sts_eq, List.getElem?_map, bgs_get (by omega)]; rfl
  simp [tgt, this]

theorem code_at {l : List Ord} {i : Nat} (hi : i < l.length) : At (bldCode l) (psn l i) (blk (psn l i) l[i] (tgt l l[i].next) (tgt l l[i].zero)) := by
  intro j x hx
  have hj : j < blkLen l[i] := by rw [← blk_length (psn l i) l[i] (tgt l l[i].next) (tgt l l[i].zero)]; exact (List.getElem?_eq_some_iff.1 hx).1
  obtain ⟨x0, h1, h2⟩ := blk_fix hx
  obtain ⟨h3, h4⟩ := bld_at l i hi
  have h5 := h3 j x0 h1
  have h6 := (List.getElem?_eq_some_iff.1 h5).1
  rw [bldCode, fixK, List.getElem?_mapIdx, h5]
  simp only [Option.map_some]
  rw [if_pos h6, fixO, h4 j hj, h2]
  congr 1

theorem code_length (l : List Ord) : (bldCode l).length = psn l l.length := by rw [bldCode, fixK_length, (bld_psn l).1]

theorem mem_mos {ctr : Int} {q t : Nat} {x : Ord} (h : x ∈ mos ctr q t) : ∃ i, i < t ∧ x = mo ctr ((q + i + 1 : Nat) : Int) := by
  obtain ⟨i, hi, rfl⟩ := List.getElem_of_mem h
  rw [mos_length] at hi
  have := mos_get (ctr := ctr) (q := q) hi
  rw [List.getElem?_eq_getElem (by rw [mos_length]; exact hi)] at this
  exact ⟨i, hi, by simpa using this⟩
theorem mem_chn {q p k : Nat} {x : Ord} (h : x ∈ chn q p k) : ∃ i, i < k ∧ x = le 0 ((q + (i + 1) + 1 : Nat) : Int) (((q + 2 * p + 2 : Nat) : Int) - ((i + 1 : Nat) : Int)) := by
  obtain ⟨i, hi, rfl⟩ := List.getElem_of_mem h
  rw [chn_length] at hi
  have := chn_get (q := q) (p := p) hi
  rw [List.getElem?_eq_getElem (by rw [chn_length]; exact hi)] at this
  exact ⟨i, hi, by simpa using this⟩

theorem mo_ok {L : Nat} {c : Int} {r : Nat} (hc : c = 0 ∨ c = 1) (h : r ≤ L) : OrdOk 2 L (mo c (r : Nat)) :=
  ⟨.inl rfl, by simp only [mo]; omega, by simp only [mo]; omega, fun hk => by simp [mo] at hk⟩
theorem le_ok {L : Nat} {c n z : Int} (hc : c = 0 ∨ c = 1) (hn : 0 ≤ n ∧ n ≤ L) (hz : 0 ≤ z ∧ z ≤ L) : OrdOk 2 L (le c n z) :=
  ⟨.inr rfl, by simp only [le]; omega, hn, fun _ => hz⟩
theorem mos_ok {L : Nat} {c : Int} {q t : Nat} (hc : c = 0 ∨ c = 1) (h : q + t ≤ L) : ∀ x ∈ mos c q t, OrdOk 2 L x := fun x hx => by
  obtain ⟨i, hi, rfl⟩ := mem_mos hx; exact mo_ok hc (by omega)
theorem mvs_ok {L : Nat} {a b z : Int} {t q : Nat} (ha : a = 0 ∨ a = 1) (hb : b = 0 ∨ b = 1) (ht : 1 ≤ t) (h : q + t + 1 ≤ L) (hz : 0 ≤ z ∧ z ≤ L) : ∀ x ∈ mvs a b t q z, OrdOk 2 L x := fun x hx => by
  simp only [mvs, List.mem_cons, List.mem_append, List.not_mem_nil, or_false] at hx
  rcases hx with rfl | hx | rfl
  · exact le_ok ha (by omega) hz
  · exact mos_ok hb (by omega) x hx
  · exact mo_ok hb (by omega)
theorem blk_ok {L q : Nat} {o : Ord} {n z : Int} (h : q + blkLen o ≤ L) (hn : 0 ≤ n ∧ n ≤ L) (hz : o.kind ≠ 1 → 0 ≤ z ∧ z ≤ L) : ∀ x ∈ blk q o n z, OrdOk 2 L x := fun x hx => by
  have hp := prm_range o
  unfold blk at hx
  unfold blkLen at h
  split at hx
  · rename_i hk
    rw [if_pos hk] at h
    rcases List.mem_append.1 hx with hx | hx
    · exact mvs_ok (.inl rfl) (.inr rfl) (by omega) (by omega) (by omega) x hx
    · exact mvs_ok (.inr rfl) (.inl rfl) (by omega) (by omega) hn x hx
  · rename_i hk
    rw [if_neg hk] at h
    simp only [lsL, lsA, List.mem_append, List.mem_cons, List.not_mem_nil, or_false] at hx
    rcases hx with (rfl | hx | rfl) | hx | hx | hx
    · exact le_ok (.inl rfl) (by omega) (by omega)
    · obtain ⟨i, hi, rfl⟩ := mem_chn hx
      exact le_ok (.inl rfl) (by omega) (by omega)
    · exact mo_ok (.inr rfl) (by omega)
    · exact mvs_ok (.inr rfl) (.inl rfl) (by omega) (by omega) hn x hx
    · exact mos_ok (.inl rfl) (by omega) x hx
    · exact mvs_ok (.inr rfl) (.inl rfl) (by omega) (by omega) (hz hk) x hx

theorem code_ok {n : Nat} {l : List Ord} (h : ∀ o ∈ l, OrdOk n l.length o) : ∀ x ∈ bldCode l, OrdOk 2 (bldCode l).length x := by
  intro x hx
  obtain ⟨a, ha, rfl⟩ := List.getElem_of_mem hx
  have ha' : a < (bld l).1.length := by rw [bldCode, fixK_length] at ha; exact ha
  obtain ⟨i, j, hi, he, hj⟩ := bld_cover l a ha'
  have hc := code_at hi
  have hL := code_length l
  have hs := psn_succ hi
  have hle := psn_le (l := l) (show i + 1 ≤ l.length by omega) (Nat.le_refl _)
  have ho := h l[i] (List.getElem_mem hi)
  have t1 := tgt_eq (l := l) ho.next
  have hon := ho.next
  have p1 := psn_le (l := l) (show l[i].next.toNat ≤ l.length by omega) (Nat.le_refl _)
  have hb : j < (blk (psn l i) l[i] (tgt l l[i].next) (tgt l l[i].zero)).length := by rw [blk_length]; exact hj
  have hx2 := hc j _ (List.getElem?_eq_getElem hb)
  subst he
  rw [List.getElem?_eq_getElem ha] at hx2
  have hx3 : (bldCode l)[psn l i + j] = (blk (psn l i) l[i] (tgt l l[i].next) (tgt l l[i].zero))[j] := by simpa using hx2
  rw [hx3]
  refine blk_ok (by omega) (by omega) (fun hk => ?_) _ (List.getElem_mem hb)
  have hoz := ho.zero (by rcases ho.kind with h | h <;> omega)
  have t2 := tgt_eq (l := l) hoz
  have p2 := psn_le (l := l) (show l[i].zero.toNat ≤ l.length by omega) (Nat.le_refl _)
  omega

theorem firstErr_zero {α : Type} {f : α → Int} : ∀ {l : List α}, (∀ x ∈ l, f x = 0) → firstErr f l = 0
  | [], _ => rfl
  | x :: l, h => by
    simp only [firstErr]
    rw [if_neg (by simp [h x (by simp)])]
    exact firstErr_zero (fun y hy => h y (by simp [hy]))
theorem code_err {n : Nat} {l : List Ord} (h : ∀ o ∈ l, OrdOk n l.length o) : ordersErr 2 (bldCode l) = 0 := by
  refine firstErr_zero fun x hx => ?_
  have q := code_ok h x hx
  have q1 := q.kind
  have q2 := q.counter
  have q3 := q.next
  have q4 := q.zero
  simp only [ordErr]
  rw [if_neg (by omega), if_neg (by omega), if_neg (by omega)]

theorem pk_set : ∀ {ps : List Nat} {c : List Int} {i : Nat} (x : Int) (hi : i < ps.length), i < c.length → pk ps (c.set i x) = ps[i] ^ x.toNat * pk ps (c.set i 0)
  | [], _, _, _, hi, _ => by simp at hi
  | _ :: _, [], _, _, _, hc => by simp at hc
  | p :: ps, y :: c, 0, x, _, _ => by simp [pk]
  | p :: ps, y :: c, i + 1, x, hi, hc => by
    have := pk_set (ps := ps) (c := c) (i := i) x (by simpa using hi) (by simpa using hc)
    simp only [List.set_cons_succ, pk, List.getElem_cons_succ, this]
    rw [Nat.mul_left_comm]
theorem pk_noz {p : Nat} (hp : PrimeTo p) (h1 : ¬ 1 % p = 0) : ∀ {ps : List Nat} {c : List Int} {i : Nat}, (∀ j q, ps[j]? = some q → j ≠ i → ¬ q % p = 0) → ¬ (pk ps (c.set i 0)) % p = 0
  | [], c, i, _ => by simpa [pk] using h1
  | q :: ps, [], i, _ => by simpa [pk] using h1
  | q :: ps, y :: c, 0, h => by
    simp only [List.set_cons_zero, pk, Int.toNat_zero, Nat.pow_zero, Nat.one_mul]
    refine pk_apart hp h1 (fun r hr => ?_) c
    obtain ⟨j, hj⟩ := List.getElem?_of_mem hr
    exact h (j + 1) r (by simpa using hj) (by omega)
  | q :: ps, y :: c, i + 1, h => by
    simp only [List.set_cons_succ, pk]
    exact hp _ _ (pow_apart hp h1 (h 0 q (by simp) (by omega)) _) (pk_noz hp h1 (fun j r hj hne => h (j + 1) r (by simpa using hj) (by omega)))

theorem packed_set {c : List Int} {i : Nat} (x : Int) (hi : i < prs.length) (hc : i < c.length) : packed (c.set i x) = prs[i] ^ x.toNat * packed (c.set i 0) := pk_set x hi hc
theorem packed_same {c : List Int} {i : Nat} (hi : i < prs.length) (hc : i < c.length) : packed c = prs[i] ^ (c[i]).toNat * packed (c.set i 0) := by
  have := packed_set c[i] hi hc
  rwa [List.set_getElem_self] at this
theorem packed_noz {c : List Int} {i : Nat} (hi : i < prs.length) : ¬ (packed (c.set i 0)) % prs[i] = 0 := by
  have key : ∀ i : Nat, i < 4 → PrimeTo (prs.getD i 1) ∧ ¬ 1 % prs.getD i 1 = 0 ∧ ∀ j : Nat, j < 4 → j ≠ i → ¬ prs.getD j 1 % prs.getD i 1 = 0 := by
    intro i hi
    match i with
    | 0 => exact ⟨apart2, by decide, by decide⟩
    | 1 => exact ⟨apart3, by decide, by decide⟩
    | 2 => exact ⟨apart5, by decide, by decide⟩
    | 3 => exact ⟨apart7, by decide, by decide⟩
    | i + 4 => omega
  have hg : ∀ (j : Nat) (hj : j < prs.length), prs.getD j 1 = prs[j] := fun j hj => by simp [hj]
  obtain ⟨h1, h2, h3⟩ := key i hi
  rw [hg i hi] at h1 h2
  refine pk_noz h1 h2 (fun j q hj hne => ?_)
  obtain ⟨hj', rfl⟩ := List.getElem?_eq_some_iff.1 hj
  have := h3 j hj' hne
  rwa [hg j hj', hg i hi] at this

/-- the code of an instruction does what it does -/
theorem sim {n : Nat} {l : List Ord} (hn : n ≤ 4) (h : ∀ o ∈ l, OrdOk n l.length o) {i : Nat} (hi : i < l.length) {c : List Int} (hc : c.length = n) (hE : ∀ x ∈ c, 0 ≤ x) :
    ∃ k, k ≤ 100 * packed c + 100 ∧ Rch (bldCode l) (bgs l) (psn l (estep l[i] c).2.toNat, packed (estep l[i] c).1, 0) k (psn l i, packed c, 0) := by
  have ho := h l[i] (List.getElem_mem hi)
  have hcode := code_at hi
  have hB := fun j => bgs_not (j := j) hi
  generalize l[i] = o at *
  have hoc := ho.counter
  have hon := ho.next
  have hci : o.counter.toNat < c.length := by omega
  have hpi : o.counter.toNat < prs.length := by simp [prs]; omega
  have hpm : prs[o.counter.toNat] = prm o := by simp [prm, hpi]
  have hp := prm_range o
  have hx := hE c[o.counter.toNat] (List.getElem_mem hci)
  have hat : cAt c o.counter = c[o.counter.toNat] := by simp [cAt, hci]
  have hsame := packed_same hpi hci
  rw [tgt_eq hon] at hcode
  unfold blk at hcode
  unfold blkLen at hB
  rw [hpm] at hsame
  by_cases hk : o.kind = 1
  · have e1 : estep o c = (c.set o.counter.toNat (c[o.counter.toNat] + 1), o.next) := by simp [estep, hk, hat]
    have e2 : packed (c.set o.counter.toNat (c[o.counter.toNat] + 1)) = prm o * packed c := by
      rw [packed_set _ hpi hci, hpm, hsame, show (c[o.counter.toNat] + 1).toNat = c[o.counter.toNat].toNat + 1 by omega, Nat.pow_succ]
      rw [Nat.mul_comm (prm o ^ _) (prm o), Nat.mul_assoc]
    rw [if_pos hk] at hcode hB
    have hr := more_run (N := packed c) (r := psn l o.next.toNat) (by omega) hcode (fun j h1 h2 => hB j h1 (by omega)) (bgs_mem (by omega))
    rw [e1, e2]
    refine ⟨_, ?_, hr⟩
    have : prm o * packed c ≤ 7 * packed c := Nat.mul_le_mul_right _ hp.2
    have : packed c * (prm o + 1) ≤ packed c * 8 := Nat.mul_le_mul_left _ (by omega)
    omega
  · have hk2 : o.kind = 2 := by rcases ho.kind with h | h <;> omega
    have hoz := ho.zero hk2
    rw [if_neg hk] at hcode hB
    by_cases hz : 0 < c[o.counter.toNat]
    · have e1 : estep o c = (c.set o.counter.toNat (c[o.counter.toNat] - 1), o.next) := by simp [estep, hk, hat, hz]
      have e2 : packed c = prm o * packed (c.set o.counter.toNat (c[o.counter.toNat] - 1)) := by
        rw [packed_set _ hpi hci, hpm, hsame, show c[o.counter.toNat].toNat = (c[o.counter.toNat] - 1).toNat + 1 by omega, Nat.pow_succ]
        rw [Nat.mul_comm (prm o ^ _) (prm o), Nat.mul_assoc]
      rw [e1]
      generalize packed (c.set o.counter.toNat (c[o.counter.toNat] - 1)) = a at *
      have hr := less_run (a := a) (r := psn l o.next.toNat) (by omega) hcode (fun j h1 h2 => hB j h1 (by omega)) (bgs_mem (by omega))
      rw [e2]
      refine ⟨_, ?_, hr⟩
      have : a * (prm o + 1) ≤ a * 8 := Nat.mul_le_mul_left _ (by omega)
      have : 1 * a ≤ prm o * a := Nat.mul_le_mul_right _ (by omega)
      omega
    · have e1 : estep o c = (c, o.zero) := by simp [estep, hk, hat, hz]
      have hx0 : c[o.counter.toNat] = 0 := by omega
      have hno : ¬ packed c % prm o = 0 := by
        rw [hsame, hx0]
        have := packed_noz (c := c) hpi
        rw [hpm] at this
        simpa using this
      rw [tgt_eq hoz] at hcode
      rw [e1]
      have hdm := Nat.mod_add_div (packed c) (prm o)
      have hml := Nat.mod_lt (packed c) (show 0 < prm o by omega)
      have hr := zero_run (a := packed c / prm o) (b := packed c % prm o) (r := psn l o.zero.toNat) (by omega) ⟨by omega, hml⟩ hcode (fun j h1 h2 => hB j h1 (by omega)) (bgs_mem (by omega))
      rw [hdm] at hr
      refine ⟨_, ?_, hr⟩
      have : packed c / prm o * (prm o + 1) ≤ packed c / prm o * 8 := Nat.mul_le_mul_left _ (by omega)
      have : packed c / prm o ≤ packed c := Nat.div_le_self _ _
      have : packed c % prm o ≤ packed c := Nat.mod_le _ _
      omega

end Go.Av
