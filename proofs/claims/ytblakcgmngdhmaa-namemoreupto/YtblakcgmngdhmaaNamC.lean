/- Clauses: in how many ways the rest of the values can be found (the document's search). -/
import Derived.Test.YtblakcgmngdhmaaNamA
set_option linter.unusedSimpArgs false
set_option linter.unusedVariables false
set_option maxRecDepth 100000
namespace Go.Av
open Go.Proofs

def encO : Option Bool → Int
  | none => -1
  | some false => 0
  | some true => 1
abbrev encH (h : List (Option Bool)) : List AV := h.map fun o => I (encO o)
def getH (h : List (Option Bool)) (i : Int) : Option Bool := h.getD i.toNat none

structure Sc where
  f : Int
  v : Int
  m : Nat
  s : Bool
def scY (h : List (Option Bool)) (st : Sc) (i : Int) : Sc := if getH h i = none then ⟨i, 1, st.m + 1, st.s⟩ else ⟨st.f, st.v, st.m, st.s || (getH h i == some true)⟩
def scN (h : List (Option Bool)) (st : Sc) (i : Int) : Sc := if getH h i = none then ⟨i, 0, st.m + 1, st.s⟩ else ⟨st.f, st.v, st.m, st.s || (getH h i == some false)⟩
def sc0 : Sc := ⟨-1, 0, 0, false⟩
def scanY (h : List (Option Bool)) (ys : List Int) : Sc := ys.foldl (scY h) sc0
def scan (h : List (Option Bool)) (c : Cl) : Sc := c.no.foldl (scN h) (scanY h c.yes)

structure ScOk (h : List (Option Bool)) (ys ns : List Int) (st : Sc) : Prop where
  s : st.s = (ys.any (fun i => getH h i == some true) || ns.any (fun i => getH h i == some false))
  z : st.m = 0 → (∀ i ∈ ys, getH h i ≠ none) ∧ ∀ i ∈ ns, getH h i ≠ none
  o : st.m = 1 → getH h st.f = none ∧ (st.v = 0 ∨ st.v = 1) ∧ (st.f ∈ ys ∨ st.f ∈ ns) ∧ (∀ i ∈ ys, getH h i = none → i = st.f ∧ st.v = 1) ∧ ∀ i ∈ ns, getH h i = none → i = st.f ∧ st.v = 0
  p : 0 < st.m → ∃ i, (i ∈ ys ∨ i ∈ ns) ∧ getH h i = none
theorem sc0_ok (h : List (Option Bool)) : ScOk h [] [] sc0 := ⟨rfl, fun _ => ⟨by simp, by simp⟩, fun hh => by simp [sc0] at hh, fun hh => by simp [sc0] at hh⟩
theorem scY_ok {h : List (Option Bool)} {ys : List Int} {st : Sc} {i : Int} (hs : ScOk h ys [] st) : ScOk h (ys ++ [i]) [] (scY h st i) := by
  by_cases c : getH h i = none
  · rw [scY, if_pos c]
    refine ⟨?_, fun hm => by simp only at hm; omega, fun hm => ⟨c, .inr rfl, .inl (by simp), fun j hj hn => ?_, fun j hj => by simp at hj⟩, fun _ => ⟨i, .inl (by simp), c⟩⟩
    · simp only; rw [hs.s]; simp [c]
    · simp only at hm
      rcases List.mem_append.1 hj with hj | hj
      · exact absurd hn ((hs.z (by omega)).1 j hj)
      · exact ⟨by simpa using hj, rfl⟩
  · rw [scY, if_neg c]
    refine ⟨?_, fun hm => ⟨fun j hj => ?_, by simp⟩, fun hm => ?_, fun hm => ?_⟩
    · simp only; rw [hs.s]; simp
    · rcases List.mem_append.1 hj with hj | hj
      · exact (hs.z hm).1 j hj
      · simp only [List.mem_singleton] at hj; subst hj; exact c
    · obtain ⟨h1, h2, h3, h4, h5⟩ := hs.o hm
      refine ⟨h1, h2, ?_, fun j hj hn => ?_, fun j hj => by simp at hj⟩
      · rcases h3 with h3 | h3
        · exact .inl (List.mem_append_left _ h3)
        · simp at h3
      · rcases List.mem_append.1 hj with hj | hj
        · exact h4 j hj hn
        · simp only [List.mem_singleton] at hj; subst hj; exact absurd hn c
    · obtain ⟨j, hj, hn⟩ := hs.p hm
      refine ⟨j, ?_, hn⟩
      rcases hj with hj | hj
      · exact .inl (List.mem_append_left _ hj)
      · simp at hj
theorem scN_ok {h : List (Option Bool)} {ys ns : List Int} {st : Sc} {i : Int} (hs : ScOk h ys ns st) : ScOk h ys (ns ++ [i]) (scN h st i) := by
  by_cases c : getH h i = none
  · rw [scN, if_pos c]
    refine ⟨?_, fun hm => by simp only at hm; omega, fun hm => ⟨c, .inl rfl, .inr (by simp), fun j hj hn => ?_, fun j hj hn => ?_⟩, fun _ => ⟨i, .inr (by simp), c⟩⟩
    · simp only; rw [hs.s]; simp [c]
    · simp only at hm
      exact absurd hn ((hs.z (by omega)).1 j hj)
    · simp only at hm
      rcases List.mem_append.1 hj with hj | hj
      · exact absurd hn ((hs.z (by omega)).2 j hj)
      · exact ⟨by simpa using hj, rfl⟩
  · rw [scN, if_neg c]
    refine ⟨?_, fun hm => ⟨(hs.z hm).1, fun j hj => ?_⟩, fun hm => ?_, fun hm => ?_⟩
    · simp only; rw [hs.s]; simp [Bool.or_assoc]
    · rcases List.mem_append.1 hj with hj | hj
      · exact (hs.z hm).2 j hj
      · simp only [List.mem_singleton] at hj; subst hj; exact c
    · obtain ⟨h1, h2, h3, h4, h5⟩ := hs.o hm
      refine ⟨h1, h2, ?_, h4, fun j hj hn => ?_⟩
      · rcases h3 with h3 | h3
        · exact .inl h3
        · exact .inr (List.mem_append_left _ h3)
      · rcases List.mem_append.1 hj with hj | hj
        · exact h5 j hj hn
        · simp only [List.mem_singleton] at hj; subst hj; exact absurd hn c
    · obtain ⟨j, hj, hn⟩ := hs.p hm
      refine ⟨j, ?_, hn⟩
      rcases hj with hj | hj
      · exact .inl hj
      · exact .inr (List.mem_append_left _ hj)
theorem foldY_ok {h : List (Option Bool)} : ∀ (r ys : List Int) (st : Sc), ScOk h ys [] st → ScOk h (ys ++ r) [] (r.foldl (scY h) st)
  | [], ys, st, hs => by simpa using hs
  | i :: r, ys, st, hs => by
    have := foldY_ok r (ys ++ [i]) (scY h st i) (scY_ok hs)
    rwa [List.append_assoc] at this
theorem foldN_ok {h : List (Option Bool)} {ys : List Int} : ∀ (r ns : List Int) (st : Sc), ScOk h ys ns st → ScOk h ys (ns ++ r) (r.foldl (scN h) st)
  | [], ns, st, hs => by simpa using hs
  | i :: r, ns, st, hs => by
    have := foldN_ok r (ns ++ [i]) (scN h st i) (scN_ok hs)
    rwa [List.append_assoc] at this
theorem scan_ok (h : List (Option Bool)) (c : Cl) : ScOk h c.yes c.no (scan h c) := by
  have h1 := foldY_ok c.yes [] sc0 (sc0_ok h)
  have h2 := foldN_ok c.no [] _ h1
  exact h2

theorem lit_of {h : List (Option Bool)} {v : List Bool} (hc : compat h v) {i : Int} {b : Bool} (hg : getH h i = some b) : litT v i = b := by
  rw [getH, List.getD_eq_getElem?_getD] at hg
  cases hh : h[i.toNat]? with
  | none => rw [hh] at hg; cases hg
  | some x =>
    rw [hh, Option.getD_some] at hg
    subst hg
    exact (compat_get hc).2 _ _ hh
theorem scan_conflict {h : List (Option Bool)} {c : Cl} (hs : (scan h c).s = false) (hm : (scan h c).m = 0) {v : List Bool} (hv : compat h v) : clT v c = false := by
  have ok := scan_ok h c
  have e := ok.s
  rw [hs] at e
  obtain ⟨z1, z2⟩ := ok.z hm
  have e1 := (Bool.or_eq_false_iff.1 e.symm).1
  have e2 := (Bool.or_eq_false_iff.1 e.symm).2
  rw [clT, Bool.or_eq_false_iff]
  constructor
  · rw [List.any_eq_false] at e1 ⊢
    intro i hi
    have h1 := e1 i hi
    cases hg : getH h i with
    | none => exact absurd hg (z1 i hi)
    | some b =>
      rw [hg] at h1
      rw [lit_of hv hg]
      cases b with
      | false => exact Bool.false_ne_true
      | true => exact (h1 rfl).elim
  · rw [List.any_eq_false] at e2 ⊢
    intro i hi
    have h1 := e2 i hi
    cases hg : getH h i with
    | none => exact absurd hg (z2 i hi)
    | some b =>
      rw [hg] at h1
      rw [lit_of hv hg]
      cases b with
      | false => exact (h1 rfl).elim
      | true => exact Bool.false_ne_true
theorem scan_unit {h : List (Option Bool)} {c : Cl} (hs : (scan h c).s = false) (hm : (scan h c).m = 1) (hf : 0 ≤ (scan h c).f ∧ (scan h c).f < h.length) (hc : ClOk h.length c) {v : List Bool}
    (hv : compat (h.set (scan h c).f.toNat (some (!((scan h c).v == 1)))) v) : clT v c = false := by
  have ok := scan_ok h c
  have e := ok.s
  rw [hs] at e
  obtain ⟨o1, o2, o3, o4, o5⟩ := ok.o hm
  have e1 := (Bool.or_eq_false_iff.1 e.symm).1
  have e2 := (Bool.or_eq_false_iff.1 e.symm).2
  have hget : ∀ i, 0 ≤ i → i ≠ (scan h c).f → getH (h.set (scan h c).f.toNat (some (!((scan h c).v == 1)))) i = getH h i := fun i h0 hne => by
    rw [getH, getH, List.getD_eq_getElem?_getD, List.getD_eq_getElem?_getD, List.getElem?_set_ne (by omega)]
  have hgetf : getH (h.set (scan h c).f.toNat (some (!((scan h c).v == 1)))) (scan h c).f = some (!((scan h c).v == 1)) := by
    rw [getH, List.getD_eq_getElem?_getD, List.getElem?_set_self (by omega)]; rfl
  rw [clT, Bool.or_eq_false_iff]
  constructor
  · rw [List.any_eq_false] at e1 ⊢
    intro i hi
    have h1 := e1 i hi
    cases hg : getH h i with
    | none =>
      obtain ⟨rfl, h2⟩ := o4 i hi hg
      rw [lit_of hv hgetf, h2]; decide
    | some b =>
      have hne : i ≠ (scan h c).f := fun hh => by rw [hh, o1] at hg; cases hg
      rw [hg] at h1
      rw [lit_of hv ((hget i (hc.y i hi).1 hne).trans hg)]
      cases b with
      | false => exact Bool.false_ne_true
      | true => exact (h1 rfl).elim
  · rw [List.any_eq_false] at e2 ⊢
    intro i hi
    have h1 := e2 i hi
    cases hg : getH h i with
    | none =>
      obtain ⟨rfl, h2⟩ := o5 i hi hg
      rw [lit_of hv hgetf, h2]; decide
    | some b =>
      have hne : i ≠ (scan h c).f := fun hh => by rw [hh, o1] at hg; cases hg
      rw [hg] at h1
      rw [lit_of hv ((hget i (hc.n i hi).1 hne).trans hg)]
      cases b with
      | false => exact (h1 rfl).elim
      | true => exact Bool.false_ne_true
theorem allT_no {l : List Cl} {c : Cl} {v : List Bool} (hc : c ∈ l) (h : clT v c = false) : allT l v = false := by
  rw [allT, List.all_eq_false]; exact ⟨c, hc, by simp [h]⟩
theorem cnt_conflict {l : List Cl} {h : List (Option Bool)} {c : Cl} (hc : c ∈ l) (hs : (scan h c).s = false) (hm : (scan h c).m = 0) : cntS l [] h = 0 :=
  cntS_zero l h [] (fun v hv => allT_no hc (scan_conflict hs hm hv))
theorem getH_some {h : List (Option Bool)} {i : Int} (hi : 0 ≤ i ∧ i < h.length) {x : Option Bool} (hg : getH h i = x) : h[i.toNat]? = some x := by
  rw [getH, List.getD_eq_getElem?_getD, List.getElem?_eq_getElem (by omega), Option.getD_some] at hg
  rw [List.getElem?_eq_getElem (by omega), hg]
theorem scan_f {h : List (Option Bool)} {c : Cl} (hc : ClOk h.length c) (hm : (scan h c).m = 1) : 0 ≤ (scan h c).f ∧ (scan h c).f < h.length := by
  obtain ⟨_, _, o3, _, _⟩ := (scan_ok h c).o hm
  rcases o3 with o3 | o3
  · exact hc.y _ o3
  · exact hc.n _ o3
theorem cnt_unit {l : List Cl} {h : List (Option Bool)} {c : Cl} (hcl : c ∈ l) (hc : ClOk h.length c) (hs : (scan h c).s = false) (hm : (scan h c).m = 1) :
    cntS l [] (h.set (scan h c).f.toNat (some ((scan h c).v == 1))) = cntS l [] h := by
  have hf := scan_f hc hm
  obtain ⟨o1, o2, _, _, _⟩ := (scan_ok h c).o hm
  have hz : cntS l [] (h.set (scan h c).f.toNat (some (!((scan h c).v == 1)))) = 0 := cntS_zero l _ [] (fun v hv => allT_no hcl (scan_unit hs hm hf hc hv))
  rw [cntS_split l h [] (scan h c).f.toNat (getH_some hf o1)]
  rcases o2 with o2 | o2
  · rw [o2] at hz ⊢; rw [show (some (!((0 : Int) == 1))) = some true from rfl] at hz; rw [show (some ((0 : Int) == 1)) = some false from rfl, hz]; omega
  · rw [o2] at hz ⊢; rw [show (some (!((1 : Int) == 1))) = some false from rfl] at hz; rw [show (some ((1 : Int) == 1)) = some true from rfl, hz]; omega

/-- how many are not known -/
def noneN (h : List (Option Bool)) : Nat := h.countP (·.isNone)
theorem noneN_set {h : List (Option Bool)} : ∀ {i : Nat} {b : Bool}, h[i]? = some none → noneN (h.set i (some b)) + 1 = noneN h := by
  induction h with
  | nil => intro i b hi; simp at hi
  | cons x r ih =>
    intro i b hi
    cases i with
    | zero =>
      simp only [List.getElem?_cons_zero, Option.some.injEq] at hi
      subst hi
      simp [noneN]
    | succ i =>
      simp only [List.getElem?_cons_succ] at hi
      have := ih (b := b) hi
      simp only [noneN, List.set_cons_succ, List.countP_cons] at this ⊢
      omega
/-- a clause of which nothing follows -/
def DoneC (h : List (Option Bool)) (c : Cl) : Prop := (scan h c).s = true ∨ 2 ≤ (scan h c).m
theorem cnt_one {l : List Cl} {h : List (Option Bool)} (hl : ClsOk h.length l) (hd : ∀ c ∈ l, DoneC h c) (hk : ∀ i : Nat, i < h.length → h[i]? ≠ some none) : cntS l [] h = 1 := by
  obtain ⟨v, rfl⟩ : ∃ v : List Bool, h = v.map some := by
    clear hl hd
    induction h with
    | nil => exact ⟨[], rfl⟩
    | cons x r ih =>
      obtain ⟨v, rfl⟩ := ih (fun i hi hh => hk (i + 1) (by simp; omega) (by simpa using hh))
      cases x with
      | none => exact absurd rfl (hk 0 (by simp))
      | some b => exact ⟨b :: v, rfl⟩
  rw [cntS_known, List.nil_append]
  have hall : allT l v = true := by
    rw [allT, List.all_eq_true]
    intro c hc
    have hok := scan_ok (v.map some) c
    have hcl := hl c hc
    have hnn : ∀ i : Int, (0 ≤ i ∧ i < (v.map some).length) → getH (v.map some) i = some (litT v i) := fun i hi => by
      rw [List.length_map] at hi
      rw [getH, litT, List.getD_eq_getElem?_getD, List.getD_eq_getElem?_getD, List.getElem?_map, List.getElem?_eq_getElem (by omega)]; rfl
    have hs : (scan (v.map some) c).s = true := by
      rcases hd c hc with h1 | h1
      · exact h1
      · obtain ⟨i, hi, hn⟩ := hok.p (by omega)
        have := hnn i (by rcases hi with hi | hi; exact hcl.y i hi; exact hcl.n i hi)
        rw [this] at hn; cases hn
    have e := hok.s
    rw [hs, eq_comm, Bool.or_eq_true, List.any_eq_true, List.any_eq_true] at e
    rw [clT, Bool.or_eq_true, List.any_eq_true, List.any_eq_true]
    rcases e with ⟨i, hi, hg⟩ | ⟨i, hi, hg⟩
    · rw [hnn i (hcl.y i hi)] at hg
      exact .inl ⟨i, hi, by simpa using hg⟩
    · rw [hnn i (hcl.n i hi)] at hg
      exact .inr ⟨i, hi, by simpa using hg⟩
  rw [hall]; rfl

end Go.Av
