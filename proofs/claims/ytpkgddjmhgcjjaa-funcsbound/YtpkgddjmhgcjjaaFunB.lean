/- Functions, without programs: values of small rank are bounded. -/
import Derived.Test.YtpkgddjmhgcjjaaFunV
import Derived.Test.YtpkgddjmhgcjjaaFunR
set_option linter.unusedSimpArgs false
set_option linter.unusedVariables false
set_option maxRecDepth 100000
namespace Go.Av
open Go.Proofs

theorem rks_app : ∀ (a b : List Fn) (acc : List Nat), rks acc (a ++ b) = rks (rks acc a) b
  | [], b, acc => rfl
  | f :: a, b, acc => by simp only [List.cons_append, rks]; exact rks_app a b _
theorem rks_pre : ∀ (b : List Fn) (acc : List Nat), ∃ t, rks acc b = acc ++ t
  | [], acc => ⟨[], by simp [rks]⟩
  | f :: b, acc => by
    obtain ⟨t, ht⟩ := rks_pre b (acc ++ [rkF acc f])
    exact ⟨rkF acc f :: t, by simp only [rks]; rw [ht]; simp⟩
/-- the rank of one of a list -/
def rkAt (l : List Fn) (i : Nat) : Nat := (ranks l).getD i 0
theorem rk_take {l : List Fn} {k j : Nat} (hk : k ≤ l.length) (hj : j < k) : rkAt l j = (ranks (l.take k)).getD j 0 := by
  have h1 : ranks l = rks (ranks (l.take k)) (l.drop k) := by
    conv => lhs; rw [← List.take_append_drop k l]
    exact rks_app _ _ _
  obtain ⟨t, ht⟩ := rks_pre (l.drop k) (ranks (l.take k))
  have hl : (ranks (l.take k)).length = k := by rw [ranks_len, List.length_take]; omega
  rw [rkAt, h1, ht, List.getD_eq_getElem?_getD, List.getD_eq_getElem?_getD, List.getElem?_append_left (by omega)]
theorem rk_eq {l : List Fn} {i : Nat} (h : i < l.length) : rkAt l i = rkF (ranks (l.take i)) l[i] := by
  have hl : (ranks (l.take i)).length = i := by rw [ranks_len, List.length_take]; omega
  rw [rk_take (k := i + 1) (by omega) (by omega), ranks_take h, List.getD_eq_getElem?_getD, List.getElem?_append_right (by omega), hl, Nat.sub_self]
  rfl
theorem mx_ge (acc : List Nat) : ∀ (js : List Int) (j : Int), j ∈ js → acc.getD j.toNat 0 ≤ mx acc js := by
  have : ∀ (js : List Int) (m : Nat), m ≤ js.foldl (fun m j => max m (acc.getD j.toNat 0)) m ∧ ∀ j ∈ js, acc.getD j.toNat 0 ≤ js.foldl (fun m j => max m (acc.getD j.toNat 0)) m := by
    intro js
    induction js with
    | nil => intro m; exact ⟨Nat.le_refl _, fun j h => by cases h⟩
    | cons x js ih =>
      intro m
      obtain ⟨h1, h2⟩ := ih (max m (acc.getD x.toNat 0))
      have h3 := Nat.le_max_left m (acc.getD x.toNat 0)
      have h4 := Nat.le_max_right m (acc.getD x.toNat 0)
      refine ⟨Nat.le_trans h3 h1, fun j hj => ?_⟩
      rcases List.mem_cons.1 hj with rfl | hj
      · exact Nat.le_trans h4 h1
      · exact h2 j hj
  exact fun js j hj => (this js 0).2 j hj
theorem rk_pos {l : List Fn} {i : Nat} (h : i < l.length) : 1 ≤ rkAt l i := by
  rw [rk_eq h, rkF]; have := grw_le l[i].kind; omega
theorem rk_use {l : List Fn} (hg : Good l) {i : Nat} (h : i < l.length) {u : Int × Int} (hu : u ∈ usL l[i]) : u.1.toNat < i ∧ 1 ≤ rkAt l u.1.toNat ∧ rkAt l u.1.toNat + grw l[i].kind ≤ rkAt l i := by
  obtain ⟨h1, _⟩ := good_args hg h u hu
  refine ⟨h1, rk_pos (by omega), ?_⟩
  have h2 := mx_ge (ranks (l.take i)) (blw l[i]) u.1 (List.mem_map.2 ⟨u, hu, rfl⟩)
  rw [← rk_take (by omega) h1] at h2
  rw [rk_eq h, rkF]; omega
theorem rk_kind {l : List Fn} (hg : Good l) {i : Nat} (h : i < l.length) (h2 : rkAt l i ≤ 2) : l[i].kind ≠ 4 ∧ l[i].kind ≠ 5 := by
  refine ⟨fun hk => ?_, fun hk => ?_⟩
  · have hu : (l[i].a, (l[i].into.length : Int)) ∈ usL l[i] := by rw [usL, if_pos hk]; simp
    have := rk_use hg h hu
    rw [grw, if_pos hk] at this; omega
  · have hu : (l[i].a, l[i].args - 1) ∈ usL l[i] := by rw [usL, if_neg (by omega), if_pos hk]; simp
    have := rk_use hg h hu
    rw [grw, if_neg (by omega), if_pos hk] at this; omega

def LeA (M : Nat) (args : List Nat) : Prop := ∀ a ∈ args, a ≤ M
theorem getD_le {M : Nat} {args : List Nat} (h : LeA M args) (i : Nat) : args.getD i 0 ≤ M := by
  rw [List.getD_eq_getElem?_getD]
  cases hj : args[i]? with
  | none => simp
  | some x => exact h x (List.mem_of_getElem? hj)
theorem ev_small {l : List Fn} {i : Nat} (h : i < l.length) (hk : l[i].kind ≠ 4 ∧ l[i].kind ≠ 5) {M : Nat} {args : List Nat} (ha : LeA M args) : ∀ (d fuel : Nat), (evF l d i args fuel).1 = true → (evF l d i args fuel).2.1 ≤ M + 1
  | 0, fuel, hv => by cases hv
  | d + 1, fuel, hv => by
    simp only [evF, List.getElem?_eq_getElem h] at hv ⊢
    split
    · rename_i h0; rw [if_pos h0] at hv; cases hv
    rename_i h0
    rw [if_neg h0] at hv
    split
    · have := getD_le ha 0; simp only; omega
    split
    · have := getD_le ha l[i].pick.toNat; simp only; omega
    rw [if_neg hk.1, if_neg hk.2]; simp
theorem evL_le {rc : Nat → List Nat → Nat → Rs} {args : List Nat} {B : Nat} : ∀ (js : List Int), (∀ j ∈ js, ∀ fuel, (rc j.toNat args fuel).1 = true → (rc j.toNat args fuel).2.1 ≤ B) → ∀ fuel, LeA B (evL rc args js fuel).2.1
  | [], _, fuel => by simp [evL, LeA]
  | j :: js, h, fuel => by
    simp only [evL]
    split
    · rename_i hr
      intro a ha
      rcases List.mem_cons.1 ha with rfl | ha
      · exact h j (by simp) fuel hr
      · exact evL_le js (fun j hj => h j (by simp [hj])) _ a ha
    · simp [LeA]
theorem ev_four {l : List Fn} (hg : Good l) {i : Nat} (h : i < l.length) (hr : rkAt l i ≤ 4) (hk : l[i].kind ≠ 5) {M : Nat} {args : List Nat} (ha : LeA M args) : ∀ (d fuel : Nat), (evF l d i args fuel).1 = true → (evF l d i args fuel).2.1 ≤ M + 2
  | 0, fuel, hv => by cases hv
  | d + 1, fuel, hv => by
    by_cases h4 : l[i].kind = 4
    rotate_left
    · have := ev_small h ⟨h4, hk⟩ ha (d + 1) fuel hv; omega
    have hE : evF l (d + 1) i args fuel = if fuel = 0 then (false, 0, 0) else evC (evF l d) l[i] args (fuel - 1) := by
      simp only [evF, List.getElem?_eq_getElem h]
      rw [if_neg (show ¬ l[i].kind = 2 by omega), if_neg (show ¬ l[i].kind = 3 by omega), if_pos h4]
    rw [hE] at hv ⊢
    by_cases h0 : fuel = 0
    · rw [if_pos h0] at hv; cases hv
    rw [if_neg h0, evC] at hv ⊢
    have hus : usL l[i] = (l[i].a, (l[i].into.length : Int)) :: l[i].into.map (fun j => (j, l[i].args)) := by rw [usL, if_pos h4]
    have hgr : grw l[i].kind = 2 := by rw [grw, if_pos h4]
    have hsm : ∀ u ∈ usL l[i], ∃ hu : u.1.toNat < l.length, l[u.1.toNat].kind ≠ 4 ∧ l[u.1.toNat].kind ≠ 5 := fun u hu => by
      have := rk_use hg h hu
      exact ⟨by omega, rk_kind hg (by omega) (by omega)⟩
    split at hv
    · rename_i hL
      rw [if_pos hL]
      obtain ⟨hu, hk2⟩ := hsm (l[i].a, (l[i].into.length : Int)) (by rw [hus]; simp)
      refine ev_small hu hk2 (evL_le _ (fun j hj fu hv2 => ?_) _) d _ hv
      obtain ⟨hu, hk3⟩ := hsm (j, l[i].args) (by rw [hus]; simp [hj])
      exact ev_small hu hk3 ha d fu hv2
    · cases hv
theorem ev_five {l : List Fn} (hg : Good l) {i : Nat} (h : i < l.length) (hr : rkAt l i ≤ 4) (hk : l[i].kind = 5) {args : List Nat} (ha : LeA 0 args) : ∀ (d fuel : Nat), (evF l d i args fuel).1 = true → (evF l d i args fuel).2.1 ≤ 1
  | 0, fuel, hv => by cases hv
  | d + 1, fuel, hv => by
    have hE : evF l (d + 1) i args fuel = if fuel = 0 then (false, 0, 0) else evA (evF l d) l[i] args (fuel - 1) := by
      simp only [evF, List.getElem?_eq_getElem h]
      rw [if_neg (show ¬ l[i].kind = 2 by omega), if_neg (show ¬ l[i].kind = 3 by omega), if_neg (show ¬ l[i].kind = 4 by omega), if_pos hk]
    rw [hE] at hv ⊢
    by_cases h0 : fuel = 0
    · rw [if_pos h0] at hv; cases hv
    have hlast : args.getD (l[i].args - 1).toNat 0 = 0 := by have := getD_le ha (l[i].args - 1).toNat; omega
    rw [if_neg h0, evA, hlast, evR] at hv ⊢
    have hu : (l[i].a, l[i].args - 1) ∈ usL l[i] := by rw [usL, if_neg (by omega), if_pos hk]; simp
    have hgr : grw l[i].kind = 3 := by rw [grw, if_neg (by omega), if_pos hk]
    have h1 := rk_use hg h hu
    simp only at h1
    exact ev_small (by omega) (rk_kind hg (by omega) (by omega)) (fun a hm => ha a (List.mem_of_mem_take hm)) d _ hv

/-- below what comes of the rank and the greatest argument -/
theorem val_below {l : List Fn} (hg : Good l) {ns : List Nat} {M : Nat} (hM : LeA M ns) (hr : rkAt l (l.length - 1) ≤ 4) {d fuel y : Nat} (hv : (evF l d (l.length - 1) ns fuel).1 = true) (hy : (rowC (rkAt l (l.length - 1)))[M]? = some y) :
    (evF l d (l.length - 1) ns fuel).2.1 < y := by
  have hl := hg.len
  have h : l.length - 1 < l.length := by omega
  have h0 := rk_pos h
  have k1 : rkAt l (l.length - 1) ≤ 2 → (evF l d (l.length - 1) ns fuel).2.1 ≤ M + 1 := fun h2 => ev_small h (rk_kind hg h h2) hM d fuel hv
  have k3 : l[l.length - 1].kind ≠ 5 → (evF l d (l.length - 1) ns fuel).2.1 ≤ M + 2 := fun h2 => ev_four hg h hr h2 hM d fuel hv
  have k4 : M = 0 → (evF l d (l.length - 1) ns fuel).2.1 ≤ 2 := fun h2 => by
    subst h2
    by_cases hk : l[l.length - 1].kind = 5
    · have := ev_five hg h hr hk hM d fuel hv; omega
    · have := k3 hk; omega
  have k5 : l[l.length - 1].kind = 5 → rkAt l (l.length - 1) = 4 := fun hk => by
    have hu : (l[l.length - 1].a, l[l.length - 1].args - 1) ∈ usL l[l.length - 1] := by rw [usL, if_neg (by omega), if_pos hk]; simp
    have := rk_use hg h hu
    rw [grw, if_neg (by omega), if_pos hk] at this; omega
  generalize (evF l d (l.length - 1) ns fuel).2.1 = v at *
  generalize rkAt l (l.length - 1) = r at *
  have hlt : M < (rowC r).length := (List.getElem?_eq_some_iff.1 hy).1
  rcases (by omega : r = 1 ∨ r = 2 ∨ r = 3 ∨ r = 4) with rfl | rfl | rfl | rfl
  · simp only [rowC, List.length_map, List.length_range] at hlt
    simp only [rowC, List.getElem?_map, List.getElem?_range hlt, Option.map_some, Option.some.injEq] at hy
    have := k1 (by omega); omega
  · simp only [rowC, List.length_map, List.length_range] at hlt
    simp only [rowC, List.getElem?_map, List.getElem?_range hlt, Option.map_some, Option.some.injEq] at hy
    have := k1 (by omega); omega
  · have h3 := k3 (fun hk => by have := k5 hk; omega)
    have hb : ∀ M, M < 7 → ∀ y, (rowC 3)[M]? = some y → M + 2 < y := by decide
    have := hb M hlt y hy; omega
  · have hM0 : M = 0 := by simp only [rowC, List.length_cons, List.length_nil] at hlt; omega
    have := k4 hM0
    subst hM0
    simp only [rowC, List.getElem?_cons_zero, Option.some.injEq] at hy
    omega

end Go.Av
