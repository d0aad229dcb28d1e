/- Lists as maps, loops with objects. -/
import Derived.Test.YtblakcgmngdhmaaTape
set_option linter.unusedSimpArgs false
set_option linter.unusedVariables false
namespace Go.Av
open Go.Proofs

/-- a loop that changes objects that are there -/
theorem loopO {P : Program} {b : MCode} {D : List Nat} {Q : WP} {t : Tmps} {m : Mem} {n : Nat} (ι : Type) (ss : List Nat) (vs : ι → List AV) (ob : ι → Mem) (inv : ι → Prop) (μ : ι → Nat)
    (hD : (ss.all fun i => D.contains i) = true) (x0 : ι) (h0 : inv x0) (hb : Back n ss (vs x0) (ob x0) m [] t m)
    (body : ∀ x, inv x → vcg P b (fun e t' m' n' => match e with
      | .norm => ∃ x', inv x' ∧ μ x' < μ x ∧ Back n ss (vs x') (ob x') m [] t' m'
      | e => Q e t' m' n') (zipT ss (vs x) ++ (deads D ++ t)) (ob x ++ m) n) : LoopVC (vcg P b) D Q t m n := by
  refine ⟨ι, ss, vs, ob, 0, inv, μ, hD, ⟨x0, [], rfl, h0, hb⟩, fun x hx => vcg_mono b _ _ _ _ _ (fun e t m n h => ?_) (body x hx)⟩
  cases e with
  | norm => exact match h with | ⟨x', h1, h2, h3⟩ => ⟨x', [], [], rfl, h1, h2, h3.f⟩
  | _ => exact h

/-- a loop at whose head r objects stand that its rounds make anew -/
theorem loopR {P : Program} {b : MCode} {D : List Nat} {Q : WP} {t : Tmps} {m : Mem} {n : Nat} (ι : Type) (ss : List Nat) (vs : ι → List AV) (ob : ι → Mem) (r : Nat) (inv : ι → Prop) (μ : ι → Nat)
    (hD : (ss.all fun i => D.contains i) = true) (x0 : ι) (rho : List (Option Nat)) (hr : rho.length = r) (h0 : inv x0) (hb : Back n ss (vs x0) (ob x0) m rho t m)
    (body : ∀ x, inv x → vcg P b (fun e t' m' n' => match e with
      | .norm => ∃ (x' : ι) (rho : List (Option Nat)), rho.length = r ∧ inv x' ∧ μ x' < μ x ∧ Back n ss (vs x') (ob x') m rho t' m'
      | e => Q e t' m' n') (zipT ss (vs x) ++ (deads D ++ t)) (ob x ++ m) (n + r)) : LoopVC (vcg P b) D Q t m n := by
  refine ⟨ι, ss, vs, ob, r, inv, μ, hD, ⟨x0, rho, hr, h0, hb⟩, fun x hx => vcg_mono b _ _ _ _ _ (fun e t m n h => ?_) (body x hx)⟩
  cases e with
  | norm => exact match h with | ⟨x', rho, h1, h2, h3, h4⟩ => ⟨x', rho, [], h1, h2, h3, h4.f⟩
  | _ => exact h

/-- the same, and objects that are only read from the way back on -/
theorem loopF {P : Program} {b : MCode} {D : List Nat} {Q : WP} {t : Tmps} {m : Mem} {n : Nat} (ι : Type) (ss : List Nat) (vs : ι → List AV) (ob : ι → Mem) (r : Nat) (inv : ι → Prop) (μ : ι → Nat)
    (hD : (ss.all fun i => D.contains i) = true) (x0 : ι) (rho : List (Option Nat)) (hr : rho.length = r) (h0 : inv x0) (hb : Back n ss (vs x0) (ob x0) m rho t m)
    (body : ∀ x, inv x → vcg P b (fun e t' m' n' => match e with
      | .norm => ∃ (x' : ι) (rho : List (Option Nat)) (ks : List Nat), rho.length = r ∧ inv x' ∧ μ x' < μ x ∧ BackF ks n ss (vs x') (ob x') m rho t' m'
      | e => Q e t' m' n') (zipT ss (vs x) ++ (deads D ++ t)) (ob x ++ m) (n + r)) : LoopVC (vcg P b) D Q t m n :=
  ⟨ι, ss, vs, ob, r, inv, μ, hD, ⟨x0, rho, hr, h0, hb⟩, body⟩

/-- one object is handed back -/
theorem told1 {m : Mem} {x r : AV} {k : Nat} {o : MObj} (ho : match o with | .box _ => False | .iter _ _ => False | .lent _ _ _ _ => False | _ => True) (hx : Wk (frz [k] m x) r) (hk : lookM m k = some o) :
    ∃ rho : List Nat, Wk (frz rho m x) r ∧ rho.length = [o].length ∧ rho.Nodup ∧ ∀ (i : Nat) k o', rho[i]? = some k → [o][i]? = some o' → lookM m k = some o' ∧ (match o' with | .box _ => False | .iter _ _ => False | .lent _ _ _ _ => False | _ => True) := by
  refine ⟨[k], hx, rfl, by simp, fun i k' o' h1 h2 => ?_⟩
  cases i with
  | zero => simp at h1 h2; subst h1 h2; exact ⟨hk, ho⟩
  | succ i => simp at h1

theorem told1e {m : Mem} {x r : AV} {k : Nat} {es : List (Value × AV)} (hx : Wk (frz [k] m x) r) (hk : lookM m k = some (.map es)) :
    ∃ rho : List Nat, Wk (frz rho m x) r ∧ rho.length = 1 ∧ rho.Nodup ∧ ∀ (i : Nat) k o', rho[i]? = some k → [MObj.map es][i]? = some o' → lookM m k = some o' ∧ (match o' with | .box _ => False | .iter _ _ => False | .lent _ _ _ _ => False | _ => True) :=
  told1 trivial hx hk

theorem pickL {l : List AV} {k : Nat} {K : AV → Prop} (h : k < l.length) (hK : K l[k]) : Pick l (k : Int).toNat K := ⟨l[k], by simp [h], hK⟩
theorem pickN {α : Type} {l : List α} {f : α → AV} {k : Nat} {K : AV → Prop} (h : k < l.length) (hK : K (f l[k])) : Pick (l.map f) k K := ⟨f l[k], by simp [h], hK⟩
theorem pickI {α : Type} {l : List α} {f : α → AV} {k : Int} {K : AV → Prop} (h : k.toNat < l.length) (hK : K (f l[k.toNat])) : Pick (l.map f) k.toNat K := ⟨f l[k.toNat], by simp [h], hK⟩

def encE (es : List (Int × Int)) : List (Value × AV) := es.map fun p => (.int .i64 p.1, I p.2)

def aget : List (Int × Int) → Int → Int
  | [], _ => 0
  | (q, v) :: r, x => if q = x then v else aget r x
def aset : List (Int × Int) → Int → Int → List (Int × Int)
  | [], x, y => [(x, y)]
  | (q, v) :: r, x, y => if q = x then (x, y) :: r else (q, v) :: aset r x y

theorem encE_keys (es : List (Int × Int)) : MKeys .i64 (encE es) := by
  intro p hp
  simp only [encE, List.mem_map] at hp
  obtain ⟨q, _, rfl⟩ := hp
  exact ⟨q.1, rfl⟩

theorem encE_T (es : List (Int × Int)) : MKeys .i64 (encE es) = True := eq_true (encE_keys es)

theorem encE_get {es : List (Int × Int)} {j : Nat} {p : Value × AV} (h : (encE es)[j]? = some p) : ∃ q, es[j]? = some q ∧ p = (.int .i64 q.1, I q.2) := by
  simp only [encE, List.getElem?_map, Option.map_eq_some_iff] at h
  obtain ⟨q, h1, h2⟩ := h
  exact ⟨q, h1, h2.symm⟩
theorem encE_erase (es : List (Int × Int)) (j : Nat) : (encE es).eraseIdx j = encE (es.eraseIdx j) := by
  induction es generalizing j with
  | nil => rfl
  | cons p es ih =>
    cases j with
    | zero => rfl
    | succ j => exact congrArg (List.cons _) (ih j)
theorem encE_nil {es : List (Int × Int)} (h : encE es = []) : es = [] := by simpa [encE] using h

theorem mput_enc (es : List (Int × Int)) (x y : Int) : mput .i64 x (I y) (encE es) = encE (aset es x y) := by
  induction es with
  | nil => rfl
  | cons p es ih =>
    obtain ⟨q, v⟩ := p
    by_cases h : q = x
    · subst h; simp [encE, mput, aset, keyIs]
    · have e1 : mput .i64 x (I y) (encE ((q, v) :: es)) = (.int .i64 q, I v) :: mput .i64 x (I y) (encE es) := by simp [encE, mput, keyIs, h]
      have e2 : encE (aset ((q, v) :: es) x y) = (.int .i64 q, I v) :: encE (aset es x y) := by simp [encE, aset, h]
      rw [e1, e2, ih]

theorem mfind_enc (es : List (Int × Int)) (x : Int) : (mfind x (encE es)).getD (.v (.int .i64 0)) = I (aget es x) := by
  induction es with
  | nil => rfl
  | cons p es ih =>
    obtain ⟨q, v⟩ := p
    by_cases h : q = x
    · subst h; simp [encE, mfind, aget, keyIs]
    · have e1 : mfind x (encE ((q, v) :: es)) = mfind x (encE es) := by simp [encE, mfind, keyIs, h]
      have e2 : aget ((q, v) :: es) x = aget es x := by simp [aget, h]
      rw [e1, e2, ih]

theorem aget_aset (es : List (Int × Int)) (x y z : Int) : aget (aset es x y) z = if z = x then y else aget es z := by
  induction es with
  | nil => simp only [aset, aget, eq_comm]
  | cons p es ih =>
    obtain ⟨q, v⟩ := p
    by_cases h : q = x
    · subst h
      simp only [aset, if_true, aget]
      by_cases hz : q = z
      · subst hz; simp
      · simp [hz, Ne.symm hz]
    · simp only [aset, h, if_false, aget, ih]
      by_cases hz : q = z
      · subst hz; simp [h]
      · simp [hz]

def Uniq (es : List (Int × Int)) : Prop := (es.map (·.1)).Nodup

theorem aset_mem {es : List (Int × Int)} {x y : Int} {p : Int × Int} (h : p ∈ aset es x y) : p = (x, y) ∨ p ∈ es := by
  induction es with
  | nil => simp [aset] at h; exact .inl h
  | cons q es ih =>
    obtain ⟨q, v⟩ := q
    simp only [aset] at h
    split at h
    · rcases List.mem_cons.1 h with h | h
      · exact .inl h
      · exact .inr (List.mem_cons_of_mem _ h)
    · rcases List.mem_cons.1 h with h | h
      · exact .inr (by simp [h])
      · exact (ih h).imp id (List.mem_cons_of_mem _)

theorem Uniq.aset {es : List (Int × Int)} (h : Uniq es) (x y : Int) : Uniq (aset es x y) := by
  induction es with
  | nil => simp [Uniq, Av.aset]
  | cons q es ih =>
    obtain ⟨q, v⟩ := q
    simp only [Uniq, List.map_cons, List.nodup_cons] at h
    simp only [Av.aset]
    split
    · rename_i hq
      subst hq
      simpa [Uniq] using h
    · rename_i hq
      simp only [Uniq, List.map_cons, List.nodup_cons]
      refine ⟨fun hm => ?_, ih h.2⟩
      simp only [List.mem_map] at hm
      obtain ⟨p, hp, hpq⟩ := hm
      rcases aset_mem hp with rfl | hp
      · exact hq hpq.symm
      · exact h.1 (List.mem_map.2 ⟨p, hp, hpq⟩)

theorem Uniq.get {es : List (Int × Int)} (h : Uniq es) {p : Int × Int} (hp : p ∈ es) : aget es p.1 = p.2 := by
  induction es with
  | nil => simp at hp
  | cons q es ih =>
    obtain ⟨q, v⟩ := q
    simp only [Uniq, List.map_cons, List.nodup_cons] at h
    rcases List.mem_cons.1 hp with rfl | hp
    · simp [aget]
    · simp only [aget]
      rw [if_neg (fun hq => h.1 (List.mem_map.2 ⟨p, hp, hq.symm⟩))]
      exact ih h.2 hp

theorem aget_mem {es : List (Int × Int)} {x : Int} (h : aget es x ≠ 0) : (x, aget es x) ∈ es := by
  induction es with
  | nil => simp [aget] at h
  | cons q es ih =>
    obtain ⟨q, v⟩ := q
    simp only [aget] at h ⊢
    split
    · rename_i hq; subst hq; simp
    · rename_i hq
      rw [if_neg hq] at h
      exact List.mem_cons_of_mem _ (ih h)

theorem mem_erase_or {α : Type} {l : List α} {j : Nat} {p x : α} (hj : l[j]? = some p) (hx : x ∈ l) : x = p ∨ x ∈ l.eraseIdx j := by
  obtain ⟨i, hi, rfl⟩ := List.getElem_of_mem hx
  by_cases h : i = j
  · subst h; left; rw [List.getElem?_eq_getElem hi] at hj; simpa using hj
  · right; exact List.mem_eraseIdx_iff_getElem.2 ⟨i, hi, h, rfl⟩

end Go.Av
