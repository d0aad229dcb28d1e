/- Calls that lend objects. -/
import Derived.Test.YtblakcgmngdhmaaAvK
set_option linter.unusedSimpArgs false
namespace Go.Av

variable {P : Program} {w w' : World} {S S' : Nat → Prop} {κ κ' : Nat → Option Loc} {m : Mem} {n N : Nat} {F : Nat → Prop} {t : Tmps} {a : Act} {X : Ctx}

theorem pos_some : ∀ {rho : List Nat} {k i : Nat}, pos rho k = some i → rho[i]? = some k := by
  intro rho
  induction rho with
  | nil => intro k i h; simp [pos] at h
  | cons x rho ih =>
    intro k i h
    simp only [pos] at h
    by_cases hb : x = k
    · rw [if_pos hb] at h
      simp at h; subst h; simp [hb]
    · rw [if_neg hb] at h
      split at h
      · rename_i j hj
        simp at h; subst h
        simpa using ih hj
      · cases h

theorem pos_none : ∀ {rho : List Nat} {k : Nat}, pos rho k = none → k ∉ rho := by
  intro rho
  induction rho with
  | nil => intro k _; simp
  | cons x rho ih =>
    intro k h
    simp only [pos] at h
    by_cases hb : x = k
    · rw [if_pos hb] at h; cases h
    · rw [if_neg hb] at h
      split at h
      · cases h
      · rename_i hj
        simp [show k ≠ x from fun e => hb e.symm, ih hj]

def memO : Nat → List (Option MObj) → Mem
  | _, [] => []
  | i, o :: r => (i, o) :: memO (i + 1) r

theorem lookM_memO (l : List (Option MObj)) (n k : Nat) : lookM (memO n l) k = if n ≤ k ∧ k < n + l.length then (l[k - n]?).join else none := by
  induction l generalizing n with
  | nil => simp [memO, lookM]
  | cons o l ih =>
    simp only [memO]
    by_cases h : n = k
    · subst h; rw [lookM_cons_eq, if_pos (by simp)]; simp
    · rw [lookM_cons_ne _ _ h, ih]
      by_cases h2 : n + 1 ≤ k ∧ k < n + 1 + l.length
      · rw [if_pos h2, if_pos (by simp; omega), show k - n = (k - (n + 1)) + 1 by omega, List.getElem?_cons_succ]
      · rw [if_neg h2, if_neg (by simp; omega)]

theorem lookM_memO0 {l : List (Option MObj)} {k : Nat} {o : MObj} : lookM (memO 0 l) k = some o ↔ l[k]? = some (some o) := by
  rw [lookM_memO]
  by_cases h : k < l.length
  · rw [if_pos (by omega)]; simp [h]
  · rw [if_neg (by omega)]; simp [List.getElem?_eq_none (Nat.le_of_not_lt h)]

/-- the blocks that are lent -/
def lentB (κ : Nat → Option Loc) (n0 b : Nat) : Prop := ∃ k l, k < n0 ∧ κ k = some l ∧ l.has b

structure Kept (L : Nat → Prop) (w w' : World) : Prop where
  os : w'.os = w.os
  tape : w'.tape = w.tape
  output : w'.output = w.output
  size : w.heap.size ≤ w'.heap.size
  block : ∀ b, b < w.heap.size → ¬ L b → w'.heap[b]? = w.heap[b]?

/-- what is told of a function that is lent the objects m0 (by the keys 0, 1, ..): behind it they, and new ones, are m1 -/
def CallsM (P : Program) (f : FuncId) (args : List AV) (m0 : List MObj) (r : AV) (m1 : List (Option MObj)) : Prop :=
  callable P f = true ∧ m0.length ≤ m1.length ∧
  ∀ (w : World) (S : Nat → Prop) (κ0 : Nat → Option Loc) (vals : Array Value), Ent w S κ0 (memOf m0) (m0.length ≤ ·) → args.length = vals.size →
    (∀ (i : Nat) x y, args[i]? = some x → vals[i]? = some y → R w S κ0 x y) →
    Calls P f vals w fun e w' => ∃ v S' κ', e = .returned v ∧ R w' S' κ' r v ∧ Ent w' S' κ' (memO 0 m1) (m1.length ≤ ·) ∧ (∀ i l, i < m0.length → κ0 i = some l → ∃ l', κ' i = some l' ∧ l'.same l) ∧
      (∀ b, S' b → S b ∨ w.heap.size ≤ b ∨ lentB κ0 m0.length b) ∧
      (∀ k o l b, lookM (memO 0 m1) k = some o → κ' k = some l → l.has b → w.heap.size ≤ b ∨ lentB κ0 m0.length b) ∧ Kept (lentB κ0 m0.length) w w'

def frzO (rho : List Nat) (m : Mem) : MObj → MObj
  | .box cs => .box (frzL rho m cs)
  | .lent sz rows _ _ => .mat sz rows
  | o => o

def WkO : MObj → MObj → Prop
  | .box xs, o => match o with
    | .box ys => WkL xs ys
    | _ => False
  | x, y => x = y

theorem WkO_ObjR {k : Nat} {o o' : MObj} (h : ObjR w S κ k o) (hw : WkO o o') : ObjR w S κ k o' := by
  cases o with
  | box xs =>
    cases o' with
    | box ys =>
      simp only [WkO] at hw
      obtain ⟨g1, g2⟩ := WkL_get hw
      obtain ⟨l, h1, hn, vs, T, h2, h3, h4⟩ := h
      refine ⟨l, h1, hn, vs, T, h2, by omega, fun j y hj => ?_⟩
      have hj' : j < xs.length := by have := (List.getElem?_eq_some_iff.1 hj).1; omega
      obtain ⟨c, hc, hr⟩ := h4 j xs[j] (by simp [hj'])
      exact ⟨c, hc, Wk_R hr (g2 j _ y (by simp [hj']) hj)⟩
    | _ => simp [WkO] at hw
  | _ => simp only [WkO] at hw; subst hw; exact h

theorem ObjR.frz {rho : List Nat} {k i : Nat} {o : MObj} (h : ObjR w S κ k o) (hS : ∀ b, S b → S' b) (hκ : κ' i = κ k)
    (hR : ∀ cs, o = .box cs → ∀ y ∈ cs, ∀ c, R w S κ y c → R w S' κ' (frz rho m y) c) : ObjR w S' κ' i (frzO rho m o) := by
  cases o with
  | box cs =>
    obtain ⟨l, h1, hn, vs, T, h2, h3, h4⟩ := h
    refine ⟨l, hκ.trans h1, hn, vs, T, h2, by rw [frzL_length]; exact h3, fun j y hj => ?_⟩
    rw [frzL_get, Option.map_eq_some_iff] at hj
    obtain ⟨y', hj, rfl⟩ := hj
    obtain ⟨c, hc, hr⟩ := h4 j y' hj
    exact ⟨c, hc, hR cs rfl y' (List.mem_of_getElem? hj) c hr⟩
  | arr sz xs =>
    obtain ⟨l, h1, h2⟩ := h
    refine ⟨l, hκ.trans h1, ?_⟩
    rcases h2 with h2 | ⟨q1, q2, q3, q4, vs', T, q5, q6, q7, q8⟩
    · exact .inl h2
    · refine .inr ⟨q1, q2, q3, q4, vs', T, q5, q6, q7, fun i x j y hx hy => ?_⟩
      obtain ⟨c, hc, hr⟩ := q8 i x j y hx hy
      exact ⟨c, hc, hr.mono (fun _ _ => rfl) hS⟩
  | mat sz rows =>
    obtain ⟨l, hk, hn, h1, h2, h3, h4, h5, vs, T, h6, h7, h8⟩ := h
    refine ⟨l, hκ.trans hk, hn, h1, h2, h3, h4, h5, vs, T, h6, h7, fun i r hr => ?_⟩
    obtain ⟨c, hc, hRR⟩ := h8 i r hr
    exact ⟨c, hc, hRR.mono (fun _ _ => rfl) hS (fun _ _ => rfl)⟩
  | lent sz rows i0 q0 =>
    obtain ⟨l, hk, hn, h1, h2, h3, h4, h5, vs, T, h6, h7, h8⟩ := h.unlent
    refine ⟨l, hκ.trans hk, hn, h1, h2, h3, h4, h5, vs, T, h6, h7, fun i r hr => ?_⟩
    obtain ⟨c, hc, hRR⟩ := h8 i r hr
    exact ⟨c, hc, hRR.mono (fun _ _ => rfl) hS (fun _ _ => rfl)⟩
  | map es =>
    obtain ⟨l, h1, hn1, ents, clock, q1, q2, q3, q4, q5⟩ := h
    exact ⟨l, hκ.trans h1, hn1, ents, clock, q1, q2, q3, q4, fun i p e hp he => ⟨(q5 i p e hp he).1, (q5 i p e hp he).2.mono (fun _ _ => rfl) hS⟩⟩
  | iter rest cur =>
    obtain ⟨l, h1, hn, h0, h2⟩ := h
    exact ⟨l, hκ.trans h1, hn, h0, h2.mono (fun _ _ => rfl) hS rfl⟩

mutual
/-- one value stands for the other one; a slice without memory for an empty one by one of the keys z -/
def Wn (z : List Nat) : AV → AV → Prop
  | _, .dead => True
  | .agg xs, y => match y with
    | .agg ys => WnL z xs ys
    | _ => False
  | .tup xs, y => match y with
    | .tup ys => WnL z xs ys
    | _ => False
  | .fn f xs, y => match y with
    | .fn g ys => f = g ∧ WnL z xs ys
    | _ => False
  | .v x, y => Wk (.v x) y ∨ (x = .slice none 0 0 ∧ ∃ k, y = .arr k 0 0 ∧ z.contains k = true)
  | x, y => Wk x y
def WnL (z : List Nat) : List AV → List AV → Prop
  | [], ys => ys = []
  | x :: xs, ys => match ys with
    | [] => False
    | y :: ys => Wn z x y ∧ WnL z xs ys
end

theorem Wn_both (z : List Nat) : (∀ x, Wn z x x) ∧ ∀ xs, WnL z xs xs := by
  have h1 : ∀ x, Wn z x x := by
    intro x
    refine AV.rec (motive_1 := fun x => Wn z x x) (motive_2 := fun xs => WnL z xs xs) (motive_3 := fun _ => True) (motive_4 := fun _ => True)
      ?_ ?_ ?_ ?_ ?_ ?_ ?_ ?_ ?_ ?_ ?_ ?_ ?_ ?_ ?_ ?_ ?_ x
    all_goals (intros; first | trivial | simp_all [Wn, WnL, Wk_refl])
  refine ⟨h1, fun xs => ?_⟩
  induction xs with
  | nil => simp [WnL]
  | cons x xs ih => simp [WnL, h1 x, ih]

variable {z : List Nat}
theorem Wn_refl (x : AV) : Wn z x x = True := eq_true ((Wn_both z).1 x)
theorem WnL_refl (x : List AV) : WnL z x x = True := eq_true ((Wn_both z).2 x)
theorem Wn_dead (x : AV) : Wn z x .dead = True := by cases x <;> simp [Wn]
theorem Wn_agg (xs ys : List AV) : Wn z (.agg xs) (.agg ys) = WnL z xs ys := by simp [Wn]
theorem Wn_tup (xs ys : List AV) : Wn z (.tup xs) (.tup ys) = WnL z xs ys := by simp [Wn]
theorem Wn_fn (f g : FuncId) (xs ys : List AV) : Wn z (.fn f xs) (.fn g ys) = (f = g ∧ WnL z xs ys) := by simp [Wn]
theorem Wn_nil (k : Nat) : Wn z (.v (.slice none 0 0)) (.arr k 0 0) = (z.contains k = true) := by simp [Wn, Wk]
theorem Wn_v (x y : Value) : Wn z (.v x) (.v y) = (x = y) := by simp [Wn, Wk_v]
theorem Wn_vro (x : Value) (s : Nat) (ys : List AV) : Wn z (.v x) (.ro s ys) = Wk (.v x) (.ro s ys) := by simp [Wn]
theorem Wn_ro (s s' : Nat) (xs ys : List AV) : Wn z (.ro s xs) (.ro s' ys) = (s = s' ∧ xs = ys) := by simp [Wn, Wk_ro]
theorem Wn_rp (xs ys : List AV) : Wn z (.rp xs) (.rp ys) = WkL xs ys := by simp [Wn, Wk_rp]
theorem Wn_rm (xs ys : List (Value × AV)) : Wn z (.rm xs) (.rm ys) = (xs = ys) := by simp [Wn, Wk_rm]
theorem Wn_arr (a b c a' b' c' : Nat) : Wn z (.arr a b c) (.arr a' b' c') = (a = a' ∧ b = b' ∧ c = c') := by simp [Wn, Wk_arr]
theorem Wn_ptr (a b a' b' : Nat) : Wn z (.ptr a b) (.ptr a' b') = (a = a' ∧ b = b') := by simp [Wn, Wk_ptr]
theorem Wn_mp (a a' : Nat) : Wn z (.mp a) (.mp a') = (a = a') := by simp [Wn, Wk_mp]
theorem WnL_nil (ys : List AV) : WnL z [] ys = (ys = []) := by simp [WnL]
theorem WnL_cons (x y : AV) (xs ys : List AV) : WnL z (x :: xs) (y :: ys) = (Wn z x y ∧ WnL z xs ys) := by simp [WnL]

theorem WnL_get : ∀ {xs ys : List AV}, WnL z xs ys → xs.length = ys.length ∧ ∀ (i : Nat) x y, xs[i]? = some x → ys[i]? = some y → Wn z x y
  | [], ys, h => by simp only [WnL] at h; subst h; simp
  | x :: xs, ys, h => by
    cases ys with
    | nil => simp [WnL] at h
    | cons y ys =>
      simp only [WnL] at h
      have := WnL_get h.2
      refine ⟨by simp [this.1], fun i x' y' h1 h2 => ?_⟩
      cases i with
      | zero => simp at h1 h2; subst h1 h2; exact h.1
      | succ i => exact this.2 i x' y' (by simpa using h1) (by simpa using h2)

theorem Wn_R {x : AV} {v : Value} (hz : ∀ k, z.contains k = true → ∃ l, κ k = some l ∧ l.isNil = true) (h : R w S κ x v) : ∀ {y : AV}, Wn z x y → R w S κ y v := by
  have aux : ∀ {xs ys : List AV} {vs : Array Value}, xs.length = vs.size → (∀ (i : Nat) x y, xs[i]? = some x → vs[i]? = some y → ∀ {u : AV}, Wn z x u → R w S κ u y) → WnL z xs ys →
      ys.length = vs.size ∧ ∀ (i : Nat) x y, ys[i]? = some x → vs[i]? = some y → R w S κ x y := fun {xs ys vs} hl ih hw => by
    obtain ⟨h1, h2⟩ := WnL_get hw
    refine ⟨by omega, fun i u y hu hy => ?_⟩
    have hi : i < xs.length := by have := (List.getElem?_eq_some_iff.1 hu).1; omega
    exact ih i xs[i] y (by simp [hi]) hy (h2 i _ u (by simp [hi]) hu)
  have base : ∀ {x : AV} {v : Value}, R0 w S x v → ∀ {y : AV}, Wn z x y → R w S κ y v := by
    intro x v h
    induction h with
    | v x =>
      intro y hy
      cases y with
      | dead => exact .base (.dead _)
      | _ =>
        simp only [Wn] at hy
        rcases hy with hy | ⟨rfl, k, hk, hc⟩
        · exact Wk_R (.base (.v x)) hy
        · first
          | (cases hk; obtain ⟨l, h1, h2⟩ := hz _ hc; exact .arrNil h1 h2)
          | cases hk
    | agg hl _ ih =>
      intro y hy
      cases y with
      | dead => exact .base (.dead _)
      | agg ys => rw [Wn_agg] at hy; obtain ⟨g1, g2⟩ := aux hl (fun i x y h1 h2 {u} hu => ih i x y h1 h2 hu) hy; exact .agg g1 g2
      | _ => simp [Wn] at hy
    | tup hl _ ih =>
      intro y hy
      cases y with
      | dead => exact .base (.dead _)
      | tup ys => rw [Wn_tup] at hy; obtain ⟨g1, g2⟩ := aux hl (fun i x y h1 h2 {u} hu => ih i x y h1 h2 hu) hy; exact .tup g1 g2
      | _ => simp [Wn] at hy
    | fn hl _ ih =>
      intro y hy
      cases y with
      | dead => exact .base (.dead _)
      | fn g ys => rw [Wn_fn] at hy; obtain ⟨rfl, hy⟩ := hy; obtain ⟨g1, g2⟩ := aux hl (fun i x y h1 h2 {u} hu => ih i x y h1 h2 hu) hy; exact .fn g1 g2
      | _ => simp [Wn] at hy
    | dead x => intro y hy; cases y <;> first | exact .base (.dead _) | (simp only [Wn] at hy; exact Wk_R (.base (.dead x)) hy)
    | roNil => intro y hy; cases y <;> first | exact .base (.dead _) | (simp only [Wn] at hy; exact Wk_R (.base .roNil) hy)
    | ro hb hcap hs hc h _ => intro y hy; cases y <;> first | exact .base (.dead _) | (simp only [Wn] at hy; exact Wk_R (.base (.ro hb hcap hs hc h)) hy)
    | rp hb hc h _ => intro y hy; cases y <;> first | exact .base (.dead _) | (simp only [Wn] at hy; exact Wk_R (.base (.rp hb hc h)) hy)
    | rm hb hw hl hk hn hi h _ => intro y hy; cases y <;> first | exact .base (.dead _) | (simp only [Wn] at hy; exact Wk_R (.base (.rm hb hw hl hk hn hi h)) hy)
  induction h with
  | base h => intro y hy; exact base h hy
  | agg hl _ ih =>
    intro y hy
    cases y with
    | dead => exact .base (.dead _)
    | agg ys => rw [Wn_agg] at hy; obtain ⟨g1, g2⟩ := aux hl (fun i x y h1 h2 {u} hu => ih i x y h1 h2 hu) hy; exact .agg g1 g2
    | _ => simp [Wn] at hy
  | tup hl _ ih =>
    intro y hy
    cases y with
    | dead => exact .base (.dead _)
    | tup ys => rw [Wn_tup] at hy; obtain ⟨g1, g2⟩ := aux hl (fun i x y h1 h2 {u} hu => ih i x y h1 h2 hu) hy; exact .tup g1 g2
    | _ => simp [Wn] at hy
  | fn hl _ ih =>
    intro y hy
    cases y with
    | dead => exact .base (.dead _)
    | fn g ys => rw [Wn_fn] at hy; obtain ⟨rfl, hy⟩ := hy; obtain ⟨g1, g2⟩ := aux hl (fun i x y h1 h2 {u} hu => ih i x y h1 h2 hu) hy; exact .fn g1 g2
    | _ => simp [Wn] at hy
  | ptr hk => intro y hy; cases y <;> first | exact .base (.dead _) | (simp only [Wn] at hy; exact Wk_R (.ptr hk) hy)
  | elt hk hn => intro y hy; cases y <;> first | exact .base (.dead _) | (simp only [Wn] at hy; exact Wk_R (.elt hk hn) hy)
  | arrNil hk hn => intro y hy; cases y <;> first | exact .base (.dead _) | (simp only [Wn] at hy; exact Wk_R (.arrNil hk hn) hy)
  | arr hk hn h1 h2 h3 => intro y hy; cases y <;> first | exact .base (.dead _) | (simp only [Wn] at hy; exact Wk_R (.arr hk hn h1 h2 h3) hy)
  | arr0 hk => intro y hy; cases y <;> first | exact .base (.dead _) | (simp only [Wn] at hy; exact Wk_R (.arr0 hk) hy)
  | mp hk hn => intro y hy; cases y <;> first | exact .base (.dead _) | (simp only [Wn] at hy; exact Wk_R (.mp hk hn) hy)

def WnO (z : List Nat) : MObj → MObj → Prop
  | .box xs, o => match o with
    | .box ys => WnL z xs ys
    | _ => False
  | x, y => x = y

theorem WnO_ObjR {k : Nat} {o o' : MObj} (hz : ∀ k, z.contains k = true → ∃ l, κ k = some l ∧ l.isNil = true) (h : ObjR w S κ k o) (hw : WnO z o o') : ObjR w S κ k o' := by
  cases o with
  | box xs =>
    cases o' with
    | box ys =>
      simp only [WnO] at hw
      obtain ⟨g1, g2⟩ := WnL_get hw
      obtain ⟨l, h1, hn, vs, T, h2, h3, h4⟩ := h
      refine ⟨l, h1, hn, vs, T, h2, by omega, fun j y hj => ?_⟩
      have hj' : j < xs.length := by have := (List.getElem?_eq_some_iff.1 hj).1; omega
      obtain ⟨c, hc, hr⟩ := h4 j xs[j] (by simp [hj'])
      exact ⟨c, hc, Wn_R hz hr (g2 j _ y (by simp [hj']) hj)⟩
    | _ => simp [WnO] at hw
  | _ => simp only [WnO] at hw; subst hw; exact h

/-- what is handed on, keys by their places in ks; the blocks of the others are only read -/
theorem frz_Rg {x : AV} {v : Value} {ks : List Nat} (e : Ent w S κ m F) (hS : ∀ b, S b → S' b) (hκ : ∀ k i l, pos ks k = some i → κ k = some l → κ' i = some l) (h : R w S κ x v)
    (hf : ∀ k ∈ kys x, pos ks k = none → ∀ o l b, lookM m k = some o → κ k = some l → l.has b → S' b) : R w S' κ' (frz ks m x) v := by
  induction h with
  | base h => rw [frz_R0_self h]; exact .base (h.mono (fun _ _ => rfl) hS)
  | agg hl _ ih =>
    simp only [frz]
    refine .agg (by rw [frzL_length, hl]) (fun i x y h1 h2 => ?_)
    rw [frzL_get, Option.map_eq_some_iff] at h1
    obtain ⟨x', h1, rfl⟩ := h1
    exact ih i x' y h1 h2 (fun k hk => hf k (kysL_mem h1 hk))
  | tup hl _ ih =>
    simp only [frz]
    refine .tup (by rw [frzL_length, hl]) (fun i x y h1 h2 => ?_)
    rw [frzL_get, Option.map_eq_some_iff] at h1
    obtain ⟨x', h1, rfl⟩ := h1
    exact ih i x' y h1 h2 (fun k hk => hf k (kysL_mem h1 hk))
  | fn hl _ ih =>
    simp only [frz]
    refine .fn (by rw [frzL_length, hl]) (fun i x y h1 h2 => ?_)
    rw [frzL_get, Option.map_eq_some_iff] at h1
    obtain ⟨x', h1, rfl⟩ := h1
    exact ih i x' y h1 h2 (fun k hk => hf k (kysL_mem h1 hk))
  | elt hk hn => simp only [frz]; exact .base (.dead _)
  | ptr hk =>
    rename_i k off l
    simp only [frz]
    split
    · rename_i i hp; exact .ptr (hκ _ _ _ hp hk)
    · rename_i hp
      split
      · rename_i cs hm
        split
        · rename_i hkf
          obtain ⟨l', hk', hn, vs, T, h1, h2, h3⟩ := e.mm _ _ hm
          rw [hk] at hk'; cases hk'
          refine .base (.rp (c := fun j => (vs[l.base + (off + j)]?).getD undef) (hf k (by simp [kys]) hp _ _ _ hm hk (.inl ⟨hn, rfl⟩)) (fun j hj => ?_) (fun j y hj => ?_))
          · rw [cell_of h1, Nat.add_assoc, Array.getElem?_eq_getElem (by simp at hj; omega)]; rfl
          · rw [List.getElem?_drop] at hj
            obtain ⟨c, hc, hR⟩ := h3 _ y hj
            rw [hc]
            exact (kf_R0 hR (kfs_get hkf hj)).mono (fun _ _ => rfl) hS
        · exact .base (.dead _)
      · exact .base (.dead _)
  | arrNil hk hn =>
    rename_i k l
    simp only [frz]
    split
    · rename_i i hp; exact .arrNil (hκ _ _ _ hp hk) hn
    · split
      · simp only [List.take_zero]; exact .base .roNil
      · rename_i sz rows _
        cases rowsOk rows
        · exact .base (.dead _)
        · simp only [cond_true, List.take_zero]; exact .base .roNil
      · exact .base (.dead _)
  | arr0 hk =>
    simp only [frz]
    split
    · rename_i i hp; exact .arr0 (hκ _ _ _ hp hk)
    · split
      · simp only [List.take_zero]; exact .base .roNil
      · rename_i sz rows _
        cases rowsOk rows
        · exact .base (.dead _)
        · simp only [cond_true, List.take_zero]; exact .base .roNil
      · exact .base (.dead _)
  | arr hk hn hlen hcap hu =>
    rename_i k off len cap l
    simp only [frz]
    split
    · rename_i i hp; exact .arr (hκ _ _ _ hp hk) hn hlen hcap hu
    · rename_i hp
      split
      · rename_i sz xs hm
        obtain ⟨l', hk', h0⟩ := e.mm _ _ hm
        rw [hk] at hk'; cases hk'
        rcases h0 with ⟨h0, _⟩ | ⟨_, rfl, h1, h1', vs, T', h2, h3, h4, h5⟩
        · rw [hn] at h0; cases h0
        · have hlen' : ((xs.drop off).take len).length = len := by simp; omega
          have hget : ∀ (i : Nat) x, ((xs.drop off).take len)[i]? = some x → i < len ∧ xs[off + i]? = some x := fun i x h => by
            have hi : i < len := by have := (List.getElem?_eq_some_iff.1 h).1; omega
            rw [List.getElem?_take_of_lt hi, List.getElem?_drop] at h
            exact ⟨hi, h⟩
          have := R0.ro (w := w) (S := S') (sz := l.sz) (xs := (xs.drop off).take len) (b := l.b) (off := l.base + off * l.sz) (cap := cap)
            (c := fun q => (vs[l.base + off * l.sz + q]?).getD undef) (hf k (by simp [kys]) hp _ _ _ hm hk (.inl ⟨hn, rfl⟩)) (by omega)
            (fun i x hx => h4 _ _ (hget i x hx).2)
            (fun q hq => by
              rw [hlen'] at hq
              have : (off + len) * l.sz ≤ l.cap * l.sz := Nat.mul_le_mul_right _ (by omega)
              rw [Nat.add_mul] at this
              rw [cell_of h2, Array.getElem?_eq_getElem (by omega)]; rfl)
            (fun i x j y hx hy => by
              obtain ⟨c, hc, hR⟩ := h5 _ x j y (hget i x hx).2 hy
              rw [show l.base + off * l.sz + (i * l.sz + j) = l.base + (off + i) * l.sz + j from by rw [Nat.add_mul]; omega, hc]
              exact hR.mono (fun _ _ => rfl) hS)
          rw [hlen'] at this
          exact .base this
      · rename_i sz rows hm
        cases hok : rowsOk rows
        · exact .base (.dead _)
        · exact .base (mat_R0 (e.mm _ _ hm) hk hS (fun b hb => hf k (by simp [kys]) hp _ _ b hm hk hb) hok hlen hcap hu)
      · exact .base (.dead _)
  | mp hk hn =>
    rename_i k l
    simp only [frz]
    split
    · rename_i i hp; exact .mp (hκ _ _ _ hp hk) hn
    · rename_i hp
      split
      · rename_i es hm
        obtain ⟨l', hk', hn', ents, clock, h1, h2, h3, h4, h5⟩ := e.mm _ _ hm
        rw [hk] at hk'; cases hk'
        exact .base (.rm (hf k (by simp [kys]) hp _ _ _ hm hk (.inl ⟨hn, rfl⟩)) h1 h2 (fun i p e hp he => (h5 i p e hp he).1) h3 h4
          (fun i p e hp he => (h5 i p e hp he).2.mono (fun _ _ => rfl) hS))
      · exact .base (.dead _)

mutual
/-- keys by another count -/
def reG (g : Nat → Nat) : AV → AV
  | .agg xs => .agg (reGL g xs)
  | .tup xs => .tup (reGL g xs)
  | .fn f xs => .fn f (reGL g xs)
  | .ptr k off => .ptr (g k) off
  | .arr k off len => .arr (g k) off len
  | .elt k i j => .elt (g k) i j
  | .mp k => .mp (g k)
  | x => x
def reGL (g : Nat → Nat) : List AV → List AV
  | [] => []
  | x :: r => reG g x :: reGL g r
end

def reO (g : Nat → Nat) : MObj → MObj
  | .box cs => .box (reGL g cs)
  | .lent sz rows _ _ => .mat sz rows
  | o => o

theorem reGL_get (g : Nat → Nat) (xs : List AV) (i : Nat) : (reGL g xs)[i]? = xs[i]?.map (reG g) := by
  induction xs generalizing i with
  | nil => simp [reGL]
  | cons x xs ih => cases i <;> simp [reGL, ih]
theorem reGL_length (g : Nat → Nat) (xs : List AV) : (reGL g xs).length = xs.length := by
  induction xs with
  | nil => simp [reGL]
  | cons x xs ih => simp [reGL, ih]

theorem reG_R0 {g : Nat → Nat} {x : AV} {v : Value} (h : R0 w S x v) : reG g x = x := by
  have aux : ∀ (xs : List AV) (vs : Array Value), xs.length = vs.size → (∀ (i : Nat) x y, xs[i]? = some x → vs[i]? = some y → reG g x = x) → reGL g xs = xs := by
    intro xs vs hl ih
    apply List.ext_getElem?
    intro i
    rw [reGL_get]
    cases hx : xs[i]? with
    | none => rfl
    | some x =>
      have hi : i < vs.size := by rw [← hl]; exact (List.getElem?_eq_some_iff.1 hx).1
      simp [ih i x vs[i] hx (by simp [hi])]
  induction h with
  | agg hl _ ih => simp only [reG]; rw [aux _ _ hl ih]
  | tup hl _ ih => simp only [reG]; rw [aux _ _ hl ih]
  | fn hl _ ih => simp only [reG]; rw [aux _ _ hl ih]
  | _ => simp [reG]

theorem reG_R {g : Nat → Nat} {x : AV} {v : Value} (h : R w S κ x v) (hS : ∀ b, S b → S' b) (hκ : ∀ k l, κ k = some l → κ' (g k) = some l) : R w S' κ' (reG g x) v := by
  have aux : ∀ (xs : List AV) (vs : Array Value), (∀ (i : Nat) x y, xs[i]? = some x → vs[i]? = some y → R w S' κ' (reG g x) y) →
      ∀ (i : Nat) x y, (reGL g xs)[i]? = some x → vs[i]? = some y → R w S' κ' x y := by
    intro xs vs ih i x y h1 h2
    rw [reGL_get, Option.map_eq_some_iff] at h1
    obtain ⟨x', h1, rfl⟩ := h1
    exact ih i x' y h1 h2
  induction h with
  | base h => rw [reG_R0 h]; exact .base (h.mono (fun _ _ => rfl) hS)
  | agg hl _ ih => exact .agg (by rw [reGL_length, hl]) (aux _ _ ih)
  | tup hl _ ih => exact .tup (by rw [reGL_length, hl]) (aux _ _ ih)
  | fn hl _ ih => exact .fn (by rw [reGL_length, hl]) (aux _ _ ih)
  | ptr hk => exact .ptr (hκ _ _ hk)
  | elt hk hn => exact .elt (hκ _ _ hk) hn
  | arrNil hk hn => exact .arrNil (hκ _ _ hk) hn
  | arr hk hn h1 h2 h3 => exact .arr (hκ _ _ hk) hn h1 h2 h3
  | arr0 hk => exact .arr0 (hκ _ _ hk)
  | mp hk hn => exact .mp (hκ _ _ hk) hn

theorem reG_ObjR {g : Nat → Nat} {k : Nat} {o : MObj} (h : ObjR w S κ k o) (hS : ∀ b, S b → S' b) (hκ : ∀ k l, κ k = some l → κ' (g k) = some l) : ObjR w S' κ' (g k) (reO g o) := by
  cases o with
  | box cs =>
    obtain ⟨l, hk, hn, vs, T, h1, h2, h3⟩ := h
    refine ⟨l, hκ _ _ hk, hn, vs, T, h1, by rw [reGL_length]; exact h2, fun j y hj => ?_⟩
    rw [reGL_get, Option.map_eq_some_iff] at hj
    obtain ⟨y', hj, rfl⟩ := hj
    obtain ⟨c, hc, hr⟩ := h3 j y' hj
    exact ⟨c, hc, reG_R hr hS hκ⟩
  | arr sz xs =>
    obtain ⟨l, hk, h⟩ := h
    refine ⟨l, hκ _ _ hk, ?_⟩
    rcases h with h | ⟨hn, h1, h2, h2', vs, T, h3, h4, h5, h6⟩
    · exact .inl h
    · refine .inr ⟨hn, h1, h2, h2', vs, T, h3, h4, h5, fun i x j y hx hy => ?_⟩
      obtain ⟨c, hc, hr⟩ := h6 i x j y hx hy
      exact ⟨c, hc, hr.mono (fun _ _ => rfl) hS⟩
  | mat sz rows =>
    obtain ⟨l, hk, hn, h1, h2, h3, h4, h5, vs, T, h6, h7, h8⟩ := h
    refine ⟨l, hκ _ _ hk, hn, h1, h2, h3, h4, h5, vs, T, h6, h7, fun i r hr => ?_⟩
    obtain ⟨c, hc, hR⟩ := h8 i r hr
    exact ⟨c, hc, hR.mono (fun _ _ => rfl) hS (fun _ _ => rfl)⟩
  | lent sz rows i0 q0 =>
    obtain ⟨l, hk, hn, h1, h2, h3, h4, h5, vs, T, h6, h7, h8⟩ := h.unlent
    refine ⟨l, hκ _ _ hk, hn, h1, h2, h3, h4, h5, vs, T, h6, h7, fun i r hr => ?_⟩
    obtain ⟨c, hc, hR⟩ := h8 i r hr
    exact ⟨c, hc, hR.mono (fun _ _ => rfl) hS (fun _ _ => rfl)⟩
  | map es =>
    obtain ⟨l, hk, hn, ents, clock, h1, h2, h3, h4, h5⟩ := h
    exact ⟨l, hκ _ _ hk, hn, ents, clock, h1, h2, h3, h4, fun i p e hp he => ⟨(h5 i p e hp he).1, (h5 i p e hp he).2.mono (fun _ _ => rfl) hS⟩⟩
  | iter rest cur =>
    obtain ⟨l, hk, hn, h0, h1⟩ := h
    exact ⟨l, hκ _ _ hk, hn, h0, h1.mono (fun _ _ => rfl) hS rfl⟩

/-- the keys of what is lent; the place of one that is lent as an empty slice is new -/
def rk (n : Nat) : Nat → List (Option Nat) → List Nat
  | _, [] => []
  | i, some k :: r => k :: rk n (i + 1) r
  | i, none :: r => (n + i) :: rk n (i + 1) r

/-- the places that are lent as empty slices -/
def zs : Nat → List (Option Nat) → List Nat
  | _, [] => []
  | i, some _ :: r => zs (i + 1) r
  | i, none :: r => i :: zs (i + 1) r

def gk (n : Nat) (ks : List Nat) (i : Nat) : Nat := (ks[i]?).getD (n + i)

def lendOk (z ks : List Nat) (m : Mem) : List (Option Nat) → List MObj → Prop
  | [], os => os = []
  | some k :: r, os => match os with
    | [] => False
    | o' :: os => (match lookM m k with
      | some o => WnO z (frzO ks m o) o'
      | none => False) ∧ lendOk z ks m r os
  | none :: r, os => match os with
    | [] => False
    | o' :: os => (match o' with
      | .arr _ xs => xs = []
      | _ => False) ∧ lendOk z ks m r os

def lentK : List (Option Nat) → List Nat
  | [] => []
  | some k :: r => k :: lentK r
  | none :: r => lentK r

def outM (g : Nat → Nat) : Nat → List (Option MObj) → Mem
  | _, [] => []
  | i, none :: r => (g i, none) :: outM g (i + 1) r
  | i, some o :: r => (g i, some (reO g o)) :: outM g (i + 1) r

/-- keys that lie in what is lent -/
def boxK (m : Mem) : List (Option Nat) → List Nat
  | [] => []
  | some k :: r => (match lookM m k with
    | some (.box cs) => kysL cs
    | _ => []) ++ boxK m r
  | none :: r => boxK m r

def notIn (ks : List Nat) : List Nat → List Nat
  | [] => []
  | k :: r => if pos ks k = none then k :: notIn ks r else notIn ks r

theorem notIn_mem {ks l : List Nat} {k : Nat} : k ∈ notIn ks l ↔ k ∈ l ∧ pos ks k = none := by
  induction l with
  | nil => simp [notIn]
  | cons x l ih =>
    simp only [notIn]
    by_cases h : pos ks x = none
    · rw [if_pos h, List.mem_cons, List.mem_cons, ih]
      constructor
      · rintro (rfl | h1)
        · exact ⟨.inl rfl, h⟩
        · exact ⟨.inr h1.1, h1.2⟩
      · rintro ⟨rfl | h1, h2⟩
        · exact .inl rfl
        · exact .inr ⟨h1, h2⟩
    · rw [if_neg h, ih, List.mem_cons]
      constructor
      · exact fun h1 => ⟨.inr h1.1, h1.2⟩
      · rintro ⟨rfl | h1, h2⟩
        · exact (h h2).elim
        · exact ⟨h1, h2⟩

theorem rk_length (n i : Nat) (rho : List (Option Nat)) : (rk n i rho).length = rho.length := by
  induction rho generalizing i with
  | nil => rfl
  | cons x rho ih => cases x <;> simp [rk, ih]

theorem rk_get (n : Nat) (rho : List (Option Nat)) (i j : Nat) : (rk n i rho)[j]? = (rho[j]?).map fun o : Option Nat => o.getD (n + (i + j)) := by
  induction rho generalizing i j with
  | nil => simp [rk]
  | cons x rho ih =>
    cases j with
    | zero => cases x <;> simp [rk]
    | succ j =>
      have : i + 1 + j = i + (j + 1) := by omega
      cases x <;> simp [rk, ih, this]

theorem zs_mem {rho : List (Option Nat)} {i j : Nat} : j ∈ zs i rho ↔ i ≤ j ∧ rho[j - i]? = some none := by
  induction rho generalizing i with
  | nil => simp [zs]
  | cons x rho ih =>
    have step : i + 1 ≤ j → (x :: rho)[j - i]? = rho[j - (i + 1)]? := fun h => by rw [show j - i = (j - (i + 1)) + 1 by omega, List.getElem?_cons_succ]
    cases x with
    | some k =>
      simp only [zs, ih]
      constructor
      · rintro ⟨h1, h2⟩; exact ⟨by omega, by rw [step h1]; exact h2⟩
      · rintro ⟨h1, h2⟩
        by_cases h : i = j
        · subst h; simp at h2
        · exact ⟨by omega, by rw [← step (by omega)]; exact h2⟩
    | none =>
      simp only [zs, List.mem_cons, ih]
      constructor
      · rintro (rfl | ⟨h1, h2⟩)
        · simp
        · exact ⟨by omega, by rw [step h1]; exact h2⟩
      · rintro ⟨h1, h2⟩
        by_cases h : j = i
        · exact .inl h
        · exact .inr ⟨by omega, by rw [← step (by omega)]; exact h2⟩

theorem lendOk_get {z ks : List Nat} : ∀ {rho : List (Option Nat)} {os : List MObj}, lendOk z ks m rho os → rho.length = os.length ∧
    (∀ (i : Nat) k, rho[i]? = some (some k) → ∃ o o', lookM m k = some o ∧ os[i]? = some o' ∧ WnO z (frzO ks m o) o') ∧
    (∀ (i : Nat), rho[i]? = some none → ∃ sz, os[i]? = some (.arr sz [])) := by
  intro rho
  induction rho with
  | nil => intro os h; simp only [lendOk] at h; subst h; simp
  | cons x rho ih =>
    intro os h
    cases os with
    | nil => cases x <;> simp [lendOk] at h
    | cons o' os =>
      cases x with
      | some k =>
        simp only [lendOk] at h
        obtain ⟨h1, h2, h3⟩ := ih h.2
        refine ⟨by simp [h1], fun i k' hi => ?_, fun i hi => ?_⟩
        · cases i with
          | zero =>
            simp at hi; subst hi
            have h4 := h.1
            split at h4
            · rename_i o ho; exact ⟨o, o', ho, by simp, h4⟩
            · exact h4.elim
          | succ i => simpa using h2 i k' (by simpa using hi)
        · cases i with
          | zero => simp at hi
          | succ i => simpa using h3 i (by simpa using hi)
      | none =>
        simp only [lendOk] at h
        obtain ⟨h1, h2, h3⟩ := ih h.2
        refine ⟨by simp [h1], fun i k' hi => ?_, fun i hi => ?_⟩
        · cases i with
          | zero => simp at hi
          | succ i => simpa using h2 i k' (by simpa using hi)
        · cases i with
          | zero =>
            have h4 := h.1
            split at h4
            · subst h4; exact ⟨_, rfl⟩
            · exact h4.elim
          | succ i => simpa using h3 i (by simpa using hi)

theorem lentK_inj {rho : List (Option Nat)} (h : (lentK rho).Nodup) {i j k : Nat} (hi : rho[i]? = some (some k)) (hj : rho[j]? = some (some k)) : i = j := by
  have mem : ∀ {rho : List (Option Nat)} {i k : Nat}, rho[i]? = some (some k) → k ∈ lentK rho := by
    intro rho
    induction rho with
    | nil => intro i k h; simp at h
    | cons x rho ih =>
      intro i k h
      cases i with
      | zero => simp at h; subst h; simp [lentK]
      | succ i =>
        have := ih (i := i) (k := k) (by simpa using h)
        cases x <;> simp [lentK, this]
  induction rho generalizing i j with
  | nil => simp at hi
  | cons x rho ih =>
    cases x with
    | none =>
      cases i with
      | zero => simp at hi
      | succ i => cases j with
        | zero => simp at hj
        | succ j => exact congrArg (· + 1) (ih (i := i) (j := j) (by simpa [lentK] using h) (by simpa using hi) (by simpa using hj))
    | some q =>
      simp only [lentK, List.nodup_cons] at h
      cases i with
      | zero => cases j with
        | zero => rfl
        | succ j => simp at hi; subst hi; exact (h.1 (mem (by simpa using hj))).elim
      | succ i => cases j with
        | zero => simp at hj; subst hj; exact (h.1 (mem (by simpa using hi))).elim
        | succ j => exact congrArg (· + 1) (ih (i := i) (j := j) h.2 (by simpa using hi) (by simpa using hj))

theorem boxK_mem {rho : List (Option Nat)} {i k : Nat} {cs : List AV} (h : rho[i]? = some (some k)) (hm : lookM m k = some (.box cs)) : ∀ q ∈ kysL cs, q ∈ boxK m rho := by
  induction rho generalizing i with
  | nil => simp at h
  | cons x rho ih =>
    intro q hq
    cases i with
    | zero => simp at h; subst h; simp [boxK, hm, hq]
    | succ i =>
      have := ih (by simpa using h) q hq
      cases x <;> simp [boxK, this]

theorem lookM_outM {g : Nat → Nat} {l : List (Option MObj)} {u : Mem} (hg : ∀ i j, i < l.length → j < l.length → g i = g j → i = j) : ∀ k,
    lookM (outM g 0 l ++ u) k = match (List.range l.length).find? (fun i => g i == k) with
      | some i => ((l[i]?).join).map (reO g)
      | none => lookM u k := by
  have gen : ∀ (l' : List (Option MObj)) (i0 : Nat), (∀ i j, i < l'.length → j < l'.length → g (i0 + i) = g (i0 + j) → i = j) → ∀ k,
      (∀ i, i < l'.length → g (i0 + i) = k → lookM (outM g i0 l' ++ u) k = ((l'[i]?).join).map (reO g)) ∧ ((∀ i, i < l'.length → g (i0 + i) ≠ k) → lookM (outM g i0 l' ++ u) k = lookM u k) := by
    intro l'
    induction l' with
    | nil => intro i0 _ k; exact ⟨fun i hi => by simp at hi, fun _ => by simp [outM]⟩
    | cons o l' ih =>
      intro i0 hinj k
      have hinj' : ∀ i j, i < l'.length → j < l'.length → g (i0 + 1 + i) = g (i0 + 1 + j) → i = j := fun i j hi hj e => by
        have := hinj (i + 1) (j + 1) (by simp; omega) (by simp; omega) (by rw [show i0 + (i + 1) = i0 + 1 + i by omega, show i0 + (j + 1) = i0 + 1 + j by omega]; exact e)
        omega
      obtain ⟨ih1, ih2⟩ := ih (i0 + 1) hinj' k
      have hcons : lookM (outM g i0 (o :: l') ++ u) k = if g i0 = k then o.map (reO g) else lookM (outM g (i0 + 1) l' ++ u) k := by
        cases o with
        | none =>
          simp only [outM, List.cons_append]
          by_cases h : g i0 = k
          · rw [if_pos h, ← h, lookM_cons_eq]; rfl
          · rw [if_neg h, lookM_cons_ne _ _ h]
        | some o =>
          simp only [outM, List.cons_append]
          by_cases h : g i0 = k
          · rw [if_pos h, ← h, lookM_cons_eq]; rfl
          · rw [if_neg h, lookM_cons_ne _ _ h]
      rw [hcons]
      refine ⟨fun i hi e => ?_, fun hne => ?_⟩
      · cases i with
        | zero => rw [if_pos (by simpa using e)]; simp
        | succ i =>
          have hk : g i0 ≠ k := fun h => by
            have := hinj 0 (i + 1) (by simp) hi (by simp only [Nat.add_zero]; rw [h, e])
            omega
          rw [if_neg hk, ih1 i (by simpa using hi) (by rw [show i0 + 1 + i = i0 + (i + 1) by omega]; exact e)]
          simp
      · rw [if_neg (by simpa using hne 0 (by simp))]
        exact ih2 (fun i hi => by have := hne (i + 1) (by simp; omega); rwa [show i0 + (i + 1) = i0 + 1 + i by omega] at this)
  intro k
  obtain ⟨h1, h2⟩ := gen l 0 (fun i j hi hj e => hg i j hi hj (by simpa using e)) k
  cases hf : (List.range l.length).find? (fun i => g i == k) with
  | some i =>
    have hi := List.mem_of_find?_eq_some hf
    have he := List.find?_some hf
    exact h1 i (by simpa using hi) (by simpa using he)
  | none =>
    rw [List.find?_eq_none] at hf
    exact h2 (fun i hi he => hf i (by simpa using hi) (by simpa using he))

/-- a call that is lent the objects rho; what else is handed on is only read from now on -/
theorem lend_core {f : FuncId} {args args' : List AV} {m0 : List MObj} {r : AV} {m1 : List (Option MObj)} {vals : Array Value} (rho : List (Option Nat)) (ks : List Nat) (g : Nat → Nat) (F' : Nat → Prop)
    (h : CallsM P f args' m0 r m1) (rel : Rel X N w S κ t m F a) (ksget : ∀ i : Nat, ks[i]? = (rho[i]?).map fun o : Option Nat => o.getD (g i))
    (hl : lendOk (zs 0 rho) ks m rho m0) (hnd : (lentK rho).Nodup) (ha : WnL (zs 0 rho) (frzL ks m args) args')
    (glent : ∀ (i k : Nat), rho[i]? = some (some k) → g i = k) (gnew : ∀ i : Nat, i < m1.length → (∀ k, rho[i]? ≠ some (some k)) → F (g i))
    (gi : ∀ (i j : Nat), i < m1.length → j < m1.length → (∀ k, rho[i]? ≠ some (some k)) → (∀ k, rho[j]? ≠ some (some k)) → g i = g j → i = j)
    (hF' : ∀ k, F' k → F k ∧ ∀ i, i < m1.length → g i ≠ k) (hlen : args.length = vals.size) (hR : ∀ (i : Nat) x y, args[i]? = some x → vals[i]? = some y → R w S κ x y) :
    Calls P f vals w fun e w' => ∃ v S2 κ2, e = .returned v ∧ R w' S2 κ2 (reG g r) v ∧
      Rel X N w' S2 κ2 t (outM g 0 m1 ++ (kills (notIn ks (kysL args ++ boxK m rho)) ++ m)) F' a := by
  have e := rel.ent
  obtain ⟨fr, hfr⟩ : ∃ fr, fr = notIn ks (kysL args ++ boxK m rho) := ⟨_, rfl⟩
  rw [← hfr]
  obtain ⟨l1, l2, l3⟩ := lendOk_get hl
  obtain ⟨κ0, hκ0⟩ : ∃ κ0 : Nat → Option Loc, κ0 = fun i => match rho[i]? with | some (some k) => κ k | some none => some nilLoc | none => none := ⟨_, rfl⟩
  have k0s : ∀ (i k : Nat), rho[i]? = some (some k) → κ0 i = κ k := fun i k hi => by rw [hκ0]; simp only [hi]
  have k0n : ∀ i : Nat, rho[i]? = some none → κ0 i = some nilLoc := fun i hi => by rw [hκ0]; simp only [hi]
  have k0o : ∀ i : Nat, rho[i]? = none → κ0 i = none := fun i hi => by rw [hκ0]; simp only [hi]
  have hlt : ∀ k l, κ k = some l → ¬ F k := fun k l hk hh => by rw [(e.fresh k hh).2] at hk; cases hk
  have hltm : ∀ k o, lookM m k = some o → ¬ F k := fun k o hk hh => by rw [(e.fresh k hh).1] at hk; cases hk
  have hz : ∀ k, (zs 0 rho).contains k = true → ∃ l, κ0 k = some l ∧ l.isNil = true := fun k hk => by
    rw [List.contains_eq_mem] at hk
    have := (zs_mem.1 (by simpa using hk)).2
    exact ⟨nilLoc, k0n k (by simpa using this), rfl⟩
  have hpos : ∀ k i l, pos ks k = some i → κ k = some l → κ0 i = some l := fun k i l hp hk => by
    have hi := pos_some hp
    rw [ksget] at hi
    cases hr : rho[i]? with
    | none => rw [hr] at hi; simp at hi
    | some o =>
      rw [hr] at hi
      cases o with
      | some k' => simp at hi; subst hi; rw [k0s i _ hr]; exact hk
      | none =>
        simp at hi
        have him : i < m1.length := Nat.lt_of_lt_of_le (by rw [← l1]; exact (List.getElem?_eq_some_iff.1 hr).1) h.2.1
        exact (hlt k l hk (hi ▸ gnew i him (fun k' hk' => by rw [hr] at hk'; cases hk'))).elim
  have hin : ∀ (i k : Nat), rho[i]? = some (some k) → pos ks k ≠ none := fun i k hi hp => by
    refine pos_none hp (List.mem_of_getElem? (i := i) ?_)
    rw [ksget, hi]; simp
  have hfrp : ∀ k, k ∈ fr → pos ks k = none := fun k hk => by rw [hfr] at hk; exact (notIn_mem.1 hk).2
  have hentc : Ent w (fun b => S b ∨ blocksOf m κ fr b) κ0 (memOf m0) (m0.length ≤ ·) := by
    have cls : ∀ i o' l b, lookM (memOf m0) i = some o' → κ0 i = some l → l.has b → ∃ k o, rho[i]? = some (some k) ∧ lookM m k = some o ∧ κ k = some l := fun i o' l b hi hli hn => by
      rw [lookM_memOf] at hi
      have him : i < m0.length := (List.getElem?_eq_some_iff.1 hi).1
      cases hr : rho[i]? with
      | none => rw [List.getElem?_eq_none_iff] at hr; omega
      | some o =>
        cases o with
        | none => rw [k0n i hr] at hli; cases hli; have := (Loc.has_one (fun _ => rfl) hn).1; cases this
        | some k =>
          obtain ⟨o, _, h1, _, _⟩ := l2 i k hr
          exact ⟨k, o, rfl, h1, by rw [← k0s i k hr]; exact hli⟩
    refine ⟨fun i o' hi => ?_, fun i j o o' l l' b hi hj hli hlj n1 n2 => ?_, fun i o' l b hi hli hn => ?_, fun k hk => ?_, ?_⟩
    · rw [lookM_memOf] at hi
      have him : i < m0.length := (List.getElem?_eq_some_iff.1 hi).1
      cases hr : rho[i]? with
      | none => rw [List.getElem?_eq_none_iff] at hr; omega
      | some o =>
        cases o with
        | none =>
          obtain ⟨sz, h1⟩ := l3 i hr
          rw [h1] at hi; cases hi
          exact ⟨nilLoc, k0n i hr, .inl ⟨rfl, rfl⟩⟩
        | some k =>
          obtain ⟨o, o'', h1, h2, h3⟩ := l2 i k hr
          rw [h2] at hi; cases hi
          refine WnO_ObjR hz (ObjR.frz (e.mm k o h1) (fun _ h => .inl h) (k0s i k hr) (fun cs hcs y hy c hrr => ?_)) h3
          subst hcs
          refine frz_Rg e (fun _ h => .inl h) hpos hrr (fun q hq hp ob l b g1 g2 g3 => .inr ⟨q, ob, l, ?_, g1, g2, g3⟩)
          obtain ⟨j, hj, rfl⟩ := List.getElem_of_mem hy
          rw [hfr]
          exact notIn_mem.2 ⟨List.mem_append_right _ (boxK_mem hr h1 q (kysL_mem (i := j) (by simp [hj]) hq)), hp⟩
    · obtain ⟨k, p, e1, e2, e3⟩ := cls i o l b hi hli n1
      obtain ⟨k', p', e1', e2', e3'⟩ := cls j o' l' b hj hlj n2
      have := e.inj k k' p p' l l' b e2 e2' e3 e3' n1 n2
      subst this
      exact lentK_inj hnd e1 e1'
    · obtain ⟨k, p, e1, e2, e3⟩ := cls i o' l b hi hli hn
      have ho := e.own k p l b e2 e3 hn
      refine ⟨fun hS => ?_, ho.2⟩
      rcases hS with hS | ⟨q, ob, lq, q1, q2, q3, q4⟩
      · exact ho.1 hS
      · have := e.inj q k ob p lq l b q2 e2 q3 e3 q4 hn
        subst this
        exact hin i q e1 (hfrp q q1)
    · have hk' : m0.length ≤ k := hk
      exact ⟨by rw [lookM_memOf]; exact List.getElem?_eq_none hk', k0o k (List.getElem?_eq_none (by omega))⟩
    · refine e.sb.mono (fun _ _ => rfl) (fun _ h => .inl h) (fun b hb => ?_)
      rcases hb with hb | ⟨q, ob, lq, q1, q2, q3, q4⟩
      · exact e.sb.lt b hb
      · exact (e.own q ob lq b q2 q3 q4).2
  obtain ⟨w1, w2⟩ := WnL_get ha
  rw [frzL_length] at w1
  refine (h.2.2 w _ κ0 vals hentc (by omega) (fun i x y hx hy => ?_)).mono ?_
  · have hi : i < args.length := by have := (List.getElem?_eq_some_iff.1 hx).1; omega
    refine Wn_R hz (frz_Rg (ks := ks) e (fun _ h => .inl h) hpos (hR i args[i] y (by simp [hi]) hy) (fun q hq hp ob l b g1 g2 g3 => .inr ⟨q, ob, l, ?_, g1, g2, g3⟩)) (w2 i _ x (by rw [frzL_get]; simp [hi]) hx)
    rw [hfr]
    exact notIn_mem.2 ⟨List.mem_append_left _ (kysL_mem (i := i) (by simp [hi]) hq), hp⟩
  rintro _ w' ⟨v, S', κ', rfl, hv, hent, hk0, hS', hnew, hb⟩
  have hlent : ∀ b, lentB κ0 m0.length b → ∃ (i : Nat) (k : Nat) (o : MObj) (l : Loc), rho[i]? = some (some k) ∧ lookM m k = some o ∧ κ k = some l ∧ l.has b := by
    rintro b ⟨i, l, hi, hli, hn⟩
    cases hr : rho[i]? with
    | none => rw [List.getElem?_eq_none_iff] at hr; omega
    | some o =>
      cases o with
      | none => rw [k0n i hr] at hli; cases hli; have := (Loc.has_one (fun _ => rfl) hn).1; cases this
      | some k =>
        obtain ⟨o, _, h1, _, _⟩ := l2 i k hr
        exact ⟨i, k, o, l, hr, h1, by rw [← k0s i k hr]; exact hli, hn⟩
  have gcase : ∀ i : Nat, (∃ k o, rho[i]? = some (some k) ∧ lookM m k = some o ∧ g i = k ∧ ¬ F k ∧ i < m0.length) ∨ ((∀ k, rho[i]? ≠ some (some k)) ∧ (i < m1.length → F (g i))) := fun i => by
    by_cases hi : ∃ k, rho[i]? = some (some k)
    · obtain ⟨k, hi⟩ := hi
      obtain ⟨o, _, h1, _, _⟩ := l2 i k hi
      exact .inl ⟨k, o, hi, h1, glent i k hi, hltm k o h1, by rw [← l1]; exact (List.getElem?_eq_some_iff.1 hi).1⟩
    · have : ∀ k, rho[i]? ≠ some (some k) := fun k hk => hi ⟨k, hk⟩
      exact .inr ⟨this, fun hm => gnew i hm this⟩
  have ginj : ∀ i j, i < m1.length → j < m1.length → g i = g j → i = j := fun i j hi hj hij => by
    rcases gcase i with ⟨k, o, h1, h2, h3, h4, h5⟩ | ⟨h1, h3⟩ <;> rcases gcase j with ⟨k', o', h1', h2', h3', h4', h5'⟩ | ⟨h1', h3'⟩
    · rw [h3, h3'] at hij; subst hij; exact lentK_inj hnd h1 h1'
    · exact (h4 (by rw [← h3, hij]; exact h3' hj)).elim
    · exact (h4' (by rw [← h3', ← hij]; exact h3 hi)).elim
    · exact gi i j hi hj h1 h1' hij
  obtain ⟨κ2, hκ2d⟩ : ∃ κ2 : Nat → Option Loc, κ2 = fun k => match (List.range m1.length).find? (fun i => g i == k) with | some i => κ' i | none => κ k := ⟨_, rfl⟩
  have k2g : ∀ i, i < m1.length → κ2 (g i) = κ' i := fun i him => by
    rw [hκ2d]
    simp only []
    cases hf : (List.range m1.length).find? (fun j => g j == g i) with
    | none =>
      rw [List.find?_eq_none] at hf
      exact (hf i (by simpa using him) (by simp)).elim
    | some j =>
      have hj := List.mem_of_find?_eq_some hf
      have he := List.find?_some hf
      have : j = i := ginj j i (by simpa using hj) him (by simpa using he)
      subst this; rfl
  have k2o : ∀ k, (∀ i, i < m1.length → g i ≠ k) → κ2 k = κ k := fun k hk => by
    rw [hκ2d]
    simp only []
    cases hf : (List.range m1.length).find? (fun j => g j == k) with
    | none => rfl
    | some j =>
      have hj := List.mem_of_find?_eq_some hf
      have he := List.find?_some hf
      exact (hk j (by simpa using hj) (by simpa using he)).elim
  have hext : ∀ k l, κ k = some l → ∃ l', κ2 k = some l' ∧ l'.same l := fun k l hk => by
    by_cases hc : ∃ i, i < m1.length ∧ g i = k
    · obtain ⟨i, him, rfl⟩ := hc
      rcases gcase i with ⟨k, o, h1, h2, h3, h4, h5⟩ | ⟨_, h3⟩
      · rw [k2g i him]
        exact hk0 i l h5 (by rw [k0s i k h1, ← h3]; exact hk)
      · exact (hlt _ l hk (h3 him)).elim
    · exact ⟨l, by rw [k2o k (fun i hi hg => hc ⟨i, hi, hg⟩)]; exact hk, Loc.same_refl l⟩
  have hplace : ∀ i l, κ' i = some l → i < m1.length := fun i l hi => by
    apply Nat.lt_of_not_le; intro hh; rw [(hent.fresh i hh).2] at hi; cases hi
  have hext' : ∀ k l, κ' k = some l → κ2 (g k) = some l := fun k l hk => by rw [k2g k (hplace k l hk)]; exact hk
  have hSw : ∀ b, S b → w'.heap[b]? = w.heap[b]? := fun b hSb => hb.block b (e.sb.lt b hSb) (fun hlb => by
    obtain ⟨i, k, o, l, h1, h2, h3, h4⟩ := hlent b hlb
    exact (e.own k o l b h2 h3 h4).1 hSb)
  have hout : ∀ k o, lookM (outM g 0 m1 ++ (kills fr ++ m)) k = some o → (∃ i o', i < m1.length ∧ g i = k ∧ lookM (memO 0 m1) i = some o' ∧ o = reO g o') ∨
      ((∀ i, i < m1.length → g i ≠ k) ∧ k ∉ fr ∧ lookM m k = some o) := fun k o hk => by
    rw [lookM_outM ginj] at hk
    split at hk
    · rename_i i hf
      have hi := List.mem_of_find?_eq_some hf
      have he := List.find?_some hf
      simp only [Option.map_eq_some_iff] at hk
      obtain ⟨o', h1, rfl⟩ := hk
      refine .inl ⟨i, o', by simpa using hi, by simpa using he, lookM_memO0.2 ?_, rfl⟩
      simpa [Option.join_eq_some_iff] using h1
    · rename_i hf
      rw [List.find?_eq_none] at hf
      rw [lookM_kills] at hk
      split at hk
      · cases hk
      · rename_i hnf
        exact .inr ⟨fun i hi he => hf i (by simpa using hi) (by simpa using he), hnf, hk⟩
  have hold : ∀ k o l b, (∀ i, i < m1.length → g i ≠ k) → lookM m k = some o → κ k = some l → l.has b → ¬ lentB κ0 m0.length b := fun k o l b h1 h2 h3 h4 hlb => by
    obtain ⟨i, k', o', l', q1, q2, q3, q4⟩ := hlent _ hlb
    have := e.inj k' k o' o l' l b q2 h2 q3 h3 q4 h4
    subst this
    have hi : i < m0.length := by rw [← l1]; exact (List.getElem?_eq_some_iff.1 q1).1
    exact h1 i (Nat.lt_of_lt_of_le hi h.2.1) (glent i _ q1)
  refine ⟨v, (fun b => S b ∨ S' b), κ2, rfl, reG_R hv (fun _ h => .inr h) hext', rel.size, rel.defers, fun i => (rel.tm i).monoC hSw (fun _ h => .inl h) hext, ⟨?_, ?_, ?_, ?_, ?_⟩, ?_⟩
  · intro k o hk
    rcases hout k o hk with ⟨i, o', h1, rfl, h3, rfl⟩ | ⟨h1, h2, h3⟩
    · exact reG_ObjR (hent.mm i o' h3) (fun _ h => .inr h) hext'
    · exact (e.mm k o h3).monoC hSw (fun _ h => .inl h) hext (fun l hl => by rw [k2o k h1]; exact hl) (fun l b hl hn => hb.block _ (e.own k o l b h3 hl hn).2 (hold k o l b h1 h3 hl hn))
  · intro k k' o o' l l' b hk hk' hl1 hl2 n1 n2
    have mixed : ∀ i oi li k o l, lookM (memO 0 m1) i = some oi → κ' i = some li → li.has b → (∀ i, i < m1.length → g i ≠ k) → lookM m k = some o → κ k = some l → l.has b → False :=
      fun i oi li k o l g1 g2 g3 g4 g5 g6 g7 => by
        rcases hnew i oi li b g1 g2 g3 with hh | hh
        · have := (e.own k o l b g5 g6 g7).2; omega
        · exact hold k o l b g4 g5 g6 g7 hh
    rcases hout k o hk with ⟨i, oi, h1, rfl, h3, rfl⟩ | ⟨h1, h2, h3⟩ <;> rcases hout k' o' hk' with ⟨j, oj, h1', rfl, h3', rfl⟩ | ⟨h1', h2', h3'⟩
    · rw [k2g _ h1] at hl1
      rw [k2g _ h1'] at hl2
      rw [hent.inj i j oi oj l l' b h3 h3' hl1 hl2 n1 n2]
    · rw [k2g _ h1] at hl1
      exact (mixed i oi l k' o' l' h3 hl1 n1 h1' h3' ((k2o k' h1').symm.trans hl2) n2).elim
    · rw [k2g _ h1'] at hl2
      exact (mixed j oj l' k o l h3' hl2 n2 h1 h3 ((k2o k h1).symm.trans hl1) n1).elim
    · exact e.inj k k' o o' l l' b h3 h3' ((k2o k h1).symm.trans hl1) ((k2o k' h1').symm.trans hl2) n1 n2
  · intro k o l b hk hl1 hn
    rcases hout k o hk with ⟨i, oi, h1, rfl, h3, rfl⟩ | ⟨h1, h2, h3⟩
    · rw [k2g _ h1] at hl1
      have ho := hent.own i oi l b h3 hl1 hn
      refine ⟨fun hS => ?_, ho.2⟩
      rcases hS with hS | hS
      · rcases hnew i oi l b h3 hl1 hn with hh | hh
        · have := e.sb.lt _ hS; omega
        · obtain ⟨i', k', o', l', q1, q2, q3, q4⟩ := hlent _ hh
          exact (e.own k' o' l' b q2 q3 q4).1 hS
      · exact ho.1 hS
    · have hl1 := (k2o k h1).symm.trans hl1
      have ho := e.own k o l b h3 hl1 hn
      refine ⟨fun hS => ?_, Nat.lt_of_lt_of_le ho.2 hb.size⟩
      rcases hS with hS | hS
      · exact ho.1 hS
      · rcases hS' _ hS with (hh | ⟨q, ob, lq, q1, q2, q3, q4⟩) | hh | hh
        · exact ho.1 hh
        · have := e.inj q k ob o lq l b q2 h3 q3 hl1 q4 hn
          subst this; exact h2 q1
        · omega
        · exact hold k o l b h1 h3 hl1 hn hh
  · intro k hk
    obtain ⟨hFk, hgk⟩ := hF' k hk
    refine ⟨?_, ?_⟩
    · cases hl1 : lookM (outM g 0 m1 ++ (kills fr ++ m)) k with
      | none => rfl
      | some o =>
        exfalso
        rcases hout k o hl1 with ⟨i, oi, h1, h2, _⟩ | ⟨_, _, h3⟩
        · exact hgk i h1 h2
        · exact hltm k o h3 hFk
    · rw [k2o k (fun i hi => hgk i hi)]; exact (e.fresh k hFk).2
  · exact hent.sb.mono (fun _ _ => rfl) (fun _ h => .inr h) (fun b hS => hS.elim (fun h => Nat.lt_of_lt_of_le (e.sb.lt b h) hb.size) (hent.sb.lt b))
  · have s := rel.since
    refine ⟨?_, ?_, hb.os.trans s.os, hb.tape.trans s.tape, hb.output.trans s.output, Nat.le_trans s.ge hb.size, fun b h1 h2 => ?_, fun k l hk => by
      obtain ⟨l2, g1, g2⟩ := s.kp k l hk
      obtain ⟨l3, g3, g4⟩ := hext k l2 g1
      exact ⟨l3, g3, g4.trans g2⟩⟩
    · intro k o l b hk hl1 hn
      rcases hout k o hk with ⟨i, oi, h1, rfl, h3, rfl⟩ | ⟨h1, h2, h3⟩
      · rw [k2g _ h1] at hl1
        rcases hnew i oi l b h3 hl1 hn with hh | hh
        · exact .inl (Nat.le_trans s.ge hh)
        · obtain ⟨i', k', o', l', q1, q2, q3, q4⟩ := hlent _ hh
          exact s.own k' o' l' b q2 q3 q4
      · exact s.own k o l b h3 ((k2o k h1).symm.trans hl1) hn
    · intro b hS
      rcases hS with hS | hS
      · exact s.s0 b hS
      · rcases hS' _ hS with (hh | ⟨q, ob, lq, q1, q2, q3, q4⟩) | hh | hh
        · exact s.s0 b hh
        · exact .inr (s.own q ob lq b q2 q3 q4)
        · exact .inr (.inl (Nat.le_trans s.ge hh))
        · obtain ⟨i', k', o', l', q1, q2, q3, q4⟩ := hlent _ hh
          exact .inr (s.own k' o' l' b q2 q3 q4)
    · rw [hb.block b (Nat.lt_of_lt_of_le h1 s.ge) (fun hh => ?_)]
      · exact s.keep b h1 h2
      · obtain ⟨i', k', o', l', q1, q2, q3, q4⟩ := hlent _ hh
        rcases s.own k' o' l' b q2 q3 q4 with hh2 | hh2
        · omega
        · exact h2 hh2

theorem callM {f : FuncId} {args args' : List AV} {m0 : List MObj} {r : AV} {m1 : List (Option MObj)} {K : AV → Mem → Nat → Prop} (rho : List (Option Nat)) (h : CallsM P f args' m0 r m1)
    (hl : lendOk (zs 0 rho) (rk n 0 rho) m rho m0) (hnd : (lentK rho).Nodup) (ha : WnL (zs 0 rho) (frzL (rk n 0 rho) m args) args')
    (hK : K (reG (gk n (rk n 0 rho)) r) (outM (gk n (rk n 0 rho)) 0 m1 ++ (kills (notIn (rk n 0 rho) (kysL args ++ boxK m rho)) ++ m)) (n + m1.length + 1)) : CallVC P f args m n K := by
  refine ⟨h.1, fun X N w S κ t a vals rel hlen hR => ?_⟩
  obtain ⟨l1, l2, l3⟩ := lendOk_get hl
  have hltm : ∀ k o, lookM m k = some o → k < n := fun k o hk => by
    apply Nat.lt_of_not_le; intro hh; rw [(rel.ent.fresh k hh).1] at hk; cases hk
  have gv : ∀ i : Nat, gk n (rk n 0 rho) i = ((rho[i]?).join).getD (n + i) := fun i => by
    simp only [gk, rk_get]
    cases hr : rho[i]? with
    | none => rfl
    | some o => cases o <;> simp
  have gn : ∀ i : Nat, (∀ k, rho[i]? ≠ some (some k)) → gk n (rk n 0 rho) i = n + i := fun i hi => by
    rw [gv]
    cases hr : rho[i]? with
    | none => rfl
    | some o => cases o with
      | none => rfl
      | some k => exact (hi k hr).elim
  refine (lend_core rho (rk n 0 rho) (gk n (rk n 0 rho)) (n + m1.length + 1 ≤ ·) h rel (fun i => ?_) hl hnd ha (fun i k hi => by rw [gv, hi]; rfl) (fun i _ hi => by show n ≤ _; rw [gn i hi]; omega)
    (fun i j _ _ hi hj hij => by rw [gn i hi, gn j hj] at hij; omega) (fun k hk => ⟨by have : n + m1.length + 1 ≤ k := hk; show n ≤ k; omega, fun i hi hgi => ?_⟩) hlen hR).mono ?_
  · rw [rk_get]
    cases hr : rho[i]? with
    | none => rfl
    | some o => cases o with
      | some k => rfl
      | none => simp [gv, hr]
  · have hk' : n + m1.length + 1 ≤ k := hk
    by_cases hl' : ∃ k', rho[i]? = some (some k')
    · obtain ⟨k', hk2⟩ := hl'
      obtain ⟨o, _, h1, _, _⟩ := l2 i k' hk2
      have := hltm k' o h1
      rw [gv, hk2] at hgi
      simp at hgi; omega
    · rw [gn i (fun k' hk2 => hl' ⟨k', hk2⟩)] at hgi; omega
  · rintro e w' ⟨v, S2, κ2, rfl, h1, h2⟩
    exact ⟨v, _, _, _, S2, κ2, rfl, hK, h1, h2⟩

end Go.Av
/- Cells of a lent struct that the call leaves alone: what they hold is known all the same afterwards. -/
namespace Go.Av

variable {P : Program} {w w' : World} {S S' Sc : Nat → Prop} {κ κ' : Nat → Option Loc} {m m' : Mem} {n N : Nat} {F : Nat → Prop} {t t' : Tmps} {a : Act} {X : Ctx}

/-- temporaries from M on -/
def slotT : Nat → List AV → Tmps
  | _, [] => []
  | M, y :: r => (M, y) :: slotT (M + 1) r
theorem look_slot_lt {t : Tmps} : ∀ {ys : List AV} {M i : Nat}, i < M → look (slotT M ys ++ t) i = look t i
  | [], _, _, _ => rfl
  | y :: r, M, i, h => by simp only [slotT, List.cons_append]; rw [look_cons_ne _ _ (by omega)]; exact look_slot_lt (by omega)
theorem look_slot_get {t : Tmps} : ∀ {ys : List AV} {M j : Nat} {y : AV}, ys[j]? = some y → look (slotT M ys ++ t) (M + j) = y
  | y' :: r, M, 0, y, h => by simp at h; subst h; simp only [slotT, List.cons_append, Nat.add_zero]; exact look_cons_eq _ _ _
  | y' :: r, M, j + 1, y, h => by
    simp only [slotT, List.cons_append]
    rw [look_cons_ne _ _ (by omega), show M + (j + 1) = M + 1 + j by omega]
    exact look_slot_get (by simpa using h)
theorem look_slot_ge {t : Tmps} : ∀ {ys : List AV} {M i : Nat}, M + ys.length ≤ i → look (slotT M ys ++ t) i = look t i
  | [], _, _, _ => rfl
  | y :: r, M, i, h => by
    simp only [List.length_cons] at h
    simp only [slotT, List.cons_append]; rw [look_cons_ne _ _ (by omega)]; exact look_slot_ge (by omega)
/-- a number that no temporary has -/
def topT : Tmps → Nat
  | [] => 0
  | (i, _) :: r => max (i + 1) (topT r)
theorem look_top : ∀ {t : Tmps} {i : Nat}, topT t ≤ i → look t i = .dead
  | [], _, _ => rfl
  | (j, x) :: r, i, h => by simp only [topT] at h; rw [look_cons_ne _ _ (by omega)]; exact look_top (by omega)

def actP (a : Act) (N M : Nat) (rest : List Value) : Act := { a with tmps := a.tmps ++ (List.replicate (M - N) undef ++ rest).toArray }
theorem actP_size {N M : Nat} {rest : List Value} (h : a.tmps.size = N) (hM : N ≤ M) : (actP a N M rest).tmps.size = M + rest.length := by
  simp [actP, h]; omega
theorem actP_lt {N M i : Nat} {rest : List Value} (h : a.tmps.size = N) (hM : N ≤ M) (hi : i < M) : (actP a N M rest).tmps.getD i undef = a.tmps.getD i undef := by
  simp only [actP, Array.getD_eq_getD_getElem?]
  by_cases hN : i < N
  · rw [Array.getElem?_append_left (by omega)]
  · rw [Array.getElem?_append_right (by omega), Array.getElem?_eq_none (xs := a.tmps) (by omega), h]
    simp only [List.getElem?_toArray]
    rw [List.getElem?_append_left (by simp; omega), List.getElem?_replicate]
    split <;> rfl
theorem actP_get {N M j : Nat} {rest : List Value} {v : Value} (h : a.tmps.size = N) (hM : N ≤ M) (hj : rest[j]? = some v) : (actP a N M rest).tmps.getD (M + j) undef = v := by
  simp only [actP, Array.getD_eq_getD_getElem?]
  rw [Array.getElem?_append_right (by omega), h]
  simp only [List.getElem?_toArray]
  rw [List.getElem?_append_right (by simp; omega), List.length_replicate, show M + j - N - (M - N) = j by omega, hj]
  rfl

/-- some cells of a struct told by their values alone -/
theorem Rel.passive {k0 d : Nat} {cs : List AV} (r : Rel X N w S κ t m F a) (h : lookM m k0 = some (.box cs)) (hd : d ≤ cs.length) :
    ∃ (rest : List Value) (M : Nat), rest.length + d = cs.length ∧ N ≤ M ∧ topT t ≤ M ∧ Rel X (M + rest.length) w S κ (slotT M (cs.drop d) ++ t) ((k0, some (.box (cs.take d ++ rest.map .v))) :: m) F (actP a N M rest) := by
  obtain ⟨l, hk, hn, vs, T, h1, h2, h3⟩ := r.ent.mm k0 _ h
  obtain ⟨rest, hrest⟩ : ∃ rest : List Value, rest = (List.range (cs.length - d)).map fun j => vs.getD (l.base + (d + j)) undef := ⟨_, rfl⟩
  have hlen : rest.length = cs.length - d := by rw [hrest]; simp
  have hval : ∀ j, j < cs.length - d → vs[l.base + (d + j)]? = some (rest.getD j undef) ∧ rest[j]? = some (rest.getD j undef) := fun j hj => by
    have e1 : rest[j]? = some (vs.getD (l.base + (d + j)) undef) := by rw [hrest, List.getElem?_map, List.getElem?_range hj]; rfl
    refine ⟨?_, ?_⟩
    · rw [List.getD_eq_getElem?_getD, e1, Option.getD_some, Array.getD_eq_getD_getElem?, Array.getElem?_eq_getElem (show l.base + (d + j) < vs.size by omega)]; rfl
    · rw [List.getD_eq_getElem?_getD, e1]; rfl
  have hlook : ∀ k o, lookM ((k0, some (.box (cs.take d ++ rest.map .v))) :: m) k = some o → ∃ o', lookM m k = some o' := fun k o hko => by
    by_cases hkk : k0 = k
    · subst hkk; exact ⟨_, h⟩
    · rw [lookM_cons_ne _ _ hkk] at hko; exact ⟨_, hko⟩
  obtain ⟨M, hM⟩ : ∃ M, M = max N (topT t) := ⟨_, rfl⟩
  refine ⟨rest, M, by omega, by omega, by omega, actP_size r.size (by omega), r.defers, fun i => ?_, ⟨fun k o hko => ?_, fun k k' o o' l l' b g1 g2 => ?_, fun k o l b g1 => ?_, fun k hF => ?_, r.ent.sb⟩, ?_⟩
  · by_cases hi : i < M
    · rw [look_slot_lt hi, actP_lt r.size (by omega) hi]; exact r.tm i
    · by_cases hi2 : i < M + (cs.length - d)
      · obtain ⟨j, rfl⟩ : ∃ j, i = M + j := ⟨i - M, by omega⟩
        have hj : (cs.drop d)[j]? = some cs[d + j] := by rw [List.getElem?_drop, List.getElem?_eq_getElem]
        obtain ⟨v1, v2⟩ := hval j (by omega)
        rw [look_slot_get hj, actP_get r.size (by omega) v2]
        obtain ⟨c, hc, hR⟩ := h3 (d + j) cs[d + j] (by simp [show d + j < cs.length by omega])
        rw [v1] at hc; cases hc; exact hR
      · rw [look_slot_ge (by simp; omega), look_top (by omega)]; exact .base (.dead _)
  · by_cases hkk : k0 = k
    · subst hkk
      rw [lookM_cons_eq] at hko; cases hko
      refine ⟨l, hk, hn, vs, T, h1, by simp; omega, fun j y hj => ?_⟩
      by_cases hjd : j < d
      · rw [List.getElem?_append_left (by simp; omega), List.getElem?_take, if_pos hjd] at hj
        exact h3 j y hj
      · have hjl : j - d < rest.length := by
          have := (List.getElem?_eq_some_iff.1 hj).1
          simp at this; omega
        obtain ⟨v1, v2⟩ := hval (j - d) (by omega)
        rw [List.getElem?_append_right (by simp; omega), List.length_take, Nat.min_eq_left hd, List.getElem?_map, v2] at hj
        cases hj
        rw [show d + (j - d) = j by omega] at v1
        exact ⟨_, v1, .base (.v _)⟩
    · rw [lookM_cons_ne _ _ hkk] at hko; exact r.ent.mm k o hko
  · obtain ⟨p, hp⟩ := hlook k o g1
    obtain ⟨p', hp'⟩ := hlook k' o' g2
    exact r.ent.inj k k' p p' l l' b hp hp'
  · obtain ⟨p, hp⟩ := hlook k o g1
    exact r.ent.own k p l b hp
  · have hne : k0 ≠ k := fun hh => by subst hh; rw [(r.ent.fresh k0 hF).1] at h; cases h
    rw [lookM_cons_ne _ _ hne]; exact r.ent.fresh k hF
  · have s := r.since
    refine ⟨fun k o l b g1 => ?_, s.s0, s.os, s.tape, s.output, s.ge, s.keep, s.kp⟩
    obtain ⟨p, hp⟩ := hlook k o g1
    exact s.own k p l b hp

/-- and back -/
theorem Rel.unpassive {k0 d M : Nat} {cs c : List AV} {rest : List Value} (r : Rel X (M + rest.length) w S κ (slotT M (cs.drop d) ++ t) m F (actP a N M rest)) (hs : a.tmps.size = N)
    (hd : rest.length + d = cs.length) (hM : N ≤ M) (hT : topT t ≤ M) (h : lookM m k0 = some (.box (c ++ rest.map .v))) : Rel X N w S κ t ((k0, some (.box (c ++ cs.drop d))) :: m) F a := by
  obtain ⟨l, hk, hn, vs, T, h1, h2, h3⟩ := r.ent.mm k0 _ h
  have hlook : ∀ k o, lookM ((k0, some (.box (c ++ cs.drop d))) :: m) k = some o → ∃ o', lookM m k = some o' := fun k o hko => by
    by_cases hkk : k0 = k
    · subst hkk; exact ⟨_, h⟩
    · rw [lookM_cons_ne _ _ hkk] at hko; exact ⟨_, hko⟩
  refine ⟨hs, r.defers, fun i => ?_, ⟨fun k o hko => ?_, fun k k' o o' l l' b g1 g2 => ?_, fun k o l b g1 => ?_, fun k hF => ?_, r.ent.sb⟩, ?_⟩
  · by_cases hi : i < M
    · have := r.tm i
      rwa [look_slot_lt hi, actP_lt hs hM hi] at this
    · rw [look_top (by omega)]; exact .base (.dead _)
  · by_cases hkk : k0 = k
    · subst hkk
      rw [lookM_cons_eq] at hko; cases hko
      refine ⟨l, hk, hn, vs, T, h1, by simp at h2 ⊢; omega, fun j y hj => ?_⟩
      by_cases hjc : j < c.length
      · rw [List.getElem?_append_left hjc] at hj
        exact h3 j y (by rw [List.getElem?_append_left hjc]; exact hj)
      · rw [List.getElem?_append_right (by omega)] at hj
        have hjl : j - c.length < rest.length := by
          have := (List.getElem?_eq_some_iff.1 hj).1
          simp at this; omega
        have e : rest[j - c.length]? = some rest[j - c.length] := by simp [hjl]
        obtain ⟨v, hv, hR⟩ := h3 j (.v rest[j - c.length]) (by rw [List.getElem?_append_right (by omega), List.getElem?_map, e]; rfl)
        have hveq : v = rest[j - c.length] := by cases hR with | base hR => cases hR; rfl
        refine ⟨v, hv, ?_⟩
        have := r.tm (M + (j - c.length))
        rw [look_slot_get hj, actP_get hs hM e, ← hveq] at this
        exact this
    · rw [lookM_cons_ne _ _ hkk] at hko; exact r.ent.mm k o hko
  · obtain ⟨p, hp⟩ := hlook k o g1
    obtain ⟨p', hp'⟩ := hlook k' o' g2
    exact r.ent.inj k k' p p' l l' b hp hp'
  · obtain ⟨p, hp⟩ := hlook k o g1
    exact r.ent.own k p l b hp
  · have hne : k0 ≠ k := fun hh => by subst hh; rw [(r.ent.fresh k0 hF).1] at h; cases h
    rw [lookM_cons_ne _ _ hne]; exact r.ent.fresh k hF
  · have s := r.since
    refine ⟨fun k o l b g1 => ?_, s.s0, s.os, s.tape, s.output, s.ge, s.keep, s.kp⟩
    obtain ⟨p, hp⟩ := hlook k o g1
    exact s.own k p l b hp

/-- a call of a function that leaves all but the first d cells of the struct k0 alone, whatever they hold -/
theorem callP {f : FuncId} {args : List AV} {K : AV → Mem → Nat → Prop} (k0 d : Nat) {cs : List AV} (h0 : lookM m k0 = some (.box cs)) (hd : d ≤ cs.length)
    (h : ∀ rest : List Value, rest.length + d = cs.length → CallVC P f args ((k0, some (.box (cs.take d ++ rest.map .v))) :: m) n
      fun x m' n' => ∃ c, lookM m' k0 = some (.box (c ++ rest.map .v)) ∧ K x ((k0, some (.box (c ++ cs.drop d))) :: m') n') : CallVC P f args m n K := by
  refine ⟨(h (List.replicate (cs.length - d) undef) (by simp; omega)).1, fun X N w S κ t a vals r hl hR => ?_⟩
  obtain ⟨rest, M, q1, q2, q3, q4⟩ := r.passive h0 hd
  refine ((h rest q1).2 X (M + rest.length) w S κ _ _ vals q4 hl hR).mono ?_
  rintro e w' ⟨v, x, m', n', S', κ', rfl, ⟨c, hc, hK⟩, hv, hr⟩
  exact ⟨v, x, _, n', S', κ', rfl, hK, hv, hr.unpassive r.size q1 q2 q3 hc⟩

end Go.Av
