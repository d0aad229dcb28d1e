/- Calls that are lent objects. -/
import Derived.Test.YtblakcgmngdhmaaAvW
import GoSem.ClaimJoined
import Derived.ChangeOld
import Derived.Carry
import Derived.ChangeShapes
import Derived.OpenShut
namespace Go.Av
open Go.RowKit (Below)

variable {P : Program} {w w' : World} {S S' : Nat → Prop} {κ κ' : Nat → Option Loc} {m : Mem} {n N : Nat} {F : Nat → Prop} {t : Tmps} {a : Act} {X : Ctx}

def rangeF : Nat → Nat → List Nat
  | _, 0 => []
  | i, n + 1 => i :: rangeF (i + 1) n

theorem rangeF_length (i n : Nat) : (rangeF i n).length = n := by
  induction n generalizing i with
  | zero => rfl
  | succ n ih => simp [rangeF, ih]
theorem rangeF_get (i n k : Nat) (h : k < n) : (rangeF i n)[k]? = some (i + k) := by
  induction n generalizing i k with
  | zero => omega
  | succ n ih =>
    cases k with
    | zero => simp [rangeF]
    | succ k => simp only [rangeF, List.getElem?_cons_succ]; rw [ih _ _ (by omega)]; congr 1; omega

def outOk (rho : List Nat) (m : Mem) : List Nat → List (Option MObj) → Prop
  | [], os => os = []
  | k :: ks, os => match os with
    | [] => False
    | none :: os => outOk rho m ks os
    | some o :: os => (match lookM m k with
      | some o' => WkO (frzO rho m o') o
      | none => False) ∧ outOk rho m ks os

theorem outOk_get {rho : List Nat} {m : Mem} : ∀ {ks : List Nat} {os : List (Option MObj)}, outOk rho m ks os → ks.length = os.length ∧
    ∀ (i : Nat) o, os[i]? = some (some o) → ∃ k o', ks[i]? = some k ∧ lookM m k = some o' ∧ WkO (frzO rho m o') o := by
  intro ks
  induction ks with
  | nil => intro os h; simp only [outOk] at h; subst h; simp
  | cons k ks ih =>
    intro os h
    cases os with
    | nil => simp [outOk] at h
    | cons o os =>
      cases o with
      | none =>
        simp only [outOk] at h
        obtain ⟨h1, h2⟩ := ih h
        refine ⟨by simp [h1], fun i o hi => ?_⟩
        cases i with
        | zero => simp at hi
        | succ i => simpa using h2 i o (by simpa using hi)
      | some o0 =>
        simp only [outOk] at h
        obtain ⟨h1, h2⟩ := ih h.2
        refine ⟨by simp [h1], fun i o hi => ?_⟩
        cases i with
        | zero =>
          simp at hi; subst hi
          have h3 := h.1
          split at h3
          · rename_i o' ho'; exact ⟨k, o', by simp, ho', h3⟩
          · exact h3.elim
        | succ i => simpa using h2 i o (by simpa using hi)

/-- what is handed back -/
def ToldM (r : AV) (n0 : Nat) (m1 : List (Option MObj)) (rvs : List RV) (t : Tmps) (m : Mem) : Prop :=
  vress t m rvs fun xs => ∃ nw : List Nat, Wk (frz (rangeF 0 n0 ++ nw) m (one xs)) r ∧ (rangeF 0 n0 ++ nw).Nodup ∧ outOk (rangeF 0 n0 ++ nw) m (rangeF 0 n0 ++ nw) m1

def EndsM (r : AV) (n0 : Nat) (m1 : List (Option MObj)) (rvs : List RV) : WP := fun e t m _ => match e with
  | .ex _ => False
  | _ => ToldM r n0 m1 rvs t m

theorem fnM_of {f : FuncId} {mc : MCode} {rvs : List RV} {N : Nat} {args : List AV} {m0 : List MObj} {r : AV} {m1 : List (Option MObj)} (h : compiled P f = some (mc, rvs, N)) (hn : args.length ≤ N)
    (hlen : m0.length ≤ m1.length) (hv : vcg P mc (EndsM r m0.length m1 rvs) (argT 0 args) (memOf m0) m0.length) : CallsM P f args m0 r m1 := by
  unfold compiled at h
  split at h
  · rename_i fn hf
    split at h
    · rename_i c hb
      split at h
      · rename_i mc' rvs' hc hr hcall
        simp only [Option.some.injEq, Prod.mk.injEq] at h
        obtain ⟨rfl, rfl, rfl⟩ := h
        refine ⟨hcall, hlen, fun w S κ0 vals hent hl hR => ?_⟩
        refine calls_of_wp hf hb ?_
        have hlive : ∀ k, k < m0.length → ∃ l, κ0 k = some l := fun k hk => (hent.mm k m0[k] (by rw [lookM_memOf]; simp [hk])).has
        have hrel : Rel ⟨w, S, lentB κ0 m0.length, κ0⟩ fn.ntmps w S κ0 (argT 0 args) (memOf m0) (m0.length ≤ ·) { tmps := vals ++ Array.replicate (fn.ntmps - vals.size) undef, defers := [] } := by
          refine ⟨by simp; omega, rfl, fun i => ?_, hent, ⟨fun k o l b h hk hn => ?_, fun b hb => .inl hb, rfl, rfl, rfl, Nat.le_refl _, fun _ _ _ => rfl, fun _ l h => ⟨l, h, Loc.same_refl l⟩⟩⟩
          · rw [look_argT, if_pos (Nat.zero_le _), Nat.sub_zero]
            by_cases hi : i < args.length
            · have hv : vals[i]? = some (vals[i]'(by omega)) := by simp
              have := hR i args[i] _ (by simp [hi]) hv
              rw [List.getElem?_eq_getElem hi, Option.getD_some]
              have e : (vals ++ Array.replicate (fn.ntmps - vals.size) undef).getD i undef = vals[i]'(by omega) := by
                rw [Array.getD_eq_getD_getElem?, Array.getElem?_append_left (by omega), hv]; rfl
              simp only [e]
              exact this
            · rw [List.getElem?_eq_none (by omega)]; exact .base (.dead _)
          · rw [lookM_memOf] at h
            exact .inr ⟨k, l, (List.getElem?_eq_some_iff.1 h).1, hk, hn⟩
        refine wp_mono (vcg_ok c _ mc' hc _ _ _ _ _ _ _ _ hrel hv) (fun e a' w' hh => ?_)
        have fin : After ⟨w, S, lentB κ0 m0.length, κ0⟩ fn.ntmps (fun t m _ => ToldM r m0.length m1 rvs' t m) a' w' → a'.defers = [] ∧ ∃ v, (results fn a'.tmps).run P w' = .ok v w' ∧
            ∃ v' S' κ', Ending.returned v = .returned v' ∧ R w' S' κ' r v' ∧ Ent w' S' κ' (memO 0 m1) (m1.length ≤ ·) ∧ (∀ i l, i < m0.length → κ0 i = some l → ∃ l', κ' i = some l' ∧ l'.same l) ∧
              (∀ b, S' b → S b ∨ w.heap.size ≤ b ∨ lentB κ0 m0.length b) ∧
              (∀ k o l b, lookM (memO 0 m1) k = some o → κ' k = some l → l.has b → w.heap.size ≤ b ∨ lentB κ0 m0.length b) ∧ Kept (lentB κ0 m0.length) w w' := by
          rintro ⟨t, m, n, S1, κ1, hT, r1⟩
          obtain ⟨vs, ys, g1, g2, g3, nw, hfr, hnd, hob⟩ := vress_run fn.results.toList rvs' _ hr r1 hT
          refine ⟨r1.defers, ?_⟩
          have hrun : ∃ v, (results fn a'.tmps).run P w' = .ok v w' ∧ R w' S1 κ1 (one ys) v := by
            rw [results_eq, Sem.run_bind, Array.mapM_eq_mapM_toList]
            simp only [Sem.run_map, g1, Result.andThen_ok, Sem.run_pure]
            by_cases h1 : vs.length = 1
            · match vs, ys, h1, g2 with
              | [v], [y], _, _ =>
                refine ⟨v, by simp, ?_⟩
                exact g3 0 y v (by simp) (by simp)
            · refine ⟨.tuple vs.toArray, by simp [h1], ?_⟩
              have : one ys = .tup ys := by
                match ys, g2 with
                | [], _ => rfl
                | [y], g2 => simp at g2; omega
                | _ :: _ :: _, _ => rfl
              rw [this]
              exact .tup (by simpa using g2) (fun i x y h1 h2 => g3 i x y h1 (by simpa using h2))
          obtain ⟨v, hv, hRv⟩ := hrun
          obtain ⟨rho, hrho⟩ : ∃ rho, rho = rangeF 0 m0.length ++ nw := ⟨_, rfl⟩
          rw [← hrho] at hfr hnd hob
          obtain ⟨hrl, hget⟩ := outOk_get hob
          have hold : ∀ i, i < m0.length → rho[i]? = some i := fun i hi => by
            rw [hrho, List.getElem?_append_left (by rw [rangeF_length]; exact hi), rangeF_get _ _ _ hi]; simp
          have hobj : ∀ i o, lookM (memO 0 m1) i = some o → ∃ k o', rho[i]? = some k ∧ lookM m k = some o' ∧ WkO (frzO rho m o') o := fun i o hi => hget i o (lookM_memO0.1 hi)
          have hk1 : ∀ i k, rho[i]? = some k → outκ κ1 rho i = κ1 k := fun i k h => by simp [outκ, h]
          refine ⟨v, hv, v, outS S1 κ1 m rho, outκ κ1 rho, rfl, Wk_R (frz_R r1.ent hRv) hfr, ⟨?_, ?_, ?_, ?_, ?_⟩, ?_, ?_, ?_, ?_⟩
          · intro i o hi
            obtain ⟨k, o', e1, e2, e3⟩ := hobj i o hi
            exact WkO_ObjR (ObjR.frz (r1.ent.mm k o' e2) (fun _ h => .inl h) (hk1 i k e1) (fun cs _ y _ c hr => frz_R r1.ent hr)) e3
          · intro i j o o' l l' b hi hj hli hlj n1 n2
            obtain ⟨k, p, e1, e2, _⟩ := hobj i o hi
            obtain ⟨k', p', e1', e2', _⟩ := hobj j o' hj
            rw [hk1 i k e1] at hli
            rw [hk1 j k' e1'] at hlj
            have := r1.ent.inj _ _ _ _ l l' b e2 e2' hli hlj n1 n2
            subst this
            obtain ⟨hi', hik⟩ := List.getElem?_eq_some_iff.1 e1
            obtain ⟨hj', hjk⟩ := List.getElem?_eq_some_iff.1 e1'
            exact (List.getElem_inj hnd).1 (hik.trans hjk.symm)
          · intro i o l b hi hli hn1
            obtain ⟨k, p, e1, e2, _⟩ := hobj i o hi
            rw [hk1 i k e1] at hli
            have ho := r1.ent.own _ _ l b e2 hli hn1
            refine ⟨fun hS => ?_, ho.2⟩
            rcases hS with hS | ⟨k2, o2, l2, q1, q2, q3, q4⟩
            · exact ho.1 hS
            · have := r1.ent.inj k2 _ o2 p l2 l b q2 e2 q3 hli q4 hn1
              exact q1 (this ▸ List.mem_of_getElem? e1)
          · intro k hk
            have hk' : m1.length ≤ k := hk
            refine ⟨?_, by simp [outκ, List.getElem?_eq_none (show rho.length ≤ k by omega)]⟩
            rw [lookM_memO, if_neg (by omega)]
          · refine r1.ent.sb.mono (fun _ _ => rfl) (fun _ h => .inl h) (fun b hS => ?_)
            rcases hS with hS | ⟨k2, o2, l2, q1, q2, q3, q4⟩
            · exact r1.ent.sb.lt b hS
            · exact (r1.ent.own k2 o2 l2 b q2 q3 q4).2
          · intro i l hi hl
            rw [hk1 i i (hold i hi)]
            exact r1.since.kp i l hl
          · intro b hS
            rcases hS with hS | ⟨k2, o2, l2, q1, q2, q3, q4⟩
            · exact r1.since.s0 b hS
            · exact .inr (r1.since.own k2 o2 l2 b q2 q3 q4)
          · intro i o l b hi hli hn1
            obtain ⟨k, p, e1, e2, _⟩ := hobj i o hi
            rw [hk1 i k e1] at hli
            exact r1.since.own k p l b e2 hli hn1
          · exact ⟨r1.since.os, r1.since.tape, r1.since.output, r1.since.ge, r1.since.keep⟩
        cases e with
        | normal => exact fin hh
        | ret => exact fin hh
        | exit id =>
          obtain ⟨t, m, n, S1, κ1, hT, r1⟩ := hh
          exact hT.elim
        | _ => exact hh.elim
      · cases h
    · cases h
  · cases h

end Go.Av
/- From what the statement's form reads to abstract values. -/
namespace Go.Av
open Go.RowKit (Below)

/-- shapes of types -/
inductive Sh where
  | int (k : IntKind)
  | bool
  | slice (sz : Nat) (e : Sh)
  | agg (fs : List Sh)

inductive Has : Sh → AV → Prop where
  | int {k : IntKind} {n : Int} (h : (Lit.int k n).wf = true) : Has (.int k) (.v (.int k n))
  | bool (b : Bool) : Has .bool (.v (.bool b))
  | slice {sz : Nat} {e : Sh} {xs : List AV} (hl : xs.length ≤ maxLen) (h : ∀ (i : Nat) x, xs[i]? = some x → Has e x) : Has (.slice sz e) (.ro sz xs)
  | agg {fs : List Sh} {ys : List AV} (hl : fs.length = ys.length) (h : ∀ (i : Nat) f y, fs[i]? = some f → ys[i]? = some y → Has f y) : Has (.agg fs) (.agg (ys.flatMap AV.cells))

theorem allCell_append : ∀ {xs ys : List AV}, allCell xs = true → allCell ys = true → allCell (xs ++ ys) = true := by
  intro xs
  induction xs with
  | nil => intro ys _ h; exact h
  | cons x xs ih => intro ys h1 h2; simp only [allCell, List.cons_append, Bool.and_eq_true] at h1 ⊢; exact ⟨h1.1, ih h1.2 h2⟩

theorem Has.cells {s : Sh} {x : AV} (h : Has s x) : allCell x.cells = true := by
  induction h with
  | int h => rfl
  | bool b => rfl
  | slice hl h => rfl
  | agg hl h ih =>
    rename_i fs ys
    have : ∀ (ys : List AV), (∀ y ∈ ys, allCell y.cells = true) → allCell (ys.flatMap AV.cells) = true := by
      intro ys
      induction ys with
      | nil => intro _; rfl
      | cons y ys ih2 => intro h; simp only [List.flatMap_cons]; exact allCell_append (h y (by simp)) (ih2 (fun z hz => h z (by simp [hz])))
    refine this ys (fun y hy => ?_)
    obtain ⟨i, hi, rfl⟩ := List.getElem_of_mem hy
    exact ih i (fs[i]'(by omega)) ys[i] (by simp) (by simp)

mutual
def shOf (P : Program) : Nat → TypeId → Option Sh
  | 0, _ => none
  | g + 1, t => match P.underlying t with
    | some (.int k) => if P.cellsOf t = 1 then some (.int k) else none
    | some .bool => if P.cellsOf t = 1 then some .bool else none
    | some (.slice e) => if P.cellsOf t = 1 ∧ P.cellsOf e ≠ 0 then match shOf P g e with
        | some s => some (.slice (P.cellsOf e) s)
        | none => none
      else none
    | some (.struct fs) => match shFs P g fs.toList 0 with
      | some (l, n) => if n = P.cellsOf t then some (.agg l) else none
      | none => none
    | some (.array n e) => match shOf P g e with
      | some s => if n * P.cellsOf e = P.cellsOf t then some (.agg (List.replicate n s)) else none
      | none => none
    | _ => none
def shFs (P : Program) : Nat → List Field → Nat → Option (List Sh × Nat)
  | 0, _, _ => none
  | _ + 1, [], off => some ([], off)
  | g + 1, f :: r, off => if f.offset = off then match shOf P g f.type, shFs P g r (off + P.cellsOf f.type) with
      | some s, some (l, n) => some (s :: l, n)
      | _, _ => none
    else none
end

/-- cells of a value -/
def CellsR (w : World) (S : Nat → Prop) (xs : List AV) (cs : List Value) : Prop :=
  xs.length = cs.length ∧ ∀ (j : Nat) y c, xs[j]? = some y → cs[j]? = some c → R0 w S y c

theorem CellsR.append {w : World} {S : Nat → Prop} {xs ys : List AV} {cs ds : List Value} (h1 : CellsR w S xs cs) (h2 : CellsR w S ys ds) : CellsR w S (xs ++ ys) (cs ++ ds) := by
  refine ⟨by simp [h1.1, h2.1], fun j y c hy hc => ?_⟩
  by_cases hj : j < xs.length
  · rw [List.getElem?_append_left hj] at hy
    rw [List.getElem?_append_left (by rw [← h1.1]; exact hj)] at hc
    exact h1.2 j y c hy hc
  · rw [List.getElem?_append_right (by omega)] at hy
    rw [List.getElem?_append_right (by rw [← h1.1]; omega), ← h1.1] at hc
    exact h2.2 _ y c hy hc

theorem CellsR.one {w : World} {S : Nat → Prop} {x : AV} {c : Value} (h : R0 w S x c) : CellsR w S [x] [c] := by
  refine ⟨rfl, fun j y c' hy hc => ?_⟩
  cases j with
  | zero => simp at hy hc; subst hy hc; exact h
  | succ j => simp at hy

theorem mapM_some {α β : Type} {f : α → Option β} : ∀ {l : List α} {r : List β}, l.mapM f = some r → l.length = r.length ∧ ∀ (i : Nat) x, l[i]? = some x → ∃ y, r[i]? = some y ∧ f x = some y := by
  intro l
  induction l with
  | nil => intro r h; simp at h; subst h; simp
  | cons a l ih =>
    intro r h
    simp only [List.mapM_cons, Option.bind_eq_bind, Option.bind_eq_some_iff, Option.pure_def, Option.some.injEq] at h
    obtain ⟨b, hb, bs, hbs, rfl⟩ := h
    have := ih hbs
    refine ⟨by simp [this.1], fun i x hx => ?_⟩
    cases i with
    | zero => simp at hx; subst hx; exact ⟨b, by simp, hb⟩
    | succ i => simpa using this.2 i x (by simpa using hx)

section
variable {H : Type} {enc : TypeId × Value → H} {P : Program} {w : World} {spare : Nat → Bool} {held : Bool}

theorem cells?_some {a : Addr} {n : Nat} {cs : List Value} (h : w.cells? 0 a n = some cs) : cs.length = n ∧ ∀ (i : Nat), i < n → w.cell? (a.add i) = cs[i]? := by
  simp only [World.cells?, Nat.zero_le, if_true] at h
  have := mapM_some h
  refine ⟨by simpa using this.1.symm, fun i hi => ?_⟩
  obtain ⟨y, hy, h1⟩ := this.2 i i (by simp [List.getElem?_range hi])
  rw [h1, hy]

theorem spot_none {a : Addr} {v : Value} (h : w.cell? a = some v) : a.spot = none := by
  unfold World.cell? at h
  split at h
  · split at h
    · cases h
    · rename_i hs; cases hsp : a.spot <;> simp_all
  · cases h

theorem lt_of_cell {a : Addr} {v : Value} (h : w.cell? a = some v) : a.block < w.heap.size := by
  unfold World.cell? at h
  split at h
  · rename_i hb; exact (Array.getElem?_eq_some_iff.1 hb).1
  · cases h

abbrev OldS (w : World) : Nat → Prop := fun b => b < w.heap.size

theorem exists_list {Q : Nat → AV → Prop} : ∀ (n : Nat), (∀ i, i < n → ∃ x, Q i x) → ∃ xs : List AV, xs.length = n ∧ ∀ (i : Nat) x, xs[i]? = some x → Q i x
  | 0, _ => ⟨[], rfl, fun i x h => by simp at h⟩
  | n + 1, h => by
    obtain ⟨xs, h1, h2⟩ := exists_list n (fun i hi => h i (by omega))
    obtain ⟨x, hx⟩ := h n (by omega)
    refine ⟨xs ++ [x], by simp [h1], fun i y hy => ?_⟩
    by_cases hi : i < xs.length
    · rw [List.getElem?_append_left hi] at hy; exact h2 i y hy
    · rw [List.getElem?_append_right (by omega)] at hy
      have : i = n := by
        have := (List.getElem?_eq_some_iff.1 hy).1
        simp at this; omega
      subst this
      rw [h1] at hy; simp at hy; subst hy; exact hx

/-- the goal, for one type -/
def Opens (P : Program) (w : World) (t : TypeId) (cs : List Value) (sh : Sh) : Prop :=
  ∃ x, Has sh x ∧ CellsR w (OldS w) x.cells cs ∧ cs.length = P.cellsOf t ∧ ((∃ ys, x = .agg ys) ↔ isRowT P t = some true)

theorem open_fields {cs : List Value} (Q : TypeId → List Value → Prop) (hQ : ∀ t cs, Q t cs → ∀ g sh, shOf P g t = some sh → Opens P w t cs sh) : ∀ (fs : List Field) (g off n : Nat) (l : List Sh),
    (∀ f ∈ fs, Q f.type ((cs.drop f.offset).take (P.cellsOf f.type))) → shFs P g fs off = some (l, n) →
    off ≤ n ∧ ∃ ys : List AV, l.length = ys.length ∧ (∀ (i : Nat) f y, l[i]? = some f → ys[i]? = some y → Has f y) ∧ CellsR w (OldS w) (ys.flatMap AV.cells) ((cs.drop off).take (n - off)) := by
  intro fs
  induction fs with
  | nil =>
    intro g off n l _ h
    cases g with
    | zero => simp [shFs] at h
    | succ g =>
      simp only [shFs, Option.some.injEq, Prod.mk.injEq] at h
      obtain ⟨rfl, rfl⟩ := h
      exact ⟨Nat.le_refl _, [], rfl, fun i f y h => by simp at h, by simp [CellsR]⟩
  | cons f fs ih =>
    intro g off n l hf h
    cases g with
    | zero => simp [shFs] at h
    | succ g =>
      simp only [shFs] at h
      split at h
      · rename_i hoff
        split at h
        · rename_i s l' n' h1 h2
          simp only [Option.some.injEq, Prod.mk.injEq] at h
          obtain ⟨rfl, rfl⟩ := h
          obtain ⟨hle, ys, e1, e2, e3⟩ := ih g _ _ _ (fun f hf' => hf f (by simp [hf'])) h2
          obtain ⟨x, g1, g2, g3, _⟩ := hQ _ _ (hf f (by simp)) g s h1
          refine ⟨by omega, x :: ys, by simp [e1], fun i q y hq hy => ?_, ?_⟩
          · cases i with
            | zero => simp at hq hy; subst hq hy; exact g1
            | succ i => exact e2 i q y (by simpa using hq) (by simpa using hy)
          · simp only [List.flatMap_cons]
            have hsplit : (cs.drop off).take (n' - off) = (cs.drop off).take (P.cellsOf f.type) ++ (cs.drop (off + P.cellsOf f.type)).take (n' - (off + P.cellsOf f.type)) := by
              rw [show n' - off = P.cellsOf f.type + (n' - (off + P.cellsOf f.type)) by omega, List.take_add, List.drop_drop]
            rw [hsplit]
            rw [hoff] at g2
            exact g2.append e3
        · cases h
      · cases h

theorem isRow_iff {t : TypeId} {d : TypeDesc} (h : P.underlying t = some d) : isRowT P t = some true ↔ (∃ fs, d = .struct fs) ∨ (∃ n e, d = .array n e) := by
  unfold isRowT; rw [h]; cases d <;> simp

theorem open_cells : ∀ (fuel : Nat) (t : TypeId) (cs : List Value) (d : DataW H) (ps : List MemPlace) (g : Nat) (sh : Sh), DataW.trod enc P w 0 spare held fuel t cs = some (d, ps) → shOf P g t = some sh →
    Opens P w t cs sh := by
  intro fuel
  induction fuel with
  | zero => intro t cs d ps g sh h; simp [DataW.trod] at h
  | succ fuel ih =>
    intro t cs d ps g sh h hsh
    cases g with
    | zero => simp [shOf] at hsh
    | succ g =>
      simp only [shOf] at hsh
      cases hu : P.underlying t with
      | none => simp [hu] at hsh
      | some td =>
        rw [hu] at hsh
        cases td with
        | int k =>
          simp only at hsh
          split at hsh
          · rename_i h1
            simp at hsh; subst hsh
            simp only [DataW.trod, hu] at h
            split at h <;> try (cases h; done)
            all_goals try (simp_all; done)
            rename_i k1 k' n e1
            cases e1
            split at h
            · rename_i hc
              obtain ⟨rfl, hwf⟩ := hc
              exact ⟨_, .int hwf, .one (.v _), by simp [h1], by rw [isRow_iff hu]; simp⟩
            · cases h
          · cases hsh
        | bool =>
          simp only at hsh
          split at hsh
          · rename_i h1
            simp at hsh; subst hsh
            simp only [DataW.trod, hu] at h
            split at h <;> try (cases h; done)
            all_goals try (simp_all; done)
            exact ⟨_, .bool _, .one (.v _), by simp [h1], by rw [isRow_iff hu]; simp⟩
          · cases hsh
        | slice e =>
          simp only at hsh
          split at hsh
          · rename_i h1
            split at hsh
            · rename_i s hs
              simp at hsh; subst hsh
              simp only [DataW.trod, hu] at h
              split at h <;> try (cases h; done)
              all_goals try (simp_all; done)
              · exact ⟨.ro (P.cellsOf e) [], .slice (by simp) (fun i x h => by simp at h), .one .roNil, by simp [h1.1], by rw [isRow_iff hu]; simp⟩
              · rename_i e' a len cap e1
                cases e1
                split at h
                · rename_i hc
                  simp only [Option.bind_eq_some_iff, Option.map_eq_some_iff] at h
                  obtain ⟨elems, he, rest, _, _⟩ := h
                  have hm := mapM_some he
                  have hel : ∀ i, i < len → ∃ x, Has s x ∧ ∃ csi, w.cells? 0 (a.add (i * P.cellsOf e)) (P.cellsOf e) = some csi ∧ CellsR w (OldS w) x.cells csi := fun i hi => by
                    obtain ⟨y, _, hy⟩ := hm.2 i i (by simp [List.getElem?_range hi])
                    simp only [Option.bind_eq_some_iff] at hy
                    obtain ⟨csi, hcsi, hy⟩ := hy
                    obtain ⟨x, g1, g2, g3, _⟩ := ih e csi y.1 y.2 g s hy hs
                    exact ⟨x, g1, csi, hcsi, g2⟩
                  obtain ⟨xs, hxl, hxs⟩ := exists_list len hel
                  have hsz : ∀ (i : Nat) x, xs[i]? = some x → x.cells.length = P.cellsOf e ∧ allCell x.cells = true := fun i x hx => by
                    obtain ⟨hh, csi, hcsi, hR⟩ := hxs i x hx
                    exact ⟨by rw [hR.1, (cells?_some hcsi).1], hh.cells⟩
                  refine ⟨.ro (P.cellsOf e) xs, .slice (by omega) (fun i x hx => (hxs i x hx).1), .one ?_, by simp [h1.1], by rw [isRow_iff hu]; simp⟩
                  by_cases hlen : len = 0
                  · subst hlen
                    have : xs = [] := List.eq_nil_of_length_eq_zero hxl
                    subst this; exact .roNil
                  · have hx0 : xs[0]? = some xs[0] := by simp
                    obtain ⟨_, cs0, hcs0, hR0⟩ := hxs 0 _ hx0
                    have hc0 := (cells?_some hcs0).2 0 (Nat.pos_of_ne_zero h1.2)
                    have hl0 := (cells?_some hcs0).1
                    have h0 : 0 < cs0.length := by have := Nat.pos_of_ne_zero h1.2; omega
                    rw [List.getElem?_eq_getElem h0] at hc0
                    have hadd : (a.add (0 * P.cellsOf e)).add 0 = a := by simp [Addr.add]
                    rw [hadd] at hc0
                    have hsp := spot_none hc0
                    obtain ⟨b, off, spot⟩ := a
                    simp only at hsp; subst hsp
                    rw [← hxl]
                    have hcell : ∀ i j, i < len → j < P.cellsOf e → ∃ x csi, xs[i]? = some x ∧ CellsR w (OldS w) x.cells csi ∧ csi.length = P.cellsOf e ∧ w.cell? ⟨b, off + (i * P.cellsOf e + j), none⟩ = csi[j]? := fun i j hi hj => by
                      have hxi : xs[i]? = some (xs[i]'(by omega)) := by simp
                      obtain ⟨_, csi, hcsi, hR⟩ := hxs i _ hxi
                      have := (cells?_some hcsi).2 j hj
                      rw [add_none, add_none, Nat.add_assoc] at this
                      exact ⟨_, csi, hxi, hR, (cells?_some hcsi).1, this⟩
                    refine .ro (c := fun o => (w.cell? ⟨b, off + o, none⟩).getD undef) (lt_of_cell hc0) (by omega) hsz (fun o ho => ?_) (fun i x j y hx hy => ?_)
                    · have hpos := Nat.pos_of_ne_zero h1.2
                      have hi : o / P.cellsOf e < len := by rw [hxl] at ho; exact Nat.div_lt_of_lt_mul (by rw [Nat.mul_comm]; exact ho)
                      have hj : o % P.cellsOf e < P.cellsOf e := Nat.mod_lt _ hpos
                      obtain ⟨x, csi, _, _, hl, hcc⟩ := hcell _ _ hi hj
                      rw [Nat.mul_comm, Nat.div_add_mod] at hcc
                      rw [hcc, List.getElem?_eq_getElem (by omega)]; rfl
                    · have hi : i < len := by rw [← hxl]; exact (List.getElem?_eq_some_iff.1 hx).1
                      have hj : j < P.cellsOf e := by rw [← (hsz i x hx).1]; exact (List.getElem?_eq_some_iff.1 hy).1
                      obtain ⟨x', csi, hx', hR, hl, hcc⟩ := hcell i j hi hj
                      rw [hx] at hx'; cases hx'
                      rw [hcc, List.getElem?_eq_getElem (by omega), Option.getD_some]
                      exact hR.2 j y _ hy (by simp [show j < csi.length by omega])
                · cases h
            · cases hsh
          · cases hsh
        | struct fs =>
          simp only at hsh
          split at hsh
          · rename_i l n hfs
            split at hsh
            · rename_i hn
              simp at hsh; subst hsh
              simp only [DataW.trod, hu] at h
              split at h
              · rename_i hlen
                simp only [Option.map_eq_some_iff] at h
                obtain ⟨r, hr, _⟩ := h
                have hm := mapM_some hr
                obtain ⟨_, ys, e1, e2, e3⟩ := open_fields (P := P) (w := w) (cs := cs) (fun t cs => ∃ d ps, DataW.trod enc P w 0 spare held fuel t cs = some (d, ps)) (fun t cs hq g sh hh => by
                  obtain ⟨d, ps, hq⟩ := hq; exact ih t cs d ps g sh hq hh) fs.toList g 0 n l (fun f hf => by
                    obtain ⟨i, hi, rfl⟩ := List.getElem_of_mem hf
                    obtain ⟨y, _, hy⟩ := hm.2 i _ (List.getElem?_eq_getElem hi)
                    exact ⟨y.1, y.2, hy⟩) hfs
                refine ⟨.agg (ys.flatMap AV.cells), .agg e1 e2, ?_, hlen, by rw [isRow_iff hu]; simp⟩
                simp only [List.drop_zero, Nat.sub_zero] at e3
                rw [hn, ← hlen, List.take_length] at e3
                exact e3
              · cases h
            · cases hsh
          · cases hsh
        | array n e =>
          simp only at hsh
          split at hsh
          · rename_i s hs
            split at hsh
            · rename_i hn
              simp at hsh; subst hsh
              simp only [DataW.trod, hu] at h
              split at h
              · rename_i hlen
                simp only [Option.map_eq_some_iff] at h
                obtain ⟨r, hr, _⟩ := h
                have hm := mapM_some hr
                have key : ∀ q, q ≤ n → ∃ ys : List AV, ys.length = q ∧ (∀ (i : Nat) y, ys[i]? = some y → Has s y) ∧ CellsR w (OldS w) (ys.flatMap AV.cells) (cs.take (q * P.cellsOf e)) := by
                  intro q
                  induction q with
                  | zero => intro _; exact ⟨[], rfl, fun i y h => by simp at h, by simp [CellsR]⟩
                  | succ q ihq =>
                    intro hq
                    obtain ⟨ys, e1, e2, e3⟩ := ihq (by omega)
                    obtain ⟨y, _, hy⟩ := hm.2 q q (by simp [List.getElem?_range (show q < n by omega)])
                    obtain ⟨x, g1, g2, g3, _⟩ := ih e _ y.1 y.2 g s hy hs
                    refine ⟨ys ++ [x], by simp [e1], fun i z hz => ?_, ?_⟩
                    · by_cases hi : i < ys.length
                      · rw [List.getElem?_append_left hi] at hz; exact e2 i z hz
                      · rw [List.getElem?_append_right (by omega)] at hz
                        have hi0 : i - ys.length = 0 := by have := (List.getElem?_eq_some_iff.1 hz).1; simp at this; omega
                        rw [hi0] at hz; simp at hz; subst hz; exact g1
                    · rw [List.flatMap_append, Nat.add_mul, Nat.one_mul, List.take_add]
                      simp only [List.flatMap_cons, List.flatMap_nil, List.append_nil]
                      exact e3.append g2
                obtain ⟨ys, e1, e2, e3⟩ := key n (Nat.le_refl _)
                refine ⟨.agg (ys.flatMap AV.cells), .agg (by simp [e1]) (fun i f y hf hy => ?_), ?_, hlen, by rw [isRow_iff hu]; simp⟩
                · have : f = s := by
                    have := List.mem_of_getElem? hf
                    exact (List.mem_replicate.1 this).2
                  subst this; exact e2 i y hy
                · rw [hn, ← hlen, List.take_length] at e3
                  exact e3
              · cases h
            · cases hsh
          · cases hsh
        | _ => simp at hsh

theorem open_val {base : Nat} {t : TypeId} {v : Value} {d : DataW H} {ps : List MemPlace} {g : Nat} {sh : Sh} {W : World} (hv : Value.okWide P W .any base t v)
    (h : DataW.Trod enc P W 0 spare held t v d ps) (hsh : shOf P g t = some sh) : ∃ x, Has sh x ∧ R0 W (OldS W) x v := by
  obtain ⟨fuel, hf⟩ := h
  obtain ⟨x, h1, h2, h3, h4⟩ := open_cells fuel t _ d ps g sh hf hsh
  refine ⟨x, h1, ?_⟩
  unfold Value.okWide at hv
  by_cases hrow : isRowT P t = some true
  · obtain ⟨ys, rfl⟩ := h4.2 hrow
    have : ∃ cs, v = .agg cs := by
      unfold isRowT at hrow
      split at hv
      · obtain ⟨cs, rfl, _⟩ := hv; exact ⟨cs, rfl⟩
      · obtain ⟨cs, rfl, _⟩ := hv; exact ⟨cs, rfl⟩
      · cases hu : P.underlying t with
        | none => simp [hu] at hrow
        | some td => cases td <;> simp_all
    obtain ⟨cs, rfl⟩ := this
    refine .agg (by simpa [AV.cells, Value.cells] using h2.1) (fun i y c hy hc => h2.2 i y c hy (by simpa [Value.cells] using hc))
  · have hx : x.cells = [x] := by
      cases x with
      | agg ys => exact (hrow (h4.1 ⟨ys, rfl⟩)).elim
      | _ => rfl
    have hc : v.cells = #[v] := by
      cases v with
      | agg cs =>
        exfalso
        split at hv
        · rename_i hu; exact hrow ((isRow_iff hu).2 (.inl ⟨_, rfl⟩))
        · rename_i hu; exact hrow ((isRow_iff hu).2 (.inr ⟨_, _, rfl⟩))
        · unfold Cell.okWide at hv
          split at hv <;> try (simp_all; done)
          unfold Cell.ok at hv
          split at hv <;> simp_all
      | _ => rfl
    rw [hx, hc] at h2
    exact h2.2 0 x v (by simp) (by simp)
end

/-- the shapes of a function's parameters -/
def shAll (P : Program) (g : Nat) : List TypeId → Option (List Sh)
  | [] => some []
  | t :: r => match shOf P g t, shAll P g r with
    | some s, some l => some (s :: l)
    | _, _ => none

def HasAll : List Sh → List AV → Prop
  | [], xs => xs = []
  | s :: l, xs => ∃ x r, xs = x :: r ∧ Has s x ∧ HasAll l r

theorem open_all {H : Type} {enc : TypeId × Value → H} {P : Program} {W : World} {spare : Nat → Bool} {held : Bool} {base g : Nat} : ∀ (ts : List TypeId) (vs : List Value) (ds : List (DataW H)) (ps : List MemPlace) (l : List Sh),
    DataW.TrodAll enc P W 0 spare held ts vs ds ps → (∀ (j : Nat) t v, ts[j]? = some t → vs[j]? = some v → Value.okWide P W .any base t v) → shAll P g ts = some l →
    ∃ xs, HasAll l xs ∧ xs.length = vs.length ∧ ∀ (i : Nat) x y, xs[i]? = some x → vs[i]? = some y → R0 W (OldS W) x y := by
  intro ts
  induction ts with
  | nil =>
    intro vs ds ps l h hv hl
    simp [shAll] at hl; subst hl
    cases vs with
    | nil => exact ⟨[], rfl, rfl, fun i x y h => by simp at h⟩
    | cons v vs => cases ds <;> simp [DataW.TrodAll] at h
  | cons t ts ih =>
    intro vs ds ps l h hv hl
    simp only [shAll] at hl
    split at hl
    · rename_i s l' h1 h2
      simp at hl; subst hl
      obtain ⟨v, vs', d, ds', p, q, rfl, rfl, rfl, h3, h4⟩ := ChangeShapes.trodAll_cons h
      obtain ⟨xs, e1, e2, e3⟩ := ih vs' ds' q l' h4 (fun j t' v' ht hv' => hv (j + 1) t' v' (by simpa using ht) (by simpa using hv')) h2
      obtain ⟨x, g1, g2⟩ := open_val (hv 0 t v (by simp) (by simp)) h3 h1
      refine ⟨x :: xs, ⟨x, xs, rfl, g1, e1⟩, by simp [e2], fun i z y hz hy => ?_⟩
      cases i with
      | zero => simp at hz hy; subst hz hy; exact g2
      | succ i => exact e3 i z y (by simpa using hz) (by simpa using hy)
    · cases hl

/-- all arguments read as they did -/
theorem shut_all {H : Type} {enc : TypeId × Value → H} {P : Program} {W W' : World} (hl : laidOutB P = true) (hb : Below W.heap.size W W') : ∀ (ts : List TypeId) (vs : List Value) (ds : List (DataW H)) (ps : List MemPlace),
    (∀ t ∈ ts, P.readableRec t = true ∧ t < P.types.size) → DataW.TrodAll enc P W 0 (fun _ => true) true ts vs ds ps → DataW.TrodAll enc P W' 0 (fun b => decide (b < W.heap.size)) true ts vs ds ps := by
  intro ts
  induction ts with
  | nil =>
    intro vs ds ps _ h
    cases vs <;> cases ds <;> simp [DataW.TrodAll] at h ⊢
    exact h
  | cons t ts ih =>
    intro vs ds ps ht h
    obtain ⟨v, vs', d, ds', p, q, rfl, rfl, rfl, h3, h4⟩ := ChangeShapes.trodAll_cons h
    have hlt : ∀ x ∈ p, x.block < W.heap.size := by obtain ⟨m, hm⟩ := h3; exact DataW.trod_lt m _ _ _ hm
    exact ⟨p, q, RowKit.Below.trod hl (ht t (by simp)).1 (ht t (by simp)).2 h3 hb hlt, ih vs' ds' q (fun t' h' => ht t' (by simp [h'])) h4, rfl⟩

end Go.Av
