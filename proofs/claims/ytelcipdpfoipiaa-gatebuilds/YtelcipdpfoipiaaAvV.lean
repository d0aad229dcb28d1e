/- A function: from what is asked of its code to what is told of it. -/
import Derived.Test.YtelcipdpfoipiaaAvU
namespace Go.Av
open Go.RowKit (Below)

variable {P : Program} {w : World} {S : Nat → Prop} {κ : Nat → Option Loc}

/-- how a result is found -/
inductive RV where
  | t (s : Nat)
  | c (s : Nat) (n : Option Nat)

def cRV (P : Program) : ResultVar → Option RV
  | .tmp t => some (.t t)
  | .cell a T => (ldT P T).map (.c a)

def cRVs (P : Program) : List ResultVar → Option (List RV)
  | [] => some []
  | x :: r => match cRV P x, cRVs P r with
    | some x', some r' => some (x' :: r')
    | _, _ => none

def vres (t : Tmps) (m : Mem) : RV → (AV → Prop) → Prop
  | .t s, K => K (look t s)
  | .c s n, K => match look t s with
    | .ptr k off => match lookM m k with
      | some (.box cs) => ldc n cs off K
      | _ => False
    | _ => False

def vress (t : Tmps) (m : Mem) : List RV → (List AV → Prop) → Prop
  | [], K => K []
  | x :: r, K => vres t m x fun y => vress t m r fun ys => K (y :: ys)

def one : List AV → AV
  | [x] => x
  | xs => .tup xs

def argT : Nat → List AV → Tmps
  | _, [] => []
  | i, x :: r => (i, x) :: argT (i + 1) r

theorem look_argT (xs : List AV) (j i : Nat) : look (argT j xs) i = if j ≤ i then (xs[i - j]?).getD .dead else .dead := by
  induction xs generalizing j with
  | nil => simp [argT, look]
  | cons x xs ih =>
    simp only [argT]
    by_cases h : j = i
    · subst h; rw [look_cons_eq]; simp
    · rw [look_cons_ne _ _ h, ih]
      by_cases h2 : j + 1 ≤ i
      · rw [if_pos h2, if_pos (by omega), show i - j = (i - (j + 1)) + 1 by omega, List.getElem?_cons_succ]
      · rw [if_neg h2, if_neg (by omega)]

/-- what is handed back: the objects rho are the caller's from then on -/
def Told (r : AV) (rm : List MObj) (rvs : List RV) (t : Tmps) (m : Mem) : Prop :=
  vress t m rvs fun xs => ∃ rho : List Nat, Wk (frz rho m (one xs)) r ∧ rho.length = rm.length ∧ (rho.Nodup) ∧
    ∀ (i : Nat) k o, rho[i]? = some k → rm[i]? = some o → lookM m k = some o ∧ (match o with | .box _ => False | .iter _ _ => False | .lent _ _ _ _ => False | _ => True)

def resG (tmps : Array Value) : ResultVar → Sem Value
  | .tmp t => pure (tmps.getD t undef)
  | .cell a t => do loadVar t (← asAddr (tmps.getD a undef))

theorem results_eq (fn : Func) (tmps : Array Value) : results fn tmps = (do
    let vs ← fn.results.mapM (resG tmps)
    pure (if h : vs.size = 1 then vs[0] else .tuple vs)) := by
  unfold results
  congr 1

theorem vres_run {X : Ctx} {N : Nat} {F : Nat → Prop} {t : Tmps} {m : Mem} {a : Act} {x : ResultVar} {x' : RV} {G : AV → Prop} (hx : cRV P x = some x') (r : Rel X N w S κ t m F a) (h : vres t m x' G) :
    ∃ v y, (resG a.tmps x).run P w = .ok v w ∧ R w S κ y v ∧ G y := by
  cases x with
  | tmp s => simp [cRV] at hx; subst hx; exact ⟨_, _, rfl, r.tm s, h⟩
  | cell s T =>
    simp only [cRV, Option.map_eq_some_iff] at hx
    obtain ⟨c, hT, rfl⟩ := hx
    simp only [vres] at h
    have hr := r.tm s
    split at h
    · rename_i k off e
      rw [e] at hr
      obtain ⟨l, hk, hv⟩ := hr.ptr_inv
      split at h
      · rename_i cs hm
        obtain ⟨l', hk', hn, vs, T', h1, h2, h3⟩ := r.ent.mm _ _ hm
        rw [hk] at hk'; cases hk'
        obtain ⟨v, y, h4, h5, h6⟩ := loadVar_run (P := P) (w := w) (S := S) (κ := κ) (b := l.b) (off := l.base) (cs := cs) (f := fun j => (vs[l.base + j]?).getD undef) hT
          (fun j hj => by rw [cell_of h1]; rw [Array.getElem?_eq_getElem (by omega)]; rfl)
          (fun j y hj => by obtain ⟨c, hc, hR⟩ := h3 j y hj; rw [hc]; exact hR) h
        exact ⟨v, y, by simp [resG, hv, asAddr, h4], h5, h6⟩
      · exact h.elim
    · exact h.elim

theorem vress_run {X : Ctx} {N : Nat} {F : Nat → Prop} {t : Tmps} {m : Mem} {a : Act} : ∀ (l : List ResultVar) (l' : List RV) (G : List AV → Prop), cRVs P l = some l' → Rel X N w S κ t m F a → vress t m l' G →
    ∃ vs ys, (l.mapM (resG a.tmps)).run P w = .ok vs w ∧
      ys.length = vs.length ∧ (∀ (i : Nat) y v, ys[i]? = some y → vs[i]? = some v → R w S κ y v) ∧ G ys := by
  intro l
  induction l with
  | nil => intro l' G hl r h; simp [cRVs] at hl; subst hl; exact ⟨[], [], rfl, rfl, fun i y v h => by simp at h, h⟩
  | cons x l ih =>
    intro l' G hl r h
    simp only [cRVs] at hl
    split at hl
    · rename_i x' r' h1 h2
      simp at hl; subst hl
      obtain ⟨v, y, e1, e2, e3⟩ := vres_run h1 r h
      obtain ⟨vs, ys, f1, f2, f3, f4⟩ := ih r' _ h2 r e3
      refine ⟨v :: vs, y :: ys, ?_, by simp [f2], fun i z v' hz hv => ?_, f4⟩
      · rw [List.mapM_cons, Sem.run_bind, e1]
        simp only [Result.andThen_ok, Sem.run_bind, f1, Sem.run_pure]
      · cases i with
        | zero => simp at hz hv; subst hz hv; exact e2
        | succ i => exact f3 i z v' (by simpa using hz) (by simpa using hv)
    · cases hl

/-- the blocks that are only read behind the call -/
def outS (S : Nat → Prop) (κ : Nat → Option Loc) (m : Mem) (rho : List Nat) (b : Nat) : Prop :=
  S b ∨ ∃ k o l, k ∉ rho ∧ lookM m k = some o ∧ κ k = some l ∧ l.has b

def outκ (κ : Nat → Option Loc) (rho : List Nat) (i : Nat) : Option Loc := (rho[i]?).bind κ

theorem frz_R {x : AV} {v : Value} {m : Mem} {F : Nat → Prop} {rho : List Nat} (e : Ent w S κ m F) (h : R w S κ x v) : R w (outS S κ m rho) (outκ κ rho) (frz rho m x) v := by
  have hκ : ∀ {k i l}, pos rho k = some i → κ k = some l → outκ κ rho i = some l := fun {k i l} h1 h2 => by simp [outκ, pos_some h1, h2]
  induction h with
  | base h => rw [frz_R0_self h]; exact .base (h.mono (fun _ _ => rfl) (fun _ h => .inl h))
  | agg hl _ ih =>
    simp only [frz]
    refine .agg (by rw [frzL_length, hl]) (fun i x y h1 h2 => ?_)
    rw [frzL_get, Option.map_eq_some_iff] at h1
    obtain ⟨x', h1, rfl⟩ := h1
    exact ih i x' y h1 h2
  | tup hl _ ih =>
    simp only [frz]
    refine .tup (by rw [frzL_length, hl]) (fun i x y h1 h2 => ?_)
    rw [frzL_get, Option.map_eq_some_iff] at h1
    obtain ⟨x', h1, rfl⟩ := h1
    exact ih i x' y h1 h2
  | fn hl _ ih =>
    simp only [frz]
    refine .fn (by rw [frzL_length, hl]) (fun i x y h1 h2 => ?_)
    rw [frzL_get, Option.map_eq_some_iff] at h1
    obtain ⟨x', h1, rfl⟩ := h1
    exact ih i x' y h1 h2
  | elt hk hn => simp only [frz]; exact .base (.dead _)
  | ptr hk =>
    rename_i k off l
    simp only [frz]
    split
    · rename_i i hp; exact .ptr (hκ hp hk)
    · rename_i hp
      split
      · rename_i cs hm
        split
        · rename_i hkf
          obtain ⟨l', hk', hn, vs, T, h1, h2, h3⟩ := e.mm _ _ hm
          rw [hk] at hk'; cases hk'
          refine .base (.rp (c := fun j => (vs[l.base + (off + j)]?).getD undef) (.inr ⟨k, _, l, pos_none hp, hm, hk, .inl ⟨hn, rfl⟩⟩) (fun j hj => ?_) (fun j y hj => ?_))
          · rw [cell_of h1, Nat.add_assoc, Array.getElem?_eq_getElem (by simp at hj; omega)]; rfl
          · rw [List.getElem?_drop] at hj
            obtain ⟨c, hc, hR⟩ := h3 _ y hj
            rw [hc]
            exact (kf_R0 hR (kfs_get hkf hj)).mono (fun _ _ => rfl) (fun _ h => .inl h)
        · exact .base (.dead _)
      · exact .base (.dead _)
  | arrNil hk hn =>
    rename_i k l
    simp only [frz]
    split
    · rename_i i hp; exact .arrNil (hκ hp hk) hn
    · split
      · simp only [List.take_zero]; exact .base .roNil
      · rename_i sz rows _
        cases rowsOk rows
        · exact .base (.dead _)
        · simp only [cond_true, List.take_zero]; exact .base .roNil
      · exact .base (.dead _)
  | arr0 hk =>
    simp only [frz]
    split
    · rename_i i hp; exact .arr0 (hκ hp hk)
    · split
      · simp only [List.take_zero]; exact .base .roNil
      · rename_i sz rows _
        cases rowsOk rows
        · exact .base (.dead _)
        · simp only [cond_true, List.take_zero]; exact .base .roNil
      · exact .base (.dead _)
  | arr hk hn hlen hcap hu =>
    rename_i k off len cap l
    simp only [frz]
    split
    · rename_i i hp; exact .arr (hκ hp hk) hn hlen hcap hu
    · rename_i hp
      split
      · rename_i sz xs hm
        obtain ⟨l', hk', h0⟩ := e.mm _ _ hm
        rw [hk] at hk'; cases hk'
        rcases h0 with ⟨h0, _⟩ | ⟨_, rfl, h1, h1', vs, T', h2, h3, h4, h5⟩
        · rw [hn] at h0; cases h0
        · have hlen' : ((xs.drop off).take len).length = len := by simp; omega
          have hget : ∀ (i : Nat) x, ((xs.drop off).take len)[i]? = some x → i < len ∧ xs[off + i]? = some x := fun i x h => by
            have hi : i < len := by have := (List.getElem?_eq_some_iff.1 h).1; omega
            rw [List.getElem?_take_of_lt hi, List.getElem?_drop] at h
            exact ⟨hi, h⟩
          have := R0.ro (w := w) (S := outS S κ m rho) (sz := l.sz) (xs := (xs.drop off).take len) (b := l.b) (off := l.base + off * l.sz) (cap := cap)
            (c := fun q => (vs[l.base + off * l.sz + q]?).getD undef) (.inr ⟨k, _, l, pos_none hp, hm, hk, .inl ⟨hn, rfl⟩⟩) (by omega)
            (fun i x hx => h4 _ _ (hget i x hx).2)
            (fun q hq => by
              rw [hlen'] at hq
              have : (off + len) * l.sz ≤ l.cap * l.sz := Nat.mul_le_mul_right _ (by omega)
              rw [Nat.add_mul] at this
              rw [cell_of h2, Array.getElem?_eq_getElem (by omega)]; rfl)
            (fun i x j y hx hy => by
              obtain ⟨c, hc, hR⟩ := h5 _ x j y (hget i x hx).2 hy
              rw [show l.base + off * l.sz + (i * l.sz + j) = l.base + (off + i) * l.sz + j from by rw [Nat.add_mul]; omega, hc]
              exact hR.mono (fun _ _ => rfl) (fun _ h => .inl h))
          rw [hlen'] at this
          exact .base this
      · rename_i sz rows hm
        cases hok : rowsOk rows
        · exact .base (.dead _)
        · exact .base (mat_R0 (e.mm _ _ hm) hk (fun _ h => .inl h) (fun b hb => .inr ⟨k, _, l, pos_none hp, hm, hk, hb⟩) hok hlen hcap hu)
      · exact .base (.dead _)
  | mp hk hn =>
    rename_i k l
    simp only [frz]
    split
    · rename_i i hp; exact .mp (hκ hp hk) hn
    · rename_i hp
      split
      · rename_i es hm
        obtain ⟨l', hk', hn', ents, clock, h1, h2, h3, h4, h5⟩ := e.mm _ _ hm
        rw [hk] at hk'; cases hk'
        exact .base (.rm (.inr ⟨k, _, l, pos_none hp, hm, hk, .inl ⟨hn, rfl⟩⟩) h1 h2 (fun i p e hp he => (h5 i p e hp he).1) h3 h4
          (fun i p e hp he => (h5 i p e hp he).2.mono (fun _ _ => rfl) (fun _ h => .inl h)))
      · exact .base (.dead _)

/-- a function -/
theorem fn_ok {f : FuncId} {fn : Func} {c : Code} {mc : MCode} {rvs : List RV} {args : List AV} {r : AV} {rm : List MObj} (hf : P.funcs[f]? = some fn) (hb : fn.body = some c)
    (hcall : callable P f = true) (hc : cCode P fn.ntmps (topA P c) c = some mc) (hr : cRVs P fn.results.toList = some rvs) (hn : args.length ≤ fn.ntmps)
    (h : vcg P mc (fun e t m _ => match e with | .ex _ => False | _ => Told r rm rvs t m) (argT 0 args) [] 0) : CallsA P f args r rm := by
  refine ⟨hcall, fun w S vals hS hl hR => ?_⟩
  refine calls_of_wp hf hb ?_
  have hrel : Rel ⟨w, S, fun _ => False, fun _ => none⟩ fn.ntmps w S (fun _ => none) (argT 0 args) [] (0 ≤ ·) { tmps := vals ++ Array.replicate (fn.ntmps - vals.size) undef, defers := [] } := by
    refine ⟨by simp; omega, rfl, fun i => ?_, ⟨fun k o h => by simp [lookM] at h, fun k k' o o' l l' b h => by simp [lookM] at h, fun k o l b h => by simp [lookM] at h, fun k _ => ⟨rfl, rfl⟩, hS⟩,
      ⟨fun k o l b h => by simp [lookM] at h, fun b hb => .inl hb, rfl, rfl, rfl, Nat.le_refl _, fun _ _ _ => rfl, fun _ _ h => by cases h⟩⟩
    rw [look_argT, if_pos (Nat.zero_le _), Nat.sub_zero]
    by_cases hi : i < args.length
    · have hv : vals[i]? = some (vals[i]'(by omega)) := by simp
      have := hR i args[i] _ (by simp [hi]) hv
      rw [List.getElem?_eq_getElem hi, Option.getD_some]
      have e : (vals ++ Array.replicate (fn.ntmps - vals.size) undef).getD i undef = vals[i]'(by omega) := by
        rw [Array.getD_eq_getD_getElem?, Array.getElem?_append_left (by omega), hv]; rfl
      simp only [e]
      exact .base this
    · rw [List.getElem?_eq_none (by omega)]; exact .base (.dead _)
  refine wp_mono (vcg_ok c _ mc hc _ _ _ _ _ _ _ _ hrel h) (fun e a' w' hh => ?_)
  have fin : After ⟨w, S, fun _ => False, fun _ => none⟩ fn.ntmps (fun t m _ => Told r rm rvs t m) a' w' → a'.defers = [] ∧ ∃ v, (results fn a'.tmps).run P w' = .ok v w' ∧
      ∃ v' S' κ', Ending.returned v = .returned v' ∧ R w' S' κ' r v' ∧ Ent w' S' κ' (memOf rm) (rm.length ≤ ·) ∧ (∀ b, S' b → S b ∨ w.heap.size ≤ b) ∧
        (∀ k o l b, lookM (memOf rm) k = some o → κ' k = some l → l.has b → w.heap.size ≤ b) ∧ Below w.heap.size w w' := by
    rintro ⟨t, m, n, S1, κ1, hT, r1⟩
    obtain ⟨vs, ys, g1, g2, g3, rho, hfr, hrl, hnd, hob⟩ := vress_run fn.results.toList rvs _ hr r1 hT
    refine ⟨r1.defers, ?_⟩
    have hrun : ∃ v, (results fn a'.tmps).run P w' = .ok v w' ∧ R w' S1 κ1 (one ys) v := by
      rw [results_eq, Sem.run_bind, Array.mapM_eq_mapM_toList]
      simp only [Sem.run_map, g1, Result.andThen_ok, Sem.run_pure]
      by_cases h1 : vs.length = 1
      · match vs, ys, h1, g2 with
        | [v], [y], _, _ =>
          refine ⟨v, by simp, ?_⟩
          exact g3 0 y v (by simp) (by simp)
      · refine ⟨.tuple vs.toArray, by simp [h1], ?_⟩
        have : one ys = .tup ys := by
          match ys, g2 with
          | [], _ => rfl
          | [y], g2 => simp at g2; omega
          | _ :: _ :: _, _ => rfl
        rw [this]
        exact .tup (by simpa using g2) (fun i x y h1 h2 => g3 i x y h1 (by simpa using h2))
    obtain ⟨v, hv, hRv⟩ := hrun
    refine ⟨v, hv, v, outS S1 κ1 m rho, outκ κ1 rho, rfl, Wk_R (frz_R r1.ent hRv) hfr, ⟨?_, ?_, ?_, ?_, ?_⟩, ?_, ?_, ?_⟩
    · intro i o hi
      rw [lookM_memOf] at hi
      have hil : i < rho.length := by rw [hrl]; exact (List.getElem?_eq_some_iff.1 hi).1
      have hk : rho[i]? = some rho[i] := by simp [hil]
      obtain ⟨hm, hnb⟩ := hob i _ o hk hi
      have hκ : outκ κ1 rho i = κ1 rho[i] := by simp [outκ, hil]
      cases o with
      | box => exact hnb.elim
      | iter => exact hnb.elim
      | lent => exact hnb.elim
      | arr sz xs =>
        obtain ⟨l, h1, h2⟩ := r1.ent.mm _ _ hm
        refine ⟨l, hκ.trans h1, ?_⟩
        rcases h2 with h2 | ⟨q1, q2, q3, q4, vs', T, q5, q6, q7, q8⟩
        · exact .inl h2
        · refine .inr ⟨q1, q2, q3, q4, vs', T, q5, q6, q7, fun i x j y hx hy => ?_⟩
          obtain ⟨c, hc, hr⟩ := q8 i x j y hx hy
          exact ⟨c, hc, hr.mono (fun _ _ => rfl) (fun _ h => .inl h)⟩
      | mat sz rows =>
        obtain ⟨l, hk, hn, h1, h2, h3, h4, h5, vs, T, h6, h7, h8⟩ := r1.ent.mm _ _ hm
        refine ⟨l, hκ.trans hk, hn, h1, h2, h3, h4, h5, vs, T, h6, h7, fun i r hr => ?_⟩
        obtain ⟨c, hc, hR⟩ := h8 i r hr
        exact ⟨c, hc, hR.mono (fun _ _ => rfl) (fun _ h => .inl h) (fun _ _ => rfl)⟩
      | map es =>
        obtain ⟨l, h1, hn1, ents, clock, q1, q2, q3, q4, q5⟩ := r1.ent.mm _ _ hm
        exact ⟨l, hκ.trans h1, hn1, ents, clock, q1, q2, q3, q4, fun i p e hp he => ⟨(q5 i p e hp he).1, (q5 i p e hp he).2.mono (fun _ _ => rfl) (fun _ h => .inl h)⟩⟩
    · intro i j o o' l l' b hi hj hli hlj n1 n2
      rw [lookM_memOf] at hi hj
      have hil : i < rho.length := by rw [hrl]; exact (List.getElem?_eq_some_iff.1 hi).1
      have hjl : j < rho.length := by rw [hrl]; exact (List.getElem?_eq_some_iff.1 hj).1
      have hki : rho[i]? = some rho[i] := by simp [hil]
      have hkj : rho[j]? = some rho[j] := by simp [hjl]
      have e1 : κ1 rho[i] = some l := by simpa [outκ, hil] using hli
      have e2 : κ1 rho[j] = some l' := by simpa [outκ, hjl] using hlj
      have := r1.ent.inj _ _ _ _ l l' b (hob i _ o hki hi).1 (hob j _ o' hkj hj).1 e1 e2 n1 n2
      exact (List.getElem_inj hnd).1 this
    · intro i o l b hi hli hn1
      rw [lookM_memOf] at hi
      have hil : i < rho.length := by rw [hrl]; exact (List.getElem?_eq_some_iff.1 hi).1
      have hki : rho[i]? = some rho[i] := by simp [hil]
      have e1 : κ1 rho[i] = some l := by simpa [outκ, hil] using hli
      have hm := (hob i _ o hki hi).1
      have ho := r1.ent.own _ _ l b hm e1 hn1
      refine ⟨fun hS => ?_, ho.2⟩
      rcases hS with hS | ⟨k2, o2, l2, q1, q2, q3, q4⟩
      · exact ho.1 hS
      · have := r1.ent.inj k2 _ o2 o l2 l b q2 hm q3 e1 q4 hn1
        exact q1 (this ▸ List.getElem_mem hil)
    · intro k hk
      have hk' : rm.length ≤ k := hk
      refine ⟨by rw [lookM_memOf]; exact List.getElem?_eq_none hk', ?_⟩
      simp [outκ, List.getElem?_eq_none (show rho.length ≤ k by omega)]
    · refine r1.ent.sb.mono (fun _ _ => rfl) (fun _ h => .inl h) (fun b hS => ?_)
      rcases hS with hS | ⟨k2, o2, l2, q1, q2, q3, q4⟩
      · exact r1.ent.sb.lt b hS
      · exact (r1.ent.own k2 o2 l2 b q2 q3 q4).2
    · intro b hS
      rcases hS with hS | ⟨k2, o2, l2, q1, q2, q3, q4⟩
      · rcases r1.since.s0 b hS with h | h | h
        · exact .inl h
        · exact .inr h
        · exact h.elim
      · rcases r1.since.own k2 o2 l2 b q2 q3 q4 with h | h
        · exact .inr h
        · exact h.elim
    · intro i o l b hi hli hn1
      rw [lookM_memOf] at hi
      have hil : i < rho.length := by rw [hrl]; exact (List.getElem?_eq_some_iff.1 hi).1
      have hki : rho[i]? = some rho[i] := by simp [hil]
      have e1 : κ1 rho[i] = some l := by simpa [outκ, hil] using hli
      rcases r1.since.own _ _ l b (hob i _ o hki hi).1 e1 hn1 with h | h
      · exact h
      · exact h.elim
    · exact ⟨r1.since.os, r1.since.tape, r1.since.output, r1.since.ge, fun k hk => r1.since.keep k hk (fun h => h)⟩
  cases e with
  | normal => exact fin hh
  | ret => exact fin hh
  | exit id =>
    obtain ⟨t, m, n, S1, κ1, hT, r1⟩ := hh
    exact hT.elim
  | _ => exact hh.elim

end Go.Av
