/- Calls that are lent objects. -/
import Derived.Test.YtelcipdpfoipiaaAvW
namespace Go.Av
open Go.RowKit (Below)

variable {P : Program} {w w' : World} {S S' : Nat → Prop} {κ κ' : Nat → Option Loc} {m : Mem} {n N : Nat} {F : Nat → Prop} {t : Tmps} {a : Act} {X : Ctx}

def rangeF : Nat → Nat → List Nat
  | _, 0 => []
  | i, n + 1 => i :: rangeF (i + 1) n

theorem rangeF_length (i n : Nat) : (rangeF i n).length = n := by
  induction n generalizing i with
  | zero => rfl
  | succ n ih => simp [rangeF, ih]
theorem rangeF_get (i n k : Nat) (h : k < n) : (rangeF i n)[k]? = some (i + k) := by
  induction n generalizing i k with
  | zero => omega
  | succ n ih =>
    cases k with
    | zero => simp [rangeF]
    | succ k => simp only [rangeF, List.getElem?_cons_succ]; rw [ih _ _ (by omega)]; congr 1; omega

def outOk (rho : List Nat) (m : Mem) : List Nat → List (Option MObj) → Prop
  | [], os => os = []
  | k :: ks, os => match os with
    | [] => False
    | none :: os => outOk rho m ks os
    | some o :: os => (match lookM m k with
      | some o' => WkO (frzO rho m o') o
      | none => False) ∧ outOk rho m ks os

theorem outOk_get {rho : List Nat} {m : Mem} : ∀ {ks : List Nat} {os : List (Option MObj)}, outOk rho m ks os → ks.length = os.length ∧
    ∀ (i : Nat) o, os[i]? = some (some o) → ∃ k o', ks[i]? = some k ∧ lookM m k = some o' ∧ WkO (frzO rho m o') o := by
  intro ks
  induction ks with
  | nil => intro os h; simp only [outOk] at h; subst h; simp
  | cons k ks ih =>
    intro os h
    cases os with
    | nil => simp [outOk] at h
    | cons o os =>
      cases o with
      | none =>
        simp only [outOk] at h
        obtain ⟨h1, h2⟩ := ih h
        refine ⟨by simp [h1], fun i o hi => ?_⟩
        cases i with
        | zero => simp at hi
        | succ i => simpa using h2 i o (by simpa using hi)
      | some o0 =>
        simp only [outOk] at h
        obtain ⟨h1, h2⟩ := ih h.2
        refine ⟨by simp [h1], fun i o hi => ?_⟩
        cases i with
        | zero =>
          simp at hi; subst hi
          have h3 := h.1
          split at h3
          · rename_i o' ho'; exact ⟨k, o', by simp, ho', h3⟩
          · exact h3.elim
        | succ i => simpa using h2 i o (by simpa using hi)

/-- what is handed back -/
def ToldM (r : AV) (n0 : Nat) (m1 : List (Option MObj)) (rvs : List RV) (t : Tmps) (m : Mem) : Prop :=
  vress t m rvs fun xs => ∃ nw : List Nat, Wk (frz (rangeF 0 n0 ++ nw) m (one xs)) r ∧ (rangeF 0 n0 ++ nw).Nodup ∧ outOk (rangeF 0 n0 ++ nw) m (rangeF 0 n0 ++ nw) m1

def EndsM (r : AV) (n0 : Nat) (m1 : List (Option MObj)) (rvs : List RV) : WP := fun e t m _ => match e with
  | .ex _ => False
  | _ => ToldM r n0 m1 rvs t m

theorem fnM_of {f : FuncId} {mc : MCode} {rvs : List RV} {N : Nat} {args : List AV} {m0 : List MObj} {r : AV} {m1 : List (Option MObj)} (h : compiled P f = some (mc, rvs, N)) (hn : args.length ≤ N)
    (hlen : m0.length ≤ m1.length) (hv : vcg P mc (EndsM r m0.length m1 rvs) (argT 0 args) (memOf m0) m0.length) : CallsM P f args m0 r m1 := by
  unfold compiled at h
  split at h
  · rename_i fn hf
    split at h
    · rename_i c hb
      split at h
      · rename_i mc' rvs' hc hr hcall
        simp only [Option.some.injEq, Prod.mk.injEq] at h
        obtain ⟨rfl, rfl, rfl⟩ := h
        refine ⟨hcall, hlen, fun w S κ0 vals hent hl hR => ?_⟩
        refine calls_of_wp hf hb ?_
        have hlive : ∀ k, k < m0.length → ∃ l, κ0 k = some l := fun k hk => (hent.mm k m0[k] (by rw [lookM_memOf]; simp [hk])).has
        have hrel : Rel ⟨w, S, lentB κ0 m0.length, κ0⟩ fn.ntmps w S κ0 (argT 0 args) (memOf m0) (m0.length ≤ ·) { tmps := vals ++ Array.replicate (fn.ntmps - vals.size) undef, defers := [] } := by
          refine ⟨by simp; omega, rfl, fun i => ?_, hent, ⟨fun k o l b h hk hn => ?_, fun b hb => .inl hb, rfl, rfl, rfl, Nat.le_refl _, fun _ _ _ => rfl, fun _ l h => ⟨l, h, Loc.same_refl l⟩⟩⟩
          · rw [look_argT, if_pos (Nat.zero_le _), Nat.sub_zero]
            by_cases hi : i < args.length
            · have hv : vals[i]? = some (vals[i]'(by omega)) := by simp
              have := hR i args[i] _ (by simp [hi]) hv
              rw [List.getElem?_eq_getElem hi, Option.getD_some]
              have e : (vals ++ Array.replicate (fn.ntmps - vals.size) undef).getD i undef = vals[i]'(by omega) := by
                rw [Array.getD_eq_getD_getElem?, Array.getElem?_append_left (by omega), hv]; rfl
              simp only [e]
              exact this
            · rw [List.getElem?_eq_none (by omega)]; exact .base (.dead _)
          · rw [lookM_memOf] at h
            exact .inr ⟨k, l, (List.getElem?_eq_some_iff.1 h).1, hk, hn⟩
        refine wp_mono (vcg_ok c _ mc' hc _ _ _ _ _ _ _ _ hrel hv) (fun e a' w' hh => ?_)
        have fin : After ⟨w, S, lentB κ0 m0.length, κ0⟩ fn.ntmps (fun t m _ => ToldM r m0.length m1 rvs' t m) a' w' → a'.defers = [] ∧ ∃ v, (results fn a'.tmps).run P w' = .ok v w' ∧
            ∃ v' S' κ', Ending.returned v = .returned v' ∧ R w' S' κ' r v' ∧ Ent w' S' κ' (memO 0 m1) (m1.length ≤ ·) ∧ (∀ i l, i < m0.length → κ0 i = some l → ∃ l', κ' i = some l' ∧ l'.same l) ∧
              (∀ b, S' b → S b ∨ w.heap.size ≤ b ∨ lentB κ0 m0.length b) ∧
              (∀ k o l b, lookM (memO 0 m1) k = some o → κ' k = some l → l.has b → w.heap.size ≤ b ∨ lentB κ0 m0.length b) ∧ Kept (lentB κ0 m0.length) w w' := by
          rintro ⟨t, m, n, S1, κ1, hT, r1⟩
          obtain ⟨vs, ys, g1, g2, g3, nw, hfr, hnd, hob⟩ := vress_run fn.results.toList rvs' _ hr r1 hT
          refine ⟨r1.defers, ?_⟩
          have hrun : ∃ v, (results fn a'.tmps).run P w' = .ok v w' ∧ R w' S1 κ1 (one ys) v := by
            rw [results_eq, Sem.run_bind, Array.mapM_eq_mapM_toList]
            simp only [Sem.run_map, g1, Result.andThen_ok, Sem.run_pure]
            by_cases h1 : vs.length = 1
            · match vs, ys, h1, g2 with
              | [v], [y], _, _ =>
                refine ⟨v, by simp, ?_⟩
                exact g3 0 y v (by simp) (by simp)
            · refine ⟨.tuple vs.toArray, by simp [h1], ?_⟩
              have : one ys = .tup ys := by
                match ys, g2 with
                | [], _ => rfl
                | [y], g2 => simp at g2; omega
                | _ :: _ :: _, _ => rfl
              rw [this]
              exact .tup (by simpa using g2) (fun i x y h1 h2 => g3 i x y h1 (by simpa using h2))
          obtain ⟨v, hv, hRv⟩ := hrun
          obtain ⟨rho, hrho⟩ : ∃ rho, rho = rangeF 0 m0.length ++ nw := ⟨_, rfl⟩
          rw [← hrho] at hfr hnd hob
          obtain ⟨hrl, hget⟩ := outOk_get hob
          have hold : ∀ i, i < m0.length → rho[i]? = some i := fun i hi => by
            rw [hrho, List.getElem?_append_left (by rw [rangeF_length]; exact hi), rangeF_get _ _ _ hi]; simp
          have hobj : ∀ i o, lookM (memO 0 m1) i = some o → ∃ k o', rho[i]? = some k ∧ lookM m k = some o' ∧ WkO (frzO rho m o') o := fun i o hi => hget i o (lookM_memO0.1 hi)
          have hk1 : ∀ i k, rho[i]? = some k → outκ κ1 rho i = κ1 k := fun i k h => by simp [outκ, h]
          refine ⟨v, hv, v, outS S1 κ1 m rho, outκ κ1 rho, rfl, Wk_R (frz_R r1.ent hRv) hfr, ⟨?_, ?_, ?_, ?_, ?_⟩, ?_, ?_, ?_, ?_⟩
          · intro i o hi
            obtain ⟨k, o', e1, e2, e3⟩ := hobj i o hi
            exact WkO_ObjR (ObjR.frz (r1.ent.mm k o' e2) (fun _ h => .inl h) (hk1 i k e1) (fun cs _ y _ c hr => frz_R r1.ent hr)) e3
          · intro i j o o' l l' b hi hj hli hlj n1 n2
            obtain ⟨k, p, e1, e2, _⟩ := hobj i o hi
            obtain ⟨k', p', e1', e2', _⟩ := hobj j o' hj
            rw [hk1 i k e1] at hli
            rw [hk1 j k' e1'] at hlj
            have := r1.ent.inj _ _ _ _ l l' b e2 e2' hli hlj n1 n2
            subst this
            obtain ⟨hi', hik⟩ := List.getElem?_eq_some_iff.1 e1
            obtain ⟨hj', hjk⟩ := List.getElem?_eq_some_iff.1 e1'
            exact (List.getElem_inj hnd).1 (hik.trans hjk.symm)
          · intro i o l b hi hli hn1
            obtain ⟨k, p, e1, e2, _⟩ := hobj i o hi
            rw [hk1 i k e1] at hli
            have ho := r1.ent.own _ _ l b e2 hli hn1
            refine ⟨fun hS => ?_, ho.2⟩
            rcases hS with hS | ⟨k2, o2, l2, q1, q2, q3, q4⟩
            · exact ho.1 hS
            · have := r1.ent.inj k2 _ o2 p l2 l b q2 e2 q3 hli q4 hn1
              exact q1 (this ▸ List.mem_of_getElem? e1)
          · intro k hk
            have hk' : m1.length ≤ k := hk
            refine ⟨?_, by simp [outκ, List.getElem?_eq_none (show rho.length ≤ k by omega)]⟩
            rw [lookM_memO, if_neg (by omega)]
          · refine r1.ent.sb.mono (fun _ _ => rfl) (fun _ h => .inl h) (fun b hS => ?_)
            rcases hS with hS | ⟨k2, o2, l2, q1, q2, q3, q4⟩
            · exact r1.ent.sb.lt b hS
            · exact (r1.ent.own k2 o2 l2 b q2 q3 q4).2
          · intro i l hi hl
            rw [hk1 i i (hold i hi)]
            exact r1.since.kp i l hl
          · intro b hS
            rcases hS with hS | ⟨k2, o2, l2, q1, q2, q3, q4⟩
            · exact r1.since.s0 b hS
            · exact .inr (r1.since.own k2 o2 l2 b q2 q3 q4)
          · intro i o l b hi hli hn1
            obtain ⟨k, p, e1, e2, _⟩ := hobj i o hi
            rw [hk1 i k e1] at hli
            exact r1.since.own k p l b e2 hli hn1
          · exact ⟨r1.since.os, r1.since.tape, r1.since.output, r1.since.ge, r1.since.keep⟩
        cases e with
        | normal => exact fin hh
        | ret => exact fin hh
        | exit id =>
          obtain ⟨t, m, n, S1, κ1, hT, r1⟩ := hh
          exact hT.elim
        | _ => exact hh.elim
      · cases h
    · cases h
  · cases h

end Go.Av
