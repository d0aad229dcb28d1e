/- Regions that draw their order: the theorem. -/
import Derived.Test.YtelcipdpfoipiaaAvO
namespace Go.Av
open Go.RowKit (Below)

variable {P : Program} {w w' : World} {S S' Sc : Nat → Prop} {κ κ' : Nat → Option Loc} {m m' : Mem} {n N : Nat} {F : Nat → Prop} {t t' : Tmps} {a : Act} {X : Ctx}
  {Q : Exit → Act → World → Prop} {K : AV → Mem → Prop}

/-- more is only read: new blocks -/
theorem Rel.more (r : Rel X N w S κ t m F a) (hb : Below w.heap.size w w') (h1 : ∀ b, S b → S' b) (h2 : ∀ b, S' b → S b ∨ w.heap.size ≤ b) (h3 : ∀ b, S' b → b < w'.heap.size) : Rel X N w' S' κ t m F a := by
  have r' := r.below hb
  refine ⟨r'.size, r'.defers, fun i => (r'.tm i).mono (fun _ _ => rfl) h1 (fun _ _ h => h), ⟨fun k o h => (r'.ent.mm k o h).mono (fun _ _ => rfl) h1 (fun _ _ h => h) (fun _ _ _ _ => rfl), r'.ent.inj, fun k o l b e1 e2 e3 => ?_, r'.ent.fresh, r'.ent.sb.mono (fun _ _ => rfl) h1 h3⟩,
    r'.since.own, fun b hb' => ?_, r'.since.os, r'.since.tape, r'.since.output, r'.since.ge, r'.since.keep, r'.since.kp⟩
  · have := r.ent.own k o l b e1 e2 e3
    exact ⟨fun hS => (h2 _ hS).elim this.1 (fun h => by omega), (r'.ent.own k o l b e1 e2 e3).2⟩
  · exact (h2 b hb').elim (r.since.s0 b) (fun h => .inr (.inl (Nat.le_trans r.since.ge h)))

theorem R.noKeys {x : AV} {v : Value} (h : R w S κ x v) (hκ : ∀ k, κ k = none) : R0 w S x v := by
  induction h with
  | base h => exact h
  | agg hl _ ih => exact .agg hl ih
  | tup hl _ ih => exact .tup hl ih
  | fn hl _ ih => exact .fn hl ih
  | ptr hk => rw [hκ] at hk; cases hk
  | elt hk => rw [hκ] at hk; cases hk
  | arrNil hk => rw [hκ] at hk; cases hk
  | arr hk => rw [hκ] at hk; cases hk
  | arr0 hk => rw [hκ] at hk; cases hk
  | mp hk => rw [hκ] at hk; cases hk

theorem somes_get (rho : List Nat) (i : Nat) : (somes rho)[i]? = (rho[i]?).map some := by
  induction rho generalizing i with
  | nil => simp [somes]
  | cons k rho ih => cases i <;> simp [somes, ih]
theorem somes_lentK (rho : List Nat) : lentK (somes rho) = rho := by
  induction rho with
  | nil => rfl
  | cons k rho ih => simp [somes, lentK, ih]
theorem somes_zs (rho : List Nat) (i : Nat) : zs i (somes rho) = [] := by
  induction rho generalizing i with
  | nil => rfl
  | cons k rho ih => simp [somes, zs, ih]
theorem boxK_shut {rho l : List Nat} (h : (l.all fun k => shutO rho (lookM m k)) = true) : ∀ q ∈ boxK m (somes l), q ∈ rho := by
  induction l with
  | nil => intro q hq; simp [somes, boxK] at hq
  | cons k l ih =>
    simp only [List.all_cons, Bool.and_eq_true] at h
    intro q hq
    simp only [somes, boxK, List.mem_append] at hq
    rcases hq with hq | hq
    · split at hq
      · rename_i cs hk
        rw [hk] at h
        simp only [shutO, List.all_eq_true] at h
        have := h.1 q hq
        rw [List.contains_eq_mem] at this
        simpa using this
      · simp at hq
    · exact ih h.2 q hq
theorem notIn_nil {ks l : List Nat} (h : ∀ k ∈ l, pos ks k ≠ none) : notIn ks l = [] := by
  induction l with
  | nil => rfl
  | cons k l ih => simp only [notIn]; rw [if_neg (h k (by simp))]; exact ih (fun q hq => h q (by simp [hq]))

theorem callX_run {f : FuncId} {args : List AV} {vals : Array Value} {x : AV} {u : Mem} {rho : List Nat} (hF : F n) (h : CallXr P f args m n rho (Ex x u)) (r : Rel X N w S κ t m F a) (hl : args.length = vals.size)
    (hR : ∀ (i : Nat) x y, args[i]? = some x → vals[i]? = some y → R w S κ x y) :
    Calls P f vals w fun e w' => ∃ v S' κ', e = .returned v ∧ R w' S' κ' x v ∧ Rel X N w' S' κ' t (u ++ m) (fun k => F k ∧ k ≠ n) a := by
  obtain ⟨args', m0, r0, gv, rm, fl, ⟨h1, hgl⟩, h2, h3, h4, h5, h6, h7, h8, h9, h10, rfl, rfl⟩ := h
  have hall : ∀ k ∈ kysL args, pos rho k ≠ none := fun k hk => by
    have := (List.all_eq_true.1 h7) k hk
    rw [List.contains_eq_mem] at this
    exact pos_of_mem (by simpa using this)
  have hnot : notIn rho (kysL args ++ boxK m (somes rho)) = [] := notIn_nil fun k hk => by
    rcases List.mem_append.1 hk with hk | hk
    · exact hall k hk
    · exact pos_of_mem (boxK_shut h5 k hk)
  have hlive : ∀ k ∈ rho, ¬ F k := fun k hk hFk => by
    have := (List.all_eq_true.1 h5) k hk
    rw [(r.ent.fresh k hFk).1] at this; simp [shutO] at this
  have nl : ∀ i : Nat, (∀ k, (somes rho)[i]? ≠ some (some k)) → rho.length ≤ i := fun i hi => by
    apply Nat.le_of_not_lt; intro hh
    exact hi rho[i] (by rw [somes_get]; simp [hh])
  have gn : ∀ i, rho.length ≤ i → gx n rho i = n := fun i hi => by simp [gx, List.getElem?_eq_none hi]
  have := lend_core (F' := fun k => F k ∧ k ≠ n) (somes rho) rho (gx n rho) h1 r (fun i => by rw [somes_get]; cases rho[i]? <;> simp) (by rw [somes_zs]; exact h2) (by rw [somes_lentK]; exact h3) (by rw [somes_zs]; exact h4)
    (fun i k hi => by
      rw [somes_get, Option.map_eq_some_iff] at hi
      obtain ⟨k', hk', e⟩ := hi
      cases e; simp [gx, hk'])
    (fun i _ hi => by rw [gn i (nl i hi)]; exact hF)
    (fun i j hi hj hi' hj' _ => by
      have a1 := nl i hi'
      have a2 := nl j hj'
      simp only [List.length_append, hgl] at hi hj
      omega)
    (fun k hk => ⟨hk.1, fun i _ hgi => by
      by_cases hir : i < rho.length
      · have : k = rho[i] := by rw [← hgi]; simp [gx, hir]
        exact hlive k (this ▸ List.getElem_mem hir) hk.1
      · rw [gn i (by omega)] at hgi; exact hk.2 hgi.symm⟩) hl hR
  refine this.mono ?_
  rintro e w' ⟨v, S2, κ2, rfl, q1, q2⟩
  rw [hnot] at q2
  exact ⟨v, S2, κ2, rfl, q1, q2.congr (fun _ => rfl) (fun k => by simp only [filtM_look h10]; rfl)⟩

theorem callD_run {f : FuncId} {args : List AV} {vals : Array Value} {x : AV} {u : Mem} (hF : F n) (h : CallD P f args m n (Ex x u)) (r : Rel X N w S κ t m F a) (hl : args.length = vals.size)
    (hR : ∀ (i : Nat) x y, args[i]? = some x → vals[i]? = some y → R w S κ x y) :
    Calls P f vals w fun e w' => ∃ v S' κ', e = .returned v ∧ R w' S' κ' x v ∧ Rel X N w' S' κ' t (u ++ m) (fun k => F k ∧ k ≠ n) a := by
  rcases h with ⟨r0, h1, h2, _, rfl, rfl⟩ | h
  · have hargs : ∀ (i : Nat) x y, (frzL [] m args)[i]? = some x → vals[i]? = some y → R0 w (fun b => S b ∨ blocksOf m κ (kysL args) b) x y := fun i x y g1 g2 => by
      rw [frzL_get, Option.map_eq_some_iff] at g1
      obtain ⟨x', g1, rfl⟩ := g1
      exact frz_R0 r.ent (hR i x' y g1 g2) (fun k hk => kysL_mem g1 hk)
    refine (h1.2 w _ vals (r.ent.sb.mono (fun _ _ => rfl) (fun _ h => .inl h) (fun b hb => ?_)) (by rw [frzL_length, hl]) hargs).mono ?_
    · rcases hb with hb | ⟨k, o, l, _, h1, h2, h3⟩
      · exact r.ent.sb.lt b hb
      · exact (r.ent.own k o l b h1 h2 h3).2
    · rintro e w' ⟨v, S', κ', rfl, hv, hent, hS', _, hb⟩
      have hv0 : R0 w' S' r0 v := hv.noKeys (fun k => (hent.fresh k (Nat.zero_le _)).2)
      rcases h2 with h2 | h2
      · exact ⟨v, S, κ, rfl, .base (flat_R hv h2), (r.below hb).free fun _ h => h.1⟩
      · refine ⟨v, fun b => S b ∨ S' b, κ, rfl, .base (hv0.mono (fun _ _ => rfl) (fun _ h => .inr h)), (r.more hb (fun _ h => .inl h) (fun b hb' => ?_) (fun b hb' => ?_)).free fun _ h => h.1⟩
        · rcases hb' with hb' | hb'
          · exact .inl hb'
          · rcases hS' b hb' with (h | ⟨k, _, _, hk, _⟩) | h
            · exact .inl h
            · rw [h2] at hk; simp at hk
            · exact .inr h
        · rcases hb' with hb' | hb'
          · exact Nat.lt_of_lt_of_le (r.ent.sb.lt b hb') hb.size
          · exact hent.sb.lt b hb'
  · exact callX_run hF h r hl hR

theorem CallD_callable {f : FuncId} {args : List AV} (h : CallD P f args m n K) : callable P f = true := by
  rcases h with ⟨r, h1, _⟩ | ⟨args', m0, r, gv, rm, _, ⟨h1, _⟩, _⟩
  · exact h1.1
  · exact h1.1

theorem CallX_callable {f : FuncId} {args : List AV} (h : CallX P f args m n K) : callable P f = true := by
  rcases h with h | ⟨rho, args', m0, r, gv, rm, _, ⟨h1, _⟩, _⟩
  · exact CallD_callable h
  · exact h1.1

theorem callXX_run {f : FuncId} {args : List AV} {vals : Array Value} {x : AV} {u : Mem} (hF : F n) (h : CallX P f args m n (Ex x u)) (r : Rel X N w S κ t m F a) (hl : args.length = vals.size)
    (hR : ∀ (i : Nat) x y, args[i]? = some x → vals[i]? = some y → R w S κ x y) :
    Calls P f vals w fun e w' => ∃ v S' κ', e = .returned v ∧ R w' S' κ' x v ∧ Rel X N w' S' κ' t (u ++ m) (fun k => F k ∧ k ≠ n) a := by
  rcases h with h | ⟨rho, h⟩
  · exact callD_run hF h r hl hR
  · exact callX_run hF h r hl hR

def AfterD (X : Ctx) (N : Nat) (t : Tmps) (m : Mem) (F : Nat → Prop) (n : Nat) (d : Option Nat) (x : AV) (u : Mem) (a : Act) (w : World) : Prop :=
  ∃ S κ, Rel X N w S κ (putT d x t) (u ++ m) (fun k => F k ∧ k ≠ n) a

theorem runD_ok {o : Oper} {op : MOp} {ops : Array Oper} {x : AV} {u : Mem} (hc : cOp' P ops o = some op) (hd : ∀ d, o.dst = some d → d < N) (r : Rel X N w S κ t m F a) (hF : F n)
    (h : vrunD P op t m n (Ex x u)) : o.wp P a w (AfterD X N t m F n o.dst x u) Q := by
  unfold cOp' at hc
  split at hc
  · rename_i op' hcall
    simp at hc; subst hc
    unfold cCall at hcall
    split at hcall
    · rename_i f args _ ho
      simp only [Option.map_eq_some_iff] at hcall
      obtain ⟨xs, h1, rfl⟩ := hcall
      have hev := evs_ok h1 r
      refine wp_enter (f := f) (vals := args.map a.eval) ?_ ((callD_run hF h r (by simpa using hev.1) (fun i x y g1 g2 => hev.2 i x y g1 ?_)).mono ?_)
      · simp [execOp, ho, resolve, Act.eval, Deferred.ofValue, invoke, callFunc_run (CallD_callable h)]
      · simpa [List.getElem?_map, Array.getElem?_map] using g2
      · rintro e w' ⟨v, S', κ', rfl, h2, h3⟩
        exact ⟨v, rfl, S', κ', h3.put h2 hd⟩
    · rename_i g args _ ho
      simp only [Option.map_eq_some_iff] at hcall
      obtain ⟨xs, h1, rfl⟩ := hcall
      have hev := evs_ok h1 r
      have hg := ev_ok (x := .tmp g) (x' := .t g) rfl r
      simp only [vrunD] at h
      split at h
      · rename_i f caps e1
        rw [e1] at hg
        obtain ⟨vs, hv, hl, g2⟩ := hg.fn_inv
        refine wp_enter (f := f) (vals := args.map a.eval ++ vs) ?_ ((callD_run hF h r (by simp [hl, hev.1]) (fun i x y q1 q3 => ?_)).mono ?_)
        · simp only [execOp, ho, resolve]
          rw [show (a.eval (Operand.tmp g)) = _ from hv]
          simp [Deferred.ofValue, invoke, callFunc_run (CallD_callable h)]
        · by_cases hi : i < (evs t xs).length
          · rw [List.getElem?_append_left hi] at q1
            rw [Array.getElem?_append_left (by simpa [hev.1] using hi)] at q3
            exact hev.2 i x y q1 (by simpa [List.getElem?_map, Array.getElem?_map] using q3)
          · rw [List.getElem?_append_right (by omega)] at q1
            rw [Array.getElem?_append_right (by simp [hev.1] at hi ⊢; omega)] at q3
            exact g2 _ x y q1 (by simpa [hev.1] using q3)
        · rintro e w' ⟨v, S', κ', rfl, h2, h3⟩
          exact ⟨v, rfl, S', κ', h3.put h2 hd⟩
      · exact h.elim
    · cases hcall
  · split at hc
    · rename_i op' hop
      split at hc
      · cases hc
      · rename_i hnc
        simp at hc; subst hc
        have h' : vop op' t m n (Ex x u) := by
          cases op' <;> first | exact h | exact h.2 | exact h.elim | simp [isCall] at hnc
        refine Oper.wp_mono ?_ (op_okR hop hd r hF h')
        rintro a' w' ⟨x', u', S', κ', ⟨rfl, rfl⟩, h3⟩
        exact ⟨S', κ', h3⟩
    · cases hc

theorem runX_ok {o : Oper} {op : MOp} {ops : Array Oper} {x : AV} {u : Mem} (hc : cOp' P ops o = some op) (hd : ∀ d, o.dst = some d → d < N) (r : Rel X N w S κ t m F a) (hF : F n)
    (h : vrunD P (toX op) t m n (Ex x u)) : o.wp P a w (AfterD X N t m F n o.dst x u) Q := by
  by_cases hcall : isCall op = true
  · unfold cOp' at hc
    split at hc
    · rename_i op' hcc
      simp at hc; subst hc
      unfold cCall at hcc
      split at hcc
      · rename_i f args _ ho
        simp only [Option.map_eq_some_iff] at hcc
        obtain ⟨xs, h1, rfl⟩ := hcc
        have hev := evs_ok h1 r
        refine wp_enter (f := f) (vals := args.map a.eval) ?_ ((callXX_run hF h r (by simpa using hev.1) (fun i x y g1 g2 => hev.2 i x y g1 ?_)).mono ?_)
        · simp [execOp, ho, resolve, Act.eval, Deferred.ofValue, invoke, callFunc_run (CallX_callable h)]
        · simpa [List.getElem?_map, Array.getElem?_map] using g2
        · rintro e w' ⟨v, S', κ', rfl, h2, h3⟩
          exact ⟨v, rfl, S', κ', h3.put h2 hd⟩
      · rename_i g args _ ho
        simp only [Option.map_eq_some_iff] at hcc
        obtain ⟨xs, h1, rfl⟩ := hcc
        have hev := evs_ok h1 r
        have hg := ev_ok (x := .tmp g) (x' := .t g) rfl r
        simp only [toX, vrunD] at h
        split at h
        · rename_i f caps e1
          rw [e1] at hg
          obtain ⟨vs, hv, hl, g2⟩ := hg.fn_inv
          refine wp_enter (f := f) (vals := args.map a.eval ++ vs) ?_ ((callXX_run hF h r (by simp [hl, hev.1]) (fun i x y q1 q3 => ?_)).mono ?_)
          · simp only [execOp, ho, resolve]
            rw [show (a.eval (Operand.tmp g)) = _ from hv]
            simp [Deferred.ofValue, invoke, callFunc_run (CallX_callable h)]
          · by_cases hi : i < (evs t xs).length
            · rw [List.getElem?_append_left hi] at q1
              rw [Array.getElem?_append_left (by simpa [hev.1] using hi)] at q3
              exact hev.2 i x y q1 (by simpa [List.getElem?_map, Array.getElem?_map] using q3)
            · rw [List.getElem?_append_right (by omega)] at q1
              rw [Array.getElem?_append_right (by simp [hev.1] at hi ⊢; omega)] at q3
              exact g2 _ x y q1 (by simpa [hev.1] using q3)
          · rintro e w' ⟨v, S', κ', rfl, h2, h3⟩
            exact ⟨v, rfl, S', κ', h3.put h2 hd⟩
        · exact h.elim
      · cases hcc
    · split at hc
      · rename_i op' hop
        split at hc
        · cases hc
        · rename_i hnc; simp at hc; subst hc; exact (hnc hcall).elim
      · cases hc
  · have : toX op = op := by cases op <;> first | rfl | (simp [isCall] at hcall)
    rw [this] at h
    exact runD_ok hc hd r hF h

theorem runM_ok {o : Oper} {op : MOp} {ops : Array Oper} {x : AV} {u : Mem} (hc : cOp' P ops o = some op) (hd : ∀ d, o.dst = some d → d < N) (r : Rel X N w S κ t m F a) (hF : F n)
    (h : vrunD P (toM op) t m n (Ex x u)) : o.wp P a w (AfterD X N t m F n o.dst x u) Q := by
  by_cases hop : ∃ y, op = .ld none y
  · obtain ⟨y, rfl⟩ := hop
    unfold cOp' at hc
    split at hc
    · rename_i op' hcc
      simp at hc; subst hc
      unfold cCall at hcc
      split at hcc
      · simp only [Option.map_eq_some_iff] at hcc
        obtain ⟨_, _, hh⟩ := hcc; cases hh
      · simp only [Option.map_eq_some_iff] at hcc
        obtain ⟨_, _, hh⟩ := hcc; cases hh
      · cases hcc
    · split at hc
      · rename_i op' hop
        split at hc
        · cases hc
        · simp at hc; subst hc
          refine Oper.wp_mono ?_ (op_okR (K := Ex x u) hop hd r hF h)
          rintro a' w' ⟨x', u', S', κ', ⟨rfl, rfl⟩, h3⟩
          exact ⟨S', κ', h3⟩
      · cases hc
  · have : toM op = op := by
      cases op <;> first | rfl | (rename_i c y; cases c <;> first | rfl | exact (hop ⟨_, rfl⟩).elim)
    rw [this] at h
    exact runD_ok hc hd r hF h

theorem insD_ok {o : Oper} {i0 i : MI} {ops : Array Oper} {x : AV} {u : Mem} {K' : Act → World → Prop} (hc : cMI P N ops o = some i0) (hi : IsX i0 i) (r : Rel X N w S κ t m F a) (hF : F n)
    (h : vinsD P i (Ex x u) t m n) (hK : ∀ a w, AfterD X N t m F n i.d x u a w → K' a w) :
    if Region.wanted o (yielded ops a.tmps) then o.wp P a w K' Q ∨ (o.asks P a w ∧ LetsOut Q) else K' (a.put o.dst undef) w := by
  unfold cMI at hc
  split at hc
  · rename_i op g hop hg
    split at hc
    · rename_i hdst
      simp at hc; subst hc
      have hd : ∀ d, o.dst = some d → d < N := fun d hd => by rw [hd] at hdst; simpa [dstOk] using hdst
      have hid : i.d = o.dst ∧ i.g = g := by rcases hi with rfl | rfl | rfl <;> exact ⟨rfl, rfl⟩
      have hK : ∀ a w, AfterD X N t m F n o.dst x u a w → K' a w := fun a w h => hK a w (hid.1 ▸ h)
      have skip : (Ex x u) (.v undef) [] → K' (a.put o.dst undef) w := fun hk => by
        obtain ⟨rfl, rfl⟩ := hk
        exact hK _ _ ⟨S, κ, (r.put (.base (.v undef)) hd).free fun k hk => hk.1⟩
      have go : vrunD P i.op t m n (Ex x u) → o.wp P a w K' Q ∨ (o.asks P a w ∧ LetsOut Q) := fun hk => .inl (Oper.wp_mono hK (by
        rcases hi with rfl | rfl | rfl
        · exact runD_ok hop hd r hF hk
        · exact runX_ok hop hd r hF hk
        · exact runM_ok hop hd r hF hk))
      obtain ⟨d', op', g'⟩ := i
      obtain ⟨rfl, rfl⟩ := hid
      cases hgd : o.guard with
      | none =>
        rw [hgd] at hg
        simp [cGuard] at hg; subst hg
        simp only [vinsD] at h
        simp only [Region.wanted, hgd, if_true]
        exact go h
      | some jw =>
        obtain ⟨j, want⟩ := jw
        rw [hgd] at hg
        simp only [cGuard] at hg
        split at hg
        · rename_i s hs
          split at hg
          · rename_i hsN
            simp at hg; subst hg
            simp only [vinsD] at h
            have hR := r.tm s
            have hval : a.tmps[s]? = some (a.tmps.getD s undef) := getD_of_lt (by rw [r.size]; exact hsN)
            split at h
            · rename_i b e
              rw [e] at hR
              have hy : yielded ops a.tmps j = some b := by
                simp only [yielded, hs, Option.bind_some, hval, hR.v_inv]
              by_cases hb : b = want
              · simp only [Region.wanted, hgd, hy, hb, beq_self_eq_true, if_true]
                exact go (h.1 hb)
              · have hne : (some b == some want) = false := some_ne hb
                simp only [Region.wanted, hgd, hy, hne]
                exact skip (h.2 (bool_ne hb))
            · rename_i vs e
              rw [e] at hR
              have hy : yielded ops a.tmps j = none := by
                simp only [yielded, hs, Option.bind_some, hval, hR.v_inv]
              have hne : ((none : Option Bool) == some want) = false := rfl
              simp only [Region.wanted, hgd, hy, hne]
              exact skip h
            · exact h.elim
          · cases hg
        · cases hg
    · cases hc
  · cases hc

end Go.Av
