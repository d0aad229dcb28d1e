/- Is a slice nil; a part of a slice. -/
import Derived.Test.YtelcipdpfoipiaaAvMs
import Derived.Laws.StructEq
namespace Go.Av

variable {P : Program} {w w' : World} {S S' : Nat → Prop} {κ κ' : Nat → Option Loc} {m : Mem} {n N : Nat} {F : Nat → Prop} {t : Tmps} {a : Act} {X : Ctx}
  {K : AV → Mem → Prop} {Q : Exit → Act → World → Prop} {o : Oper}

theorem eqGuard_slice (op : BinOp) (T : TypeId) (x y : Operand) (c d : Option Addr) (l l' k k' : Nat) : (eqGuard op T x y (.slice c l k) (.slice d l' k')).run P w = .ok () w := by
  unfold eqGuard; split <;> rfl

theorem equalIn_slice {T e : TypeId} (hT : P.underlying T = some (.slice e)) (d : Nat) (c : Option Addr) (l k : Nat) :
    (Op.equalIn (d + 1) T (.slice c l k) (.slice none 0 0)).run P w = .ok c.isNone w := by
  have hu : (underlying T).run P w = .ok (.slice e) w := by simp [underlying, hT]
  cases c <;> simp only [Op.equalIn, Sem.run_bind, hu, Result.andThen_ok, Sem.run_pure, Option.isNone]
theorem equal_slice {T e : TypeId} (hT : P.underlying T = some (.slice e)) (c : Option Addr) (l k : Nat) :
    (Op.equal T (.slice c l k) (.slice none 0 0)).run P w = .ok c.isNone w := equalIn_slice hT 9999 c l k

/-- cells that are numbers -/
theorem eqc_vals : ∀ {xs ys : List AV} {b : Bool}, eqc xs ys = some b → ∃ cs : List (IntKind × Int × Int), xs = cs.map (fun c => .v (.int c.1 c.2.1)) ∧ ys = cs.map (fun c => .v (.int c.1 c.2.2)) ∧ b = cs.all fun c => c.2.1 == c.2.2
  | [], [], b, h => ⟨[], rfl, rfl, by simpa [eqc] using h.symm⟩
  | .v (.int k a) :: r, .v (.int k' a') :: s, b, h => by
    simp only [eqc] at h
    split at h
    · rename_i hk
      subst hk
      rw [Option.map_eq_some_iff] at h
      obtain ⟨c, hc, rfl⟩ := h
      obtain ⟨cs, rfl, rfl, rfl⟩ := eqc_vals hc
      exact ⟨(k, a, a') :: cs, rfl, rfl, rfl⟩
    · cases h

theorem isIntT_inv {t : TypeId} (h : isIntT P t = true) : ∃ k, P.underlying t = some (.int k) := by
  unfold isIntT at h
  split at h
  · rename_i k hk; exact ⟨k, hk⟩
  · cases h
theorem part_int {T : TypeId} {k : IntKind} {vs : Array Value} {i : Nat} {v : Value} (hT : P.underlying T = some (.int k)) (hv : vs[i]? = some v) : (part T vs i).run P w = .ok v w := by
  have hr : isRowT P T = some false := by simp [isRowT, hT]
  simp [part, isAgg_run hr, hv]

theorem eqFields_run {vs us : Array Value} {d : Nat} : ∀ {fs : List Field} {i : Nat} {cs : List (IntKind × Int × Int)}, fldsEq P i fs = true → cs.length = fs.length →
    (∀ (j : Nat) c, cs[j]? = some c → vs[i + j]? = some (.int c.1 c.2.1) ∧ us[i + j]? = some (.int c.1 c.2.2)) → (Op.eqFields (d + 1) vs us fs).run P w = .ok (cs.all fun c => c.2.1 == c.2.2) w
  | [], i, [], _, _, _ => by simp [Op.eqFields]
  | f :: fs, i, c :: cs, hf, hl, hc => by
    simp only [fldsEq, Bool.and_eq_true, bne_iff_ne, ne_eq, beq_iff_eq] at hf
    obtain ⟨⟨⟨h1, h2⟩, h3⟩, h4⟩ := hf
    obtain ⟨k, hk⟩ := isIntT_inv h3
    obtain ⟨ha, hb⟩ := hc 0 c rfl
    rw [Nat.add_zero] at ha hb
    have ih := eqFields_run (fs := fs) (i := i + 1) (cs := cs) (d := d) h4 (by simpa using hl) (fun j c hj => by have := hc (j + 1) c hj; rwa [show i + (j + 1) = i + 1 + j by omega] at this)
    simp only [Op.eqFields, ne_eq, h1, not_false_eq_true, if_true, Sem.run_bind]
    rw [h2, part_int hk ha, Result.andThen_ok, part_int hk hb, Result.andThen_ok, run_equalIn_int w d f.type c.1 k c.2.1 c.2.2 hk, Result.andThen_ok]
    cases he : c.2.1 == c.2.2 with
    | true => simp [he, ih]
    | false => simp [he]

theorem forIn_all {f : Nat → (Option Bool × Unit) → Sem (ForInStep (Option Bool × Unit))} : ∀ {cs : List Bool} {i : Nat}, (∀ (j : Nat) b, cs[j]? = some b → ∀ s, (f (i + j) s).run P w = .ok (if b = true then .yield (none, ()) else .done (some false, ())) w) →
    (forIn (List.range' i cs.length) ((none, ()) : Option Bool × Unit) f).run P w = .ok (if cs.all id = true then (none, ()) else (some false, ())) w
  | [], i, _ => by simp
  | b :: cs, i, h => by
    have h0 := h 0 b rfl (none, ())
    have ih := forIn_all (cs := cs) (i := i + 1) (fun j b' hj s => by have := h (j + 1) b' hj s; rwa [show i + (j + 1) = i + 1 + j by omega] at this)
    rw [Nat.add_zero] at h0
    rw [List.length_cons, List.range'_succ, List.forIn_cons, Sem.run_bind, h0, Result.andThen_ok]
    cases b with
    | true => simpa using ih
    | false => simp

theorem equalArr_run {vs us : Array Value} {T e : TypeId} {len d : Nat} {k : IntKind} {cs : List (IntKind × Int × Int)} (hT : P.underlying T = some (.array len e)) (he : P.underlying e = some (.int k)) (hs : sizeT P e = some 1)
    (hl : cs.length = len) (hc : ∀ (j : Nat) c, cs[j]? = some c → vs[j]? = some (.int c.1 c.2.1) ∧ us[j]? = some (.int c.1 c.2.2)) :
    (Op.equalIn (d + 2) T (.agg vs) (.agg us)).run P w = .ok (cs.all fun c => c.2.1 == c.2.2) w := by
  have hu : (underlying T).run P w = .ok (.array len e) w := by simp [underlying, hT]
  have hall : (cs.all fun c => c.2.1 == c.2.2) = (cs.map fun c => c.2.1 == c.2.2).all id := by simp [Function.comp_def]
  have hlen : len = (cs.map fun c => c.2.1 == c.2.2).length := by simp [hl]
  generalize hd : d + 1 = d'
  rw [show d + 2 = d' + 1 by omega]
  simp only [Op.equalIn, Sem.run_bind, hu, Result.andThen_ok, sizeT_run hs, Std.Legacy.Range.forIn_eq_forIn_range', Std.Legacy.Range.size, Nat.sub_zero, Nat.add_sub_cancel, Nat.div_one]
  rw [hlen, forIn_all (cs := cs.map fun c => c.2.1 == c.2.2), hall]
  · rw [Result.andThen_ok]
    cases (cs.map fun c => c.2.1 == c.2.2).all id <;> simp
  · intro j b hj s
    rw [List.getElem?_map, Option.map_eq_some_iff] at hj
    obtain ⟨c, hj, rfl⟩ := hj
    obtain ⟨h1, h2⟩ := hc j c hj
    subst hd
    simp only [Nat.zero_add, Nat.mul_one, Sem.run_bind, part_int he h1, part_int he h2, Result.andThen_ok, run_equalIn_int w d e c.1 k c.2.1 c.2.2 he]
    cases c.2.1 == c.2.2 <;> simp

theorem eqa_ok {sz : Nat} {ng : Bool} {T T' : TypeId} {x y : Operand} {x' y' : Opd} (ho : o.op = .binOp (bif ng then .neq else .eql) T x y T') (hT : eqT P T = some sz)
    (hx : cOpd x = some x') (hy : cOpd y = some y')
    (hd : ∀ d, o.dst = some d → d < N) (r : Rel X N w S κ t m F a) (h : vop (.eqa sz ng x' y') t m n K) : o.wp P a w (Post K X N o.dst t m F n) Q := by
  have hrx := ev_ok hx r
  have hry := ev_ok hy r
  simp only [vop] at h
  split at h
  · rename_i xs ys e1 e2
    rw [e1] at hrx
    rw [e2] at hry
    obtain ⟨hsz, b, hb, hK⟩ := h
    obtain ⟨cs, rfl, rfl, rfl⟩ := eqc_vals hb
    obtain ⟨vs, hv, hvl, hvR⟩ := hrx.agg_inv
    obtain ⟨us, hu, hul, huR⟩ := hry.agg_inv
    simp only [List.length_map] at hsz hvl hul
    have hcells : ∀ (j : Nat) c, cs[j]? = some c → vs[j]? = some (.int c.1 c.2.1) ∧ us[j]? = some (.int c.1 c.2.2) := fun j c hj => by
      have hlt := (List.getElem?_eq_some_iff.1 hj).1
      have hx1 := hvR j _ vs[j] (by rw [List.getElem?_map, hj]; rfl) (by simp [← hvl, hlt])
      have hy1 := huR j _ us[j] (by rw [List.getElem?_map, hj]; rfl) (by simp [← hul, hlt])
      rw [Array.getElem?_eq_getElem (by omega), Array.getElem?_eq_getElem (by omega), hx1.v_inv, hy1.v_inv]
      exact ⟨rfl, rfl⟩
    have hg : P.eqGuardType P.depth T = false ∧ (Op.equalIn 10000 T (.agg vs) (.agg us)).run P w = .ok (cs.all fun c => c.2.1 == c.2.2) w := by
      unfold eqT at hT
      split at hT
      · rename_i fs hu
        split at hT
        · rename_i hc
          simp only [Bool.and_eq_true, Bool.not_eq_true'] at hc
          obtain ⟨⟨h1, h2⟩, h3⟩ := hc
          cases hT
          have hfo : P.fieldsOf T = fs := by simp [Program.fieldsOf, hu]
          refine ⟨h3, ?_⟩
          rw [run_equalIn_agg w 9999 T vs us (by rw [hfo]; exact hu) h2, hfo]
          exact eqFields_run (d := 9998) h1 (by simpa using hsz) (fun j c hj => by rw [Nat.zero_add]; exact hcells j c hj)
        · cases hT
      · rename_i len e hu
        split at hT
        · rename_i hc
          simp only [Bool.and_eq_true, Bool.not_eq_true', beq_iff_eq] at hc
          obtain ⟨⟨h1, h2⟩, h3⟩ := hc
          cases hT
          obtain ⟨k, hk⟩ := isIntT_inv h1
          exact ⟨h3, equalArr_run (d := 9998) hu hk h2 hsz hcells⟩
        · cases hT
      · cases hT
    refine wp_pure (v := .bool ((cs.all fun c => c.2.1 == c.2.2) != ng)) ?_ r hd (.base (.v _)) hK
    cases ng
    · simp only [cond_false] at ho
      have hbin : (binOp .eql T (.agg vs) (.agg us)).run P w = .ok (.bool (cs.all fun c => c.2.1 == c.2.2)) w := by
        rw [run_eql_struct, hg.2]; rfl
      simp [execOp, ho, hv, hu, run_eqGuard_agg w .eql T x y vs us hg.1, hbin]
    · simp only [cond_true] at ho
      have hbin : (binOp .neq T (.agg vs) (.agg us)).run P w = .ok (.bool (!(cs.all fun c => c.2.1 == c.2.2))) w := by
        rw [run_neq_struct, hg.2]; rfl
      simp [execOp, ho, hv, hu, run_eqGuard_agg w .neq T x y vs us hg.1, hbin]
  · exact h.elim

theorem isNilOp_inv {y : Operand} (h : isNilOp y = true) : y = .const (.slice none 0 0) := by
  unfold isNilOp at h
  split at h
  · rfl
  · cases h

theorem isnil_ok {ng : Bool} {T T' e : TypeId} {x y : Operand} {x' : Opd} (ho : o.op = .binOp (bif ng then .neq else .eql) T x y T') (hT : P.underlying T = some (.slice e))
    (hy : isNilOp y = true) (hx : cOpd x = some x')
    (hd : ∀ d, o.dst = some d → d < N) (r : Rel X N w S κ t m F a) (h : vop (.isnil ng x') t m n K) : o.wp P a w (Post K X N o.dst t m F n) Q := by
  have hr := ev_ok hx r
  have hy' := isNilOp_inv hy
  subst hy'
  have fin : ∀ {ad : Option Addr} {len cap : Nat}, a.eval x = .slice ad len cap → K (.v (.bool (ad.isNone != ng))) [] → o.wp P a w (Post K X N o.dst t m F n) Q := by
    intro ad len cap h1 h2
    have hcv : a.eval (.const (.slice none 0 0)) = .slice none 0 0 := rfl
    refine wp_pure (v := .bool (ad.isNone != ng)) ?_ r hd (.base (.v _)) h2
    have he := equal_slice (P := P) (w := w) hT ad len cap
    cases ng
    · have hb : (binOp .eql T (.slice ad len cap) (.slice none 0 0)).run P w = .ok (.bool ad.isNone) w := by
        rw [show binOp .eql T (.slice ad len cap) (.slice none 0 0) = (do pure (.bool (← Op.equal T (.slice ad len cap) (.slice none 0 0)))) from rfl]
        simp only [Sem.run_bind, he, Result.andThen_ok, Sem.run_pure]
      simp only [cond_false] at ho
      simp [execOp, ho, h1, hcv, eqGuard_slice, hb]
    · have hb : (binOp .neq T (.slice ad len cap) (.slice none 0 0)).run P w = .ok (.bool (!ad.isNone)) w := by
        rw [show binOp .neq T (.slice ad len cap) (.slice none 0 0) = (do pure (.bool (!(← Op.equal T (.slice ad len cap) (.slice none 0 0))))) from rfl]
        simp only [Sem.run_bind, he, Result.andThen_ok, Sem.run_pure]
      simp only [cond_true] at ho
      simp [execOp, ho, h1, hcv, eqGuard_slice, hb]
  simp only [vop] at h
  unfold NilVC at h
  split at h
  · rename_i p q e1
    exact fin (ev_v hx r e1) h
  · rename_i ad p q e1
    exact fin (ev_v hx r e1) h
  · rename_i s xs e1
    rw [e1] at hr
    generalize hv : a.eval x = v at hr
    cases hr with
    | base hr => cases hr with
      | roNil =>
        rename_i ad cap
        refine fin hv ?_
        cases ad with
        | none => exact h.2 rfl
        | some _ => exact h.1
      | ro => exact fin hv h.1
  · rename_i k off len e1
    rw [e1] at hr
    generalize hv : a.eval x = v at hr
    cases hr with
    | base hr => cases hr
    | arrNil => exact fin hv (h.2 rfl)
    | arr0 => exact fin hv h.1
    | arr => exact fin hv h.1
  · exact h.elim

theorem cOpt_ev {x : Option Operand} {x' : Option Opd} {d : Nat} {G : Int → Prop} (h : cOpt x = some x') (r : Rel X N w S κ t m F a) (hb : bnd t d x' G) :
    (x = none ∧ G d) ∨ ∃ y k c, x = some y ∧ a.eval y = .int k c ∧ G c := by
  cases x with
  | none => simp [cOpt] at h; subst h; exact .inl ⟨rfl, hb⟩
  | some y =>
    simp only [cOpt, Option.map_eq_some_iff] at h
    obtain ⟨y', h1, rfl⟩ := h
    simp only [bnd] at hb
    split at hb
    · rename_i k c e1
      exact .inr ⟨y, k, c, rfl, ev_v h1 r e1, hb⟩
    · exact hb.elim

theorem sliceBound_run {k : IntKind} {i : Int} {y : Nat} {code : BoundsCode} (h0 : 0 ≤ i) (h1 : i ≤ y) : (Instr.sliceBound (.int k i) y code).run P w = .ok i.toNat w := by
  simp [Instr.sliceBound, asIntOf, h0, h1]

theorem sliceBounds_run {lo hi : Option Operand} {lo' hi' : Option Opd} {len cap : Nat} {G : Int → Int → Prop}
    (hl : cOpt lo = some lo') (hh : cOpt hi = some hi') (r : Rel X N w S κ t m F a) (hcap : len ≤ cap)
    (h : bnd t 0 lo' fun l => bnd t len hi' fun q => G l q) (hG : ∀ l q, G l q → 0 ≤ l ∧ l ≤ q ∧ q ≤ len) :
    ∃ l q : Int, G l q ∧ (Instr.sliceBounds true len cap (lo.map a.eval) (hi.map a.eval) none).run P w = .ok (l.toNat, q.toNat, cap) w := by
  have fin : ∀ {l q : Int}, G l q → (Instr.sliceBounds true len cap (lo.map a.eval) (hi.map a.eval) none).run P w = .ok (l.toNat, q.toNat, cap) w →
    ∃ l q : Int, G l q ∧ (Instr.sliceBounds true len cap (lo.map a.eval) (hi.map a.eval) none).run P w = .ok (l.toNat, q.toNat, cap) w := fun h1 h2 => ⟨_, _, h1, h2⟩
  rcases cOpt_ev hl r h with ⟨rfl, h⟩ | ⟨y, k, c, rfl, e1, h⟩ <;> rcases cOpt_ev hh r h with ⟨rfl, h⟩ | ⟨y2, k2, c2, rfl, e2, h⟩ <;>
    obtain ⟨g1, g2, g3⟩ := hG _ _ h <;> refine fin h ?_
  · simp [Instr.sliceBounds]
  · simp [Instr.sliceBounds, e2, sliceBound_run (P := P) (w := w) (k := k2) (i := c2) (y := cap) (by omega) (by omega)]
  · simp [Instr.sliceBounds, e1, sliceBound_run (P := P) (w := w) (k := k) (i := c) (y := len) (by omega) (by omega)]
  · simp [Instr.sliceBounds, e1, e2, sliceBound_run (P := P) (w := w) (k := k2) (i := c2) (y := cap) (by omega) (by omega),
      sliceBound_run (P := P) (w := w) (k := k) (i := c) (y := c2.toNat) (by omega) (by omega)]

theorem slc_ok {T e : TypeId} {c : Nat} {x : Operand} {lo hi : Option Operand} {x' : Opd} {lo' hi' : Option Opd} (ho : o.op = .slice T x lo hi none)
    (hT : P.underlying T = some (.slice e)) (hz : sizeT P e = some c) (hx : cOpd x = some x') (hl : cOpt lo = some lo') (hh : cOpt hi = some hi')
    (hd : ∀ d, o.dst = some d → d < N) (r : Rel X N w S κ t m F a) (h : vop (.slc c x' lo' hi') t m n K) : o.wp P a w (Post K X N o.dst t m F n) Q := by
  have hr := ev_ok hx r
  have fin : ∀ {ad : Option Addr} {len cap l q : Nat} {y : AV}, a.eval x = .slice ad len cap →
      (Instr.sliceBounds true len cap (lo.map a.eval) (hi.map a.eval) none).run P w = .ok (l, q, cap) w →
      R w S κ y (.slice (if cap = l then ad else ad.map (·.add (l * c))) (q - l) (cap - l)) → K y [] → o.wp P a w (Post K X N o.dst t m F n) Q :=
    fun {ad len cap l q y} h1 h2 h3 h4 => wp_pure (v := .slice (if cap = l then ad else ad.map (·.add (l * c))) (q - l) (cap - l))
      (by simp [execOp, ho, h1, Instr.sliceAt, Instr.slice, und_run hT, h2, sizeT_run hz]) r hd h3 h4
  simp only [vop] at h
  split at h
  · rename_i s xs e1
    rw [e1] at hr
    generalize hv : a.eval x = v at hr
    cases hr with
    | base hr => cases hr with
      | roNil =>
        rename_i ad cap
        obtain ⟨l, q, hG, hrun⟩ := sliceBounds_run (P := P) (cap := cap) hl hh r (Nat.zero_le _) h (fun l q hG => ⟨hG.2.1, hG.2.2.1, hG.2.2.2.1⟩)
        obtain ⟨rfl, g1, g2, g3, hK⟩ := hG
        simp at g3
        refine fin hv hrun ?_ hK
        have : q.toNat - l.toNat = 0 := by omega
        rw [this]
        simp only [List.take_nil, List.drop_nil]
        exact .base .roNil
      | ro hb hcap hs hc h2 =>
        rename_i b off cap f
        obtain ⟨l, q, hG, hrun⟩ := sliceBounds_run (P := P) (cap := cap) hl hh r hcap h (fun l q hG => ⟨hG.2.1, hG.2.2.1, hG.2.2.2.1⟩)
        obtain ⟨rfl, g1, g2, g3, hK⟩ := hG
        refine fin hv hrun ?_ hK
        have hlen : ((xs.take q.toNat).drop l.toNat).length = q.toNat - l.toNat := by simp; omega
        by_cases hcl : cap = l.toNat
        · have h0 : q.toNat - l.toNat = 0 := by omega
          rw [h0]
          have : (xs.take q.toNat).drop l.toNat = [] := List.eq_nil_of_length_eq_zero (by omega)
          rw [this]
          exact .base .roNil
        · rw [if_neg hcl, Option.map_some, add_none]
          rw [← hlen]
          have hget : ∀ (i : Nat) z, ((xs.take q.toNat).drop l.toNat)[i]? = some z → xs[l.toNat + i]? = some z := fun i z hi => by
            rw [List.getElem?_drop, List.getElem?_take] at hi
            split at hi
            · exact hi
            · cases hi
          refine .base (.ro (c := fun q => f (l.toNat * s + q)) (off := off + l.toNat * s) (cap := cap - l.toNat) hb (by omega) (fun i z hi => hs _ _ (hget i z hi)) (fun p hp => ?_) (fun i z j y hi hj => ?_))
          · rw [hlen] at hp
            have := hc (l.toNat * s + p) (by
              have h3 : l.toNat * s + (q.toNat - l.toNat) * s ≤ xs.length * s := by
                rw [← Nat.add_mul]; exact Nat.mul_le_mul_right _ (by omega)
              omega)
            rw [← Nat.add_assoc] at this
            exact this
          · have := h2 _ _ _ _ (hget i z hi) hj
            rw [Nat.add_mul, Nat.add_assoc] at this
            exact this
  · rename_i k off len e1
    rw [e1] at hr
    split at h
    · rename_i s xs hm
      generalize hv : a.eval x = v at hr
      cases hr with
      | base hr => cases hr
      | arrNil hk hn =>
        obtain ⟨l, q, hG, hrun⟩ := sliceBounds_run (P := P) (cap := 0) hl hh r (Nat.le_refl _) h (fun l q hG => ⟨hG.2.1, hG.2.2.1, hG.2.2.2.1⟩)
        obtain ⟨rfl, g1, g2, g3, hK⟩ := hG
        simp at g3
        refine fin hv hrun ?_ hK
        have e2 : q.toNat = 0 := by omega
        have e3 : l.toNat = 0 := by omega
        rw [e2, e3]
        simpa using R.arrNil hk hn
      | arr0 hk =>
        obtain ⟨l, q, hG, hrun⟩ := sliceBounds_run (P := P) (cap := 0) hl hh r (Nat.le_refl _) h (fun l q hG => ⟨hG.2.1, hG.2.2.1, hG.2.2.2.1⟩)
        obtain ⟨rfl, g1, g2, g3, hK⟩ := hG
        simp at g3
        refine fin hv hrun ?_ hK
        have e2 : q.toNat = 0 := by omega
        have e3 : l.toNat = 0 := by omega
        rw [e2, e3]
        simpa using R.arr0 hk
      | arr hk hn hlen hcap hu =>
        rename_i cap lc
        obtain ⟨l', hk', h2⟩ := r.ent.mm _ _ hm
        rw [hk] at hk'; cases hk'
        rcases h2 with ⟨h2, _⟩ | ⟨_, hsz, _⟩
        · rw [hn] at h2; cases h2
        · obtain ⟨l, q, hG, hrun⟩ := sliceBounds_run (P := P) (cap := cap) hl hh r hlen h (fun l q hG => ⟨hG.2.1, hG.2.2.1, hG.2.2.2.1⟩)
          obtain ⟨rfl, g1, g2, g3, hK⟩ := hG
          refine fin hv hrun ?_ hK
          by_cases hcl : cap = l.toNat
          · have h0 : q.toNat - l.toNat = 0 := by omega
            rw [if_pos hcl, h0, hcl, Nat.sub_self]
            exact .arr0 hk
          · rw [if_neg hcl, Option.map_some, add_none]
            have := R.arr (w := w) (S := S) (k := k) (off := off + l.toNat) (len := q.toNat - l.toNat) (cap := cap - l.toNat) hk hn (by omega) (by omega) (by omega)
            rw [Nat.add_mul, ← Nat.add_assoc, hsz] at this
            rw [hsz]; exact this
    · exact h.elim
  · rename_i e1
    have hv := ev_v hx r e1
    obtain ⟨l, q, hG, hrun⟩ := sliceBounds_run (P := P) (cap := 0) (len := 0) hl hh r (Nat.le_refl _) h (fun l q hG => ⟨by omega, by omega, by omega⟩)
    obtain ⟨rfl, rfl, hK⟩ := hG
    exact fin hv hrun (by simpa using R.base (R0.v _)) hK
  · exact h.elim

end Go.Av
