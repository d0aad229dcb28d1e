/- Is a slice nil; a part of a slice. -/
import Derived.Test.YtblakcgmngdhmaaAvMs
import Derived.Laws.StructEq
namespace Go.Av

variable {P : Program} {w w' : World} {S S' : Nat → Prop} {κ κ' : Nat → Option Loc} {m : Mem} {n N : Nat} {F : Nat → Prop} {t : Tmps} {a : Act} {X : Ctx}
  {K : AV → Mem → Prop} {Q : Exit → Act → World → Prop} {o : Oper}

theorem eqGuard_slice (op : BinOp) (T : TypeId) (x y : Operand) (c d : Option Addr) (l l' k k' : Nat) : (eqGuard op T x y (.slice c l k) (.slice d l' k')).run P w = .ok () w := by
  unfold eqGuard; split <;> rfl

theorem equalIn_slice {T e : TypeId} (hT : P.underlying T = some (.slice e)) (d : Nat) (c : Option Addr) (l k : Nat) :
    (Op.equalIn (d + 1) T (.slice c l k) (.slice none 0 0)).run P w = .ok c.isNone w := by
  have hu : (underlying T).run P w = .ok (.slice e) w := by simp [underlying, hT]
  cases c <;> simp only [Op.equalIn, Sem.run_bind, hu, Result.andThen_ok, Sem.run_pure, Option.isNone]
theorem equal_slice {T e : TypeId} (hT : P.underlying T = some (.slice e)) (c : Option Addr) (l k : Nat) :
    (Op.equal T (.slice c l k) (.slice none 0 0)).run P w = .ok c.isNone w := equalIn_slice hT 9999 c l k

theorem eqGuard_map (op : BinOp) (T : TypeId) (x y : Operand) (c d : Option Nat) : (eqGuard op T x y (.map c) (.map d)).run P w = .ok () w := by
  unfold eqGuard; split <;> rfl
theorem equalIn_map {T k e : TypeId} (hT : P.underlying T = some (.map k e)) (d : Nat) (c : Option Nat) :
    (Op.equalIn (d + 1) T (.map c) (.map none)).run P w = .ok c.isNone w := by
  have hu : (underlying T).run P w = .ok (.map k e) w := by simp [underlying, hT]
  cases c <;> simp only [Op.equalIn, Sem.run_bind, hu, Result.andThen_ok, Sem.run_pure, Option.isNone]
theorem equal_map {T k e : TypeId} (hT : P.underlying T = some (.map k e)) (c : Option Nat) :
    (Op.equal T (.map c) (.map none)).run P w = .ok c.isNone w := equalIn_map hT 9999 c

/-- cells that are numbers -/
theorem eqc_vals : ∀ {xs ys : List AV} {b : Bool}, eqc xs ys = some b → ∃ cs : List (IntKind × Int × Int), xs = cs.map (fun c => .v (.int c.1 c.2.1)) ∧ ys = cs.map (fun c => .v (.int c.1 c.2.2)) ∧ b = cs.all fun c => c.2.1 == c.2.2
  | [], [], b, h => ⟨[], rfl, rfl, by simpa [eqc] using h.symm⟩
  | .v (.int k a) :: r, .v (.int k' a') :: s, b, h => by
    simp only [eqc] at h
    split at h
    · rename_i hk
      subst hk
      rw [Option.map_eq_some_iff] at h
      obtain ⟨c, hc, rfl⟩ := h
      obtain ⟨cs, rfl, rfl, rfl⟩ := eqc_vals hc
      exact ⟨(k, a, a') :: cs, rfl, rfl, rfl⟩
    · cases h

theorem isIntT_inv {t : TypeId} (h : isIntT P t = true) : ∃ k, P.underlying t = some (.int k) := by
  unfold isIntT at h
  split at h
  · rename_i k hk; exact ⟨k, hk⟩
  · cases h
theorem part_int {T : TypeId} {k : IntKind} {vs : Array Value} {i : Nat} {v : Value} (hT : P.underlying T = some (.int k)) (hv : vs[i]? = some v) : (part T vs i).run P w = .ok v w := by
  have hr : isRowT P T = some false := by simp [isRowT, hT]
  simp [part, isAgg_run hr, hv]

theorem eqFields_run {vs us : Array Value} {d : Nat} : ∀ {fs : List Field} {i : Nat} {cs : List (IntKind × Int × Int)}, fldsEq P i fs = true → cs.length = fs.length →
    (∀ (j : Nat) c, cs[j]? = some c → vs[i + j]? = some (.int c.1 c.2.1) ∧ us[i + j]? = some (.int c.1 c.2.2)) → (Op.eqFields (d + 1) vs us fs).run P w = .ok (cs.all fun c => c.2.1 == c.2.2) w
  | [], i, [], _, _, _ => by simp [Op.eqFields]
  | f :: fs, i, c :: cs, hf, hl, hc => by
    simp only [fldsEq, Bool.and_eq_true, bne_iff_ne, ne_eq, beq_iff_eq] at hf
    obtain ⟨⟨⟨h1, h2⟩, h3⟩, h4⟩ := hf
    obtain ⟨k, hk⟩ := isIntT_inv h3
    obtain ⟨ha, hb⟩ := hc 0 c rfl
    rw [Nat.add_zero] at ha hb
    have ih := eqFields_run (fs := fs) (i := i + 1) (cs := cs) (d := d) h4 (by simpa using hl) (fun j c hj => by have := hc (j + 1) c hj; rwa [show i + (j + 1) = i + 1 + j by omega] at this)
    simp only [Op.eqFields, ne_eq, h1, not_false_eq_true, if_true, Sem.run_bind]
    rw [h2, part_int hk ha, Result.andThen_ok, part_int hk hb, Result.andThen_ok, run_equalIn_int w d f.type c.1 k c.2.1 c.2.2 hk, Result.andThen_ok]
    cases he : c.2.1 == c.2.2 with
    | true => simp [he, ih]
    | false => simp [he]

theorem forIn_all {f : Nat → (Option Bool × Unit) → Sem (ForInStep (Option Bool × Unit))} : ∀ {cs : List Bool} {i : Nat}, (∀ (j : Nat) b, cs[j]? = some b → ∀ s, (f (i + j) s).run P w = .ok (if b = true then .yield (none, ()) else .done (some false, ())) w) →
    (forIn (List.range' i cs.length) ((none, ()) : Option Bool × Unit) f).run P w = .ok (if cs.all id = true then (none, ()) else (some false, ())) w
  | [], i, _ => by simp
  | b :: cs, i, h => by
    have h0 := h 0 b rfl (none, ())
    have ih := forIn_all (cs := cs) (i := i + 1) (fun j b' hj s => by have := h (j + 1) b' hj s; rwa [show i + (j + 1) = i + 1 + j by omega] at this)
    rw [Nat.add_zero] at h0
    rw [List.length_cons, List.range'_succ, List.forIn_cons, Sem.run_bind, h0, Result.andThen_ok]
    cases b with
    | true => simpa using ih
    | false => simp

theorem equalArr_run {vs us : Array Value} {T e : TypeId} {len d : Nat} {k : IntKind} {cs : List (IntKind × Int × Int)} (hT : P.underlying T = some (.array len e)) (he : P.underlying e = some (.int k)) (hs : sizeT P e = some 1)
    (hl : cs.length = len) (hc : ∀ (j : Nat) c, cs[j]? = some c → vs[j]? = some (.int c.1 c.2.1) ∧ us[j]? = some (.int c.1 c.2.2)) :
    (Op.equalIn (d + 2) T (.agg vs) (.agg us)).run P w = .ok (cs.all fun c => c.2.1 == c.2.2) w := by
  have hu : (underlying T).run P w = .ok (.array len e) w := by simp [underlying, hT]
  have hall : (cs.all fun c => c.2.1 == c.2.2) = (cs.map fun c => c.2.1 == c.2.2).all id := by simp [Function.comp_def]
  have hlen : len = (cs.map fun c => c.2.1 == c.2.2).length := by simp [hl]
  generalize hd : d + 1 = d'
  rw [show d + 2 = d' + 1 by omega]
  simp only [Op.equalIn, Sem.run_bind, hu, Result.andThen_ok, sizeT_run hs, Std.Legacy.Range.forIn_eq_forIn_range', Std.Legacy.Range.size, Nat.sub_zero, Nat.add_sub_cancel, Nat.div_one]
  rw [hlen, forIn_all (cs := cs.map fun c => c.2.1 == c.2.2), hall]
  · rw [Result.andThen_ok]
    cases (cs.map fun c => c.2.1 == c.2.2).all id <;> simp
  · intro j b hj s
    rw [List.getElem?_map, Option.map_eq_some_iff] at hj
    obtain ⟨c, hj, rfl⟩ := hj
    obtain ⟨h1, h2⟩ := hc j c hj
    subst hd
    simp only [Nat.zero_add, Nat.mul_one, Sem.run_bind, part_int he h1, part_int he h2, Result.andThen_ok, run_equalIn_int w d e c.1 k c.2.1 c.2.2 he]
    cases c.2.1 == c.2.2 <;> simp

theorem eqa_ok {sz : Nat} {ng : Bool} {T T' : TypeId} {x y : Operand} {x' y' : Opd} (ho : o.op = .binOp (bif ng then .neq else .eql) T x y T') (hT : eqT P T = some sz)
    (hx : cOpd x = some x') (hy : cOpd y = some y')
    (hd : ∀ d, o.dst = some d → d < N) (r : Rel X N w S κ t m F a) (h : vop (.eqa sz ng x' y') t m n K) : o.wp P a w (Post K X N o.dst t m F n) Q := by
  have hrx := ev_ok hx r
  have hry := ev_ok hy r
  simp only [vop] at h
  split at h
  · rename_i xs ys e1 e2
    rw [e1] at hrx
    rw [e2] at hry
    obtain ⟨hsz, b, hb, hK⟩ := h
    obtain ⟨cs, rfl, rfl, rfl⟩ := eqc_vals hb
    obtain ⟨vs, hv, hvl, hvR⟩ := hrx.agg_inv
    obtain ⟨us, hu, hul, huR⟩ := hry.agg_inv
    simp only [List.length_map] at hsz hvl hul
    have hcells : ∀ (j : Nat) c, cs[j]? = some c → vs[j]? = some (.int c.1 c.2.1) ∧ us[j]? = some (.int c.1 c.2.2) := fun j c hj => by
      have hlt := (List.getElem?_eq_some_iff.1 hj).1
      have hx1 := hvR j _ vs[j] (by rw [List.getElem?_map, hj]; rfl) (by simp [← hvl, hlt])
      have hy1 := huR j _ us[j] (by rw [List.getElem?_map, hj]; rfl) (by simp [← hul, hlt])
      rw [Array.getElem?_eq_getElem (by omega), Array.getElem?_eq_getElem (by omega), hx1.v_inv, hy1.v_inv]
      exact ⟨rfl, rfl⟩
    have hg : P.eqGuardType P.depth T = false ∧ (Op.equalIn 10000 T (.agg vs) (.agg us)).run P w = .ok (cs.all fun c => c.2.1 == c.2.2) w := by
      unfold eqT at hT
      split at hT
      · rename_i fs hu
        split at hT
        · rename_i hc
          simp only [Bool.and_eq_true, Bool.not_eq_true'] at hc
          obtain ⟨⟨h1, h2⟩, h3⟩ := hc
          cases hT
          have hfo : P.fieldsOf T = fs := by simp [Program.fieldsOf, hu]
          refine ⟨h3, ?_⟩
          rw [run_equalIn_agg w 9999 T vs us (by rw [hfo]; exact hu) h2, hfo]
          exact eqFields_run (d := 9998) h1 (by simpa using hsz) (fun j c hj => by rw [Nat.zero_add]; exact hcells j c hj)
        · cases hT
      · rename_i len e hu
        split at hT
        · rename_i hc
          simp only [Bool.and_eq_true, Bool.not_eq_true', beq_iff_eq] at hc
          obtain ⟨⟨h1, h2⟩, h3⟩ := hc
          cases hT
          obtain ⟨k, hk⟩ := isIntT_inv h1
          exact ⟨h3, equalArr_run (d := 9998) hu hk h2 hsz hcells⟩
        · cases hT
      · cases hT
    refine wp_pure (v := .bool ((cs.all fun c => c.2.1 == c.2.2) != ng)) ?_ r hd (.base (.v _)) hK
    cases ng
    · simp only [cond_false] at ho
      have hbin : (binOp .eql T (.agg vs) (.agg us)).run P w = .ok (.bool (cs.all fun c => c.2.1 == c.2.2)) w := by
        rw [run_eql_struct, hg.2]; rfl
      simp [execOp, ho, hv, hu, run_eqGuard_agg w .eql T x y vs us hg.1, hbin]
    · simp only [cond_true] at ho
      have hbin : (binOp .neq T (.agg vs) (.agg us)).run P w = .ok (.bool (!(cs.all fun c => c.2.1 == c.2.2))) w := by
        rw [run_neq_struct, hg.2]; rfl
      simp [execOp, ho, hv, hu, run_eqGuard_agg w .neq T x y vs us hg.1, hbin]
  · exact h.elim

theorem isNilOp_inv {y : Operand} (h : isNilOp y = true) : y = .const (.slice none 0 0) := by
  unfold isNilOp at h
  split at h
  · rfl
  · cases h

theorem isnil_ok {ng : Bool} {T T' e : TypeId} {x y : Operand} {x' : Opd} (ho : o.op = .binOp (bif ng then .neq else .eql) T x y T') (hT : P.underlying T = some (.slice e))
    (hy : isNilOp y = true) (hx : cOpd x = some x')
    (hd : ∀ d, o.dst = some d → d < N) (r : Rel X N w S κ t m F a) (h : vop (.isnil ng x') t m n K) : o.wp P a w (Post K X N o.dst t m F n) Q := by
  have hr := ev_ok hx r
  have hy' := isNilOp_inv hy
  subst hy'
  have fin : ∀ {ad : Option Addr} {len cap : Nat}, a.eval x = .slice ad len cap → K (.v (.bool (ad.isNone != ng))) [] → o.wp P a w (Post K X N o.dst t m F n) Q := by
    intro ad len cap h1 h2
    have hcv : a.eval (.const (.slice none 0 0)) = .slice none 0 0 := rfl
    refine wp_pure (v := .bool (ad.isNone != ng)) ?_ r hd (.base (.v _)) h2
    have he := equal_slice (P := P) (w := w) hT ad len cap
    cases ng
    · have hb : (binOp .eql T (.slice ad len cap) (.slice none 0 0)).run P w = .ok (.bool ad.isNone) w := by
        rw [show binOp .eql T (.slice ad len cap) (.slice none 0 0) = (do pure (.bool (← Op.equal T (.slice ad len cap) (.slice none 0 0)))) from rfl]
        simp only [Sem.run_bind, he, Result.andThen_ok, Sem.run_pure]
      simp only [cond_false] at ho
      simp [execOp, ho, h1, hcv, eqGuard_slice, hb]
    · have hb : (binOp .neq T (.slice ad len cap) (.slice none 0 0)).run P w = .ok (.bool (!ad.isNone)) w := by
        rw [show binOp .neq T (.slice ad len cap) (.slice none 0 0) = (do pure (.bool (!(← Op.equal T (.slice ad len cap) (.slice none 0 0))))) from rfl]
        simp only [Sem.run_bind, he, Result.andThen_ok, Sem.run_pure]
      simp only [cond_true] at ho
      simp [execOp, ho, h1, hcv, eqGuard_slice, hb]
  simp only [vop] at h
  unfold NilVC at h
  split at h
  · rename_i p q e1
    exact fin (ev_v hx r e1) h
  · rename_i ad p q e1
    exact fin (ev_v hx r e1) h
  · rename_i s xs e1
    rw [e1] at hr
    generalize hv : a.eval x = v at hr
    cases hr with
    | base hr => cases hr with
      | roNil =>
        rename_i ad cap
        refine fin hv ?_
        cases ad with
        | none => exact h.2 rfl
        | some _ => exact h.1
      | ro => exact fin hv h.1
  · rename_i k off len e1
    rw [e1] at hr
    generalize hv : a.eval x = v at hr
    cases hr with
    | base hr => cases hr
    | arrNil => exact fin hv (h.2 rfl)
    | arr0 => exact fin hv h.1
    | arr => exact fin hv h.1
  · exact h.elim

theorem isNilMp_inv {y : Operand} (h : isNilMp y = true) : y = .const (.map none) := by
  unfold isNilMp at h
  split at h
  · rfl
  · cases h

theorem nilm_ok {ng : Bool} {T T' k e : TypeId} {x y : Operand} {x' : Opd} (ho : o.op = .binOp (bif ng then .neq else .eql) T x y T') (hT : P.underlying T = some (.map k e))
    (hy : isNilMp y = true) (hx : cOpd x = some x')
    (hd : ∀ d, o.dst = some d → d < N) (r : Rel X N w S κ t m F a) (h : vop (.nilm ng x') t m n K) : o.wp P a w (Post K X N o.dst t m F n) Q := by
  have hr := ev_ok hx r
  have hy' := isNilMp_inv hy
  subst hy'
  have fin : ∀ {ad : Option Nat}, a.eval x = .map ad → K (.v (.bool (ad.isNone != ng))) [] → o.wp P a w (Post K X N o.dst t m F n) Q := by
    intro ad h1 h2
    have hcv : a.eval (.const (.map none)) = .map none := rfl
    refine wp_pure (v := .bool (ad.isNone != ng)) ?_ r hd (.base (.v _)) h2
    have he := equal_map (P := P) (w := w) hT ad
    cases ng
    · have hb : (binOp .eql T (.map ad) (.map none)).run P w = .ok (.bool ad.isNone) w := by
        rw [show binOp .eql T (.map ad) (.map none) = (do pure (.bool (← Op.equal T (.map ad) (.map none)))) from rfl]
        simp only [Sem.run_bind, he, Result.andThen_ok, Sem.run_pure]
      simp only [cond_false] at ho
      simp [execOp, ho, h1, hcv, eqGuard_map, hb]
    · have hb : (binOp .neq T (.map ad) (.map none)).run P w = .ok (.bool (!ad.isNone)) w := by
        rw [show binOp .neq T (.map ad) (.map none) = (do pure (.bool (!(← Op.equal T (.map ad) (.map none))))) from rfl]
        simp only [Sem.run_bind, he, Result.andThen_ok, Sem.run_pure]
      simp only [cond_true] at ho
      simp [execOp, ho, h1, hcv, eqGuard_map, hb]
  simp only [vop] at h
  split at h
  · rename_i q e1
    rw [e1] at hr
    generalize hv : a.eval x = v at hr
    cases hr with
    | base hr => cases hr
    | mp => exact fin hv h
  · rename_i es e1
    rw [e1] at hr
    generalize hv : a.eval x = v at hr
    cases hr with
    | base hr => cases hr with
      | rm => exact fin hv h
  · rename_i e1
    exact fin (ev_v hx r e1) h
  · exact h.elim

theorem cOpt_ev {x : Option Operand} {x' : Option Opd} {d : Nat} {G : Int → Prop} (h : cOpt x = some x') (r : Rel X N w S κ t m F a) (hb : bnd t d x' G) :
    (x = none ∧ G d) ∨ ∃ y k c, x = some y ∧ a.eval y = .int k c ∧ G c := by
  cases x with
  | none => simp [cOpt] at h; subst h; exact .inl ⟨rfl, hb⟩
  | some y =>
    simp only [cOpt, Option.map_eq_some_iff] at h
    obtain ⟨y', h1, rfl⟩ := h
    simp only [bnd] at hb
    split at hb
    · rename_i k c e1
      exact .inr ⟨y, k, c, rfl, ev_v h1 r e1, hb⟩
    · exact hb.elim

theorem sliceBound_run {k : IntKind} {i : Int} {y : Nat} {code : BoundsCode} (h0 : 0 ≤ i) (h1 : i ≤ y) : (Instr.sliceBound (.int k i) y code).run P w = .ok i.toNat w := by
  simp [Instr.sliceBound, asIntOf, h0, h1]

theorem sliceBounds_run {lo hi : Option Operand} {lo' hi' : Option Opd} {len cap : Nat} {G : Int → Int → Prop}
    (hl : cOpt lo = some lo') (hh : cOpt hi = some hi') (r : Rel X N w S κ t m F a) (hcap : len ≤ cap)
    (h : bnd t 0 lo' fun l => bnd t len hi' fun q => G l q) (hG : ∀ l q, G l q → 0 ≤ l ∧ l ≤ q ∧ q ≤ len) :
    ∃ l q : Int, G l q ∧ (Instr.sliceBounds true len cap (lo.map a.eval) (hi.map a.eval) none).run P w = .ok (l.toNat, q.toNat, cap) w := by
  have fin : ∀ {l q : Int}, G l q → (Instr.sliceBounds true len cap (lo.map a.eval) (hi.map a.eval) none).run P w = .ok (l.toNat, q.toNat, cap) w →
    ∃ l q : Int, G l q ∧ (Instr.sliceBounds true len cap (lo.map a.eval) (hi.map a.eval) none).run P w = .ok (l.toNat, q.toNat, cap) w := fun h1 h2 => ⟨_, _, h1, h2⟩
  rcases cOpt_ev hl r h with ⟨rfl, h⟩ | ⟨y, k, c, rfl, e1, h⟩ <;> rcases cOpt_ev hh r h with ⟨rfl, h⟩ | ⟨y2, k2, c2, rfl, e2, h⟩ <;>
    obtain ⟨g1, g2, g3⟩ := hG _ _ h <;> refine fin h ?_
  · simp [Instr.sliceBounds]
  · simp [Instr.sliceBounds, e2, sliceBound_run (P := P) (w := w) (k := k2) (i := c2) (y := cap) (by omega) (by omega)]
  · simp [Instr.sliceBounds, e1, sliceBound_run (P := P) (w := w) (k := k) (i := c) (y := len) (by omega) (by omega)]
  · simp [Instr.sliceBounds, e1, e2, sliceBound_run (P := P) (w := w) (k := k2) (i := c2) (y := cap) (by omega) (by omega),
      sliceBound_run (P := P) (w := w) (k := k) (i := c) (y := c2.toNat) (by omega) (by omega)]

theorem slc_ok {T e : TypeId} {c : Nat} {x : Operand} {lo hi : Option Operand} {x' : Opd} {lo' hi' : Option Opd} (ho : o.op = .slice T x lo hi none)
    (hT : P.underlying T = some (.slice e)) (hz : sizeT P e = some c) (hx : cOpd x = some x') (hl : cOpt lo = some lo') (hh : cOpt hi = some hi')
    (hd : ∀ d, o.dst = some d → d < N) (r : Rel X N w S κ t m F a) (h : vop (.slc c x' lo' hi') t m n K) : o.wp P a w (Post K X N o.dst t m F n) Q := by
  have hr := ev_ok hx r
  have fin : ∀ {ad : Option Addr} {len cap l q : Nat} {y : AV}, a.eval x = .slice ad len cap →
      (Instr.sliceBounds true len cap (lo.map a.eval) (hi.map a.eval) none).run P w = .ok (l, q, cap) w →
      R w S κ y (.slice (if cap = l then ad else ad.map (·.add (l * c))) (q - l) (cap - l)) → K y [] → o.wp P a w (Post K X N o.dst t m F n) Q :=
    fun {ad len cap l q y} h1 h2 h3 h4 => wp_pure (v := .slice (if cap = l then ad else ad.map (·.add (l * c))) (q - l) (cap - l))
      (by simp [execOp, ho, h1, Instr.sliceAt, Instr.slice, und_run hT, h2, sizeT_run hz]) r hd h3 h4
  simp only [vop] at h
  split at h
  · rename_i s xs e1
    rw [e1] at hr
    generalize hv : a.eval x = v at hr
    cases hr with
    | base hr => cases hr with
      | roNil =>
        rename_i ad cap
        obtain ⟨l, q, hG, hrun⟩ := sliceBounds_run (P := P) (cap := cap) hl hh r (Nat.zero_le _) h (fun l q hG => ⟨hG.2.1, hG.2.2.1, hG.2.2.2.1⟩)
        obtain ⟨rfl, g1, g2, g3, hK⟩ := hG
        simp at g3
        refine fin hv hrun ?_ hK
        have : q.toNat - l.toNat = 0 := by omega
        rw [this]
        simp only [List.take_nil, List.drop_nil]
        exact .base .roNil
      | ro hb hcap hs hc h2 =>
        rename_i b off cap f
        obtain ⟨l, q, hG, hrun⟩ := sliceBounds_run (P := P) (cap := cap) hl hh r hcap h (fun l q hG => ⟨hG.2.1, hG.2.2.1, hG.2.2.2.1⟩)
        obtain ⟨rfl, g1, g2, g3, hK⟩ := hG
        refine fin hv hrun ?_ hK
        have hlen : ((xs.take q.toNat).drop l.toNat).length = q.toNat - l.toNat := by simp; omega
        by_cases hcl : cap = l.toNat
        · have h0 : q.toNat - l.toNat = 0 := by omega
          rw [h0]
          have : (xs.take q.toNat).drop l.toNat = [] := List.eq_nil_of_length_eq_zero (by omega)
          rw [this]
          exact .base .roNil
        · rw [if_neg hcl, Option.map_some, add_none]
          rw [← hlen]
          have hget : ∀ (i : Nat) z, ((xs.take q.toNat).drop l.toNat)[i]? = some z → xs[l.toNat + i]? = some z := fun i z hi => by
            rw [List.getElem?_drop, List.getElem?_take] at hi
            split at hi
            · exact hi
            · cases hi
          refine .base (.ro (c := fun q => f (l.toNat * s + q)) (off := off + l.toNat * s) (cap := cap - l.toNat) hb (by omega) (fun i z hi => hs _ _ (hget i z hi)) (fun p hp => ?_) (fun i z j y hi hj => ?_))
          · rw [hlen] at hp
            have := hc (l.toNat * s + p) (by
              have h3 : l.toNat * s + (q.toNat - l.toNat) * s ≤ xs.length * s := by
                rw [← Nat.add_mul]; exact Nat.mul_le_mul_right _ (by omega)
              omega)
            rw [← Nat.add_assoc] at this
            exact this
          · have := h2 _ _ _ _ (hget i z hi) hj
            rw [Nat.add_mul, Nat.add_assoc] at this
            exact this
  · rename_i k off len e1
    rw [e1] at hr
    split at h
    · rename_i s xs hm
      generalize hv : a.eval x = v at hr
      cases hr with
      | base hr => cases hr
      | arrNil hk hn =>
        obtain ⟨l, q, hG, hrun⟩ := sliceBounds_run (P := P) (cap := 0) hl hh r (Nat.le_refl _) h (fun l q hG => ⟨hG.2.1, hG.2.2.1, hG.2.2.2.1⟩)
        obtain ⟨rfl, g1, g2, g3, hK⟩ := hG
        simp at g3
        refine fin hv hrun ?_ hK
        have e2 : q.toNat = 0 := by omega
        have e3 : l.toNat = 0 := by omega
        rw [e2, e3]
        simpa using R.arrNil hk hn
      | arr0 hk =>
        obtain ⟨l, q, hG, hrun⟩ := sliceBounds_run (P := P) (cap := 0) hl hh r (Nat.le_refl _) h (fun l q hG => ⟨hG.2.1, hG.2.2.1, hG.2.2.2.1⟩)
        obtain ⟨rfl, g1, g2, g3, hK⟩ := hG
        simp at g3
        refine fin hv hrun ?_ hK
        have e2 : q.toNat = 0 := by omega
        have e3 : l.toNat = 0 := by omega
        rw [e2, e3]
        simpa using R.arr0 hk
      | arr hk hn hlen hcap hu =>
        rename_i cap lc
        obtain ⟨l', hk', h2⟩ := r.ent.mm _ _ hm
        rw [hk] at hk'; cases hk'
        rcases h2 with ⟨h2, _⟩ | ⟨_, hsz, _⟩
        · rw [hn] at h2; cases h2
        · obtain ⟨l, q, hG, hrun⟩ := sliceBounds_run (P := P) (cap := cap) hl hh r hlen h (fun l q hG => ⟨hG.2.1, hG.2.2.1, hG.2.2.2.1⟩)
          obtain ⟨rfl, g1, g2, g3, hK⟩ := hG
          refine fin hv hrun ?_ hK
          by_cases hcl : cap = l.toNat
          · have h0 : q.toNat - l.toNat = 0 := by omega
            rw [if_pos hcl, h0, hcl, Nat.sub_self]
            exact .arr0 hk
          · rw [if_neg hcl, Option.map_some, add_none]
            have := R.arr (w := w) (S := S) (k := k) (off := off + l.toNat) (len := q.toNat - l.toNat) (cap := cap - l.toNat) hk hn (by omega) (by omega) (by omega)
            rw [Nat.add_mul, ← Nat.add_assoc, hsz] at this
            rw [hsz]; exact this
    · exact h.elim
  · rename_i e1
    have hv := ev_v hx r e1
    obtain ⟨l, q, hG, hrun⟩ := sliceBounds_run (P := P) (cap := 0) (len := 0) hl hh r (Nat.le_refl _) h (fun l q hG => ⟨by omega, by omega, by omega⟩)
    obtain ⟨rfl, rfl, hK⟩ := hG
    exact fin hv hrun (by simpa using R.base (R0.v _)) hK
  · exact h.elim

end Go.Av
/- Maps whose keys are structs of numbers and truths. -/
namespace Go.Av

variable {P : Program} {w w' : World} {S S' : Nat → Prop} {κ κ' : Nat → Option Loc} {m : Mem} {n N : Nat} {F : Nat → Prop} {t : Tmps} {a : Act} {X : Ctx}
  {K : AV → Mem → Prop} {Q : Exit → Act → World → Prop} {o : Oper}

theorem cellsEq_iff : ∀ {ks : List CK} {c d : List Value}, cksOk ks c = true → cksOk ks d = true → (cellsEq c d = true ↔ c = d)
  | [], [], [], _, _ => by simp [cellsEq]
  | [], _ :: _, _, h, _ => by simp [cksOk] at h
  | [], [], _ :: _, _, h => by simp [cksOk] at h
  | _ :: _, [], _, h, _ => by simp [cksOk] at h
  | _ :: _, _ :: _, [], _, h => by simp [cksOk] at h
  | k :: ks, x :: c, y :: d, h1, h2 => by
    simp only [cksOk, Bool.and_eq_true] at h1 h2
    have ih := cellsEq_iff h1.2 h2.2
    simp only [cellsEq, Bool.and_eq_true, ih, List.cons.injEq]
    refine and_congr_left fun _ => ?_
    have a1 := h1.1
    have a2 := h2.1
    cases k with
    | n k =>
      cases x <;> simp only [ckOk, Bool.false_eq_true, decide_eq_true_eq] at a1
      cases y <;> simp only [ckOk, Bool.false_eq_true, decide_eq_true_eq] at a2
      subst a1 a2
      simp [cellEq]
    | b =>
      cases x <;> simp only [ckOk, Bool.false_eq_true] at a1
      cases y <;> simp only [ckOk, Bool.false_eq_true] at a2
      simp [cellEq]

def kidx (x : List Value) : List (Value × AV) → Option Nat
  | [] => none
  | (q, _) :: r => bif akeyIs x q then some 0 else (kidx x r).map (· + 1)

theorem kidx_lt {x : List Value} {es : List (Value × AV)} {i : Nat} (h : kidx x es = some i) : i < es.length := by
  induction es generalizing i with
  | nil => simp [kidx] at h
  | cons p es ih =>
    obtain ⟨q, y⟩ := p
    simp only [kidx] at h
    cases hq : akeyIs x q with
    | true => rw [hq] at h; simp at h; subst h; simp
    | false =>
      rw [hq] at h
      simp only [cond_false, Option.map_eq_some_iff] at h
      obtain ⟨j, hj, rfl⟩ := h
      have := ih hj; simp; omega

theorem kfind_idx (x : List Value) (es : List (Value × AV)) : kfind x es = (kidx x es).bind fun i => es[i]?.map (·.2) := by
  induction es with
  | nil => rfl
  | cons p es ih =>
    obtain ⟨q, y⟩ := p
    simp only [kfind, kidx]
    cases hq : akeyIs x q with
    | true => rfl
    | false =>
      simp only [cond_false]
      rw [ih]
      cases kidx x es <;> simp

theorem kput_idx (x : List Value) (y : AV) (es : List (Value × AV)) : kput x y es = match kidx x es with | some i => es.set i (.agg x.toArray, y) | none => es ++ [(.agg x.toArray, y)] := by
  induction es with
  | nil => rfl
  | cons p es ih =>
    obtain ⟨q, z⟩ := p
    simp only [kput, kidx]
    cases hq : akeyIs x q with
    | true => rfl
    | false =>
      simp only [cond_false]
      rw [ih]
      cases kidx x es <;> simp

theorem kidx_key {ks : List CK} {x : List Value} {es : List (Value × AV)} {i : Nat} (hx : cksOk ks x = true) (hk : AKeys ks es) (h : kidx x es = some i) : ∃ y, es[i]? = some (.agg x.toArray, y) := by
  induction es generalizing i with
  | nil => simp [kidx] at h
  | cons p es ih =>
    obtain ⟨q, y⟩ := p
    obtain ⟨b, hb, hb'⟩ := hk (q, y) (by simp)
    simp only at hb; subst hb
    simp only [kidx, akeyIs] at h
    cases hc : cellsEq x b.toList with
    | true =>
      rw [hc] at h
      simp only [cond_true, Option.some.injEq] at h
      subst h
      have := (cellsEq_iff hx hb').1 hc
      exact ⟨y, by rw [this]; simp⟩
    | false =>
      rw [hc] at h
      simp only [cond_false, Option.map_eq_some_iff] at h
      obtain ⟨j, hj, rfl⟩ := h
      simpa using ih (fun p hp => hk p (by simp [hp])) hj

theorem ckT_inv {t : TypeId} {k : CK} (h : ckT P t = some k) : (∃ i, k = .n i ∧ P.underlying t = some (.int i)) ∨ (k = .b ∧ P.underlying t = some .bool) := by
  unfold ckT at h
  split at h
  · rename_i i hi; cases h; exact .inl ⟨i, rfl, hi⟩
  · rename_i hi; cases h; exact .inr ⟨rfl, hi⟩
  · cases h

theorem part_ck {t : TypeId} {k : CK} {vs : Array Value} {i : Nat} {v : Value} (hT : ckT P t = some k) (hv : vs[i]? = some v) : (part t vs i).run P w = .ok v w := by
  have hr : isRowT P t = some false := by rcases ckT_inv hT with ⟨j, _, h⟩ | ⟨_, h⟩ <;> simp [isRowT, h]
  simp [part, isAgg_run hr, hv]

theorem cksOk_get : ∀ {ks : List CK} {c : List Value}, cksOk ks c = true → ks.length = c.length ∧ ∀ (i : Nat) k v, ks[i]? = some k → c[i]? = some v → ckOk k v = true
  | [], [], _ => ⟨rfl, fun i k v h => by simp at h⟩
  | [], _ :: _, h => by simp [cksOk] at h
  | _ :: _, [], h => by simp [cksOk] at h
  | k :: ks, x :: c, h => by
    simp only [cksOk, Bool.and_eq_true] at h
    obtain ⟨h1, h2⟩ := cksOk_get h.2
    refine ⟨by simp [h1], fun i k' v' h3 h4 => ?_⟩
    cases i with
    | zero => simp at h3 h4; subst h3 h4; exact h.1
    | succ i => simp at h3 h4; exact h2 i k' v' h3 h4

theorem eqIn_ck {t : TypeId} {k : CK} {x y : Value} {d : Nat} (hT : ckT P t = some k) (hx : ckOk k x = true) (hy : ckOk k y = true) : (Op.equalIn (d + 1) t x y).run P w = .ok (cellEq x y) w := by
  rcases ckT_inv hT with ⟨i, rfl, h⟩ | ⟨rfl, h⟩
  · cases x <;> simp only [ckOk, Bool.false_eq_true, decide_eq_true_eq] at hx
    cases y <;> simp only [ckOk, Bool.false_eq_true, decide_eq_true_eq] at hy
    subst hx hy
    rw [run_equalIn_int w d t _ _ _ _ h]
    rfl
  · cases x <;> simp only [ckOk, Bool.false_eq_true] at hx
    cases y <;> simp only [ckOk, Bool.false_eq_true] at hy
    rw [run_equalIn_bool' w d t _ _ h]
    rename_i a b
    cases a <;> cases b <;> rfl

theorem eqFields_ck {vs us : Array Value} {d : Nat} : ∀ {fs : List Field} {i : Nat} {ks : List CK} {c e : List Value}, cksF P i fs = some ks → cksOk ks c = true → cksOk ks e = true →
    (∀ (j : Nat) x, c[j]? = some x → vs[i + j]? = some x) → (∀ (j : Nat) x, e[j]? = some x → us[i + j]? = some x) → (Op.eqFields (d + 1) vs us fs).run P w = .ok (cellsEq c e) w
  | [], i, ks, c, e, hf, hc, he, _, _ => by
    simp only [cksF, Option.some.injEq] at hf
    subst hf
    cases c <;> simp only [cksOk, Bool.false_eq_true] at hc
    cases e <;> simp only [cksOk, Bool.false_eq_true] at he
    simp [Op.eqFields, cellsEq]
  | f :: fs, i, ks, c, e, hf, hc, he, h1, h2 => by
    simp only [cksF] at hf
    split at hf
    · rename_i hb
      simp only [Bool.and_eq_true, bne_iff_ne, ne_eq, beq_iff_eq] at hb
      split at hf
      · rename_i k ks' hk hks
        cases hf
        cases c with
        | nil => simp [cksOk] at hc
        | cons x c =>
        cases e with
        | nil => simp [cksOk] at he
        | cons y e =>
        simp only [cksOk, Bool.and_eq_true] at hc he
        have ha := h1 0 x rfl
        have hb' := h2 0 y rfl
        rw [Nat.add_zero] at ha hb'
        have ih := eqFields_ck (fs := fs) (i := i + 1) (d := d) hks hc.2 he.2 (fun j c hj => by have := h1 (j + 1) c hj; rwa [show i + (j + 1) = i + 1 + j by omega] at this)
          (fun j c hj => by have := h2 (j + 1) c hj; rwa [show i + (j + 1) = i + 1 + j by omega] at this)
        simp only [Op.eqFields, ne_eq, hb.1, not_false_eq_true, if_true, Sem.run_bind]
        rw [hb.2, part_ck hk ha, Result.andThen_ok, part_ck hk hb', Result.andThen_ok, eqIn_ck hk hc.1 he.1, Result.andThen_ok]
        cases hh : cellEq x y with
        | true => simp [cellsEq, hh, ih]
        | false => simp [cellsEq, hh]
      · cases hf
    · cases hf

theorem mapK_inv {T : TypeId} {ks : List CK} {z : AV} (h : mapK P T = some (ks, z)) : ∃ k e zv fs, P.underlying T = some (.map k e) ∧ P.underlying k = some (.struct fs) ∧ P.stoodInHeld k = false ∧ cksF P 0 fs.toList = some ks ∧
    (∀ w, (zeroValue e).run P w = .ok zv w) ∧ ∀ w S, R0 w S z zv := by
  unfold mapK at h
  split at h
  · rename_i k e hT
    split at h
    · rename_i fs zv hk he
      split at h
      · rename_i hs
        split at h
        · rename_i ks' hks
          simp only [Option.some.injEq, Prod.mk.injEq] at h
          obtain ⟨rfl, rfl⟩ := h
          obtain ⟨i, hi, hz⟩ := Option.bind_eq_some_iff.1 he
          exact ⟨k, e, zv, fs, hT, hk, by simpa using hs, hks, fun w => by simp [zeroValue, typeInfo, hi, hz], fun w S => zeroAV_R0 zv⟩
        · simp at h
      · simp at h
    · simp at h
  · simp at h

theorem equalIn_key {T : TypeId} {fs : Array Field} {ks : List CK} {c e : List Value} {d : Nat} (hT : P.underlying T = some (.struct fs)) (hs : P.stoodInHeld T = false) (hf : cksF P 0 fs.toList = some ks) (hc : cksOk ks c = true) (he : cksOk ks e = true) :
    (Op.equalIn (d + 2) T (.agg c.toArray) (.agg e.toArray)).run P w = .ok (cellsEq c e) w := by
  have hfo : P.fieldsOf T = fs := by simp [Program.fieldsOf, hT]
  rw [run_equalIn_agg w (d + 1) T _ _ (by rw [hfo]; exact hT) hs, hfo]
  exact eqFields_ck hf hc he (fun j x h => by simpa using h) (fun j x h => by simpa using h)

theorem findAsking_key {T : TypeId} {fs : Array Field} {ks : List CK} {c : List Value} (hT : P.underlying T = some (.struct fs)) (hs : P.stoodInHeld T = false) (hf : cksF P 0 fs.toList = some ks) (hc : cksOk ks c = true) :
    ∀ {es : List (Value × AV)} {ents : List MapEntry} (i : Nat), EntsR w S es ents → AKeys ks es →
    (Instr.findAsking T (.agg c.toArray) ents i).run P w = .ok ((kidx c es).bind fun j => ents[j]?.map fun e => (i + j, e.val)) w := by
  intro es
  induction es with
  | nil => intro ents i h hk; have : ents = [] := List.eq_nil_of_length_eq_zero (by have := h.1; simpa using this.symm); subst this; simp [Instr.findAsking, kidx]
  | cons p es ih =>
    intro ents i h hk
    cases ents with
    | nil => have := h.1; simp at this
    | cons e ents =>
      obtain ⟨⟨h1, h2⟩, h3⟩ := h.tail
      obtain ⟨q, y⟩ := p
      obtain ⟨b, hb, hb'⟩ := hk (q, y) (by simp)
      simp only at hb h1; subst hb
      have heq : (Op.equal T (.agg c.toArray) e.key).run P w = .ok (cellsEq c b.toList) w := by
        rw [h1]
        have := equalIn_key (w := w) (d := 9998) hT hs hf hc hb'
        simpa [Op.equal, Op.maxDepth] using this
      simp only [Instr.findAsking, Sem.run_bind, heq, Result.andThen_ok, kidx, akeyIs]
      cases hc2 : cellsEq c b.toList with
      | true => simp
      | false =>
        simp only [Bool.false_eq_true, if_false, cond_false]
        rw [ih (i + 1) h3 (fun p hp => hk p (by simp [hp]))]
        cases kidx c es with
        | none => rfl
        | some j => simp [Nat.add_assoc, Nat.add_comm 1]

theorem findKey_key {T : TypeId} {fs : Array Field} {ks : List CK} {c : List Value} {es : List (Value × AV)} {ents : List MapEntry} (hT : P.underlying T = some (.struct fs)) (hs : P.stoodInHeld T = false) (hf : cksF P 0 fs.toList = some ks)
    (hc : cksOk ks c = true) (h : EntsR w S es ents) (hk : AKeys ks es) :
    (Instr.findKey T (.agg c.toArray) ents).run P w = .ok ((kidx c es).bind fun j => ents[j]?.map fun e => (j, e.val)) w := by
  have ha := findAsking_key hT hs hf hc 0 h hk
  simp only [Nat.zero_add] at ha
  simp only [Instr.findKey, Sem.run_bind, und_run hT, Result.andThen_ok]
  cases ents with
  | nil =>
    have : es = [] := List.eq_nil_of_length_eq_zero (by have := h.1; simpa using this)
    subst this
    simp [Instr.findNow, kidx]
  | cons e ents =>
    simp only [Instr.findNow, Instr.sameNow]
    exact ha

theorem checkKey_ck {b : Bool} {t : TypeId} {k : CK} {x : Value} {d : Nat} (hT : ckT P t = some k) (hx : ckOk k x = true) : (Instr.checkKey b (d + 1) t x).run P w = .ok () w := by
  unfold Instr.checkKey
  rcases ckT_inv hT with ⟨i, rfl, h⟩ | ⟨rfl, h⟩
  · cases x <;> simp only [ckOk, Bool.false_eq_true] at hx
    rw [Sem.run_bind, und_run h]; rfl
  · cases x <;> simp only [ckOk, Bool.false_eq_true] at hx
    rw [Sem.run_bind, und_run h]; rfl

theorem checkFields {b : Bool} {d : Nat} {vs : Array Value} : ∀ {fs : List Field} {i : Nat} {ks : List CK} {c : List Value}, cksF P i fs = some ks → cksOk ks c = true →
    (∀ (j : Nat) x, c[j]? = some x → vs[i + j]? = some x) →
    (forIn fs PUnit.unit fun (f : Field) (_ : PUnit) => if f.name ≠ "_" then (do
        let v ← part f.type vs f.offset
        Instr.checkKey b (d + 1) f.type v
        pure (ForInStep.yield PUnit.unit))
      else pure (ForInStep.yield PUnit.unit)).run P w = .ok PUnit.unit w
  | [], i, ks, c, hf, hc, _ => by simp
  | f :: fs, i, ks, c, hf, hc, h1 => by
    simp only [cksF] at hf
    split at hf
    · rename_i hb
      simp only [Bool.and_eq_true, bne_iff_ne, ne_eq, beq_iff_eq] at hb
      split at hf
      · rename_i k ks' hk hks
        cases hf
        cases c with
        | nil => simp [cksOk] at hc
        | cons x c =>
        simp only [cksOk, Bool.and_eq_true] at hc
        have ha := h1 0 x rfl
        rw [Nat.add_zero] at ha
        have ih := checkFields (fs := fs) (i := i + 1) (d := d) (b := b) hks hc.2 (fun j c hj => by have := h1 (j + 1) c hj; rwa [show i + (j + 1) = i + 1 + j by omega] at this)
        have hk1 : f.name ≠ "_" := hb.1
        simp only [List.forIn_cons, Sem.run_bind, hk1, ne_eq, not_false_eq_true, if_true, hb.2, part_ck hk ha, Result.andThen_ok, checkKey_ck hk hc.1, Sem.run_pure]
        exact ih
      · cases hf
    · cases hf

theorem checkKey_key {b : Bool} {T : TypeId} {fs : Array Field} {ks : List CK} {c : List Value} (hT : P.underlying T = some (.struct fs)) (hf : cksF P 0 fs.toList = some ks) (hc : cksOk ks c = true) :
    (Instr.checkKey b 10000 T (.agg c.toArray)).run P w = .ok () w := by
  rw [show Instr.checkKey b 10000 T (.agg c.toArray) = Instr.checkKey b (9999 + 1) T (.agg c.toArray) from rfl]
  unfold Instr.checkKey
  rw [Sem.run_bind, und_run hT, Result.andThen_ok]
  have := checkFields (P := P) (w := w) (b := b) (d := 9998) (vs := c.toArray) hf hc (fun j x h => by simpa using h)
  simp only [← Array.forIn_toList, Sem.run_bind]
  rw [this]
  rfl

theorem EntsR.getk {es : List (Value × AV)} {ents : List MapEntry} (h : EntsR w S es ents) {x : List Value} : (kidx x es).bind (fun j => ents[j]?.map fun e => (j, e.val)) = none ∧ kfind x es = none ∨
    ∃ j e y, (kidx x es).bind (fun j => ents[j]?.map fun e => (j, e.val)) = some (j, e.val) ∧ kidx x es = some j ∧ ents[j]? = some e ∧ kfind x es = some y ∧ R0 w S y e.val := by
  rw [kfind_idx]
  cases hm : kidx x es with
  | none => exact .inl ⟨rfl, rfl⟩
  | some j =>
    have hj := kidx_lt hm
    have hj' : j < ents.length := by rw [← h.1]; exact hj
    refine .inr ⟨j, ents[j], es[j].2, by simp [hj'], rfl, by simp [hj'], by simp [hj], (h.2 j es[j] ents[j] (by simp [hj]) (by simp [hj'])).2⟩

theorem valsL_get : ∀ {xs : List AV} {c : List Value}, valsL xs = some c → xs = c.map .v
  | [], c, h => by simp only [valsL, Option.some.injEq] at h; subst h; rfl
  | x :: r, c, h => by
    cases x <;> simp only [valsL, reduceCtorEq, Option.map_eq_some_iff] at h
    obtain ⟨d, hd, rfl⟩ := h
    rw [List.map_cons, ← valsL_get hd]

theorem key_val {x : Operand} {x' : Opd} {xs : List AV} {c : List Value} (hx : cOpd x = some x') (r : Rel X N w S κ t m F a) (e : ev t x' = .agg xs) (hc : valsL xs = some c) : a.eval x = .agg c.toArray := by
  have hr := ev_ok hx r
  rw [e, valsL_get hc] at hr
  obtain ⟨vs, hv, hl, hR⟩ := hr.agg_inv
  rw [hv]
  congr 1
  apply Array.ext
  · simp at hl; simp [hl]
  · intro i h1 h2
    have := hR i (.v c[i]) vs[i] (by simp at h2; simp [h2]) (by simp [h1])
    have := this.v_inv
    simp [this]

theorem aget_ok {T : TypeId} {ks : List CK} {z : AV} {ok : Bool} {x i : Operand} {x' i' : Opd} (ho : o.op = .lookup T x i ok) (hT : mapK P T = some (ks, z)) (hx : cOpd x = some x') (hi : cOpd i = some i')
    (hd : ∀ d, o.dst = some d → d < N) (r : Rel X N w S κ t m F a) (h : vop (.aget ks z ok x' i') t m n K) : o.wp P a w (Post K X N o.dst t m F n) Q := by
  simp only [vop] at h
  split at h
  · rename_i xs e1
    obtain ⟨kt, et, zv, fs, g1, g2, gs, gf, g3, g4⟩ := mapK_inv (P := P) hT
    obtain ⟨es, ⟨b, hc1, hc2, hk, hK⟩, hv⟩ := mapE_run r.ent (ev_ok hx r) h
    have hi' := key_val hi r e1 hc1
    have key : ∃ v : Value, (Instr.lookup T (a.eval x) (a.eval i) ok).run P w = .ok (if ok then .tuple #[v, .bool (kfind b es).isSome] else v) w ∧ R0 w S ((kfind b es).getD z) v := by
      rcases hv with ⟨hv, rfl⟩ | ⟨bl, ents, clock, hv, hb, hE⟩
      · have hf : (Instr.findKey kt (.agg b.toArray) []).run P w = .ok none w := findKey_key (w := w) (S := S) (es := []) (ents := []) g2 gs gf hc2 ⟨rfl, fun i p e h => by simp at h⟩ hk
        refine ⟨zv, ?_, g4 _ _⟩
        simp only [Instr.lookup, hv, hi', Sem.run_bind, und_run g1, Result.andThen_ok, Sem.run_pure, checkKey_key g2 gf hc2, hf, g3, kfind, Option.isSome_none]
      · have hg := getObj_run (P := P) hb (by simp)
        rcases hE.getk (x := b) with ⟨q1, q2⟩ | ⟨j, e, y, q1, _, q3, q4, q5⟩
        · refine ⟨zv, ?_, by rw [q2]; exact g4 _ _⟩
          simp only [Instr.lookup, hv, hi', Sem.run_bind, und_run g1, Result.andThen_ok, Sem.run_pure, hg, checkKey_key g2 gf hc2, findKey_key g2 gs gf hc2 hE hk, q1, g3, q2, Option.isSome_none]
        · refine ⟨e.val, ?_, by rw [q4]; exact q5⟩
          simp only [Instr.lookup, hv, hi', Sem.run_bind, und_run g1, Result.andThen_ok, Sem.run_pure, hg, checkKey_key g2 gf hc2, findKey_key g2 gs gf hc2 hE hk, q1, q4, Option.isSome_some]
    obtain ⟨v, hrun, hR⟩ := key
    refine wp_pure (v := if ok then .tuple #[v, .bool (kfind b es).isSome] else v) ?_ r hd ?_ hK
    · simp [execOp, ho, hrun]
    · cases ok with
      | false => exact .base hR
      | true =>
        refine .base (.tup rfl (fun i x y h1 h2 => ?_))
        match i, h1, h2 with
        | 0, h1, h2 => simp at h1 h2; subst h1 h2; exact hR
        | 1, h1, h2 => simp at h1 h2; subst h1 h2; exact .v _
        | i + 2, h1, _ => simp at h1
  · exact h.elim

theorem ck_same {n : Nat} {k : CK} {x : Value} (h : ckOk k x = true) : Instr.sameBits n x x = true := by
  cases k with
  | n k => cases x <;> simp only [ckOk, Bool.false_eq_true] at h
           unfold Instr.sameBits; simp
  | b => cases x <;> simp only [ckOk, Bool.false_eq_true] at h
         unfold Instr.sameBits; simp
theorem keyStaysK {ks : List CK} {c : List Value} (hc : cksOk ks c = true) : (Instr.keyThatStays (.agg c.toArray) (.agg c.toArray)).run P w = .ok (.agg c.toArray) w := by
  have h : Instr.sameBits 10000 (.agg c.toArray) (.agg c.toArray) = true := by
    rw [show Instr.sameBits 10000 (.agg c.toArray) (.agg c.toArray) = Instr.sameBits (9999 + 1) (.agg c.toArray) (.agg c.toArray) from rfl]
    unfold Instr.sameBits
    simp only [beq_self_eq_true, Bool.true_and, List.all_eq_true]
    rintro ⟨x, y⟩ hm
    obtain ⟨i, hi, he⟩ := List.getElem_of_mem hm
    simp only [List.getElem_zip, Prod.mk.injEq] at he
    obtain ⟨rfl, rfl⟩ := he
    obtain ⟨h1, h2⟩ := cksOk_get hc
    simp only [List.length_zip, Nat.min_self] at hi
    exact ck_same (h2 i ks[i] c[i] (by simp [h1, hi]) (by simp [hi]))
  simp only [Instr.keyThatStays, h, if_true, Sem.run_pure]

theorem aset_ok {T : TypeId} {ks : List CK} {z : AV} {x i y : Operand} {x' i' y' : Opd} (ho : o.op = .mapUpdate T x i y) (hT : mapK P T = some (ks, z)) (hx : cOpd x = some x') (hi : cOpd i = some i') (hy : cOpd y = some y')
    (hd : ∀ d, o.dst = some d → d < N) (r : Rel X N w S κ t m F a) (h : vop (.aset ks x' i' y') t m n K) : o.wp P a w (Post K X N o.dst t m F n) Q := by
  simp only [vop] at h
  split at h
  · rename_i k' xs e1 e2
    split at h
    · rename_i es hk'
      obtain ⟨b, hc1, hc2, hk, hkd, hK⟩ := h
      have hi' := key_val hi r e2 hc1
      have hr := ev_ok hx r
      rw [e1] at hr
      obtain ⟨l, hl, hn, hv⟩ := hr.mp_inv
      obtain ⟨l', q1, _, ents, clock, hb, q2, q3, q4, q5⟩ := r.ent.mm _ _ hk'
      rw [hl] at q1; cases q1
      have hE : EntsR w S es ents.toList := ⟨by simpa using q2, fun i p e h1 h2 => q5 i p e h1 (by simpa using h2)⟩
      obtain ⟨kt, et, zv, fs, g1, g2, gs, gf, g3, g4⟩ := mapK_inv (P := P) hT
      have hyR := kd_R0 (ev_ok hy r) hkd
      have hg := getObj_run (P := P) hb (by simp)
      have hlt : l.b < w.heap.size := (r.ent.own1 _ _ _ hk' hl hn).2
      have fin : ∀ (ents' : Array MapEntry) (clock' : Nat), (Instr.mapUpdate T (a.eval x) (a.eval i) (a.eval y)).run P w = .ok () { w with heap := w.heap.setIfInBounds l.b (.map ents' clock') } →
          (kput b (ev t y') es).length = ents'.size → (∀ (i : Nat) e, ents'[i]? = some e → e.born < clock') → (∀ (i j : Nat) e e', ents'[i]? = some e → ents'[j]? = some e' → e.born = e'.born → i = j) →
          (∀ (i : Nat) p e, (kput b (ev t y') es)[i]? = some p → ents'[i]? = some e → e.key = p.1 ∧ R0 w S p.2 e.val) → o.wp P a w (Post K X N o.dst t m F n) Q := fun ents' clock' hrun f1 f2 f3 f4 => by
        have hw : ∀ b', b' ≠ l.b → ({ w with heap := w.heap.setIfInBounds l.b (.map ents' clock') } : World).heap[b']? = w.heap[b']? := fun b' hb' => by simp [Ne.symm hb']
        have hS : ∀ b', S b' → ({ w with heap := w.heap.setIfInBounds l.b (.map ents' clock') } : World).heap[b']? = w.heap[b']? := fun b' hb' => hw b' (fun hh => (r.ent.own1 _ _ _ hk' hl hn).1 (hh ▸ hb'))
        refine wp_skipped (w' := { w with heap := w.heap.setIfInBounds l.b (.map ents' clock') }) ?_ ⟨_, _, S, κ, hK, (r.set (o' := .map (kput b (ev t y') es)) hk' hl hn (by simp) hw ?_ (.base (.v undef)) hd rfl rfl rfl).free fun _ h => h.1⟩
        · simp [execOp, ho, hrun]
        · exact ⟨l, hl, hn, ents', clock', by simp [hlt], f1, f2, f3, fun i p e h1 h2 => ⟨(f4 i p e h1 h2).1, (f4 i p e h1 h2).2.mono hS (fun _ h => h)⟩⟩
      rcases hE.getk (x := b) with ⟨s1, s2⟩ | ⟨j, e, y0, s1, s2, s3, s4, s5⟩
      · have hmi : kidx b es = none := by
          cases hm : kidx b es with
          | none => rfl
          | some j =>
            have hj := kidx_lt hm
            have hj' : j < ents.size := by rw [← q2]; exact hj
            rw [hm] at s1; simp [hj'] at s1
        have hput : kput b (ev t y') es = es ++ [(.agg b.toArray, ev t y')] := by rw [kput_idx, hmi]
        refine fin (ents.push ⟨.agg b.toArray, a.eval y, clock⟩) (clock + 1) ?_ (by rw [hput]; simp [q2]) (fun i e h1 => ?_) (fun i j e e' h1 h2 hbb => ?_) (fun i p e h1 h2 => ?_)
        · simp only [Instr.mapUpdate, hv, hi', Sem.run_bind, und_run g1, Result.andThen_ok, hg, checkKey_key g2 gf hc2, findKey_key g2 gs gf hc2 hE hk, s1, setObj_run (P := P) hb (by simp)]
        · rw [Array.getElem?_push] at h1
          split at h1
          · simp at h1; subst h1; exact Nat.lt_succ_self _
          · have := q3 i e h1; omega
        · rw [Array.getElem?_push] at h1 h2
          split at h1 <;> split at h2
          · omega
          · simp at h1; subst h1; have := q3 j e' h2; simp at hbb; omega
          · simp at h2; subst h2; have := q3 i e h1; simp at hbb; omega
          · exact q4 i j e e' h1 h2 hbb
        · rw [hput] at h1
          rw [Array.getElem?_push] at h2
          split at h2
          · rename_i hi2
            subst hi2
            rw [← q2, List.getElem?_append_right (Nat.le_refl _)] at h1
            simp at h1 h2; subst h1 h2; exact ⟨rfl, hyR⟩
          · rename_i hi2
            have : i < ents.size := (Array.getElem?_eq_some_iff.1 h2).1
            rw [List.getElem?_append_left (by omega)] at h1
            exact q5 i p e h1 h2
      · have hput : kput b (ev t y') es = es.set j (.agg b.toArray, ev t y') := by rw [kput_idx, s2]
        have hj : j < es.length := kidx_lt s2
        have hj' : j < ents.size := by rw [← q2]; exact hj
        obtain ⟨y1, hy1⟩ := kidx_key hc2 hk s2
        have hkey : (ents[j]?).map (·.key) = some (.agg b.toArray) := by
          have := (q5 j _ ents[j] hy1 (by simp [hj'])).1
          simp [hj', this]
        refine fin (ents.modify j fun e => { e with key := .agg b.toArray, val := a.eval y }) clock ?_ (by rw [hput]; simp [q2]) (fun i e h1 => ?_) (fun i j e e' h1 h2 hbb => ?_) (fun i p e h1 h2 => ?_)
        · simp only [Instr.mapUpdate, hv, hi', Sem.run_bind, und_run g1, Result.andThen_ok, hg, checkKey_key g2 gf hc2, findKey_key g2 gs gf hc2 hE hk, s1, hkey, Option.getD_some, keyStaysK hc2, setObj_run (P := P) hb (by simp)]
        · rw [Array.getElem?_modify] at h1
          split at h1
          · simp only [Option.map_eq_some_iff] at h1
            obtain ⟨e0, h0, rfl⟩ := h1; exact q3 i e0 h0
          · exact q3 i e h1
        · have born : ∀ (j i : Nat) (e : MapEntry), (ents.modify j fun e => { e with key := .agg b.toArray, val := a.eval y })[i]? = some e → ∃ e0, ents[i]? = some e0 ∧ e0.born = e.born := fun j i e h => by
            rw [Array.getElem?_modify] at h
            split at h
            · simp only [Option.map_eq_some_iff] at h
              obtain ⟨e0, h0, rfl⟩ := h; exact ⟨e0, h0, rfl⟩
            · exact ⟨e, h, rfl⟩
          obtain ⟨e0, z1, z2⟩ := born _ i e h1
          obtain ⟨e0', z3, z4⟩ := born _ j e' h2
          exact q4 i j e0 e0' z1 z3 (by omega)
        · rw [hput] at h1
          rw [Array.getElem?_modify] at h2
          rw [List.getElem?_set] at h1
          by_cases hij : j = i
          · subst hij
            rw [if_pos rfl] at h1
            rw [if_pos rfl] at h2
            simp [hj] at h1
            simp [hj'] at h2
            subst h1 h2; exact ⟨rfl, hyR⟩
          · rw [if_neg hij] at h1 h2
            exact q5 i p e h1 h2
    · exact h.elim
  · exact h.elim

end Go.Av
