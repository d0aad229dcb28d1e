/- What an operation asks is enough: addresses, calls, building; all operations. -/
import Derived.Test.YtblakcgmngdhmaaAvG
namespace Go.Av

variable {P : Program} {w w' : World} {S S' : Nat → Prop} {κ κ' : Nat → Option Loc} {m : Mem} {n N : Nat} {F : Nat → Prop} {t : Tmps} {a : Act} {X : Ctx}
  {K : AV → Mem → Prop} {Q : Exit → Act → World → Prop} {o : Oper}

theorem add_none (b off j : Nat) : (⟨b, off, none⟩ : Addr).add j = ⟨b, off + j, none⟩ := by unfold Addr.add; split <;> simp_all

theorem und_run {T : TypeId} {d : TypeDesc} (h : P.underlying T = some d) : (underlying T).run P w = .ok d w := by simp [underlying, h]

theorem faddr_ok {s : TypeId} {fs : Array Field} {f c : Nat} {fd : Field} {x : Operand} {x' : Opd} (ho : o.op = .fieldAddr s x f) (hs : P.underlying s = some (.struct fs))
    (hf : fs[f]? = some fd) (hz : sizeT P fd.type = some (c + 1)) (hx : cOpd x = some x')
    (hd : ∀ d, o.dst = some d → d < N) (r : Rel X N w S κ t m F a) (h : vop (.faddr fd.offset x') t m n K) : o.wp P a w (Post K X N o.dst t m F n) Q := by
  have hr := ev_ok hx r
  have fin : ∀ {b off : Nat} {y : AV}, a.eval x = .pointer (some ⟨b, off, none⟩) → R w S κ y (.pointer (some ⟨b, off + fd.offset, none⟩)) → K y [] → o.wp P a w (Post K X N o.dst t m F n) Q :=
    fun {b off y} h1 h3 h4 => wp_pure (v := .pointer (some ⟨b, off + fd.offset, none⟩))
      (by simp [execOp, ho, h1, Instr.fieldAt, Instr.sureAddr, und_run hs, hf, fieldPlace, sizeT_run hz, add_none]) r hd h3 h4
  simp only [vop] at h
  split at h
  · rename_i k off e
    rw [e] at hr
    obtain ⟨l, hk, hp⟩ := hr.ptr_inv
    exact fin hp (by rw [Nat.add_assoc]; exact .ptr hk) h
  · rename_i cs e
    rw [e] at hr
    obtain ⟨b, off, f, hv, hb, h1, h2⟩ := hr.rp_inv
    refine fin hv (.base (.rp (c := fun j => f (fd.offset + j)) hb (fun j hj => ?_) (fun j y hj => ?_))) h.2
    · rw [Nat.add_assoc]; exact h1 _ (by simp at hj; omega)
    · rw [List.getElem?_drop] at hj; exact h2 _ _ hj
  · rename_i k i j e
    rw [e] at hr
    obtain ⟨l, hk, hn, hp⟩ := hr.elt_inv
    exact fin hp (by rw [Nat.add_assoc]; exact .elt hk hn) h
  · exact h.elim

theorem part_run {T : TypeId} {c : Option Nat} {vs : Array Value} {xs : List AV} {off : Nat} {G : AV → Prop} (hT : ldT P T = some c) (hl : xs.length = vs.size)
    (hR : ∀ (i : Nat) x y, xs[i]? = some x → vs[i]? = some y → R w S κ x y) (h : ldc c xs off G) : ∃ v y, (part T vs off).run P w = .ok v w ∧ R w S κ y v ∧ G y := by
  unfold ldT at hT
  cases hr : isRowT P T with
  | none => simp [hr] at hT
  | some rw =>
    cases hs : sizeT P T with
    | none => cases rw <;> simp [hr, hs] at hT
    | some k =>
      cases rw with
      | true =>
        simp [hr, hs] at hT; subst hT
        simp only [ldc] at h
        refine ⟨.agg (vs.extract off (off + k)), _, by simp [part, isAgg_run hr, sizeT_run hs], ?_, h.2⟩
        refine .agg (by simp; omega) (fun i x y h1 h2 => ?_)
        have hik : i < k := by have := (List.getElem?_eq_some_iff.1 h1).1; simp at this; omega
        rw [List.getElem?_take_of_lt hik, List.getElem?_drop] at h1
        rw [Array.getElem?_extract_of_lt (by omega)] at h2
        exact hR _ _ _ h1 (by rw [Array.getElem?_eq_getElem (by omega)]; exact h2)
      | false =>
        have hk : k = 1 ∧ c = none := by
          cases k with
          | zero => simp [hr, hs] at hT
          | succ k => cases k with
            | zero => simp [hr, hs] at hT; exact ⟨rfl, hT.symm⟩
            | succ k => simp [hr, hs] at hT
        obtain ⟨rfl, rfl⟩ := hk
        simp only [ldc] at h
        obtain ⟨y, hy, hG⟩ := h
        have hd : off < vs.size := by rw [← hl]; exact (List.getElem?_eq_some_iff.1 hy).1
        exact ⟨vs[off], y, by simp [part, isAgg_run hr, hd], hR _ _ _ hy (by simp [hd]), hG⟩

theorem fld_ok {s : TypeId} {fs : Array Field} {f : Nat} {c : Option Nat} {fd : Field} {x : Operand} {x' : Opd} (ho : o.op = .field s x f) (hs : P.underlying s = some (.struct fs))
    (hf : fs[f]? = some fd) (hz : ldT P fd.type = some c) (hx : cOpd x = some x')
    (hd : ∀ d, o.dst = some d → d < N) (r : Rel X N w S κ t m F a) (h : vop (.fld c fd.offset x') t m n K) : o.wp P a w (Post K X N o.dst t m F n) Q := by
  have hr := ev_ok hx r
  simp only [vop] at h
  split at h
  · rename_i cs e
    rw [e] at hr
    obtain ⟨vs, hv, hl, h2⟩ := hr.agg_inv
    obtain ⟨v, y, h4, h5, h6⟩ := part_run (P := P) (w := w) hz hl h2 h
    exact wp_pure (v := v) (by simp [execOp, ho, Instr.field, und_run hs, hf, hv, asAgg, h4]) r hd h5 h6
  · exact h.elim

theorem iaddr_ok {T e : TypeId} {c : Nat} {x i : Operand} {x' i' : Opd} (ho : o.op = .indexAddr T x i) (hT : P.underlying T = some (.slice e)) (hz : sizeT P e = some c)
    (hx : cOpd x = some x') (hi : cOpd i = some i')
    (hd : ∀ d, o.dst = some d → d < N) (r : Rel X N w S κ t m F a) (h : vop (.iaddr c x' i') t m n K) : o.wp P a w (Post K X N o.dst t m F n) Q := by
  have hr := ev_ok hx r
  have fin : ∀ {b off len cap : Nat} {y : AV} {k : IntKind} {j : Int}, a.eval x = .slice (some ⟨b, off, none⟩) len cap → a.eval i = .int k j → 0 ≤ j → j < len →
      R w S κ y (.pointer (some ⟨b, off + j.toNat * c, none⟩)) → K y [] → o.wp P a w (Post K X N o.dst t m F n) Q :=
    fun {b off len cap y k j} h1 h2 h3 h4 h5 h6 => wp_pure (v := .pointer (some ⟨b, off + j.toNat * c, none⟩))
      (by simp [execOp, ho, h1, h2, Instr.indexAt, asIntOf, und_run hT, h3, h4, sizeT_run hz, add_none]) r hd h5 h6
  simp only [vop] at h
  split at h
  · rename_i s xs k j e1 e2
    rw [e1] at hr
    have hj := ev_v hi r e2
    obtain ⟨rfl, h0, y, hy, hK⟩ := h
    have hlt : j.toNat < xs.length := (List.getElem?_eq_some_iff.1 hy).1
    generalize hv : a.eval x = v at hr
    cases hr with
    | base hr => cases hr with
      | roNil => simp at hlt
      | ro hb hcap hs hc h2 =>
        rename_i b off cap f
        have hsz := (hs _ _ hy).1
        refine fin hv hj h0 (by omega) (.base (.rp (c := fun q => f (j.toNat * s + q)) hb (fun q hq => ?_) (fun q z hq => ?_))) hK
        · rw [Nat.add_assoc]
          refine hc _ ?_
          have : (j.toNat + 1) * s ≤ xs.length * s := Nat.mul_le_mul_right _ (by omega)
          rw [Nat.add_mul, Nat.one_mul] at this; omega
        · exact h2 _ _ _ _ hy hq
  · rename_i k off len k' j e1 e2
    rw [e1] at hr
    have hj := ev_v hi r e2
    split at h
    · rename_i s xs hm
      obtain ⟨rfl, h0, h1, hK⟩ := h
      generalize hv : a.eval x = v at hr
      cases hr with
      | base hr => cases hr
      | arrNil hk hn => simp at h1; omega
      | arr0 hk => simp at h1; omega
      | arr hk hn hlen hcap hu =>
        rename_i cap l
        obtain ⟨l', hk', h2⟩ := r.ent.mm _ _ hm
        rw [hk] at hk'; cases hk'
        rcases h2 with ⟨h2, _⟩ | ⟨_, rfl, _⟩
        · rw [hn] at h2; cases h2
        · refine fin hv hj h0 h1 ?_ hK
          have := R.elt (w := w) (S := S) (k := k) (i := off + j.toNat) (j := 0) hk hn
          rwa [show l.base + (off + j.toNat) * l.sz + 0 = l.base + off * l.sz + j.toNat * l.sz from by rw [Nat.add_mul]; omega] at this
    · rename_i s rows hm
      obtain ⟨rfl, h0, h1, hK⟩ := h
      generalize hv : a.eval x = v at hr
      cases hr with
      | base hr => cases hr
      | arrNil hk hn => simp at h1; omega
      | arr0 hk => simp at h1; omega
      | arr hk hn hlen hcap hu =>
        rename_i cap l
        obtain ⟨l', hk', _, h2, _⟩ := r.ent.mm _ _ hm
        rw [hk] at hk'; cases hk'
        refine fin hv hj h0 h1 ?_ hK
        have := R.elt (w := w) (S := S) (k := k) (i := off + j.toNat) (j := 0) hk hn
        rwa [show l.base + (off + j.toNat) * l.sz + 0 = l.base + off * l.sz + j.toNat * 1 from by rw [h2]; omega] at this
    · rename_i s rows i0 q0 hm
      obtain ⟨rfl, h0, h1, hK⟩ := h
      generalize hv : a.eval x = v at hr
      cases hr with
      | base hr => cases hr
      | arrNil hk hn => simp at h1; omega
      | arr0 hk => simp at h1; omega
      | arr hk hn hlen hcap hu =>
        rename_i cap l
        obtain ⟨l', hk', _, h2, _⟩ := r.ent.mm _ _ hm
        rw [hk] at hk'; cases hk'
        refine fin hv hj h0 h1 ?_ hK
        have := R.elt (w := w) (S := S) (k := k) (i := off + j.toNat) (j := 0) hk hn
        rwa [show l.base + (off + j.toNat) * l.sz + 0 = l.base + off * l.sz + j.toNat * 1 from by rw [h2]; omega] at this
    · exact h.elim
  · exact h.elim

theorem nchk_ok {x : Operand} {x' : Opd} (ho : o.op = .nilCheck x) (hx : cOpd x = some x')
    (hd : ∀ d, o.dst = some d → d < N) (r : Rel X N w S κ t m F a) (h : vop (.nchk x') t m n K) : o.wp P a w (Post K X N o.dst t m F n) Q := by
  have hr := ev_ok hx r
  have fin : ∀ {ad : Addr} {y : AV}, a.eval x = .pointer (some ad) → R w S κ y (.pointer (some ad)) → K y [] → o.wp P a w (Post K X N o.dst t m F n) Q :=
    fun {ad y} h1 h3 h4 => wp_pure (v := .pointer (some ad)) (by simp [execOp, ho, h1]) r hd h3 h4
  simp only [vop] at h
  split at h
  · rename_i k off e
    rw [e] at hr
    obtain ⟨l, hk, hp⟩ := hr.ptr_inv
    exact fin hp (hp ▸ hr) h
  · rename_i cs e
    rw [e] at hr
    obtain ⟨b, off, f, hv, hb, h1, h2⟩ := hr.rp_inv
    exact fin hv (hv ▸ hr) h
  · rename_i k i j e
    rw [e] at hr
    obtain ⟨l, hk, hn, hp⟩ := hr.elt_inv
    exact fin hp (hp ▸ hr) h
  · exact h.elim

theorem Chunk.inv {cs : List AV} {i c : Nat} {G : List AV → Prop} (h : Chunk cs i c G) : i + c ≤ cs.length ∧ G ((cs.drop i).take c) := by
  unfold Chunk at h
  split at h
  · obtain ⟨y, hy, hG⟩ := h
    obtain ⟨hi, rfl⟩ := List.getElem?_eq_some_iff.1 hy
    refine ⟨by omega, ?_⟩
    have : (cs.drop i).take 1 = [cs[i]] := by rw [List.drop_eq_getElem_cons hi]; rfl
    rw [this]; exact hG
  · exact h

theorem aaddr_ok {T e : TypeId} {c L : Nat} {x i : Operand} {x' i' : Opd} (ho : o.op = .indexAddr T x i) (hT : P.underlying T = some (.array L e)) (hz : sizeT P e = some c)
    (hx : cOpd x = some x') (hi : cOpd i = some i')
    (hd : ∀ d, o.dst = some d → d < N) (r : Rel X N w S κ t m F a) (h : vop (.aaddr c L x' i') t m n K) : o.wp P a w (Post K X N o.dst t m F n) Q := by
  have hr := ev_ok hx r
  have fin : ∀ {b off : Nat} {y : AV} {k : IntKind} {j : Int}, a.eval x = .pointer (some ⟨b, off, none⟩) → a.eval i = .int k j → 0 ≤ j → j < L →
      R w S κ y (.pointer (some ⟨b, off + j.toNat * c, none⟩)) → K y [] → o.wp P a w (Post K X N o.dst t m F n) Q :=
    fun {b off y k j} h1 h2 h3 h4 h5 h6 => wp_pure (v := .pointer (some ⟨b, off + j.toNat * c, none⟩))
      (by simp [execOp, ho, h1, h2, Instr.indexAt, Instr.sureAddr, asIntOf, und_run hT, h3, h4, sizeT_run hz, add_none]) r hd h5 h6
  simp only [vop] at h
  split at h
  · rename_i k off k' j e1 e2
    rw [e1] at hr
    have hj := ev_v hi r e2
    obtain ⟨l, hk, hp⟩ := hr.ptr_inv
    exact fin hp hj h.1 h.2.1 (by rw [Nat.add_assoc]; exact .ptr hk) h.2.2
  · rename_i cs k' j e1 e2
    rw [e1] at hr
    have hj := ev_v hi r e2
    obtain ⟨b, off, f, hv, hb, h1, h2⟩ := hr.rp_inv
    obtain ⟨h3, h4, h⟩ := h
    obtain ⟨h5, h6⟩ := h.inv
    refine fin hv hj h3 h4 (.base (.rp (c := fun q => f (j.toNat * c + q)) hb (fun q hq => ?_) (fun q y hq => ?_))) h6
    · rw [Nat.add_assoc]; exact h1 _ (by simp at hq; omega)
    · rw [List.getElem?_take] at hq
      split at hq
      · rw [List.getElem?_drop] at hq; exact h2 _ _ hq
      · cases hq
  · exact h.elim

theorem idx_ok {T e : TypeId} {L : Nat} {x i : Operand} {x' i' : Opd} (ho : o.op = .index T x i) (hT : P.underlying T = some (.array L e)) (hz : ldT P e = some none)
    (hx : cOpd x = some x') (hi : cOpd i = some i')
    (hd : ∀ d, o.dst = some d → d < N) (r : Rel X N w S κ t m F a) (h : vop (.idx L x' i') t m n K) : o.wp P a w (Post K X N o.dst t m F n) Q := by
  have hr := ev_ok hx r
  simp only [vop] at h
  split at h
  · rename_i cs k j e1 e2
    rw [e1] at hr
    have hj := ev_v hi r e2
    obtain ⟨h3, h4, y, h5, h6⟩ := h
    generalize hv : a.eval x = v at hr
    obtain ⟨vs, rfl, hl, hc⟩ : ∃ vs, v = .agg vs ∧ cs.length = vs.size ∧ ∀ (i : Nat) x y, cs[i]? = some x → vs[i]? = some y → R w S κ x y := by
      cases hr with
      | agg hl hc => exact ⟨_, rfl, hl, hc⟩
      | base hr => cases hr with
        | agg hl hc => exact ⟨_, rfl, hl, fun i x y a b => .base (hc i x y a b)⟩
    have hlt : j.toNat < vs.size := by rw [← hl]; exact (List.getElem?_eq_some_iff.1 h5).1
    obtain ⟨hrow, hsz⟩ : isRowT P e = some false ∧ sizeT P e = some 1 := by
      unfold ldT at hz
      split at hz <;> simp_all
    refine wp_pure (v := vs[j.toNat]) ?_ r hd (hc _ _ _ h5 (by simp [hlt])) h6
    simp [execOp, ho, hv, hj, Instr.index, asIntOf, und_run hT, h3, h4, sizeT_run hsz, part, isAgg_run hrow, hlt]
  · exact h.elim

theorem len_ok {e : TypeId} {c : Call} {T : TypeId} {x : Operand} {x' : Opd} (ho : o.op = .call c) (hb : c.callee = .builtin .len) (ha : c.args.toList = [x])
    (ht : c.argTypes[0]? = some T) (hT : P.underlying T = some (.slice e)) (hx : cOpd x = some x')
    (hd : ∀ d, o.dst = some d → d < N) (r : Rel X N w S κ t m F a) (h : vop (.len x') t m n K) : o.wp P a w (Post K X N o.dst t m F n) Q := by
  have hr := ev_ok hx r
  have hargs : c.args = #[x] := Array.toList_inj.1 ha
  have fin : ∀ {ad : Option Addr} {len cap : Nat}, a.eval x = .slice ad len cap → K (.v (.int .i64 len)) [] → o.wp P a w (Post K X N o.dst t m F n) Q :=
    fun {ad len cap} h1 h2 => wp_pure (v := .int .i64 len)
      (by simp [execOp, ho, resolve, hb, hargs, h1, invoke, builtin, Builtin.len_, ht, und_run hT, goInt]) r hd (.base (.v _)) h2
  simp only [vop] at h
  split at h
  · rename_i s xs e1
    rw [e1] at hr
    generalize hv : a.eval x = v at hr
    cases hr with
    | base hr => cases hr with
      | roNil => exact fin hv h
      | ro => exact fin hv h
  · rename_i k off len e1
    rw [e1] at hr
    generalize hv : a.eval x = v at hr
    cases hr with
    | base hr => cases hr
    | arrNil => exact fin hv h
    | arr0 => exact fin hv h
    | arr => exact fin hv h
  · rename_i ad len cap e1
    exact fin (ev_v hx r e1) h
  · exact h.elim

theorem evs_ok {xs : List Operand} {xs' : List Opd} (h : cOpds xs = some xs') (r : Rel X N w S κ t m F a) :
    (evs t xs').length = xs.length ∧ ∀ (i : Nat) x y, (evs t xs')[i]? = some x → (xs.map a.eval)[i]? = some y → R w S κ x y := by
  induction xs generalizing xs' with
  | nil => simp [cOpds] at h; subst h; simp [evs]
  | cons x xs ih =>
    simp only [cOpds] at h
    split at h
    · rename_i x1 r1 h1 h2
      simp at h; subst h
      have := ih h2
      refine ⟨by simp [evs, this.1], fun i y z hy hz => ?_⟩
      cases i with
      | zero => simp [evs] at hy hz; subst hy hz; exact ev_ok h1 r
      | succ i => exact this.2 i y z (by simpa [evs] using hy) (by simpa using hz)
    · simp at h

theorem mkfn_ok {f : FuncId} {first caps : Array Operand} {caps' : List Opd} (ho : o.op = .makeFunc (.func f) first caps) (hf : first.size = 0) (hx : cOpds caps.toList = some caps')
    (hd : ∀ d, o.dst = some d → d < N) (r : Rel X N w S κ t m F a) (h : vop (.mkfn f caps') t m n K) : o.wp P a w (Post K X N o.dst t m F n) Q := by
  have hc := evs_ok hx r
  have hf' : first = #[] := Array.eq_empty_of_size_eq_zero hf
  refine wp_pure (v := .func (.func f) #[] (caps.map a.eval)) (by simp [execOp, ho, Instr.makeFunc, hf']) r hd (.fn (by simpa using hc.1) (fun i x y h1 h2 => hc.2 i x y h1 ?_)) h
  simpa [List.getElem?_map, Array.getElem?_map] using h2

theorem callFunc_run {f : FuncId} (hc : callable P f = true) (args : Array Value) : (callFunc f args).run P w = .ok (.enter f args) w := by
  unfold callable at hc
  cases hf : P.funcs[f]? with
  | none => simp [hf] at hc
  | some fn =>
    simp only [hf, Bool.and_eq_true, Bool.not_eq_true'] at hc
    have h1 : ¬ fn.name = "runtime.NumGoroutine" := by have := hc.1; intro h; simp [h] at this
    have h2 : ¬ fn.body = none := by intro h; simp [h] at hc
    simp [callFunc, hf, h1, h2]

theorem wp_enter {f : FuncId} {vals : Array Value} {K' : Act → World → Prop} (h : (execOp a.eval o).run P w = .ok (.enter f vals) w)
    (hK : Calls P f vals w fun e w' => ∃ v, e = .returned v ∧ K' (a.put o.dst v) w') : o.wp P a w K' Q := by
  unfold Oper.wp; rw [h, Oper.upon_enter]
  refine hK.mono ?_
  rintro e w' ⟨v, rfl, h⟩
  exact h

def PostC (K : AV → Mem → Nat → Prop) (X : Ctx) (N : Nat) (d : Option Nat) (t : Tmps) : Act → World → Prop :=
  fun a' w' => ∃ x m' n' S' κ', K x m' n' ∧ Rel X N w' S' κ' (putT d x t) m' (n' ≤ ·) a'

variable {K' : AV → Mem → Nat → Prop}

theorem wp_call {f : FuncId} {vals : Array Value} {args : List AV} (h : (execOp a.eval o).run P w = .ok (.enter f vals) w) (hd : ∀ d, o.dst = some d → d < N)
    (r : Rel X N w S κ t m (n ≤ ·) a) (hl : args.length = vals.size) (hR : ∀ (i : Nat) x y, args[i]? = some x → vals[i]? = some y → R w S κ x y)
    (hK : CallVC P f args m n K') : o.wp P a w (PostC K' X N o.dst t) Q := by
  refine wp_enter h ((hK.2 X N w S κ t a vals r hl hR).mono ?_)
  rintro e w' ⟨v, x, m', n', S', κ', rfl, h1, h2, h3⟩
  exact ⟨v, rfl, x, m', n', S', κ', h1, h3.put h2 hd⟩

theorem call_ok {f : FuncId} {c : Call} {args' : List Opd} (ho : o.op = .call c) (hb : c.callee = .value (.func f)) (hx : cOpds c.args.toList = some args')
    (hd : ∀ d, o.dst = some d → d < N) (r : Rel X N w S κ t m (n ≤ ·) a) (h : CallVC P f (evs t args') m n K') : o.wp P a w (PostC K' X N o.dst t) Q := by
  have hc := evs_ok hx r
  refine wp_call (vals := c.args.map a.eval) ?_ hd r (by simpa using hc.1) (fun i x y h1 h2 => hc.2 i x y h1 ?_) h
  · simp [execOp, ho, resolve, hb, Act.eval, Deferred.ofValue, invoke, callFunc_run h.1]
  · simpa [List.getElem?_map, Array.getElem?_map] using h2

theorem callv_ok {g : Nat} {c : Call} {args' : List Opd} (ho : o.op = .call c) (hb : c.callee = .value (.tmp g)) (hx : cOpds c.args.toList = some args')
    (hd : ∀ d, o.dst = some d → d < N) (r : Rel X N w S κ t m (n ≤ ·) a) {f : FuncId} {caps : List AV} (e1 : look t g = .fn f caps) (h : CallVC P f (evs t args' ++ caps) m n K') : o.wp P a w (PostC K' X N o.dst t) Q := by
  have hc := evs_ok hx r
  have hg := ev_ok (x := .tmp g) (x' := .t g) rfl r
  · rw [show ev t (.t g) = _ from e1] at hg
    obtain ⟨vs, hv, hl, h2⟩ := hg.fn_inv
    refine wp_call (vals := c.args.map a.eval ++ vs) ?_ hd r (by simp [hl, hc.1]) (fun i x y h1 h3 => ?_) h
    · simp only [execOp, ho, resolve, hb]
      rw [show (a.eval (Operand.tmp g)) = _ from hv]
      simp [Deferred.ofValue, invoke, callFunc_run h.1]
    · by_cases hi : i < (evs t args').length
      · rw [List.getElem?_append_left hi] at h1
        rw [Array.getElem?_append_left (by simpa [hc.1] using hi)] at h3
        exact hc.2 i x y h1 (by simpa [List.getElem?_map, Array.getElem?_map] using h3)
      · rw [List.getElem?_append_right (by omega)] at h1
        rw [Array.getElem?_append_right (by simp [hc.1] at hi ⊢; omega)] at h3
        exact h2 _ x y h1 (by simpa [hc.1] using h3)

theorem fill_cells (off : Nat) : ∀ (vs : List Value) (i : Nat) (cur : Array Value), off + i + vs.length ≤ cur.size →
    ∀ j, ((vs.zipIdx i).foldl (fun cs (p : Value × Nat) => cs.setIfInBounds (off + p.2) p.1) cur)[j]? = if off + i ≤ j ∧ j < off + i + vs.length then vs[j - (off + i)]? else cur[j]? := by
  intro vs
  induction vs with
  | nil => intro i cur _ j; simp; omega
  | cons v vs ih =>
    intro i cur h j
    simp only [List.zipIdx_cons, List.foldl_cons]
    rw [ih (i + 1) _ (by simp at h ⊢; omega)]
    simp only [List.length_cons] at h
    by_cases h1 : off + (i + 1) ≤ j ∧ j < off + (i + 1) + vs.length
    · rw [if_pos h1, if_pos (by simp; omega)]
      rw [show j - (off + i) = (j - (off + (i + 1))) + 1 by omega, List.getElem?_cons_succ]
    · rw [if_neg h1]
      by_cases h2 : j = off + i
      · subst h2
        rw [if_pos (by simp)]
        simp [show off + i < cur.size by omega]
      · rw [if_neg (by simp; omega), Array.getElem?_setIfInBounds_ne (fun h => h2 h.symm)]

theorem fill_cells_size (off : Nat) : ∀ (l : List (Value × Nat)) (cur : Array Value), (l.foldl (fun cs (p : Value × Nat) => cs.setIfInBounds (off + p.2) p.1) cur).size = cur.size := by
  intro l
  induction l with
  | nil => intro cur; rfl
  | cons p l ih => intro cur; simp only [List.foldl_cons]; rw [ih]; simp

theorem mapM_sizes (P : Program) (w : World) : ∀ (l : List Field), (∀ f ∈ l, (P.info? f.type).isSome = true) →
    (l.mapM fun f => do pure (f.offset, ← sizeOf f.type) : Sem (List (Nat × Nat))).run P w = .ok (l.map fun f => (f.offset, (sizeT P f.type).getD 0)) w := by
  intro l
  induction l with
  | nil => intro _; rfl
  | cons f l ih =>
    intro h
    have hf := h f (by simp)
    obtain ⟨i, hi⟩ := Option.isSome_iff_exists.1 hf
    have hs : (sizeOf f.type).run P w = .ok ((sizeT P f.type).getD 0) w := sizeT_run (by simp [sizeT, hi])
    have := ih (fun f hf => h f (by simp [hf]))
    simp only [List.mapM_cons, Sem.run_bind, hs, Result.andThen_ok, Sem.run_pure, this, List.map_cons]

theorem fill_ok {fs : Array Field} : ∀ (parts : List (Nat × Operand)) (ps : List (Nat × Nat × Opd)) (xs : List AV) (vs : Array Value) (G : List AV → Prop),
    cParts fs P parts = some ps → Rel X N w S κ t m F a → xs.length = vs.size → (∀ (i : Nat) x y, xs[i]? = some x → vs[i]? = some y → R w S κ x y) →
    (∀ p ∈ ps, okVal (ev t p.2.2) = true) → fillL t xs ps G →
    ∃ vs' xs', Instr.fill ((fs.map fun f => (f.offset, (sizeT P f.type).getD 0))[·]?) vs (parts.map fun (i, x) => (i, a.eval x)) = some vs' ∧ xs'.length = vs'.size ∧
      (∀ (i : Nat) x y, xs'[i]? = some x → vs'[i]? = some y → R w S κ x y) ∧ G xs' := by
  intro parts
  induction parts with
  | nil => intro ps xs vs G hp r hl h _ hG; simp [cParts] at hp; subst hp; exact ⟨vs, xs, by simp [Instr.fill], hl, h, hG⟩
  | cons p parts ih =>
    intro ps xs vs G hp r hl h hok hG
    obtain ⟨i, x⟩ := p
    simp only [cParts] at hp
    split at hp
    · rename_i f x' r' h1 h2 h3
      split at hp
      · rename_i k hk
        simp at hp; subst hp
        simp only [fillL] at hG
        obtain ⟨g1, g2, g3⟩ := hG
        have hv := ev_ok h2 r
        have hc := cells_R hv (hok (f.offset, k, x') (by simp))
        have hsz : (a.eval x).cells.size = k := by rw [← hc.1]; exact g1
        have key := ih r' (splice xs f.offset (ev t x').cells) ((a.eval x).cells.zipIdx.foldl (fun cs (p : Value × Nat) => cs.setIfInBounds (f.offset + p.2) p.1) vs) G h3 r
          (by rw [splice_length, ← Array.foldl_toList, Array.toList_zipIdx, fill_cells_size, hl]) (fun j z y hz hy => ?_) (fun p hp => hok p (by simp [hp])) g3
        · obtain ⟨vs', xs', e1, e2, e3, e4⟩ := key
          refine ⟨vs', xs', ?_, e2, e3, e4⟩
          simp only [List.map_cons, Instr.fill]
          rw [show (fs.map fun f => (f.offset, (sizeT P f.type).getD 0))[i]? = some (f.offset, k) from by simp [h1, hk]]
          simp only []
          rw [if_neg (by simp [hsz]; omega)]
          exact e1
        · rw [splice_get _ _ _ (by omega)] at hz
          rw [← Array.foldl_toList, Array.toList_zipIdx, fill_cells f.offset _ 0 vs (by simp [hsz]; omega)] at hy
          simp only [Nat.add_zero, Array.length_toList, hsz, g1] at hy hz
          by_cases hin : f.offset ≤ j ∧ j < f.offset + k
          · rw [if_pos hin] at hz hy
            exact hc.2.1 _ _ _ hz (by simpa using hy)
          · rw [if_neg hin] at hz hy
            exact h _ _ _ hz hy
      · simp at hp
    · simp at hp

theorem build_ok {T : TypeId} {fs : Array Field} {z : Value} {i : TypeInfo} {parts : Array (Nat × Operand)} {ps : List (Nat × Nat × Opd)} (ho : o.op = .build T parts)
    (hi : P.info? T = some i) (hz : i.zero = some z) (hT : P.underlying T = some (.struct fs)) (hfs : fs.all (fun f => (P.info? f.type).isSome) = true)
    (hp : cParts fs P parts.toList = some ps)
    (hd : ∀ d, o.dst = some d → d < N) (r : Rel X N w S κ t m F a) (h : vop (.build z.cells.toList ps) t m n K) : o.wp P a w (Post K X N o.dst t m F n) Q := by
  simp only [vop] at h
  obtain ⟨hok, h⟩ := h
  have hok' : ∀ p ∈ ps, okVal (ev t p.2.2) = true := by simpa [List.all_eq_true] using hok
  obtain ⟨vs', xs', e1, e2, e3, e4⟩ := fill_ok (fs := fs) parts.toList ps _ z.cells _ hp r (by simp) (fun j x y h1 h2 => by
    simp only [List.getElem?_map, Array.getElem?_toList] at h1; rw [h2] at h1; simp at h1; subst h1; exact .base (.v _)) hok' h
  refine wp_pure (v := .agg vs') ?_ r hd (.agg e2 e3) e4
  have hm : (fs.mapM fun f => do pure (f.offset, ← sizeOf f.type) : Sem (Array (Nat × Nat))).run P w = .ok (fs.map fun f => (f.offset, (sizeT P f.type).getD 0)) w := by
    have := mapM_sizes P w fs.toList (fun f hf => by simpa using (Array.all_eq_true_iff_forall_mem.1 hfs) f (by simpa using hf))
    rw [Array.mapM_eq_mapM_toList]
    simp only [Sem.run_map, this, Result.andThen_ok]
    congr 1
    apply Array.ext'; simp
  have e1' : Instr.fill ((fs.map fun f => (f.offset, (sizeT P f.type).getD 0))[·]?) z.cells (parts.map fun (i, x) => (i, a.eval x)).toList = some vs' := by
    simpa using e1
  have hrun : (Instr.build T (parts.map fun (i, x) => (i, a.eval x))).run P w = .ok (.agg vs') w := by
    unfold Instr.build
    rw [Sem.run_bind, show (zeroValue T).run P w = .ok z w from by simp [zeroValue, typeInfo, hi, hz], Result.andThen_ok, Sem.run_bind, und_run hT, Result.andThen_ok]
    simp only [Sem.run_bind, hm, Result.andThen_ok, e1', Sem.run_pure]
  simp only [execOp, ho, Sem.run_bind, hrun, Result.andThen_ok, Sem.run_pure]

theorem fillA_ok {k : Nat} : ∀ (parts : List (Nat × Operand)) (ps : List (Nat × Nat × Opd)) (xs : List AV) (vs : Array Value) (G : List AV → Prop),
    cPartsA k parts = some ps → Rel X N w S κ t m F a → xs.length = vs.size → (∀ (i : Nat) x y, xs[i]? = some x → vs[i]? = some y → R w S κ x y) →
    (∀ p ∈ ps, okVal (ev t p.2.2) = true) → fillL t xs ps G →
    ∃ vs' xs', Instr.fill (fun i => some (i * k, k)) vs (parts.map fun (i, x) => (i, a.eval x)) = some vs' ∧ xs'.length = vs'.size ∧
      (∀ (i : Nat) x y, xs'[i]? = some x → vs'[i]? = some y → R w S κ x y) ∧ G xs' := by
  intro parts
  induction parts with
  | nil => intro ps xs vs G hp r hl h _ hG; simp [cPartsA] at hp; subst hp; exact ⟨vs, xs, by simp [Instr.fill], hl, h, hG⟩
  | cons p parts ih =>
    intro ps xs vs G hp r hl h hok hG
    obtain ⟨i, x⟩ := p
    simp only [cPartsA] at hp
    split at hp
    · rename_i x' r' h2 h3
      by_cases hkk : True
      · simp at hp; subst hp
        simp only [fillL] at hG
        obtain ⟨g1, g2, g3⟩ := hG
        have hv := ev_ok h2 r
        have hc := cells_R hv (hok ((i * k), k, x') (by simp))
        have hsz : (a.eval x).cells.size = k := by rw [← hc.1]; exact g1
        have key := ih r' (splice xs (i * k) (ev t x').cells) ((a.eval x).cells.zipIdx.foldl (fun cs (p : Value × Nat) => cs.setIfInBounds ((i * k) + p.2) p.1) vs) G h3 r
          (by rw [splice_length, ← Array.foldl_toList, Array.toList_zipIdx, fill_cells_size, hl]) (fun j z y hz hy => ?_) (fun p hp => hok p (by simp [hp])) g3
        · obtain ⟨vs', xs', e1, e2, e3, e4⟩ := key
          refine ⟨vs', xs', ?_, e2, e3, e4⟩
          simp only [List.map_cons, Instr.fill]
          rw [if_neg (by simp [hsz]; omega)]
          exact e1
        · rw [splice_get _ _ _ (by omega)] at hz
          rw [← Array.foldl_toList, Array.toList_zipIdx, fill_cells (i * k) _ 0 vs (by simp [hsz]; omega)] at hy
          simp only [Nat.add_zero, Array.length_toList, hsz, g1] at hy hz
          by_cases hin : (i * k) ≤ j ∧ j < (i * k) + k
          · rw [if_pos hin] at hz hy
            exact hc.2.1 _ _ _ hz (by simpa using hy)
          · rw [if_neg hin] at hz hy
            exact h _ _ _ hz hy
      · exact (hkk trivial).elim
    · simp at hp

theorem buildA_ok {T e : TypeId} {L k : Nat} {z : Value} {i : TypeInfo} {parts : Array (Nat × Operand)} {ps : List (Nat × Nat × Opd)} (ho : o.op = .build T parts)
    (hi : P.info? T = some i) (hz : i.zero = some z) (hT : P.underlying T = some (.array L e)) (hk : sizeT P e = some k)
    (hp : cPartsA k parts.toList = some ps)
    (hd : ∀ d, o.dst = some d → d < N) (r : Rel X N w S κ t m F a) (h : vop (.build z.cells.toList ps) t m n K) : o.wp P a w (Post K X N o.dst t m F n) Q := by
  simp only [vop] at h
  obtain ⟨hok, h⟩ := h
  have hok' : ∀ p ∈ ps, okVal (ev t p.2.2) = true := by simpa [List.all_eq_true] using hok
  obtain ⟨vs', xs', e1, e2, e3, e4⟩ := fillA_ok (k := k) parts.toList ps _ z.cells _ hp r (by simp) (fun j x y h1 h2 => by
    simp only [List.getElem?_map, Array.getElem?_toList] at h1; rw [h2] at h1; simp at h1; subst h1; exact .base (.v _)) hok' h
  refine wp_pure (v := .agg vs') ?_ r hd (.agg e2 e3) e4
  have e1' : Instr.fill (fun i => some (i * k, k)) z.cells (parts.map fun (i, x) => (i, a.eval x)).toList = some vs' := by
    simpa using e1
  have hrun : (Instr.build T (parts.map fun (i, x) => (i, a.eval x))).run P w = .ok (.agg vs') w := by
    unfold Instr.build
    rw [Sem.run_bind, show (zeroValue T).run P w = .ok z w from by simp [zeroValue, typeInfo, hi, hz], Result.andThen_ok, Sem.run_bind, und_run hT, Result.andThen_ok]
    simp only [Sem.run_bind, sizeT_run hk, Result.andThen_ok, e1', Sem.run_pure]
  simp only [execOp, ho, Sem.run_bind, hrun, Result.andThen_ok, Sem.run_pure]

end Go.Av
