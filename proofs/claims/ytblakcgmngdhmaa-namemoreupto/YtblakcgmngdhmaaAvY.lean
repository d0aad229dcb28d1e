/- What an operation asks is enough: slices of the call's own. -/
import Derived.Test.YtblakcgmngdhmaaAvH
import Derived.IntWalk
namespace Go.Av

variable {P : Program} {w w' : World} {S S' : Nat → Prop} {κ κ' : Nat → Option Loc} {m : Mem} {n N : Nat} {F : Nat → Prop} {t : Tmps} {a : Act} {X : Ctx}
  {K : AV → Mem → Prop} {Q : Exit → Act → World → Prop} {o : Oper}

/-- elements lie in a row of cells -/
structure Elems (w : World) (S : Nat → Prop) (sz : Nat) (xs : List AV) (vs : Array Value) (base : Nat) : Prop where
  size : ∀ (i : Nat) x, xs[i]? = some x → x.cells.length = sz ∧ allCell x.cells = true
  cell : ∀ (i : Nat) x (j : Nat) y, xs[i]? = some x → x.cells[j]? = some y → ∃ c, vs[base + i * sz + j]? = some c ∧ R0 w S y c

theorem Elems.mono {sz base : Nat} {xs : List AV} {vs : Array Value} (h : Elems w S sz xs vs base) (hw : ∀ b, S b → w'.heap[b]? = w.heap[b]?) : Elems w' S sz xs vs base :=
  ⟨h.size, fun i x j y hx hy => let ⟨c, hc, hr⟩ := h.cell i x j y hx hy; ⟨c, hc, hr.mono hw (fun _ h => h)⟩⟩

def rowLoc (w : World) (sz cap used : Nat) : Loc := ⟨w.heap.size, 0, sz, cap, used, false, fun _ => none⟩

theorem new_arr {vs : Array Value} {T : TypeId} {xs : List AV} {sz cap : Nat} (r : Rel X N w S κ t m F a) (hF : F n) (he : Elems w S sz xs vs 0) (hcap : xs.length ≤ cap) (hvs : cap * sz ≤ vs.size)
    {d : Option Nat} (hd : ∀ i, d = some i → i < N) :
    Rel X N (w.alloc (.cells vs T)) S (upd κ n (rowLoc w sz cap xs.length)) (putT d (.arr n 0 xs.length) t) ((n, some (.arr sz xs)) :: m) (fun k => F k ∧ k ≠ n) (a.put d (.slice (some ⟨w.heap.size, 0, none⟩) xs.length cap)) := by
  have hold : ∀ b, b < w.heap.size → (w.alloc (.cells vs T)).heap[b]? = w.heap[b]? := fun b hb => heap_alloc_old w _ hb
  refine r.new hF (by simp) hold ?_ (Loc.has_new (fun _ => rfl) fun _ => ⟨Nat.le_refl _, by simp [rowLoc]⟩) ?_ hd rfl rfl rfl
  · have he' := he.mono (w' := w.alloc (.cells vs T)) (fun b hb => hold b (r.ent.sb.lt b hb))
    exact ⟨rowLoc w sz cap xs.length, by simp [upd], .inr ⟨rfl, rfl, rfl, hcap, vs, T, heap_alloc_new w _, by simpa [rowLoc] using hvs, he'.size, by simpa [rowLoc] using he'.cell⟩⟩
  · have := R.arr (w := w.alloc (.cells vs T)) (S := S) (κ := upd κ n (rowLoc w sz cap xs.length)) (k := n) (off := 0) (len := xs.length) (cap := cap) (l := rowLoc w sz cap xs.length) (by simp [upd]) rfl hcap (by simp [rowLoc]) (by simp [rowLoc])
    simpa [rowLoc] using this

theorem okElems_get {sz : Nat} : ∀ {xs : List AV}, okElems sz xs = true → ∀ (i : Nat) x, xs[i]? = some x → x.cells.length = sz ∧ allCell x.cells = true ∧ kfs x.cells = true := by
  intro xs
  induction xs with
  | nil => intro _ i x h; simp at h
  | cons y xs ih =>
    intro h i x hx
    simp only [okElems, Bool.and_eq_true, beq_iff_eq] at h
    cases i with
    | zero => simp at hx; subst hx; exact ⟨h.1.1.1, h.1.1.2, h.1.2⟩
    | succ i => exact ih h.2 i x (by simpa using hx)

theorem mm_ok {c : Call} {mn : Bool} {T : TypeId} {k : IntKind} {x y : Operand} {x' y' : Opd} (ho : o.op = .call c) (hb : c.callee = .builtin (bif mn then .min else .max)) (ha : c.args.toList = [x, y])
    (_ht : c.argTypes[0]? = some T) (_hT : P.underlying T = some (.int k)) (hx : cOpd x = some x') (hy : cOpd y = some y')
    (hd : ∀ d, o.dst = some d → d < N) (r : Rel X N w S κ t m F a) (h : vop (.mm mn x' y') t m n K) : o.wp P a w (Post K X N o.dst t m F n) Q := by
  have hargs : c.args = #[x, y] := Array.toList_inj.1 ha
  simp only [vop] at h
  split at h
  · rename_i k1 p k2 q e1 e2
    obtain ⟨rfl, hK⟩ := h
    have h1 := ev_v hx r e1
    have h2 := ev_v hy r e2
    refine wp_pure (v := .int k1 (bif mn then (if q < p then q else p) else (if q > p then q else p))) ?_ r hd (.base (.v _)) hK
    cases mn
    · simp only [cond_false] at hb ⊢
      simp [execOp, ho, resolve, hb, hargs, h1, h2, invoke, builtin, Builtin.max_, Builtin.max2]
    · simp only [cond_true] at hb ⊢
      simp [execOp, ho, resolve, hb, hargs, h1, h2, invoke, builtin, Builtin.min_, Builtin.min2]
  · exact h.elim

theorem elemT_inv {e : TypeId} {sz : Nat} {z : AV} (h : elemT P e = some (sz, z)) : ∃ i zv, P.info? e = some i ∧ i.zero = some zv ∧ i.size = sz ∧ zv.cells.size = sz ∧ 0 < sz ∧ i.bytes ≤ 4096 ∧ z.cells = zv.cells.toList.map .v ∧
    allCell z.cells = true := by
  unfold elemT at h
  split at h
  · rename_i i r hi hr
    split at h
    · rename_i zv hz
      split at h
      · rename_i hc
        refine ⟨i, zv, hi, hz, ?_⟩
        split at h
        · simp only [Option.some.injEq, Prod.mk.injEq] at h
          obtain ⟨rfl, rfl⟩ := h
          exact ⟨rfl, hc.2.2.1, Nat.pos_of_ne_zero hc.1, hc.2.1, rfl, hc.2.2.2⟩
        · split at h
          · rename_i h0
            simp only [Option.some.injEq, Prod.mk.injEq] at h
            obtain ⟨rfl, rfl⟩ := h
            have : zv.cells = #[zv] := by cases zv <;> simp_all [AV.isCell, Value.cells]
            exact ⟨h0.1, by rw [hc.2.2.1]; exact h0.1, by omega, hc.2.1, by simp [AV.cells, this], by simp [AV.cells, allCell, h0.2]⟩
          · cases h
      · cases h
    · cases h
  · cases h

/-- a new slice of zeros -/
theorem mks_core {T e : TypeId} {sz : Nat} {z : AV} {l c : Operand} {k1 k2 : IntKind} {p q : Int} (ho : o.op = .makeSlice T l c) (hT : P.underlying T = some (.slice e)) (he : elemT P e = some (sz, z))
    (g1 : a.eval l = .int k1 p) (g2 : a.eval c = .int k2 q) (h0 : 0 ≤ p) (h1 : p ≤ q) (h2 : q ≤ 4294967296)
    (hd : ∀ d, o.dst = some d → d < N) (r : Rel X N w S κ t m F a) (hF : F n) : ∃ v w', (execOp a.eval o).run P w = .ok (.value v) w' ∧
      Rel X N w' S (upd κ n (rowLoc w sz q.toNat p.toNat)) (putT o.dst (.arr n 0 p.toNat) t) ((n, some (.arr z.cells.length (List.replicate p.toNat z))) :: m) (fun k => F k ∧ k ≠ n) (a.put o.dst v) := by
  obtain ⟨i, zv, hi, hz, hsz, hzc, hpos, hby, hzz, hall⟩ := elemT_inv he
  have hzl : z.cells.length = sz := by rw [hzz]; simpa using hzc
  have wp' : ∀ q : Int, 0 ≤ q → q ≤ 4294967296 → IntKind.i64.wrap q = q := fun q a b => by
    exact IntWalk.i64_in q (by omega)
  have hb : ¬ ((i.bytes : Int) * q > 2 ^ 48) := by
    have : (i.bytes : Int) * q ≤ 4096 * 4294967296 := Int.mul_le_mul (by omega) h2 (by omega) (by omega)
    have : (4096 : Int) * 4294967296 ≤ 2 ^ 48 := by decide
    omega
  refine ⟨.slice (some ⟨w.heap.size, 0, none⟩) p.toNat q.toNat, w.alloc (.cells ((Array.range (q.toNat * sz)).map fun j => zv.cells[j % zv.cells.size]!) e), ?_, ?_⟩
  ·
    simp only [execOp, ho, Sem.run_bind, Instr.makeSlice, und_run hT, Result.andThen_ok, g1, g2, asInt, asIntOf, Sem.run_pure, typeInfo, run_program, hi]
    rw [wp' p h0 (by omega), wp' q (by omega) h2]
    have c1 : (decide (q < 0) || decide ((i.bytes : Int) * q > 2 ^ 48)) = false := by simp; exact ⟨by omega, by omega⟩
    have c2 : ¬ p < 0 := by omega
    have c3 : ¬ p > q := by omega
    simp only [c1, c2, c3, decide_false, Bool.or_self, if_false, Bool.false_eq_true, Sem.run_bind, run_askRoom, Result.andThen_ok]
    have hso : (sizeOf e).run P w = .ok sz w := by simp [sizeOf, typeInfo, hi, hsz]
    have hzv : (zeroValue e).run P w = .ok zv w := by simp [zeroValue, typeInfo, hi, hz]
    rw [hso]
    simp only [Result.andThen_ok]
    by_cases hq : q.toNat * sz = 0
    · rw [if_pos hq, hq]
      simp only [Sem.run_bind, Sem.run_pure, Result.andThen_ok, newRow, run_newObj]
      rw [show Array.range 0 = #[] from rfl]
      simp only [Array.map_empty]
      rfl
    · rw [if_neg hq]
      simp only [Sem.run_bind, Sem.run_pure, Result.andThen_ok, newRow, run_newObj, hzv]
      rfl
  · have hlen : (List.replicate p.toNat z).length = p.toNat := by simp
    have key := new_arr (n := n) (d := o.dst) (T := e) (vs := (Array.range (q.toNat * sz)).map fun j => zv.cells[j % zv.cells.size]!) (xs := List.replicate p.toNat z) (sz := sz) (cap := q.toNat) r hF ?_ (by simp; omega) (by simp) hd
    · rw [hlen] at key
      rw [hzl]; exact key
    · refine ⟨fun i x hx => ?_, fun i x j y hx hy => ?_⟩
      · have := (List.mem_replicate.1 (List.mem_of_getElem? hx)).2; subst this; exact ⟨hzl, hall⟩
      · have := (List.mem_replicate.1 (List.mem_of_getElem? hx)).2; subst this
        have hip : i < p.toNat := by have := (List.getElem?_eq_some_iff.1 hx).1; simpa using this
        have hj : j < sz := by rw [← hzl]; exact (List.getElem?_eq_some_iff.1 hy).1
        have hlt : 0 + i * sz + j < q.toNat * sz := by
          have : (i + 1) * sz ≤ q.toNat * sz := Nat.mul_le_mul_right _ (by omega)
          rw [Nat.add_mul, Nat.one_mul] at this; omega
        refine ⟨zv.cells[j]'(by omega), ?_, ?_⟩
        · have hm : (0 + i * sz + j) % zv.cells.size = j := by
            rw [hzc, Nat.zero_add, Nat.add_comm, Nat.add_mul_mod_self_right, Nat.mod_eq_of_lt hj]
          rw [Array.getElem?_map, Array.getElem?_range, if_pos hlt]
          simp only [Option.map_some, hm]
          rw [getElem!_pos zv.cells j (by omega)]
        · rw [hzz, List.getElem?_map, Array.getElem?_toList, Array.getElem?_eq_getElem (by omega)] at hy
          simp at hy; subst hy
          exact .v _

theorem mks_ok {T e : TypeId} {sz : Nat} {z : AV} {l c : Operand} {l' c' : Opd} (ho : o.op = .makeSlice T l c) (hT : P.underlying T = some (.slice e)) (he : elemT P e = some (sz, z))
    (hl : cOpd l = some l') (hc : cOpd c = some c')
    (hd : ∀ d, o.dst = some d → d < N) (r : Rel X N w S κ t m F a) (hF : F n) (h : vop (.mks z l' c') t m n K) : o.wp P a w (Post K X N o.dst t m F n) Q := by
  simp only [vop] at h
  split at h
  · rename_i k1 p k2 q e1 e2
    obtain ⟨h0, h1, h2, hK⟩ := h
    obtain ⟨v, w', g1, g2⟩ := mks_core ho hT he (ev_v hl r e1) (ev_v hc r e2) h0 h1 h2 hd r hF
    exact wp_value g1 ⟨_, _, S, _, hK, g2⟩
  · exact h.elim

theorem isNilAV_inv {z : AV} (h : isNilAV z = true) : z = .v (.slice none 0 0) := by
  unfold isNilAV at h
  split at h
  · rfl
  · cases h

/-- a new slice of slices -/
theorem mkm_ok {T e : TypeId} {sz s2 : Nat} {z : AV} {l c : Operand} {l' c' : Opd} (ho : o.op = .makeSlice T l c) (hT : P.underlying T = some (.slice e)) (he : elemT P e = some (sz, z)) (hz : isNilAV z = true)
    (hl : cOpd l = some l') (hc : cOpd c = some c')
    (hd : ∀ d, o.dst = some d → d < N) (r : Rel X N w S κ t m F a) (hF : F n) (h : vop (.mkm s2 l' c') t m n K) : o.wp P a w (Post K X N o.dst t m F n) Q := by
  have hz' := isNilAV_inv hz
  subst hz'
  have hsz : sz = 1 := by
    obtain ⟨i, zv, hi, hz, hsz, hzc, hpos, hby, hzz, hall⟩ := elemT_inv he
    have := congrArg List.length hzz
    simp [AV.cells] at this
    omega
  subst hsz
  simp only [vop] at h
  split at h
  · rename_i k1 p k2 q e1 e2
    obtain ⟨h0, h1, h2, hK⟩ := h
    obtain ⟨v, w', g1, g2⟩ := mks_core ho hT he (ev_v hl r e1) (ev_v hc r e2) h0 h1 h2 hd r hF
    rcases hK with hK | hK
    · exact wp_value g1 ⟨_, _, S, _, hK, g2⟩
    · refine wp_value g1 ⟨_, _, S, upd κ n (rowLoc w 1 q.toNat p.toNat), hK, ?_⟩
      have hk : lookM ((n, some (.arr (AV.v (.slice none 0 0)).cells.length (List.replicate p.toNat (AV.v (.slice none 0 0))))) :: m) n = some (.arr 1 (List.replicate p.toNat (AV.v (.slice none 0 0)))) := by rw [lookM_cons_eq]; rfl
      have hl1 : upd κ n (rowLoc w 1 q.toNat p.toNat) n = some (rowLoc w 1 q.toNat p.toNat) := by simp [upd]
      obtain ⟨l2, hl2, hob⟩ := g2.ent.mm _ _ hk
      rw [hl1] at hl2; cases hl2
      have := g2.set (d := none) (x := .dead) (v := undef) (o' := .mat s2 (List.replicate p.toNat (.own []))) hk hl1 rfl rfl (fun _ _ => rfl) ?_ (.base (.dead _)) (fun _ h => by cases h) rfl rfl rfl
      · have h3 : Rel X N w' S (upd κ n (rowLoc w 1 q.toNat p.toNat)) (putT o.dst (.arr n 0 p.toNat) t) ((n, some (.mat s2 (List.replicate p.toNat (.own [])))) :: (n, some (.arr (AV.v (.slice none 0 0)).cells.length (List.replicate p.toNat (AV.v (.slice none 0 0))))) :: m) (fun k => F k ∧ k ≠ n) (a.put o.dst v) := this
        refine h3.congr (fun _ => rfl) (fun k => ?_)
        by_cases c : n = k
        · subst c; simp only [List.cons_append, List.nil_append, lookM_cons_eq]
        · simp only [List.cons_append, List.nil_append, lookM_cons_ne _ _ c]
      · rcases hob with ⟨hob, _⟩ | ⟨_, q2, q3, q4, vs, T', q5, q6, q7, q8⟩
        · cases hob
        · refine ⟨rowLoc w 1 q.toNat p.toNat, hl1, rfl, rfl, by simpa using q3, q4, (fun _ _ _ h => by cases h), (fun _ _ h => by cases h), vs, T', q5, by simpa using q6, fun i rr hi => ?_⟩
          have hip : i < p.toNat := by have := (List.getElem?_eq_some_iff.1 hi).1; simpa using this
          have hrr : rr = .own [] := (List.mem_replicate.1 (List.mem_of_getElem? hi)).2
          subst hrr
          obtain ⟨cc, hcc, hR⟩ := q8 i (AV.v (.slice none 0 0)) 0 (AV.v (.slice none 0 0)) (by simp [hip]) rfl
          cases hR
          exact ⟨_, by simpa using hcc, .inl ⟨rfl, rfl, none, rfl⟩⟩
  · exact h.elim

/-- parts that follow one another -/
theorem fill_seq {sz : Nat} : ∀ (vs : List Value) (i0 : Nat) (cells : Array Value), (∀ v ∈ vs, v.cells.size = sz) → (i0 + vs.length) * sz ≤ cells.size →
    ∃ cells', Instr.fill (fun i => some (i * sz, sz)) cells ((List.range' i0 vs.length).zip vs) = some cells' ∧ cells'.size = cells.size ∧
      (∀ j, j < i0 * sz → cells'[j]? = cells[j]?) ∧ ∀ (q : Nat) v jj, vs[q]? = some v → jj < sz → cells'[(i0 + q) * sz + jj]? = v.cells[jj]? := by
  intro vs
  induction vs with
  | nil => intro i0 cells _ _; exact ⟨cells, by simp [Instr.fill], rfl, fun _ _ => rfl, fun q v jj h => by simp at h⟩
  | cons v vs ih =>
    intro i0 cells hs hl
    have hv := hs v (by simp)
    have hstep : i0 * sz + sz ≤ cells.size := by
      have : (i0 + 1) * sz ≤ (i0 + (v :: vs).length) * sz := Nat.mul_le_mul_right _ (by simp)
      rw [Nat.add_mul, Nat.one_mul] at this; omega
    have hsz2 : (v.cells.zipIdx.foldl (fun cs (p : Value × Nat) => cs.setIfInBounds (i0 * sz + p.2) p.1) cells).size = cells.size := by
      rw [← Array.foldl_toList, Array.toList_zipIdx, fill_cells_size]
    have hget : ∀ j, (v.cells.zipIdx.foldl (fun cs (p : Value × Nat) => cs.setIfInBounds (i0 * sz + p.2) p.1) cells)[j]? = if i0 * sz ≤ j ∧ j < i0 * sz + sz then v.cells[j - i0 * sz]? else cells[j]? := fun j => by
      rw [← Array.foldl_toList, Array.toList_zipIdx, fill_cells (i0 * sz) _ 0 cells (by simp [hv]; omega)]
      simp [hv]
    obtain ⟨cells', e1, e2, e3, e4⟩ := ih (i0 + 1) _ (fun v' h' => hs v' (by simp [h'])) (by rw [hsz2, show i0 + 1 + vs.length = i0 + (v :: vs).length by simp; omega]; exact hl)
    refine ⟨cells', ?_, by rw [e2, hsz2], fun j hj => ?_, fun q v' jj hq hjj => ?_⟩
    · simp only [List.length_cons, List.range'_succ, List.zip_cons_cons, Instr.fill]
      rw [if_neg (by simp [hv]; omega)]
      exact e1
    · rw [e3 j (by rw [Nat.add_mul, Nat.one_mul]; omega), hget, if_neg (by omega)]
    · cases q with
      | zero =>
        simp at hq; subst hq
        rw [e3 _ (by rw [Nat.add_zero, Nat.add_mul, Nat.one_mul]; omega), hget, if_pos (by simp; omega)]
        congr 1; simp
      | succ q =>
        have := e4 q v' jj (by simpa using hq) hjj
        rwa [show i0 + 1 + q = i0 + (q + 1) by omega] at this

theorem zip_parts {parts : List (Nat × Operand)} {len : Nat} (h : parts.map (·.1) = List.range len) : parts.map (fun (i, x) => (i, a.eval x)) = (List.range' 0 (parts.map (·.2)).length).zip ((parts.map (·.2)).map a.eval) := by
  have h2 : List.range' 0 (parts.map (·.2)).length = parts.map (·.1) := by
    have hl : parts.length = len := by have := congrArg List.length h; simpa using this
    rw [h, List.range_eq_range']; simp [hl]
  rw [h2, List.map_map]
  clear h h2
  induction parts with
  | nil => rfl
  | cons p parts ih => simp only [List.map_cons, List.zip_cons_cons, ih]; rfl

theorem blds_core {T e : TypeId} {sz len : Nat} {z : AV} {parts : Array (Nat × Operand)} {ys : List AV} (ho : o.op = .buildSlice T len parts) (hT : P.underlying T = some (.slice e)) (he : elemT P e = some (sz, z))
    (hlen : len * sz ≤ 2 ^ 24) (hp : parts.toList.map (·.1) = List.range len)
    (hev : ys.length = (parts.toList.map (·.2)).length ∧ ∀ (q : Nat) x v, ys[q]? = some x → ((parts.toList.map (·.2)).map a.eval)[q]? = some v → R w S κ x v)
    (hd : ∀ d, o.dst = some d → d < N) (r : Rel X N w S κ t m F a) (hF : F n) (hok : okElems sz ys = true) (hK : K (.arr n 0 ys.length) [(n, some (.arr sz ys))]) : o.wp P a w (Post K X N o.dst t m F n) Q := by
  obtain ⟨i, zv, hi, hz, hsz, hzc, hpos, hby, hzz, _⟩ := elemT_inv he
  have hpl : parts.toList.length = len := by have := congrArg List.length hp; simpa using this
  have hel : (ys).length = len := by rw [hev.1]; simp [hpl]
  have hvs : ∀ v ∈ (parts.toList.map (·.2)).map a.eval, v.cells.size = sz := fun v hv => by
    obtain ⟨q, hq, rfl⟩ := List.getElem_of_mem hv
    have hq' : q < (ys).length := by rw [hev.1]; simpa using hq
    have hok' := okElems_get hok q _ (List.getElem?_eq_getElem hq')
    have hR := hev.2 q _ _ (List.getElem?_eq_getElem hq') (List.getElem?_eq_getElem hq)
    rw [← (cells_R hR (okVal_of_allCell hok'.2.1)).1]; exact hok'.1
  obtain ⟨cells', f1, f2, f3, f4⟩ := fill_seq ((parts.toList.map (·.2)).map a.eval) 0 ((Array.range (len * sz)).map fun j => (if len * sz = 0 then #[] else zv.cells)[j % (if len * sz = 0 then #[] else zv.cells).size]!) hvs
    (by simp [hpl])
  have hcs : cells'.size = len * sz := by rw [f2]; simp
  refine wp_value (v := .slice (some ⟨w.heap.size, 0, none⟩) (ys).length (ys).length) (w' := w.alloc (.cells cells' e)) ?_ ⟨.arr n 0 (ys).length, [(n, some (.arr sz (ys)))], S, upd κ n (rowLoc w sz (ys).length (ys).length), hK, ?_⟩
  · have hso : (sizeOf e).run P w = .ok sz w := by simp [sizeOf, typeInfo, hi, hsz]
    have hzv : (zeroValue e).run P w = .ok zv w := by simp [zeroValue, typeInfo, hi, hz]
    have hnb : ¬ len * sz > 2 ^ 24 := by omega
    have hfill := f1
    simp only [List.length_map] at hfill
    have hzp := zip_parts (a := a) hp
    simp only [List.length_map] at hzp
    rw [← hzp] at hfill
    simp only [execOp, ho, Sem.run_bind, Instr.buildSlice, und_run hT, Result.andThen_ok, hso, hnb, if_false, Sem.run_pure]
    by_cases h0 : len * sz = 0
    · simp only [h0, if_true] at hfill ⊢
      simp only [Sem.run_bind, Sem.run_pure, Result.andThen_ok, Array.toList_map]
      rw [hfill]
      simp only [newRow, Sem.run_bind, run_newObj, Result.andThen_ok, Sem.run_pure, hel]
      rfl
    · simp only [h0, if_false] at hfill ⊢
      simp only [Sem.run_bind, Sem.run_pure, Result.andThen_ok, hzv, Array.toList_map]
      rw [hfill]
      simp only [newRow, Sem.run_bind, run_newObj, Result.andThen_ok, Sem.run_pure, hel]
      rfl
  · refine new_arr r hF ⟨fun q x hq => ⟨(okElems_get hok q x hq).1, (okElems_get hok q x hq).2.1⟩, fun q x j y hq hy => ?_⟩ (Nat.le_refl _) (by rw [hcs, hel]; exact Nat.le_refl _) hd
    have hql : q < (ys).length := (List.getElem?_eq_some_iff.1 hq).1
    have hq2 : q < ((parts.toList.map (·.2)).map a.eval).length := by rw [hel] at hql; simp [hpl]; omega
    have hok' := okElems_get hok q x hq
    have hR := hev.2 q x _ hq (List.getElem?_eq_getElem hq2)
    have hc := cells_R hR (okVal_of_allCell hok'.2.1)
    have hj : j < sz := by rw [← hok'.1]; exact (List.getElem?_eq_some_iff.1 hy).1
    have := f4 q _ j (List.getElem?_eq_getElem hq2) hj
    simp only [Nat.zero_add] at this ⊢
    have hjs : j < (((parts.toList.map (·.2)).map a.eval)[q]).cells.size := by rw [← hc.1, hok'.1]; exact hj
    refine ⟨(((parts.toList.map (·.2)).map a.eval)[q]).cells[j], by rw [this]; simp, ?_⟩
    exact kf_R0 (hc.2.1 j y _ hy (by simp)) (kfs_get hok'.2.2 hy)

theorem blds_ok {T e : TypeId} {sz len : Nat} {z : AV} {parts : Array (Nat × Operand)} {xs : List Opd} (ho : o.op = .buildSlice T len parts) (hT : P.underlying T = some (.slice e)) (he : elemT P e = some (sz, z))
    (hlen : len * sz ≤ 2 ^ 24) (hp : parts.toList.map (·.1) = List.range len) (hx : cOpds (parts.toList.map (·.2)) = some xs)
    (hd : ∀ d, o.dst = some d → d < N) (r : Rel X N w S κ t m F a) (hF : F n) (h : vop (.blds sz xs) t m n K) : o.wp P a w (Post K X N o.dst t m F n) Q := by
  obtain ⟨i, zv, hi, hz, hsz, hzc, hpos, hby, hzz, _⟩ := elemT_inv he
  have hev := evs_ok hx r
  have hpl : parts.toList.length = len := by have := congrArg List.length hp; simpa using this
  simp only [vop] at h
  obtain ⟨hok, hK⟩ := h
  have hxl : xs.length = len := by
    have : ∀ (l : List Operand) (l' : List Opd), cOpds l = some l' → l'.length = l.length := by
      intro l
      induction l with
      | nil => intro l' h; simp [cOpds] at h; subst h; rfl
      | cons x l ih =>
        intro l' h
        simp only [cOpds] at h
        split at h
        · rename_i h1 h2; simp at h; subst h; simp [ih _ h2]
        · cases h
    rw [this _ _ hx]; simp [hpl]
  have h2 := blds_core (Q := Q) (K := K) ho hT he hlen hp hev hd r hF hok (by rw [hev.1, List.length_map, hpl, ← hxl]; exact hK)
  exact h2

/-- a key that goes over into another one, the block with it -/
theorem Rel.adopt (r : Rel X N w S κ t m F a) (hF : F n) {d : Option Nat} {x : AV} {v : Value} {k : Nat} {o1 o' : MObj} {l l' : Loc} (hk : lookM m k = some o1) (hl : κ k = some l)
    (hn : l.isNil = false) (hbb : l'.b = l.b) (hsub : ∀ i, l'.subs i = none) (hs : w'.heap.size = w.heap.size) (hw : ∀ b, b ≠ l.b → w'.heap[b]? = w.heap[b]?) (ho : ObjR w' S (upd κ n l') n o')
    (hr : R w' S (upd κ n l') x v) (hd : ∀ i, d = some i → i < N) (h1 : w'.os = w.os) (h2 : w'.tape = w.tape) (h3 : w'.output = w.output) :
    Rel X N w' S (upd κ n l') (putT d x t) ((n, some o') :: (k, none) :: m) (fun q => F q ∧ q ≠ n) (a.put d v) := by
  have hfn := r.ent.fresh n hF
  have hext := upd_ext hfn.2 l'
  have hSl := (r.ent.own1 k o1 l hk hl hn)
  have hSw : ∀ b, S b → w'.heap[b]? = w.heap[b]? := fun b hb => hw b (fun h => hSl.1 (h ▸ hb))
  have hkn : k ≠ n := fun h => by subst h; rw [hfn.1] at hk; cases hk
  have hold : ∀ q l2, q ≠ n → upd κ n l' q = some l2 → κ q = some l2 := fun q l2 hq h => by simpa [upd, hq] using h
  have hnew : ∀ l2, upd κ n l' n = some l2 → l2 = l' := fun l2 h => by simpa [upd, eq_comm] using h
  have hlive : ∀ q o2, q ≠ n → lookM ((n, some o') :: (k, none) :: m) q = some o2 → lookM m q = some o2 ∧ q ≠ k := fun q o2 hq h => by
    rw [lookM_cons_ne _ _ (Ne.symm hq)] at h
    by_cases c : q = k
    · subst c; rw [lookM_cons_eq] at h; cases h
    · rw [lookM_cons_ne _ _ (Ne.symm c)] at h; exact ⟨h, c⟩
  have apart : ∀ q o2 l2 b, lookM m q = some o2 → q ≠ k → κ q = some l2 → l2.has b → b ≠ l.b := fun q o2 l2 b h1 h2 h3 h4 hb =>
    h2 (r.ent.inj q k o2 o1 l2 l b h1 hk h3 hl h4 (.inl ⟨hn, hb.symm⟩))
  refine ⟨by rw [put_size, r.size], by rw [put_defers, r.defers], tm_put (fun i => (r.tm i).mono hSw (fun _ h => h) hext) hr (fun i h => r.size ▸ hd i h), ⟨?_, ?_, ?_, ?_, r.ent.sb.mono hSw (fun _ h => h) (fun b hb => hs ▸ r.ent.sb.lt b hb)⟩, ?_⟩
  · intro q o2 h
    by_cases c : q = n
    · subst c; rw [lookM_cons_eq] at h; cases h; exact ho
    · obtain ⟨g1, g2⟩ := hlive q o2 c h
      exact (r.ent.mm q o2 g1).mono hSw (fun _ h => h) hext (fun l2 b hl2 hn2 => hw _ (apart q o2 l2 b g1 g2 hl2 hn2))
  · intro q1 q2 p1 p2 l1 l2 b g1 g2 hk1 hk2 hn1 hn2
    by_cases c1 : q1 = n <;> by_cases c2 : q2 = n
    · rw [c1, c2]
    · subst c1
      obtain ⟨e1, e2⟩ := hlive q2 p2 c2 g2
      have := hnew _ hk1; subst this
      exact (apart q2 p2 l2 b e1 e2 (hold _ _ c2 hk2) hn2 (by rw [← (Loc.has_one hsub hn1).2, hbb])).elim
    · subst c2
      obtain ⟨e1, e2⟩ := hlive q1 p1 c1 g1
      have := hnew _ hk2; subst this
      exact (apart q1 p1 l1 b e1 e2 (hold _ _ c1 hk1) hn1 (by rw [← (Loc.has_one hsub hn2).2, hbb])).elim
    · obtain ⟨e1, _⟩ := hlive q1 p1 c1 g1
      obtain ⟨e2, _⟩ := hlive q2 p2 c2 g2
      exact r.ent.inj q1 q2 p1 p2 l1 l2 b e1 e2 (hold _ _ c1 hk1) (hold _ _ c2 hk2) hn1 hn2
  · intro q p1 l1 b g1 hk1 hn1
    by_cases c : q = n
    · subst c
      have := hnew _ hk1; subst this
      rw [← (Loc.has_one hsub hn1).2, hbb, hs]; exact hSl
    · obtain ⟨e1, _⟩ := hlive q p1 c g1
      rw [hs]; exact r.ent.own q p1 l1 b e1 (hold _ _ c hk1) hn1
  · intro q hq
    have := r.ent.fresh q hq.1
    have hqk : k ≠ q := fun h => by subst h; rw [this.1] at hk; cases hk
    rw [lookM_cons_ne _ _ (Ne.symm hq.2), lookM_cons_ne _ _ hqk]
    exact ⟨this.1, by simp [upd, hq.2, this.2]⟩
  · have hown := r.since.own k o1 l l.b hk hl (.inl ⟨hn, rfl⟩)
    refine ⟨fun q p1 l1 b g1 hk1 hn1 => ?_, r.since.s0, h1.trans r.since.os, h2.trans r.since.tape, h3.trans r.since.output, hs ▸ r.since.ge, fun b hb hL => ?_, fun q l2 hq => by
      obtain ⟨l3, g1, g2⟩ := r.since.kp q l2 hq
      exact ⟨l3, hext q l3 g1, g2⟩⟩
    · by_cases c : q = n
      · subst c
        have := hnew _ hk1; subst this
        rw [← (Loc.has_one hsub hn1).2, hbb]; exact hown
      · obtain ⟨e1, _⟩ := hlive q p1 c g1
        exact r.since.own q p1 l1 b e1 (hold _ _ c hk1) hn1
    · rw [hw b (fun h => ?_)]
      · exact r.since.keep b hb hL
      · subst h
        rcases hown with h | h
        · omega
        · exact hL h

/-- nothing lies behind a slice without room -/
def nilLoc : Loc := ⟨0, 0, 0, 0, 0, true, fun _ => none⟩

theorem Rel.newNil (r : Rel X N w S κ t m F a) (hF : F n) {d : Option Nat} {ad : Option Addr} {sz : Nat} (hd : ∀ i, d = some i → i < N) :
    Rel X N w S (upd κ n nilLoc) (putT d (.arr n 0 0) t) ((n, some (.arr sz [])) :: m) (fun k => F k ∧ k ≠ n) (a.put d (.slice ad 0 0)) := by
  refine r.new hF (Nat.le_refl _) (fun _ _ => rfl) ⟨nilLoc, by simp [upd], .inl ⟨rfl, rfl⟩⟩ (Loc.has_new (fun _ => rfl) fun h => by cases h) ?_ hd rfl rfl rfl
  cases ad with
  | none => exact .arrNil (l := nilLoc) (by simp [upd]) rfl
  | some ad => exact .arr0 (l := nilLoc) (by simp [upd])

end Go.Av
