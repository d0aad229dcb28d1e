/- What an operation asks is enough: the operations without memory. -/
import Derived.Test.YtblakcgmngdhmaaAvD
namespace Go.Av

variable {P : Program} {w w' : World} {S S' : Nat → Prop} {κ κ' : Nat → Option Loc} {m : Mem} {n N : Nat} {F : Nat → Prop} {t : Tmps} {a : Act} {X : Ctx}
  {K : AV → Mem → Prop} {Q : Exit → Act → World → Prop} {o : Oper}

def Post (K : AV → Mem → Prop) (X : Ctx) (N : Nat) (d : Option Nat) (t : Tmps) (m : Mem) (F : Nat → Prop) (n : Nat) : Act → World → Prop :=
  fun a' w' => ∃ x u S' κ', K x u ∧ Rel X N w' S' κ' (putT d x t) (u ++ m) (fun k => F k ∧ k ≠ n) a'

theorem wp_value {v : Value} {K' : Act → World → Prop} (h : (execOp a.eval o).run P w = .ok (.value v) w') (hK : K' (a.put o.dst v) w') : o.wp P a w K' Q := by
  unfold Oper.wp; rw [h]; exact hK
theorem wp_skipped {K' : Act → World → Prop} (h : (execOp a.eval o).run P w = .ok .skip w') (hK : K' (a.put o.dst undef) w') : o.wp P a w K' Q := by
  unfold Oper.wp; rw [h]; exact hK

/-- a value that is found without a change of memory -/
theorem wp_pure {v : Value} {x : AV} (h : (execOp a.eval o).run P w = .ok (.value v) w) (r : Rel X N w S κ t m F a)
    (hd : ∀ d, o.dst = some d → d < N) (hx : R w S κ x v) (hK : K x []) : o.wp P a w (Post K X N o.dst t m F n) Q :=
  wp_value h ⟨x, [], S, κ, hK, (r.put hx hd).free fun _ h => h.1⟩

theorem ev_ok {x : Operand} {x' : Opd} (h : cOpd x = some x') (r : Rel X N w S κ t m F a) : R w S κ (ev t x') (a.eval x) := by
  cases x with
  | tmp n => simp only [cOpd, Option.some.injEq] at h; subst h; exact r.tm _
  | const v => simp only [cOpd, Option.some.injEq] at h; subst h; exact .base (.v _)
  | func f => simp only [cOpd, Option.some.injEq] at h; subst h; exact .fn rfl (fun i x y h => by simp at h)
  | global g =>
    simp only [cOpd] at h
    obtain ⟨cs, hg, rfl⟩ := Option.map_eq_some_iff.1 h
    exact .base (r.ent.sb.gl _ _ (gfind_mem hg))

/-- a plain value is the value itself -/
theorem R.v_inv {x : Value} {v : Value} (h : R w S κ (.v x) v) : v = x := by
  cases h with | base h => cases h; rfl

theorem ev_v {x : Operand} {x' : Opd} {v : Value} (h : cOpd x = some x') (r : Rel X N w S κ t m F a) (e : ev t x' = .v v) : a.eval x = v := by
  have := ev_ok h r
  rw [e] at this
  exact this.v_inv

theorem mov_ok {x : Operand} {x' : Opd} (ho : o.op = .move x ∨ o.op = .assign x) (hx : cOpd x = some x') (hd : ∀ d, o.dst = some d → d < N)
    (r : Rel X N w S κ t m F a) (h : K (ev t x') []) : o.wp P a w (Post K X N o.dst t m F n) Q := by
  refine wp_pure (v := a.eval x) ?_ r hd (ev_ok hx r) h
  rcases ho with ho | ho <;> simp [execOp, ho]

theorem pick_ok {c x y : Operand} {c' x' y' : Opd} (ho : o.op = .pick c x y) (hc : cOpd c = some c') (hx : cOpd x = some x') (hy : cOpd y = some y')
    (hd : ∀ d, o.dst = some d → d < N) (r : Rel X N w S κ t m F a) (h : vop (.pick c' x' y') t m n K) : o.wp P a w (Post K X N o.dst t m F n) Q := by
  simp only [vop] at h
  split at h
  · rename_i b e
    have hb := ev_v hc r e
    cases b with
    | true =>
      refine wp_pure (v := a.eval x) ?_ r hd (ev_ok hx r) (h.1 rfl)
      simp [execOp, ho, hb, asBool]
    | false =>
      refine wp_pure (v := a.eval y) ?_ r hd (ev_ok hy r) (h.2 rfl)
      simp [execOp, ho, hb, asBool]
  · exact h.elim

theorem eqGuard_int (op : BinOp) (T : TypeId) (x y : Operand) (k k' : IntKind) (c d : Int) : (eqGuard op T x y (.int k c) (.int k' d)).run P w = .ok () w := by
  unfold eqGuard; split <;> rfl
theorem eqGuard_bool (op : BinOp) (T : TypeId) (x y : Operand) (c d : Bool) : (eqGuard op T x y (.bool c) (.bool d)).run P w = .ok () w := by
  unfold eqGuard; split <;> rfl

theorem equalIn_bool {T : TypeId} (hT : P.underlying T = some .bool) (d : Nat) (x y : Bool) : (Op.equalIn (d + 1) T (.bool x) (.bool y)).run P w = .ok (x == y) w := by
  have hu : (underlying T).run P w = .ok .bool w := by simp [underlying, hT]
  simp only [Op.equalIn, Sem.run_bind, hu, Result.andThen_ok, Sem.run_pure]
theorem equal_bool {T : TypeId} (hT : P.underlying T = some .bool) (x y : Bool) : (Op.equal T (.bool x) (.bool y)).run P w = .ok (x == y) w :=
  equalIn_bool hT 9999 x y

theorem bin_run {op : BinOp} {k k' : IntKind} {c d : Int} {T : TypeId} {G : Value → Prop}
    (h : match op with
      | .shl => vshift .shl k c d G
      | .shr => vshift .shr k c d G
      | op => k = k' ∧ vbin op k c d G) : ∃ v, (binOp op T (.int k c) (.int k' d)).run P w = .ok v w ∧ G v := by
  cases op <;> simp only [vshift, vbin] at h
  case quo => exact ⟨_, by simp [binOp, h.1, Op.intDiv, h.2.1], h.2.2⟩
  case rem => exact ⟨_, by simp [binOp, h.1, Op.intDiv, h.2.1], h.2.2⟩
  case shl => exact ⟨_, by simp [binOp, Op.shift, show ¬ d < 0 by omega], h.2⟩
  case shr => exact ⟨_, by simp [binOp, Op.shift, show ¬ d < 0 by omega], h.2⟩
  all_goals exact ⟨_, by simp [binOp, h.1, Op.intArith, Op.intBits, Op.intCmp], h.2⟩

theorem bin_ok {op : BinOp} {T T' : TypeId} {x y : Operand} {x' y' : Opd} (ho : o.op = .binOp op T x y T') (hx : cOpd x = some x') (hy : cOpd y = some y')
    (hd : ∀ d, o.dst = some d → d < N) (r : Rel X N w S κ t m F a) (h : vop (.bin op x' y') t m n K) : o.wp P a w (Post K X N o.dst t m F n) Q := by
  simp only [vop] at h
  split at h
  · rename_i k c k' d e1 e2
    have h1 := ev_v hx r e1
    have h2 := ev_v hy r e2
    obtain ⟨v, hv, hG⟩ := bin_run (P := P) (w := w) (T := T) h
    refine wp_pure (v := v) ?_ r hd (.base (.v v)) hG
    simp [execOp, ho, h1, h2, eqGuard_int, hv]
  · exact h.elim

theorem eqb_ok {ng : Bool} {T T' : TypeId} {x y : Operand} {x' y' : Opd} (ho : o.op = .binOp (bif ng then .neq else .eql) T x y T') (hT : P.underlying T = some .bool)
    (hx : cOpd x = some x') (hy : cOpd y = some y')
    (hd : ∀ d, o.dst = some d → d < N) (r : Rel X N w S κ t m F a) (h : vop (.eqb ng x' y') t m n K) : o.wp P a w (Post K X N o.dst t m F n) Q := by
  simp only [vop] at h
  split at h
  · rename_i c d e1 e2
    have h1 := ev_v hx r e1
    have h2 := ev_v hy r e2
    refine wp_pure (v := .bool (bif ng then c != d else c == d)) ?_ r hd (.base (.v _)) h
    have he := equal_bool (P := P) (w := w) hT c d
    cases ng
    · have hb : (binOp .eql T (.bool c) (.bool d)).run P w = .ok (.bool (c == d)) w := by
        rw [show binOp .eql T (.bool c) (.bool d) = (do pure (.bool (← Op.equal T (.bool c) (.bool d)))) from rfl]
        simp only [Sem.run_bind, he, Result.andThen_ok, Sem.run_pure]
      simp only [cond_false] at ho ⊢
      simp [execOp, ho, h1, h2, eqGuard_bool, hb]
    · have hb : (binOp .neq T (.bool c) (.bool d)).run P w = .ok (.bool (c != d)) w := by
        rw [show binOp .neq T (.bool c) (.bool d) = (do pure (.bool (!(← Op.equal T (.bool c) (.bool d))))) from rfl]
        simp only [Sem.run_bind, he, Result.andThen_ok, Sem.run_pure]; rfl
      simp only [cond_true] at ho ⊢
      simp [execOp, ho, h1, h2, eqGuard_bool, hb]
  · exact h.elim

theorem not_ok {T : TypeId} {x : Operand} {x' : Opd} (ho : o.op = .unOp .not T x) (hx : cOpd x = some x')
    (hd : ∀ d, o.dst = some d → d < N) (r : Rel X N w S κ t m F a) (h : vop (.not x') t m n K) : o.wp P a w (Post K X N o.dst t m F n) Q := by
  simp only [vop] at h
  split at h
  · rename_i c e1
    have h1 := ev_v hx r e1
    refine wp_pure (v := .bool !c) ?_ r hd (.base (.v _)) h
    simp [execOp, ho, h1, Op.unary]
  · exact h.elim

theorem neg_ok {T : TypeId} {x : Operand} {x' : Opd} (ho : o.op = .unOp .neg T x) (hx : cOpd x = some x')
    (hd : ∀ d, o.dst = some d → d < N) (r : Rel X N w S κ t m F a) (h : vop (.neg x') t m n K) : o.wp P a w (Post K X N o.dst t m F n) Q := by
  simp only [vop] at h
  split at h
  · rename_i k c e1
    have h1 := ev_v hx r e1
    refine wp_pure (v := .int k (k.wrap (0 - c))) ?_ r hd (.base (.v _)) h
    simp [execOp, ho, h1, Op.unary, Op.intArith]
  · exact h.elim

theorem conv_ok {T T' : TypeId} {d : TypeDesc} {k : IntKind} {x : Operand} {x' : Opd} (ho : o.op = .convert T T' x) (hT : P.underlying T = some d) (hT' : P.underlying T' = some (.int k))
    (hx : cOpd x = some x') (hd : ∀ d, o.dst = some d → d < N) (r : Rel X N w S κ t m F a) (h : vop (.conv k x') t m n K) : o.wp P a w (Post K X N o.dst t m F n) Q := by
  simp only [vop] at h
  split at h
  · rename_i k' c e1
    have h1 := ev_v hx r e1
    have hu : (underlying T).run P w = .ok d w := by simp [underlying, hT]
    have hu' : (underlying T').run P w = .ok (.int k) w := by simp [underlying, hT']
    refine wp_pure (v := .int k (k.wrap c)) ?_ r hd (.base (.v _)) h
    simp [execOp, ho, h1, convert, hu, hu', Conv.intToInt]
  · exact h.elim

theorem R.tup_inv {xs : List AV} {v : Value} (h : R w S κ (.tup xs) v) : ∃ vs, v = .tuple vs ∧ xs.length = vs.size ∧ ∀ (i : Nat) x y, xs[i]? = some x → vs[i]? = some y → R w S κ x y := by
  cases h with
  | base h => cases h with
    | tup hl h2 => exact ⟨_, rfl, hl, fun i x y h1 h3 => .base (h2 i x y h1 h3)⟩
  | tup hl h2 => exact ⟨_, rfl, hl, h2⟩

theorem R.agg_inv {xs : List AV} {v : Value} (h : R w S κ (.agg xs) v) : ∃ vs, v = .agg vs ∧ xs.length = vs.size ∧ ∀ (i : Nat) x y, xs[i]? = some x → vs[i]? = some y → R w S κ x y := by
  cases h with
  | base h => cases h with
    | agg hl h2 => exact ⟨_, rfl, hl, fun i x y h1 h3 => .base (h2 i x y h1 h3)⟩
  | agg hl h2 => exact ⟨_, rfl, hl, h2⟩

theorem R.fn_inv {f : FuncId} {xs : List AV} {v : Value} (h : R w S κ (.fn f xs) v) : ∃ vs, v = .func (.func f) #[] vs ∧ xs.length = vs.size ∧ ∀ (i : Nat) x y, xs[i]? = some x → vs[i]? = some y → R w S κ x y := by
  cases h with
  | base h => cases h with
    | fn hl h2 => exact ⟨_, rfl, hl, fun i x y h1 h3 => .base (h2 i x y h1 h3)⟩
  | fn hl h2 => exact ⟨_, rfl, hl, h2⟩

theorem ext_ok {x : Operand} {i : Nat} {x' : Opd} (ho : o.op = .extract x i) (hx : cOpd x = some x')
    (hd : ∀ d, o.dst = some d → d < N) (r : Rel X N w S κ t m F a) (h : vop (.ext i x') t m n K) : o.wp P a w (Post K X N o.dst t m F n) Q := by
  simp only [vop] at h
  split at h
  · rename_i xs e1
    obtain ⟨y, hy, hK⟩ := h
    have h1 := ev_ok hx r
    rw [e1] at h1
    obtain ⟨vs, hv, hl, hR⟩ := h1.tup_inv
    have hi : i < vs.size := by
      rw [← hl]; exact (List.getElem?_eq_some_iff.1 hy).1
    refine wp_pure (v := vs[i]) ?_ r hd (hR i y _ hy (by simp [hi])) hK
    simp [execOp, ho, hv, Instr.extract, hi]
  · exact h.elim

end Go.Av
/- What an operation asks is enough: boxes, loads, stores, addresses, calls. -/
namespace Go.Av

variable {P : Program} {w w' : World} {S S' : Nat → Prop} {κ κ' : Nat → Option Loc} {m : Mem} {n N : Nat} {F : Nat → Prop} {t : Tmps} {a : Act} {X : Ctx}
  {K : AV → Mem → Prop} {Q : Exit → Act → World → Prop} {o : Oper}

theorem splice_length (cs : List AV) (off : Nat) (xs : List AV) : (splice cs off xs).length = cs.length := by
  fun_induction splice cs off xs <;> simp_all

theorem splice_get (cs : List AV) (off : Nat) (xs : List AV) (h : off + xs.length ≤ cs.length) (j : Nat) :
    (splice cs off xs)[j]? = if off ≤ j ∧ j < off + xs.length then xs[j - off]? else cs[j]? := by
  fun_induction splice cs off xs generalizing j with
  | case1 => simp_all
  | case2 c cs => rw [if_neg (by simp)]
  | case3 c cs x xs ih =>
    cases j with
    | zero => simp
    | succ j =>
      simp only [List.getElem?_cons_succ]
      rw [ih (by simp at h; omega)]
      by_cases hj : j < xs.length
      · rw [if_pos (by omega), if_pos (by simp; omega)]; simp
      · rw [if_neg (by omega), if_neg (by simp; omega)]
  | case4 xs c cs off ih =>
    cases j with
    | zero => simp
    | succ j =>
      simp only [List.getElem?_cons_succ]
      rw [ih (by simp at h; omega)]
      by_cases hj : off ≤ j ∧ j < off + xs.length
      · rw [if_pos hj, if_pos (by omega)]; congr 1; omega
      · rw [if_neg hj, if_neg (by omega)]

theorem cells_R {x : AV} {v : Value} (h : R w S κ x v) (ok : okVal x = true) :
    x.cells.length = v.cells.size ∧ (∀ (j : Nat) y c, x.cells[j]? = some y → v.cells[j]? = some c → R w S κ y c) ∧ (∀ c ∈ v.cells.toList, c.oneCell' = true) := by
  by_cases hx : ∃ xs, x = .agg xs
  · obtain ⟨xs, rfl⟩ := hx
    obtain ⟨vs, rfl, hl, h2⟩ := h.agg_inv
    refine ⟨hl, h2, fun c hc => ?_⟩
    simp only [Value.cells] at hc
    obtain ⟨i, hi, rfl⟩ := List.getElem_of_mem hc
    simp only [Array.length_toList] at hi
    have hix : i < xs.length := by omega
    have := h2 i xs[i] vs[i] (by simp [hix]) (by simp [hi])
    have hcell : xs[i].isCell = true := by
      simp only [okVal, List.all_eq_true] at ok
      exact ok _ (List.getElem_mem hix)
    have hna := this.notAgg hcell
    simp only [Array.getElem_toList]
    cases hv : vs[i] <;> simp_all [Value.oneCell']
  · have hcell : x.isCell = true := by cases x <;> simp_all [okVal]
    have hc : x.cells = [x] := by cases x <;> simp_all [AV.cells]
    have hna := h.notAgg hcell
    have hv : v.cells = #[v] := by cases v <;> simp_all [Value.cells]
    rw [hc, hv]
    refine ⟨rfl, fun j y c h1 h2 => ?_, fun c h1 => ?_⟩
    · cases j with
      | zero => simp at h1 h2; subst h1 h2; exact h
      | succ j => simp at h1
    · simp at h1; subst h1; cases c <;> simp_all [Value.oneCell']

theorem okVal_of_allCell {x : AV} (h : allCell x.cells = true) : okVal x = true := by
  have : ∀ l : List AV, allCell l = true → l.all AV.isCell = true := by
    intro l; induction l with
    | nil => simp
    | cons y l ih => simp only [allCell, Bool.and_eq_true]; intro hh; simp [hh.1]; simpa using ih hh.2
  cases x with
  | agg xs => exact this xs h
  | _ => simpa [AV.cells, okVal, allCell] using h

theorem heap_alloc (w : World) (ob : Obj) : (w.alloc ob).heap = w.heap.push ob := rfl
theorem heap_alloc_old (w : World) (ob : Obj) {b : Nat} (hb : b < w.heap.size) : (w.alloc ob).heap[b]? = w.heap[b]? := by
  rw [heap_alloc, Array.getElem?_push, if_neg (Nat.ne_of_lt hb)]
theorem heap_alloc_new (w : World) (ob : Obj) : (w.alloc ob).heap[w.heap.size]? = some ob := by
  rw [heap_alloc, Array.getElem?_push, if_pos rfl]

/-- the place of a new block -/
def newLoc (w : World) (sz cap : Nat) : Loc := ⟨w.heap.size, 0, sz, cap, cap, false, fun _ => none⟩

theorem new_box {vs : Array Value} {T : TypeId} {cs : List AV} (r : Rel X N w S κ t m F a) (hF : F n) (hl : cs.length = vs.size)
    (h : ∀ (j : Nat) y c, cs[j]? = some y → vs[j]? = some c → R w S κ y c) (hd : ∀ d, o.dst = some d → d < N) :
    Rel X N (w.alloc (.cells vs T)) S (upd κ n (newLoc w 1 cs.length)) (putT o.dst (.ptr n 0) t) ((n, some (.box cs)) :: m) (fun k => F k ∧ k ≠ n) (a.put o.dst (.pointer (some ⟨w.heap.size, 0, none⟩))) := by
  have hn := r.ent.fresh n hF
  have hold : ∀ b, b < w.heap.size → (w.alloc (.cells vs T)).heap[b]? = w.heap[b]? := fun b hb => heap_alloc_old w _ hb
  refine r.new hF (by simp) hold ?_ (Loc.has_new (fun _ => rfl) fun _ => ⟨Nat.le_refl _, by simp [newLoc]⟩) (.ptr (l := newLoc w 1 cs.length) (by simp [upd])) hd rfl rfl rfl
  refine ⟨newLoc w 1 cs.length, by simp [upd], rfl, vs, T, heap_alloc_new w _, by simp [newLoc]; omega, fun j y hj => ?_⟩
  have hjl : j < vs.size := by rw [← hl]; exact (List.getElem?_eq_some_iff.1 hj).1
  refine ⟨vs[j], by simp [newLoc, hjl], ?_⟩
  exact (h j y _ hj (by simp [hjl])).mono (fun b hb => hold b (r.ent.sb.lt b hb)) (fun _ h => h) (upd_ext hn.2 _)

theorem alloc_ok {T : TypeId} {i : TypeInfo} {z : Value} (ho : o.op = .alloc T) (hi : P.info? T = some i) (hz : i.zero = some z)
    (hd : ∀ d, o.dst = some d → d < N) (r : Rel X N w S κ t m F a) (hF : F n) (h : vop (.new z.cells.toList) t m n K) : o.wp P a w (Post K X N o.dst t m F n) Q := by
  simp only [vop] at h
  refine wp_value (v := .pointer (some ⟨w.heap.size, 0, none⟩)) (w' := w.alloc (.cells z.cells T)) ?_ ⟨_, _, _, _, h, new_box (T := T) r hF (by simp) (fun j y c h1 h2 => ?_) hd⟩
  · simp [execOp, ho, Instr.alloc, zeroValue, typeInfo, hi, hz, newVar, newRow]
  · simp only [List.getElem?_map, Array.getElem?_toList] at h1
    rw [h2] at h1
    simp at h1; subst h1
    exact .base (.v _)

theorem box_ok {T : TypeId} {x : Operand} {x' : Opd} (ho : o.op = .box T x) (hx : cOpd x = some x')
    (hd : ∀ d, o.dst = some d → d < N) (r : Rel X N w S κ t m F a) (hF : F n) (h : vop (.box x') t m n K) : o.wp P a w (Post K X N o.dst t m F n) Q := by
  simp only [vop] at h
  have hc := cells_R (ev_ok hx r) h.1
  refine wp_value (v := .pointer (some ⟨w.heap.size, 0, none⟩)) (w' := w.alloc (.cells (a.eval x).cells T)) ?_ ⟨_, _, _, _, h.2, new_box (T := T) r hF hc.1 hc.2.1 hd⟩
  simp [execOp, ho, Instr.box, newVar, newRow]

theorem sizeT_run {T : TypeId} {k : Nat} (h : sizeT P T = some k) : (sizeOf T).run P w = .ok k w := by
  simp only [sizeT, Option.map_eq_some_iff] at h
  obtain ⟨i, hi, rfl⟩ := h
  simp [sizeOf, typeInfo, hi]

theorem isAgg_run {T : TypeId} {b : Bool} (h : isRowT P T = some b) : (isAgg T).run P w = .ok b w := by
  unfold isRowT at h
  unfold isAgg
  cases hu : P.underlying T with
  | none => simp [hu] at h
  | some d => cases d <;> simp_all [underlying]

/-- a variable in memory is read -/
theorem loadVar_run {T : TypeId} {c : Option Nat} {b off : Nat} {cs : List AV} {f : Nat → Value} {G : AV → Prop} (hT : ldT P T = some c)
    (hc : ∀ j, j < cs.length → w.cell? ⟨b, off + j, none⟩ = some (f j)) (hR : ∀ (j : Nat) y, cs[j]? = some y → R w S κ y (f j)) {d : Nat}
    (h : ldc c cs d G) : ∃ v y, (loadVar T ⟨b, off + d, none⟩).run P w = .ok v w ∧ R w S κ y v ∧ G y := by
  unfold ldT at hT
  cases hr : isRowT P T with
  | none => simp [hr] at hT
  | some rw =>
    cases hs : sizeT P T with
    | none => cases rw <;> simp [hr, hs] at hT
    | some k =>
      cases rw with
      | true =>
        simp [hr, hs] at hT; subst hT
        simp only [ldc] at h
        refine ⟨.agg ((List.range k).map fun j => f (d + j)).toArray, _, ?_, ?_, h.2⟩
        · have := run_loadCells (P := P) w ⟨b, off + d, none⟩ k (fun j => f (d + j)) (fun j hj => by
            have := hc (d + j) (by omega)
            rw [show (⟨b, off + d, none⟩ : Addr).add j = ⟨b, off + (d + j), none⟩ from by unfold Addr.add; split <;> simp_all <;> omega]
            exact this)
          simp [loadVar, isAgg_run hr, sizeT_run hs, this]
        · refine .agg (by simp; omega) (fun i x y h1 h2 => ?_)
          simp only [List.getElem?_toArray, List.getElem?_map, Option.map_eq_some_iff] at h2
          obtain ⟨i', hi', rfl⟩ := h2
          have hik : i < k := by have := (List.getElem?_eq_some_iff.1 hi').1; simpa using this
          have : i' = i := by rw [List.getElem?_range hik] at hi'; simpa using hi'.symm
          subst i'
          have h1' : cs[d + i]? = some x := by
            rw [List.getElem?_take_of_lt hik, List.getElem?_drop] at h1; exact h1
          exact hR _ _ h1'
      | false =>
        have hk : k = 1 ∧ c = none := by
          cases k with
          | zero => simp [hr, hs] at hT
          | succ k => cases k with
            | zero => simp [hr, hs] at hT; exact ⟨rfl, hT.symm⟩
            | succ k => simp [hr, hs] at hT
        obtain ⟨rfl, rfl⟩ := hk
        simp only [ldc] at h
        obtain ⟨y, hy, hG⟩ := h
        have hd : d < cs.length := (List.getElem?_eq_some_iff.1 hy).1
        refine ⟨f d, y, ?_, hR d y hy, hG⟩
        simp [loadVar, isAgg_run hr, hc d hd]

theorem R.ptr_inv {k off : Nat} {v : Value} (h : R w S κ (.ptr k off) v) : ∃ l, κ k = some l ∧ v = .pointer (some ⟨l.b, l.base + off, none⟩) := by
  cases h with
  | base h => cases h
  | ptr hk => exact ⟨_, hk, rfl⟩
theorem R.elt_inv {k i j : Nat} {v : Value} (h : R w S κ (.elt k i j) v) : ∃ l, κ k = some l ∧ l.isNil = false ∧ v = .pointer (some ⟨l.b, l.base + i * l.sz + j, none⟩) := by
  cases h with
  | base h => cases h
  | elt hk hn => exact ⟨_, hk, hn, rfl⟩
theorem R.rp_inv {cs : List AV} {v : Value} (h : R w S κ (.rp cs) v) : ∃ (b off : Nat) (c : Nat → Value), v = .pointer (some ⟨b, off, none⟩) ∧ S b ∧
    (∀ j, j < cs.length → w.cell? ⟨b, off + j, none⟩ = some (c j)) ∧ (∀ (j : Nat) y, cs[j]? = some y → R0 w S y (c j)) := by
  cases h with
  | base h => cases h with
    | rp hb hc h => exact ⟨_, _, _, rfl, hb, hc, h⟩

theorem cell_of {b : Nat} {vs : Array Value} {T : TypeId} {fz : Nat × Nat} (h : w.heap[b]? = some (.cells vs T fz)) (j : Nat) : w.cell? ⟨b, j, none⟩ = vs[j]? := by
  simp [World.cell?, h]

theorem load_ok {T : TypeId} {c : Option Nat} {x : Operand} {x' : Opd} (ho : o.op = .load T x) (hT : ldT P T = some c) (hx : cOpd x = some x')
    (hd : ∀ d, o.dst = some d → d < N) (r : Rel X N w S κ t m F a) (hF : F n) (h : vld c m n (ev t x') K) : o.wp P a w (Post K X N o.dst t m F n) Q := by
  have hr := ev_ok hx r
  have fin : ∀ {v : Value} {y : AV} {ad : Addr}, a.eval x = .pointer (some ad) → (loadVar T ad).run P w = .ok v w → R w S κ y v → K y [] → o.wp P a w (Post K X N o.dst t m F n) Q :=
    fun {v y ad} h1 h2 h3 h4 => wp_pure (v := v) (by simp [execOp, ho, h1, Instr.loadAt, Instr.sureAddr, h2]) r hd h3 h4
  unfold vld at h
  split at h
  · rename_i k off e
    rw [e] at hr
    obtain ⟨l, hk, hv⟩ := hr.ptr_inv
    split at h
    · rename_i cs hm
      obtain ⟨l', hk', hn, vs, T', h1, h2, h3⟩ := r.ent.mm _ _ hm
      rw [hk] at hk'; cases hk'
      obtain ⟨v, y, h4, h5, h6⟩ := loadVar_run (P := P) (w := w) (S := S) (κ := κ) (b := l.b) (off := l.base) (cs := cs) (f := fun j => (vs[l.base + j]?).getD undef) hT
        (fun j hj => by rw [cell_of h1]; rw [Array.getElem?_eq_getElem (by omega)]; rfl)
        (fun j y hj => by obtain ⟨c, hc, hR⟩ := h3 j y hj; rw [hc]; exact hR) h
      exact fin hv h4 h5 h6
    · exact h.elim
  · rename_i cs e
    rw [e] at hr
    obtain ⟨b, off, f, hv, hb, h1, h2⟩ := hr.rp_inv
    obtain ⟨v, y, h4, h5, h6⟩ := loadVar_run (P := P) (w := w) (S := S) (κ := κ) (b := b) (off := off) (cs := cs) (f := f) hT h1 (fun j y hj => .base (h2 j y hj)) h
    exact fin hv h4 h5 h6
  · rename_i k i j e
    rw [e] at hr
    obtain ⟨l, hk, hn, hv⟩ := hr.elt_inv
    have row : ∀ {sz : Nat} {rows : List MRow} {o0 : MObj}, lookM m k = some o0 → ObjR w S κ k (.mat sz rows) → (c = none ∧ j = 0 ∧ PickR rows i fun r => match r with
        | .own xs => K (.arr n 0 xs.length) [(n, some (.arr sz xs)), (k, some (.lent sz (rows.set i .gone) i n))]
        | .cell x => K x []
        | .gone => False) → o.wp P a w (Post K X N o.dst t m F n) Q := by
      intro sz rows o0 hm h0 h
      obtain ⟨rfl, rfl, r0, hr0, h⟩ := h
      obtain ⟨l', hk', h0⟩ := h0
      rw [hk] at hk'; cases hk'
      obtain ⟨_, h1, h2, h3, h4, h5, vs, T', h6, h7, h8⟩ := h0
      obtain ⟨cv, hcv, hrow⟩ := h8 i r0 hr0
      have hil : i < rows.length := (List.getElem?_eq_some_iff.1 hr0).1
      have hrun : ∀ {y : AV}, R w S κ y cv → (loadVar T ⟨l.b, l.base + i * l.sz + 0, none⟩).run P w = .ok cv w := fun {y} hy => by
        obtain ⟨v, y', g1, g2, g3⟩ := loadVar_run (P := P) (w := w) (S := S) (κ := κ) (b := l.b) (off := l.base + i * l.sz) (cs := [AV.v cv]) (f := fun _ => cv) (d := 0) (G := fun z => z = .v cv) hT
          (fun j hj => by
            have : j = 0 := by simp at hj; omega
            subst this
            rw [cell_of h6, h1, Nat.mul_one, Nat.add_zero, hcv])
          (fun j y hj => by
            cases j with
            | zero => simp at hj; subst hj; exact .base (.v _)
            | succ j => simp at hj) ⟨.v cv, rfl, rfl⟩
        subst g3
        rw [g1, g2.v_inv]
      split at h
      · rename_i xs
        have hset : ∀ (κ2 : Nat → Option Loc) (l2 : Loc), κ2 k = some l2 → l2.same l → (∀ j, j ≠ i → l2.subs j = l.subs j) → l2.subs i = none → ObjR w S κ2 k (.mat sz (rows.set i .gone)) := fun κ2 l2 q1 q2 q3 q4 => by
          refine ⟨l2, q1, q2.isNil.trans hn, q2.sz.trans h1, by rw [List.length_set, q2.used]; exact h2, by rw [q2.used, q2.cap]; exact h3, fun p q b g1 g2 => ?_, fun p b g1 => ?_, vs, T', by rw [q2.b]; exact h6, by rw [q2.base, q2.cap]; exact h7, fun p rr hp => ?_⟩
          · by_cases c1 : p = i
            · subst c1; rw [q4] at g1; cases g1
            · by_cases c2 : q = i
              · subst c2; rw [q4] at g2; cases g2
              · rw [q3 p c1] at g1; rw [q3 q c2] at g2; exact h4 p q b g1 g2
          · by_cases c1 : p = i
            · subst c1; rw [q4] at g1; cases g1
            · rw [q3 p c1] at g1; rw [List.length_set, q2.b]; exact h5 p b g1
          · rw [List.getElem?_set] at hp
            by_cases c1 : i = p
            · subst c1
              rw [if_pos rfl, if_pos hil] at hp
              simp at hp; subst hp
              exact ⟨cv, by rw [q2.base]; exact hcv, q4⟩
            · rw [if_neg c1] at hp
              rw [q3 p (Ne.symm c1), q2.base]; exact h8 p rr hp
        have hnk : n ≠ k := fun hh => by subst hh; rw [(r.ent.fresh n hF).1] at hm; cases hm
        have hlent : ∀ (κ2 : Nat → Option Loc) (l2 : Loc), κ2 k = some l2 → l2.same l → (∀ j, j ≠ i → l2.subs j = l.subs j) → l2.subs i = none → OutR κ2 sz cv n → ObjR w S κ2 k (.lent sz (rows.set i .gone) i n) := fun κ2 l2 q1 q2 q3 q4 hout => by
          obtain ⟨l3, p1, p2, p3, p4, p5, p6, p7, vs', T'', p8, p9, p10⟩ := hset κ2 l2 q1 q2 q3 q4
          have : l3 = l2 := by rw [q1] at p1; exact (Option.some.inj p1).symm
          subst this
          refine ⟨l3, p1, p2, p3, p4, p5, p6, p7, vs', T'', p8, p9, p10, by simp [hil], cv, ?_, hout⟩
          rw [q2.b, h6] at p8
          simp only [Option.some.injEq, Obj.cells.injEq] at p8
          rw [← p8.1, q2.base]; exact hcv
        have toLent : ∀ {S' : Nat → Prop} {κ' : Nat → Option Loc}, Rel X N w S' κ' (putT o.dst (.arr n 0 xs.length) t) ((n, some (.arr sz xs)) :: (k, some (.mat sz (rows.set i .gone))) :: m) (fun k => F k ∧ k ≠ n) (a.put o.dst cv) →
            ObjR w S' κ' k (.lent sz (rows.set i .gone) i n) → Rel X N w S' κ' (putT o.dst (.arr n 0 xs.length) t) ([(n, some (.arr sz xs)), (k, some (.lent sz (rows.set i .gone) i n))] ++ m) (fun k => F k ∧ k ≠ n) (a.put o.dst cv) := fun {S' κ'} g1 g2 => by
          have g3 := g1.swap (k := k) (by rw [lookM_cons_ne _ _ hnk, lookM_cons_eq]) g2
          refine g3.congr (fun _ => rfl) (fun q => ?_)
          simp only [List.cons_append, List.nil_append]
          by_cases c1 : n = q
          · subst c1; rw [lookM_cons_eq, lookM_cons_ne _ _ (Ne.symm hnk), lookM_cons_eq]
          · rw [lookM_cons_ne _ _ c1]
            by_cases c2 : k = q
            · subst c2; rw [lookM_cons_eq, lookM_cons_eq]
            · rw [lookM_cons_ne _ _ c2, lookM_cons_ne _ _ c2, lookM_cons_ne _ _ c1, lookM_cons_ne _ _ c2]
        have fin2 : (∃ S' κ', Rel X N w S' κ' (putT o.dst (.arr n 0 xs.length) t) ((n, some (.arr sz xs)) :: (k, some (.mat sz (rows.set i .gone))) :: m) (fun k => F k ∧ k ≠ n) (a.put o.dst cv) ∧ ObjR w S' κ' k (.lent sz (rows.set i .gone) i n)) →
            (loadVar T ⟨l.b, l.base + i * l.sz + 0, none⟩).run P w = .ok cv w → o.wp P a w (Post K X N o.dst t m F n) Q := fun ⟨S', κ', q1, q3⟩ q2 =>
          wp_value (v := cv) (w' := w) (by rw [Nat.add_zero] at q2; simp [execOp, ho, hv, Instr.loadAt, Instr.sureAddr, q2]) ⟨_, _, S', κ', h, toLent q1 q3⟩
        rcases hrow with ⟨rfl, hsub, ad, rfl⟩ | ⟨b, base, cap, hsub, rfl, q3, vs2, T2, q4, q5, q6, q7⟩
        · refine fin2 ⟨S, upd (upd κ k l) n ⟨0, 0, 0, 0, 0, true, fun _ => none⟩, ?_, hlent _ l (by simp [upd, Ne.symm hnk]) (Loc.same_refl l) (fun _ _ => rfl) hsub ⟨⟨0, 0, 0, 0, 0, true, fun _ => none⟩, by simp [upd], .inl ⟨rfl, ⟨ad, rfl⟩⟩⟩⟩ (hrun (y := .v _) (.base (.v _)))
          have r1 := r.reset (d := none) (x := .dead) (v := undef) (l' := l) hm hk (Loc.same_refl l) hn rfl (fun _ _ => rfl) (fun _ h => .inl h) (hset _ l (by simp [upd]) (Loc.same_refl l) (fun _ _ => rfl) hsub) (.base (.dead _)) (fun _ h => by cases h) rfl rfl rfl
          have r2 : Rel X N w S (upd κ k l) t ((k, some (.mat sz (rows.set i .gone))) :: m) F a := r1
          refine r2.give hF (l := ⟨0, 0, 0, 0, 0, true, fun _ => none⟩) (fun b hb => ?_) ⟨⟨0, 0, 0, 0, 0, true, fun _ => none⟩, by simp [upd], .inl ⟨rfl, rfl⟩⟩ ?_ hd
          · have := (Loc.has_one (fun _ => rfl) hb).1; cases this
          · cases ad with
            | none => exact .arrNil (l := ⟨0, 0, 0, 0, 0, true, fun _ => none⟩) (by simp [upd]) rfl
            | some ad => exact .arr0 (l := ⟨0, 0, 0, 0, 0, true, fun _ => none⟩) (by simp [upd])
        · obtain ⟨l2, hl2⟩ : ∃ l2 : Loc, l2 = { l with subs := fun j => if j = i then none else l.subs j } := ⟨_, rfl⟩
          have hs2 : l2.same l := by rw [hl2]; exact ⟨rfl, rfl, rfl, rfl, rfl, rfl⟩
          have hsub2 : ∀ j, j ≠ i → l2.subs j = l.subs j := fun j hj => by rw [hl2]; simp [hj]
          have hsubi : l2.subs i = none := by rw [hl2]; simp
          refine fin2 ⟨S, upd (upd κ k l2) n ⟨b, base, sz, cap, xs.length, false, fun _ => none⟩, ?_, hlent _ l2 (by simp [upd, Ne.symm hnk]) hs2 hsub2 hsubi ⟨⟨b, base, sz, cap, xs.length, false, fun _ => none⟩, by simp [upd], .inr ⟨rfl, rfl, cap, q3, Nat.le_refl _, rfl⟩⟩⟩ (hrun (y := .v _) (.base (.v _)))
          have hhas : ∀ c, l2.has c → l.has c := fun c hc => by
            rcases hc with hc | ⟨j, hj⟩
            · exact .inl ⟨hs2.isNil.symm.trans hc.1, hs2.b.symm.trans hc.2⟩
            · by_cases c1 : j = i
              · subst c1; rw [hsubi] at hj; cases hj
              · rw [hsub2 j c1] at hj; exact .inr ⟨j, hj⟩
          have hnot : ¬ l2.has b := fun hc => by
            rcases hc with hc | ⟨j, hj⟩
            · exact (h5 i b hsub).1 (by rw [← hc.2, hs2.b])
            · by_cases c1 : j = i
              · subst c1; rw [hsubi] at hj; cases hj
              · rw [hsub2 j c1] at hj; exact c1 (h4 j i b hj hsub)
          have r1 := r.reset (d := none) (x := .dead) (v := undef) (l' := l2) hm hk hs2 hn rfl (fun _ _ => rfl) (fun c h => .inl (hhas c h)) (hset _ l2 (by simp [upd]) hs2 hsub2 hsubi) (.base (.dead _)) (fun _ h => by cases h) rfl rfl rfl
          have r2 : Rel X N w S (upd κ k l2) t ((k, some (.mat sz (rows.set i .gone))) :: m) F a := r1
          have hb0 : l.has b := .inr ⟨i, hsub⟩
          have hfree : Free X w S (upd κ k l2) ((k, some (.mat sz (rows.set i .gone))) :: m) b := by
            refine ⟨fun q oq lq g1 g2 g3 => ?_, (r.ent.own k _ l b hm hk hb0).1, (r.ent.own k _ l b hm hk hb0).2, r.since.own k _ l b hm hk hb0⟩
            by_cases c1 : q = k
            · subst c1
              have : lq = l2 := by simpa [upd, eq_comm] using g2
              subst this; exact hnot g3
            · rw [lookM_cons_ne _ _ (Ne.symm c1)] at g1
              exact c1 (r.ent.inj q k oq _ lq l b g1 hm (by simpa [upd, c1] using g2) hk g3 hb0)
          refine r2.give hF (l := ⟨b, base, sz, cap, xs.length, false, fun _ => none⟩) (fun c hc => ?_) ⟨⟨b, base, sz, cap, xs.length, false, fun _ => none⟩, by simp [upd], .inr ⟨rfl, rfl, rfl, q3, vs2, T2, q4, q5, q6, q7⟩⟩ ?_ hd
          · have := (Loc.has_one (fun _ => rfl) hc).2
            simp only at this; subst this; exact hfree
          · have := R.arr (w := w) (S := S) (κ := upd (upd κ k l2) n ⟨b, base, sz, cap, xs.length, false, fun _ => none⟩) (k := n) (off := 0) (len := xs.length) (cap := cap) (l := ⟨b, base, sz, cap, xs.length, false, fun _ => none⟩) (by simp [upd]) rfl q3 (by simp) (by simp)
            simpa using this
      · rename_i x0
        exact fin hv (hrun (y := x0) (.base hrow.2.2.2)) (.base hrow.2.2.2) h
      · exact h.elim
    split at h
    · rename_i sz xs hm
      obtain ⟨x0, hx0, h⟩ := h
      obtain ⟨l', hk', h0⟩ := r.ent.mm _ _ hm
      rw [hk] at hk'; cases hk'
      rcases h0 with ⟨h0, _⟩ | ⟨_, rfl, h1, _, vs, T', h2, h3, h4, h5⟩
      · rw [hn] at h0; cases h0
      · obtain ⟨v, y, h6, h7, h8⟩ := loadVar_run (P := P) (w := w) (S := S) (κ := κ) (b := l.b) (off := l.base + i * l.sz) (cs := x0.cells) (f := fun j => (vs[l.base + i * l.sz + j]?).getD undef) hT
          (fun j hj => by
            obtain ⟨c, hc, _⟩ := h5 i x0 j x0.cells[j] hx0 (by simp [hj])
            rw [cell_of h2, hc]; rfl)
          (fun j y hj => by obtain ⟨c, hc, hR⟩ := h5 i x0 j y hx0 hj; rw [hc]; exact .base hR) h
        exact fin hv h6 h7 h8
    · rename_i sz rows hm
      exact row hm (r.ent.mm _ _ hm) h
    · rename_i sz rows i0 q0 hm
      exact row hm (r.ent.mm _ _ hm).unlent h
    · exact h.elim
  · exact h.elim

end Go.Av
