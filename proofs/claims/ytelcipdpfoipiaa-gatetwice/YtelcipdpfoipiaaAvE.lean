/- What an operation asks is enough: the operations without memory. -/
import Derived.Test.YtelcipdpfoipiaaAvD
namespace Go.Av

variable {P : Program} {w w' : World} {S S' : Nat → Prop} {κ κ' : Nat → Option Loc} {m : Mem} {n N : Nat} {F : Nat → Prop} {t : Tmps} {a : Act} {X : Ctx}
  {K : AV → Mem → Prop} {Q : Exit → Act → World → Prop} {o : Oper}

def Post (K : AV → Mem → Prop) (X : Ctx) (N : Nat) (d : Option Nat) (t : Tmps) (m : Mem) (F : Nat → Prop) (n : Nat) : Act → World → Prop :=
  fun a' w' => ∃ x u S' κ', K x u ∧ Rel X N w' S' κ' (putT d x t) (u ++ m) (fun k => F k ∧ k ≠ n) a'

theorem wp_value {v : Value} {K' : Act → World → Prop} (h : (execOp a.eval o).run P w = .ok (.value v) w') (hK : K' (a.put o.dst v) w') : o.wp P a w K' Q := by
  unfold Oper.wp; rw [h]; exact hK
theorem wp_skipped {K' : Act → World → Prop} (h : (execOp a.eval o).run P w = .ok .skip w') (hK : K' (a.put o.dst undef) w') : o.wp P a w K' Q := by
  unfold Oper.wp; rw [h]; exact hK

/-- a value that is found without a change of memory -/
theorem wp_pure {v : Value} {x : AV} (h : (execOp a.eval o).run P w = .ok (.value v) w) (r : Rel X N w S κ t m F a)
    (hd : ∀ d, o.dst = some d → d < N) (hx : R w S κ x v) (hK : K x []) : o.wp P a w (Post K X N o.dst t m F n) Q :=
  wp_value h ⟨x, [], S, κ, hK, (r.put hx hd).free fun _ h => h.1⟩

theorem ev_ok {x : Operand} {x' : Opd} (h : cOpd x = some x') (r : Rel X N w S κ t m F a) : R w S κ (ev t x') (a.eval x) := by
  cases x with
  | tmp n => simp only [cOpd, Option.some.injEq] at h; subst h; exact r.tm _
  | const v => simp only [cOpd, Option.some.injEq] at h; subst h; exact .base (.v _)
  | func f => simp only [cOpd, Option.some.injEq] at h; subst h; exact .fn rfl (fun i x y h => by simp at h)
  | global g =>
    simp only [cOpd] at h
    obtain ⟨cs, hg, rfl⟩ := Option.map_eq_some_iff.1 h
    exact .base (r.ent.sb.gl _ _ (gfind_mem hg))

/-- a plain value is the value itself -/
theorem R.v_inv {x : Value} {v : Value} (h : R w S κ (.v x) v) : v = x := by
  cases h with | base h => cases h; rfl

theorem ev_v {x : Operand} {x' : Opd} {v : Value} (h : cOpd x = some x') (r : Rel X N w S κ t m F a) (e : ev t x' = .v v) : a.eval x = v := by
  have := ev_ok h r
  rw [e] at this
  exact this.v_inv

theorem mov_ok {x : Operand} {x' : Opd} (ho : o.op = .move x ∨ o.op = .assign x) (hx : cOpd x = some x') (hd : ∀ d, o.dst = some d → d < N)
    (r : Rel X N w S κ t m F a) (h : K (ev t x') []) : o.wp P a w (Post K X N o.dst t m F n) Q := by
  refine wp_pure (v := a.eval x) ?_ r hd (ev_ok hx r) h
  rcases ho with ho | ho <;> simp [execOp, ho]

theorem pick_ok {c x y : Operand} {c' x' y' : Opd} (ho : o.op = .pick c x y) (hc : cOpd c = some c') (hx : cOpd x = some x') (hy : cOpd y = some y')
    (hd : ∀ d, o.dst = some d → d < N) (r : Rel X N w S κ t m F a) (h : vop (.pick c' x' y') t m n K) : o.wp P a w (Post K X N o.dst t m F n) Q := by
  simp only [vop] at h
  split at h
  · rename_i b e
    have hb := ev_v hc r e
    cases b with
    | true =>
      refine wp_pure (v := a.eval x) ?_ r hd (ev_ok hx r) (h.1 rfl)
      simp [execOp, ho, hb, asBool]
    | false =>
      refine wp_pure (v := a.eval y) ?_ r hd (ev_ok hy r) (h.2 rfl)
      simp [execOp, ho, hb, asBool]
  · exact h.elim

theorem eqGuard_int (op : BinOp) (T : TypeId) (x y : Operand) (k k' : IntKind) (c d : Int) : (eqGuard op T x y (.int k c) (.int k' d)).run P w = .ok () w := by
  unfold eqGuard; split <;> rfl
theorem eqGuard_bool (op : BinOp) (T : TypeId) (x y : Operand) (c d : Bool) : (eqGuard op T x y (.bool c) (.bool d)).run P w = .ok () w := by
  unfold eqGuard; split <;> rfl

theorem equalIn_bool {T : TypeId} (hT : P.underlying T = some .bool) (d : Nat) (x y : Bool) : (Op.equalIn (d + 1) T (.bool x) (.bool y)).run P w = .ok (x == y) w := by
  have hu : (underlying T).run P w = .ok .bool w := by simp [underlying, hT]
  simp only [Op.equalIn, Sem.run_bind, hu, Result.andThen_ok, Sem.run_pure]
theorem equal_bool {T : TypeId} (hT : P.underlying T = some .bool) (x y : Bool) : (Op.equal T (.bool x) (.bool y)).run P w = .ok (x == y) w :=
  equalIn_bool hT 9999 x y

theorem bin_run {op : BinOp} {k k' : IntKind} {c d : Int} {T : TypeId} {G : Value → Prop}
    (h : match op with
      | .shl => vshift .shl k c d G
      | .shr => vshift .shr k c d G
      | op => k = k' ∧ vbin op k c d G) : ∃ v, (binOp op T (.int k c) (.int k' d)).run P w = .ok v w ∧ G v := by
  cases op <;> simp only [vshift, vbin] at h
  case quo => exact ⟨_, by simp [binOp, h.1, Op.intDiv, h.2.1], h.2.2⟩
  case rem => exact ⟨_, by simp [binOp, h.1, Op.intDiv, h.2.1], h.2.2⟩
  case shl => exact ⟨_, by simp [binOp, Op.shift, show ¬ d < 0 by omega], h.2⟩
  case shr => exact ⟨_, by simp [binOp, Op.shift, show ¬ d < 0 by omega], h.2⟩
  all_goals exact ⟨_, by simp [binOp, h.1, Op.intArith, Op.intBits, Op.intCmp], h.2⟩

theorem bin_ok {op : BinOp} {T T' : TypeId} {x y : Operand} {x' y' : Opd} (ho : o.op = .binOp op T x y T') (hx : cOpd x = some x') (hy : cOpd y = some y')
    (hd : ∀ d, o.dst = some d → d < N) (r : Rel X N w S κ t m F a) (h : vop (.bin op x' y') t m n K) : o.wp P a w (Post K X N o.dst t m F n) Q := by
  simp only [vop] at h
  split at h
  · rename_i k c k' d e1 e2
    have h1 := ev_v hx r e1
    have h2 := ev_v hy r e2
    obtain ⟨v, hv, hG⟩ := bin_run (P := P) (w := w) (T := T) h
    refine wp_pure (v := v) ?_ r hd (.base (.v v)) hG
    simp [execOp, ho, h1, h2, eqGuard_int, hv]
  · exact h.elim

theorem eqb_ok {ng : Bool} {T T' : TypeId} {x y : Operand} {x' y' : Opd} (ho : o.op = .binOp (bif ng then .neq else .eql) T x y T') (hT : P.underlying T = some .bool)
    (hx : cOpd x = some x') (hy : cOpd y = some y')
    (hd : ∀ d, o.dst = some d → d < N) (r : Rel X N w S κ t m F a) (h : vop (.eqb ng x' y') t m n K) : o.wp P a w (Post K X N o.dst t m F n) Q := by
  simp only [vop] at h
  split at h
  · rename_i c d e1 e2
    have h1 := ev_v hx r e1
    have h2 := ev_v hy r e2
    refine wp_pure (v := .bool (bif ng then c != d else c == d)) ?_ r hd (.base (.v _)) h
    have he := equal_bool (P := P) (w := w) hT c d
    cases ng
    · have hb : (binOp .eql T (.bool c) (.bool d)).run P w = .ok (.bool (c == d)) w := by
        rw [show binOp .eql T (.bool c) (.bool d) = (do pure (.bool (← Op.equal T (.bool c) (.bool d)))) from rfl]
        simp only [Sem.run_bind, he, Result.andThen_ok, Sem.run_pure]
      simp only [cond_false] at ho ⊢
      simp [execOp, ho, h1, h2, eqGuard_bool, hb]
    · have hb : (binOp .neq T (.bool c) (.bool d)).run P w = .ok (.bool (c != d)) w := by
        rw [show binOp .neq T (.bool c) (.bool d) = (do pure (.bool (!(← Op.equal T (.bool c) (.bool d))))) from rfl]
        simp only [Sem.run_bind, he, Result.andThen_ok, Sem.run_pure]; rfl
      simp only [cond_true] at ho ⊢
      simp [execOp, ho, h1, h2, eqGuard_bool, hb]
  · exact h.elim

theorem not_ok {T : TypeId} {x : Operand} {x' : Opd} (ho : o.op = .unOp .not T x) (hx : cOpd x = some x')
    (hd : ∀ d, o.dst = some d → d < N) (r : Rel X N w S κ t m F a) (h : vop (.not x') t m n K) : o.wp P a w (Post K X N o.dst t m F n) Q := by
  simp only [vop] at h
  split at h
  · rename_i c e1
    have h1 := ev_v hx r e1
    refine wp_pure (v := .bool !c) ?_ r hd (.base (.v _)) h
    simp [execOp, ho, h1, Op.unary]
  · exact h.elim

theorem neg_ok {T : TypeId} {x : Operand} {x' : Opd} (ho : o.op = .unOp .neg T x) (hx : cOpd x = some x')
    (hd : ∀ d, o.dst = some d → d < N) (r : Rel X N w S κ t m F a) (h : vop (.neg x') t m n K) : o.wp P a w (Post K X N o.dst t m F n) Q := by
  simp only [vop] at h
  split at h
  · rename_i k c e1
    have h1 := ev_v hx r e1
    refine wp_pure (v := .int k (k.wrap (0 - c))) ?_ r hd (.base (.v _)) h
    simp [execOp, ho, h1, Op.unary, Op.intArith]
  · exact h.elim

theorem conv_ok {T T' : TypeId} {d : TypeDesc} {k : IntKind} {x : Operand} {x' : Opd} (ho : o.op = .convert T T' x) (hT : P.underlying T = some d) (hT' : P.underlying T' = some (.int k))
    (hx : cOpd x = some x') (hd : ∀ d, o.dst = some d → d < N) (r : Rel X N w S κ t m F a) (h : vop (.conv k x') t m n K) : o.wp P a w (Post K X N o.dst t m F n) Q := by
  simp only [vop] at h
  split at h
  · rename_i k' c e1
    have h1 := ev_v hx r e1
    have hu : (underlying T).run P w = .ok d w := by simp [underlying, hT]
    have hu' : (underlying T').run P w = .ok (.int k) w := by simp [underlying, hT']
    refine wp_pure (v := .int k (k.wrap c)) ?_ r hd (.base (.v _)) h
    simp [execOp, ho, h1, convert, hu, hu', Conv.intToInt]
  · exact h.elim

theorem R.tup_inv {xs : List AV} {v : Value} (h : R w S κ (.tup xs) v) : ∃ vs, v = .tuple vs ∧ xs.length = vs.size ∧ ∀ (i : Nat) x y, xs[i]? = some x → vs[i]? = some y → R w S κ x y := by
  cases h with
  | base h => cases h with
    | tup hl h2 => exact ⟨_, rfl, hl, fun i x y h1 h3 => .base (h2 i x y h1 h3)⟩
  | tup hl h2 => exact ⟨_, rfl, hl, h2⟩

theorem R.agg_inv {xs : List AV} {v : Value} (h : R w S κ (.agg xs) v) : ∃ vs, v = .agg vs ∧ xs.length = vs.size ∧ ∀ (i : Nat) x y, xs[i]? = some x → vs[i]? = some y → R w S κ x y := by
  cases h with
  | base h => cases h with
    | agg hl h2 => exact ⟨_, rfl, hl, fun i x y h1 h3 => .base (h2 i x y h1 h3)⟩
  | agg hl h2 => exact ⟨_, rfl, hl, h2⟩

theorem R.fn_inv {f : FuncId} {xs : List AV} {v : Value} (h : R w S κ (.fn f xs) v) : ∃ vs, v = .func (.func f) #[] vs ∧ xs.length = vs.size ∧ ∀ (i : Nat) x y, xs[i]? = some x → vs[i]? = some y → R w S κ x y := by
  cases h with
  | base h => cases h with
    | fn hl h2 => exact ⟨_, rfl, hl, fun i x y h1 h3 => .base (h2 i x y h1 h3)⟩
  | fn hl h2 => exact ⟨_, rfl, hl, h2⟩

theorem ext_ok {x : Operand} {i : Nat} {x' : Opd} (ho : o.op = .extract x i) (hx : cOpd x = some x')
    (hd : ∀ d, o.dst = some d → d < N) (r : Rel X N w S κ t m F a) (h : vop (.ext i x') t m n K) : o.wp P a w (Post K X N o.dst t m F n) Q := by
  simp only [vop] at h
  split at h
  · rename_i xs e1
    obtain ⟨y, hy, hK⟩ := h
    have h1 := ev_ok hx r
    rw [e1] at h1
    obtain ⟨vs, hv, hl, hR⟩ := h1.tup_inv
    have hi : i < vs.size := by
      rw [← hl]; exact (List.getElem?_eq_some_iff.1 hy).1
    refine wp_pure (v := vs[i]) ?_ r hd (hR i y _ hy (by simp [hi])) hK
    simp [execOp, ho, hv, Instr.extract, hi]
  · exact h.elim

end Go.Av
