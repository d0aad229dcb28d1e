/- Maps whose keys are numbers. -/
import Derived.Test.YtblakcgmngdhmaaAvZ
namespace Go.Av

variable {P : Program} {w w' : World} {S S' : Nat → Prop} {κ κ' : Nat → Option Loc} {m : Mem} {n N : Nat} {F : Nat → Prop} {t : Tmps} {a : Act} {X : Ctx}
  {K : AV → Mem → Prop} {Q : Exit → Act → World → Prop} {o : Oper}

/-- entries of a map, in the world -/
def EntsR (w : World) (S : Nat → Prop) (es : List (Value × AV)) (ents : List MapEntry) : Prop :=
  es.length = ents.length ∧ ∀ (i : Nat) p e, es[i]? = some p → ents[i]? = some e → e.key = p.1 ∧ R0 w S p.2 e.val

theorem EntsR.tail {p : Value × AV} {e : MapEntry} {es : List (Value × AV)} {ents : List MapEntry} (h : EntsR w S (p :: es) (e :: ents)) :
    (e.key = p.1 ∧ R0 w S p.2 e.val) ∧ EntsR w S es ents :=
  ⟨h.2 0 p e rfl rfl, by simpa using h.1, fun i p' e' h1 h2 => h.2 (i + 1) p' e' (by simpa using h1) (by simpa using h2)⟩

def midx (x : Int) : List (Value × AV) → Option Nat
  | [] => none
  | (q, _) :: r => bif keyIs x q then some 0 else (midx x r).map (· + 1)

theorem midx_lt {x : Int} {es : List (Value × AV)} {i : Nat} (h : midx x es = some i) : i < es.length := by
  induction es generalizing i with
  | nil => simp [midx] at h
  | cons p es ih =>
    obtain ⟨q, y⟩ := p
    simp only [midx] at h
    cases hq : keyIs x q with
    | true => rw [hq] at h; simp at h; subst h; simp
    | false =>
      rw [hq] at h
      simp only [cond_false, Option.map_eq_some_iff] at h
      obtain ⟨j, hj, rfl⟩ := h
      have := ih hj; simp; omega

theorem mfind_idx (x : Int) (es : List (Value × AV)) : mfind x es = (midx x es).bind fun i => es[i]?.map (·.2) := by
  induction es with
  | nil => rfl
  | cons p es ih =>
    obtain ⟨q, y⟩ := p
    simp only [mfind, midx]
    cases hq : keyIs x q with
    | true => rfl
    | false =>
      simp only [cond_false]
      rw [ih]
      cases midx x es <;> simp

theorem mput_idx (kk : IntKind) (x : Int) (y : AV) (es : List (Value × AV)) : mput kk x y es = match midx x es with | some i => es.set i (.int kk x, y) | none => es ++ [(.int kk x, y)] := by
  induction es with
  | nil => rfl
  | cons p es ih =>
    obtain ⟨q, z⟩ := p
    simp only [mput, midx]
    cases hq : keyIs x q with
    | true => rfl
    | false =>
      simp only [cond_false]
      rw [ih]
      cases midx x es <;> simp

theorem findNow_int {kk kk' : IntKind} {x : Int} : ∀ {es : List (Value × AV)} {ents : List MapEntry} (i : Nat), EntsR w S es ents → MKeys kk es →
    Instr.findNow (.int kk') (.int kk x) ents i = some ((midx x es).bind fun j => ents[j]?.map fun e => (i + j, e.val)) := by
  intro es
  induction es with
  | nil => intro ents i h hk; have : ents = [] := List.eq_nil_of_length_eq_zero (by have := h.1; simpa using this.symm); subst this; rfl
  | cons p es ih =>
    intro ents i h hk
    cases ents with
    | nil => have := h.1; simp at this
    | cons e ents =>
      obtain ⟨⟨h1, h2⟩, h3⟩ := h.tail
      obtain ⟨q, y⟩ := p
      obtain ⟨b, hb⟩ := hk (q, y) (by simp)
      simp only at hb; subst hb
      simp only [Instr.findNow, h1, Instr.sameNow, if_true, midx, keyIs]
      by_cases hx : b = x
      · subst hx; simp
      · have e1 : (x == b) = false := by simpa using fun hh : x = b => hx hh.symm
        rw [e1]
        simp only [hx, decide_false, cond_false]
        rw [ih (i + 1) h3 (fun p hp => hk p (by simp [hp]))]
        cases midx x es with
        | none => rfl
        | some j => simp [Nat.add_assoc, Nat.add_comm 1]

theorem checkKey_int {b : Bool} {T : TypeId} {kk k : IntKind} {x : Int} (hT : P.underlying T = some (.int kk)) : (Instr.checkKey b 10000 T (.int k x)).run P w = .ok () w := by
  rw [show Instr.checkKey b 10000 T (.int k x) = Instr.checkKey b (9999 + 1) T (.int k x) from rfl]
  unfold Instr.checkKey
  rw [Sem.run_bind, und_run hT]
  rfl

theorem findKey_int {T : TypeId} {kk kk' : IntKind} {x : Int} {es : List (Value × AV)} {ents : List MapEntry} (hT : P.underlying T = some (.int kk')) (h : EntsR w S es ents) (hk : MKeys kk es) :
    (Instr.findKey T (.int kk x) ents).run P w = .ok ((midx x es).bind fun j => ents[j]?.map fun e => (j, e.val)) w := by
  simp only [Instr.findKey, Sem.run_bind, und_run hT, Result.andThen_ok, findNow_int 0 h hk, Sem.run_pure, Nat.zero_add]

theorem getObj_run {b : Nat} {ob : Obj} (h : w.heap[b]? = some ob) (hc : ∀ c T f, ob ≠ .cells c T f) : (getObj b).run P w = .ok ob w := by
  unfold getObj Sem.run
  rw [h]
  cases ob <;> first | rfl | exact (hc _ _ _ rfl).elim

theorem setObj_run {b : Nat} {ob ob' : Obj} (h : w.heap[b]? = some ob) (hc : ∀ c T f, ob ≠ .cells c T f) : (setObj b ob').run P w = .ok () { w with heap := w.heap.setIfInBounds b ob' } := by
  unfold setObj Sem.run
  rw [h]
  cases ob <;> first | rfl | exact (hc _ _ _ rfl).elim

theorem zeroAV_R0 (z : Value) : R0 w S (zeroAV z) z := by
  unfold zeroAV
  split
  · refine .agg (by simp) (fun i x y g1 g2 => ?_)
    simp only [List.getElem?_map, Array.getElem?_toList] at g1
    rw [g2] at g1; simp at g1; subst g1; exact .v _
  · exact .v _

theorem mapT_inv {T : TypeId} {kk : IntKind} {z : AV} (h : mapT P T = some (kk, z)) : ∃ k e zv, P.underlying T = some (.map k e) ∧ P.underlying k = some (.int kk) ∧
    (∀ w, (zeroValue e).run P w = .ok zv w) ∧ ∀ w S, R0 w S z zv := by
  unfold mapT at h
  split at h
  · rename_i k e hT
    split at h
    · rename_i kk' zv hk he
      simp only [Option.some.injEq, Prod.mk.injEq] at h
      obtain ⟨rfl, rfl⟩ := h
      obtain ⟨i, hi, hz⟩ := Option.bind_eq_some_iff.1 he
      exact ⟨k, e, zv, hT, hk, fun w => by simp [zeroValue, typeInfo, hi, hz], fun w S => zeroAV_R0 zv⟩
    · simp at h
  · simp at h

theorem R.mp_inv {k : Nat} {v : Value} (h : R w S κ (.mp k) v) : ∃ l, κ k = some l ∧ l.isNil = false ∧ v = .map (some l.b) := by
  cases h with
  | base h => cases h
  | mp hk hn => exact ⟨_, hk, hn, rfl⟩

theorem R.rm_inv {es : List (Value × AV)} {v : Value} (h : R w S κ (.rm es) v) : ∃ b ents clock, v = .map (some b) ∧ S b ∧ w.heap[b]? = some (.map ents clock) ∧ EntsR w S es ents.toList ∧
    (∀ (i : Nat) e, ents[i]? = some e → e.born < clock) ∧ (∀ (i j : Nat) e e', ents[i]? = some e → ents[j]? = some e' → e.born = e'.born → i = j) := by
  cases h with
  | base h => cases h with
    | rm hb hw hl hk hn hi h => exact ⟨_, _, _, rfl, hb, hw, ⟨by simpa using hl, fun i p e h1 h2 => ⟨hk i p e h1 (by simpa using h2), h i p e h1 (by simpa using h2)⟩⟩, hn, hi⟩

/-- the entries that an operation finds -/
theorem mapE_run {x : AV} {v : Value} {G : List (Value × AV) → Prop} (e : Ent w S κ m F) (hR : R w S κ x v) (h : mapE m x G) :
    ∃ es, G es ∧ ((v = .map none ∧ es = []) ∨ ∃ b ents clock, v = .map (some b) ∧ w.heap[b]? = some (.map ents clock) ∧ EntsR w S es ents.toList) := by
  unfold mapE at h
  split at h
  · obtain ⟨b, ents, clock, h1, _, h2, h3, _⟩ := hR.rm_inv
    exact ⟨_, h, .inr ⟨b, ents, clock, h1, h2, h3⟩⟩
  · exact ⟨_, h, .inl ⟨hR.v_inv, rfl⟩⟩
  · rename_i k
    split at h
    · rename_i es hk
      obtain ⟨l, h1, h2, h3⟩ := hR.mp_inv
      obtain ⟨l', g1, g2, ents, clock, g3, g4, _, _, g5⟩ := e.mm _ _ hk
      rw [h1] at g1; cases g1
      exact ⟨_, h, .inr ⟨l.b, ents, clock, h3, g3, by simpa using g4, fun i p e q1 q2 => g5 i p e q1 (by simpa using q2)⟩⟩
    · exact h.elim
  · exact h.elim

theorem EntsR.get {es : List (Value × AV)} {ents : List MapEntry} (h : EntsR w S es ents) {x : Int} : (midx x es).bind (fun j => ents[j]?.map fun e => (j, e.val)) = none ∧ mfind x es = none ∨
    ∃ j e y, (midx x es).bind (fun j => ents[j]?.map fun e => (j, e.val)) = some (j, e.val) ∧ midx x es = some j ∧ ents[j]? = some e ∧ mfind x es = some y ∧ R0 w S y e.val := by
  rw [mfind_idx]
  cases hm : midx x es with
  | none => exact .inl ⟨rfl, rfl⟩
  | some j =>
    have hj := midx_lt hm
    have hj' : j < ents.length := by rw [← h.1]; exact hj
    refine .inr ⟨j, ents[j], es[j].2, by simp [hj'], rfl, by simp [hj'], by simp [hj], (h.2 j es[j] ents[j] (by simp [hj]) (by simp [hj'])).2⟩

theorem mget_ok {T : TypeId} {kk : IntKind} {z : AV} {ok : Bool} {x i : Operand} {x' i' : Opd} (ho : o.op = .lookup T x i ok) (hT : mapT P T = some (kk, z)) (hx : cOpd x = some x') (hi : cOpd i = some i')
    (hd : ∀ d, o.dst = some d → d < N) (r : Rel X N w S κ t m F a) (h : vop (.mget kk z ok x' i') t m n K) : o.wp P a w (Post K X N o.dst t m F n) Q := by
  simp only [vop] at h
  split at h
  · rename_i k b e1
    obtain ⟨rfl, h⟩ := h
    have hi' := ev_v hi r e1
    obtain ⟨kt, et, zv, g1, g2, g3, g4⟩ := mapT_inv (P := P) hT
    obtain ⟨es, ⟨hk, hK⟩, hv⟩ := mapE_run r.ent (ev_ok hx r) h
    have key : ∃ v : Value, (Instr.lookup T (a.eval x) (a.eval i) ok).run P w = .ok (if ok then .tuple #[v, .bool (mfind b es).isSome] else v) w ∧ R0 w S ((mfind b es).getD z) v := by
      rcases hv with ⟨hv, rfl⟩ | ⟨bl, ents, clock, hv, hb, hE⟩
      · have hf : (Instr.findKey kt (.int k b) []).run P w = .ok none w := findKey_int (w := w) (S := S) (es := []) (ents := []) g2 ⟨rfl, fun i p e h => by simp at h⟩ hk
        refine ⟨zv, ?_, g4 _ _⟩
        simp only [Instr.lookup, hv, hi', Sem.run_bind, und_run g1, Result.andThen_ok, Sem.run_pure, checkKey_int g2, hf, g3, mfind, Option.isSome_none]
      · have hg := getObj_run (P := P) hb (by simp)
        rcases hE.get (x := b) with ⟨q1, q2⟩ | ⟨j, e, y, q1, _, q3, q4, q5⟩
        · refine ⟨zv, ?_, by rw [q2]; exact g4 _ _⟩
          simp only [Instr.lookup, hv, hi', Sem.run_bind, und_run g1, Result.andThen_ok, Sem.run_pure, hg, checkKey_int g2, findKey_int g2 hE hk, q1, g3, q2, Option.isSome_none]
        · refine ⟨e.val, ?_, by rw [q4]; exact q5⟩
          simp only [Instr.lookup, hv, hi', Sem.run_bind, und_run g1, Result.andThen_ok, Sem.run_pure, hg, checkKey_int g2, findKey_int g2 hE hk, q1, q4, Option.isSome_some]
    obtain ⟨v, hrun, hR⟩ := key
    refine wp_pure (v := if ok then .tuple #[v, .bool (mfind b es).isSome] else v) ?_ r hd ?_ hK
    · simp [execOp, ho, hrun]
    · cases ok with
      | false => exact .base hR
      | true =>
        refine .base (.tup rfl (fun i x y h1 h2 => ?_))
        match i, h1, h2 with
        | 0, h1, h2 => simp at h1 h2; subst h1 h2; exact hR
        | 1, h1, h2 => simp at h1 h2; subst h1 h2; exact .v _
        | i + 2, h1, _ => simp at h1
  · exact h.elim

theorem mlen_ok {k e : TypeId} {c : Call} {T : TypeId} {x : Operand} {x' : Opd} (ho : o.op = .call c) (hb : c.callee = .builtin .len) (ha : c.args.toList = [x])
    (ht : c.argTypes[0]? = some T) (hT : P.underlying T = some (.map k e)) (hx : cOpd x = some x')
    (hd : ∀ d, o.dst = some d → d < N) (r : Rel X N w S κ t m F a) (h : vop (.mlen x') t m n K) : o.wp P a w (Post K X N o.dst t m F n) Q := by
  have hargs : c.args = #[x] := Array.toList_inj.1 ha
  simp only [vop] at h
  obtain ⟨es, hK, hv⟩ := mapE_run r.ent (ev_ok hx r) h
  refine wp_pure (v := .int .i64 es.length) ?_ r hd (.base (.v _)) hK
  rcases hv with ⟨hv, rfl⟩ | ⟨bl, ents, clock, hv, hb', hE⟩
  · simp [execOp, ho, resolve, hb, hargs, hv, invoke, builtin, Builtin.len_, ht, und_run hT, goInt]
  · have hg := getObj_run (P := P) hb' (by simp)
    simp [execOp, ho, resolve, hb, hargs, hv, invoke, builtin, Builtin.len_, ht, und_run hT, goInt, hg, hE.1]

theorem mnew_ok {T : TypeId} (ho : o.op = .makeMap T none)
    (hd : ∀ d, o.dst = some d → d < N) (r : Rel X N w S κ t m F a) (hF : F n) (h : vop .mnew t m n K) : o.wp P a w (Post K X N o.dst t m F n) Q := by
  simp only [vop] at h
  refine wp_value (v := .map (some w.heap.size)) (w' := w.alloc (.map #[] 0)) ?_ ⟨_, _, S, upd κ n (newLoc w 1 1), h, ?_⟩
  · simp [execOp, ho, Instr.makeMap]
  · refine r.new hF (by simp) (fun b hb => heap_alloc_old w _ hb) ?_ (Loc.has_new (fun _ => rfl) fun _ => ⟨Nat.le_refl _, by simp [newLoc]⟩) (.mp (l := newLoc w 1 1) (by simp [upd]) rfl) hd rfl rfl rfl
    exact ⟨newLoc w 1 1, by simp [upd], rfl, #[], 0, heap_alloc_new w _, rfl, fun i e h => by simp at h, fun i j e e' h => by simp at h, fun i p e h => by simp at h⟩

theorem kd_R0 {x : AV} {v : Value} (h : R w S κ x v) (hk : x.kd = true) : R0 w S x v := by
  by_cases hx : ∃ xs, x = .agg xs
  · obtain ⟨xs, rfl⟩ := hx
    obtain ⟨vs, rfl, hl, h2⟩ := h.agg_inv
    exact .agg hl (fun i x y h1 h3 => kf_R0 (h2 i x y h1 h3) (kfs_get hk h1))
  · refine kf_R0 h ?_
    cases x <;> first | exact hk | exact (hx ⟨_, rfl⟩).elim

theorem keyStays {kk : IntKind} {x : Int} : (Instr.keyThatStays (.int kk x) (.int kk x)).run P w = .ok (.int kk x) w := by
  simp only [Instr.keyThatStays, Instr.sameBits, beq_self_eq_true, Bool.and_self, if_true, Sem.run_pure]

theorem mput_MKeys {kk : IntKind} {x : Int} {y : AV} {es : List (Value × AV)} (h : MKeys kk es) : MKeys kk (mput kk x y es) := by
  induction es with
  | nil => intro p hp; simp [mput] at hp; subst hp; exact ⟨x, rfl⟩
  | cons q es ih =>
    obtain ⟨q, z⟩ := q
    intro p hp
    simp only [mput] at hp
    cases hq : keyIs x q with
    | true =>
      rw [hq] at hp
      simp only [cond_true, List.mem_cons] at hp
      rcases hp with rfl | hp
      · exact ⟨x, rfl⟩
      · exact h p (by simp [hp])
    | false =>
      rw [hq] at hp
      simp only [cond_false, List.mem_cons] at hp
      rcases hp with rfl | hp
      · exact h _ (by simp)
      · exact ih (fun p hp => h p (by simp [hp])) p hp

theorem midx_key {x : Int} {es : List (Value × AV)} {i : Nat} {kk : IntKind} (hk : MKeys kk es) (h : midx x es = some i) : ∃ y, es[i]? = some (.int kk x, y) := by
  induction es generalizing i with
  | nil => simp [midx] at h
  | cons p es ih =>
    obtain ⟨q, y⟩ := p
    obtain ⟨b, hb⟩ := hk (q, y) (by simp)
    simp only at hb; subst hb
    simp only [midx, keyIs] at h
    by_cases hx : b = x
    · subst hx; simp at h; subst h; exact ⟨y, by simp⟩
    · simp only [hx, decide_false, cond_false, Option.map_eq_some_iff] at h
      obtain ⟨j, hj, rfl⟩ := h
      simpa using ih (fun p hp => hk p (by simp [hp])) hj

theorem mset_ok {T : TypeId} {kk : IntKind} {z : AV} {x i y : Operand} {x' i' y' : Opd} (ho : o.op = .mapUpdate T x i y) (hT : mapT P T = some (kk, z)) (hx : cOpd x = some x') (hi : cOpd i = some i') (hy : cOpd y = some y')
    (hd : ∀ d, o.dst = some d → d < N) (r : Rel X N w S κ t m F a) (h : vop (.mset kk x' i' y') t m n K) : o.wp P a w (Post K X N o.dst t m F n) Q := by
  simp only [vop] at h
  split at h
  · rename_i k' k b e1 e2
    split at h
    · rename_i es hk'
      obtain ⟨rfl, hk, hkd, hK⟩ := h
      have hi' := ev_v hi r e2
      have hr := ev_ok hx r
      rw [e1] at hr
      obtain ⟨l, hl, hn, hv⟩ := hr.mp_inv
      obtain ⟨l', q1, _, ents, clock, hb, q2, q3, q4, q5⟩ := r.ent.mm _ _ hk'
      rw [hl] at q1; cases q1
      have hE : EntsR w S es ents.toList := ⟨by simpa using q2, fun i p e h1 h2 => q5 i p e h1 (by simpa using h2)⟩
      obtain ⟨kt, et, zv, g1, g2, g3, g4⟩ := mapT_inv (P := P) hT
      have hyR := kd_R0 (ev_ok hy r) hkd
      have hg := getObj_run (P := P) hb (by simp)
      have hlt : l.b < w.heap.size := (r.ent.own1 _ _ _ hk' hl hn).2
      have fin : ∀ (ents' : Array MapEntry) (clock' : Nat), (Instr.mapUpdate T (a.eval x) (a.eval i) (a.eval y)).run P w = .ok () { w with heap := w.heap.setIfInBounds l.b (.map ents' clock') } →
          (mput k b (ev t y') es).length = ents'.size → (∀ (i : Nat) e, ents'[i]? = some e → e.born < clock') → (∀ (i j : Nat) e e', ents'[i]? = some e → ents'[j]? = some e' → e.born = e'.born → i = j) →
          (∀ (i : Nat) p e, (mput k b (ev t y') es)[i]? = some p → ents'[i]? = some e → e.key = p.1 ∧ R0 w S p.2 e.val) → o.wp P a w (Post K X N o.dst t m F n) Q := fun ents' clock' hrun f1 f2 f3 f4 => by
        have hw : ∀ b', b' ≠ l.b → ({ w with heap := w.heap.setIfInBounds l.b (.map ents' clock') } : World).heap[b']? = w.heap[b']? := fun b' hb' => by simp [Ne.symm hb']
        have hS : ∀ b', S b' → ({ w with heap := w.heap.setIfInBounds l.b (.map ents' clock') } : World).heap[b']? = w.heap[b']? := fun b' hb' => hw b' (fun hh => (r.ent.own1 _ _ _ hk' hl hn).1 (hh ▸ hb'))
        refine wp_skipped (w' := { w with heap := w.heap.setIfInBounds l.b (.map ents' clock') }) ?_ ⟨_, _, S, κ, hK, (r.set (o' := .map (mput k b (ev t y') es)) hk' hl hn (by simp) hw ?_ (.base (.v undef)) hd rfl rfl rfl).free fun _ h => h.1⟩
        · simp [execOp, ho, hrun]
        · exact ⟨l, hl, hn, ents', clock', by simp [hlt], f1, f2, f3, fun i p e h1 h2 => ⟨(f4 i p e h1 h2).1, (f4 i p e h1 h2).2.mono hS (fun _ h => h)⟩⟩
      rcases hE.get (x := b) with ⟨s1, s2⟩ | ⟨j, e, y0, s1, s2, s3, s4, s5⟩
      · have hmi : midx b es = none := by
          cases hm : midx b es with
          | none => rfl
          | some j =>
            have hj := midx_lt hm
            have hj' : j < ents.size := by rw [← q2]; exact hj
            rw [hm] at s1; simp [hj'] at s1
        have hput : mput k b (ev t y') es = es ++ [(.int k b, ev t y')] := by rw [mput_idx, hmi]
        refine fin (ents.push ⟨.int k b, a.eval y, clock⟩) (clock + 1) ?_ (by rw [hput]; simp [q2]) (fun i e h1 => ?_) (fun i j e e' h1 h2 hbb => ?_) (fun i p e h1 h2 => ?_)
        · simp only [Instr.mapUpdate, hv, hi', Sem.run_bind, und_run g1, Result.andThen_ok, hg, checkKey_int g2, findKey_int g2 hE hk, s1, setObj_run (P := P) hb (by simp)]
        · rw [Array.getElem?_push] at h1
          split at h1
          · simp at h1; subst h1; exact Nat.lt_succ_self _
          · have := q3 i e h1; omega
        · rw [Array.getElem?_push] at h1 h2
          split at h1 <;> split at h2
          · omega
          · simp at h1; subst h1; have := q3 j e' h2; simp at hbb; omega
          · simp at h2; subst h2; have := q3 i e h1; simp at hbb; omega
          · exact q4 i j e e' h1 h2 hbb
        · rw [hput] at h1
          rw [Array.getElem?_push] at h2
          split at h2
          · rename_i hi2
            subst hi2
            rw [← q2, List.getElem?_append_right (Nat.le_refl _)] at h1
            simp at h1 h2; subst h1 h2; exact ⟨rfl, hyR⟩
          · rename_i hi2
            have : i < ents.size := (Array.getElem?_eq_some_iff.1 h2).1
            rw [List.getElem?_append_left (by omega)] at h1
            exact q5 i p e h1 h2
      · have hput : mput k b (ev t y') es = es.set j (.int k b, ev t y') := by rw [mput_idx, s2]
        have hj : j < es.length := midx_lt s2
        have hj' : j < ents.size := by rw [← q2]; exact hj
        obtain ⟨y1, hy1⟩ := midx_key hk s2
        have hkey : (ents[j]?).map (·.key) = some (.int k b) := by
          have := (q5 j _ ents[j] hy1 (by simp [hj'])).1
          simp [hj', this]
        refine fin (ents.modify j fun e => { e with key := .int k b, val := a.eval y }) clock ?_ (by rw [hput]; simp [q2]) (fun i e h1 => ?_) (fun i j e e' h1 h2 hbb => ?_) (fun i p e h1 h2 => ?_)
        · simp only [Instr.mapUpdate, hv, hi', Sem.run_bind, und_run g1, Result.andThen_ok, hg, checkKey_int g2, findKey_int g2 hE hk, s1, hkey, Option.getD_some, keyStays, setObj_run (P := P) hb (by simp)]
        · rw [Array.getElem?_modify] at h1
          split at h1
          · simp only [Option.map_eq_some_iff] at h1
            obtain ⟨e0, h0, rfl⟩ := h1; exact q3 i e0 h0
          · exact q3 i e h1
        · have born : ∀ (j i : Nat) (e : MapEntry), (ents.modify j fun e => { e with key := .int k b, val := a.eval y })[i]? = some e → ∃ e0, ents[i]? = some e0 ∧ e0.born = e.born := fun j i e h => by
            rw [Array.getElem?_modify] at h
            split at h
            · simp only [Option.map_eq_some_iff] at h
              obtain ⟨e0, h0, rfl⟩ := h; exact ⟨e0, h0, rfl⟩
            · exact ⟨e, h, rfl⟩
          obtain ⟨e0, z1, z2⟩ := born _ i e h1
          obtain ⟨e0', z3, z4⟩ := born _ j e' h2
          exact q4 i j e0 e0' z1 z3 (by omega)
        · rw [hput] at h1
          rw [Array.getElem?_modify] at h2
          rw [List.getElem?_set] at h1
          by_cases hij : j = i
          · subst hij
            rw [if_pos rfl] at h1
            rw [if_pos rfl] at h2
            simp [hj] at h1
            simp [hj'] at h2
            subst h1 h2; exact ⟨rfl, hyR⟩
          · rw [if_neg hij] at h1 h2
            exact q5 i p e h1 h2
    · exact h.elim
  · exact h.elim

theorem iter_new {rest : List (Value × AV)} {ob : Obj} (r : Rel X N w S κ t m F a) (hF : F n) (hd : ∀ d, o.dst = some d → d < N)
    (h : IterR (w.alloc ob) S w.heap.size rest none) :
    Rel X N (w.alloc ob) S (upd κ n (newLoc w 1 1)) (putT o.dst (.ptr n 0) t) ((n, some (.iter rest none)) :: m) (fun k => F k ∧ k ≠ n) (a.put o.dst (.pointer (some ⟨w.heap.size, 0, none⟩))) :=
  r.new hF (by simp) (fun b hb => heap_alloc_old w _ hb) ⟨newLoc w 1 1, by simp [upd], rfl, rfl, h⟩ (Loc.has_new (fun _ => rfl) fun _ => ⟨Nat.le_refl _, by simp [newLoc]⟩) (.ptr (l := newLoc w 1 1) (by simp [upd])) hd rfl rfl rfl

theorem mrng_ok {T k e : TypeId} {x : Operand} {x' : Opd} (ho : o.op = .range T x) (hT : P.underlying T = some (.map k e)) (hx : cOpd x = some x')
    (hd : ∀ d, o.dst = some d → d < N) (r : Rel X N w S κ t m F a) (hF : F n) (h : vop (.mrng x') t m n K) : o.wp P a w (Post K X N o.dst t m F n) Q := by
  have hr := ev_ok hx r
  simp only [vop] at h
  split at h
  · rename_i es e1
    rw [e1] at hr
    obtain ⟨b, ents, clock, hv, hb, hw, hE, hn, hi⟩ := hr.rm_inv
    have hlt := r.ent.sb.lt b hb
    refine wp_value (v := .pointer (some ⟨w.heap.size, 0, none⟩)) (w' := w.alloc (.mapIter (some b) clock #[] clock)) ?_ ⟨_, _, S, upd κ n (newLoc w 1 1), h, iter_new r hF hd ?_⟩
    · have hg := getObj_run (P := P) hw (by simp)
      simp [execOp, ho, Instr.range, hv, und_run hT, hg]
    · refine .inr ⟨b, #[], ents, clock, hb, heap_alloc_new w _, (heap_alloc_old w _ hlt).trans hw, hn, hi, ⟨List.range es.length, by simp, List.nodup_range, fun j p i h1 h2 => ?_, fun i e h1 => ?_⟩, fun p hp => by cases hp⟩
      · have hj : j < es.length := (List.getElem?_eq_some_iff.1 h1).1
        rw [List.getElem?_range hj] at h2
        simp at h2; subst h2
        have hj' : j < ents.toList.length := by rw [← hE.1]; exact hj
        obtain ⟨g1, g2⟩ := hE.2 j p ents.toList[j] h1 (by simp)
        refine ⟨ents.toList[j], by simp, g1, g2.mono (fun b' hb' => heap_alloc_old w _ (r.ent.sb.lt b' hb')) (fun _ h => h)⟩
      · have hi : i < ents.size := (Array.getElem?_eq_some_iff.1 h1).1
        have := hE.1
        simp; simp at this; omega
  · rename_i e1
    have hv := ev_v hx r e1
    refine wp_value (v := .pointer (some ⟨w.heap.size, 0, none⟩)) (w' := w.alloc (.mapIter none 0 #[] 0)) ?_ ⟨_, _, S, upd κ n (newLoc w 1 1), h, iter_new r hF hd (.inl ⟨heap_alloc_new w _, rfl, rfl⟩)⟩
    simp [execOp, ho, Instr.range, hv, und_run hT]
  · exact h.elim

theorem next_test {seen : Array Nat} {ents : Array MapEntry} {clock : Nat} (h : ∀ (i : Nat) e, ents[i]? = some e → e.born < clock) :
    (!seen.isEmpty && !ents.isEmpty && ents.all (fun x => decide (x.born ≥ clock))) = false := by
  by_cases h0 : ents.size = 0
  · simp [Array.isEmpty, h0]
  · have hm : ents.all (fun x => decide (x.born ≥ clock)) = false := by
      rw [Bool.eq_false_iff]
      intro hh
      rw [Array.all_eq_true] at hh
      have h1 := hh 0 (by omega)
      have h2 := h 0 ents[0] (by simp)
      simp at h1; omega
    rw [hm, Bool.and_false]

/-- a step of an iterator -/
theorem next_run {b mb : Nat} {seen : Array Nat} {ents : Array MapEntry} {clock : Nat} {T : TypeId} (hb : w.heap[b]? = some (.mapIter (some mb) clock seen clock)) (hm : w.heap[mb]? = some (.map ents clock))
    (hn : ∀ (i : Nat) e, ents[i]? = some e → e.born < clock) :
    ((∀ (i : Nat) e, ents[i]? = some e → e.born ∈ seen) ∧ (Instr.next (.pointer (some ⟨b, 0, none⟩)) false T).run P w = .ok (.tuple #[.bool false]) w) ∨
    ∃ (i : Nat) (e : MapEntry) (w1 : World), ents[i]? = some e ∧ e.born ∉ seen ∧ w1.heap = w.heap ∧ w1.os = w.os ∧ w1.tape = w.tape ∧ w1.output = w.output ∧
      (Instr.next (.pointer (some ⟨b, 0, none⟩)) false T).run P w = .ok (.tuple #[.bool true, e.key, e.val]) { w1 with heap := w1.heap.setIfInBounds b (.mapIter (some mb) clock (seen.push e.born) clock) } := by
  have g1 := getObj_run (P := P) hb (by simp)
  have g2 := getObj_run (P := P) hm (by simp)
  have e0 : (ents.filter fun e => !seen.contains e.born).filter (fun x => decide (x.born < clock)) = ents.filter fun e => !seen.contains e.born := by
    refine Array.filter_eq_self.2 (fun x hx => ?_)
    obtain ⟨h1, _⟩ := Array.mem_filter.1 hx
    obtain ⟨i, hi, rfl⟩ := Array.getElem_of_mem h1
    simpa using hn i _ (by simp [hi])
  have e2 : (ents.filter fun e => !seen.contains e.born).filter (fun x => decide (x.born ≥ clock)) = #[] := by
    rw [Array.filter_eq_empty_iff]
    intro x hx
    obtain ⟨h1, _⟩ := Array.mem_filter.1 hx
    obtain ⟨i, hi, rfl⟩ := Array.getElem_of_mem h1
    have := hn i ents[i] (by simp [hi])
    simp; omega
  have hL : ∀ x ∈ ents.filter (fun e => !seen.contains e.born), ∃ i : Nat, ents[i]? = some x ∧ x.born ∉ seen := fun x hx => by
    obtain ⟨h1, h2⟩ := Array.mem_filter.1 hx
    obtain ⟨i, hi, rfl⟩ := Array.getElem_of_mem h1
    exact ⟨i, by simp [hi], by simpa using h2⟩
  have hL' : ∀ (i : Nat) e, ents[i]? = some e → e.born ∉ seen → e ∈ ents.filter (fun e => !seen.contains e.born) := fun i e h1 h2 =>
    Array.mem_filter.2 ⟨Array.mem_of_getElem? h1, by simpa using h2⟩
  simp only [Instr.next, Sem.run_bind, g1, Result.andThen_ok, g2, next_test hn, Bool.false_eq_true, if_false, e0, e2, Array.append_empty]
  generalize ents.filter (fun e => !seen.contains e.born) = L at hL hL' ⊢
  by_cases h0 : L.size = 0
  · left
    have : L = #[] := Array.eq_empty_of_size_eq_zero h0
    subst this
    refine ⟨fun i e h => ?_, ?_⟩
    · apply Classical.byContradiction
      intro hh
      have := hL' i e h hh
      simp at this
    · simp [Question.forced]
  · right
    have hne : L.isEmpty = false := by simp [Array.isEmpty, h0]
    simp only [hne, Bool.false_eq_true, if_false, Array.empty_append, Array.size_map]
    have hch : ∃ (j : Nat) (w1 : World), j < L.size ∧ w1.heap = w.heap ∧ w1.os = w.os ∧ w1.tape = w.tape ∧ w1.output = w.output ∧ (choose (Question.mapNext L.size)).run P w = .ok j w1 := by
      by_cases hf : L.size ≤ 1
      · exact ⟨0, w, by omega, rfl, rfl, rfl, rfl, by simp [choose, Sem.run, Question.forced, hf]⟩
      · exact ⟨_, w.drew, Nat.mod_lt _ (by omega), rfl, rfl, rfl, rfl, by
          simp only [choose, Sem.run, Question.forced, decide_eq_true_eq, hf, if_false, Question.cut]
          rfl⟩
    obtain ⟨j, w1, hj, q1, q2, q3, q4, hrun⟩ := hch
    obtain ⟨i, h1, h2⟩ := hL L[j] (Array.getElem_mem hj)
    refine ⟨i, L[j], w1, h1, h2, q1, q2, q3, q4, ?_⟩
    simp only [hrun, Result.andThen_ok, Array.getElem?_map, Array.getElem?_eq_getElem hj, Option.map_some, Sem.run_bind, Sem.run_pure]
    rw [setObj_run (P := P) (w := w1) (ob := .mapIter (some mb) clock seen clock) (by rw [q1]; exact hb) (by simp)]
    rfl

theorem next_ok {x : Operand} {x' : Opd} (ho : o.op = .next x false) (hx : cOpd x = some x')
    (hd : ∀ d, o.dst = some d → d < N) (r : Rel X N w S κ t m F a) (h : vop (.next x') t m n K) : o.wp P a w (Post K X N o.dst t m F n) Q := by
  have hr := ev_ok hx r
  simp only [vop] at h
  split at h
  · rename_i k e1
    rw [e1] at hr
    obtain ⟨l, hl, hv⟩ := hr.ptr_inv
    split at h
    · rename_i rest cur hk
      obtain ⟨l', q1, hnil, q2, q3⟩ := r.ent.mm _ _ hk
      rw [hl] at q1; cases q1
      rw [q2] at hv
      simp only [Nat.add_zero] at hv
      have hlt := (r.ent.own1 _ _ _ hk hl hnil).2
      have over : (Instr.next (.pointer (some ⟨l.b, 0, none⟩)) false o.type).run P w = .ok (.tuple #[.bool false]) w → rest = [] → o.wp P a w (Post K X N o.dst t m F n) Q := fun hrun hre =>
        wp_pure (v := .tuple #[.bool false]) (by simp [execOp, ho, hv, hrun]) r hd (.base (.tup rfl (fun i x y h1 h2 => by
          cases i with
          | zero => simp at h1 h2; subst h1 h2; exact .v _
          | succ i => simp at h1))) (h.1 hre)
      rcases q3 with ⟨hb, hre, _⟩ | ⟨mb, seen, ents, clock, hS, hb, hm, hn, hi, ⟨idx, i1, i2, i3, i4⟩, _⟩
      · refine over ?_ hre
        have g1 := getObj_run (P := P) hb (by simp)
        simp only [Instr.next, Sem.run_bind, g1, Result.andThen_ok, Sem.run_pure]
      · rcases next_run (P := P) (T := o.type) hb hm hn with ⟨hall, hrun⟩ | ⟨i, e, w1, g1, g2, g3, g4, g5, g6, hrun⟩
        · refine over hrun ?_
          cases hrest : rest with
          | nil => rfl
          | cons p rest' =>
            exfalso
            have h0 : 0 < idx.length := by rw [i1, hrest]; simp
            obtain ⟨e, k1, k2, k3⟩ := i3 0 p idx[0] (by rw [hrest]; rfl) (by simp [h0])
            exact ((i4 _ e k1).2 (List.getElem_mem h0)) (hall _ e k1)
        · have hmem := (i4 i e g1).1 g2
          obtain ⟨j, hj, hji⟩ := List.getElem_of_mem hmem
          have hj' : j < rest.length := by rw [← i1]; exact hj
          obtain ⟨e', k1, k2, k3⟩ := i3 j rest[j] i (by simp [hj']) (by simp [hj, hji])
          rw [g1] at k1; cases k1
          have hw : ∀ b', b' ≠ l.b → ({ w1 with heap := w1.heap.setIfInBounds l.b (.mapIter (some mb) clock (seen.push e.born) clock) } : World).heap[b']? = w.heap[b']? := fun b' hb' => by simp [Ne.symm hb', g3]
          have hSw : ∀ b', S b' → ({ w1 with heap := w1.heap.setIfInBounds l.b (.mapIter (some mb) clock (seen.push e.born) clock) } : World).heap[b']? = w.heap[b']? := fun b' hb' => hw b' (fun hh => (r.ent.own1 _ _ _ hk hl hnil).1 (hh ▸ hb'))
          refine wp_value (v := .tuple #[.bool true, e.key, e.val]) (w' := { w1 with heap := w1.heap.setIfInBounds l.b (.mapIter (some mb) clock (seen.push e.born) clock) }) (by simp [execOp, ho, hv, hrun])
            ⟨_, _, S, κ, h.2 j rest[j] (by simp [hj']), (r.set (o' := .iter (rest.eraseIdx j) (some rest[j])) hk hl hnil (by simp [g3]) hw ⟨l, hl, hnil, q2, ?_⟩ ?_ hd g4 g5 g6).free fun _ h => h.1⟩
          · refine .inr ⟨mb, seen.push e.born, ents, clock, hS, by simp [g3, hlt], (hSw mb hS).trans hm, hn, hi, ⟨idx.eraseIdx j, ?_, i2.eraseIdx j, fun j2 p i2' h1 h2 => ?_, fun i2' e2 h1 => ?_⟩, fun p hp => ?_⟩
            · rw [List.length_eraseIdx, List.length_eraseIdx, i1]
            · rw [List.getElem?_eraseIdx] at h1 h2
              have : ∃ j3 : Nat, rest[j3]? = some p ∧ idx[j3]? = some i2' := by
                split at h1 <;> rename_i hc
                · rw [if_pos hc] at h2; exact ⟨j2, h1, h2⟩
                · rw [if_neg hc] at h2; exact ⟨j2 + 1, h1, h2⟩
              obtain ⟨j3, h3, h4⟩ := this
              obtain ⟨e3, z1, z2, z3⟩ := i3 j3 p i2' h3 h4
              exact ⟨e3, z1, z2, z3.mono hSw (fun _ h => h)⟩
            · rw [List.mem_eraseIdx_iff_getElem]
              constructor
              · intro hns
                have hns' : e2.born ∉ seen := fun hh => hns (by simp [hh])
                obtain ⟨j3, hj3, hj3'⟩ := List.getElem_of_mem ((i4 i2' e2 h1).1 hns')
                refine ⟨j3, hj3, fun hjj => hns ?_, hj3'⟩
                subst hjj
                have : i2' = i := by rw [← hj3', hji]
                subst this
                rw [g1] at h1; cases h1; simp
              · rintro ⟨j3, hj3, hne, hj3'⟩ hs
                have hin : i2' ∈ idx := hj3' ▸ List.getElem_mem hj3
                have hns := (i4 i2' e2 h1).2 hin
                rcases Array.mem_push.1 hs with hs | hs
                · exact hns hs
                · have := hi i2' i e2 e h1 g1 hs
                  subst this
                  exact hne ((List.getElem_inj i2).1 (hj3'.trans hji.symm))
            · cases hp
              exact ⟨i, e, g1, by simp, k2, k3.mono hSw (fun _ h => h)⟩
          · refine .base (.tup rfl (fun q x y h1 h2 => ?_))
            match q, h1, h2 with
            | 0, h1, h2 => simp at h1 h2; subst h1 h2; exact .v _
            | 1, h1, h2 => simp at h1 h2; subst h1 h2; rw [k2]; exact .v _
            | 2, h1, h2 => simp at h1 h2; subst h1 h2; exact k3.mono hSw (fun _ h => h)
            | q + 3, h1, _ => simp at h1
    · exact h.elim
  · exact h.elim

theorem find_born {ents : Array MapEntry} {i : Nat} {e : MapEntry} (hi : ∀ (i j : Nat) e e', ents[i]? = some e → ents[j]? = some e' → e.born = e'.born → i = j) (h : ents[i]? = some e) : ents.find? (·.born == e.born) = some e := by
  cases hf : ents.find? (·.born == e.born) with
  | none =>
    rw [Array.find?_eq_none] at hf
    have := hf e (Array.mem_of_getElem? h)
    simp at this
  | some e' =>
    have h1 := Array.find?_some hf
    have h2 := Array.mem_of_find?_eq_some hf
    obtain ⟨j, hj, rfl⟩ := Array.getElem_of_mem h2
    have := hi j i ents[j] e (by simp [hj]) h (by simpa using h1)
    subst this
    rw [← h]; simp

theorem entry_ok {x : Operand} {x' : Opd} (ho : o.op = .entry x) (hx : cOpd x = some x')
    (hd : ∀ d, o.dst = some d → d < N) (r : Rel X N w S κ t m F a) (h : vop (.entry x') t m n K) : o.wp P a w (Post K X N o.dst t m F n) Q := by
  have hr := ev_ok hx r
  simp only [vop] at h
  split at h
  · rename_i k e1
    rw [e1] at hr
    obtain ⟨l, hl, hv⟩ := hr.ptr_inv
    split at h
    · rename_i rest p hk
      obtain ⟨l', q1, hnil, q2, q3⟩ := r.ent.mm _ _ hk
      rw [hl] at q1; cases q1
      rw [q2] at hv
      simp only [Nat.add_zero] at hv
      rcases q3 with ⟨_, _, hc⟩ | ⟨mb, seen, ents, clock, hS, hb, hm, hn, hi, _, hcur⟩
      · cases hc
      · obtain ⟨i, e, g1, g2, g3, g4⟩ := hcur p rfl
        have b1 := getObj_run (P := P) hb (by simp)
        have b2 := getObj_run (P := P) hm (by simp)
        have hrun : (Instr.entry (.pointer (some ⟨l.b, 0, none⟩))).run P w = .ok (.tuple #[e.key, e.val]) w := by
          simp only [Instr.entry, Sem.run_bind, b1, Result.andThen_ok, g2, b2, bne_self_eq_false, Bool.false_eq_true, if_false, find_born hi g1, Sem.run_pure]
        refine wp_pure (v := .tuple #[e.key, e.val]) (by simp [execOp, ho, hv, hrun]) r hd (.base (.tup rfl (fun q x y h1 h2 => ?_))) h
        match q, h1, h2 with
        | 0, h1, h2 => simp at h1 h2; subst h1 h2; rw [g3]; exact .v _
        | 1, h1, h2 => simp at h1 h2; subst h1 h2; exact g4
        | q + 2, h1, _ => simp at h1
    · exact h.elim
  · exact h.elim

end Go.Av
