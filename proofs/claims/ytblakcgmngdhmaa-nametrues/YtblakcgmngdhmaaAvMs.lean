/- Maps whose keys are strings; strings of bytes; capacities; zero values appended to nothing. -/
import Derived.Test.YtblakcgmngdhmaaAvMp
namespace Go.Av

variable {P : Program} {w w' : World} {S S' : Nat → Prop} {κ κ' : Nat → Option Loc} {m : Mem} {n N : Nat} {F : Nat → Prop} {t : Tmps} {a : Act} {X : Ctx}
  {K : AV → Mem → Prop} {Q : Exit → Act → World → Prop} {o : Oper}

theorem beq_bytes (a b : ByteArray) : (a == b) = decide (a = b) := by
  cases a with
  | mk a => cases b with
    | mk b =>
      show (a == b) = _
      rw [Bool.eq_iff_iff, beq_iff_eq, decide_eq_true_iff]
      exact ⟨fun h => by rw [h], fun h => by cases h; rfl⟩

def sidx (x : ByteArray) : List (Value × AV) → Option Nat
  | [] => none
  | (q, _) :: r => bif skeyIs x q then some 0 else (sidx x r).map (· + 1)

theorem sidx_lt {x : ByteArray} {es : List (Value × AV)} {i : Nat} (h : sidx x es = some i) : i < es.length := by
  induction es generalizing i with
  | nil => simp [sidx] at h
  | cons p es ih =>
    obtain ⟨q, y⟩ := p
    simp only [sidx] at h
    cases hq : skeyIs x q with
    | true => rw [hq] at h; simp at h; subst h; simp
    | false =>
      rw [hq] at h
      simp only [cond_false, Option.map_eq_some_iff] at h
      obtain ⟨j, hj, rfl⟩ := h
      have := ih hj; simp; omega

theorem sfind_idx (x : ByteArray) (es : List (Value × AV)) : sfind x es = (sidx x es).bind fun i => es[i]?.map (·.2) := by
  induction es with
  | nil => rfl
  | cons p es ih =>
    obtain ⟨q, y⟩ := p
    simp only [sfind, sidx]
    cases hq : skeyIs x q with
    | true => rfl
    | false =>
      simp only [cond_false]
      rw [ih]
      cases sidx x es <;> simp

theorem sput_idx (x : ByteArray) (y : AV) (es : List (Value × AV)) : sput x y es = match sidx x es with | some i => es.set i (.string x, y) | none => es ++ [(.string x, y)] := by
  induction es with
  | nil => rfl
  | cons p es ih =>
    obtain ⟨q, z⟩ := p
    simp only [sput, sidx]
    cases hq : skeyIs x q with
    | true => rfl
    | false =>
      simp only [cond_false]
      rw [ih]
      cases sidx x es <;> simp

theorem findNow_str {x : ByteArray} : ∀ {es : List (Value × AV)} {ents : List MapEntry} (i : Nat), EntsR w S es ents → SKeys es →
    Instr.findNow .string (.string x) ents i = some ((sidx x es).bind fun j => ents[j]?.map fun e => (i + j, e.val)) := by
  intro es
  induction es with
  | nil => intro ents i h hk; have : ents = [] := List.eq_nil_of_length_eq_zero (by have := h.1; simpa using this.symm); subst this; rfl
  | cons p es ih =>
    intro ents i h hk
    cases ents with
    | nil => have := h.1; simp at this
    | cons e ents =>
      obtain ⟨⟨h1, h2⟩, h3⟩ := h.tail
      obtain ⟨q, y⟩ := p
      obtain ⟨b, hb⟩ := hk (q, y) (by simp)
      simp only at hb; subst hb
      simp only [Instr.findNow, h1, Instr.sameNow, beq_bytes, sidx, skeyIs]
      by_cases hx : b = x
      · subst hx; simp
      · have e1 : decide (x = b) = false := decide_eq_false fun hh : x = b => hx hh.symm
        rw [e1]
        simp only [hx, decide_false, cond_false]
        rw [ih (i + 1) h3 (fun p hp => hk p (by simp [hp]))]
        cases sidx x es with
        | none => rfl
        | some j => simp [Nat.add_assoc, Nat.add_comm 1]

theorem checkKey_str {b : Bool} {T : TypeId} {x : ByteArray} (hT : P.underlying T = some .string) : (Instr.checkKey b 10000 T (.string x)).run P w = .ok () w := by
  rw [show Instr.checkKey b 10000 T (.string x) = Instr.checkKey b (9999 + 1) T (.string x) from rfl]
  unfold Instr.checkKey
  rw [Sem.run_bind, und_run hT]
  rfl

theorem findKey_str {T : TypeId} {x : ByteArray} {es : List (Value × AV)} {ents : List MapEntry} (hT : P.underlying T = some .string) (h : EntsR w S es ents) (hk : SKeys es) :
    (Instr.findKey T (.string x) ents).run P w = .ok ((sidx x es).bind fun j => ents[j]?.map fun e => (j, e.val)) w := by
  simp only [Instr.findKey, Sem.run_bind, und_run hT, Result.andThen_ok, findNow_str 0 h hk, Sem.run_pure, Nat.zero_add]

theorem mapS_inv {T : TypeId} {z : AV} (h : mapS P T = some z) : ∃ k e zv, P.underlying T = some (.map k e) ∧ P.underlying k = some .string ∧
    (∀ w, (zeroValue e).run P w = .ok zv w) ∧ ∀ w S, R0 w S z zv := by
  unfold mapS at h
  split at h
  · rename_i k e hT
    split at h
    · rename_i zv hk he
      simp only [Option.some.injEq] at h
      subst h
      obtain ⟨i, hi, hz⟩ := Option.bind_eq_some_iff.1 he
      exact ⟨k, e, zv, hT, hk, fun w => by simp [zeroValue, typeInfo, hi, hz], fun w S => zeroAV_R0 zv⟩
    · simp at h
  · simp at h

theorem EntsR.gets {es : List (Value × AV)} {ents : List MapEntry} (h : EntsR w S es ents) {x : ByteArray} : (sidx x es).bind (fun j => ents[j]?.map fun e => (j, e.val)) = none ∧ sfind x es = none ∨
    ∃ j e y, (sidx x es).bind (fun j => ents[j]?.map fun e => (j, e.val)) = some (j, e.val) ∧ sidx x es = some j ∧ ents[j]? = some e ∧ sfind x es = some y ∧ R0 w S y e.val := by
  rw [sfind_idx]
  cases hm : sidx x es with
  | none => exact .inl ⟨rfl, rfl⟩
  | some j =>
    have hj := sidx_lt hm
    have hj' : j < ents.length := by rw [← h.1]; exact hj
    refine .inr ⟨j, ents[j], es[j].2, by simp [hj'], rfl, by simp [hj'], by simp [hj], (h.2 j es[j] ents[j] (by simp [hj]) (by simp [hj'])).2⟩

theorem sget_ok {T : TypeId} {z : AV} {ok : Bool} {x i : Operand} {x' i' : Opd} (ho : o.op = .lookup T x i ok) (hT : mapS P T = some z) (hx : cOpd x = some x') (hi : cOpd i = some i')
    (hd : ∀ d, o.dst = some d → d < N) (r : Rel X N w S κ t m F a) (h : vop (.sget z ok x' i') t m n K) : o.wp P a w (Post K X N o.dst t m F n) Q := by
  simp only [vop] at h
  split at h
  · rename_i b e1
    have hi' := ev_v hi r e1
    obtain ⟨kt, et, zv, g1, g2, g3, g4⟩ := mapS_inv (P := P) hT
    obtain ⟨es, ⟨hk, hK⟩, hv⟩ := mapE_run r.ent (ev_ok hx r) h
    have key : ∃ v : Value, (Instr.lookup T (a.eval x) (a.eval i) ok).run P w = .ok (if ok then .tuple #[v, .bool (sfind b es).isSome] else v) w ∧ R0 w S ((sfind b es).getD z) v := by
      rcases hv with ⟨hv, rfl⟩ | ⟨bl, ents, clock, hv, hb, hE⟩
      · have hf : (Instr.findKey kt (.string b) []).run P w = .ok none w := findKey_str (w := w) (S := S) (es := []) (ents := []) g2 ⟨rfl, fun i p e h => by simp at h⟩ hk
        refine ⟨zv, ?_, g4 _ _⟩
        simp only [Instr.lookup, hv, hi', Sem.run_bind, und_run g1, Result.andThen_ok, Sem.run_pure, checkKey_str g2, hf, g3, sfind, Option.isSome_none]
      · have hg := getObj_run (P := P) hb (by simp)
        rcases hE.gets (x := b) with ⟨q1, q2⟩ | ⟨j, e, y, q1, _, q3, q4, q5⟩
        · refine ⟨zv, ?_, by rw [q2]; exact g4 _ _⟩
          simp only [Instr.lookup, hv, hi', Sem.run_bind, und_run g1, Result.andThen_ok, Sem.run_pure, hg, checkKey_str g2, findKey_str g2 hE hk, q1, g3, q2, Option.isSome_none]
        · refine ⟨e.val, ?_, by rw [q4]; exact q5⟩
          simp only [Instr.lookup, hv, hi', Sem.run_bind, und_run g1, Result.andThen_ok, Sem.run_pure, hg, checkKey_str g2, findKey_str g2 hE hk, q1, q4, Option.isSome_some]
    obtain ⟨v, hrun, hR⟩ := key
    refine wp_pure (v := if ok then .tuple #[v, .bool (sfind b es).isSome] else v) ?_ r hd ?_ hK
    · simp [execOp, ho, hrun]
    · cases ok with
      | false => exact .base hR
      | true =>
        refine .base (.tup rfl (fun i x y h1 h2 => ?_))
        match i, h1, h2 with
        | 0, h1, h2 => simp at h1 h2; subst h1 h2; exact hR
        | 1, h1, h2 => simp at h1 h2; subst h1 h2; exact .v _
        | i + 2, h1, _ => simp at h1
  · exact h.elim

theorem keyStaysS {x : ByteArray} : (Instr.keyThatStays (.string x) (.string x)).run P w = .ok (.string x) w := by
  simp only [Instr.keyThatStays, Instr.sameBits, beq_bytes, decide_true, if_true, Sem.run_pure]

theorem sput_SKeys {x : ByteArray} {y : AV} {es : List (Value × AV)} (h : SKeys es) : SKeys (sput x y es) := by
  induction es with
  | nil => intro p hp; simp [sput] at hp; subst hp; exact ⟨x, rfl⟩
  | cons q es ih =>
    obtain ⟨q, z⟩ := q
    intro p hp
    simp only [sput] at hp
    cases hq : skeyIs x q with
    | true =>
      rw [hq] at hp
      simp only [cond_true, List.mem_cons] at hp
      rcases hp with rfl | hp
      · exact ⟨x, rfl⟩
      · exact h p (by simp [hp])
    | false =>
      rw [hq] at hp
      simp only [cond_false, List.mem_cons] at hp
      rcases hp with rfl | hp
      · exact h _ (by simp)
      · exact ih (fun p hp => h p (by simp [hp])) p hp

theorem sidx_key {x : ByteArray} {es : List (Value × AV)} {i : Nat} (hk : SKeys es) (h : sidx x es = some i) : ∃ y, es[i]? = some (.string x, y) := by
  induction es generalizing i with
  | nil => simp [sidx] at h
  | cons p es ih =>
    obtain ⟨q, y⟩ := p
    obtain ⟨b, hb⟩ := hk (q, y) (by simp)
    simp only at hb; subst hb
    simp only [sidx, skeyIs] at h
    by_cases hx : b = x
    · subst hx; simp at h; subst h; exact ⟨y, by simp⟩
    · simp only [hx, decide_false, cond_false, Option.map_eq_some_iff] at h
      obtain ⟨j, hj, rfl⟩ := h
      simpa using ih (fun p hp => hk p (by simp [hp])) hj

theorem sset_ok {T : TypeId} {z : AV} {x i y : Operand} {x' i' y' : Opd} (ho : o.op = .mapUpdate T x i y) (hT : mapS P T = some z) (hx : cOpd x = some x') (hi : cOpd i = some i') (hy : cOpd y = some y')
    (hd : ∀ d, o.dst = some d → d < N) (r : Rel X N w S κ t m F a) (h : vop (.sset x' i' y') t m n K) : o.wp P a w (Post K X N o.dst t m F n) Q := by
  simp only [vop] at h
  split at h
  · rename_i k' b e1 e2
    split at h
    · rename_i es hk'
      obtain ⟨hk, hkd, hK⟩ := h
      have hi' := ev_v hi r e2
      have hr := ev_ok hx r
      rw [e1] at hr
      obtain ⟨l, hl, hn, hv⟩ := hr.mp_inv
      obtain ⟨l', q1, _, ents, clock, hb, q2, q3, q4, q5⟩ := r.ent.mm _ _ hk'
      rw [hl] at q1; cases q1
      have hE : EntsR w S es ents.toList := ⟨by simpa using q2, fun i p e h1 h2 => q5 i p e h1 (by simpa using h2)⟩
      obtain ⟨kt, et, zv, g1, g2, g3, g4⟩ := mapS_inv (P := P) hT
      have hyR := kd_R0 (ev_ok hy r) hkd
      have hg := getObj_run (P := P) hb (by simp)
      have hlt : l.b < w.heap.size := (r.ent.own1 _ _ _ hk' hl hn).2
      have fin : ∀ (ents' : Array MapEntry) (clock' : Nat), (Instr.mapUpdate T (a.eval x) (a.eval i) (a.eval y)).run P w = .ok () { w with heap := w.heap.setIfInBounds l.b (.map ents' clock') } →
          (sput b (ev t y') es).length = ents'.size → (∀ (i : Nat) e, ents'[i]? = some e → e.born < clock') → (∀ (i j : Nat) e e', ents'[i]? = some e → ents'[j]? = some e' → e.born = e'.born → i = j) →
          (∀ (i : Nat) p e, (sput b (ev t y') es)[i]? = some p → ents'[i]? = some e → e.key = p.1 ∧ R0 w S p.2 e.val) → o.wp P a w (Post K X N o.dst t m F n) Q := fun ents' clock' hrun f1 f2 f3 f4 => by
        have hw : ∀ b', b' ≠ l.b → ({ w with heap := w.heap.setIfInBounds l.b (.map ents' clock') } : World).heap[b']? = w.heap[b']? := fun b' hb' => by simp [Ne.symm hb']
        have hS : ∀ b', S b' → ({ w with heap := w.heap.setIfInBounds l.b (.map ents' clock') } : World).heap[b']? = w.heap[b']? := fun b' hb' => hw b' (fun hh => (r.ent.own1 _ _ _ hk' hl hn).1 (hh ▸ hb'))
        refine wp_skipped (w' := { w with heap := w.heap.setIfInBounds l.b (.map ents' clock') }) ?_ ⟨_, _, S, κ, hK, (r.set (o' := .map (sput b (ev t y') es)) hk' hl hn (by simp) hw ?_ (.base (.v undef)) hd rfl rfl rfl).free fun _ h => h.1⟩
        · simp [execOp, ho, hrun]
        · exact ⟨l, hl, hn, ents', clock', by simp [hlt], f1, f2, f3, fun i p e h1 h2 => ⟨(f4 i p e h1 h2).1, (f4 i p e h1 h2).2.mono hS (fun _ h => h)⟩⟩
      rcases hE.gets (x := b) with ⟨s1, s2⟩ | ⟨j, e, y0, s1, s2, s3, s4, s5⟩
      · have hmi : sidx b es = none := by
          cases hm : sidx b es with
          | none => rfl
          | some j =>
            have hj := sidx_lt hm
            have hj' : j < ents.size := by rw [← q2]; exact hj
            rw [hm] at s1; simp [hj'] at s1
        have hput : sput b (ev t y') es = es ++ [(.string b, ev t y')] := by rw [sput_idx, hmi]
        refine fin (ents.push ⟨.string b, a.eval y, clock⟩) (clock + 1) ?_ (by rw [hput]; simp [q2]) (fun i e h1 => ?_) (fun i j e e' h1 h2 hbb => ?_) (fun i p e h1 h2 => ?_)
        · simp only [Instr.mapUpdate, hv, hi', Sem.run_bind, und_run g1, Result.andThen_ok, hg, checkKey_str g2, findKey_str g2 hE hk, s1, setObj_run (P := P) hb (by simp)]
        · rw [Array.getElem?_push] at h1
          split at h1
          · simp at h1; subst h1; exact Nat.lt_succ_self _
          · have := q3 i e h1; omega
        · rw [Array.getElem?_push] at h1 h2
          split at h1 <;> split at h2
          · omega
          · simp at h1; subst h1; have := q3 j e' h2; simp at hbb; omega
          · simp at h2; subst h2; have := q3 i e h1; simp at hbb; omega
          · exact q4 i j e e' h1 h2 hbb
        · rw [hput] at h1
          rw [Array.getElem?_push] at h2
          split at h2
          · rename_i hi2
            subst hi2
            rw [← q2, List.getElem?_append_right (Nat.le_refl _)] at h1
            simp at h1 h2; subst h1 h2; exact ⟨rfl, hyR⟩
          · rename_i hi2
            have : i < ents.size := (Array.getElem?_eq_some_iff.1 h2).1
            rw [List.getElem?_append_left (by omega)] at h1
            exact q5 i p e h1 h2
      · have hput : sput b (ev t y') es = es.set j (.string b, ev t y') := by rw [sput_idx, s2]
        have hj : j < es.length := sidx_lt s2
        have hj' : j < ents.size := by rw [← q2]; exact hj
        obtain ⟨y1, hy1⟩ := sidx_key hk s2
        have hkey : (ents[j]?).map (·.key) = some (.string b) := by
          have := (q5 j _ ents[j] hy1 (by simp [hj'])).1
          simp [hj', this]
        refine fin (ents.modify j fun e => { e with key := .string b, val := a.eval y }) clock ?_ (by rw [hput]; simp [q2]) (fun i e h1 => ?_) (fun i j e e' h1 h2 hbb => ?_) (fun i p e h1 h2 => ?_)
        · simp only [Instr.mapUpdate, hv, hi', Sem.run_bind, und_run g1, Result.andThen_ok, hg, checkKey_str g2, findKey_str g2 hE hk, s1, hkey, Option.getD_some, keyStaysS, setObj_run (P := P) hb (by simp)]
        · rw [Array.getElem?_modify] at h1
          split at h1
          · simp only [Option.map_eq_some_iff] at h1
            obtain ⟨e0, h0, rfl⟩ := h1; exact q3 i e0 h0
          · exact q3 i e h1
        · have born : ∀ (j i : Nat) (e : MapEntry), (ents.modify j fun e => { e with key := .string b, val := a.eval y })[i]? = some e → ∃ e0, ents[i]? = some e0 ∧ e0.born = e.born := fun j i e h => by
            rw [Array.getElem?_modify] at h
            split at h
            · simp only [Option.map_eq_some_iff] at h
              obtain ⟨e0, h0, rfl⟩ := h; exact ⟨e0, h0, rfl⟩
            · exact ⟨e, h, rfl⟩
          obtain ⟨e0, z1, z2⟩ := born _ i e h1
          obtain ⟨e0', z3, z4⟩ := born _ j e' h2
          exact q4 i j e0 e0' z1 z3 (by omega)
        · rw [hput] at h1
          rw [Array.getElem?_modify] at h2
          rw [List.getElem?_set] at h1
          by_cases hij : j = i
          · subst hij
            rw [if_pos rfl] at h1
            rw [if_pos rfl] at h2
            simp [hj] at h1
            simp [hj'] at h2
            subst h1 h2; exact ⟨rfl, hyR⟩
          · rw [if_neg hij] at h1 h2
            exact q5 i p e h1 h2
    · exact h.elim
  · exact h.elim


theorem cap_ok {e : TypeId} {c : Call} {T : TypeId} {x : Operand} {x' : Opd} (ho : o.op = .call c) (hb : c.callee = .builtin .cap) (ha : c.args.toList = [x])
    (ht : c.argTypes[0]? = some T) (hT : P.underlying T = some (.slice e)) (hx : cOpd x = some x')
    (hd : ∀ d, o.dst = some d → d < N) (r : Rel X N w S κ t m F a) (h : vop (.cap x') t m n K) : o.wp P a w (Post K X N o.dst t m F n) Q := by
  have hargs : c.args = #[x] := Array.toList_inj.1 ha
  simp only [vop] at h
  split at h
  · rename_i ad len cp e1
    have hv := ev_v hx r e1
    refine wp_pure (v := .int .i64 cp) ?_ r hd (.base (.v _)) h
    simp [execOp, ho, resolve, hb, hargs, hv, invoke, builtin, Builtin.cap_, ht, und_run hT, goInt]
  · exact h.elim

theorem appz_ok {T T' e : TypeId} {k : IntKind} {sz : Nat} {z : AV} {c : Call} {s x : Operand} {x' s' : Opd} (ho : o.op = .call c) (hb : c.callee = .builtin .append) (ha : c.args.toList = [s, x]) (ht : c.argTypes = #[T, T'])
    (hT : P.underlying T = some (.slice e)) (hT' : P.underlying T' = some (.int k)) (he : elemT P e = some (sz, z)) (hs : cOpd s = some s') (hx : cOpd x = some x')
    (hd : ∀ d, o.dst = some d → d < N) (r : Rel X N w S κ t m F a) (hF : F n) (h : vop (.appz z s' x') t m n K) : o.wp P a w (Post K X N o.dst t m F n) Q := by
  obtain ⟨i, zv, hi, hz, hsz, hzc, hpos, hby, hzz, hall⟩ := elemT_inv he
  have hargs : c.args = #[s, x] := Array.toList_inj.1 ha
  have fin : ∀ {v : Value} {w' : World} {y : AV} {u : Mem}, (Builtin.append_ #[T, T'] T #[a.eval s, a.eval x]).run P w = .ok v w' → K y u →
      (∃ S' κ', Rel X N w' S' κ' (putT o.dst y t) (u ++ m) (fun k => F k ∧ k ≠ n) (a.put o.dst v)) → o.wp P a w (Post K X N o.dst t m F n) Q :=
    fun {v w' y u} h1 h2 ⟨S', κ', h3⟩ => wp_value (v := v) (w' := w') (by
      have : ∀ ty, Builtin.append_ #[T, T'] ty #[a.eval s, a.eval x] = Builtin.append_ #[T, T'] T #[a.eval s, a.eval x] := fun _ => rfl
      simp [execOp, ho, resolve, hb, hargs, invoke, builtin, ht, this, h1]) ⟨y, u, S', κ', h2, h3⟩
  have hzl : z.cells.length = sz := by rw [hzz]; simpa using hzc
  simp only [vop] at h
  split at h
  · rename_i k1 p e1 e2
    obtain ⟨h0, h1, hK⟩ := h
    have hvs := ev_v hs r e1
    have hvx := ev_v hx r e2
    have hw : IntKind.i64.wrap p = p := IntWalk.i64_in p (by omega)
    have hso : ∀ W, (sizeOf e).run P W = .ok sz W := fun W => by simp [sizeOf, typeInfo, hi, hsz]
    have hzv : ∀ W, (zeroValue e).run P W = .ok zv W := fun W => by simp [zeroValue, typeInfo, hi, hz]
    have hti : ∀ W, (typeInfo e).run P W = .ok i W := fun W => by simp [typeInfo, hi]
    have hai : ∀ W, (asInt (.int k1 p)).run P W = .ok p W := fun W => by simp [asInt, asIntOf]
    have hneg : ¬ p < 0 := by omega
    have hbig : ¬ (p * (i.bytes : Int) > 2 ^ 48) := by
      have : p * (i.bytes : Int) ≤ 4294967296 * 4096 := Int.mul_le_mul h1 (by omega) (by omega) (by omega)
      have : (4294967296 : Int) * 4096 ≤ 2 ^ 48 := by decide
      omega
    have hzero : ∀ q : Nat, p.toNat ≤ q → Elems w S sz (List.replicate p.toNat z) (Builtin.zeroCells zv.cells p.toNat ++ Builtin.zeroCells zv.cells (q - p.toNat)) 0 := fun q hq => by
      refine ⟨fun i x hx => ?_, fun i x j y hx hy => ?_⟩
      · have := (List.mem_replicate.1 (List.mem_of_getElem? hx)).2; subst this; exact ⟨hzl, hall⟩
      · have := (List.mem_replicate.1 (List.mem_of_getElem? hx)).2; subst this
        have hip : i < p.toNat := by have := (List.getElem?_eq_some_iff.1 hx).1; simpa using this
        have hj : j < sz := by rw [← hzl]; exact (List.getElem?_eq_some_iff.1 hy).1
        have hlt : 0 + i * sz + j < p.toNat * sz := by
          have : (i + 1) * sz ≤ p.toNat * sz := Nat.mul_le_mul_right _ (by omega)
          rw [Nat.add_mul, Nat.one_mul] at this; omega
        refine ⟨zv.cells[j]'(by omega), ?_, ?_⟩
        · have hm : (0 + i * sz + j) % zv.cells.size = j := by
            rw [hzc, Nat.zero_add, Nat.add_comm, Nat.add_mul_mod_self_right, Nat.mod_eq_of_lt hj]
          rw [Array.getElem?_append_left (by rw [zero_size, hzc]; exact hlt)]
          unfold Builtin.zeroCells
          rw [Array.getElem?_map, Array.getElem?_range, if_pos (show 0 + i * sz + j < p.toNat * zv.cells.size by rw [hzc]; exact hlt)]
          simp only [Option.map_some, hm]
          rw [getElem!_pos zv.cells j (by omega)]
        · rw [hzz, List.getElem?_map, Array.getElem?_toList, Array.getElem?_eq_getElem (by omega)] at hy
          simp at hy; subst hy
          exact .v _
    by_cases hp0 : p.toNat = 0
    · refine fin (v := .slice none 0 0) (w' := w) ?_ hK ?_
      · rw [hvs, hvx]
        unfold Builtin.append_
        simp only [List.getElem?_toArray, List.getElem?_cons_zero, List.getElem?_cons_succ, Sem.run_bind, und_run hT, und_run hT', hso, Result.andThen_ok, Sem.run_pure, if_true, hai, hw, hneg, if_false, hti, hbig, hp0, Nat.add_zero, Nat.le_refl, Nat.zero_mul, Bool.not_true, Bool.false_eq_true]
      · rw [hp0]
        exact ⟨_, _, r.newNil hF hd⟩
    · have hmax : ¬ ((p.toNat : Nat) : Int) > IntKind.i64.max := by
        have : IntKind.i64.max = 9223372036854775807 := by decide
        rw [this]; omega
      have hnc : ¬ (Builtin.nextslicecap p.toNat 0 * i.bytes > 2 ^ 48) := by
        have h1 := nextcap_le (need := p.toNat) (cap := 0) (by omega)
        have h2 : Builtin.nextslicecap p.toNat 0 * i.bytes ≤ (2 * 4294967296 + 192) * 4096 := Nat.mul_le_mul (by omega) hby
        have h3 : (2 * 4294967296 + 192) * 4096 ≤ 2 ^ 48 := by decide
        omega
      have hforced : (Question.appendCap p.toNat 0 e).forced = false := rfl
      have hroom : ¬ p.toNat ≤ 0 := by omega
      have hnz : ¬ p.toNat * sz = 0 := by
        have := Nat.mul_pos (show 0 < p.toNat by omega) hpos
        omega
      have hq : p.toNat ≤ (Question.appendCap p.toNat 0 e).cut (w.tape w.drawn (.appendCap p.toNat 0 e)) := by simp [Question.cut]
      refine fin (v := .slice (some ⟨w.heap.size, 0, none⟩) p.toNat ((Question.appendCap p.toNat 0 e).cut (w.tape w.drawn (.appendCap p.toNat 0 e))))
        (w' := w.drew.alloc (.cells (#[] ++ Builtin.zeroCells zv.cells p.toNat ++ Builtin.zeroCells zv.cells ((Question.appendCap p.toNat 0 e).cut (w.tape w.drawn (.appendCap p.toNat 0 e)) - p.toNat)) e)) ?_ hK ?_
      · rw [hvs, hvx]
        unfold Builtin.append_
        simp only [List.getElem?_toArray, List.getElem?_cons_zero, List.getElem?_cons_succ, Sem.run_bind, und_run hT, und_run hT', hso, Result.andThen_ok, Sem.run_pure, if_true, hai, hw, hneg, if_false, hti, hbig, Nat.zero_add, hroom, hmax, false_and, hnc, run_choose, hforced, Bool.false_eq_true,
          run_askRoom, World.drew_eq, Builtin.firstCells, hnz, hzv, newRow, run_newObj, World.alloc_eq, World.size_drew, Bool.not_true]
      · have key := new_arr (n := n) (d := o.dst) (T := e) (xs := List.replicate p.toNat z) (sz := sz) (drew_rel r) hF (hzero _ hq).drew (by simpa using hq) (by
          simp only [Array.size_append, zero_size, hzc]
          rw [← Nat.add_mul]; exact Nat.mul_le_mul_right _ (by omega)) hd
        simp only [List.length_replicate] at key
        rw [hzl]
        simp only [Array.empty_append]
        exact ⟨_, _, key⟩
  · exact h.elim

theorem bytes_all {bs : List Int} {cx : Array Value} (hs : cx.size = (bs.map fun b => AV.v (.int .u8 b)).length * 1) (hE : Elems w S 1 (bs.map fun b => AV.v (.int .u8 b)) cx 0) :
    cx = (bs.map fun b => Value.int .u8 b).toArray := by
  apply Array.ext
  · simpa using hs
  · intro i h1 h2
    have hi : i < bs.length := by simpa using h2
    obtain ⟨c, hc, hr⟩ := hE.cell i (.v (.int .u8 bs[i])) 0 (.v (.int .u8 bs[i])) (by simp [hi]) (by simp [AV.cells])
    simp only [Nat.zero_add, Nat.mul_one, Nat.add_zero] at hc
    rw [Array.getElem?_eq_getElem h1] at hc
    cases hr
    simp at hc ⊢
    exact hc

theorem bytes_run {ad : Addr} {l c : Nat} {bs : List Int} (h : (loadCells ad l).run P w = .ok (bs.map fun b => Value.int .u8 b).toArray w) :
    (Conv.bytesToString (.slice (some ad) l c)).run P w = .ok (.string (bstr bs)) w := by
  have loop : ∀ (f : Value → ByteArray → Sem (ForInStep ByteArray)), (∀ b s, f (.int .u8 b) s = pure (.yield (s.push (UInt8.ofNat b.toNat)))) →
      ∀ (ys : List Int) (s : ByteArray), (forIn (List.map (fun b => Value.int IntKind.u8 b) ys) s f).run P w = .ok ⟨s.data ++ (ys.map fun b => UInt8.ofNat b.toNat).toArray⟩ w := by
    intro f hf ys
    induction ys with
    | nil => intro s; cases s; simp
    | cons y ys ih =>
      intro s
      simp only [List.map_cons, List.forIn_cons, Sem.run_bind, hf, Sem.run_pure, Result.andThen_ok, ih]
      cases s with
      | mk d => simp [ByteArray.push]
  unfold Conv.bytesToString
  simp only [Sem.run_bind, h, Result.andThen_ok, List.forIn_toArray]
  rw [loop _ (fun _ _ => rfl)]
  simp [bstr, ByteArray.empty, ByteArray.emptyWithCapacity]
  rfl

theorem srcE_slice {x : AV} {v : Value} {sz : Nat} {G : List AV → Prop} (hR : R w S κ x v) (h : srcE sz m x G) : ∃ ad l c, v = .slice ad l c := by
  unfold srcE at h
  split at h
  · cases hR with
    | base hR => cases hR <;> exact ⟨_, _, _, rfl⟩
  · exact ⟨_, _, _, hR.v_inv⟩
  · cases hR with
    | base hR => cases hR
    | _ => exact ⟨_, _, _, rfl⟩
  · exact h.elim

theorem b2s_ok {T T' e : TypeId} {x : Operand} {x' : Opd} (ho : o.op = .convert T T' x) (hT : P.underlying T = some (.slice e)) (hT' : P.underlying T' = some .string)
    (he : P.underlying e = some (.int .u8)) (hx : cOpd x = some x')
    (hd : ∀ d, o.dst = some d → d < N) (r : Rel X N w S κ t m F a) (h : vop (.b2s x') t m n K) : o.wp P a w (Post K X N o.dst t m F n) Q := by
  simp only [vop] at h
  obtain ⟨ys, cx, ⟨bs, hy, hK⟩, hlen, hcx, hcs, hE⟩ := src_run (P := P) r.ent (ev_ok hx r) h
  subst hy
  have hcx' := bytes_all hcs hE
  refine wp_pure (v := .string (bstr bs)) ?_ r hd (.base (.v _)) hK
  have h1 := hcx w rfl
  have h2 := hlen w
  obtain ⟨ad, l, cp, hv⟩ := srcE_slice (ev_ok hx r) h
  rw [hv] at h1 h2
  simp only [Builtin.lenOf, Sem.run_pure, Result.ok.injEq, and_true] at h2
  have hrun : (Conv.bytesToString (.slice ad l cp)).run P w = .ok (.string (bstr bs)) w := by
    cases ad with
    | none =>
      simp only [Builtin.firstCells, Sem.run_pure, Result.ok.injEq, and_true] at h1
      have : bs = [] := by
        rw [hcx'] at h1
        cases bs with
        | nil => rfl
        | cons b bs => simp at h1
      subst this
      simp [Conv.bytesToString, bstr, ByteArray.empty, ByteArray.emptyWithCapacity]
      rfl
    | some ad =>
      simp only [Builtin.firstCells] at h1
      rw [← h2, Nat.mul_one, hcx'] at h1
      exact bytes_run h1
  simp [execOp, ho, hv, convert, und_run hT, und_run hT', und_run he, hrun]

theorem lookM_one {o o' : MObj} {k : Nat} (h : lookM (memOf [o]) k = some o') : k = 0 ∧ o' = o := by
  simp only [memOf, memFrom, lookM] at h
  split at h
  · rename_i hk; subst hk; simp at h; exact ⟨rfl, h.symm⟩
  · cases h

/-- what lies behind the end of a new slice is forgotten -/
theorem CallsA.trunc {f : FuncId} {args : List AV} {sz len : Nat} {xs : List AV} (h : CallsA P f args (.arr 0 0 len) [.arr sz xs]) (hl : len ≤ xs.length) : CallsA P f args (.arr 0 0 len) [.arr sz (xs.take len)] := by
  refine ⟨h.1, fun w S vals hS hL hR => (h.2 w S vals hS hL hR).mono ?_⟩
  rintro e w' ⟨v, S', κ', he, hr, hent, hs, ho, hb⟩
  have hm : lookM (memOf [MObj.arr sz xs]) 0 = some (.arr sz xs) := rfl
  obtain ⟨l, hk, hobj⟩ := hent.mm 0 _ hm
  refine ⟨v, S', upd κ' 0 { l with used := len }, he, ?_, ⟨?_, ?_, ?_, ?_, hent.sb⟩, hs, ?_, hb⟩
  · cases hr with
    | base h => cases h
    | arrNil hk' hn => rw [hk] at hk'; cases hk'; exact .arrNil (l := { l with used := 0 }) (by simp [upd]) hn
    | arr hk' hn h1 h2 h3 => rw [hk] at hk'; cases hk'; exact .arr (l := { l with used := len }) (by simp [upd]) hn h1 h2 (by simp)
    | arr0 hk' => exact .arr0 (l := { l with used := 0 }) (by simp [upd])
  · intro k o g
    obtain ⟨rfl, rfl⟩ := lookM_one g
    refine ⟨{ l with used := len }, by simp [upd], ?_⟩
    rcases hobj with ⟨h1, h2⟩ | ⟨h1, h2, h3, h4, vs, T, h5, h6, h7, h8⟩
    · exact .inl ⟨h1, by rw [h2]; simp⟩
    · have hget : ∀ (i : Nat) x, (xs.take len)[i]? = some x → xs[i]? = some x := fun i x hx => by
        rw [List.getElem?_take] at hx
        split at hx
        · exact hx
        · cases hx
      exact .inr ⟨h1, h2, by simp; omega, by simp; omega, vs, T, h5, h6, fun i x hx => h7 i x (hget i x hx), fun i x j y hx hy => h8 i x j y (hget i x hx) hy⟩
  · intro k k' o o' l1 l2 b g1 g2 _ _ _ _
    rw [(lookM_one g1).1, (lookM_one g2).1]
  · intro k o l1 b g1 g2 g3
    obtain ⟨rfl, rfl⟩ := lookM_one g1
    simp only [upd, if_true, Option.some.injEq] at g2
    subst g2
    exact hent.own 0 _ l b hm hk g3
  · intro k hk1
    have := hent.fresh k hk1
    have hk0 : k ≠ 0 := by simp at hk1; omega
    refine ⟨?_, by simp [upd, hk0]; exact this.2⟩
    simp [memOf, memFrom, lookM, Ne.symm hk0]
  · intro k o l1 b g1 g2 g3
    obtain ⟨rfl, rfl⟩ := lookM_one g1
    simp only [upd, if_true, Option.some.injEq] at g2
    subst g2
    exact ho 0 _ l b hm hk g3

end Go.Av
