/- Regions in the order of the text. -/
import Derived.Test.YtelcipdpfoipiaaAvCa
namespace Go.Av

variable {P : Program} {w w' : World} {S S' Sc : Nat → Prop} {κ κ' : Nat → Option Loc} {m : Mem} {n N : Nat} {F : Nat → Prop} {t : Tmps} {a : Act} {X : Ctx}
  {Q : Exit → Act → World → Prop}

structure MI where
  d : Option Nat
  op : MOp
  g : Option (Nat × Bool)

def vrun (P : Program) (d : Option Nat) (op : MOp) (K : Tmps → Mem → Nat → Prop) (t : Tmps) (m : Mem) (n : Nat) : Prop :=
  match op with
  | .call f args => CallVC P f (evs t args) m n fun x m' n' => K (putT d x t) m' n'
  | .callv g args => match ev t g with
    | .fn f caps => CallVC P f (evs t args ++ caps) m n fun x m' n' => K (putT d x t) m' n'
    | _ => False
  | op => vop op t m n fun x u => K (putT d x t) (u ++ m) (n + 1)

def vins (P : Program) (i : MI) (K : Tmps → Mem → Nat → Prop) (t : Tmps) (m : Mem) (n : Nat) : Prop :=
  match i with
  | ⟨d, op, none⟩ => vrun P d op K t m n
  | ⟨d, op, some (s, want)⟩ => match look t s with
    | .v (.bool b) => Split b want (vrun P d op K ((s, .v (.bool want)) :: t) m n) (K (putT d (.v undef) ((s, .v (.bool (!want))) :: t)) m (n + 1))
    | .v (.tuple _) => K (putT d (.v undef) t) m (n + 1)
    | _ => False

theorem look_same {t : Tmps} {s : Nat} {x : AV} (h : look t s = x) (i : Nat) : look ((s, x) :: t) i = look t i := by
  by_cases hs : s = i
  · subst hs; rw [look_cons_eq, h]
  · rw [look_cons_ne _ _ hs]

def vregs (P : Program) : List MI → (Tmps → Mem → Nat → Prop) → Tmps → Mem → Nat → Prop
  | [], K, t, m, n => K t m n
  | i :: r, K, t, m, n => vins P i (vregs P r K) t m n

def cGuard (N : Nat) (ops : Array Oper) : Option (Nat × Bool) → Option (Option (Nat × Bool))
  | none => some none
  | some (j, want) => match (ops[j]?).bind (·.dst) with
    | some s => if s < N then some (some (s, want)) else none
    | none => none

def dstOk (N : Nat) : Option Nat → Bool
  | none => true
  | some d => d < N

def isCall : MOp → Bool
  | .call _ _ => true
  | .callv _ _ => true
  | .callx _ _ => true
  | .callvx _ _ => true
  | _ => false

def hasT (d : Nat) (parts : Array (Nat × Operand)) : Bool := parts.toList.any fun p => match p.2 with
  | .tmp k => k == d
  | _ => false
/-- is what comes of it a part of another slice or struct that this region builds? -/
def innerD (ops : Array Oper) : Option Nat → Bool
  | none => false
  | some d => ops.toList.any fun q => match q.op with
    | .buildSlice _ _ parts => hasT d parts
    | .build _ parts => hasT d parts
    | _ => false

def isBs (ops : Array Oper) (k : Nat) : Bool := ops.toList.any fun q => match q.op with
  | .buildSlice _ _ _ => q.dst == some k
  | _ => false
/-- does it hold a slice that this region builds, or a struct with one? -/
def outerD (ops : Array Oper) (o : Oper) : Bool := match o.op with
  | .buildSlice _ _ parts => parts.toList.any fun p => match p.2 with
    | .tmp k => isBs ops k || ops.toList.any fun q => match q.op with
      | .build _ ps => q.dst == some k && ps.toList.any fun p => match p.2 with
        | .tmp j => isBs ops j
        | _ => false
      | _ => false
    | _ => false
  | _ => false

/-- a literal of slices: own ones that stand in it are only read from then on -/
def ownB (P : Program) (o : Oper) : Bool := match o.op with
  | .buildSlice T _ parts => (match P.underlying T with
    | some (.slice e) => (match P.underlying e with
      | some (.slice _) => parts.toList.any fun p => (match p.2 with
        | .tmp _ => true
        | _ => false)
      | _ => false)
    | _ => false)
  | _ => false

def cOpR (P : Program) (ops : Array Oper) (o : Oper) : Option MOp :=
  match cop P o with
  | some (.blds sz xs) => if innerD ops o.dst || outerD ops o then some (.bldr sz xs) else if ownB P o then some (.bldo sz xs) else some (.blds sz xs)
  | r => r

theorem evs_len (t : Tmps) (l : List Opd) : (evs t l).length = l.length := by
  induction l with
  | nil => rfl
  | cons x l ih => simp [evs, ih]

/-- an object that was just made is only read from now on -/
theorem Rel.ro1 {x : AV} {d : Option Nat} {o : MObj} (r : Rel X N w S κ (putT d x t) ((n, some o) :: m) F a) (hn : lookM m n = none) (hx : ∀ k ∈ kys x, k = n) :
    Rel X N w (fun b => S b ∨ blocksOf ((n, some o) :: m) κ [n] b) κ (putT d (frz [] ((n, some o) :: m) x) t) m F a := by
  have hlt : ∀ b, blocksOf ((n, some o) :: m) κ [n] b → b < w.heap.size := by
    rintro b ⟨k, o', l, hk, h1, h2, h3⟩
    exact (r.ent.own k o' l b h1 h2 h3).2
  have hne : ∀ k o', lookM m k = some o' → k ≠ n := fun k o' h e => by subst e; rw [hn] at h; cases h
  have hlk : ∀ k o', lookM m k = some o' → lookM ((n, some o) :: m) k = some o' := fun k o' h => by rw [lookM_cons_ne _ _ (Ne.symm (hne k o' h))]; exact h
  have hlp : ∀ (y : AV) (i : Nat), look (putT d y t) i = if d = some i then y else look t i := fun y i => by
    cases d with
    | none => simp [putT]
    | some d => by_cases h : d = i <;> simp [putT, look, h]
  refine ⟨r.size, r.defers, fun i => ?_, ⟨fun k o' h => ?_, fun k k' o1 o2 l1 l2 b h1 h2 => r.ent.inj k k' o1 o2 l1 l2 b (hlk _ _ h1) (hlk _ _ h2), fun k o' l b h hk hb => ⟨?_, (r.ent.own k o' l b (hlk _ _ h) hk hb).2⟩, fun k hk => ?_,
    r.ent.sb.mono (fun _ _ => rfl) (fun _ h => .inl h) (fun b hb => hb.elim (r.ent.sb.lt b) (hlt b))⟩, ?_⟩
  · have h := r.tm i
    rw [hlp] at h ⊢
    split
    · rename_i hdi
      rw [if_pos hdi] at h
      exact .base (frz_R0 r.ent h (fun k hk => by simp [hx k hk]))
    · rename_i hdi
      rw [if_neg hdi] at h
      exact h.mono (fun _ _ => rfl) (fun _ h => .inl h) (fun _ _ h => h)
  · exact (r.ent.mm k o' (hlk _ _ h)).mono (fun _ _ => rfl) (fun _ h => .inl h) (fun _ _ h => h) (fun _ _ _ _ => rfl)
  · rintro (hS | ⟨k2, o2, l2, hk2, h1, h2, h3⟩)
    · exact (r.ent.own k o' l b (hlk _ _ h) hk hb).1 hS
    · have : k2 = n := by simpa using hk2
      subst this
      exact hne k o' h (r.ent.inj k k2 o' o2 l l2 b (hlk _ _ h) h1 hk h2 hb h3)
  · have := r.ent.fresh k hk
    refine ⟨?_, this.2⟩
    by_cases hkn : k = n
    · subst hkn; exact hn
    · have h2 := this.1
      rwa [lookM_cons_ne _ _ (Ne.symm hkn)] at h2
  · refine ⟨fun k o' l b h hk hb => r.since.own k o' l b (hlk _ _ h) hk hb, ?_, r.since.os, r.since.tape, r.since.output, r.since.ge, r.since.keep, r.since.kp⟩
    rintro b (hS | ⟨k2, o2, l2, hk2, h1, h2, h3⟩)
    · exact r.since.s0 b hS
    · exact .inr (r.since.own k2 o2 l2 b h1 h2 h3)

/-- the objects of some keys are only read from now on -/
theorem Rel.frzK (ks : List Nat) (r : Rel X N w S κ t m F a) : Rel X N w (fun b => S b ∨ blocksOf m κ ks b) κ t (kills ks ++ m) F a := by
  have live : ∀ k o, lookM (kills ks ++ m) k = some o → k ∉ ks ∧ lookM m k = some o := fun k o h => by
    rw [lookM_kills] at h
    split at h
    · cases h
    · rename_i hk; exact ⟨hk, h⟩
  refine ⟨r.size, r.defers, fun i => (r.tm i).mono (fun _ _ => rfl) (fun _ h => .inl h) (fun _ _ h => h), ⟨fun k o h => ?_, fun k k' o o' l l' b h1 h2 => ?_, fun k o l b h1 h2 h3 => ?_, fun k hk => ?_, ?_⟩,
    ⟨fun k o l b h1 => ?_, fun b hb => ?_, r.since.os, r.since.tape, r.since.output, r.since.ge, r.since.keep, r.since.kp⟩⟩
  · exact (r.ent.mm k _ (live k o h).2).mono (fun _ _ => rfl) (fun _ h => .inl h) (fun _ _ h => h) (fun _ _ _ _ => rfl)
  · exact r.ent.inj k k' o o' l l' b (live _ _ h1).2 (live _ _ h2).2
  · obtain ⟨hk, g1⟩ := live k o h1
    obtain ⟨q1, q2⟩ := r.ent.own k o l b g1 h2 h3
    refine ⟨fun hb => ?_, q2⟩
    rcases hb with hb | ⟨k', o', l', p1, p2, p3, p4⟩
    · exact q1 hb
    · have := r.ent.inj k k' o o' l l' b g1 p2 h2 p3 h3 p4
      subst this
      exact hk p1
  · obtain ⟨h1, h2⟩ := r.ent.fresh k hk
    refine ⟨?_, h2⟩
    rw [lookM_kills, h1]; simp
  · refine r.ent.sb.mono (fun _ _ => rfl) (fun _ h => .inl h) (fun b hb => ?_)
    rcases hb with hb | ⟨k', o', l', p1, p2, p3, p4⟩
    · exact r.ent.sb.lt b hb
    · exact (r.ent.own k' o' l' b p2 p3 p4).2
  · exact r.since.own k o l b (live _ _ h1).2
  · rcases hb with hb | ⟨k', o', l', p1, p2, p3, p4⟩
    · exact r.since.s0 b hb
    · exact .inr (r.since.own k' o' l' b p2 p3 p4)

theorem op_okR {o : Oper} {mo : MOp} {ops : Array Oper} {K : AV → Mem → Prop} {F : Nat → Prop} (hc : cOpR P ops o = some mo) (hd : ∀ d, o.dst = some d → d < N) (r : Rel X N w S κ t m F a) (hF : F n) (h : vop mo t m n K) :
    o.wp P a w (Post K X N o.dst t m F n) Q := by
  unfold cOpR at hc
  split at hc
  · rename_i sz xs hb
    split at hc
    · simp only [Option.some.injEq] at hc
      subst hc
      simp only [vop] at h
      have hv : vop (.blds sz xs) t m n fun y u => y = .arr n 0 xs.length ∧ u = [(n, some (.arr sz (evs t xs)))] := ⟨h.1, rfl, rfl⟩
      refine Oper.wp_mono ?_ (op_ok hb hd r hF hv)
      rintro a' w' ⟨x, u, S', κ', ⟨rfl, rfl⟩, r'⟩
      have r1 : Rel X N w' S' κ' (putT o.dst (.arr n 0 xs.length) t) ((n, some (.arr sz (evs t xs))) :: m) (fun k => F k ∧ k ≠ n) a' := r'
      have r2 := Rel.ro1 (n := n) (m := m) r1 (r.ent.fresh n hF).1 (by simp [kys])
      have e : frz [] ((n, some (.arr sz (evs t xs))) :: m) (.arr n 0 xs.length) = .ro sz (evs t xs) := by
        simp only [frz, pos, lookM_cons_eq, List.drop_zero]
        rw [List.take_of_length_le (by rw [evs_len]; exact Nat.le_refl _)]
      rw [e] at r2
      exact ⟨.ro sz (evs t xs), [], _, κ', h.2, r2⟩
    · split at hc
      · rename_i hob
        simp only [Option.some.injEq] at hc
        subst hc
        unfold ownB at hob
        split at hob
        · rename_i T len parts ho
          unfold cop at hb
          rw [ho] at hb
          simp only at hb
          split at hb
          · rename_i e hT
            split at hb
            · rename_i sz' z he
              split at hb
              · rename_i hh
                simp only [Option.map_eq_some_iff] at hb
                obtain ⟨xs', hx, hxs⟩ := hb
                simp only [MOp.blds.injEq] at hxs
                obtain ⟨rfl, rfl⟩ := hxs
                simp only [vop] at h
                obtain ⟨h1, h2, h3⟩ := h
                have hev := evs_ok hx r
                have r1 := r.frzK (kysL (evs t xs'))
                have hlen : (frzL [] m (evs t xs')).length = xs'.length := by rw [frzL_length, evs_len]
                refine Oper.wp_mono ?_ (blds_core (K := fun x u => x = .arr n 0 xs'.length ∧ u = [(n, some (.arr sz' (frzL [] m (evs t xs'))))]) ho hT he hh.1 hh.2 ⟨by rw [frzL_length]; exact hev.1, fun q x v hq hv => ?_⟩ hd r1 hF h1 ⟨by rw [hlen], rfl⟩)
                · rintro a' w' ⟨x, u, S', κ', ⟨rfl, rfl⟩, r'⟩
                  exact ⟨_, _, S', κ', h3, r'⟩
                · rw [frzL_get, Option.map_eq_some_iff] at hq
                  obtain ⟨y, hy, rfl⟩ := hq
                  exact .base (frz_R0 r.ent (hev.2 q y v hy hv) (fun k hk => kysL_mem hy hk))
              · cases hb
            · cases hb
          · cases hb
        · cases hob
      · simp only [Option.some.injEq] at hc
        subst hc
        exact op_ok hb hd r hF h
  · exact op_ok hc hd r hF h

def cOp' (P : Program) (ops : Array Oper) (o : Oper) : Option MOp :=
  match cCall o with
  | some op => some op
  | none => match cOpR P ops o with
    | some op => if isCall op then none else some op
    | none => none

def cMI (P : Program) (N : Nat) (ops : Array Oper) (o : Oper) : Option MI :=
  match cOp' P ops o, cGuard N ops o.guard with
  | some op, some g => if dstOk N o.dst then some ⟨o.dst, op, g⟩ else none
  | _, _ => none

def cMIs (P : Program) (N : Nat) (ops : Array Oper) : List Oper → Option (List MI)
  | [] => some []
  | o :: r => match cMI P N ops o, cMIs P N ops r with
    | some i, some is => some (i :: is)
    | _, _ => none

def After (X : Ctx) (N : Nat) (K : Tmps → Mem → Nat → Prop) (a : Act) (w : World) : Prop :=
  ∃ t m n S κ, K t m n ∧ Rel X N w S κ t m (n ≤ ·) a

/-- an operation that is carried out -/
theorem run_ok {o : Oper} {op : MOp} {ops : Array Oper} {K : Tmps → Mem → Nat → Prop} (hc : cOp' P ops o = some op) (hd : ∀ d, o.dst = some d → d < N) (r : Rel X N w S κ t m (n ≤ ·) a)
    (h : vrun P o.dst op K t m n) : o.wp P a w (After X N K) Q := by
  unfold cOp' at hc
  split at hc
  · rename_i op' hcall
    simp at hc; subst hc
    unfold cCall at hcall
    split at hcall
    · rename_i f args _ ho
      simp only [Option.map_eq_some_iff] at hcall
      obtain ⟨xs, h1, rfl⟩ := hcall
      refine Oper.wp_mono ?_ (call_ok ho rfl h1 hd r h)
      rintro a' w' ⟨x, m', n', S', κ', h2, h3⟩
      exact ⟨_, m', n', S', κ', h2, h3⟩
    · rename_i g args _ ho
      simp only [Option.map_eq_some_iff] at hcall
      obtain ⟨xs, h1, rfl⟩ := hcall
      simp only [vrun] at h
      split at h
      · rename_i f caps e1
        refine Oper.wp_mono ?_ (callv_ok ho rfl h1 hd r e1 h)
        rintro a' w' ⟨x, m', n', S', κ', h2, h3⟩
        exact ⟨_, m', n', S', κ', h2, h3⟩
      · exact h.elim
    · cases hcall
  · split at hc
    · rename_i op' hop
      split at hc
      · cases hc
      · rename_i hnc
        simp at hc; subst hc
        have h' : vop op' t m n fun x u => K (putT o.dst x t) (u ++ m) (n + 1) := by
          cases op' <;> first | exact h | simp [isCall] at hnc
        refine Oper.wp_mono ?_ (op_okR hop hd r (Nat.le_refl n) h')
        rintro a' w' ⟨x, u, S', κ', h2, h3⟩
        refine ⟨_, _, _, S', κ', h2, h3.free fun k hk => ?_⟩
        have : n + 1 ≤ k := hk
        exact ⟨by show n ≤ k; omega, by omega⟩
    · cases hc

theorem bool_ne {b c : Bool} (h : ¬ b = c) : b = (!c) := by cases b <;> cases c <;> first | rfl | exact (h rfl).elim
theorem some_ne {b c : Bool} (h : ¬ b = c) : (some b == some c) = false := by cases b <;> cases c <;> first | rfl | exact (h rfl).elim

theorem getD_of_lt {l : Array Value} {i : Nat} (h : i < l.size) : l[i]? = some (l.getD i undef) := by
  simp [Array.getD_eq_getD_getElem?, h]

/-- an operation and its guard -/
theorem ins_ok {o : Oper} {i : MI} {ops : Array Oper} {K : Tmps → Mem → Nat → Prop} {K' : Act → World → Prop} (hc : cMI P N ops o = some i) (r : Rel X N w S κ t m (n ≤ ·) a)
    (h : vins P i K t m n) (hK : ∀ a w, After X N K a w → K' a w) :
    if Region.wanted o (yielded ops a.tmps) then o.wp P a w K' Q ∨ (o.asks P a w ∧ LetsOut Q) else K' (a.put o.dst undef) w := by
  unfold cMI at hc
  split at hc
  · rename_i op g hop hg
    split at hc
    · rename_i hdst
      simp at hc; subst hc
      have hd : ∀ d, o.dst = some d → d < N := fun d hd => by rw [hd] at hdst; simpa [dstOk] using hdst
      have skip : ∀ t2, (∀ i, look t2 i = look t i) → K (putT o.dst (.v undef) t2) m (n + 1) → K' (a.put o.dst undef) w := fun t2 ht2 hk => by
        refine hK _ _ ⟨_, m, n + 1, S, κ, hk, ((r.congr ht2 (fun _ => rfl)).put (.base (.v undef)) hd).free fun k hk => ?_⟩
        have : n + 1 ≤ k := hk
        show n ≤ k; omega
      have go : ∀ t2, (∀ i, look t2 i = look t i) → vrun P o.dst op K t2 m n → o.wp P a w K' Q ∨ (o.asks P a w ∧ LetsOut Q) := fun t2 ht2 hk => .inl (Oper.wp_mono hK (run_ok hop hd (r.congr ht2 (fun _ => rfl)) hk))
      cases hgd : o.guard with
      | none =>
        rw [hgd] at hg
        simp [cGuard] at hg; subst hg
        simp only [vins] at h
        simp only [Region.wanted, hgd, if_true]
        exact go t (fun _ => rfl) h
      | some jw =>
        obtain ⟨j, want⟩ := jw
        rw [hgd] at hg
        simp only [cGuard] at hg
        split at hg
        · rename_i s hs
          split at hg
          · rename_i hsN
            simp at hg; subst hg
            simp only [vins] at h
            have hR := r.tm s
            have hval : a.tmps[s]? = some (a.tmps.getD s undef) := getD_of_lt (by rw [r.size]; exact hsN)
            split at h
            · rename_i b e
              rw [e] at hR
              have hy : yielded ops a.tmps j = some b := by
                simp only [yielded, hs, Option.bind_some, hval, hR.v_inv]
              by_cases hb : b = want
              · simp only [Region.wanted, hgd, hy, hb, beq_self_eq_true, if_true]
                exact go _ (look_same (by rw [e, hb])) (h.1 hb)
              · have hb' : b = (!want) := bool_ne hb
                have hne : (some b == some want) = false := some_ne hb
                simp only [Region.wanted, hgd, hy, hne]
                exact skip _ (look_same (by rw [e, hb'])) (h.2 hb')
            · rename_i vs e
              rw [e] at hR
              have hy : yielded ops a.tmps j = none := by
                simp only [yielded, hs, Option.bind_some, hval, hR.v_inv]
              have hne : ((none : Option Bool) == some want) = false := rfl
              simp only [Region.wanted, hgd, hy, hne]
              exact skip t (fun _ => rfl) h
            · exact h.elim
          · cases hg
        · cases hg
    · cases hc
  · cases hc

/-- a region in the order of the text -/
theorem regs_ok {ops : Array Oper} {K : Tmps → Mem → Nat → Prop} (hQ : ∀ a w, After X N K a w → Q .normal a w) : ∀ (l : List Oper) (is : List MI) (k : Nat) (t : Tmps) (m : Mem) (n : Nat) (a : Act) (w : World) (S : Nat → Prop) (κ : Nat → Option Loc),
    (∀ j, l[j]? = ops[k + j]?) → cMIs P N ops l = some is → Rel X N w S κ t m (n ≤ ·) a → vregs P is K t m n → wpOps P ops Q (List.range' k l.length) a w := by
  intro l
  induction l with
  | nil =>
    intro is k t m n a w S κ _ hc r h
    simp [cMIs] at hc; subst hc
    exact hQ _ _ ⟨t, m, n, S, κ, h, r⟩
  | cons o l ih =>
    intro is k t m n a w S κ hl hc r h
    simp only [cMIs] at hc
    split at hc
    · rename_i i is' h1 h2
      simp at hc; subst hc
      have ho : ops[k]? = some o := by have := hl 0; simpa using this.symm
      simp only [List.length_cons, List.range'_succ, wpOps, ho]
      refine ins_ok h1 r h (fun a' w' => ?_)
      rintro ⟨t', m', n', S', κ', h3, h4⟩
      exact ih is' (k + 1) t' m' n' a' w' S' κ' (fun j => by have := hl (j + 1); simp at this; rw [this]; congr 1; omega) h2 h4 h3
    · cases hc

end Go.Av
