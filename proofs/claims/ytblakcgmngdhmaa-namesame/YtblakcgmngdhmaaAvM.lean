/- Regions in the order of the text. -/
import Derived.Test.YtblakcgmngdhmaaAvPa
namespace Go.Av

variable {P : Program} {w w' : World} {S S' Sc : Nat → Prop} {κ κ' : Nat → Option Loc} {m : Mem} {n N : Nat} {F : Nat → Prop} {t : Tmps} {a : Act} {X : Ctx}
  {Q : Exit → Act → World → Prop}

structure MI where
  d : Option Nat
  op : MOp
  g : Option (Nat × Bool)

def vrun (P : Program) (d : Option Nat) (op : MOp) (K : Tmps → Mem → Nat → Prop) (t : Tmps) (m : Mem) (n : Nat) : Prop :=
  match op with
  | .call f args => CallVC P f (evs t args) m n fun x m' n' => K (putT d x t) m' n'
  | .callv g args => match ev t g with
    | .fn f caps => CallVC P f (evs t args ++ caps) m n fun x m' n' => K (putT d x t) m' n'
    | _ => False
  | op => vop op t m n fun x u => K (putT d x t) (u ++ m) (n + 1)

def vins (P : Program) (i : MI) (K : Tmps → Mem → Nat → Prop) (t : Tmps) (m : Mem) (n : Nat) : Prop :=
  match i with
  | ⟨d, op, none⟩ => vrun P d op K t m n
  | ⟨d, op, some (s, want)⟩ => match look t s with
    | .v (.bool b) => Split b want (vrun P d op K ((s, .v (.bool want)) :: t) m n) (K (putT d (.v undef) ((s, .v (.bool (!want))) :: t)) m (n + 1))
    | .v (.tuple _) => K (putT d (.v undef) t) m (n + 1)
    | _ => False

theorem look_same {t : Tmps} {s : Nat} {x : AV} (h : look t s = x) (i : Nat) : look ((s, x) :: t) i = look t i := by
  by_cases hs : s = i
  · subst hs; rw [look_cons_eq, h]
  · rw [look_cons_ne _ _ hs]

def vregs (P : Program) : List MI → (Tmps → Mem → Nat → Prop) → Tmps → Mem → Nat → Prop
  | [], K, t, m, n => K t m n
  | i :: r, K, t, m, n => vins P i (vregs P r K) t m n

def cGuard (N : Nat) (ops : Array Oper) : Option (Nat × Bool) → Option (Option (Nat × Bool))
  | none => some none
  | some (j, want) => match (ops[j]?).bind (·.dst) with
    | some s => if s < N then some (some (s, want)) else none
    | none => none

def dstOk (N : Nat) : Option Nat → Bool
  | none => true
  | some d => d < N

def isCall : MOp → Bool
  | .call _ _ => true
  | .callv _ _ => true
  | .callx _ _ => true
  | .cally _ _ _ => true
  | .callvx _ _ => true
  | _ => false

def hasT (d : Nat) (parts : Array (Nat × Operand)) : Bool := parts.toList.any fun p => match p.2 with
  | .tmp k => k == d
  | _ => false
/-- is what comes of it a part of another slice or struct that this region builds? -/
def innerD (ops : Array Oper) : Option Nat → Bool
  | none => false
  | some d => ops.toList.any fun q => match q.op with
    | .buildSlice _ _ parts => hasT d parts
    | .build _ parts => hasT d parts
    | _ => false

def isBs (ops : Array Oper) (k : Nat) : Bool := ops.toList.any fun q => match q.op with
  | .buildSlice _ _ _ => q.dst == some k
  | _ => false
/-- does it hold a slice that this region builds, or a struct with one? -/
def outerD (ops : Array Oper) (o : Oper) : Bool := match o.op with
  | .buildSlice _ _ parts => parts.toList.any fun p => match p.2 with
    | .tmp k => isBs ops k || ops.toList.any fun q => match q.op with
      | .build _ ps => q.dst == some k && ps.toList.any fun p => match p.2 with
        | .tmp j => isBs ops j
        | _ => false
      | _ => false
    | _ => false
  | _ => false

/-- a literal of slices: own ones that stand in it are only read from then on -/
def ownB (P : Program) (o : Oper) : Bool := match o.op with
  | .buildSlice T _ parts => (match P.underlying T with
    | some (.slice e) => (match P.underlying e with
      | some (.slice _) => parts.toList.any fun p => (match p.2 with
        | .tmp _ => true
        | _ => false)
      | _ => false)
    | _ => false)
  | _ => false

def cOpR (P : Program) (ops : Array Oper) (o : Oper) : Option MOp :=
  match cop P o with
  | some (.blds sz xs) => if innerD ops o.dst || outerD ops o then some (.bldr sz xs) else if ownB P o then some (.bldo sz xs) else some (.blds sz xs)
  | r => r

theorem evs_len (t : Tmps) (l : List Opd) : (evs t l).length = l.length := by
  induction l with
  | nil => rfl
  | cons x l ih => simp [evs, ih]

/-- an object that was just made is only read from now on -/
theorem Rel.ro1 {x : AV} {d : Option Nat} {o : MObj} (r : Rel X N w S κ (putT d x t) ((n, some o) :: m) F a) (hn : lookM m n = none) (hx : ∀ k ∈ kys x, k = n) :
    Rel X N w (fun b => S b ∨ blocksOf ((n, some o) :: m) κ [n] b) κ (putT d (frz [] ((n, some o) :: m) x) t) m F a := by
  have hlt : ∀ b, blocksOf ((n, some o) :: m) κ [n] b → b < w.heap.size := by
    rintro b ⟨k, o', l, hk, h1, h2, h3⟩
    exact (r.ent.own k o' l b h1 h2 h3).2
  have hne : ∀ k o', lookM m k = some o' → k ≠ n := fun k o' h e => by subst e; rw [hn] at h; cases h
  have hlk : ∀ k o', lookM m k = some o' → lookM ((n, some o) :: m) k = some o' := fun k o' h => by rw [lookM_cons_ne _ _ (Ne.symm (hne k o' h))]; exact h
  have hlp : ∀ (y : AV) (i : Nat), look (putT d y t) i = if d = some i then y else look t i := fun y i => by
    cases d with
    | none => simp [putT]
    | some d => by_cases h : d = i <;> simp [putT, look, h]
  refine ⟨r.size, r.defers, fun i => ?_, ⟨fun k o' h => ?_, fun k k' o1 o2 l1 l2 b h1 h2 => r.ent.inj k k' o1 o2 l1 l2 b (hlk _ _ h1) (hlk _ _ h2), fun k o' l b h hk hb => ⟨?_, (r.ent.own k o' l b (hlk _ _ h) hk hb).2⟩, fun k hk => ?_,
    r.ent.sb.mono (fun _ _ => rfl) (fun _ h => .inl h) (fun b hb => hb.elim (r.ent.sb.lt b) (hlt b))⟩, ?_⟩
  · have h := r.tm i
    rw [hlp] at h ⊢
    split
    · rename_i hdi
      rw [if_pos hdi] at h
      exact .base (frz_R0 r.ent h (fun k hk => by simp [hx k hk]))
    · rename_i hdi
      rw [if_neg hdi] at h
      exact h.mono (fun _ _ => rfl) (fun _ h => .inl h) (fun _ _ h => h)
  · exact (r.ent.mm k o' (hlk _ _ h)).mono (fun _ _ => rfl) (fun _ h => .inl h) (fun _ _ h => h) (fun _ _ _ _ => rfl)
  · rintro (hS | ⟨k2, o2, l2, hk2, h1, h2, h3⟩)
    · exact (r.ent.own k o' l b (hlk _ _ h) hk hb).1 hS
    · have : k2 = n := by simpa using hk2
      subst this
      exact hne k o' h (r.ent.inj k k2 o' o2 l l2 b (hlk _ _ h) h1 hk h2 hb h3)
  · have := r.ent.fresh k hk
    refine ⟨?_, this.2⟩
    by_cases hkn : k = n
    · subst hkn; exact hn
    · have h2 := this.1
      rwa [lookM_cons_ne _ _ (Ne.symm hkn)] at h2
  · refine ⟨fun k o' l b h hk hb => r.since.own k o' l b (hlk _ _ h) hk hb, ?_, r.since.os, r.since.tape, r.since.output, r.since.ge, r.since.keep, r.since.kp⟩
    rintro b (hS | ⟨k2, o2, l2, hk2, h1, h2, h3⟩)
    · exact r.since.s0 b hS
    · exact .inr (r.since.own k2 o2 l2 b h1 h2 h3)

/-- the objects of some keys are only read from now on -/
theorem Rel.frzK (ks : List Nat) (r : Rel X N w S κ t m F a) : Rel X N w (fun b => S b ∨ blocksOf m κ ks b) κ t (kills ks ++ m) F a := by
  have live : ∀ k o, lookM (kills ks ++ m) k = some o → k ∉ ks ∧ lookM m k = some o := fun k o h => by
    rw [lookM_kills] at h
    split at h
    · cases h
    · rename_i hk; exact ⟨hk, h⟩
  refine ⟨r.size, r.defers, fun i => (r.tm i).mono (fun _ _ => rfl) (fun _ h => .inl h) (fun _ _ h => h), ⟨fun k o h => ?_, fun k k' o o' l l' b h1 h2 => ?_, fun k o l b h1 h2 h3 => ?_, fun k hk => ?_, ?_⟩,
    ⟨fun k o l b h1 => ?_, fun b hb => ?_, r.since.os, r.since.tape, r.since.output, r.since.ge, r.since.keep, r.since.kp⟩⟩
  · exact (r.ent.mm k _ (live k o h).2).mono (fun _ _ => rfl) (fun _ h => .inl h) (fun _ _ h => h) (fun _ _ _ _ => rfl)
  · exact r.ent.inj k k' o o' l l' b (live _ _ h1).2 (live _ _ h2).2
  · obtain ⟨hk, g1⟩ := live k o h1
    obtain ⟨q1, q2⟩ := r.ent.own k o l b g1 h2 h3
    refine ⟨fun hb => ?_, q2⟩
    rcases hb with hb | ⟨k', o', l', p1, p2, p3, p4⟩
    · exact q1 hb
    · have := r.ent.inj k k' o o' l l' b g1 p2 h2 p3 h3 p4
      subst this
      exact hk p1
  · obtain ⟨h1, h2⟩ := r.ent.fresh k hk
    refine ⟨?_, h2⟩
    rw [lookM_kills, h1]; simp
  · refine r.ent.sb.mono (fun _ _ => rfl) (fun _ h => .inl h) (fun b hb => ?_)
    rcases hb with hb | ⟨k', o', l', p1, p2, p3, p4⟩
    · exact r.ent.sb.lt b hb
    · exact (r.ent.own k' o' l' b p2 p3 p4).2
  · exact r.since.own k o l b (live _ _ h1).2
  · rcases hb with hb | ⟨k', o', l', p1, p2, p3, p4⟩
    · exact r.since.s0 b hb
    · exact .inr (r.since.own k' o' l' b p2 p3 p4)

theorem op_okR {o : Oper} {mo : MOp} {ops : Array Oper} {K : AV → Mem → Prop} {F : Nat → Prop} (hc : cOpR P ops o = some mo) (hd : ∀ d, o.dst = some d → d < N) (r : Rel X N w S κ t m F a) (hF : F n) (h : vop mo t m n K) :
    o.wp P a w (Post K X N o.dst t m F n) Q := by
  unfold cOpR at hc
  split at hc
  · rename_i sz xs hb
    split at hc
    · simp only [Option.some.injEq] at hc
      subst hc
      simp only [vop] at h
      have hv : vop (.blds sz xs) t m n fun y u => y = .arr n 0 xs.length ∧ u = [(n, some (.arr sz (evs t xs)))] := ⟨h.1, rfl, rfl⟩
      refine Oper.wp_mono ?_ (op_ok hb hd r hF hv)
      rintro a' w' ⟨x, u, S', κ', ⟨rfl, rfl⟩, r'⟩
      have r1 : Rel X N w' S' κ' (putT o.dst (.arr n 0 xs.length) t) ((n, some (.arr sz (evs t xs))) :: m) (fun k => F k ∧ k ≠ n) a' := r'
      have r2 := Rel.ro1 (n := n) (m := m) r1 (r.ent.fresh n hF).1 (by simp [kys])
      have e : frz [] ((n, some (.arr sz (evs t xs))) :: m) (.arr n 0 xs.length) = .ro sz (evs t xs) := by
        simp only [frz, pos, lookM_cons_eq, List.drop_zero]
        rw [List.take_of_length_le (by rw [evs_len]; exact Nat.le_refl _)]
      rw [e] at r2
      exact ⟨.ro sz (evs t xs), [], _, κ', h.2, r2⟩
    · split at hc
      · rename_i hob
        simp only [Option.some.injEq] at hc
        subst hc
        unfold ownB at hob
        split at hob
        · rename_i T len parts ho
          unfold cop at hb
          rw [ho] at hb
          simp only at hb
          split at hb
          · rename_i e hT
            split at hb
            · rename_i sz' z he
              split at hb
              · rename_i hh
                simp only [Option.map_eq_some_iff] at hb
                obtain ⟨xs', hx, hxs⟩ := hb
                simp only [MOp.blds.injEq] at hxs
                obtain ⟨rfl, rfl⟩ := hxs
                simp only [vop] at h
                obtain ⟨h1, h2, h3⟩ := h
                have hev := evs_ok hx r
                have r1 := r.frzK (kysL (evs t xs'))
                have hlen : (frzL [] m (evs t xs')).length = xs'.length := by rw [frzL_length, evs_len]
                refine Oper.wp_mono ?_ (blds_core (K := fun x u => x = .arr n 0 xs'.length ∧ u = [(n, some (.arr sz' (frzL [] m (evs t xs'))))]) ho hT he hh.1 hh.2 ⟨by rw [frzL_length]; exact hev.1, fun q x v hq hv => ?_⟩ hd r1 hF h1 ⟨by rw [hlen], rfl⟩)
                · rintro a' w' ⟨x, u, S', κ', ⟨rfl, rfl⟩, r'⟩
                  exact ⟨_, _, S', κ', h3, r'⟩
                · rw [frzL_get, Option.map_eq_some_iff] at hq
                  obtain ⟨y, hy, rfl⟩ := hq
                  exact .base (frz_R0 r.ent (hev.2 q y v hy hv) (fun k hk => kysL_mem hy hk))
              · cases hb
            · cases hb
          · cases hb
        · cases hob
      · simp only [Option.some.injEq] at hc
        subst hc
        exact op_ok hb hd r hF h
  · exact op_ok hc hd r hF h

def cOp' (P : Program) (ops : Array Oper) (o : Oper) : Option MOp :=
  match cCall o with
  | some op => some op
  | none => match cOpR P ops o with
    | some op => if isCall op then none else some op
    | none => none

def cMI (P : Program) (N : Nat) (ops : Array Oper) (o : Oper) : Option MI :=
  match cOp' P ops o, cGuard N ops o.guard with
  | some op, some g => if dstOk N o.dst then some ⟨o.dst, op, g⟩ else none
  | _, _ => none

def cMIs (P : Program) (N : Nat) (ops : Array Oper) : List Oper → Option (List MI)
  | [] => some []
  | o :: r => match cMI P N ops o, cMIs P N ops r with
    | some i, some is => some (i :: is)
    | _, _ => none

def After (X : Ctx) (N : Nat) (K : Tmps → Mem → Nat → Prop) (a : Act) (w : World) : Prop :=
  ∃ t m n S κ, K t m n ∧ Rel X N w S κ t m (n ≤ ·) a

/-- an operation that is carried out -/
theorem run_ok {o : Oper} {op : MOp} {ops : Array Oper} {K : Tmps → Mem → Nat → Prop} (hc : cOp' P ops o = some op) (hd : ∀ d, o.dst = some d → d < N) (r : Rel X N w S κ t m (n ≤ ·) a)
    (h : vrun P o.dst op K t m n) : o.wp P a w (After X N K) Q := by
  unfold cOp' at hc
  split at hc
  · rename_i op' hcall
    simp at hc; subst hc
    unfold cCall at hcall
    split at hcall
    · rename_i f args _ ho
      simp only [Option.map_eq_some_iff] at hcall
      obtain ⟨xs, h1, rfl⟩ := hcall
      refine Oper.wp_mono ?_ (call_ok ho rfl h1 hd r h)
      rintro a' w' ⟨x, m', n', S', κ', h2, h3⟩
      exact ⟨_, m', n', S', κ', h2, h3⟩
    · rename_i g args _ ho
      simp only [Option.map_eq_some_iff] at hcall
      obtain ⟨xs, h1, rfl⟩ := hcall
      simp only [vrun] at h
      split at h
      · rename_i f caps e1
        refine Oper.wp_mono ?_ (callv_ok ho rfl h1 hd r e1 h)
        rintro a' w' ⟨x, m', n', S', κ', h2, h3⟩
        exact ⟨_, m', n', S', κ', h2, h3⟩
      · exact h.elim
    · cases hcall
  · split at hc
    · rename_i op' hop
      split at hc
      · cases hc
      · rename_i hnc
        simp at hc; subst hc
        have h' : vop op' t m n fun x u => K (putT o.dst x t) (u ++ m) (n + 1) := by
          cases op' <;> first | exact h | simp [isCall] at hnc
        refine Oper.wp_mono ?_ (op_okR hop hd r (Nat.le_refl n) h')
        rintro a' w' ⟨x, u, S', κ', h2, h3⟩
        refine ⟨_, _, _, S', κ', h2, h3.free fun k hk => ?_⟩
        have : n + 1 ≤ k := hk
        exact ⟨by show n ≤ k; omega, by omega⟩
    · cases hc

theorem bool_ne {b c : Bool} (h : ¬ b = c) : b = (!c) := by cases b <;> cases c <;> first | rfl | exact (h rfl).elim
theorem some_ne {b c : Bool} (h : ¬ b = c) : (some b == some c) = false := by cases b <;> cases c <;> first | rfl | exact (h rfl).elim

theorem getD_of_lt {l : Array Value} {i : Nat} (h : i < l.size) : l[i]? = some (l.getD i undef) := by
  simp [Array.getD_eq_getD_getElem?, h]

/-- an operation and its guard -/
theorem ins_ok {o : Oper} {i : MI} {ops : Array Oper} {K : Tmps → Mem → Nat → Prop} {K' : Act → World → Prop} (hc : cMI P N ops o = some i) (r : Rel X N w S κ t m (n ≤ ·) a)
    (h : vins P i K t m n) (hK : ∀ a w, After X N K a w → K' a w) :
    if Region.wanted o (yielded ops a.tmps) then o.wp P a w K' Q ∨ (o.asks P a w ∧ LetsOut Q) else K' (a.put o.dst undef) w := by
  unfold cMI at hc
  split at hc
  · rename_i op g hop hg
    split at hc
    · rename_i hdst
      simp at hc; subst hc
      have hd : ∀ d, o.dst = some d → d < N := fun d hd => by rw [hd] at hdst; simpa [dstOk] using hdst
      have skip : ∀ t2, (∀ i, look t2 i = look t i) → K (putT o.dst (.v undef) t2) m (n + 1) → K' (a.put o.dst undef) w := fun t2 ht2 hk => by
        refine hK _ _ ⟨_, m, n + 1, S, κ, hk, ((r.congr ht2 (fun _ => rfl)).put (.base (.v undef)) hd).free fun k hk => ?_⟩
        have : n + 1 ≤ k := hk
        show n ≤ k; omega
      have go : ∀ t2, (∀ i, look t2 i = look t i) → vrun P o.dst op K t2 m n → o.wp P a w K' Q ∨ (o.asks P a w ∧ LetsOut Q) := fun t2 ht2 hk => .inl (Oper.wp_mono hK (run_ok hop hd (r.congr ht2 (fun _ => rfl)) hk))
      cases hgd : o.guard with
      | none =>
        rw [hgd] at hg
        simp [cGuard] at hg; subst hg
        simp only [vins] at h
        simp only [Region.wanted, hgd, if_true]
        exact go t (fun _ => rfl) h
      | some jw =>
        obtain ⟨j, want⟩ := jw
        rw [hgd] at hg
        simp only [cGuard] at hg
        split at hg
        · rename_i s hs
          split at hg
          · rename_i hsN
            simp at hg; subst hg
            simp only [vins] at h
            have hR := r.tm s
            have hval : a.tmps[s]? = some (a.tmps.getD s undef) := getD_of_lt (by rw [r.size]; exact hsN)
            split at h
            · rename_i b e
              rw [e] at hR
              have hy : yielded ops a.tmps j = some b := by
                simp only [yielded, hs, Option.bind_some, hval, hR.v_inv]
              by_cases hb : b = want
              · simp only [Region.wanted, hgd, hy, hb, beq_self_eq_true, if_true]
                exact go _ (look_same (by rw [e, hb])) (h.1 hb)
              · have hb' : b = (!want) := bool_ne hb
                have hne : (some b == some want) = false := some_ne hb
                simp only [Region.wanted, hgd, hy, hne]
                exact skip _ (look_same (by rw [e, hb'])) (h.2 hb')
            · rename_i vs e
              rw [e] at hR
              have hy : yielded ops a.tmps j = none := by
                simp only [yielded, hs, Option.bind_some, hval, hR.v_inv]
              have hne : ((none : Option Bool) == some want) = false := rfl
              simp only [Region.wanted, hgd, hy, hne]
              exact skip t (fun _ => rfl) h
            · exact h.elim
          · cases hg
        · cases hg
    · cases hc
  · cases hc

/-- a region in the order of the text -/
theorem regs_ok {ops : Array Oper} {K : Tmps → Mem → Nat → Prop} (hQ : ∀ a w, After X N K a w → Q .normal a w) : ∀ (l : List Oper) (is : List MI) (k : Nat) (t : Tmps) (m : Mem) (n : Nat) (a : Act) (w : World) (S : Nat → Prop) (κ : Nat → Option Loc),
    (∀ j, l[j]? = ops[k + j]?) → cMIs P N ops l = some is → Rel X N w S κ t m (n ≤ ·) a → vregs P is K t m n → wpOps P ops Q (List.range' k l.length) a w := by
  intro l
  induction l with
  | nil =>
    intro is k t m n a w S κ _ hc r h
    simp [cMIs] at hc; subst hc
    exact hQ _ _ ⟨t, m, n, S, κ, h, r⟩
  | cons o l ih =>
    intro is k t m n a w S κ hl hc r h
    simp only [cMIs] at hc
    split at hc
    · rename_i i is' h1 h2
      simp at hc; subst hc
      have ho : ops[k]? = some o := by have := hl 0; simpa using this.symm
      simp only [List.length_cons, List.range'_succ, wpOps, ho]
      refine ins_ok h1 r h (fun a' w' => ?_)
      rintro ⟨t', m', n', S', κ', h3, h4⟩
      exact ih is' (k + 1) t' m' n' a' w' S' κ' (fun j => by have := hl (j + 1); simp at this; rw [this]; congr 1; omega) h2 h4 h3
    · cases hc

end Go.Av
/- Regions that draw their order: what each operation finds in the order of the text, it finds in every order. -/
namespace Go.Av

variable {P : Program} {w w' : World} {S S' Sc : Nat → Prop} {κ κ' : Nat → Option Loc} {m m' : Mem} {n N : Nat} {F : Nat → Prop} {t t' : Tmps} {a : Act} {X : Ctx}
  {Q : Exit → Act → World → Prop}

def gx (n : Nat) (rho : List Nat) (i : Nat) : Nat := (rho[i]?).getD n
def nones : List Nat → List (Option MObj)
  | [] => []
  | _ :: r => none :: nones r
def somes : List Nat → List (Option Nat)
  | [] => []
  | k :: r => some k :: somes r
def plainO : Option MObj → Bool
  | some (.arr _ _) => true
  | some (.map _) => true
  | some (.box cs) => kfs cs
  | _ => false

/-- the keys that an object leads to -/
def bk : Option MObj → List Nat
  | some (.box cs) => kysL cs
  | _ => []
def bks (m : Mem) : List Nat → List Nat
  | [] => []
  | k :: r => bk (lookM m k) ++ bks m r
/-- the keys that are led to, and those that they lead to -/
def rch (m : Mem) : Nat → List Nat → List Nat
  | 0, ks => ks
  | f + 1, ks => ks ++ rch m f (bks m ks)
/-- an object that leads to nothing but the objects rho -/
def shutO (rho : List Nat) : Option MObj → Bool
  | some (.arr _ _) => true
  | some (.map _) => true
  | some (.box cs) => (kysL cs).all fun q => rho.contains q
  | _ => false
/-- what is left as it was need not be told -/
def keepOk (m : Mem) (fl : List Nat) : Mem → Prop
  | [] => True
  | (k, v) :: r => (bif fl.contains k then lookM m k = v else True) ∧ keepOk m fl r
def filtM (fl : List Nat) : Mem → Mem
  | [] => []
  | (k, v) :: r => bif fl.contains k then filtM fl r else (k, v) :: filtM fl r

theorem bks_mem {m : Mem} {q : Nat} : ∀ {ks : List Nat}, q ∈ bks m ks ↔ ∃ k ∈ ks, q ∈ bk (lookM m k)
  | [] => by simp [bks]
  | k :: r => by simp [bks, bks_mem (ks := r)]
theorem rch_sub {m : Mem} : ∀ {f : Nat} {ks ks' : List Nat}, (∀ k ∈ ks, k ∈ ks') → ∀ k ∈ rch m f ks, k ∈ rch m f ks'
  | 0, _, _, h, k, hk => h k hk
  | f + 1, ks, ks', h, k, hk => by
    simp only [rch, List.mem_append] at hk ⊢
    refine hk.imp (h k) (rch_sub (fun q hq => ?_) k)
    obtain ⟨k0, h1, h2⟩ := bks_mem.1 hq
    exact bks_mem.2 ⟨k0, h k0 h1, h2⟩
theorem rch_self {m : Mem} {f : Nat} {ks : List Nat} {k : Nat} (h : k ∈ ks) : k ∈ rch m f ks := by
  cases f with
  | zero => exact h
  | succ f => simp only [rch, List.mem_append]; exact .inl h
/-- as far as memory is the same, the same keys are led to -/
theorem rch_more {m m' : Mem} : ∀ {f : Nat} {ks : List Nat}, (∀ k ∈ rch m f ks, ∀ o, lookM m k = some o → lookM m' k = some o) → ∀ k ∈ rch m f ks, k ∈ rch m' f ks
  | 0, _, _, k, hk => hk
  | f + 1, ks, hm, k, hk => by
    simp only [rch, List.mem_append] at hk hm ⊢
    have hsub : ∀ q ∈ bks m ks, q ∈ bks m' ks := fun q hq => by
      obtain ⟨k0, h1, h2⟩ := bks_mem.1 hq
      refine bks_mem.2 ⟨k0, h1, ?_⟩
      cases ho : lookM m k0 with
      | none => rw [ho] at h2; simp [bk] at h2
      | some o => rw [hm k0 (.inl h1) o ho, ← ho]; exact h2
    rcases hk with hk | hk
    · exact .inl hk
    · exact .inr (rch_sub hsub k (rch_more (fun q hq => hm q (.inr hq)) k hk))
theorem keepOk_nil {m : Mem} : ∀ u : Mem, keepOk m [] u
  | [] => trivial
  | (k, v) :: r => ⟨trivial, keepOk_nil r⟩
theorem filtM_nil : ∀ u : Mem, filtM [] u = u
  | [] => rfl
  | (k, v) :: r => by simp only [filtM, List.contains_nil, cond_false]; rw [filtM_nil r]
theorem filtM_mem {fl : List Nat} {p : Nat × Option MObj} : ∀ {u : Mem}, p ∈ filtM fl u → p ∈ u
  | [], h => by simp [filtM] at h
  | (k, v) :: r, h => by
    simp only [filtM] at h
    cases hb : fl.contains k with
    | true => rw [hb] at h; exact List.mem_cons_of_mem _ (filtM_mem h)
    | false =>
      rw [hb] at h
      rcases List.mem_cons.1 h with h | h
      · exact h ▸ List.mem_cons_self
      · exact List.mem_cons_of_mem _ (filtM_mem h)
theorem filtM_look {m : Mem} {fl : List Nat} {k : Nat} : ∀ {u : Mem}, keepOk m fl u → lookM (filtM fl u ++ m) k = lookM (u ++ m) k
  | [], _ => rfl
  | (k', v) :: r, h => by
    simp only [keepOk] at h
    have ih := filtM_look (k := k) h.2
    simp only [filtM]
    cases hb : fl.contains k' with
    | true =>
      rw [hb] at h
      simp only [cond_true] at h ⊢
      by_cases hk : k' = k
      · subst hk
        rw [List.cons_append, lookM_cons_eq]
        by_cases hin : ∃ p ∈ filtM fl r, p.1 = k'
        · exfalso
          obtain ⟨p, hp, hpk⟩ := hin
          have : ∀ {u : Mem}, p ∈ filtM fl u → fl.contains p.1 = false := fun {u} hp => by
            induction u with
            | nil => simp [filtM] at hp
            | cons e u ihu =>
              obtain ⟨q, w⟩ := e
              simp only [filtM] at hp
              cases hq : fl.contains q with
              | true => rw [hq] at hp; exact ihu hp
              | false =>
                rw [hq] at hp
                rcases List.mem_cons.1 hp with rfl | hp
                · exact hq
                · exact ihu hp
          rw [hpk] at this
          have := this hp
          rw [hb] at this; cases this
        · have : ∀ {u : Mem}, (¬ ∃ p ∈ u, p.1 = k') → lookM (u ++ m) k' = lookM m k' := fun {u} hu => by
            induction u with
            | nil => rfl
            | cons e u ihu =>
              obtain ⟨q, w⟩ := e
              rw [List.cons_append, lookM_cons_ne _ _ (fun hh => hu ⟨(q, w), by simp, hh⟩)]
              exact ihu (fun ⟨p, hp, hpk⟩ => hu ⟨p, by simp [hp], hpk⟩)
          rw [this hin, h.1]
      · rw [ih, List.cons_append, lookM_cons_ne _ _ hk]
    | false =>
      simp only [cond_false, List.cons_append]
      by_cases hk : k' = k
      · subst hk; rw [lookM_cons_eq, lookM_cons_eq]
      · rw [lookM_cons_ne _ _ hk, lookM_cons_ne _ _ hk, ih]

/-- a call in a region that draws its order: the objects rho are lent, and what they lead to is among them; at most one new one comes back -/
def CallXr (P : Program) (f : FuncId) (args : List AV) (m : Mem) (n : Nat) (rho : List Nat) (K : AV → Mem → Prop) : Prop :=
  ∃ (args' : List AV) (m0 : List MObj) (r : AV) (gv rm : List (Option MObj)) (fl : List Nat), (CallsM P f args' m0 r (gv ++ rm) ∧ gv.length = rho.length) ∧ lendOk [] rho m (somes rho) m0 ∧ rho.Nodup ∧ WnL [] (frzL rho m args) args' ∧
    (rho.all fun k => shutO rho (lookM m k)) = true ∧ (rho.all fun k => (rch m 3 (kysL args)).contains k) = true ∧ ((kysL args).all fun k => rho.contains k) = true ∧ rm.length ≤ 1 ∧
    (fl.all fun k => rho.contains k) = true ∧ keepOk m fl (outM (gx n rho) 0 (gv ++ rm)) ∧
    K (reG (gx n rho) r) (filtM fl (outM (gx n rho) 0 (gv ++ rm)))

theorem kfs_kys : ∀ {cs : List AV}, kfs cs = true → kysL cs = [] := by
  intro cs
  induction cs with
  | nil => intro _; rfl
  | cons c cs ih =>
    intro h
    simp only [kfs, Bool.and_eq_true] at h
    simp only [kysL, ih h.2, List.append_nil]
    cases c <;> simp_all [AV.kf, kys]
theorem plain_shut {rho : List Nat} {o : Option MObj} (h : plainO o = true) : shutO rho o = true := by
  cases o with
  | none => simp [plainO] at h
  | some o => cases o <;> simp_all [plainO, shutO, kfs_kys]
theorem plain_shuts {rho l : List Nat} {m : Mem} (h : (l.all fun k => plainO (lookM m k)) = true) : (l.all fun k => shutO rho (lookM m k)) = true := by
  rw [List.all_eq_true] at h ⊢
  exact fun k hk => plain_shut (h k hk)
theorem in_rch {m : Mem} {rho ks : List Nat} (h : (rho.all fun k => ks.contains k) = true) : (rho.all fun k => (rch m 3 ks).contains k) = true := by
  rw [List.all_eq_true] at h ⊢
  intro k hk
  have := h k hk
  rw [List.contains_eq_mem] at this ⊢
  simp only [decide_eq_true_eq] at this ⊢
  exact rch_self this

theorem nones_length (rho : List Nat) : (nones rho).length = rho.length := by
  induction rho with
  | nil => rfl
  | cons k rho ih => simp [nones, ih]

/-- a call in a region that draws its order: nothing that is handed on comes back -/
def CallD (P : Program) (f : FuncId) (args : List AV) (m : Mem) (n : Nat) (K : AV → Mem → Prop) : Prop :=
  (∃ r, CallsA P f (frzL [] m args) r [] ∧ (flat r = true ∨ kysL args = []) ∧ ((kysL args).all fun k => (lookM m k).isSome) = true ∧ K r []) ∨ CallXr P f args m n [] K

@[congr] theorem CallD_congr {f : FuncId} {args : List AV} {m : Mem} {n : Nat} {K : AV → Mem → Prop} {p : Prop} (_ : (True ∧ True) = p) : CallD P f args m n K = CallD P f args m n K := rfl

theorem callD {f : FuncId} {args args' : List AV} {r : AV} {K : AV → Mem → Prop} (h : CallsA P f args' r []) (ha : frzL [] m args = args') (hr : flat r = true ∨ kysL args = [])
    (hl : ((kysL args).all fun k => (lookM m k).isSome) = true) (hK : K r []) : CallD P f args m n K := .inl ⟨r, ha ▸ h, hr, hl, hK⟩

/-- one new object comes back -/
theorem callDn {f : FuncId} {args args' : List AV} {r : AV} {rm : List (Option MObj)} {K : AV → Mem → Prop} (h : CallsM P f args' [] r rm) (ha : WnL [] (frzL [] m args) args') (hk : kysL args = []) (h3 : rm.length ≤ 1)
    (hK : K (reG (gx n []) r) (outM (gx n []) 0 rm)) : CallD P f args m n K :=
  .inr ⟨args', [], r, [], rm, [], ⟨h, rfl⟩, rfl, List.nodup_nil, ha, rfl, rfl, by rw [hk]; rfl, h3, rfl, keepOk_nil _, by rw [filtM_nil]; exact hK⟩

/-- the keys of what is lent, and of at most two new objects -/
def gy (n e : Nat) (rho : List Nat) (i : Nat) : Nat := (rho[i]?).getD (if i = rho.length then n else e)
/-- a call that is lent the struct k0, whose last cells it leaves alone whatever they hold, and the objects rho -/
def CallXq (P : Program) (f : FuncId) (args : List AV) (m : Mem) (n e lim : Nat) (K : AV → Mem → Prop) : Prop :=
  ∃ (k0 : Nat) (rho : List Nat) (cs c0 c1 : List AV) (args' : List AV) (ms0 : List MObj) (r : AV) (g1 rm : List (Option MObj)) (fl : List Nat),
    ((∀ rest : List Value, rest.length + c0.length = cs.length → CallsM P f args' (.box (c0 ++ rest.map .v) :: ms0) r (some (.box (c1 ++ rest.map .v)) :: (g1 ++ rm))) ∧ g1.length = rho.length) ∧
    (lookM m k0 = some (.box cs) ∧ c0.length ≤ cs.length) ∧
    lendOk [] (k0 :: rho) ((k0, some (.box (cs.take c0.length))) :: m) (somes (k0 :: rho)) (.box c0 :: ms0) ∧ (k0 :: rho).Nodup ∧ WnL [] (frzL (k0 :: rho) m args) args' ∧
    ((kysL (cs.take c0.length)).all fun q => (k0 :: rho).contains q) = true ∧ (rho.all fun k => shutO (k0 :: rho) (lookM m k)) = true ∧
    ((k0 :: rho).all fun k => (rch m 3 (kysL args)).contains k) = true ∧ ((kysL args).all fun k => (k0 :: rho).contains k) = true ∧ rm.length ≤ lim ∧
    (fl.all fun k => rho.contains k) = true ∧ keepOk m fl (outM (gy n e (k0 :: rho)) 1 (g1 ++ rm)) ∧
    K (reG (gy n e (k0 :: rho)) r) ((k0, some (.box (reGL (gy n e (k0 :: rho)) c1 ++ cs.drop c0.length))) :: filtM fl (outM (gy n e (k0 :: rho)) 1 (g1 ++ rm)))

def CallX (P : Program) (f : FuncId) (args : List AV) (m : Mem) (n : Nat) (K : AV → Mem → Prop) : Prop := CallD P f args m n K ∨ (∃ rho, CallXr P f args m n rho K) ∨ CallXq P f args m n n 1 K
/-- the same, and two new objects may come back -/
def CallY (P : Program) (f : FuncId) (args : List AV) (m : Mem) (n e : Nat) (K : AV → Mem → Prop) : Prop := CallX P f args m n K ∨ CallXq P f args m n e 2 K
@[congr] theorem CallY_congr {f : FuncId} {args : List AV} {m : Mem} {n e : Nat} {K : AV → Mem → Prop} {p : Prop} (_ : (True ∧ True) = p) : CallY P f args m n e K = CallY P f args m n e K := rfl

@[congr] theorem CallX_congr {f : FuncId} {args : List AV} {m : Mem} {n : Nat} {K : AV → Mem → Prop} {p : Prop} (_ : (True ∧ True) = p) : CallX P f args m n K = CallX P f args m n K := rfl

theorem callX {f : FuncId} {args args' : List AV} {m0 : List MObj} {r : AV} {m1 : List (Option MObj)} {K : AV → Mem → Prop} (rho : List Nat) (rm : List (Option MObj)) (h : CallsM P f args' m0 r m1)
    (hm1 : m1 = nones rho ++ rm) (hl : lendOk [] rho m (somes rho) m0) (hnd : rho.Nodup) (ha : WnL [] (frzL rho m args) args') (hp : (rho.all fun k => plainO (lookM m k)) = true)
    (h1 : (rho.all fun k => (kysL args).contains k) = true) (h2 : ((kysL args).all fun k => rho.contains k) = true) (h3 : rm.length ≤ 1) (hK : K (reG (gx n rho) r) (outM (gx n rho) 0 (nones rho ++ rm))) : CallX P f args m n K :=
  .inr (.inl ⟨rho, args', m0, r, nones rho, rm, [], ⟨hm1 ▸ h, nones_length rho⟩, hl, hnd, ha, plain_shuts hp, in_rch h1, h2, h3, rfl, keepOk_nil _, by rw [filtM_nil]; exact hK⟩)

/-- the objects rho are lent, and come back as gv -/
theorem callXg {f : FuncId} {args args' : List AV} {m0 : List MObj} {r : AV} {m1 : List (Option MObj)} {K : AV → Mem → Prop} (rho : List Nat) (gv rm : List (Option MObj)) (h : CallsM P f args' m0 r m1)
    (hm1 : m1 = gv ++ rm) (hg : gv.length = rho.length) (hl : lendOk [] rho m (somes rho) m0) (hnd : rho.Nodup) (ha : WnL [] (frzL rho m args) args') (hp : (rho.all fun k => plainO (lookM m k)) = true)
    (h1 : (rho.all fun k => (kysL args).contains k) = true) (h2 : ((kysL args).all fun k => rho.contains k) = true) (h3 : rm.length ≤ 1) (hK : K (reG (gx n rho) r) (outM (gx n rho) 0 (gv ++ rm))) : CallX P f args m n K :=
  .inr (.inl ⟨rho, args', m0, r, gv, rm, [], ⟨hm1 ▸ h, hg⟩, hl, hnd, ha, plain_shuts hp, in_rch h1, h2, h3, rfl, keepOk_nil _, by rw [filtM_nil]; exact hK⟩)

/-- the objects rho are lent, with what they lead to, and come back as gv; those of fl come back as they were -/
theorem callXm {f : FuncId} {args args' : List AV} {m0 : List MObj} {r : AV} {m1 : List (Option MObj)} {K : AV → Mem → Prop} (rho fl : List Nat) (gv rm : List (Option MObj)) (h : CallsM P f args' m0 r m1)
    (hm1 : m1 = gv ++ rm) (hg : gv.length = rho.length) (hl : lendOk [] rho m (somes rho) m0) (hnd : rho.Nodup) (ha : WnL [] (frzL rho m args) args') (hp : (rho.all fun k => shutO rho (lookM m k)) = true)
    (h1 : (rho.all fun k => (rch m 3 (kysL args)).contains k) = true) (h2 : ((kysL args).all fun k => rho.contains k) = true) (h3 : rm.length ≤ 1) (hfl : (fl.all fun k => rho.contains k) = true)
    (hk : keepOk m fl (outM (gx n rho) 0 (gv ++ rm))) (hK : K (reG (gx n rho) r) (filtM fl (outM (gx n rho) 0 (gv ++ rm)))) : CallX P f args m n K :=
  .inr (.inl ⟨rho, args', m0, r, gv, rm, fl, ⟨hm1 ▸ h, hg⟩, hl, hnd, ha, hp, h1, h2, h3, hfl, hk, hK⟩)

theorem callXd {f : FuncId} {args args' : List AV} {r : AV} {K : AV → Mem → Prop} (h : CallsA P f args' r []) (ha : frzL [] m args = args') (hr : flat r = true ∨ kysL args = [])
    (hl : ((kysL args).all fun k => (lookM m k).isSome) = true) (hK : K r []) : CallX P f args m n K := .inl (callD h ha hr hl hK)
theorem callXn {f : FuncId} {args args' : List AV} {r : AV} {rm : List (Option MObj)} {K : AV → Mem → Prop} (h : CallsM P f args' [] r rm) (ha : WnL [] (frzL [] m args) args') (hk : kysL args = []) (h3 : rm.length ≤ 1)
    (hK : K (reG (gx n []) r) (outM (gx n []) 0 rm)) : CallX P f args m n K := .inl (callDn h ha hk h3 hK)

/-- the struct k0, all but the first cells of which are left alone, and the objects rho are lent -/
theorem callXp {f : FuncId} {args args' : List AV} {r : AV} {K : AV → Mem → Prop} (k0 : Nat) (rho fl : List Nat) {cs : List AV} (c0 c1 : List AV) (ms0 : List MObj) (g1 rm : List (Option MObj))
    (h : ∀ rest : List Value, rest.length + c0.length = cs.length → CallsM P f args' (.box (c0 ++ rest.map .v) :: ms0) r (some (.box (c1 ++ rest.map .v)) :: (g1 ++ rm)))
    (h0 : lookM m k0 = some (.box cs)) (hd : c0.length ≤ cs.length) (hg : g1.length = rho.length)
    (hl : lendOk [] (k0 :: rho) ((k0, some (.box (cs.take c0.length))) :: m) (somes (k0 :: rho)) (.box c0 :: ms0)) (hnd : (k0 :: rho).Nodup) (ha : WnL [] (frzL (k0 :: rho) m args) args')
    (hp0 : ((kysL (cs.take c0.length)).all fun q => (k0 :: rho).contains q) = true) (hp : (rho.all fun k => shutO (k0 :: rho) (lookM m k)) = true)
    (h1 : ((k0 :: rho).all fun k => (rch m 3 (kysL args)).contains k) = true) (h2 : ((kysL args).all fun k => (k0 :: rho).contains k) = true) (h3 : rm.length ≤ 1)
    (hfl : (fl.all fun k => rho.contains k) = true) (hk : keepOk m fl (outM (gy n n (k0 :: rho)) 1 (g1 ++ rm)))
    (hK : K (reG (gy n n (k0 :: rho)) r) ((k0, some (.box (reGL (gy n n (k0 :: rho)) c1 ++ cs.drop c0.length))) :: filtM fl (outM (gy n n (k0 :: rho)) 1 (g1 ++ rm)))) : CallX P f args m n K :=
  .inr (.inr ⟨k0, rho, cs, c0, c1, args', ms0, r, g1, rm, fl, ⟨h, hg⟩, ⟨h0, hd⟩, hl, hnd, ha, hp0, hp, h1, h2, h3, hfl, hk, hK⟩)
theorem callYp {f : FuncId} {args args' : List AV} {r : AV} {K : AV → Mem → Prop} {e : Nat} (k0 : Nat) (rho fl : List Nat) {cs : List AV} (c0 c1 : List AV) (ms0 : List MObj) (g1 rm : List (Option MObj))
    (h : ∀ rest : List Value, rest.length + c0.length = cs.length → CallsM P f args' (.box (c0 ++ rest.map .v) :: ms0) r (some (.box (c1 ++ rest.map .v)) :: (g1 ++ rm)))
    (h0 : lookM m k0 = some (.box cs)) (hd : c0.length ≤ cs.length) (hg : g1.length = rho.length)
    (hl : lendOk [] (k0 :: rho) ((k0, some (.box (cs.take c0.length))) :: m) (somes (k0 :: rho)) (.box c0 :: ms0)) (hnd : (k0 :: rho).Nodup) (ha : WnL [] (frzL (k0 :: rho) m args) args')
    (hp0 : ((kysL (cs.take c0.length)).all fun q => (k0 :: rho).contains q) = true) (hp : (rho.all fun k => shutO (k0 :: rho) (lookM m k)) = true)
    (h1 : ((k0 :: rho).all fun k => (rch m 3 (kysL args)).contains k) = true) (h2 : ((kysL args).all fun k => (k0 :: rho).contains k) = true) (h3 : rm.length ≤ 2)
    (hfl : (fl.all fun k => rho.contains k) = true) (hk : keepOk m fl (outM (gy n e (k0 :: rho)) 1 (g1 ++ rm)))
    (hK : K (reG (gy n e (k0 :: rho)) r) ((k0, some (.box (reGL (gy n e (k0 :: rho)) c1 ++ cs.drop c0.length))) :: filtM fl (outM (gy n e (k0 :: rho)) 1 (g1 ++ rm)))) : CallY P f args m n e K :=
  .inr ⟨k0, rho, cs, c0, c1, args', ms0, r, g1, rm, fl, ⟨h, hg⟩, ⟨h0, hd⟩, hl, hnd, ha, hp0, hp, h1, h2, h3, hfl, hk, hK⟩
theorem callYX {f : FuncId} {args : List AV} {K : AV → Mem → Prop} {e : Nat} (h : CallX P f args m n K) : CallY P f args m n e K := .inl h

/-- no row is taken out -/
def noMat (m : Mem) (x : AV) : Prop :=
  match x with
  | .elt k _ _ => match lookM m k with
    | some (.mat _ _) => False
    | some (.lent _ _ _ _) => False
    | _ => True
  | _ => True

def vrunD (P : Program) (op : MOp) (t : Tmps) (m : Mem) (n : Nat) (K : AV → Mem → Prop) : Prop :=
  match op with
  | .call f args => CallD P f (evs t args) m n K
  | .callv g args => match ev t g with
    | .fn f caps => CallD P f (evs t args ++ caps) m n K
    | _ => False
  | .callx f args => CallX P f (evs t args) m n K
  | .callvx g args => match ev t g with
    | .fn f caps => CallX P f (evs t args ++ caps) m n K
    | _ => False
  | .cally k f args => CallY P f (evs t args) m n (n + k) K
  | .next _ => False
  | .isnil ng x => nilSure (ev t x) ∧ vop (.isnil ng x) t m n K
  | .ld c x => noMat m (ev t x) ∧ vop (.ld c x) t m n K
  | op => vop op t m n K

def vinsD (P : Program) (i : MI) (K : AV → Mem → Prop) (t : Tmps) (m : Mem) (n : Nat) : Prop :=
  match i with
  | ⟨_, op, none⟩ => vrunD P op t m n K
  | ⟨_, op, some (s, want)⟩ => match look t s with
    | .v (.bool b) => Split b want (vrunD P op t m n K) (K (.v undef) [])
    | .v (.tuple _) => K (.v undef) []
    | _ => False

def vstepD (P : Program) (i : MI) (K : AV → Mem → Tmps → Prop) (t : Tmps) (m : Mem) (n : Nat) : Prop :=
  match i with
  | ⟨_, op, none⟩ => vrunD P op t m n fun x u => K x u t
  | ⟨_, op, some (s, want)⟩ => match look t s with
    | .v (.bool b) => Split b want (vrunD P op ((s, .v (.bool want)) :: t) m n fun x u => K x u ((s, .v (.bool want)) :: t))
        (K (.v undef) [] ((s, .v (.bool (!want))) :: t))
    | .v (.tuple _) => K (.v undef) [] t
    | _ => False

def vregsD (P : Program) : List MI → (Tmps → Mem → Nat → Prop) → Tmps → Mem → Nat → Prop
  | [], K, t, m, n => K t m n
  | i :: r, K, t, m, n => vstepD P i (fun x u t2 => vregsD P r K (putT i.d x t2) (u ++ m) (n + 1)) t m n

/-- what an operation looks at -/
def opnds : MOp → List Opd
  | .mov x => [x]
  | .pick c a b => [c, a, b]
  | .bin _ x y => [x, y]
  | .eqb _ x y => [x, y]
  | .not x => [x]
  | .neg x => [x]
  | .conv _ x => [x]
  | .new _ => []
  | .box x => [x]
  | .build _ ps => ps.map (·.2.2)
  | .ld _ a => [a]
  | .ldm a => [a]
  | .st _ a x => [a, x]
  | .faddr _ x => [x]
  | .fld _ _ x => [x]
  | .iaddr _ x i => [x, i]
  | .nchk x => [x]
  | .aaddr _ _ x i => [x, i]
  | .idx _ x i => [x, i]
  | .ext _ x => [x]
  | .len x => [x]
  | .mkfn _ l => l
  | .blds _ l => l
  | .bldo _ l => l
  | .bldr _ l => l
  | .mm _ x y => [x, y]
  | .app _ s x => [s, x]
  | .mks _ l c => [l, c]
  | .mkm _ l c => [l, c]
  | .mnew => []
  | .mget _ _ _ x i => [x, i]
  | .mset _ x i y => [x, i, y]
  | .mlen x => [x]
  | .mrng x => [x]
  | .next x => [x]
  | .entry x => [x]
  | .isnil _ x => [x]
  | .nilm _ x => [x]
  | .eqa _ _ x y => [x, y]
  | .cap x => [x]
  | .appz _ s x => [s, x]
  | .b2s x => [x]
  | .sget _ _ x i => [x, i]
  | .sset x i y => [x, i, y]
  | .aget _ _ _ x i => [x, i]
  | .aset _ x i y => [x, i, y]
  | .never => []
  | .slc _ x lo hi => x :: (lo.toList ++ hi.toList)
  | .call _ l => l
  | .callv g l => g :: l
  | .callx _ l => l
  | .callvx g l => g :: l
  | .cally _ _ l => l

mutual
def keysIn : AV → List Nat
  | .agg xs => keysInL xs
  | .tup xs => keysInL xs
  | .fn _ xs => keysInL xs
  | .arr k _ _ => [k]
  | .ptr k _ => [k]
  | .elt k _ _ => [k]
  | .mp k => [k]
  | _ => []
def keysInL : List AV → List Nat
  | [] => []
  | x :: r => keysIn x ++ keysInL r
end

theorem keysInL_mem {xs : List AV} {k : Nat} : k ∈ keysInL xs ↔ ∃ x ∈ xs, k ∈ keysIn x := by
  induction xs with
  | nil => simp [keysInL]
  | cons y xs ih => simp [keysInL, ih]

theorem kys_sub : (∀ x, ∀ k ∈ kys x, k ∈ keysIn x) ∧ (∀ xs, ∀ k ∈ kysL xs, k ∈ keysInL xs) := by
  have h1 : ∀ x, (∀ k ∈ kys x, k ∈ keysIn x) := by
    intro x
    refine AV.rec (motive_1 := fun x => ∀ k ∈ kys x, k ∈ keysIn x) (motive_2 := fun xs => ∀ k ∈ kysL xs, k ∈ keysInL xs) (motive_3 := fun _ => True) (motive_4 := fun _ => True)
      ?_ ?_ ?_ ?_ ?_ ?_ ?_ ?_ ?_ ?_ ?_ ?_ ?_ ?_ ?_ ?_ ?_ x
    all_goals (intros; first | trivial | simp_all [kys, kysL, keysIn, keysInL])
    rename_i h1 h2 k hk
    exact hk.imp (h1 k) (h2 k)
  refine ⟨h1, fun xs => ?_⟩
  induction xs with
  | nil => simp [kysL]
  | cons x xs ih =>
    intro k hk
    simp only [kysL, keysInL, List.mem_append] at hk ⊢
    exact hk.imp (h1 x k) (ih k)

/-- a key in a value that there is has a place -/
theorem keysIn_place {x : AV} {v : Value} (h : R w S κ x v) : ∀ k ∈ keysIn x, κ k ≠ none := by
  have aux0 : ∀ {x : AV} {v : Value}, R0 w S x v → keysIn x = [] := by
    intro x v h
    have aux : ∀ (xs : List AV) (vs : Array Value), xs.length = vs.size → (∀ (i : Nat) x y, xs[i]? = some x → vs[i]? = some y → keysIn x = []) → keysInL xs = [] := by
      intro xs vs hl ih
      apply List.eq_nil_iff_forall_not_mem.2
      intro k hk
      obtain ⟨x, hx, hk⟩ := keysInL_mem.1 hk
      obtain ⟨i, hi, rfl⟩ := List.getElem_of_mem hx
      rw [ih i _ vs[i] (by simp [hi]) (by simp [← hl, hi])] at hk
      simp at hk
    induction h with
    | agg hl _ ih => exact aux _ _ hl ih
    | tup hl _ ih => exact aux _ _ hl ih
    | fn hl _ ih => exact aux _ _ hl ih
    | _ => simp [keysIn]
  have aux : ∀ (xs : List AV) (vs : Array Value), xs.length = vs.size → (∀ (i : Nat) x y, xs[i]? = some x → vs[i]? = some y → ∀ k ∈ keysIn x, κ k ≠ none) → ∀ k ∈ keysInL xs, κ k ≠ none := by
    intro xs vs hl ih k hk
    obtain ⟨x, hx, hk⟩ := keysInL_mem.1 hk
    obtain ⟨i, hi, rfl⟩ := List.getElem_of_mem hx
    exact ih i _ vs[i] (by simp [hi]) (by simp [← hl, hi]) k hk
  induction h with
  | base h => rw [aux0 h]; simp
  | agg hl _ ih => exact aux _ _ hl ih
  | tup hl _ ih => exact aux _ _ hl ih
  | fn hl _ ih => exact aux _ _ hl ih
  | ptr hk => intro k h; simp [keysIn] at h; subst h; rw [hk]; simp
  | elt hk => intro k h; simp [keysIn] at h; subst h; rw [hk]; simp
  | arrNil hk => intro k h; simp [keysIn] at h; subst h; rw [hk]; simp
  | arr hk => intro k h; simp [keysIn] at h; subst h; rw [hk]; simp
  | arr0 hk => intro k h; simp [keysIn] at h; subst h; rw [hk]; simp
  | mp hk => intro k h; simp [keysIn] at h; subst h; rw [hk]; simp

theorem frz_congr {m m' : Mem} : (∀ x, (∀ k ∈ kys x, lookM m' k = lookM m k) → frz [] m' x = frz [] m x) ∧ (∀ xs, (∀ k ∈ kysL xs, lookM m' k = lookM m k) → frzL [] m' xs = frzL [] m xs) := by
  have h1 : ∀ x, (∀ k ∈ kys x, lookM m' k = lookM m k) → frz [] m' x = frz [] m x := by
    intro x
    refine AV.rec (motive_1 := fun x => (∀ k ∈ kys x, lookM m' k = lookM m k) → frz [] m' x = frz [] m x)
      (motive_2 := fun xs => (∀ k ∈ kysL xs, lookM m' k = lookM m k) → frzL [] m' xs = frzL [] m xs) (motive_3 := fun _ => True) (motive_4 := fun _ => True)
      ?_ ?_ ?_ ?_ ?_ ?_ ?_ ?_ ?_ ?_ ?_ ?_ ?_ ?_ ?_ ?_ ?_ x
    all_goals (intros; first | trivial | simp_all [kys, kysL, frz, frzL])
  refine ⟨h1, fun xs => ?_⟩
  induction xs with
  | nil => intro _; simp [frzL]
  | cons x xs ih =>
    intro h
    simp only [kysL, List.mem_append] at h
    simp only [frzL]
    rw [h1 x (fun k hk => h k (.inl hk)), ih (fun k hk => h k (.inr hk))]

end Go.Av
