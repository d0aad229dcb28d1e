/- Regions that draw their order: what each operation finds in the order of the text, it finds in every order. -/
import Derived.Test.YtelcipdpfoipiaaAvL
namespace Go.Av

variable {P : Program} {w w' : World} {S S' Sc : Nat → Prop} {κ κ' : Nat → Option Loc} {m m' : Mem} {n N : Nat} {F : Nat → Prop} {t t' : Tmps} {a : Act} {X : Ctx}
  {Q : Exit → Act → World → Prop}

def gx (n : Nat) (rho : List Nat) (i : Nat) : Nat := (rho[i]?).getD n
def nones : List Nat → List (Option MObj)
  | [] => []
  | _ :: r => none :: nones r
def somes : List Nat → List (Option Nat)
  | [] => []
  | k :: r => some k :: somes r
def plainO : Option MObj → Bool
  | some (.arr _ _) => true
  | some (.map _) => true
  | some (.box cs) => kfs cs
  | _ => false

/-- the keys that an object leads to -/
def bk : Option MObj → List Nat
  | some (.box cs) => kysL cs
  | _ => []
def bks (m : Mem) : List Nat → List Nat
  | [] => []
  | k :: r => bk (lookM m k) ++ bks m r
/-- the keys that are led to, and those that they lead to -/
def rch (m : Mem) : Nat → List Nat → List Nat
  | 0, ks => ks
  | f + 1, ks => ks ++ rch m f (bks m ks)
/-- an object that leads to nothing but the objects rho -/
def shutO (rho : List Nat) : Option MObj → Bool
  | some (.arr _ _) => true
  | some (.map _) => true
  | some (.box cs) => (kysL cs).all fun q => rho.contains q
  | _ => false
/-- what is left as it was need not be told -/
def keepOk (m : Mem) (fl : List Nat) : Mem → Prop
  | [] => True
  | (k, v) :: r => (bif fl.contains k then lookM m k = v else True) ∧ keepOk m fl r
def filtM (fl : List Nat) : Mem → Mem
  | [] => []
  | (k, v) :: r => bif fl.contains k then filtM fl r else (k, v) :: filtM fl r

theorem bks_mem {m : Mem} {q : Nat} : ∀ {ks : List Nat}, q ∈ bks m ks ↔ ∃ k ∈ ks, q ∈ bk (lookM m k)
  | [] => by simp [bks]
  | k :: r => by simp [bks, bks_mem (ks := r)]
theorem rch_sub {m : Mem} : ∀ {f : Nat} {ks ks' : List Nat}, (∀ k ∈ ks, k ∈ ks') → ∀ k ∈ rch m f ks, k ∈ rch m f ks'
  | 0, _, _, h, k, hk => h k hk
  | f + 1, ks, ks', h, k, hk => by
    simp only [rch, List.mem_append] at hk ⊢
    refine hk.imp (h k) (rch_sub (fun q hq => ?_) k)
    obtain ⟨k0, h1, h2⟩ := bks_mem.1 hq
    exact bks_mem.2 ⟨k0, h k0 h1, h2⟩
theorem rch_self {m : Mem} {f : Nat} {ks : List Nat} {k : Nat} (h : k ∈ ks) : k ∈ rch m f ks := by
  cases f with
  | zero => exact h
  | succ f => simp only [rch, List.mem_append]; exact .inl h
/-- as far as memory is the same, the same keys are led to -/
theorem rch_more {m m' : Mem} : ∀ {f : Nat} {ks : List Nat}, (∀ k ∈ rch m f ks, ∀ o, lookM m k = some o → lookM m' k = some o) → ∀ k ∈ rch m f ks, k ∈ rch m' f ks
  | 0, _, _, k, hk => hk
  | f + 1, ks, hm, k, hk => by
    simp only [rch, List.mem_append] at hk hm ⊢
    have hsub : ∀ q ∈ bks m ks, q ∈ bks m' ks := fun q hq => by
      obtain ⟨k0, h1, h2⟩ := bks_mem.1 hq
      refine bks_mem.2 ⟨k0, h1, ?_⟩
      cases ho : lookM m k0 with
      | none => rw [ho] at h2; simp [bk] at h2
      | some o => rw [hm k0 (.inl h1) o ho, ← ho]; exact h2
    rcases hk with hk | hk
    · exact .inl hk
    · exact .inr (rch_sub hsub k (rch_more (fun q hq => hm q (.inr hq)) k hk))
theorem keepOk_nil {m : Mem} : ∀ u : Mem, keepOk m [] u
  | [] => trivial
  | (k, v) :: r => ⟨trivial, keepOk_nil r⟩
theorem filtM_nil : ∀ u : Mem, filtM [] u = u
  | [] => rfl
  | (k, v) :: r => by simp only [filtM, List.contains_nil, cond_false]; rw [filtM_nil r]
theorem filtM_mem {fl : List Nat} {p : Nat × Option MObj} : ∀ {u : Mem}, p ∈ filtM fl u → p ∈ u
  | [], h => by simp [filtM] at h
  | (k, v) :: r, h => by
    simp only [filtM] at h
    cases hb : fl.contains k with
    | true => rw [hb] at h; exact List.mem_cons_of_mem _ (filtM_mem h)
    | false =>
      rw [hb] at h
      rcases List.mem_cons.1 h with h | h
      · exact h ▸ List.mem_cons_self
      · exact List.mem_cons_of_mem _ (filtM_mem h)
theorem filtM_look {m : Mem} {fl : List Nat} {k : Nat} : ∀ {u : Mem}, keepOk m fl u → lookM (filtM fl u ++ m) k = lookM (u ++ m) k
  | [], _ => rfl
  | (k', v) :: r, h => by
    simp only [keepOk] at h
    have ih := filtM_look (k := k) h.2
    simp only [filtM]
    cases hb : fl.contains k' with
    | true =>
      rw [hb] at h
      simp only [cond_true] at h ⊢
      by_cases hk : k' = k
      · subst hk
        rw [List.cons_append, lookM_cons_eq]
        by_cases hin : ∃ p ∈ filtM fl r, p.1 = k'
        · exfalso
          obtain ⟨p, hp, hpk⟩ := hin
          have : ∀ {u : Mem}, p ∈ filtM fl u → fl.contains p.1 = false := fun {u} hp => by
            induction u with
            | nil => simp [filtM] at hp
            | cons e u ihu =>
              obtain ⟨q, w⟩ := e
              simp only [filtM] at hp
              cases hq : fl.contains q with
              | true => rw [hq] at hp; exact ihu hp
              | false =>
                rw [hq] at hp
                rcases List.mem_cons.1 hp with rfl | hp
                · exact hq
                · exact ihu hp
          rw [hpk] at this
          have := this hp
          rw [hb] at this; cases this
        · have : ∀ {u : Mem}, (¬ ∃ p ∈ u, p.1 = k') → lookM (u ++ m) k' = lookM m k' := fun {u} hu => by
            induction u with
            | nil => rfl
            | cons e u ihu =>
              obtain ⟨q, w⟩ := e
              rw [List.cons_append, lookM_cons_ne _ _ (fun hh => hu ⟨(q, w), by simp, hh⟩)]
              exact ihu (fun ⟨p, hp, hpk⟩ => hu ⟨p, by simp [hp], hpk⟩)
          rw [this hin, h.1]
      · rw [ih, List.cons_append, lookM_cons_ne _ _ hk]
    | false =>
      simp only [cond_false, List.cons_append]
      by_cases hk : k' = k
      · subst hk; rw [lookM_cons_eq, lookM_cons_eq]
      · rw [lookM_cons_ne _ _ hk, lookM_cons_ne _ _ hk, ih]

/-- a call in a region that draws its order: the objects rho are lent, and what they lead to is among them; at most one new one comes back -/
def CallXr (P : Program) (f : FuncId) (args : List AV) (m : Mem) (n : Nat) (rho : List Nat) (K : AV → Mem → Prop) : Prop :=
  ∃ (args' : List AV) (m0 : List MObj) (r : AV) (gv rm : List (Option MObj)) (fl : List Nat), (CallsM P f args' m0 r (gv ++ rm) ∧ gv.length = rho.length) ∧ lendOk [] rho m (somes rho) m0 ∧ rho.Nodup ∧ WnL [] (frzL rho m args) args' ∧
    (rho.all fun k => shutO rho (lookM m k)) = true ∧ (rho.all fun k => (rch m 3 (kysL args)).contains k) = true ∧ ((kysL args).all fun k => rho.contains k) = true ∧ rm.length ≤ 1 ∧
    (fl.all fun k => rho.contains k) = true ∧ keepOk m fl (outM (gx n rho) 0 (gv ++ rm)) ∧
    K (reG (gx n rho) r) (filtM fl (outM (gx n rho) 0 (gv ++ rm)))

theorem kfs_kys : ∀ {cs : List AV}, kfs cs = true → kysL cs = [] := by
  intro cs
  induction cs with
  | nil => intro _; rfl
  | cons c cs ih =>
    intro h
    simp only [kfs, Bool.and_eq_true] at h
    simp only [kysL, ih h.2, List.append_nil]
    cases c <;> simp_all [AV.kf, kys]
theorem plain_shut {rho : List Nat} {o : Option MObj} (h : plainO o = true) : shutO rho o = true := by
  cases o with
  | none => simp [plainO] at h
  | some o => cases o <;> simp_all [plainO, shutO, kfs_kys]
theorem plain_shuts {rho l : List Nat} {m : Mem} (h : (l.all fun k => plainO (lookM m k)) = true) : (l.all fun k => shutO rho (lookM m k)) = true := by
  rw [List.all_eq_true] at h ⊢
  exact fun k hk => plain_shut (h k hk)
theorem in_rch {m : Mem} {rho ks : List Nat} (h : (rho.all fun k => ks.contains k) = true) : (rho.all fun k => (rch m 3 ks).contains k) = true := by
  rw [List.all_eq_true] at h ⊢
  intro k hk
  have := h k hk
  rw [List.contains_eq_mem] at this ⊢
  simp only [decide_eq_true_eq] at this ⊢
  exact rch_self this

theorem nones_length (rho : List Nat) : (nones rho).length = rho.length := by
  induction rho with
  | nil => rfl
  | cons k rho ih => simp [nones, ih]

/-- a call in a region that draws its order: nothing that is handed on comes back -/
def CallD (P : Program) (f : FuncId) (args : List AV) (m : Mem) (n : Nat) (K : AV → Mem → Prop) : Prop :=
  (∃ r, CallsA P f (frzL [] m args) r [] ∧ (flat r = true ∨ kysL args = []) ∧ ((kysL args).all fun k => (lookM m k).isSome) = true ∧ K r []) ∨ CallXr P f args m n [] K

@[congr] theorem CallD_congr {f : FuncId} {args : List AV} {m : Mem} {n : Nat} {K : AV → Mem → Prop} {p : Prop} (_ : (True ∧ True) = p) : CallD P f args m n K = CallD P f args m n K := rfl

theorem callD {f : FuncId} {args args' : List AV} {r : AV} {K : AV → Mem → Prop} (h : CallsA P f args' r []) (ha : frzL [] m args = args') (hr : flat r = true ∨ kysL args = [])
    (hl : ((kysL args).all fun k => (lookM m k).isSome) = true) (hK : K r []) : CallD P f args m n K := .inl ⟨r, ha ▸ h, hr, hl, hK⟩

/-- one new object comes back -/
theorem callDn {f : FuncId} {args args' : List AV} {r : AV} {rm : List (Option MObj)} {K : AV → Mem → Prop} (h : CallsM P f args' [] r rm) (ha : WnL [] (frzL [] m args) args') (hk : kysL args = []) (h3 : rm.length ≤ 1)
    (hK : K (reG (gx n []) r) (outM (gx n []) 0 rm)) : CallD P f args m n K :=
  .inr ⟨args', [], r, [], rm, [], ⟨h, rfl⟩, rfl, List.nodup_nil, ha, rfl, rfl, by rw [hk]; rfl, h3, rfl, keepOk_nil _, by rw [filtM_nil]; exact hK⟩

def CallX (P : Program) (f : FuncId) (args : List AV) (m : Mem) (n : Nat) (K : AV → Mem → Prop) : Prop := CallD P f args m n K ∨ ∃ rho, CallXr P f args m n rho K

@[congr] theorem CallX_congr {f : FuncId} {args : List AV} {m : Mem} {n : Nat} {K : AV → Mem → Prop} {p : Prop} (_ : (True ∧ True) = p) : CallX P f args m n K = CallX P f args m n K := rfl

theorem callX {f : FuncId} {args args' : List AV} {m0 : List MObj} {r : AV} {m1 : List (Option MObj)} {K : AV → Mem → Prop} (rho : List Nat) (rm : List (Option MObj)) (h : CallsM P f args' m0 r m1)
    (hm1 : m1 = nones rho ++ rm) (hl : lendOk [] rho m (somes rho) m0) (hnd : rho.Nodup) (ha : WnL [] (frzL rho m args) args') (hp : (rho.all fun k => plainO (lookM m k)) = true)
    (h1 : (rho.all fun k => (kysL args).contains k) = true) (h2 : ((kysL args).all fun k => rho.contains k) = true) (h3 : rm.length ≤ 1) (hK : K (reG (gx n rho) r) (outM (gx n rho) 0 (nones rho ++ rm))) : CallX P f args m n K :=
  .inr ⟨rho, args', m0, r, nones rho, rm, [], ⟨hm1 ▸ h, nones_length rho⟩, hl, hnd, ha, plain_shuts hp, in_rch h1, h2, h3, rfl, keepOk_nil _, by rw [filtM_nil]; exact hK⟩

/-- the objects rho are lent, and come back as gv -/
theorem callXg {f : FuncId} {args args' : List AV} {m0 : List MObj} {r : AV} {m1 : List (Option MObj)} {K : AV → Mem → Prop} (rho : List Nat) (gv rm : List (Option MObj)) (h : CallsM P f args' m0 r m1)
    (hm1 : m1 = gv ++ rm) (hg : gv.length = rho.length) (hl : lendOk [] rho m (somes rho) m0) (hnd : rho.Nodup) (ha : WnL [] (frzL rho m args) args') (hp : (rho.all fun k => plainO (lookM m k)) = true)
    (h1 : (rho.all fun k => (kysL args).contains k) = true) (h2 : ((kysL args).all fun k => rho.contains k) = true) (h3 : rm.length ≤ 1) (hK : K (reG (gx n rho) r) (outM (gx n rho) 0 (gv ++ rm))) : CallX P f args m n K :=
  .inr ⟨rho, args', m0, r, gv, rm, [], ⟨hm1 ▸ h, hg⟩, hl, hnd, ha, plain_shuts hp, in_rch h1, h2, h3, rfl, keepOk_nil _, by rw [filtM_nil]; exact hK⟩

/-- the objects rho are lent, with what they lead to, and come back as gv; those of fl come back as they were -/
theorem callXm {f : FuncId} {args args' : List AV} {m0 : List MObj} {r : AV} {m1 : List (Option MObj)} {K : AV → Mem → Prop} (rho fl : List Nat) (gv rm : List (Option MObj)) (h : CallsM P f args' m0 r m1)
    (hm1 : m1 = gv ++ rm) (hg : gv.length = rho.length) (hl : lendOk [] rho m (somes rho) m0) (hnd : rho.Nodup) (ha : WnL [] (frzL rho m args) args') (hp : (rho.all fun k => shutO rho (lookM m k)) = true)
    (h1 : (rho.all fun k => (rch m 3 (kysL args)).contains k) = true) (h2 : ((kysL args).all fun k => rho.contains k) = true) (h3 : rm.length ≤ 1) (hfl : (fl.all fun k => rho.contains k) = true)
    (hk : keepOk m fl (outM (gx n rho) 0 (gv ++ rm))) (hK : K (reG (gx n rho) r) (filtM fl (outM (gx n rho) 0 (gv ++ rm)))) : CallX P f args m n K :=
  .inr ⟨rho, args', m0, r, gv, rm, fl, ⟨hm1 ▸ h, hg⟩, hl, hnd, ha, hp, h1, h2, h3, hfl, hk, hK⟩

theorem callXd {f : FuncId} {args args' : List AV} {r : AV} {K : AV → Mem → Prop} (h : CallsA P f args' r []) (ha : frzL [] m args = args') (hr : flat r = true ∨ kysL args = [])
    (hl : ((kysL args).all fun k => (lookM m k).isSome) = true) (hK : K r []) : CallX P f args m n K := .inl (callD h ha hr hl hK)
theorem callXn {f : FuncId} {args args' : List AV} {r : AV} {rm : List (Option MObj)} {K : AV → Mem → Prop} (h : CallsM P f args' [] r rm) (ha : WnL [] (frzL [] m args) args') (hk : kysL args = []) (h3 : rm.length ≤ 1)
    (hK : K (reG (gx n []) r) (outM (gx n []) 0 rm)) : CallX P f args m n K := .inl (callDn h ha hk h3 hK)

/-- no row is taken out -/
def noMat (m : Mem) (x : AV) : Prop :=
  match x with
  | .elt k _ _ => match lookM m k with
    | some (.mat _ _) => False
    | some (.lent _ _ _ _) => False
    | _ => True
  | _ => True

def vrunD (P : Program) (op : MOp) (t : Tmps) (m : Mem) (n : Nat) (K : AV → Mem → Prop) : Prop :=
  match op with
  | .call f args => CallD P f (evs t args) m n K
  | .callv g args => match ev t g with
    | .fn f caps => CallD P f (evs t args ++ caps) m n K
    | _ => False
  | .callx f args => CallX P f (evs t args) m n K
  | .callvx g args => match ev t g with
    | .fn f caps => CallX P f (evs t args ++ caps) m n K
    | _ => False
  | .next _ => False
  | .isnil ng x => nilSure (ev t x) ∧ vop (.isnil ng x) t m n K
  | .ld c x => noMat m (ev t x) ∧ vop (.ld c x) t m n K
  | op => vop op t m n K

def vinsD (P : Program) (i : MI) (K : AV → Mem → Prop) (t : Tmps) (m : Mem) (n : Nat) : Prop :=
  match i with
  | ⟨_, op, none⟩ => vrunD P op t m n K
  | ⟨_, op, some (s, want)⟩ => match look t s with
    | .v (.bool b) => Split b want (vrunD P op t m n K) (K (.v undef) [])
    | .v (.tuple _) => K (.v undef) []
    | _ => False

def vstepD (P : Program) (i : MI) (K : AV → Mem → Tmps → Prop) (t : Tmps) (m : Mem) (n : Nat) : Prop :=
  match i with
  | ⟨_, op, none⟩ => vrunD P op t m n fun x u => K x u t
  | ⟨_, op, some (s, want)⟩ => match look t s with
    | .v (.bool b) => Split b want (vrunD P op ((s, .v (.bool want)) :: t) m n fun x u => K x u ((s, .v (.bool want)) :: t))
        (K (.v undef) [] ((s, .v (.bool (!want))) :: t))
    | .v (.tuple _) => K (.v undef) [] t
    | _ => False

def vregsD (P : Program) : List MI → (Tmps → Mem → Nat → Prop) → Tmps → Mem → Nat → Prop
  | [], K, t, m, n => K t m n
  | i :: r, K, t, m, n => vstepD P i (fun x u t2 => vregsD P r K (putT i.d x t2) (u ++ m) (n + 1)) t m n

/-- what an operation looks at -/
def opnds : MOp → List Opd
  | .mov x => [x]
  | .pick c a b => [c, a, b]
  | .bin _ x y => [x, y]
  | .eqb _ x y => [x, y]
  | .not x => [x]
  | .neg x => [x]
  | .conv _ x => [x]
  | .new _ => []
  | .box x => [x]
  | .build _ ps => ps.map (·.2.2)
  | .ld _ a => [a]
  | .ldm a => [a]
  | .st _ a x => [a, x]
  | .faddr _ x => [x]
  | .fld _ _ x => [x]
  | .iaddr _ x i => [x, i]
  | .nchk x => [x]
  | .aaddr _ _ x i => [x, i]
  | .idx _ x i => [x, i]
  | .ext _ x => [x]
  | .len x => [x]
  | .mkfn _ l => l
  | .blds _ l => l
  | .bldo _ l => l
  | .bldr _ l => l
  | .mm _ x y => [x, y]
  | .app _ s x => [s, x]
  | .mks _ l c => [l, c]
  | .mkm _ l c => [l, c]
  | .mnew => []
  | .mget _ _ _ x i => [x, i]
  | .mset _ x i y => [x, i, y]
  | .mlen x => [x]
  | .mrng x => [x]
  | .next x => [x]
  | .entry x => [x]
  | .isnil _ x => [x]
  | .eqa _ _ x y => [x, y]
  | .cap x => [x]
  | .appz _ s x => [s, x]
  | .b2s x => [x]
  | .sget _ _ x i => [x, i]
  | .sset x i y => [x, i, y]
  | .aget _ _ _ x i => [x, i]
  | .aset _ x i y => [x, i, y]
  | .never => []
  | .slc _ x lo hi => x :: (lo.toList ++ hi.toList)
  | .call _ l => l
  | .callv g l => g :: l
  | .callx _ l => l
  | .callvx g l => g :: l

mutual
def keysIn : AV → List Nat
  | .agg xs => keysInL xs
  | .tup xs => keysInL xs
  | .fn _ xs => keysInL xs
  | .arr k _ _ => [k]
  | .ptr k _ => [k]
  | .elt k _ _ => [k]
  | .mp k => [k]
  | _ => []
def keysInL : List AV → List Nat
  | [] => []
  | x :: r => keysIn x ++ keysInL r
end

theorem keysInL_mem {xs : List AV} {k : Nat} : k ∈ keysInL xs ↔ ∃ x ∈ xs, k ∈ keysIn x := by
  induction xs with
  | nil => simp [keysInL]
  | cons y xs ih => simp [keysInL, ih]

theorem kys_sub : (∀ x, ∀ k ∈ kys x, k ∈ keysIn x) ∧ (∀ xs, ∀ k ∈ kysL xs, k ∈ keysInL xs) := by
  have h1 : ∀ x, (∀ k ∈ kys x, k ∈ keysIn x) := by
    intro x
    refine AV.rec (motive_1 := fun x => ∀ k ∈ kys x, k ∈ keysIn x) (motive_2 := fun xs => ∀ k ∈ kysL xs, k ∈ keysInL xs) (motive_3 := fun _ => True) (motive_4 := fun _ => True)
      ?_ ?_ ?_ ?_ ?_ ?_ ?_ ?_ ?_ ?_ ?_ ?_ ?_ ?_ ?_ ?_ ?_ x
    all_goals (intros; first | trivial | simp_all [kys, kysL, keysIn, keysInL])
    rename_i h1 h2 k hk
    exact hk.imp (h1 k) (h2 k)
  refine ⟨h1, fun xs => ?_⟩
  induction xs with
  | nil => simp [kysL]
  | cons x xs ih =>
    intro k hk
    simp only [kysL, keysInL, List.mem_append] at hk ⊢
    exact hk.imp (h1 x k) (ih k)

/-- a key in a value that there is has a place -/
theorem keysIn_place {x : AV} {v : Value} (h : R w S κ x v) : ∀ k ∈ keysIn x, κ k ≠ none := by
  have aux0 : ∀ {x : AV} {v : Value}, R0 w S x v → keysIn x = [] := by
    intro x v h
    have aux : ∀ (xs : List AV) (vs : Array Value), xs.length = vs.size → (∀ (i : Nat) x y, xs[i]? = some x → vs[i]? = some y → keysIn x = []) → keysInL xs = [] := by
      intro xs vs hl ih
      apply List.eq_nil_iff_forall_not_mem.2
      intro k hk
      obtain ⟨x, hx, hk⟩ := keysInL_mem.1 hk
      obtain ⟨i, hi, rfl⟩ := List.getElem_of_mem hx
      rw [ih i _ vs[i] (by simp [hi]) (by simp [← hl, hi])] at hk
      simp at hk
    induction h with
    | agg hl _ ih => exact aux _ _ hl ih
    | tup hl _ ih => exact aux _ _ hl ih
    | fn hl _ ih => exact aux _ _ hl ih
    | _ => simp [keysIn]
  have aux : ∀ (xs : List AV) (vs : Array Value), xs.length = vs.size → (∀ (i : Nat) x y, xs[i]? = some x → vs[i]? = some y → ∀ k ∈ keysIn x, κ k ≠ none) → ∀ k ∈ keysInL xs, κ k ≠ none := by
    intro xs vs hl ih k hk
    obtain ⟨x, hx, hk⟩ := keysInL_mem.1 hk
    obtain ⟨i, hi, rfl⟩ := List.getElem_of_mem hx
    exact ih i _ vs[i] (by simp [hi]) (by simp [← hl, hi]) k hk
  induction h with
  | base h => rw [aux0 h]; simp
  | agg hl _ ih => exact aux _ _ hl ih
  | tup hl _ ih => exact aux _ _ hl ih
  | fn hl _ ih => exact aux _ _ hl ih
  | ptr hk => intro k h; simp [keysIn] at h; subst h; rw [hk]; simp
  | elt hk => intro k h; simp [keysIn] at h; subst h; rw [hk]; simp
  | arrNil hk => intro k h; simp [keysIn] at h; subst h; rw [hk]; simp
  | arr hk => intro k h; simp [keysIn] at h; subst h; rw [hk]; simp
  | arr0 hk => intro k h; simp [keysIn] at h; subst h; rw [hk]; simp
  | mp hk => intro k h; simp [keysIn] at h; subst h; rw [hk]; simp

theorem frz_congr {m m' : Mem} : (∀ x, (∀ k ∈ kys x, lookM m' k = lookM m k) → frz [] m' x = frz [] m x) ∧ (∀ xs, (∀ k ∈ kysL xs, lookM m' k = lookM m k) → frzL [] m' xs = frzL [] m xs) := by
  have h1 : ∀ x, (∀ k ∈ kys x, lookM m' k = lookM m k) → frz [] m' x = frz [] m x := by
    intro x
    refine AV.rec (motive_1 := fun x => (∀ k ∈ kys x, lookM m' k = lookM m k) → frz [] m' x = frz [] m x)
      (motive_2 := fun xs => (∀ k ∈ kysL xs, lookM m' k = lookM m k) → frzL [] m' xs = frzL [] m xs) (motive_3 := fun _ => True) (motive_4 := fun _ => True)
      ?_ ?_ ?_ ?_ ?_ ?_ ?_ ?_ ?_ ?_ ?_ ?_ ?_ ?_ ?_ ?_ ?_ x
    all_goals (intros; first | trivial | simp_all [kys, kysL, frz, frzL])
  refine ⟨h1, fun xs => ?_⟩
  induction xs with
  | nil => intro _; simp [frzL]
  | cons x xs ih =>
    intro h
    simp only [kysL, List.mem_append] at h
    simp only [frzL]
    rw [h1 x (fun k hk => h k (.inl hk)), ih (fun k hk => h k (.inr hk))]

end Go.Av
