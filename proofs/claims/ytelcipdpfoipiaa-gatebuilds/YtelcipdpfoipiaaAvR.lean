/- Code: what is asked of it; loops. -/
import Derived.Test.YtelcipdpfoipiaaAvFz
namespace Go.Av
open Go.RowKit (Below)

inductive MCode where
  | skip
  | reg (is : List MI)
  | draw (is : List MI)
  | drawc (is : List MI) (cs : List (Nat × Nat))
  | seq (a b : MCode)
  | cond (c : Opd) (a b : MCode)
  | block (id : Nat) (b : MCode)
  | loop (b : MCode)
  | fz (L : List Nat) (b : MCode)
  | gv (L : List Opd) (b : MCode)
  | exit (id : Nat)
  | ret

inductive Way where
  | norm
  | ex (id : Nat)
  | ret

abbrev WP := (Way → Tmps → Mem → Nat → Prop)

def zipT : List Nat → List AV → Tmps
  | [], _ => []
  | i :: r, xs => match xs with
    | [] => []
    | x :: xs => (i, x) :: zipT r xs

def deads : List Nat → Tmps
  | [] => []
  | i :: r => (i, .dead) :: deads r

mutual
/-- how what is told at a loop's head is what there is -/
def Sub (n : Nat) (rho : List (Option Nat)) : AV → AV → Prop
  | .dead, _ => True
  | .arr k off len, s => if k < n then s = .arr k off len else match rho[k - n]? with
    | some (some k') => s = .arr k' off len
    | some none => s = .v (.slice none 0 0) ∧ off = 0 ∧ len = 0
    | none => False
  | .ptr k off, s => if k < n then s = .ptr k off else match rho[k - n]? with
    | some (some k') => s = .ptr k' off
    | _ => False
  | .mp k, s => if k < n then s = .mp k else match rho[k - n]? with
    | some (some k') => s = .mp k'
    | _ => False
  | .elt _ _ _, _ => False
  | .agg xs, s => match s with
    | .agg ys => SubL n rho xs ys
    | _ => False
  | .tup xs, s => match s with
    | .tup ys => SubL n rho xs ys
    | _ => False
  | .fn f xs, s => match s with
    | .fn g ys => f = g ∧ SubL n rho xs ys
    | _ => False
  | .v x, s => s = .v x
  | .ro sz xs, s => s = .ro sz xs
  | .rp xs, s => s = .rp xs
  | .rm es, s => s = .rm es
def SubL (n : Nat) (rho : List (Option Nat)) : List AV → List AV → Prop
  | [], ys => ys = []
  | x :: xs, ys => match ys with
    | [] => False
    | y :: ys => Sub n rho x y ∧ SubL n rho xs ys
end

def SubO (n : Nat) (rho : List (Option Nat)) : MObj → MObj → Prop
  | .box xs, .box ys => SubL n rho xs ys
  | .arr sz xs, o => o = .arr sz xs
  | .mat sz rows, o => o = .mat sz rows
  | .map es, o => o = .map es
  | .iter l c, o => o = .iter l c
  | _, _ => False

def SubT (n : Nat) (rho : List (Option Nat)) (t : Tmps) : List Nat → List AV → Prop
  | [], xs => xs = []
  | i :: r, xs => match xs with
    | [] => False
    | x :: xs => Sub n rho x (look t i) ∧ SubT n rho t r xs

/-- the objects that are told -/
def SubM (n : Nat) (rho : List (Option Nat)) (m : Mem) : Mem → Prop
  | [] => True
  | (_, none) :: r => SubM n rho m r
  | (k, some o) :: r => (if k < n then (match lookM m k with | some o' => SubO n rho o o' | none => False)
      else match rho[k - n]? with
        | some (some k') => (match lookM m k' with | some o' => SubO n rho o o' | none => False)
        | some none => ∃ sz, o = .arr sz []
        | none => False) ∧ SubM n rho m r

/-- the objects that are not told are as they were -/
def keepM (ks : List Nat) (m' : Mem) : Mem → Prop
  | [] => True
  | (k, o) :: r => (ks.contains k = true ∨ lookM m' k = o) ∧ keepM (k :: ks) m' r

def srcOk (n : Nat) (h : Mem) : List (Option Nat) → Prop
  | [] => True
  | none :: r => srcOk n h r
  | some k :: r => (k < n → lookM h k = none) ∧ (r.contains (some k) = false) ∧ srcOk n h r

def Back (n : Nat) (ss : List Nat) (vs : List AV) (ob m : Mem) (rho : List (Option Nat)) (t' : Tmps) (m' : Mem) : Prop :=
  SubT n rho t' ss vs ∧ SubM n rho m' ob ∧ keepM (ob.map (·.1)) m' m ∧ srcOk n (ob ++ m) rho

/-- on the way back some objects may be only read from then on -/
def BackF (ks : List Nat) (n : Nat) (ss : List Nat) (vs : List AV) (ob m : Mem) (rho : List (Option Nat)) (t' : Tmps) (m' : Mem) : Prop :=
  (∀ k ∈ ks, n ≤ k) ∧ Back n ss vs ob m rho (fzT ks m' t') (fzM ks m' m')

def LoopVC (V : WP → Tmps → Mem → Nat → Prop) (D : List Nat) (Q : WP) (t : Tmps) (m : Mem) (n : Nat) : Prop :=
  ∃ (ι : Type) (ss : List Nat) (vs : ι → List AV) (ob : ι → Mem) (r : Nat) (inv : ι → Prop) (μ : ι → Nat),
    (ss.all fun i => D.contains i) = true ∧
    (∃ (x : ι) (rho : List (Option Nat)), rho.length = r ∧ inv x ∧ Back n ss (vs x) (ob x) m rho t m) ∧
    ∀ x, inv x → V (fun e t' m' n' => match e with
      | .norm => ∃ (x' : ι) (rho : List (Option Nat)) (ks : List Nat), rho.length = r ∧ inv x' ∧ μ x' < μ x ∧ BackF ks n ss (vs x') (ob x') m rho t' m'
      | e => Q e t' m' n') (zipT ss (vs x) ++ (deads D ++ t)) (ob x ++ m) (n + r)

theorem Back.f {n : Nat} {ss : List Nat} {vs : List AV} {ob m : Mem} {rho : List (Option Nat)} {t' : Tmps} {m' : Mem} (h : Back n ss vs ob m rho t' m') : BackF [] n ss vs ob m rho t' m' :=
  ⟨by simp, by rw [fzT_nil, fzM_nil]; exact h⟩

@[congr] theorem LoopVC_congr {V : WP → Tmps → Mem → Nat → Prop} {D : List Nat} {Q : WP} {t : Tmps} {m : Mem} {n : Nat} {p : Prop} (_ : (True ∧ True) = p) :
    LoopVC V D Q t m n = LoopVC V D Q t m n := rfl

/-- no key of ks in it -/
def kno (ks : List Nat) (x : AV) : Bool := (keysIn x).all fun k => !kin ks k

/-- what is frozen stands only in the temporaries of L -/
def fzKeep (L ks : List Nat) : Tmps → Bool
  | [] => true
  | (i, x) :: r => (L.contains i || kno ks x) && fzKeep L ks r

theorem fzKeep_look {L ks : List Nat} {m : Mem} : ∀ {t : Tmps} {i : Nat}, fzKeep L ks t = true → i ∉ L → fz ks m (look t i) = look t i := by
  intro t
  induction t with
  | nil => intro i _ _; simp [look, fz]
  | cons p t ih =>
    intro i h hi
    obtain ⟨j, x⟩ := p
    simp only [fzKeep, Bool.and_eq_true, Bool.or_eq_true] at h
    simp only [look]
    split
    · rename_i e
      subst e
      refine fz_id _ (fun k hk hh => ?_)
      rcases h.1 with h1 | h1
      · exact hi (by simpa using h1)
      · have := (List.all_eq_true.1 h1) k hk
        rw [kin_mem.2 hh] at this; cases this
    · exact ih h.2 hi

/-- some own objects may be only read from here on -/
def FzVC (V : Tmps → Mem → Nat → Prop) (L : List Nat) (t : Tmps) (m : Mem) (n : Nat) : Prop := ∃ ks, fzKeep L ks t = true ∧ V (fzT ks m t) (fzM ks m m) n
@[congr] theorem FzVC_congr {V : Tmps → Mem → Nat → Prop} {L : List Nat} {t : Tmps} {m : Mem} {n : Nat} {p : Prop} (_ : (True ∧ True) = p) : FzVC V L t m n = FzVC V L t m n := rfl
theorem FzVC.mk {V : Tmps → Mem → Nat → Prop} {L : List Nat} {t : Tmps} {m : Mem} {n : Nat} (ks : List Nat) (h : fzKeep L ks t = true) (hV : V (fzT ks m t) (fzM ks m m) n) : FzVC V L t m n := ⟨ks, h, hV⟩
theorem FzVC.no {V : Tmps → Mem → Nat → Prop} {L : List Nat} {t : Tmps} {m : Mem} {n : Nat} (hV : V t m n) : FzVC V L t m n := by
  refine ⟨[], ?_, by rw [fzT_nil, fzM_nil]; exact hV⟩
  clear hV
  induction t with
  | nil => rfl
  | cons p t ih => obtain ⟨i, x⟩ := p; simp [fzKeep, kno, kin, ih]

/-- a row that was taken out through this address is laid back -/
def gvRow (x : AV) (m : Mem) (K : Mem → Prop) : Prop :=
  match x with
  | .elt k _ _ => match lookM m k with
    | some (.lent sz rows i q) => match lookM m q with
      | some (.arr s xs) => s = sz ∧ K ((k, some (.mat sz (rows.set i (.own xs)))) :: (q, none) :: m)
      | _ => K m
    | _ => K m
  | _ => K m
def gvVC : List Opd → Tmps → Mem → (Mem → Prop) → Prop
  | [], _, m, K => K m
  | a :: r, t, m, K => gvRow (ev t a) m fun m' => gvVC r t m' K
def gvQ (L : List Opd) (Q : WP) : WP := fun e t m n => match e with
  | .norm => gvVC L t m fun m' => Q .norm t m' n
  | e => Q e t m n

theorem gvRow_mono {x : AV} {m : Mem} {K K' : Mem → Prop} (h : gvRow x m K) (hK : ∀ m, K m → K' m) : gvRow x m K' := by
  unfold gvRow at h ⊢
  split at h
  · split at h
    · split at h
      · exact ⟨h.1, hK _ h.2⟩
      · exact hK _ h
    · exact hK _ h
  · exact hK _ h
theorem gvVC_mono {t : Tmps} : ∀ {L : List Opd} {m : Mem} {K K' : Mem → Prop}, gvVC L t m K → (∀ m, K m → K' m) → gvVC L t m K' := by
  intro L
  induction L with
  | nil => intro m K K' h hK; exact hK _ h
  | cons a L ih => intro m K K' h hK; exact gvRow_mono h (fun m h => ih h hK)
theorem gvQ_mono {L : List Opd} {Q Q' : WP} (hQ : ∀ e t m n, Q e t m n → Q' e t m n) : ∀ e t m n, gvQ L Q e t m n → gvQ L Q' e t m n := by
  intro e t m n h
  cases e with
  | norm => exact gvVC_mono h (fun m h => hQ _ _ _ _ h)
  | ex id => exact hQ _ _ _ _ h
  | ret => exact hQ _ _ _ _ h

def asgI : List MI → List Nat
  | [] => []
  | ⟨some d, _, _⟩ :: r => d :: asgI r
  | ⟨none, _, _⟩ :: r => asgI r

def asg : MCode → List Nat
  | .reg is => asgI is
  | .draw is => asgI is
  | .drawc is _ => asgI is
  | .seq a b => asg a ++ asg b
  | .cond _ a b => asg a ++ asg b
  | .block _ b => asg b
  | .loop b => asg b
  | .fz L b => L ++ asg b
  | .gv _ b => asg b
  | _ => []

def vcg (P : Program) : MCode → WP → Tmps → Mem → Nat → Prop
  | .skip, Q, t, m, n => Q .norm t m n
  | .reg is, Q, t, m, n => vregs P is (Q .norm) t m n
  | .draw is, Q, t, m, n => vregsD P is (Q .norm) t m n
  | .drawc is cs, Q, t, m, n => vregsD P is (fun t' m' n' => apart t' m' m.length is cs ∧ Q .norm t' m' n') t m n
  | .seq a b, Q, t, m, n => vcg P a (fun e t m n => match e with
    | .norm => vcg P b Q t m n
    | e => Q e t m n) t m n
  | .cond c a b, Q, t, m, n => match ev t c with
    | .v (.bool x) => Fork x (vcg P a Q t m n) (vcg P b Q t m n)
    | _ => False
  | .block id b, Q, t, m, n => vcg P b (fun e t m n => match e with
    | .ex id' => if id' = id then Q .norm t m n else Q (.ex id') t m n
    | e => Q e t m n) t m n
  | .loop b, Q, t, m, n => LoopVC (vcg P b) (asg b) Q t m n
  | .fz L b, Q, t, m, n => FzVC (vcg P b Q) L t m n
  | .gv L b, Q, t, m, n => vcg P b (gvQ L Q) t m n
  | .exit id, Q, t, m, n => Q (.ex id) t m n
  | .ret, Q, t, m, n => Q .ret t m n

/-- the slices that are assigned -/
def asgS (P : Program) : Code → List Nat
  | .region _ ops _ => ops.toList.filterMap fun o => match P.underlying o.type with
    | some (.slice _) => o.dst
    | _ => none
  | .seq a b => asgS P a ++ asgS P b
  | .cond _ a b => asgS P a ++ asgS P b
  | .block _ b => asgS P b
  | .loop b => asgS P b
  | _ => []

/-- a slice is laid into a struct -/
def needFz (P : Program) (ops : Array Oper) : Bool := ops.toList.any fun o => match o.op with
  | .build t parts => match P.underlying t with
    | some (.struct fs) => parts.toList.any fun p => match p.2, fs[p.1]? with
      | .tmp _, some f => match P.underlying f.type with
        | some (.slice _) => true
        | _ => false
      | _, _ => false
    | _ => false
  | _ => false

def fzW (P : Program) (A : List Nat) (ops : Array Oper) (b : MCode) : MCode := if needFz P ops then .fz A b else b

/-- the mark of a function that makes slices of slices -/
def sentN : Nat := 999999999
def hasMk (P : Program) : Code → Bool
  | .region _ ops _ => ops.toList.any fun o => match o.op with
    | .makeSlice T _ _ => (match P.underlying T with
      | some (.slice e) => (match P.underlying e with
        | some (.slice _) => true
        | _ => false)
      | _ => false)
    | _ => false
  | .seq a b => hasMk P a || hasMk P b
  | .cond _ a b => hasMk P a || hasMk P b
  | .block _ b => hasMk P b
  | .loop b => hasMk P b
  | _ => false
def topA (P : Program) (c : Code) : List Nat := asgS P c ++ (bif hasMk P c then [sentN] else [])
def mkA (A : List Nat) : List Nat := A.filter fun k => Nat.beq k sentN

/-- the addresses of the rows that this region takes out and goes into -/
def goesInto (d : Nat) (i : MI) : Bool := match i.op with
  | .iaddr _ (.t q) _ => Nat.beq q d
  | _ => false
def gvOf (P : Program) (ops : Array Oper) (is : List MI) (j : Nat) : Option MI → Option Opd
  | some ⟨some d, .ld none (.t s), _⟩ => bif rowLd P ops is j && is.any (goesInto d) then some (.t s) else none
  | _ => none
def gvs (P : Program) (ops : Array Oper) (is : List MI) : List Opd := (List.range is.length).filterMap fun j => gvOf P ops is j is[j]?
def gvA (P : Program) (A : List Nat) (ops : Array Oper) (is : List MI) : List Opd := bif (mkA A).isEmpty then [] else gvs P ops is
def gvW (P : Program) (A : List Nat) (ops : Array Oper) (is : List MI) (b : MCode) : MCode := if (gvA P A ops is).isEmpty then b else .gv (gvA P A ops is) b

def cCode (P : Program) (N : Nat) (A : List Nat) : Code → Option MCode
  | .skip => some .skip
  | .region _ ops false => match cMIs P N ops ops.toList with
    | some is => some (fzW P A ops (gvW P A ops is (.reg is)))
    | none => none
  | .region _ ops true => match cMIs P N ops ops.toList with
    | some is => if ((gvA P A ops is).isEmpty && drawOk ops (markX P ops is)) && P.follows .mixedOrders then some (fzW P A ops (.draw (markX P ops is)))
      else if drawOkC ops (markM P ops is) (flags ops (markM P ops is)) && (stableC (markM P ops is) (flags ops (markM P ops is)) && P.follows .mixedOrders) then some (fzW P A ops (gvW P A ops is (.drawc (markM P ops is) (flags ops (markM P ops is))))) else none
    | none => none
  | .seq a b => match cCode P N A a, cCode P N A b with
    | some a', some b' => some (.seq a' b')
    | _, _ => none
  | .cond c a b => match cOpd c, cCode P N A a, cCode P N A b with
    | some c', some a', some b' => some (.cond c' a' b')
    | _, _, _ => none
  | .block id b => match cCode P N A b with
    | some b' => some (.block id b')
    | none => none
  | .loop b => match cCode P N (asgS P b ++ mkA A) b with
    | some b' => some (.loop b')
    | none => none
  | .exit id => some (.exit id)
  | .ret => some .ret
  | _ => none

end Go.Av
