/- Terms of combinators: pure. -/
import Derived.Test.YtdmbadgfjeapcaaHas
set_option linter.unusedSimpArgs false
set_option linter.unusedVariables false
namespace Go.Av
open Go.Proofs

inductive Tm where
  | s
  | k
  | v (n : Int)
  | put (a b : Tm)
deriving DecidableEq

def Tm.size : Tm → Nat
  | .put a b => 1 + a.size + b.size
  | _ => 1
theorem Tm.size_pos (t : Tm) : 1 ≤ t.size := by cases t <;> simp [Tm.size] <;> omega

/-- what a term becomes itself -/
def prtT : Tm → Option Tm
  | .put (.put .k x) _ => some x
  | .put (.put (.put .s x) y) z => some (.put (.put x z) (.put y z))
  | _ => none
def stepT : Tm → Option Tm
  | .put a b => match prtT (.put a b) with
    | some p => some p
    | none => match stepT a with
      | some a' => some (.put a' b)
      | none => match stepT b with
        | some b' => some (.put a b')
        | none => none
  | _ => none
def standsT (w : Int) : Tm → Bool
  | .put a b => standsT w a || standsT w b
  | .v n => n == w
  | _ => false
def outT (w : Int) : Tm → Tm
  | .put a b => if standsT w (.put a b) = true then .put (.put .s (outT w a)) (outT w b) else .put .k (.put a b)
  | t => if standsT w t = true then .put (.put .s .k) .k else .put .k t
def instT (w : Int) (x : Tm) : Tm → Tm
  | .put a b => .put (instT w x a) (instT w x b)
  | .v n => if n = w then x else .v n
  | t => t

/-- some parts at once -/
inductive Par : Tm → Tm → Prop where
  | refl (t : Tm) : Par t t
  | put {a a' b b' : Tm} (h : Par a a') (h' : Par b b') : Par (.put a b) (.put a' b')
  | k {x x' y : Tm} (h : Par x x') : Par (.put (.put .k x) y) x'
  | s {x x' y y' z z' : Tm} (h : Par x x') (h' : Par y y') (h'' : Par z z') : Par (.put (.put (.put .s x) y) z) (.put (.put x' z') (.put y' z'))

def devT : Tm → Tm
  | .put (.put .k x) _ => devT x
  | .put (.put (.put .s x) y) z => .put (.put (devT x) (devT z)) (.put (devT y) (devT z))
  | .put a b => .put (devT a) (devT b)
  | t => t

theorem Par.atom {u : Tm} : (Par .s u → u = .s) ∧ (Par .k u → u = .k) := ⟨fun h => by cases h; rfl, fun h => by cases h; rfl⟩
theorem Par.k1 {x u : Tm} (h : Par (.put .k x) u) : ∃ x', u = .put .k x' ∧ Par x x' := by
  cases h with
  | refl => exact ⟨x, rfl, .refl _⟩
  | put h h' => rw [Par.atom.2 h]; exact ⟨_, rfl, h'⟩
theorem Par.s1 {x u : Tm} (h : Par (.put .s x) u) : ∃ x', u = .put .s x' ∧ Par x x' := by
  cases h with
  | refl => exact ⟨x, rfl, .refl _⟩
  | put h h' => rw [Par.atom.1 h]; exact ⟨_, rfl, h'⟩
theorem Par.s2 {x y u : Tm} (h : Par (.put (.put .s x) y) u) : ∃ x' y', u = .put (.put .s x') y' ∧ Par x x' ∧ Par y y' := by
  cases h with
  | refl => exact ⟨x, y, rfl, .refl _, .refl _⟩
  | put h h' =>
    obtain ⟨x', rfl, hx⟩ := Par.s1 h
    exact ⟨x', _, rfl, hx, h'⟩

theorem Par.dev (t : Tm) : Par t (devT t) := by
  fun_induction devT t with
  | case1 x y ih => exact .k ih
  | case2 x y z ih1 ih2 ih3 => exact .s ih1 ih3 ih2
  | case3 a b _ _ ih1 ih2 => exact .put ih1 ih2
  | case4 t => exact .refl _

theorem dev_k1 (x : Tm) : devT (.put .k x) = .put .k (devT x) := rfl
theorem dev_s1 (x : Tm) : devT (.put .s x) = .put .s (devT x) := rfl
theorem dev_s2 (x y : Tm) : devT (.put (.put .s x) y) = .put (.put .s (devT x)) (devT y) := rfl

theorem Par.tri {t u : Tm} (h : Par t u) : Par u (devT t) := by
  induction h with
  | refl t => exact Par.dev t
  | k h ih => rw [devT]; exact ih
  | s h h' h'' ih ih' ih'' => rw [devT]; exact .put (.put ih ih'') (.put ih' ih'')
  | @put a a' b b' h h' ih ih' =>
    by_cases c1 : ∃ x, a = .put .k x
    · obtain ⟨x, rfl⟩ := c1
      obtain ⟨x', rfl, hx⟩ := Par.k1 h
      rw [dev_k1] at ih
      obtain ⟨y, hy, hxy⟩ := Par.k1 ih
      cases hy
      rw [devT]
      exact .k hxy
    by_cases c2 : ∃ x y, a = .put (.put .s x) y
    · obtain ⟨x, y, rfl⟩ := c2
      obtain ⟨x', y', rfl, hx, hy⟩ := Par.s2 h
      rw [dev_s2] at ih
      obtain ⟨x'', y'', he, h1, h2⟩ := Par.s2 ih
      cases he
      rw [devT]
      exact .s h1 h2 ih'
    rw [devT]
    · exact .put ih ih'
    · intro x hh; exact c1 ⟨_, hh⟩
    · intro x y hh; exact c2 ⟨_, _, hh⟩

inductive Star : Tm → Tm → Prop where
  | refl (t : Tm) : Star t t
  | cons {a b c : Tm} (h : Par a b) (r : Star b c) : Star a c
theorem Star.trans {a b c : Tm} (h : Star a b) (h' : Star b c) : Star a c := by
  induction h with
  | refl => exact h'
  | cons h _ ih => exact .cons h (ih h')
theorem Star.one {a b : Tm} (h : Par a b) : Star a b := .cons h (.refl _)
theorem Star.putL {a a' b : Tm} (h : Star a a') : Star (.put a b) (.put a' b) := by
  induction h with
  | refl => exact .refl _
  | cons h _ ih => exact .cons (.put h (.refl _)) ih
theorem Star.putR {a b b' : Tm} (h : Star b b') : Star (.put a b) (.put a b') := by
  induction h with
  | refl => exact .refl _
  | cons h _ ih => exact .cons (.put (.refl _) h) ih
theorem Star.strip {a b c : Tm} (h : Star a b) (h' : Par a c) : ∃ d, Par b d ∧ Star c d := by
  induction h generalizing c with
  | refl => exact ⟨c, h', .refl _⟩
  | cons h _ ih =>
    obtain ⟨d, h1, h2⟩ := ih h.tri
    exact ⟨d, h1, .cons h'.tri h2⟩
theorem Star.meet {a b c : Tm} (h : Star a b) (h' : Star a c) : ∃ d, Star b d ∧ Star c d := by
  induction h' generalizing b with
  | refl => exact ⟨b, .refl _, h⟩
  | cons h1 _ ih =>
    obtain ⟨d, h2, h3⟩ := h.strip h1
    obtain ⟨e, h4, h5⟩ := ih h3
    exact ⟨e, .cons h2 h4, h5⟩

theorem prt_par {t u : Tm} (h : prtT t = some u) : Par t u := by
  unfold prtT at h
  split at h
  · cases h; exact .k (.refl _)
  · cases h; exact .s (.refl _) (.refl _) (.refl _)
  · cases h
theorem step_par {t u : Tm} (h : stepT t = some u) : Par t u := by
  induction t generalizing u with
  | put a b iha ihb =>
    rw [stepT] at h
    split at h
    · rename_i p hp; cases h; exact prt_par hp
    · split at h
      · rename_i a' ha; cases h; exact .put (iha ha) (.refl _)
      · split at h
        · rename_i b' hb; cases h; exact .put (.refl _) (ihb hb)
        · cases h
  | _ => simp [stepT] at h
theorem step_none {a b : Tm} (h : stepT (.put a b) = none) : prtT (.put a b) = none ∧ stepT a = none ∧ stepT b = none := by
  rw [stepT] at h
  split at h
  · cases h
  · rename_i hp
    split at h
    · cases h
    · rename_i ha
      split at h
      · cases h
      · rename_i hb; exact ⟨hp, ha, hb⟩
theorem normal {t u : Tm} (hp : Par t u) (h : stepT t = none) : u = t := by
  induction hp with
  | refl => rfl
  | put h1 h2 ih1 ih2 =>
    obtain ⟨_, ha, hb⟩ := step_none h
    rw [ih1 ha, ih2 hb]
  | k _ _ => have := (step_none h).1; simp [prtT] at this
  | s _ _ _ _ _ _ => have := (step_none h).1; simp [prtT] at this
theorem normal_star {t u : Tm} (hp : Star t u) (h : stepT t = none) : u = t := by
  induction hp with
  | refl => rfl
  | cons h1 _ ih =>
    have := normal h1 h
    subst this
    exact ih h

/-- so many steps, or fewer where nothing becomes anything any more -/
def runT (t : Tm) : Nat → Tm × Nat
  | 0 => (t, 0)
  | n + 1 => match stepT (runT t n).1 with
    | some u => (u, (runT t n).2 + 1)
    | none => runT t n
theorem run_star (t : Tm) : ∀ n, Star t (runT t n).1
  | 0 => .refl _
  | n + 1 => by
    rw [runT]; split
    · rename_i u hu; exact (run_star t n).trans (.one (step_par hu))
    · exact run_star t n
theorem run_le (t : Tm) : ∀ n, (runT t n).2 ≤ n
  | 0 => Nat.le_refl _
  | n + 1 => by
    have := run_le t n
    rw [runT]; split
    · simp only; omega
    · omega
theorem run_less (t : Tm) : ∀ n, (runT t n).2 < n → stepT (runT t n).1 = none
  | n + 1, h => by
    rw [runT] at h ⊢
    split at h
    · rename_i u hu
      simp only at h
      have := run_less t n (by omega)
      rw [this] at hu; cases hu
    · rename_i hn; rw [hn]

theorem not_stands {w : Int} {x : Tm} : ∀ {t : Tm}, standsT w t = false → instT w x t = t
  | .put a b, h => by
    simp only [standsT, Bool.or_eq_false_iff] at h
    rw [instT, not_stands h.1, not_stands h.2]
  | .v n, h => by simp only [standsT, beq_eq_false_iff_ne, ne_eq] at h; rw [instT, if_neg h]
  | .s, _ => rfl
  | .k, _ => rfl
theorem out_star (w : Int) (x : Tm) : ∀ t : Tm, Star (.put (outT w t) x) (instT w x t)
  | .put a b => by
    rw [outT]; split
    · refine .cons (.s (.refl _) (.refl _) (.refl _)) ?_
      rw [instT]
      exact (Star.putL (out_star w x a)).trans (Star.putR (out_star w x b))
    · rename_i h
      rw [not_stands (by simpa using h)]
      exact .one (.k (.refl _))
  | .v n => by
    simp only [outT]; split
    · rename_i h
      simp only [standsT, beq_iff_eq] at h
      rw [instT, if_pos h]
      exact .cons (.s (.refl _) (.refl _) (.refl _)) (.one (.k (.refl _)))
    · rename_i h
      rw [not_stands (by simpa using h)]
      exact .one (.k (.refl _))
  | .s => by simp only [outT, standsT]; exact .one (.k (.refl _))
  | .k => by simp only [outT, standsT]; exact .one (.k (.refl _))
theorem out_stands (w : Int) : ∀ t : Tm, standsT w (outT w t) = false
  | .put a b => by
    rw [outT]; split
    · simp [standsT, out_stands w a, out_stands w b]
    · rename_i h; simp only [Bool.not_eq_true] at h; simp [standsT] at h ⊢; exact h
  | .v n => by
    simp only [outT]; split
    · simp [standsT]
    · rename_i h; simp only [Bool.not_eq_true] at h; simp [standsT] at h ⊢; exact h
  | .s => by simp [outT, standsT]
  | .k => by simp [outT, standsT]

/-- what the two come to is the same -/
theorem out_same {w : Int} {x t : Tm} {m n : Nat} (h1 : (runT (.put (outT w t) x) m).2 < m) (h2 : (runT (instT w x t) n).2 < n) :
    (runT (.put (outT w t) x) m).1 = (runT (instT w x t) n).1 := by
  have a := run_star (.put (outT w t) x) m
  have b := (out_star w x t).trans (run_star (instT w x t) n)
  obtain ⟨d, hd1, hd2⟩ := a.meet b
  rw [← normal_star hd1 (run_less _ _ h1), normal_star hd2 (run_less _ _ h2)]

theorem par_stands {w : Int} {t u : Tm} (h : Par t u) : standsT w u = true → standsT w t = true := by
  induction h with
  | refl => exact id
  | put _ _ ih ih' => simp only [standsT, Bool.or_eq_true]; exact fun h => h.imp ih ih'
  | k _ ih => simp only [standsT, Bool.or_eq_true]; exact fun h => .inl (.inr (ih h))
  | s _ _ _ ih ih' ih'' =>
    simp only [standsT, Bool.or_eq_true]
    rintro ((h | h) | (h | h))
    · exact .inl (.inl (.inr (ih h)))
    · exact .inr (ih'' h)
    · exact .inl (.inr (ih' h))
    · exact .inr (ih'' h)
theorem star_stands {w : Int} {t u : Tm} (h : Star t u) : standsT w u = true → standsT w t = true := by
  induction h with
  | refl => exact id
  | cons h _ ih => exact fun h' => par_stands h (ih h')

end Go.Av
