/- A machine's way, step by step: no program is spoken of. -/
import Derived.Test.YtoffjeeajdmgfaaLib
set_option linter.unusedSimpArgs false
set_option linter.unusedVariables false
namespace Go.Av

structure Cfg where
  st : Int
  head : Int
  f : Int → Int

structure Now where
  st : Int
  head : Int
  first : Int
  tape : List Int

def encN (n : Now) : AV := .agg [I n.st, I n.head, I n.first, .ro 1 (n.tape.map I)]
def now0 : Now := ⟨0, 0, 0, []⟩

def ruleAt (M : Mach) (s g : Int) : Rule := (((M.rules[s.toNat]?).getD [])[g.toNat]?).getD ⟨0, 0, 0⟩

def stepC (M : Mach) (c : Cfg) : Cfg :=
  ⟨(ruleAt M c.st (c.f c.head)).n, c.head + (ruleAt M c.st (c.f c.head)).m, fun x => if x = c.head then (ruleAt M c.st (c.f c.head)).w else c.f x⟩

def runC (M : Mach) (c : Cfg) : Nat → Cfg
  | 0 => c
  | k + 1 => if (runC M c k).st < M.states then stepC M (runC M c k) else runC M c k

def doneC (M : Mach) (c : Cfg) : Nat → Nat
  | 0 => 0
  | k + 1 => if (runC M c k).st < M.states then doneC M c k + 1 else doneC M c k

theorem halt_stays {M : Mach} {c : Cfg} {k : Nat} (h : ¬ (runC M c k).st < M.states) : ∀ j, k ≤ j → runC M c j = runC M c k ∧ doneC M c j = doneC M c k := by
  intro j hj
  induction j with
  | zero => have : k = 0 := by omega
            subst this; exact ⟨rfl, rfl⟩
  | succ j ih =>
    by_cases hk : k = j + 1
    · subst hk; exact ⟨rfl, rfl⟩
    · obtain ⟨h1, h2⟩ := ih (by omega)
      simp only [runC, doneC, h1]
      rw [if_neg h, if_neg h]
      exact ⟨rfl, h2⟩

theorem done_le (M : Mach) (c : Cfg) : ∀ k, doneC M c k ≤ k
  | 0 => Nat.le_refl _
  | k + 1 => by
    simp only [doneC]
    have := done_le M c k
    split <;> omega

theorem done_live {M : Mach} {c : Cfg} : ∀ {k : Nat}, doneC M c k = k → ∀ i, i < k → (runC M c i).st < M.states
  | k + 1, h, i, hi => by
    simp only [doneC] at h
    split at h
    · rename_i hk
      by_cases hik : i = k
      · subst hik; exact hk
      · exact done_live (k := k) (by omega) i (by omega)
    · have := done_le M c k; omega

/-- the first sides of a run's end -/
def IsSpan (f : Int → Int) (head lo hi : Int) : Prop :=
  lo ≤ head ∧ head ≤ hi ∧ (∀ x, f x ≠ 0 → lo ≤ x ∧ x ≤ hi) ∧ (lo = head ∨ f lo ≠ 0) ∧ (hi = head ∨ f hi ≠ 0)

theorem IsSpan.uniq {f : Int → Int} {head lo hi lo' hi' : Int} (h : IsSpan f head lo hi) (h' : IsSpan f head lo' hi') : lo = lo' ∧ hi = hi' := by
  obtain ⟨a1, a2, a3, a4, a5⟩ := h
  obtain ⟨b1, b2, b3, b4, b5⟩ := h'
  have h1 : lo' ≤ lo := a4.elim (fun h => by omega) (fun h => (b3 lo h).1)
  have h2 : lo ≤ lo' := b4.elim (fun h => by omega) (fun h => (a3 lo' h).1)
  have h3 : hi ≤ hi' := a5.elim (fun h => by omega) (fun h => (b3 hi h).2)
  have h4 : hi' ≤ hi := b5.elim (fun h => by omega) (fun h => (a3 hi' h).2)
  omega

theorem span_list (f : Int → Int) (head : Int) : ∀ L : List Int, ∃ lo hi, lo ≤ head ∧ head ≤ hi ∧ (∀ x ∈ L, f x ≠ 0 → lo ≤ x ∧ x ≤ hi) ∧ (lo = head ∨ f lo ≠ 0) ∧ (hi = head ∨ f hi ≠ 0)
  | [] => ⟨head, head, Int.le_refl _, Int.le_refl _, by simp, .inl rfl, .inl rfl⟩
  | y :: L => by
    obtain ⟨lo, hi, h1, h2, h3, h4, h5⟩ := span_list f head L
    by_cases hy : f y = 0
    · refine ⟨lo, hi, h1, h2, fun x hx hfx => ?_, h4, h5⟩
      rcases List.mem_cons.1 hx with rfl | hx
      · exact (hfx hy).elim
      · exact h3 x hx hfx
    · refine ⟨if y < lo then y else lo, if y > hi then y else hi, ?_, ?_, fun x hx hfx => ?_, ?_, ?_⟩
      · split <;> omega
      · split <;> omega
      · rcases List.mem_cons.1 hx with rfl | hx
        · split <;> split <;> omega
        · have := h3 x hx hfx
          split <;> split <;> omega
      · split
        · exact .inr hy
        · exact h4
      · split
        · exact .inr hy
        · exact h5

theorem span_exists {f : Int → Int} {L : List Int} (head : Int) (hL : ∀ x, f x ≠ 0 → x ∈ L) : ∃ lo hi, IsSpan f head lo hi := by
  obtain ⟨lo, hi, h1, h2, h3, h4, h5⟩ := span_list f head L
  exact ⟨lo, hi, h1, h2, fun x hx => h3 x (hL x hx) hx, h4, h5⟩

def cellsF (f : Int → Int) (lo : Int) (n : Nat) : List Int := (List.range n).map fun i => f (lo + (i : Nat))

noncomputable def tell (c : Cfg) : Now :=
  open Classical in
  if h : ∃ p : Int × Int, IsSpan c.f c.head p.1 p.2 then ⟨c.st, c.head, h.choose.1, cellsF c.f h.choose.1 (h.choose.2 - h.choose.1 + 1).toNat⟩ else now0

theorem tell_eq {c : Cfg} {lo hi : Int} (h : IsSpan c.f c.head lo hi) : tell c = ⟨c.st, c.head, lo, cellsF c.f lo (hi - lo + 1).toNat⟩ := by
  have hex : ∃ p : Int × Int, IsSpan c.f c.head p.1 p.2 := ⟨(lo, hi), h⟩
  unfold tell
  rw [dif_pos hex]
  obtain ⟨h1, h2⟩ := hex.choose_spec.uniq h
  rw [h1, h2]

def tapeF (first : Int) (l : List Int) (x : Int) : Int := if first ≤ x then (l[(x - first).toNat]?).getD 0 else 0

def startC (n : Now) : Cfg := ⟨n.st, n.head, tapeF n.first n.tape⟩

/-- a machine that is one -/
theorem ruleErr_ok {signs states : Int} {r : Rule} (h : ruleErr signs states r = 0) : (0 ≤ r.w ∧ r.w < signs) ∧ (-1 ≤ r.m ∧ r.m ≤ 1) ∧ 0 ≤ r.n ∧ r.n ≤ states := by
  unfold ruleErr at h
  split at h
  · omega
  · split at h
    · omega
    · split at h
      · omega
      · omega

theorem firstErr_zero {α : Type} {f : α → Int} : ∀ {l : List α}, firstErr f l = 0 → ∀ x ∈ l, f x = 0
  | [], _, x, hx => by simp at hx
  | y :: l, h, x, hx => by
    simp only [firstErr] at h
    split at h
    · contradiction
    · rename_i h0
      rcases List.mem_cons.1 hx with rfl | hx
      · exact Classical.byContradiction h0
      · exact firstErr_zero h x hx

structure MOk (M : Mach) : Prop where
  s1 : 1 ≤ M.states
  s5 : M.states ≤ 5
  g2 : 2 ≤ M.signs
  g4 : M.signs ≤ 4
  len : (M.rules.length : Int) = M.states
  row : ∀ l ∈ M.rules, (l.length : Int) = M.signs
  rule : ∀ l ∈ M.rules, ∀ r ∈ l, (0 ≤ r.w ∧ r.w < M.signs) ∧ (-1 ≤ r.m ∧ r.m ≤ 1) ∧ 0 ≤ r.n ∧ r.n ≤ M.states

theorem mach_ok {M : Mach} (h : machErr M = 0) : MOk M := by
  unfold machErr at h
  split at h
  · omega
  · rename_i h1
    split at h
    · omega
    · rename_i h2
      simp only [Bool.not_eq_false] at h1 h2
      obtain ⟨⟨a1, a2⟩, a3, a4⟩ := sizeOk_iff.mp h1
      obtain ⟨b1, b2⟩ := formOk_iff.mp h2
      exact ⟨a1, a2, a3, a4, b1, b2, fun l hl r hr => ruleErr_ok (firstErr_zero (firstErr_zero h l hl) r hr)⟩

theorem MOk.at {M : Mach} (h : MOk M) {s g : Int} (h1 : 0 ≤ s) (h2 : s < M.states) (h3 : 0 ≤ g) (h4 : g < M.signs) :
    ∃ (a : s.toNat < M.rules.length) (b : g.toNat < (M.rules[s.toNat]).length), ruleAt M s g = (M.rules[s.toNat])[g.toNat] := by
  have a : s.toNat < M.rules.length := by have := h.len; omega
  have b : g.toNat < (M.rules[s.toNat]).length := by have := h.row _ (List.getElem_mem a); omega
  exact ⟨a, b, by simp [ruleAt, a, b]⟩

theorem MOk.ruleAt {M : Mach} (h : MOk M) {s g : Int} (h1 : 0 ≤ s) (h2 : s < M.states) (h3 : 0 ≤ g) (h4 : g < M.signs) :
    (0 ≤ (ruleAt M s g).w ∧ (ruleAt M s g).w < M.signs) ∧ (-1 ≤ (ruleAt M s g).m ∧ (ruleAt M s g).m ≤ 1) ∧ 0 ≤ (ruleAt M s g).n ∧ (ruleAt M s g).n ≤ M.states := by
  obtain ⟨a, b, e⟩ := h.at h1 h2 h3 h4
  rw [e]
  exact h.rule _ (List.getElem_mem a) _ (List.getElem_mem b)

/-- what holds of a configuration k steps behind one that is within B -/
structure COk (M : Mach) (B : Int) (c : Cfg) : Prop where
  st0 : 0 ≤ c.st
  st1 : c.st ≤ M.states
  sg : ∀ x, 0 ≤ c.f x ∧ c.f x < M.signs
  hd : -B ≤ c.head ∧ c.head ≤ B
  far : ∀ x, c.f x ≠ 0 → -B ≤ x ∧ x ≤ B

theorem stepC_ok {M : Mach} {B : Int} {c : Cfg} (h : MOk M) (hc : COk M B c) (hl : c.st < M.states) : COk M (B + 1) (stepC M c) := by
  obtain ⟨⟨h1, h2⟩, ⟨h3, h4⟩, h5, h6⟩ := h.ruleAt hc.st0 hl (hc.sg c.head).1 (hc.sg c.head).2
  have := hc.hd
  refine ⟨h5, h6, fun x => ?_, ?_, fun x hx => ?_⟩
  · simp only [stepC]; split
    · exact ⟨h1, h2⟩
    · exact hc.sg x
  · simp only [stepC]; omega
  · simp only [stepC] at hx
    split at hx
    · omega
    · have := hc.far x hx; omega

theorem COk.more {M : Mach} {B B' : Int} {c : Cfg} (hc : COk M B c) (h : B ≤ B') : COk M B' c :=
  ⟨hc.st0, hc.st1, hc.sg, by have := hc.hd; omega, fun x hx => by have := hc.far x hx; omega⟩

theorem runC_ok {M : Mach} {B : Int} {c : Cfg} (h : MOk M) (hc : COk M B c) : ∀ k : Nat, COk M (B + k) (runC M c k)
  | 0 => hc.more (by simp)
  | k + 1 => by
    have := runC_ok h hc k
    simp only [runC]
    split
    · rename_i hl
      exact (stepC_ok h this hl).more (by omega)
    · exact this.more (by omega)

theorem tapeF_range {first : Int} {l : List Int} {x : Int} (h : tapeF first l x ≠ 0) : first ≤ x ∧ x < first + l.length := by
  unfold tapeF at h
  split at h
  · rename_i h1
    refine ⟨h1, ?_⟩
    apply Classical.byContradiction
    intro hn
    rw [List.getElem?_eq_none (by omega)] at h
    simp at h
  · simp at h

theorem tapeF_sign {first : Int} {l : List Int} {signs x : Int} (hs : 0 < signs) (h : ∀ i ∈ l, 0 ≤ i ∧ i < signs) : 0 ≤ tapeF first l x ∧ tapeF first l x < signs := by
  unfold tapeF
  split
  · by_cases hi : (x - first).toNat < l.length
    · rw [List.getElem?_eq_getElem hi]; exact h _ (List.getElem_mem hi)
    · rw [List.getElem?_eq_none (by omega)]; simp; exact hs
  · exact ⟨Int.le_refl _, hs⟩

def goErr (M : Mach) (n : Now) (steps : Int) : Int :=
  if machErr M ≠ 0 then machErr M else if (n.tape.length : Int) > 60 then 1
  else if ¬((0 ≤ n.st ∧ n.st ≤ M.states) ∧ (-60 ≤ n.head ∧ n.head ≤ 60) ∧ (-60 ≤ n.first ∧ n.first ≤ 60)) then 4
  else if (n.tape.all fun i => decide (0 ≤ i ∧ i < M.signs)) = false then 2
  else if ¬(0 ≤ steps ∧ steps ≤ 60) then 7 else 0

def runErr (M : Mach) (l : List Int) (steps : Int) : Int :=
  if machErr M ≠ 0 then machErr M else if (l.length : Int) > 8 then 1
  else if (l.all fun i => decide (0 ≤ i ∧ i < M.signs)) = false then 2
  else if ¬(0 ≤ steps ∧ steps ≤ 60) then 7 else 0

structure GOk (M : Mach) (n : Now) (steps : Int) : Prop where
  mach : MOk M
  len : n.tape.length ≤ 60
  st : 0 ≤ n.st ∧ n.st ≤ M.states
  hd : -60 ≤ n.head ∧ n.head ≤ 60
  fs : -60 ≤ n.first ∧ n.first ≤ 60
  sg : ∀ i ∈ n.tape, 0 ≤ i ∧ i < M.signs
  steps : 0 ≤ steps ∧ steps ≤ 60

theorem go_ok {M : Mach} {n : Now} {steps : Int} (h : goErr M n steps = 0) : GOk M n steps := by
  unfold goErr at h
  split at h
  · contradiction
  · rename_i h0
    split at h
    · omega
    · split at h
      · omega
      · split at h
        · omega
        · split at h
          · omega
          · rename_i h1 h2 h3 h4
            have hm := mach_ok (M := M) (by omega)
            simp only [Bool.not_eq_false, List.all_eq_true, decide_eq_true_eq] at h3
            exact ⟨hm, by omega, by omega, by omega, by omega, h3, by omega⟩

theorem GOk.cfg {M : Mach} {n : Now} {steps : Int} (h : GOk M n steps) : COk M 120 (startC n) := by
  have h1 := h.len
  have h2 := h.hd
  have h3 := h.fs
  have h4 := h.mach.g2
  refine ⟨h.st.1, h.st.2, fun x => tapeF_sign (by omega) h.sg, ?_, fun x hx => ?_⟩
  · show -120 ≤ n.head ∧ n.head ≤ 120; omega
  · have := tapeF_range hx; omega

theorem COk.span {M : Mach} {B : Int} {c : Cfg} (h : COk M B c) : ∃ lo hi, IsSpan c.f c.head lo hi :=
  span_exists (L := (List.range (2 * B + 1).toNat).map fun i : Nat => (i : Int) - B) c.head (fun x hx => by
    have := h.far x hx
    exact List.mem_map.2 ⟨(x + B).toNat, by simp; omega, by omega⟩)

theorem COk.tell {M : Mach} {B : Int} {c : Cfg} (h : COk M B c) : ∃ lo hi, IsSpan c.f c.head lo hi ∧ tell c = ⟨c.st, c.head, lo, cellsF c.f lo (hi - lo + 1).toNat⟩ ∧ -B ≤ lo ∧ hi ≤ B := by
  obtain ⟨lo, hi, hs⟩ := h.span
  refine ⟨lo, hi, hs, tell_eq hs, ?_, ?_⟩
  · rcases hs.2.2.2.1 with e | e
    · have := h.hd; omega
    · exact (h.far _ e).1
  · rcases hs.2.2.2.2 with e | e
    · have := h.hd; omega
    · exact (h.far _ e).2

theorem live_done {M : Mach} {c : Cfg} : ∀ {N : Nat}, (runC M c N).st < M.states → doneC M c N = N
  | 0, _ => rfl
  | N + 1, h => by
    simp only [runC] at h
    split at h
    · rename_i h1
      simp only [doneC]
      rw [if_pos h1, live_done h1]
    · contradiction

theorem still {M : Mach} {c : Cfg} (h : ¬ c.st < M.states) (N : Nat) : runC M c N = c ∧ doneC M c N = 0 := halt_stays (k := 0) h N (Nat.zero_le _)

theorem run_go {M : Mach} {l : List Int} {steps : Int} (h : machErr M = 0) (hl : ¬ (l.length : Int) > 8) : goErr M ⟨0, 0, 0, l⟩ steps = runErr M l steps := by
  have := (mach_ok h).s1
  unfold goErr runErr
  have h60 : ¬ ((l.length : Int) > 60) := by omega
  have hst : ((0 : Int) ≤ 0 ∧ (0 : Int) ≤ M.states) ∧ (-60 ≤ (0 : Int) ∧ (0 : Int) ≤ 60) ∧ (-60 ≤ (0 : Int) ∧ (0 : Int) ≤ 60) := by omega
  simp only [h, ne_eq, not_true_eq_false, if_false, h60, hst, and_self, hl]

end Go.Av
