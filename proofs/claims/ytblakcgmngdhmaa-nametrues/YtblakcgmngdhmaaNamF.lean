/- Clauses of a circuit: an own variable for each gate that is no input; just one choice of values makes all hold (pure). -/
import Derived.Test.YtblakcgmngdhmaaNamE
set_option linter.unusedSimpArgs false
set_option linter.unusedVariables false
set_option maxRecDepth 100000
namespace Go.Av
open Go.Proofs

theorem compat_of : ∀ {h : List (Option Bool)} {v : List Bool}, v.length = h.length → (∀ (i : Nat) b, h[i]? = some (some b) → v.getD i false = b) → compat h v
  | [], v, hl, _ => by simp only [List.length_nil, List.length_eq_zero_iff] at hl; exact hl
  | x :: r, [], hl, _ => by simp at hl
  | x :: r, b :: s, hl, hg => by
    simp only [compat]
    refine ⟨fun c hc => ?_, compat_of (by simpa using hl) (fun i c hi => ?_)⟩
    · have := hg 0 c (by simp [hc]); simpa using this
    · have := hg (i + 1) c (by simpa using hi); simpa using this
theorem cntS_uniq (l : List Cl) : ∀ (h : List (Option Bool)) (pre e : List Bool), compat h e → allT l (pre ++ e) = true → (∀ v, compat h v → allT l (pre ++ v) = true → v = e) → cntS l pre h = 1
  | [], pre, e, hc, ht, _ => by
    simp only [compat] at hc
    subst hc
    rw [List.append_nil] at ht
    simp [cntS, ht]
  | x :: r, pre, [], hc, _, _ => by simp [compat] at hc
  | some b :: r, pre, c :: e, hc, ht, hu => by
    simp only [compat] at hc
    obtain rfl := hc.1 b rfl
    rw [cntS]
    refine cntS_uniq l r _ e hc.2 (by rw [List.append_assoc]; exact ht) (fun v hv hw => ?_)
    rw [List.append_assoc] at hw
    have := hu (c :: v) ⟨fun d hd => by simpa using hd, hv⟩ hw
    simpa using this
  | none :: r, pre, c :: e, hc, ht, hu => by
    simp only [compat] at hc
    have h1 : cntS l (pre ++ [c]) r = 1 := by
      refine cntS_uniq l r _ e hc.2 (by rw [List.append_assoc]; exact ht) (fun v hv hw => ?_)
      rw [List.append_assoc] at hw
      have := hu (c :: v) ⟨(fun d hd => by cases hd), hv⟩ hw
      simpa using this
    have h0 : cntS l (pre ++ [!c]) r = 0 := by
      refine cntS_zero l r _ (fun v hv => ?_)
      rw [List.append_assoc]
      cases hw : allT l (pre ++ ([!c] ++ v)) with
      | false => rfl
      | true =>
        have := hu ((!c) :: v) ⟨(fun d hd => by cases hd), hv⟩ hw
        simp at this
    rw [cntS]
    cases c <;> simp only [Bool.not_true, Bool.not_false] at h0 <;> rw [h0, h1]

theorem litT_snoc {y : List Bool} {b : Bool} {i : Int} (h : 0 ≤ i ∧ i < y.length) : litT (y ++ [b]) i = litT y i := by
  rw [litT, litT, List.getD_eq_getElem?_getD, List.getD_eq_getElem?_getD, List.getElem?_append_left (by omega)]
theorem any_same {α : Type} {f g : α → Bool} : ∀ {l : List α}, (∀ x ∈ l, f x = g x) → l.any f = l.any g
  | [], _ => rfl
  | x :: l, h => by rw [List.any_cons, List.any_cons, h x (by simp), any_same (fun y hy => h y (by simp [hy]))]
def insP (n : Nat) (c : Cl) : Prop := (∀ i ∈ c.yes, 0 ≤ i ∧ i < n) ∧ (∀ i ∈ c.no, 0 ≤ i ∧ i < n)
theorem clT_snoc {y : List Bool} {b : Bool} {c : Cl} (h : insP y.length c) : clT (y ++ [b]) c = clT y c := by
  rw [clT, clT, any_same (fun i hi => litT_snoc (h.1 i hi)), any_same (f := fun i => !(litT (y ++ [b]) i)) (fun i hi => by rw [litT_snoc (h.2 i hi)])]
theorem allT_snoc {y : List Bool} {b : Bool} : ∀ {l : List Cl}, (∀ c ∈ l, insP y.length c) → allT l (y ++ [b]) = allT l y
  | [], _ => rfl
  | c :: l, h => by
    have := allT_snoc (b := b) (l := l) (fun d hd => h d (by simp [hd]))
    simp only [allT] at this
    simp only [allT, List.all_cons]
    rw [clT_snoc (h c (by simp)), this]

structure Cv where
  v : Nat
  q : List Nat
  c : List Cl
/-- the clauses that tell a gate's own variable -/
def gcl (o a b : Nat) (k : Int) : List Cl :=
  if k = 2 then [⟨[(o : Int), (a : Int)], []⟩, ⟨[], [(o : Int), (a : Int)]⟩] else if k = 3 then [⟨[(a : Int)], [(o : Int)]⟩, ⟨[(b : Int)], [(o : Int)]⟩, ⟨[(o : Int)], [(a : Int), (b : Int)]⟩]
  else [⟨[(o : Int)], [(a : Int)]⟩, ⟨[(o : Int)], [(b : Int)]⟩, ⟨[(a : Int), (b : Int)], [(o : Int)]⟩]
def cvS (s : Cv) (g : Gt) : Cv :=
  if g.kind = 1 then ⟨s.v, s.q ++ [g.a.toNat], s.c⟩ else ⟨s.v + 1, s.q ++ [s.v], s.c ++ gcl s.v (s.q.getD g.a.toNat 0) (s.q.getD g.b.toNat 0) g.kind⟩
def cvk (n : Nat) (l : List Gt) : Nat → Cv
  | 0 => ⟨n, [], []⟩
  | k + 1 => cvS (cvk n l k) (gAt l k)
/-- what the variables have to be -/
def exk (n w : Nat) (l : List Gt) : Nat → List Bool
  | 0 => bitsL n w
  | k + 1 => if (gAt l k).kind = 1 then exk n w l k else exk n w l k ++ [gev w (gvk w l k) (gAt l k)]
structure CvOk (n w : Nat) (l : List Gt) (k : Nat) : Prop where
  ql : (cvk n l k).q.length = k
  el : (exk n w l k).length = (cvk n l k).v
  lo : n ≤ (cvk n l k).v
  hi : (cvk n l k).v ≤ n + k
  cl : (cvk n l k).c.length ≤ 3 * k
  q : ∀ j, j < k → (cvk n l k).q.getD j 0 < (cvk n l k).v ∧ (exk n w l k).getD ((cvk n l k).q.getD j 0) false = (gvk w l k).getD j false
  c : ∀ c ∈ (cvk n l k).c, insP (cvk n l k).v c ∧ c.yes.length + c.no.length ≤ 3
  tk : (exk n w l k).take n = bitsL n w
  sat : ∀ x : List Bool, x.length = (cvk n l k).v → x.take n = bitsL n w → (allT (cvk n l k).c x = true ↔ x = exk n w l k)

theorem getD_snoc {α : Type} {l : List α} {x d : α} {i : Nat} (h : i < l.length) : (l ++ [x]).getD i d = l.getD i d := by
  rw [List.getD_eq_getElem?_getD, List.getD_eq_getElem?_getD, List.getElem?_append_left h]
theorem getD_last {α : Type} {l : List α} {x d : α} : (l ++ [x]).getD l.length d = x := by
  rw [List.getD_eq_getElem?_getD, List.getElem?_append_right (by omega)]; simp
theorem insP_more {m n : Nat} {c : Cl} (h : m ≤ n) (hc : insP m c) : insP n c :=
  ⟨fun i hi => by have := hc.1 i hi; omega, fun i hi => by have := hc.2 i hi; omega⟩
theorem gcl_ins {o a b : Nat} {k : Int} (ha : a < o) (hb : 3 ≤ k → b < o) (hk : 2 ≤ k) : ∀ c ∈ gcl o a b k, insP (o + 1) c ∧ c.yes.length + c.no.length ≤ 3 := by
  intro c hc
  simp only [gcl] at hc
  split at hc
  · simp only [List.mem_cons, List.not_mem_nil, or_false] at hc
    rcases hc with rfl | rfl <;> (refine ⟨⟨fun i hi => ?_, fun i hi => ?_⟩, by simp⟩ <;> simp at hi <;> omega)
  · split at hc <;>
    · have := hb (by omega)
      simp only [List.mem_cons, List.not_mem_nil, or_false] at hc
      rcases hc with rfl | rfl | rfl <;> (refine ⟨⟨fun i hi => ?_, fun i hi => ?_⟩, by simp⟩ <;> simp at hi <;> omega)
theorem gcl_len (o a b : Nat) (k : Int) : (gcl o a b k).length ≤ 3 := by simp only [gcl]; split <;> (try split) <;> simp
theorem litT_nat (x : List Bool) (i : Nat) : litT x (i : Int) = x.getD i false := by simp [litT]
theorem gcl_sat {y : List Bool} {b : Bool} {o a c w : Nat} {k : Int} {g : Gt} {v : List Bool} (hk : 2 ≤ g.kind) (ho : y.length = o) (ha : a < o) (hc : 3 ≤ g.kind → c < o)
    (ea : y.getD a false = v.getD g.a.toNat false) (ec : 3 ≤ g.kind → y.getD c false = v.getD g.b.toNat false) :
    allT (gcl o a c g.kind) (y ++ [b]) = true ↔ b = gev w v g := by
  have e1 : (y ++ [b]).getD o false = b := by rw [← ho]; exact getD_last
  have e2 : (y ++ [b]).getD a false = v.getD g.a.toNat false := by rw [getD_snoc (by omega), ea]
  simp only [gcl, gev]
  rw [if_neg (by omega : ¬ g.kind = 1)]
  by_cases h2 : g.kind = 2
  · rw [if_pos h2, if_pos h2]
    simp only [allT, clT, List.all_cons, List.all_nil, List.any_cons, List.any_nil, litT_nat, e1, e2]
    cases b <;> cases v.getD g.a.toNat false <;> simp
  · have e3 : (y ++ [b]).getD c false = v.getD g.b.toNat false := by rw [getD_snoc (by have := hc (by omega); omega), ec (by omega)]
    rw [if_neg h2, if_neg h2]
    by_cases h3 : g.kind = 3
    · rw [if_pos h3, if_pos h3]
      simp only [allT, clT, List.all_cons, List.all_nil, List.any_cons, List.any_nil, litT_nat, e1, e2, e3]
      cases b <;> cases v.getD g.a.toNat false <;> cases v.getD g.b.toNat false <;> simp
    · rw [if_neg h3, if_neg h3]
      simp only [allT, clT, List.all_cons, List.all_nil, List.any_cons, List.any_nil, litT_nat, e1, e2, e3]
      cases b <;> cases v.getD g.a.toNat false <;> cases v.getD g.b.toNat false <;> simp
theorem take_snoc {α : Type} {l : List α} {x : α} {n : Nat} (h : n ≤ l.length) : (l ++ [x]).take n = l.take n := by rw [List.take_append_of_le_length h]

theorem cv_ok {n : Nat} (w : Nat) {l : List Gt} (hok : GsOk n l) : ∀ {k : Nat}, k ≤ l.length → CvOk n w l k
  | 0, _ => by
    refine ⟨rfl, ?_, Nat.le_refl _, Nat.le_refl _, Nat.le_refl _, fun j hj => by omega, fun c hc => by simp [cvk] at hc, ?_, fun x hx ht => ?_⟩
    · simp [exk, cvk, bitsL_length]
    · simp only [exk]; rw [List.take_of_length_le (by rw [bitsL_length]; omega)]
    · simp only [cvk] at hx
      rw [List.take_of_length_le (by omega)] at ht
      simp [cvk, exk, allT, ht]
  | k + 1, hk => by
    have ih := cv_ok w hok (k := k) (by omega)
    obtain ⟨ql, el, lo, hi, cl, q, c, tk, sat⟩ := ih
    have hg : GtOk n k (gAt l k) := by rw [gAt, List.getElem?_eq_getElem (by omega)]; exact hok k (by omega)
    obtain ⟨hkind, hin, hfa, hfb⟩ := hg
    have hgl := gvk_length w l k
    have e3 : exk n w l (k + 1) = if (gAt l k).kind = 1 then exk n w l k else exk n w l k ++ [gev w (gvk w l k) (gAt l k)] := rfl
    generalize hs : cvk n l k = s at *
    generalize hx : exk n w l k = ex at *
    have e1 : cvk n l (k + 1) = cvS s (gAt l k) := by rw [cvk, hs]
    have e2 : gvk w l (k + 1) = gvk w l k ++ [gev w (gvk w l k) (gAt l k)] := rfl
    generalize gAt l k = g at *
    by_cases h1 : g.kind = 1
    · have hr := hin h1
      rw [if_pos h1] at e3
      have hc1 : cvS s g = ⟨s.v, s.q ++ [g.a.toNat], s.c⟩ := by rw [cvS, if_pos h1]
      rw [hc1] at e1
      refine ⟨by rw [e1]; simp [ql], by rw [e1, e3]; exact el, by rw [e1]; exact lo, by rw [e1]; show s.v ≤ _; omega, by rw [e1]; show s.c.length ≤ _; omega, fun j hj => ?_, by rw [e1]; exact c, by rw [e3]; exact tk, by rw [e1, e3]; exact sat⟩
      rw [e1, e2, e3]
      show (s.q ++ [g.a.toNat]).getD j 0 < s.v ∧ ex.getD ((s.q ++ [g.a.toNat]).getD j 0) false = _
      by_cases hj1 : j < k
      · rw [getD_snoc (by omega), getD_snoc (by omega)]; exact q j hj1
      · obtain rfl : j = k := by omega
        have a1 : (s.q ++ [g.a.toNat]).getD j 0 = g.a.toNat := by rw [← ql]; exact getD_last
        have a2 : (gvk w l j ++ [gev w (gvk w l j) g]).getD j false = gev w (gvk w l j) g := by
          have := getD_last (l := gvk w l j) (x := gev w (gvk w l j) g) (d := false); rwa [hgl] at this
        rw [a1, a2, gev, if_pos h1]
        refine ⟨by omega, ?_⟩
        have a3 : ex.getD g.a.toNat false = (bitsL n w).getD g.a.toNat false := by
          rw [← tk, List.getD_eq_getElem?_getD, List.getD_eq_getElem?_getD, List.getElem?_take_of_lt (by omega)]
        rw [a3, bitsL, List.getD_eq_getElem?_getD, List.getElem?_map, List.getElem?_range (by omega)]; rfl
    · have hfa := hfa h1
      rw [if_neg h1] at e3
      have hc1 : cvS s g = ⟨s.v + 1, s.q ++ [s.v], s.c ++ gcl s.v (s.q.getD g.a.toNat 0) (s.q.getD g.b.toNat 0) g.kind⟩ := by rw [cvS, if_neg h1]
      rw [hc1] at e1
      have qa := q g.a.toNat (by omega)
      have qb : 3 ≤ g.kind → _ := fun h => q g.b.toNat (by have := hfb h; omega)
      have hgi := gcl_ins (o := s.v) (a := s.q.getD g.a.toNat 0) (b := s.q.getD g.b.toNat 0) (k := g.kind) qa.1 (fun h => (qb h).1) (by omega)
      have hgn := gcl_len s.v (s.q.getD g.a.toNat 0) (s.q.getD g.b.toNat 0) g.kind
      refine ⟨by rw [e1]; simp [ql], by rw [e1, e3]; simp [el], by rw [e1]; show n ≤ s.v + 1; omega, by rw [e1]; show s.v + 1 ≤ _; omega, by rw [e1]; simp only [List.length_append]; omega, fun j hj => ?_, ?_, by rw [e3, take_snoc (by omega)]; exact tk, ?_⟩
      · rw [e1, e2, e3]
        show (s.q ++ [s.v]).getD j 0 < s.v + 1 ∧ (ex ++ [gev w (gvk w l k) g]).getD ((s.q ++ [s.v]).getD j 0) false = _
        by_cases hj1 : j < k
        · have := q j hj1
          rw [getD_snoc (l := s.q) (by omega), getD_snoc (l := gvk w l k) (by omega), getD_snoc (l := ex) (by omega)]; exact ⟨by omega, this.2⟩
        · obtain rfl : j = k := by omega
          have a1 : (s.q ++ [s.v]).getD j 0 = s.v := by rw [← ql]; exact getD_last
          have a2 : (gvk w l j ++ [gev w (gvk w l j) g]).getD j false = gev w (gvk w l j) g := by
            have := getD_last (l := gvk w l j) (x := gev w (gvk w l j) g) (d := false); rwa [hgl] at this
          rw [a1, a2, ← el]
          exact ⟨by omega, getD_last⟩
      · rw [e1]
        intro d hd
        rcases List.mem_append.1 hd with hd | hd
        · exact ⟨insP_more (by show s.v ≤ s.v + 1; omega) (c d hd).1, (c d hd).2⟩
        · exact hgi d hd
      · rw [e1, e3]
        intro x hxl hxt
        have hxl' : x.length = s.v + 1 := hxl
        obtain ⟨y, b, rfl⟩ : ∃ y b, x = y ++ [b] := ⟨x.dropLast, x.getLast (by intro h; rw [h] at hxl'; simp at hxl'), (List.dropLast_concat_getLast _).symm⟩
        have hyl : y.length = s.v := by simpa using hxl'
        rw [take_snoc (by omega)] at hxt
        have hs1 := sat y hyl hxt
        have ha1 : allT (s.c ++ gcl s.v (s.q.getD g.a.toNat 0) (s.q.getD g.b.toNat 0) g.kind) (y ++ [b]) = (allT s.c y && allT (gcl s.v (s.q.getD g.a.toNat 0) (s.q.getD g.b.toNat 0) g.kind) (y ++ [b])) := by
          have hsn := allT_snoc (y := y) (b := b) (l := s.c) (fun d hd => by rw [hyl]; exact (c d hd).1)
          simp only [allT] at hsn
          simp only [allT, List.all_append, hsn]
        show allT (s.c ++ gcl s.v (s.q.getD g.a.toNat 0) (s.q.getD g.b.toNat 0) g.kind) (y ++ [b]) = true ↔ _
        rw [ha1, Bool.and_eq_true, hs1]
        constructor
        · rintro ⟨rfl, hb⟩
          rw [(gcl_sat (w := w) (k := 0) (v := gvk w l k) (by omega) hyl qa.1 (fun h => (qb h).1) qa.2 (fun h => (qb h).2)).1 hb]
        · intro h
          have h' := List.append_inj h (by rw [hyl, el])
          obtain rfl := h'.1
          have hb : b = gev w (gvk w l k) g := by simpa using h'.2
          exact ⟨rfl, (gcl_sat (w := w) (k := 0) (v := gvk w l k) (by omega) hyl qa.1 (fun h => (qb h).1) qa.2 (fun h => (qb h).2)).2 hb⟩

def cvN (n : Nat) (l : List Gt) : Nat := (cvk n l l.length).v
def cvC (n : Nat) (l : List Gt) : List Cl := (cvk n l l.length).c ++ [⟨[(((cvk n l l.length).q.getD (l.length - 1) 0 : Nat) : Int)], []⟩]
theorem cv_named {n : Nat} {l : List Gt} (h1 : 1 ≤ l.length) (hok : GsOk n l) : Named n l (cvN n l) (cvC n l) := by
  have h0 := cv_ok 0 hok (Nat.le_refl _)
  refine ⟨h0.lo, h0.hi, ?_, fun k hk => ?_, fun k hk => ?_, fun w hw => ?_⟩
  · have := h0.cl
    simp only [cvC, List.length_append, List.length_cons, List.length_nil]; omega
  · rcases List.mem_append.1 hk with hk | hk
    · exact (h0.c k hk).2
    · simp only [List.mem_cons, List.not_mem_nil, or_false] at hk; subst hk; simp
  · rw [insB_iff, insB_iff]
    rcases List.mem_append.1 hk with hk | hk
    · exact (h0.c k hk).1
    · simp only [List.mem_cons, List.not_mem_nil, or_false] at hk
      subst hk
      have := (h0.q (l.length - 1) (by omega)).1
      simp only [List.mem_cons, List.not_mem_nil, or_false, forall_eq, cvN]
      exact ⟨by omega, fun i hi => by cases hi⟩
  · have hc := cv_ok w hok (Nat.le_refl l.length)
    have hfl : (fst n (cvN n l) w).length = cvN n l := by
      have := h0.lo
      simp only [fst, List.length_append, List.length_map, bitsL_length, List.length_replicate, cvN]; omega
    have hv : ∀ v, compat (fst n (cvN n l) w) v → v.length = cvN n l ∧ v.take n = bitsL n w := by
      intro v hcv
      obtain ⟨g1, g2⟩ := compat_get hcv
      rw [hfl] at g1
      refine ⟨g1, List.ext_getElem? (fun i => ?_)⟩
      have hlo := h0.lo
      by_cases hi : i < n
      · rw [List.getElem?_take_of_lt hi, List.getElem?_eq_getElem (by simp only [cvN] at g1; omega), List.getElem?_eq_getElem (by rw [bitsL_length]; exact hi)]
        have := g2 i ((bitsL n w)[i]'(by rw [bitsL_length]; exact hi)) (by rw [fst, List.getElem?_append_left (by simp [bitsL_length, hi]), List.getElem?_map, List.getElem?_eq_getElem (by rw [bitsL_length]; exact hi)]; rfl)
        rw [List.getD_eq_getElem?_getD, List.getElem?_eq_getElem (by simp only [cvN] at g1; omega)] at this
        rw [← this]; rfl
      · rw [List.getElem?_eq_none (by simp; omega), List.getElem?_eq_none (by rw [bitsL_length]; omega)]
    have hex : compat (fst n (cvN n l) w) (exk n w l l.length) := by
      refine compat_of (by rw [hfl]; exact hc.el) (fun i b hi => ?_)
      have hi1 : i < n := by
        by_cases h : i < n
        · exact h
        · rw [fst, List.getElem?_append_right (by simp [bitsL_length]; omega)] at hi
          rw [List.getElem?_replicate] at hi
          split at hi <;> simp at hi
      rw [fst, List.getElem?_append_left (by simp [bitsL_length, hi1]), List.getElem?_map] at hi
      rw [← hc.tk, List.getElem?_take_of_lt hi1] at hi
      rw [List.getD_eq_getElem?_getD]
      cases hh : (exk n w l l.length)[i]? with
      | none => rw [hh] at hi; simp at hi
      | some x => rw [hh] at hi; simpa using hi
    have hal : ∀ v, v.length = cvN n l → v.take n = bitsL n w → (allT (cvC n l) v = true ↔ v = exk n w l l.length ∧ gval w l = true) := by
      intro v hl ht
      have hs := hc.sat v hl ht
      have e1 : allT (cvC n l) v = (allT (cvk n l l.length).c v && v.getD ((cvk n l l.length).q.getD (l.length - 1) 0) false) := by
        simp only [allT, cvC, List.all_append, List.all_cons, List.all_nil, clT, List.any_cons, List.any_nil, litT_nat, Bool.or_false, Bool.and_true]
      rw [e1, Bool.and_eq_true, hs]
      constructor
      · rintro ⟨rfl, hb⟩
        exact ⟨rfl, by rw [gval, ← (hc.q (l.length - 1) (by omega)).2]; exact hb⟩
      · rintro ⟨rfl, hb⟩
        exact ⟨rfl, by rw [(hc.q (l.length - 1) (by omega)).2]; exact hb⟩
    cases hb : gval w l with
    | false =>
      refine cntS_zero _ _ _ (fun v hcv => ?_)
      obtain ⟨g1, g2⟩ := hv v hcv
      rw [List.nil_append]
      cases ht : allT (cvC n l) v with
      | false => rfl
      | true => have := ((hal v g1 g2).1 ht).2; rw [hb] at this; cases this
    | true =>
      refine cntS_uniq _ _ _ (exk n w l l.length) hex ?_ (fun v hcv ht => ?_)
      · rw [List.nil_append]; exact (hal _ hc.el hc.tk).2 ⟨rfl, hb⟩
      · obtain ⟨g1, g2⟩ := hv v hcv
        rw [List.nil_append] at ht
        exact ((hal v g1 g2).1 ht).1

end Go.Av
