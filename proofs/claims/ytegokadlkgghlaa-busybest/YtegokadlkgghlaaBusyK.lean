/- The best small machines: by the kernel. -/
import Derived.Test.YtegokadlkgghlaaBusyM
set_option linter.unusedSimpArgs false
set_option linter.unusedVariables false
namespace Go.Av

/-- a tape as a number -/
def vlT : List Nat → Nat
  | [] => 0
  | x :: l => x + 2 * vlT l
theorem vlT_get : ∀ {l : List Nat} {i : Nat}, (∀ x ∈ l, x ≤ 1) → vlT l / 2 ^ i % 2 = l.getD i 0
  | [], i, _ => by simp [vlT]
  | x :: l, 0, h => by have := h x (by simp); simp [vlT]; omega
  | x :: l, i + 1, h => by
    have ih := vlT_get (l := l) (i := i) (fun y hy => h y (by simp [hy]))
    have hx := h x (by simp)
    have e : vlT (x :: l) / 2 ^ (i + 1) = vlT l / 2 ^ i := by
      rw [Nat.pow_succ, Nat.mul_comm, ← Nat.div_div_eq_div_mul, vlT]
      congr 1; omega
    rw [e, ih]; simp
theorem vlT_set : ∀ {l : List Nat} {i : Nat} (v : Nat), i < l.length → vlT (l.set i v) + l.getD i 0 * 2 ^ i = vlT l + v * 2 ^ i
  | x :: l, 0, v, _ => by simp [vlT]; omega
  | x :: l, i + 1, v, h => by
    have ih := vlT_set (l := l) (i := i) v (by simpa using h)
    simp only [List.set_cons_succ, vlT, List.getD_cons_succ, Nat.pow_succ]
    have e1 : l.getD i 0 * (2 ^ i * 2) = 2 * (l.getD i 0 * 2 ^ i) := by rw [← Nat.mul_assoc, Nat.mul_comm]
    have e2 : v * (2 ^ i * 2) = 2 * (v * 2 ^ i) := by rw [← Nat.mul_assoc, Nat.mul_comm]
    rw [e1, e2]; omega
/-- how many signs -/
def pcT : Nat → Nat → Nat
  | 0, _ => 0
  | n + 1, t => t % 2 + pcT n (t / 2)
theorem pcT_val : ∀ {l : List Nat}, (∀ x ∈ l, x ≤ 1) → pcT l.length (vlT l) = l.sum
  | [], _ => rfl
  | x :: l, h => by
    have ih := pcT_val (l := l) (fun y hy => h y (by simp [hy]))
    have hx := h x (by simp)
    simp only [List.length_cons, pcT, vlT, List.sum_cons]
    rw [show (x + 2 * vlT l) / 2 = vlT l by omega, show (x + 2 * vlT l) % 2 = x by omega, ih]

/-- the machines that fit what is known: halting ones have done at most so much, and left at most so much -/
def chkT (s a b : Nat) : Nat → List (Option Nat) → Nat → Nat → Nat → Nat → Bool
  | 0, _, st, _, t, dn => bif Nat.ble s st then Nat.ble dn a && Nat.ble (pcT 121 t) b else true
  | f + 1, kn, st, h, t, dn =>
    bif Nat.ble s st then Nat.ble dn a && Nat.ble (pcT 121 t) b else
    match kn.getD (2 * st + t / 2 ^ h % 2) none with
    | some d => chkT s a b f kn (d % (s + 1)) (bif Nat.beq (d / (s + 1) % 2) 1 then h + 1 else h - 1) (t + d / (s + 1) / 2 * 2 ^ h - t / 2 ^ h % 2 * 2 ^ h) (dn + 1)
    | none => (List.range (4 * (s + 1))).all fun d => chkT s a b f (kn.set (2 * st + t / 2 ^ h % 2) (some d)) (d % (s + 1)) (bif Nat.beq (d / (s + 1) % 2) 1 then h + 1 else h - 1) (t + d / (s + 1) / 2 * 2 ^ h - t / 2 ^ h % 2 * 2 ^ h) (dn + 1)

theorem chk_fin {s a b st t dn : Nat} {z : Bz} (hz : z.tape.length = 121) (hc : ∀ x ∈ z.tape, x ≤ 1) (ht : vlT z.tape = t) (hst : z.st = st)
    (h : (bif Nat.ble s st then Nat.ble dn a && Nat.ble (pcT 121 t) b else true) = true) : s ≤ z.st → dn ≤ a ∧ z.tape.sum ≤ b := fun hs => by
  subst hst
  rw [Nat.ble_eq_true_of_le hs, cond_true, Bool.and_eq_true] at h
  have h2 := pcT_val hc
  rw [hz, ht] at h2
  exact ⟨Nat.le_of_ble_eq_true h.1, by rw [← h2]; exact Nat.le_of_ble_eq_true h.2⟩

theorem chk_ok {s a b : Nat} {D : Nat → Nat} (hs : 1 ≤ s) (hD : DOk s D) : ∀ (f : Nat) {kn : List (Option Nat)} {st h t dn : Nat} {z : Bz} {k : Nat}, f + k ≤ 60 → ZOk s 60 k z → z.st = st → z.head = h → vlT z.tape = t →
    kn.length = 2 * s → (∀ (i : Nat) d, kn[i]? = some (some d) → D i = d) → chkT s a b f kn st h t dn = true →
    ∀ j, j ≤ f → s ≤ (brun s D z j).st → dn + bdon s D z j ≤ a ∧ (brun s D z j).tape.sum ≤ b := by
  intro f
  induction f with
  | zero =>
    intro kn st h t dn z k hk hz hst hh ht hl hkn hc j hj hr
    obtain rfl : j = 0 := by omega
    exact chk_fin hz.len hz.cells ht hst hc hr
  | succ f ih =>
    intro kn st h t dn z k hk hz hst hh ht hl hkn hc j hj hr
    rw [chkT] at hc
    by_cases hsl : s ≤ st
    · rw [Nat.ble_eq_true_of_le hsl, cond_true] at hc
      have hstop := brun_stop (s := s) (D := D) (z := z) (k := 0) (by simp only [brun]; omega) (Nat.zero_le j)
      rw [hstop.1, hstop.2]
      exact chk_fin (z := z) (dn := dn) hz.len hz.cells ht hst (by rw [Nat.ble_eq_true_of_le hsl, cond_true]; exact hc) (show s ≤ z.st by omega)
    · have hb : Nat.ble s st = false := by
        cases hx : Nat.ble s st with
        | false => rfl
        | true => exact (hsl (Nat.le_of_ble_eq_true hx)).elim
      rw [hb, cond_false] at hc
      cases j with
      | zero => simp only [brun] at hr; omega
      | succ j =>
        have hfr := brun_front s D z j
        rw [if_pos (by omega), if_pos (by omega)] at hfr
        rw [hfr.1, hfr.2]
        rw [hfr.1] at hr
        have hlo := hz.lo
        have hhi := hz.hi
        have hg := vlT_get (l := z.tape) (i := h) hz.cells
        rw [ht] at hg
        have hset := vlT_set (l := z.tape) (i := h) (D (2 * st + t / 2 ^ h % 2) / (s + 1) / 2) (by rw [hz.len]; omega)
        have hz' := bstp_ok hs hD hz (by omega)
        have hgz : z.tape.getD h 0 = t / 2 ^ h % 2 := hg.symm
        have hi : 2 * st + t / 2 ^ h % 2 < kn.length := by rw [hl]; omega
        -- one step with the digit that the machine has there
        have go : ∀ kn' : List (Option Nat), kn'.length = 2 * s → (∀ (i : Nat) d, kn'[i]? = some (some d) → D i = d) →
            chkT s a b f kn' (D (2 * st + t / 2 ^ h % 2) % (s + 1)) (bif Nat.beq (D (2 * st + t / 2 ^ h % 2) / (s + 1) % 2) 1 then h + 1 else h - 1) (t + D (2 * st + t / 2 ^ h % 2) / (s + 1) / 2 * 2 ^ h - t / 2 ^ h % 2 * 2 ^ h) (dn + 1) = true →
            dn + (bdon s D (bstp s D z) j + 1) ≤ a ∧ (brun s D (bstp s D z) j).tape.sum ≤ b := fun kn' hl' hkn' hc' => by
          have := ih (z := bstp s D z) (k := k + 1) (by omega) hz' (by simp only [bstp, hst, hh, hgz]) (by
              simp only [bstp, hst, hh, hgz]
              cases hq : Nat.beq (D (2 * st + t / 2 ^ h % 2) / (s + 1) % 2) 1 with
              | true => rw [if_pos (Nat.eq_of_beq_eq_true hq)]; rfl
              | false => rw [if_neg (Nat.ne_of_beq_eq_false hq)]; rfl) (by
              simp only [bstp, hst, hh, hgz]
              rw [← hg, ht] at hset
              omega) hl' hkn' hc' j (by omega) hr
          exact ⟨by omega, this.2⟩
        split at hc
        · rename_i d hd
          have hkd : kn[2 * st + t / 2 ^ h % 2]? = some (some d) := by
            rw [List.getD_eq_getElem?_getD, List.getElem?_eq_getElem hi] at hd
            rw [List.getElem?_eq_getElem hi]
            simpa using hd
          have hDd := hkn _ d hkd
          exact go kn hl hkn (by rw [hDd]; exact hc)
        · rw [List.all_eq_true] at hc
          have hDr := hD (2 * st + t / 2 ^ h % 2)
          refine go (kn.set (2 * st + t / 2 ^ h % 2) (some (D (2 * st + t / 2 ^ h % 2)))) (by simpa using hl) (fun i d hid => ?_) (hc _ (List.mem_range.2 hDr))
          rw [List.getElem?_set] at hid
          split at hid
          · rename_i he
            simp only [Option.some.injEq] at hid; rw [← he]; exact hid
          · exact hkn i d hid

theorem chk2 : chkT 2 6 4 60 [none, none, none, none] 0 60 0 0 = true := by decide +kernel
theorem chk1 : chkT 1 1 1 60 [none, none] 0 60 0 0 = true := by decide +kernel

theorem none_known {s : Nat} {D : Nat → Nat} (l : List (Option Nat)) (h : ∀ x ∈ l, x = none) : ∀ (i : Nat) d, l[i]? = some (some d) → D i = d := fun i d hi => by
  have := h _ (List.mem_of_getElem? hi)
  cases this
theorem vl_zero : ∀ n, vlT (List.replicate n 0) = 0
  | 0 => rfl
  | n + 1 => by rw [List.replicate_succ, vlT, vl_zero n]
theorem best_all {s a b S n : Nat} {kn : List (Option Nat)} (hs : 1 ≤ s) (hl : kn.length = 2 * s) (hk : ∀ x ∈ kn, x = none) (hc : chkT s a b 60 kn 0 60 0 0 = true) (hS : S ≤ 60) (hh : ¬ (bfin s S n).st < s) :
    bdn s S n ≤ a ∧ (bfin s S n).tape.sum ≤ b := by
  obtain ⟨h1, h2⟩ := rm_run hs (dgt_ok s n) hS (k := S) (Nat.le_refl _)
  have h3 := rm_sum h1
  have := chk_ok hs (dgt_ok s n) 60 (k := 0) (by omega) (bz0_ok s 60) rfl rfl (vl_zero _) hl (none_known (s := s) kn hk) hc S hS (by rw [h1.st]; exact Nat.not_lt.1 hh)
  rw [h2, h3, Nat.zero_add] at this
  exact this

/-- the greatest are attained -/
theorem btr_ge {s S : Nat} : ∀ {m n : Nat}, n < m → ¬ (bfin s S n).st < s → bdn s S n ≤ (btr s S m).1 ∧ (bfin s S n).tape.sum ≤ (btr s S m).2.1
  | m + 1, n, hn, hh => by
    by_cases he : n = m
    · subst he
      rw [btr, if_neg hh]
      exact ⟨by simp only; omega, by simp only; omega⟩
    · have ih := btr_ge (m := m) (n := n) (by omega) hh
      rw [btr]; split
      · exact ih
      · exact ⟨by simp only; omega, by simp only; omega⟩
theorem btr_le {s S a b : Nat} (h : ∀ n, ¬ (bfin s S n).st < s → bdn s S n ≤ a ∧ (bfin s S n).tape.sum ≤ b) : ∀ m, (btr s S m).1 ≤ a ∧ (btr s S m).2.1 ≤ b
  | 0 => by simp [btr]
  | m + 1 => by
    have ih := btr_le h m
    rw [btr]; split
    · exact ih
    · rename_i hh
      have := h m hh
      exact ⟨by simp only; omega, by simp only; omega⟩

/-- a machine that halts does the same with more room and more time -/
theorem grow {s S S' n : Nat} (hs : 1 ≤ s) (hS : S ≤ S') (hh : ¬ (bfin s S n).st < s) : ¬ (bfin s S' n).st < s ∧ bdn s S' n = bdn s S n ∧ (bfin s S' n).tape.sum = (bfin s S n).tape.sum := by
  obtain ⟨h1, h2⟩ := rm_run hs (dgt_ok s n) hS (k := S) (Nat.le_refl _)
  have hlive : ¬ (brun s (dgt s n) (bz0 S') S).st < s := by rw [h1.st]; exact hh
  obtain ⟨h3, h4⟩ := brun_stop hlive hS
  refine ⟨?_, ?_, ?_⟩
  · rw [bfin, h3]; exact hlive
  · rw [bdn, h4, h2]; rfl
  · rw [bfin, h3, rm_sum h1]; rfl
/-- one that halts after few steps has halted early -/
theorem early {s S T n : Nat} (hs : 1 ≤ s) (hT : T ≤ S) (hd : bdn s S n < T) (hh : ¬ (bfin s S n).st < s) : ¬ (bfin s T n).st < s := fun hl => by
  obtain ⟨h1, h2⟩ := rm_run hs (dgt_ok s n) hT (k := T) (Nat.le_refl _)
  have hl2 : (brun s (dgt s n) (bz0 S) T).st < s := by rw [h1.st]; exact hl
  have h3 := bdon_live hl2
  have hm : ∀ j, T ≤ j → T ≤ bdon s (dgt s n) (bz0 S) j := fun j hj => by
    induction j with
    | zero => omega
    | succ j ih =>
      by_cases he : T = j + 1
      · rw [← he]; omega
      · have := ih (by omega)
        rw [bdon]; split <;> omega
  have := hm S hT
  rw [bdn] at hd; omega
theorem many_same {s S T : Nat} (h : ∀ n, (bfin s S n).st < s ↔ (bfin s T n).st < s) : ∀ m, (btr s S m).2.2 = (btr s T m).2.2
  | 0 => rfl
  | m + 1 => by
    have ih := many_same h m
    rw [btr, btr]
    by_cases c : (bfin s S m).st < s
    · rw [if_pos c, if_pos ((h m).1 c), ih]
    · rw [if_neg c, if_neg (fun hh => c ((h m).2 hh))]
      simp only [ih]

theorem two_6 : ¬ (bfin 2 6 13652).st < 2 ∧ bdn 2 6 13652 = 6 ∧ (bfin 2 6 13652).tape.sum = 4 := by decide +kernel
theorem one_2 : ¬ (bfin 1 2 40).st < 1 ∧ bdn 1 2 40 = 1 ∧ (bfin 1 2 40).tape.sum = 1 := by decide +kernel
theorem one_many : (btr 1 2 64).2.2 = 32 := by decide +kernel

theorem busy_two {S : Nat} (h1 : 6 ≤ S) (h2 : S ≤ 60) : (busyF 2 S).1 = 6 ∧ (busyF 2 S).2.1 = 4 := by
  have hle := btr_le (fun n hh => best_all (s := 2) (n := n) (by omega) rfl (by simp) chk2 h2 hh) ((4 * (2 + 1)) ^ (2 * 2))
  obtain ⟨a1, a2, a3⟩ := two_6
  obtain ⟨b1, b2, b3⟩ := grow (by omega) h1 a1
  have hge := btr_ge (m := (4 * (2 + 1)) ^ (2 * 2)) (n := 13652) (by decide) b1
  rw [b2, b3, a2, a3] at hge
  simp only [busyF]
  omega
theorem busy_one {S : Nat} (h1 : 6 ≤ S) (h2 : S ≤ 60) : (busyF 1 S).1 = 1 ∧ (busyF 1 S).2.1 = 1 ∧ (busyF 1 S).2.2 = 32 := by
  have hbest : ∀ n, ¬ (bfin 1 S n).st < 1 → bdn 1 S n ≤ 1 ∧ (bfin 1 S n).tape.sum ≤ 1 := fun n hh => best_all (s := 1) (n := n) (by omega) rfl (by simp) chk1 h2 hh
  have hle := btr_le hbest ((4 * (1 + 1)) ^ (2 * 1))
  obtain ⟨a1, a2, a3⟩ := one_2
  obtain ⟨b1, b2, b3⟩ := grow (S' := S) (by omega) (by omega) a1
  have hge := btr_ge (m := (4 * (1 + 1)) ^ (2 * 1)) (n := 40) (by decide) b1
  rw [b2, b3, a2, a3] at hge
  have hm := many_same (s := 1) (S := S) (T := 2) (fun n => ⟨fun h => by
    apply Decidable.byContradiction
    intro hh
    exact (grow (by omega) (by omega) hh).1 h, fun h => by
    apply Decidable.byContradiction
    intro hh
    have := (hbest n hh).1
    exact early (by omega) (by omega) (by omega) hh h⟩) ((4 * (1 + 1)) ^ (2 * 1))
  have h64 : (btr 1 2 ((4 * (1 + 1)) ^ (2 * 1))).2.2 = 32 := one_many
  simp only [busyF]
  omega

end Go.Av
