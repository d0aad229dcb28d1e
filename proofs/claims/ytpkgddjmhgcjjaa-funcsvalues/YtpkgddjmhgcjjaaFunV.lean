/- Functions, without programs: their values, with what may still be asked. -/
import Derived.Test.YtpkgddjmhgcjjaaFunK
set_option linter.unusedSimpArgs false
set_option linter.unusedVariables false
set_option maxRecDepth 100000
namespace Go.Av
open Go.Proofs

/-- is there a value; which; and how many calls are left -/
abbrev Rs : Type := Bool × Nat × Nat
def evL (rc : Nat → List Nat → Nat → Rs) (args : List Nat) : List Int → Nat → Bool × List Nat × Nat
  | [], fuel => (true, [], fuel)
  | j :: js, fuel => if (rc j.toNat args fuel).1 = true then ((evL rc args js (rc j.toNat args fuel).2.2).1, (rc j.toNat args fuel).2.1 :: (evL rc args js (rc j.toNat args fuel).2.2).2.1, (evL rc args js (rc j.toNat args fuel).2.2).2.2)
    else (false, [], (rc j.toNat args fuel).2.2)
def evR (rc : List Nat → Nat → Rs) (others : List Nat) : Nat → Nat → Rs → Rs
  | 0, _, s => s
  | r + 1, x, s => if s.1 = true then evR rc others r (x + 1) (rc (others ++ [x, s.2.1]) s.2.2) else s
def evC (rc : Nat → List Nat → Nat → Rs) (f : Fn) (args : List Nat) (fuel : Nat) : Rs :=
  if (evL rc args f.into fuel).1 = true then rc f.a.toNat (evL rc args f.into fuel).2.1 (evL rc args f.into fuel).2.2 else (false, 0, (evL rc args f.into fuel).2.2)
def evA (rc : Nat → List Nat → Nat → Rs) (f : Fn) (args : List Nat) (fuel : Nat) : Rs :=
  evR (rc f.b.toNat) (args.take (f.args - 1).toNat) (args.getD (f.args - 1).toNat 0) 0 (rc f.a.toNat (args.take (f.args - 1).toNat) fuel)
def evF (l : List Fn) : Nat → Nat → List Nat → Nat → Rs
  | 0, _, _, _ => (false, 0, 0)
  | d + 1, i, args, fuel => if fuel = 0 then (false, 0, 0) else match l[i]? with
    | none => (false, 0, 0)
    | some f => if f.kind = 2 then (decide (args.getD 0 0 + 1 ≤ 1000), args.getD 0 0 + 1, fuel - 1)
      else if f.kind = 3 then (true, args.getD f.pick.toNat 0, fuel - 1)
      else if f.kind = 4 then evC (evF l d) f args (fuel - 1)
      else if f.kind = 5 then evA (evF l d) f args (fuel - 1)
      else (true, 0, fuel - 1)

def Sm (args : List Nat) : Prop := ∀ a ∈ args, a ≤ 1000
def RcOk (rc : Nat → List Nat → Nat → Rs) : Prop := ∀ i args fuel, Sm args → (rc i args fuel).2.2 ≤ fuel ∧ ((rc i args fuel).1 = true → (rc i args fuel).2.1 ≤ 1000)
theorem getD_sm {args : List Nat} (h : Sm args) (i : Nat) : args.getD i 0 ≤ 1000 := by
  rw [List.getD_eq_getElem?_getD]
  cases hj : args[i]? with
  | none => simp
  | some x => exact h x (List.mem_of_getElem? hj)
theorem evL_ok {rc : Nat → List Nat → Nat → Rs} (hrc : RcOk rc) {args : List Nat} (ha : Sm args) : ∀ (js : List Int) (fuel : Nat), (evL rc args js fuel).2.2 ≤ fuel ∧ ((evL rc args js fuel).1 = true → Sm (evL rc args js fuel).2.1 ∧ (evL rc args js fuel).2.1.length = js.length)
  | [], fuel => ⟨Nat.le_refl _, fun _ => ⟨by simp [evL, Sm], rfl⟩⟩
  | j :: js, fuel => by
    have h1 := hrc j.toNat args fuel ha
    have h2 := evL_ok hrc ha js (rc j.toNat args fuel).2.2
    simp only [evL]
    split
    · rename_i hr
      refine ⟨by simp only; omega, fun h => ?_⟩
      obtain ⟨h3, h4⟩ := h2.2 h
      refine ⟨fun a hm => ?_, by simp [h4]⟩
      rcases List.mem_cons.1 hm with rfl | hm
      · exact h1.2 hr
      · exact h3 a hm
    · exact ⟨h1.1, fun h => by cases h⟩
theorem evR_ok {rc : List Nat → Nat → Rs} {others : List Nat} (ho : Sm others) (hrc : ∀ args fuel, Sm args → (rc args fuel).2.2 ≤ fuel ∧ ((rc args fuel).1 = true → (rc args fuel).2.1 ≤ 1000)) :
    ∀ (r x : Nat) (s : Rs), r + x ≤ 1000 → (s.1 = true → s.2.1 ≤ 1000) → (evR rc others r x s).2.2 ≤ s.2.2 ∧ ((evR rc others r x s).1 = true → (evR rc others r x s).2.1 ≤ 1000)
  | 0, x, s, _, h => ⟨Nat.le_refl _, h⟩
  | r + 1, x, s, hx, h => by
    simp only [evR]
    split
    · rename_i hs
      have hsm : Sm (others ++ [x, s.2.1]) := fun a ha => by
        rcases List.mem_append.1 ha with ha | ha
        · exact ho a ha
        · simp only [List.mem_cons, List.not_mem_nil, or_false] at ha
          rcases ha with rfl | rfl
          · omega
          · exact h hs
      have h1 := hrc _ s.2.2 hsm
      have h2 := evR_ok ho hrc r (x + 1) (rc (others ++ [x, s.2.1]) s.2.2) (by omega) h1.2
      exact ⟨by omega, h2.2⟩
    · exact ⟨Nat.le_refl _, h⟩
theorem sm_take {args : List Nat} (h : Sm args) (n : Nat) : Sm (args.take n) := fun a ha => h a (List.mem_of_mem_take ha)
theorem evF_ok (l : List Fn) : ∀ d, RcOk (evF l d)
  | 0 => fun i args fuel _ => ⟨Nat.zero_le _, fun h => by cases h⟩
  | d + 1 => fun i args fuel ha => by
    have ih := evF_ok l d
    simp only [evF]
    split
    · exact ⟨Nat.zero_le _, fun h => by cases h⟩
    · split
      · exact ⟨Nat.zero_le _, fun h => by cases h⟩
      · rename_i f hf
        split
        · exact ⟨by simp only; omega, fun h => by simpa using h⟩
        · split
          · exact ⟨by simp only; omega, fun _ => getD_sm ha _⟩
          · split
            · have h1 := evL_ok ih ha f.into (fuel - 1)
              unfold evC
              split
              · rename_i hh
                have h2 := ih f.a.toNat _ (evL (evF l d) args f.into (fuel - 1)).2.2 (h1.2 hh).1
                exact ⟨by omega, h2.2⟩
              · exact ⟨by simp only; omega, fun h => by cases h⟩
            · split
              · have h1 := ih f.a.toNat (args.take (f.args - 1).toNat) (fuel - 1) (sm_take ha _)
                have h2 := evR_ok (rc := evF l d f.b.toNat) (sm_take ha (f.args - 1).toNat) (fun a fu h => ih f.b.toNat a fu h) (args.getD (f.args - 1).toNat 0) 0 (evF l d f.a.toNat (args.take (f.args - 1).toNat) (fuel - 1)) (by have := getD_sm ha (f.args - 1).toNat; omega) h1.2
                unfold evA
                exact ⟨by omega, h2.2⟩
              · exact ⟨by simp only; omega, fun _ => by simp⟩

/-- arguments that are for a function -/
structure VA (l : List Fn) (i : Nat) (args : List Nat) : Prop where
  lt : i < l.length
  len : (args.length : Int) = l[i].args
  sm : Sm args
theorem good_args {l : List Fn} (h : Good l) {i : Nat} (hi : i < l.length) : ∀ u ∈ usL l[i], ∃ hu : u.1.toNat < i, l[u.1.toNat].args = u.2 := fun u hu => by
  have h1 := (h.okF hi).uses u hu
  have h2 := (fErr_zero (h.ok i hi)).2 u hu
  obtain ⟨hj, e⟩ := argsAt_take (l := l) (k := i) h1 (by omega)
  exact ⟨by omega, by rw [← e, h2]⟩

end Go.Av
