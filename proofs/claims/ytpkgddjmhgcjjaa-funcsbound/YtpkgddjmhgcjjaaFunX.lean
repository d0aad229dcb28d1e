/- Functions: the program's primitive recursion. -/
import Derived.Test.YtpkgddjmhgcjjaaFunJ
set_option linter.unusedSimpArgs false
set_option linter.unusedVariables false
set_option maxRecDepth 100000
namespace Go.Av
open Go.Proofs

theorem recurse_spec (l : List Fn) (f : Fn) (k : Nat) (hof : OkF k f) (h5 : f.kind = 5) (hu : ∀ u ∈ usL f, ∃ h : u.1.toNat < l.length, u.1.toNat < k ∧ l[u.1.toNat].args = u.2) (rc : Nat → List Nat → Nat → Rs) (hrc : RcOk rc) (hcall : CallOk l k rc)
    (args : List Nat) (hal : (args.length : Int) = f.args) (hsm : Sm args) (fuel : Nat) (hfu : fuel ≤ 20000) :
    CallsM Try.prog 31 [.ptr 0 0, encF f, aN args] [bxP l fuel] (rsT (evA rc f args fuel)) [some (bxP l (evA rc f args fuel).2.2)] := by
  have ha := hof.args
  have ha1 := hof.again h5
  have hus : usL f = [(f.a, f.args - 1), (f.b, f.args + 1)] := by rw [usL, if_neg (by omega), if_pos h5]
  have hll : ((args.map IN).length : Int) = f.args := by simp [hal]
  have w1 : IntKind.i64.wrap (f.args - 1) = f.args - 1 := by rw [wrap_id] <;> omega
  have htk : List.drop ((0 : Nat) : Int).toNat (List.take (f.args - 1).toNat (args.map IN)) = (args.take (f.args - 1).toNat).map IN := by simp [List.map_take]
  have hlt : (f.args - 1).toNat < args.length := by omega
  have hgt : (args.map IN)[(f.args - 1).toNat]? = some (IN (args.getD (f.args - 1).toNat 0)) := by
    rw [List.getElem?_map, List.getD_eq_getElem?_getD, List.getElem?_eq_getElem hlt]; rfl
  have hE : evA rc f args fuel = evR (rc f.b.toNat) (args.take (f.args - 1).toNat) (args.getD (f.args - 1).toNat 0) 0 (rc f.a.toNat (args.take (f.args - 1).toNat) fuel) := rfl
  have hol : ((args.take (f.args - 1).toNat).length : Int) = f.args - 1 := by rw [List.length_take]; omega
  have hos : Sm (args.take (f.args - 1).toNat) := sm_take hsm _
  have hlast := getD_sm hsm (f.args - 1).toNat
  rw [hE]
  generalize args.take (f.args - 1).toNat = oth at *
  generalize args.getD (f.args - 1).toNat 0 = last at *
  obtain ⟨hA0, hAk, hAa⟩ := hu (f.a, f.args - 1) (by rw [hus]; simp)
  have hAu := hof.uses (f.a, f.args - 1) (by rw [hus]; simp)
  obtain ⟨hB0, hBk, hBa⟩ := hu (f.b, f.args + 1) (by rw [hus]; simp)
  have hBu := hof.uses (f.b, f.args + 1) (by rw [hus]; simp)
  simp only at hA0 hAk hAa hAu hB0 hBk hBa hBu
  have haN : I f.a = IN f.a.toNat := by rw [IN, Int.toNat_of_nonneg hAu.1]
  have hbN : I f.b = IN f.b.toNat := by rw [IN, Int.toNat_of_nonneg hBu.1]
  have hcl := hcall f.a.toNat oth fuel ⟨hA0, by rw [hAa, hol], hos⟩ hAk hfu
  have hok := hrc f.a.toNat oth fuel hos
  refine fnM_of comp31 (by simp) (by simp) ?_
  unfold code31
  simp (maxSteps := 1000000) only [hll, w1, htk, encF, encU, EA, EB, EC, ED, EE, EF, EG, EH, XA, XB, XC, XD, XE, XF, XG, XH, XI, XJ, XK, XL, XM, reduceIte, ↓reduceIte, Nat.reduceAdd, Nat.reduceLeDiff, Nat.reduceEqDiff, Nat.reduceLT, Nat.reduceSub, Nat.reduceBEq, forall_const, reduceCtorEq, implies_true, exists_eq_left', exists_eq_left, if_true, if_false, undef]
  refine ⟨by omega, by omega, by omega, by omega, _, by rw [w1]; exact hgt, ?_⟩
  simp only [rsT] at hcl
  simp (maxSteps := 1000000) only [w1, htk, haN, hbN, encF, encU, EA, EB, EC, ED, EE, EF, EG, EH, XA, XB, XC, XD, XE, XF, XG, XH, XI, XJ, XK, XL, XM, reduceIte, ↓reduceIte, Nat.reduceAdd, Nat.reduceLeDiff, Nat.reduceEqDiff, Nat.reduceLT, Nat.reduceSub, Nat.reduceBEq, forall_const, reduceCtorEq, implies_true, exists_eq_left', exists_eq_left, if_true, if_false, undef]
  refine callM [some 0] (hcl) (by simp [encF, encU, EA, EB, EC, ED, EE, EF, EG, EH, XA, XB, XC, XD, XE, XF, XG, XH, XI, XJ, XK, XL, XM, reduceIte, ↓reduceIte, Nat.reduceAdd, Nat.reduceLeDiff, Nat.reduceEqDiff, Nat.reduceLT, Nat.reduceSub, Nat.reduceBEq, forall_const, reduceCtorEq, implies_true, exists_eq_left', exists_eq_left, if_true, if_false, undef]) (by simp [encF, encU, EA, EB, EC, ED, EE, EF, EG, EH, XA, XB, XC, XD, XE, XF, XG, XH, XI, XJ, XK, XL, XM, reduceIte, ↓reduceIte, Nat.reduceAdd, Nat.reduceLeDiff, Nat.reduceEqDiff, Nat.reduceLT, Nat.reduceSub, Nat.reduceBEq, forall_const, reduceCtorEq, implies_true, exists_eq_left', exists_eq_left, if_true, if_false, undef]) (by simp [encF, encU, EA, EB, EC, ED, EE, EF, EG, EH, XA, XB, XC, XD, XE, XF, XG, XH, XI, XJ, XK, XL, XM, reduceIte, ↓reduceIte, Nat.reduceAdd, Nat.reduceLeDiff, Nat.reduceEqDiff, Nat.reduceLT, Nat.reduceSub, Nat.reduceBEq, forall_const, reduceCtorEq, implies_true, exists_eq_left', exists_eq_left, if_true, if_false, undef]) ?_
  simp (maxSteps := 1000000) only [encF, encU, EA, EB, EC, ED, EE, EF, EG, EH, XA, XB, XC, XD, XE, XF, XG, XH, XI, XJ, XK, XL, XM, reduceIte, ↓reduceIte, Nat.reduceAdd, Nat.reduceLeDiff, Nat.reduceEqDiff, Nat.reduceLT, Nat.reduceSub, Nat.reduceBEq, forall_const, reduceCtorEq, implies_true, exists_eq_left', exists_eq_left, if_true, if_false, undef]
  generalize rc f.a.toNat oth fuel = s0 at *
  refine loopO (Nat × Rs) [12, 10, 11] (fun s => [IN s.1, IN s.2.2.1, Bo s.2.1]) (fun s => [(0, some (bxP l s.2.2.2))])
    (fun s => s.1 ≤ last ∧ (s.2.1 = true → s.2.2.1 ≤ 1000) ∧ s.2.2.2 ≤ 20000 ∧ evR (rc f.b.toNat) oth last 0 s0 = evR (rc f.b.toNat) oth (last - s.1) s.1 s.2) (fun s => last - s.1) (by decide)
    (0, s0) ⟨by simp, hok.2, by have := hok.1; simp only; omega, rfl⟩ (by simp [Back, BackF, fzT, fzM, fzU, fz, fzL, fzO, kin, SubT, Sub, SubL, SubM, SubO, keepM, srcOk, look, lookM, ev, evs, putT, argT, encF, encU, EA, EB, EC, ED, EE, EF, EG, EH, XA, XB, XC, XD, XE, XF, XG, XH, XI, XJ, XK, XL, XM, reduceIte, ↓reduceIte, Nat.reduceAdd, Nat.reduceLeDiff, Nat.reduceEqDiff, Nat.reduceLT, Nat.reduceSub, Nat.reduceBEq, forall_const, reduceCtorEq, implies_true, exists_eq_left', exists_eq_left, if_true, if_false, undef]) ?_
  rintro ⟨x, ok, v, fu⟩ ⟨hx, hv, hf2, hev⟩
  simp only at hx hv hf2 hev
  have done : (ok = false ∨ x = last) → evR (rc f.b.toNat) oth last 0 s0 = (ok, v, fu) := fun h => by
    rw [hev]
    rcases h with rfl | rfl
    · cases last - x with
      | zero => rfl
      | succ n => rfl
    · rw [Nat.sub_self]; rfl
  cases ok with
  | false =>
    rw [done (.inl rfl)]
    simp (maxSteps := 1000000) only [Bo, rsT, encF, encU, EA, EB, EC, ED, EE, EF, EG, EH, XA, XB, XC, XD, XE, XF, XG, XH, XI, XJ, XK, XL, XM, reduceIte, ↓reduceIte, Nat.reduceAdd, Nat.reduceLeDiff, Nat.reduceEqDiff, Nat.reduceLT, Nat.reduceSub, Nat.reduceBEq, forall_const, reduceCtorEq, implies_true, exists_eq_left', exists_eq_left, if_true, if_false, undef]
    refine ⟨[], ?_⟩
    simp [encF, encU, EA, EB, EC, ED, EE, EF, EG, EH, XA, XB, XC, XD, XE, XF, XG, XH, XI, XJ, XK, XL, XM, reduceIte, ↓reduceIte, Nat.reduceAdd, Nat.reduceLeDiff, Nat.reduceEqDiff, Nat.reduceLT, Nat.reduceSub, Nat.reduceBEq, forall_const, reduceCtorEq, implies_true, exists_eq_left', exists_eq_left, if_true, if_false, undef]
  | true =>
  by_cases c1 : x < last
  rotate_left
  · have f1 : decide ((x : Int) < (last : Int)) = false := by simp [c1]
    rw [done (.inr (by omega))]
    simp (maxSteps := 1000000) only [f1, Bo, rsT, encF, encU, EA, EB, EC, ED, EE, EF, EG, EH, XA, XB, XC, XD, XE, XF, XG, XH, XI, XJ, XK, XL, XM, reduceIte, ↓reduceIte, Nat.reduceAdd, Nat.reduceLeDiff, Nat.reduceEqDiff, Nat.reduceLT, Nat.reduceSub, Nat.reduceBEq, forall_const, reduceCtorEq, implies_true, exists_eq_left', exists_eq_left, if_true, if_false, undef]
    refine ⟨[], ?_⟩
    simp [encF, encU, EA, EB, EC, ED, EE, EF, EG, EH, XA, XB, XC, XD, XE, XF, XG, XH, XI, XJ, XK, XL, XM, reduceIte, ↓reduceIte, Nat.reduceAdd, Nat.reduceLeDiff, Nat.reduceEqDiff, Nat.reduceLT, Nat.reduceSub, Nat.reduceBEq, forall_const, reduceCtorEq, implies_true, exists_eq_left', exists_eq_left, if_true, if_false, undef]
  have f1 : decide ((x : Int) < (last : Int)) = true := by simp [c1]
  have hw : IntKind.i64.wrap ((x : Int) + 1) = ((x + 1 : Nat) : Int) := by rw [wrap_id] <;> omega
  have hv := hv rfl
  have hsm2 : Sm (oth ++ [x, v]) := fun a ha => by
    rcases List.mem_append.1 ha with ha | ha
    · exact hos a ha
    · simp only [List.mem_cons, List.not_mem_nil, or_false] at ha
      rcases ha with rfl | rfl <;> omega
  have hcl2 := hcall f.b.toNat (oth ++ [x, v]) fu ⟨hB0, by rw [hBa]; simp; omega, hsm2⟩ hBk hf2
  have hok2 := hrc f.b.toNat (oth ++ [x, v]) fu hsm2
  have hnx : evR (rc f.b.toNat) oth last 0 s0 = evR (rc f.b.toNat) oth (last - (x + 1)) (x + 1) (rc f.b.toNat (oth ++ [x, v]) fu) := by
    rw [hev, show last - x = (last - (x + 1)) + 1 by omega, evR, if_pos rfl]
  simp only [rsT] at hcl2
  simp (maxSteps := 1000000) only [f1, Bo, encF, encU, EA, EB, EC, ED, EE, EF, EG, EH, XA, XB, XC, XD, XE, XF, XG, XH, XI, XJ, XK, XL, XM, reduceIte, ↓reduceIte, Nat.reduceAdd, Nat.reduceLeDiff, Nat.reduceEqDiff, Nat.reduceLT, Nat.reduceSub, Nat.reduceBEq, forall_const, reduceCtorEq, implies_true, exists_eq_left', exists_eq_left, if_true, if_false, undef]
  refine callD (CallsA.args (concatN oth [x, v] (by simp; omega)) (by simp [encF, encU, EA, EB, EC, ED, EE, EF, EG, EH, XA, XB, XC, XD, XE, XF, XG, XH, XI, XJ, XK, XL, XM, reduceIte, ↓reduceIte, Nat.reduceAdd, Nat.reduceLeDiff, Nat.reduceEqDiff, Nat.reduceLT, Nat.reduceSub, Nat.reduceBEq, forall_const, reduceCtorEq, implies_true, exists_eq_left', exists_eq_left, if_true, if_false, undef])) rfl (by simp [flat, encF, encU, EA, EB, EC, ED, EE, EF, EG, EH, XA, XB, XC, XD, XE, XF, XG, XH, XI, XJ, XK, XL, XM, reduceIte, ↓reduceIte, Nat.reduceAdd, Nat.reduceLeDiff, Nat.reduceEqDiff, Nat.reduceLT, Nat.reduceSub, Nat.reduceBEq, forall_const, reduceCtorEq, implies_true, exists_eq_left', exists_eq_left, if_true, if_false, undef]) (by simp [encF, encU, EA, EB, EC, ED, EE, EF, EG, EH, XA, XB, XC, XD, XE, XF, XG, XH, XI, XJ, XK, XL, XM, reduceIte, ↓reduceIte, Nat.reduceAdd, Nat.reduceLeDiff, Nat.reduceEqDiff, Nat.reduceLT, Nat.reduceSub, Nat.reduceBEq, forall_const, reduceCtorEq, implies_true, exists_eq_left', exists_eq_left, if_true, if_false, undef]) ?_
  simp (maxSteps := 1000000) only [encF, encU, EA, EB, EC, ED, EE, EF, EG, EH, XA, XB, XC, XD, XE, XF, XG, XH, XI, XJ, XK, XL, XM, reduceIte, ↓reduceIte, Nat.reduceAdd, Nat.reduceLeDiff, Nat.reduceEqDiff, Nat.reduceLT, Nat.reduceSub, Nat.reduceBEq, forall_const, reduceCtorEq, implies_true, exists_eq_left', exists_eq_left, if_true, if_false, undef]
  generalize hr2 : rc f.b.toNat (oth ++ [x, v]) fu = s2 at *
  refine callXg [0] [some (bxP l s2.2.2)] [] (hcl2) (by simp [encF, encU, EA, EB, EC, ED, EE, EF, EG, EH, XA, XB, XC, XD, XE, XF, XG, XH, XI, XJ, XK, XL, XM, reduceIte, ↓reduceIte, Nat.reduceAdd, Nat.reduceLeDiff, Nat.reduceEqDiff, Nat.reduceLT, Nat.reduceSub, Nat.reduceBEq, forall_const, reduceCtorEq, implies_true, exists_eq_left', exists_eq_left, if_true, if_false, undef]) rfl (by simp [encF, encU, EA, EB, EC, ED, EE, EF, EG, EH, XA, XB, XC, XD, XE, XF, XG, XH, XI, XJ, XK, XL, XM, reduceIte, ↓reduceIte, Nat.reduceAdd, Nat.reduceLeDiff, Nat.reduceEqDiff, Nat.reduceLT, Nat.reduceSub, Nat.reduceBEq, forall_const, reduceCtorEq, implies_true, exists_eq_left', exists_eq_left, if_true, if_false, undef]) (by simp) (by simp [encF, encU, EA, EB, EC, ED, EE, EF, EG, EH, XA, XB, XC, XD, XE, XF, XG, XH, XI, XJ, XK, XL, XM, reduceIte, ↓reduceIte, Nat.reduceAdd, Nat.reduceLeDiff, Nat.reduceEqDiff, Nat.reduceLT, Nat.reduceSub, Nat.reduceBEq, forall_const, reduceCtorEq, implies_true, exists_eq_left', exists_eq_left, if_true, if_false, undef]) (by simp [plainO, kfs, AV.kf, encF, encU, EA, EB, EC, ED, EE, EF, EG, EH, XA, XB, XC, XD, XE, XF, XG, XH, XI, XJ, XK, XL, XM, reduceIte, ↓reduceIte, Nat.reduceAdd, Nat.reduceLeDiff, Nat.reduceEqDiff, Nat.reduceLT, Nat.reduceSub, Nat.reduceBEq, forall_const, reduceCtorEq, implies_true, exists_eq_left', exists_eq_left, if_true, if_false, undef]) (by simp [encF, encU, EA, EB, EC, ED, EE, EF, EG, EH, XA, XB, XC, XD, XE, XF, XG, XH, XI, XJ, XK, XL, XM, reduceIte, ↓reduceIte, Nat.reduceAdd, Nat.reduceLeDiff, Nat.reduceEqDiff, Nat.reduceLT, Nat.reduceSub, Nat.reduceBEq, forall_const, reduceCtorEq, implies_true, exists_eq_left', exists_eq_left, if_true, if_false, undef]) (by simp [encF, encU, EA, EB, EC, ED, EE, EF, EG, EH, XA, XB, XC, XD, XE, XF, XG, XH, XI, XJ, XK, XL, XM, reduceIte, ↓reduceIte, Nat.reduceAdd, Nat.reduceLeDiff, Nat.reduceEqDiff, Nat.reduceLT, Nat.reduceSub, Nat.reduceBEq, forall_const, reduceCtorEq, implies_true, exists_eq_left', exists_eq_left, if_true, if_false, undef]) (by simp) ?_
  simp (maxSteps := 1000000) only [hw, encF, encU, EA, EB, EC, ED, EE, EF, EG, EH, XA, XB, XC, XD, XE, XF, XG, XH, XI, XJ, XK, XL, XM, reduceIte, ↓reduceIte, Nat.reduceAdd, Nat.reduceLeDiff, Nat.reduceEqDiff, Nat.reduceLT, Nat.reduceSub, Nat.reduceBEq, forall_const, reduceCtorEq, implies_true, exists_eq_left', exists_eq_left, if_true, if_false, undef]
  exact ⟨(x + 1, s2), ⟨by simp only; omega, hok2.2, by have := hok2.1; simp only; omega, hnx⟩, by simp only; omega, by simp [Back, BackF, fzT, fzM, fzU, fz, fzL, fzO, kin, SubT, Sub, SubL, SubM, SubO, keepM, srcOk, look, lookM, ev, evs, putT, argT, encF, encU, EA, EB, EC, ED, EE, EF, EG, EH, XA, XB, XC, XD, XE, XF, XG, XH, XI, XJ, XK, XL, XM, reduceIte, ↓reduceIte, Nat.reduceAdd, Nat.reduceLeDiff, Nat.reduceEqDiff, Nat.reduceLT, Nat.reduceSub, Nat.reduceBEq, forall_const, reduceCtorEq, implies_true, exists_eq_left', exists_eq_left, if_true, if_false, undef]⟩

theorem call_spec (l : List Fn) (hg : Good l) : ∀ d, CallOk l d (evF l d) := by
  intro d
  induction d with
  | zero => intro j args fuel _ hj; omega
  | succ d ih =>
  intro i args fuel hva hi hfu
  have hil := hva.lt
  have hof := hg.okF hil
  have hus : ∀ u ∈ usL l[i], ∃ h : u.1.toNat < l.length, u.1.toNat < i ∧ l[u.1.toNat].args = u.2 := fun u hu => by
    obtain ⟨h1, h2⟩ := good_args hg hil u hu
    exact ⟨by omega, h1, h2⟩
  have hci : CallOk l i (evF l d) := fun j a fu h1 h2 h3 => ih j a fu h1 (by omega) h3
  have hal := hva.len
  have hsm := hva.sm
  have hE : evF l (d + 1) i args fuel = if fuel = 0 then (false, 0, 0) else if l[i].kind = 2 then (decide (args.getD 0 0 + 1 ≤ 1000), args.getD 0 0 + 1, fuel - 1)
      else if l[i].kind = 3 then (true, args.getD l[i].pick.toNat 0, fuel - 1)
      else if l[i].kind = 4 then evC (evF l d) l[i] args (fuel - 1)
      else if l[i].kind = 5 then evA (evF l d) l[i] args (fuel - 1)
      else (true, 0, fuel - 1) := by simp only [evF, List.getElem?_eq_getElem hil]
  refine fnM_of comp21 (by simp) (by simp) ?_
  unfold code21
  by_cases h0 : fuel = 0
  · subst h0
    rw [hE, if_pos rfl]
    have g0 : (((0 : Nat) : Int) == 0) = true := by decide
    simp (maxSteps := 1000000) only [g0, rsT, Bo, encF, encU, EA, EB, EC, ED, EE, EF, EG, EH, XA, XB, XC, XD, XE, XF, XG, XH, XI, XJ, XK, XL, XM, reduceIte, ↓reduceIte, Nat.reduceAdd, Nat.reduceLeDiff, Nat.reduceEqDiff, Nat.reduceLT, Nat.reduceSub, Nat.reduceBEq, forall_const, reduceCtorEq, implies_true, exists_eq_left', exists_eq_left, if_true, if_false, undef]
    refine ⟨[], ?_⟩
    simp [encF, encU, EA, EB, EC, ED, EE, EF, EG, EH, XA, XB, XC, XD, XE, XF, XG, XH, XI, XJ, XK, XL, XM, reduceIte, ↓reduceIte, Nat.reduceAdd, Nat.reduceLeDiff, Nat.reduceEqDiff, Nat.reduceLT, Nat.reduceSub, Nat.reduceBEq, forall_const, reduceCtorEq, implies_true, exists_eq_left', exists_eq_left, if_true, if_false, undef]
  have g0 : ((fuel : Int) == 0) = false := beq_false_of_ne (by omega)
  have w1 : IntKind.i64.wrap ((fuel : Int) - 1) = ((fuel - 1 : Nat) : Int) := by rw [wrap_id] <;> omega
  rw [if_neg h0] at hE
  have hll : ((l.map encF).length : Int) = l.length := by simp
  simp (maxSteps := 1000000) only [g0, w1, encF, encU, EA, EB, EC, ED, EE, EF, EG, EH, XA, XB, XC, XD, XE, XF, XG, XH, XI, XJ, XK, XL, XM, reduceIte, ↓reduceIte, Nat.reduceAdd, Nat.reduceLeDiff, Nat.reduceEqDiff, Nat.reduceLT, Nat.reduceSub, Nat.reduceBEq, forall_const, reduceCtorEq, implies_true, exists_eq_left', exists_eq_left, if_true, if_false, undef]
  refine ⟨by omega, pickM hil ?_⟩
  generalize l[i] = f at *
  generalize hfp : fuel - 1 = fp at *
  simp (maxSteps := 1000000) only [w1, encF, encU, EA, EB, EC, ED, EE, EF, EG, EH, XA, XB, XC, XD, XE, XF, XG, XH, XI, XJ, XK, XL, XM, reduceIte, ↓reduceIte, Nat.reduceAdd, Nat.reduceLeDiff, Nat.reduceEqDiff, Nat.reduceLT, Nat.reduceSub, Nat.reduceBEq, forall_const, reduceCtorEq, implies_true, exists_eq_left', exists_eq_left, if_true, if_false, undef]
  by_cases k2 : f.kind = 2
  · have g2 : (f.kind == 2) = true := by simpa using k2
    have hlen : args.length = 1 := by have := hof.next k2; omega
    have hgt : (args.map IN)[Int.toNat 0]? = some (IN (args.getD 0 0)) := by
      rw [List.getElem?_map, List.getD_eq_getElem?_getD, show Int.toNat 0 = 0 from rfl, List.getElem?_eq_getElem (by omega)]; rfl
    have hle := getD_sm hsm 0
    have w2 : IntKind.i64.wrap ((args.getD 0 0 : Int) + 1) = ((args.getD 0 0 + 1 : Nat) : Int) := by rw [wrap_id] <;> omega
    have hd : decide (((args.getD 0 0 + 1 : Nat) : Int) ≤ 1000) = decide (args.getD 0 0 + 1 ≤ 1000) := by rw [decide_eq_decide]; omega
    rw [if_pos k2] at hE
    rw [hE]
    generalize args.getD 0 0 = y at *
    simp (maxSteps := 1000000) only [g2, encF, encU, EA, EB, EC, ED, EE, EF, EG, EH, XA, XB, XC, XD, XE, XF, XG, XH, XI, XJ, XK, XL, XM, reduceIte, ↓reduceIte, Nat.reduceAdd, Nat.reduceLeDiff, Nat.reduceEqDiff, Nat.reduceLT, Nat.reduceSub, Nat.reduceBEq, forall_const, reduceCtorEq, implies_true, exists_eq_left', exists_eq_left, if_true, if_false, undef]
    refine ⟨by omega, _, hgt, ?_⟩
    simp (maxSteps := 1000000) only [w2, hd, rsT, Bo, encF, encU, EA, EB, EC, ED, EE, EF, EG, EH, XA, XB, XC, XD, XE, XF, XG, XH, XI, XJ, XK, XL, XM, reduceIte, ↓reduceIte, Nat.reduceAdd, Nat.reduceLeDiff, Nat.reduceEqDiff, Nat.reduceLT, Nat.reduceSub, Nat.reduceBEq, forall_const, reduceCtorEq, implies_true, exists_eq_left', exists_eq_left, if_true, if_false, undef]
    refine ⟨[], ?_⟩
    simp [encF, encU, EA, EB, EC, ED, EE, EF, EG, EH, XA, XB, XC, XD, XE, XF, XG, XH, XI, XJ, XK, XL, XM, reduceIte, ↓reduceIte, Nat.reduceAdd, Nat.reduceLeDiff, Nat.reduceEqDiff, Nat.reduceLT, Nat.reduceSub, Nat.reduceBEq, forall_const, reduceCtorEq, implies_true, exists_eq_left', exists_eq_left, if_true, if_false, undef]
  have g2 : (f.kind == 2) = false := by simpa using k2
  rw [if_neg k2] at hE
  by_cases k3 : f.kind = 3
  · have g3 : (f.kind == 3) = true := by simpa using k3
    have hp := hof.pick k3
    have hgt : (args.map IN)[f.pick.toNat]? = some (IN (args.getD f.pick.toNat 0)) := by
      rw [List.getElem?_map, List.getD_eq_getElem?_getD, List.getElem?_eq_getElem (by omega)]; rfl
    rw [if_pos k3] at hE
    rw [hE]
    generalize args.getD f.pick.toNat 0 = y at *
    simp (maxSteps := 1000000) only [g2, g3, encF, encU, EA, EB, EC, ED, EE, EF, EG, EH, XA, XB, XC, XD, XE, XF, XG, XH, XI, XJ, XK, XL, XM, reduceIte, ↓reduceIte, Nat.reduceAdd, Nat.reduceLeDiff, Nat.reduceEqDiff, Nat.reduceLT, Nat.reduceSub, Nat.reduceBEq, forall_const, reduceCtorEq, implies_true, exists_eq_left', exists_eq_left, if_true, if_false, undef]
    refine ⟨hp.1, _, hgt, ?_⟩
    simp (maxSteps := 1000000) only [rsT, Bo, encF, encU, EA, EB, EC, ED, EE, EF, EG, EH, XA, XB, XC, XD, XE, XF, XG, XH, XI, XJ, XK, XL, XM, reduceIte, ↓reduceIte, Nat.reduceAdd, Nat.reduceLeDiff, Nat.reduceEqDiff, Nat.reduceLT, Nat.reduceSub, Nat.reduceBEq, forall_const, reduceCtorEq, implies_true, exists_eq_left', exists_eq_left, if_true, if_false, undef]
    refine ⟨[], ?_⟩
    simp [encF, encU, EA, EB, EC, ED, EE, EF, EG, EH, XA, XB, XC, XD, XE, XF, XG, XH, XI, XJ, XK, XL, XM, reduceIte, ↓reduceIte, Nat.reduceAdd, Nat.reduceLeDiff, Nat.reduceEqDiff, Nat.reduceLT, Nat.reduceSub, Nat.reduceBEq, forall_const, reduceCtorEq, implies_true, exists_eq_left', exists_eq_left, if_true, if_false, undef]
  have g3 : (f.kind == 3) = false := by simpa using k3
  rw [if_neg k3] at hE
  by_cases k4 : f.kind = 4
  · have g4 : (f.kind == 4) = true := by simpa using k4
    rw [if_pos k4] at hE
    have hcl := compose_spec l f i hof k4 hus (evF l d) (evF_ok l d) hci args hal hsm fp (by omega)
    rw [hE]
    generalize evC (evF l d) f args fp = s at *
    simp only [rsT] at hcl ⊢
    simp (maxSteps := 1000000) only [g2, g3, g4, encF, encU, EA, EB, EC, ED, EE, EF, EG, EH, XA, XB, XC, XD, XE, XF, XG, XH, XI, XJ, XK, XL, XM, reduceIte, ↓reduceIte, Nat.reduceAdd, Nat.reduceLeDiff, Nat.reduceEqDiff, Nat.reduceLT, Nat.reduceSub, Nat.reduceBEq, forall_const, reduceCtorEq, implies_true, exists_eq_left', exists_eq_left, if_true, if_false, undef]
    refine callM [some 0] (hcl) (by simp [ encF,encF, encU, EA, EB, EC, ED, EE, EF, EG, EH, XA, XB, XC, XD, XE, XF, XG, XH, XI, XJ, XK, XL, XM, reduceIte, ↓reduceIte, Nat.reduceAdd, Nat.reduceLeDiff, Nat.reduceEqDiff, Nat.reduceLT, Nat.reduceSub, Nat.reduceBEq, forall_const, reduceCtorEq, implies_true, exists_eq_left', exists_eq_left, if_true, if_false, undef]) (by simp [encF, encU, EA, EB, EC, ED, EE, EF, EG, EH, XA, XB, XC, XD, XE, XF, XG, XH, XI, XJ, XK, XL, XM, reduceIte, ↓reduceIte, Nat.reduceAdd, Nat.reduceLeDiff, Nat.reduceEqDiff, Nat.reduceLT, Nat.reduceSub, Nat.reduceBEq, forall_const, reduceCtorEq, implies_true, exists_eq_left', exists_eq_left, if_true, if_false, undef]) (by simp [ encF,encF, encU, EA, EB, EC, ED, EE, EF, EG, EH, XA, XB, XC, XD, XE, XF, XG, XH, XI, XJ, XK, XL, XM, reduceIte, ↓reduceIte, Nat.reduceAdd, Nat.reduceLeDiff, Nat.reduceEqDiff, Nat.reduceLT, Nat.reduceSub, Nat.reduceBEq, forall_const, reduceCtorEq, implies_true, exists_eq_left', exists_eq_left, if_true, if_false, undef]) ?_
    simp (maxSteps := 1000000) only [encF, encU, EA, EB, EC, ED, EE, EF, EG, EH, XA, XB, XC, XD, XE, XF, XG, XH, XI, XJ, XK, XL, XM, reduceIte, ↓reduceIte, Nat.reduceAdd, Nat.reduceLeDiff, Nat.reduceEqDiff, Nat.reduceLT, Nat.reduceSub, Nat.reduceBEq, forall_const, reduceCtorEq, implies_true, exists_eq_left', exists_eq_left, if_true, if_false, undef]
    refine ⟨[], ?_⟩
    simp [encF, encU, EA, EB, EC, ED, EE, EF, EG, EH, XA, XB, XC, XD, XE, XF, XG, XH, XI, XJ, XK, XL, XM, reduceIte, ↓reduceIte, Nat.reduceAdd, Nat.reduceLeDiff, Nat.reduceEqDiff, Nat.reduceLT, Nat.reduceSub, Nat.reduceBEq, forall_const, reduceCtorEq, implies_true, exists_eq_left', exists_eq_left, if_true, if_false, undef]
  have g4 : (f.kind == 4) = false := by simpa using k4
  rw [if_neg k4] at hE
  by_cases k5 : f.kind = 5
  · have g5 : (f.kind == 5) = true := by simpa using k5
    rw [if_pos k5] at hE
    have hcl := recurse_spec l f i hof k5 hus (evF l d) (evF_ok l d) hci args hal hsm fp (by omega)
    rw [hE]
    generalize evA (evF l d) f args fp = s at *
    simp only [rsT] at hcl ⊢
    simp (maxSteps := 1000000) only [g2, g3, g4, g5, encF, encU, EA, EB, EC, ED, EE, EF, EG, EH, XA, XB, XC, XD, XE, XF, XG, XH, XI, XJ, XK, XL, XM, reduceIte, ↓reduceIte, Nat.reduceAdd, Nat.reduceLeDiff, Nat.reduceEqDiff, Nat.reduceLT, Nat.reduceSub, Nat.reduceBEq, forall_const, reduceCtorEq, implies_true, exists_eq_left', exists_eq_left, if_true, if_false, undef]
    refine callM [some 0] (hcl) (by simp [ encF,encF, encU, EA, EB, EC, ED, EE, EF, EG, EH, XA, XB, XC, XD, XE, XF, XG, XH, XI, XJ, XK, XL, XM, reduceIte, ↓reduceIte, Nat.reduceAdd, Nat.reduceLeDiff, Nat.reduceEqDiff, Nat.reduceLT, Nat.reduceSub, Nat.reduceBEq, forall_const, reduceCtorEq, implies_true, exists_eq_left', exists_eq_left, if_true, if_false, undef]) (by simp [encF, encU, EA, EB, EC, ED, EE, EF, EG, EH, XA, XB, XC, XD, XE, XF, XG, XH, XI, XJ, XK, XL, XM, reduceIte, ↓reduceIte, Nat.reduceAdd, Nat.reduceLeDiff, Nat.reduceEqDiff, Nat.reduceLT, Nat.reduceSub, Nat.reduceBEq, forall_const, reduceCtorEq, implies_true, exists_eq_left', exists_eq_left, if_true, if_false, undef]) (by simp [ encF,encF, encU, EA, EB, EC, ED, EE, EF, EG, EH, XA, XB, XC, XD, XE, XF, XG, XH, XI, XJ, XK, XL, XM, reduceIte, ↓reduceIte, Nat.reduceAdd, Nat.reduceLeDiff, Nat.reduceEqDiff, Nat.reduceLT, Nat.reduceSub, Nat.reduceBEq, forall_const, reduceCtorEq, implies_true, exists_eq_left', exists_eq_left, if_true, if_false, undef]) ?_
    simp (maxSteps := 1000000) only [encF, encU, EA, EB, EC, ED, EE, EF, EG, EH, XA, XB, XC, XD, XE, XF, XG, XH, XI, XJ, XK, XL, XM, reduceIte, ↓reduceIte, Nat.reduceAdd, Nat.reduceLeDiff, Nat.reduceEqDiff, Nat.reduceLT, Nat.reduceSub, Nat.reduceBEq, forall_const, reduceCtorEq, implies_true, exists_eq_left', exists_eq_left, if_true, if_false, undef]
    refine ⟨[], ?_⟩
    simp [encF, encU, EA, EB, EC, ED, EE, EF, EG, EH, XA, XB, XC, XD, XE, XF, XG, XH, XI, XJ, XK, XL, XM, reduceIte, ↓reduceIte, Nat.reduceAdd, Nat.reduceLeDiff, Nat.reduceEqDiff, Nat.reduceLT, Nat.reduceSub, Nat.reduceBEq, forall_const, reduceCtorEq, implies_true, exists_eq_left', exists_eq_left, if_true, if_false, undef]
  have g5 : (f.kind == 5) = false := by simpa using k5
  rw [if_neg k5] at hE
  rw [hE]
  simp (maxSteps := 1000000) only [g2, g3, g4, g5, rsT, Bo, encF, encU, EA, EB, EC, ED, EE, EF, EG, EH, XA, XB, XC, XD, XE, XF, XG, XH, XI, XJ, XK, XL, XM, reduceIte, ↓reduceIte, Nat.reduceAdd, Nat.reduceLeDiff, Nat.reduceEqDiff, Nat.reduceLT, Nat.reduceSub, Nat.reduceBEq, forall_const, reduceCtorEq, implies_true, exists_eq_left', exists_eq_left, if_true, if_false, undef]
  refine ⟨[], ?_⟩
  simp [encF, encU, EA, EB, EC, ED, EE, EF, EG, EH, XA, XB, XC, XD, XE, XF, XG, XH, XI, XJ, XK, XL, XM, reduceIte, ↓reduceIte, Nat.reduceAdd, Nat.reduceLeDiff, Nat.reduceEqDiff, Nat.reduceLT, Nat.reduceSub, Nat.reduceBEq, forall_const, reduceCtorEq, implies_true, exists_eq_left', exists_eq_left, if_true, if_false, undef]

end Go.Av
