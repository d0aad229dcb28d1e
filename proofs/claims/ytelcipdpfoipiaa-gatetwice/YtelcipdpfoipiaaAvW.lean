/- What a function's compiled code is; the words of the reckoning. -/
import Derived.Test.YtelcipdpfoipiaaAvV
namespace Go.Av

/-- a function's code, its results, how many temporaries -/
def compiled (P : Program) (f : FuncId) : Option (MCode × List RV × Nat) :=
  match P.funcs[f]? with
  | some fn => match fn.body with
    | some c => match cCode P fn.ntmps (topA P c) c, cRVs P fn.results.toList, callable P f with
      | some mc, some rvs, true => some (mc, rvs, fn.ntmps)
      | _, _, _ => none
    | none => none
  | none => none

def Ends (r : AV) (rm : List MObj) (rvs : List RV) : WP := fun e t m _ => match e with
  | .ex _ => False
  | _ => Told r rm rvs t m

theorem fn_of {P : Program} {f : FuncId} {mc : MCode} {rvs : List RV} {N : Nat} {args : List AV} {r : AV} {rm : List MObj} (h : compiled P f = some (mc, rvs, N)) (hn : args.length ≤ N)
    (hv : vcg P mc (Ends r rm rvs) (argT 0 args) [] 0) : CallsA P f args r rm := by
  unfold compiled at h
  split at h
  · rename_i fn hf
    split at h
    · rename_i c hb
      split at h
      · rename_i mc' rvs' h1 h2 h3
        simp only [Option.some.injEq, Prod.mk.injEq] at h
        obtain ⟨rfl, rfl, rfl⟩ := h
        exact fn_ok hf hb h3 h1 h2 hn hv
      · cases h
    · cases h
  · cases h

/-- nothing that is the caller's from then on -/
def Ends0 (r : AV) (rvs : List RV) : WP := fun e t m _ => match e with
  | .ex _ => False
  | _ => vress t m rvs fun xs => Wk (frz [] m (one xs)) r

theorem vress_mono {t : Tmps} {m : Mem} : ∀ {l : List RV} {G G' : List AV → Prop}, vress t m l G → (∀ xs, G xs → G' xs) → vress t m l G' := by
  intro l
  induction l with
  | nil => intro G G' h hG; exact hG _ h
  | cons x l ih =>
    intro G G' h hG
    have up : ∀ {H H' : AV → Prop}, vres t m x H → (∀ y, H y → H' y) → vres t m x H' := fun {H H'} h hH => by
      cases x with
      | t s => exact hH _ h
      | c s n =>
        simp only [vres] at h ⊢
        split at h
        · split at h
          · exact ldc_mono h hH
          · exact h.elim
        · exact h.elim
    exact up h (fun y hy => ih hy (fun ys h2 => hG _ h2))

theorem fn_of0 {P : Program} {f : FuncId} {mc : MCode} {rvs : List RV} {N : Nat} {args : List AV} {r : AV} (h : compiled P f = some (mc, rvs, N)) (hn : args.length ≤ N)
    (hv : vcg P mc (Ends0 r rvs) (argT 0 args) [] 0) : CallsA P f args r [] := by
  refine fn_of h hn (vcg_mono mc _ _ _ _ _ (fun e t m n hh => ?_) hv)
  have go : vress t m rvs (fun xs => Wk (frz [] m (one xs)) r) → Told r [] rvs t m := fun h2 =>
    vress_mono h2 (fun xs hx => ⟨[], hx, rfl, List.nodup_nil, fun i k o hi => by simp at hi⟩)
  cases e with
  | norm => exact go hh
  | ret => exact go hh
  | ex id => exact hh.elim

/-- a loop that makes nothing -/
theorem loop0 {P : Program} {b : MCode} {D : List Nat} {Q : WP} {t : Tmps} {m : Mem} {n : Nat} (ι : Type) (ss : List Nat) (vs : ι → List AV) (inv : ι → Prop) (μ : ι → Nat)
    (hD : (ss.all fun i => D.contains i) = true) (x0 : ι) (h0 : inv x0) (hb : Back n ss (vs x0) [] m [] t m)
    (body : ∀ x, inv x → vcg P b (fun e t' m' n' => match e with
      | .norm => ∃ x', inv x' ∧ μ x' < μ x ∧ Back n ss (vs x') [] m [] t' m'
      | e => Q e t' m' n') (zipT ss (vs x) ++ (deads D ++ t)) m n) : LoopVC (vcg P b) D Q t m n := by
  refine ⟨ι, ss, vs, fun _ => [], 0, inv, μ, hD, ⟨x0, [], rfl, h0, hb⟩, fun x hx => vcg_mono b _ _ _ _ _ (fun e t m n h => ?_) (body x hx)⟩
  cases e with
  | norm => exact match h with | ⟨x', h1, h2, h3⟩ => ⟨x', [], [], rfl, h1, h2, h3.f⟩
  | _ => exact h

end Go.Av
