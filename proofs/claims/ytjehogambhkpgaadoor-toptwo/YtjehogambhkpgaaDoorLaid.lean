/- What the listed package-level variables hold: from the statement's form to the frame's. -/
import Derived.Test.YtjehogambhkpgaaDoorRows
import Derived.Test.YtjehogambhkpgaaDoorAvX
import Derived.ProofKit
import Derived.LaidLaws
import Derived.Handed
set_option linter.unusedSimpArgs false
set_option linter.unusedVariables false
set_option maxRecDepth 100000
namespace Go.Av
open Go.Proofs

/-- a variable that is an array of numbers -/
theorem laid_flat {H : Type} {enc : TypeId × Value → H} {P : Program} {W : World} {n : String} {g L fuel : Nat} {t e : TypeId} {kd : IntKind} {cs : Array Value} {held : Bool} {sp : Nat → Bool} {ns : List Int} {p : List MemPlace}
    (hu : P.underlying t = some (.array L e)) (he : P.underlying e = some (.int kd)) (hc : P.cellsOf e = 1) (hg : P.globalNamed n = some g) (hvar : W.var? P n = some cs)
    (hd : DataW.trod enc P W 0 sp held fuel t cs.toList = some (.agg (ns.map fun x => .lit (.int kd x)), p)) :
    R0 W (OldS W) (.rp (ns.map fun x => .v (.int kd x))) (.pointer (some ⟨g, 0, none⟩)) := by
  obtain ⟨xs, m, _, hx, _, hl, hh⟩ := DataW.trod_array hu hd
  have hx1 : ns.map (fun x => DataW.lit (Lit.int kd x)) = xs.map (·.1) := by
    have := (Prod.mk.inj hx).1
    simpa using this
  have hlen : ns.length = L := by have := congrArg List.length hx1; simp at this; omega
  have hcell : ∀ i (hi : i < ns.length), cs[i]? = some (.int kd ns[i]) := fun i hi => by
    have h1 := hh i (by omega)
    have hi' : i < xs.length := by omega
    rw [List.getElem?_eq_getElem hi'] at h1
    obtain ⟨q, h2, h3, _⟩ := DataW.trod_int he h1
    rw [hc, Nat.mul_one] at h2
    have h4 : xs[i].1 = DataW.lit (Lit.int kd ns[i]) := by
      have := congrArg (fun l => l[i]?) hx1
      simp [hi, hi'] at this
      exact this.symm
    rw [h3] at h4
    simp only [DataW.lit.injEq, Lit.int.injEq, true_and] at h4
    subst h4
    have h5 : ((cs.toList.drop i).take 1)[0]? = some (.int kd ns[i]) := by rw [h2]; rfl
    simpa using h5
  refine .rp (c := fun j => .int kd (ns.getD j 0)) ?_ (fun j hj => ?_) (fun j y hj => ?_)
  · show g < W.heap.size
    simp only [World.var?, hg, Option.bind_some] at hvar
    apply Nat.lt_of_not_le
    intro hh
    rw [Array.getElem?_eq_none hh] at hvar
    simp at hvar
  · simp only [List.length_map] at hj
    rw [Nat.zero_add, World.var?_cell hg hvar, hcell j hj]
    simp [hj]
  · rw [List.getElem?_map, Option.map_eq_some_iff] at hj
    obtain ⟨x, h1, rfl⟩ := hj
    have : ns.getD j 0 = x := by simp [h1]
    rw [this]; exact .v _

end Go.Av
namespace Go.Proofs.YtjehogambhkpgaaDoor
open Go.Av (SB OldS R0 laid_flat)

theorem gl_named : Tryd.prog.globalNamed "tapeworks/two.primes" = some 0 := by kernel_rfl
theorem gl_type : (Tryd.prog.globals[0]?).map (·.type) = some 47 := by kernel_rfl
theorem gl_und : Tryd.prog.underlying 47 = some (.array 4 3) := by kernel_rfl
theorem gl_elem : Tryd.prog.underlying 3 = some (.int .i64) := by kernel_rfl
theorem gl_cell : Tryd.prog.cellsOf 3 = 1 := by kernel_rfl

theorem sb_of_laid {W : World} (h : laidMet Tryd.prog [("tapeworks/two.primes", Rows.laid_tapeworks_two_primes)] W) : SB W (OldS W) := by
  obtain ⟨ps, ⟨g, t, cs, fuel, p, q, hg, ht, hvar, hd, _, _⟩, _⟩ := h
  obtain rfl := Option.some.inj (gl_named.symm.trans hg)
  obtain rfl := Option.some.inj (gl_type.symm.trans ht)
  refine ⟨fun _ h => h, fun g cs hm => ?_⟩
  simp only [Go.Av.globs, List.mem_singleton, Prod.mk.injEq] at hm
  obtain ⟨rfl, rfl⟩ := hm
  exact laid_flat (ns := [2, 3, 5, 7]) gl_und gl_elem gl_cell hg hvar hd

/-- the settled world, and the variable holds what is listed -/
noncomputable def laidWorld (os : Os) : World :=
  let w0 := World.holding Tryd.prog os ⟨#[], #[], []⟩
  { w0 with heap := w0.heap.modify 0 fun
      | .cells _ t frozen => .cells #[.int .i64 2, .int .i64 3, .int .i64 5, .int .i64 7] t frozen
      | o => o }
theorem laid_met (os : Os) (args : Array Value) : laidMet Tryd.prog [("tapeworks/two.primes", Rows.laid_tapeworks_two_primes)] ((laidWorld os).forCall (fun _ _ => 0) ⟨#[], args, []⟩).memory :=
  laidMet_of_run (ps := [.cell 0 0, .cell 0 1, .cell 0 2, .cell 0 3]) 8 (by kernel_rfl) (by kernel_rfl) (by kernel_rfl)
end Go.Proofs.YtjehogambhkpgaaDoor

