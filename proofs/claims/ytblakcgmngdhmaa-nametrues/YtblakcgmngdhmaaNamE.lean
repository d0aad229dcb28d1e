/- Clauses: what the program's functions are to tell; shapes. -/
import Derived.Test.YtblakcgmngdhmaaNamD
import Derived.Test.YtblakcgmngdhmaaGateD
set_option linter.unusedSimpArgs false
set_option linter.unusedVariables false
set_option maxRecDepth 100000
namespace Go.Av
open Go.Proofs

structure ClLen (l : List Cl) : Prop where
  len : (l.length : Int) < 2 ^ 63
  at_ : ∀ c ∈ l, (c.yes.length : Int) < 2 ^ 63 ∧ (c.no.length : Int) < 2 ^ 63
def trueAns (vars : Int) (l : List Cl) (v : List Bool) : AV :=
  if clausesErr vars 200 l ≠ 0 then .tup [Bo false, I (clausesErr vars 200 l)] else if (v.length : Int) ≠ vars then .tup [Bo false, I 3] else .tup [Bo (allT l v), I 0]
def manyAns (vars : Int) (l : List Cl) : AV :=
  if clausesErr vars 8 l ≠ 0 then .tup [I 0, I (clausesErr vars 8 l)] else .tup [IN (manyN vars.toNat l), I 0]

/-- clauses that are a circuit: on each word of inputs one completion if it is, none if not -/
structure Named (n : Nat) (l : List Gt) (vs : Nat) (c : List Cl) : Prop where
  lo : n ≤ vs
  hi : vs ≤ n + l.length
  len : c.length ≤ 4 * l.length + 8
  three : ∀ k ∈ c, k.yes.length + k.no.length ≤ 3
  ins : ∀ k ∈ c, insB vs k.yes = true ∧ insB vs k.no = true
  ways : ∀ w, w < 2 ^ n → cntS c [] (fst n vs w) = (gval w l).toNat
theorem Named.ok {n : Nat} {l : List Gt} {vs : Nat} {c : List Cl} (h : Named n l vs c) : ClsOk vs c := fun k hk =>
  ⟨by have := h.three k hk; omega, by have := h.three k hk; omega, insB_iff.1 (h.ins k hk).1, insB_iff.1 (h.ins k hk).2⟩
theorem fstH_bits (k n w : Nat) : fstH n (bitsL k w) = fst k n w := by rw [fstH, fst, bitsL_length]

theorem hasAgg2N {a b : Sh} {x : AV} (h : Has (.agg [a, b]) x) : ∃ y z, Has a y ∧ Has b z ∧ x = .agg (y.cells ++ z.cells) := by
  cases h with
  | agg hl hh =>
    rename_i ys
    match ys, hl, hh with
    | [y, z], _, hh => exact ⟨y, z, hh 0 _ _ rfl rfl, hh 1 _ _ rfl rfl, by simp⟩
def shCl : Sh := .agg [.slice 1 (.int .i64), .slice 1 (.int .i64)]
def shCls : Sh := .slice 2 (.agg [.slice 1 (.int .i64), .slice 1 (.int .i64)])
theorem hasClause {x : AV} (h : Has (.agg [.slice 1 (.int .i64), .slice 1 (.int .i64)]) x) : ∃ c : Cl, x = encCl c ∧ (c.yes.length : Int) < 2 ^ 63 ∧ (c.no.length : Int) < 2 ^ 63 := by
  obtain ⟨a, b, ha, hb, rfl⟩ := hasAgg2N h
  obtain ⟨l, rfl, hl⟩ := hasInts ha
  obtain ⟨m, rfl, hm⟩ := hasInts hb
  exact ⟨⟨l, m⟩, rfl, hl, hm⟩
theorem map_I_inj : ∀ {a b : List Int}, a.map I = b.map I → a = b
  | [], [], _ => rfl
  | [], _ :: _, h => by simp at h
  | _ :: _, [], h => by simp at h
  | x :: a, y :: b, h => by
    simp only [List.map_cons, List.cons.injEq, AV.v.injEq, Value.int.injEq, true_and] at h
    rw [h.1, map_I_inj h.2]
theorem encCl_inj {c d : Cl} (h : encCl c = encCl d) : c = d := by
  obtain ⟨a, b⟩ := c
  obtain ⟨a', b'⟩ := d
  simp only [encCl, AV.agg.injEq, List.cons.injEq, AV.ro.injEq, true_and, and_true] at h
  rw [map_I_inj h.1, map_I_inj h.2]
theorem hasClauses {x : AV} (h : Has (.slice 2 (.agg [.slice 1 (.int .i64), .slice 1 (.int .i64)])) x) : ∃ l : List Cl, x = .ro 2 (l.map encCl) ∧ ClLen l := by
  cases h with
  | slice hl hh =>
    obtain ⟨l, rfl⟩ := listOf (enc := encCl) (fun i x hx => by obtain ⟨c, rfl, _⟩ := hasClause (hh i x hx); exact ⟨c, rfl⟩)
    refine ⟨l, rfl, ⟨?_, fun c hc => ?_⟩⟩
    · simp only [List.length_map] at hl
      have : maxLen < 2 ^ 63 := by decide
      omega
    · obtain ⟨i, hi, rfl⟩ := List.getElem_of_mem hc
      obtain ⟨d, h1, h2⟩ := hasClause (hh i (encCl l[i]) (by simp [hi]))
      rwa [← encCl_inj h1] at h2
theorem hasBoolsN {x : AV} (h : Has (.slice 1 .bool) x) : ∃ l : List Bool, x = .ro 1 (l.map Bo) ∧ (l.length : Int) < 2 ^ 63 := by
  cases h with
  | slice hl hh =>
    obtain ⟨l, rfl⟩ := listOf (enc := Bo) (fun i x hx => by cases hh i x hx with | bool b => exact ⟨b, rfl⟩)
    refine ⟨l, rfl, ?_⟩
    simp only [List.length_map] at hl
    have : maxLen < 2 ^ 63 := by decide
    omega

end Go.Av
