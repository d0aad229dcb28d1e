/- The program's run of a machine. -/
import Derived.Test.YtoffjeeajdmgfaaTapeR
set_option linter.unusedSimpArgs false
set_option linter.unusedVariables false
set_option maxRecDepth 100000
namespace Go.Av
open Go.Proofs

def nowErr (M : Mach) (n : Now) : Int :=
  if (n.tape.length : Int) > 60 then 1
  else if ¬((0 ≤ n.st ∧ n.st ≤ M.states) ∧ (-60 ≤ n.head ∧ n.head ≤ 60) ∧ (-60 ≤ n.first ∧ n.first ≤ 60)) then 4
  else if (n.tape.all fun i => decide (0 ≤ i ∧ i < M.signs)) = false then 2 else 0

theorem checkNow_spec (M : Mach) (n : Now) (hm : MOk M) (hl : (n.tape.length : Int) < 2 ^ 63) : CallsA Try.prog 44 [encM M, encN n] (I (nowErr M n)) [] := by
  have := hm.g2
  have := hm.g4
  have hw1 : IntKind.i64.wrap (M.signs - 1) = M.signs - 1 := by rw [wrap_id] <;> omega
  refine fn_of0 comp44 (by simp) ?_
  unfold code44
  simp only [encM, encN, encS, encE_T, mput_enc, mfind_enc, XX, reduceIte, ↓reduceIte, Nat.reduceAdd, Nat.reduceLeDiff, Nat.reduceEqDiff, Nat.reduceLT, Nat.reduceSub, Nat.reduceBEq, forall_const, reduceCtorEq, implies_true, exists_eq_left', exists_eq_left, if_true, if_false, undef]
  refine ⟨fun h1 => ?_, fun h1 => ?_⟩ <;> try simp (maxSteps := 1000000) only [encS, encE_T, mput_enc, mfind_enc, XX, reduceIte, ↓reduceIte, Nat.reduceAdd, Nat.reduceLeDiff, Nat.reduceEqDiff, Nat.reduceLT, Nat.reduceSub, Nat.reduceBEq, forall_const, reduceCtorEq, implies_true, exists_eq_left', exists_eq_left, if_true, if_false, undef]
  · simp at h1; simp [nowErr, h1]
  simp at h1
  have fin4 : ¬((0 ≤ n.st ∧ n.st ≤ M.states) ∧ (-60 ≤ n.head ∧ n.head ≤ 60) ∧ (-60 ≤ n.first ∧ n.first ≤ 60)) → nowErr M n = 4 := fun h => by
    rw [nowErr, if_neg (by omega), if_pos h]
  refine callA (CallsA.args (between_spec 0 M.states) (by simp [encS, encE_T, mput_enc, mfind_enc, XX, undef])) rfl ?_
  simp (maxSteps := 1000000) only [encS, encE_T, mput_enc, mfind_enc, XX, reduceIte, ↓reduceIte, Nat.reduceAdd, Nat.reduceLeDiff, Nat.reduceEqDiff, Nat.reduceLT, Nat.reduceSub, Nat.reduceBEq, forall_const, reduceCtorEq, implies_true, exists_eq_left', exists_eq_left, if_true, if_false, undef]
  refine callA (CallsA.args (between_spec (-60) 60) (by simp [encS, encE_T, mput_enc, mfind_enc, XX, undef])) rfl ?_
  simp (maxSteps := 1000000) only [encS, encE_T, mput_enc, mfind_enc, XX, reduceIte, ↓reduceIte, Nat.reduceAdd, Nat.reduceLeDiff, Nat.reduceEqDiff, Nat.reduceLT, Nat.reduceSub, Nat.reduceBEq, forall_const, reduceCtorEq, implies_true, exists_eq_left', exists_eq_left, if_true, if_false, undef]
  refine callF (CallsA.args (between1_spec 0 n.st M.states) (by simp [encS, encE_T, mput_enc, mfind_enc, XX, undef])) rfl (by simp [flat, encS, encE_T, mput_enc, mfind_enc, XX, undef]) ?_
  simp (maxSteps := 1000000) only [encS, encE_T, mput_enc, mfind_enc, XX, reduceIte, ↓reduceIte, Nat.reduceAdd, Nat.reduceLeDiff, Nat.reduceEqDiff, Nat.reduceLT, Nat.reduceSub, Nat.reduceBEq, forall_const, reduceCtorEq, implies_true, exists_eq_left', exists_eq_left, if_true, if_false, undef]
  refine ⟨fun h2 => ?_, fun h2 => ?_⟩ <;> try simp (maxSteps := 1000000) only [encS, encE_T, mput_enc, mfind_enc, XX, reduceIte, ↓reduceIte, Nat.reduceAdd, Nat.reduceLeDiff, Nat.reduceEqDiff, Nat.reduceLT, Nat.reduceSub, Nat.reduceBEq, forall_const, reduceCtorEq, implies_true, exists_eq_left', exists_eq_left, if_true, if_false, undef]
  rotate_left
  · simp at h2; rw [fin4 (by omega)]
  refine callF (CallsA.args (between1_spec (-60) n.head 60) (by simp [encS, encE_T, mput_enc, mfind_enc, XX, undef])) rfl (by simp [flat, encS, encE_T, mput_enc, mfind_enc, XX, undef]) ?_
  simp (maxSteps := 1000000) only [encS, encE_T, mput_enc, mfind_enc, XX, reduceIte, ↓reduceIte, Nat.reduceAdd, Nat.reduceLeDiff, Nat.reduceEqDiff, Nat.reduceLT, Nat.reduceSub, Nat.reduceBEq, forall_const, reduceCtorEq, implies_true, exists_eq_left', exists_eq_left, if_true, if_false, undef]
  refine ⟨fun h3 => ?_, fun h3 => ?_⟩ <;> try simp (maxSteps := 1000000) only [encS, encE_T, mput_enc, mfind_enc, XX, reduceIte, ↓reduceIte, Nat.reduceAdd, Nat.reduceLeDiff, Nat.reduceEqDiff, Nat.reduceLT, Nat.reduceSub, Nat.reduceBEq, forall_const, reduceCtorEq, implies_true, exists_eq_left', exists_eq_left, if_true, if_false, undef]
  rotate_left
  · simp at h3; rw [fin4 (by omega)]
  refine callF (CallsA.args (between1_spec (-60) n.first 60) (by simp [encS, encE_T, mput_enc, mfind_enc, XX, undef])) rfl (by simp [flat, encS, encE_T, mput_enc, mfind_enc, XX, undef]) ?_
  simp (maxSteps := 1000000) only [encS, encE_T, mput_enc, mfind_enc, XX, reduceIte, ↓reduceIte, Nat.reduceAdd, Nat.reduceLeDiff, Nat.reduceEqDiff, Nat.reduceLT, Nat.reduceSub, Nat.reduceBEq, forall_const, reduceCtorEq, implies_true, exists_eq_left', exists_eq_left, if_true, if_false, undef]
  refine ⟨fun h4 => ?_, fun h4 => ?_⟩ <;> try simp (maxSteps := 1000000) only [encS, encE_T, mput_enc, mfind_enc, XX, reduceIte, ↓reduceIte, Nat.reduceAdd, Nat.reduceLeDiff, Nat.reduceEqDiff, Nat.reduceLT, Nat.reduceSub, Nat.reduceBEq, forall_const, reduceCtorEq, implies_true, exists_eq_left', exists_eq_left, if_true, if_false, undef]
  · simp at h4; rw [fin4 (by omega)]
  simp at h2 h3 h4
  have hok : ¬¬((0 ≤ n.st ∧ n.st ≤ M.states) ∧ (-60 ≤ n.head ∧ n.head ≤ 60) ∧ (-60 ≤ n.first ∧ n.first ≤ 60)) := by omega
  refine callA (CallsA.args (between_spec 0 (M.signs - 1) ) (by simp [ hw1,encS, encE_T, mput_enc, mfind_enc, XX, undef])) rfl ?_
  simp (maxSteps := 1000000) only [encS, encE_T, mput_enc, mfind_enc, XX, reduceIte, ↓reduceIte, Nat.reduceAdd, Nat.reduceLeDiff, Nat.reduceEqDiff, Nat.reduceLT, Nat.reduceSub, Nat.reduceBEq, forall_const, reduceCtorEq, implies_true, exists_eq_left', exists_eq_left, if_true, if_false, undef]
  refine loop0 Nat [44] (fun k => [I k]) (fun k => k ≤ n.tape.length ∧ (n.tape.take k).all (fun i => decide (0 ≤ i ∧ i < M.signs)) = true) (fun k => n.tape.length - k) (by decide) 0 (by simp) (by simp [Back, BackF, fzT, fzM, fzU, fz, fzL, fzO, kin, SubT, Sub, SubL, SubM, SubO, keepM, srcOk, look, lookM, ev, evs, putT, argT, encS, encE_T, mput_enc, mfind_enc, XX, undef]) (fun k hk => ?_)
  obtain ⟨hk, hp⟩ := hk
  simp (maxSteps := 1000000) only [encS, encE_T, mput_enc, mfind_enc, XX, reduceIte, ↓reduceIte, Nat.reduceAdd, Nat.reduceLeDiff, Nat.reduceEqDiff, Nat.reduceLT, Nat.reduceSub, Nat.reduceBEq, forall_const, reduceCtorEq, implies_true, exists_eq_left', exists_eq_left, if_true, if_false, undef]
  refine ⟨fun h => ?_, fun h => ?_⟩ <;> try simp (maxSteps := 1000000) only [encS, encE_T, mput_enc, mfind_enc, XX, reduceIte, ↓reduceIte, Nat.reduceAdd, Nat.reduceLeDiff, Nat.reduceEqDiff, Nat.reduceLT, Nat.reduceSub, Nat.reduceBEq, forall_const, reduceCtorEq, implies_true, exists_eq_left', exists_eq_left, if_true, if_false, undef]
  · refine ⟨by omega, ?_⟩
    simp only [decide_eq_true_eq, List.length_map, Int.ofNat_lt] at h
    refine pickM h ?_
    have hw : IntKind.i64.wrap ((k : Int) + 1) = ((k + 1 : Nat) : Int) := by rw [wrap_id] <;> omega
    simp (maxSteps := 1000000) only [encS, encE_T, mput_enc, mfind_enc, XX, reduceIte, ↓reduceIte, Nat.reduceAdd, Nat.reduceLeDiff, Nat.reduceEqDiff, Nat.reduceLT, Nat.reduceSub, Nat.reduceBEq, forall_const, reduceCtorEq, implies_true, exists_eq_left', exists_eq_left, if_true, if_false, undef]
    refine callF (CallsA.args (between1_spec 0 n.tape[k] (M.signs - 1)) (by simp [encS, encE_T, mput_enc, mfind_enc, XX, undef])) rfl (by simp [flat, encS, encE_T, mput_enc, mfind_enc, XX, undef]) ?_
    simp (maxSteps := 1000000) only [encS, encE_T, mput_enc, mfind_enc, XX, reduceIte, ↓reduceIte, Nat.reduceAdd, Nat.reduceLeDiff, Nat.reduceEqDiff, Nat.reduceLT, Nat.reduceSub, Nat.reduceBEq, forall_const, reduceCtorEq, implies_true, exists_eq_left', exists_eq_left, if_true, if_false, undef]
    refine ⟨fun h5 => ?_, fun h5 => ?_⟩ <;> try simp (maxSteps := 1000000) only [encS, encE_T, mput_enc, mfind_enc, XX, reduceIte, ↓reduceIte, Nat.reduceAdd, Nat.reduceLeDiff, Nat.reduceEqDiff, Nat.reduceLT, Nat.reduceSub, Nat.reduceBEq, forall_const, reduceCtorEq, implies_true, exists_eq_left', exists_eq_left, if_true, if_false, undef]
    · simp at h5
      rw [nowErr, if_neg (by omega), if_neg hok, if_pos (all_no h (by simp; omega))]
    · simp at h5
      refine ⟨k + 1, ⟨by omega, all_take h hp (by simp; omega)⟩, by omega, by simp [Back, BackF, fzT, fzM, fzU, fz, fzL, fzO, kin, SubT, Sub, SubL, SubM, SubO, keepM, srcOk, look, lookM, ev, evs, putT, argT, encS, encE_T, mput_enc, mfind_enc, XX, undef, hw]⟩
  · simp only [decide_eq_false_iff_not, List.length_map, Int.ofNat_lt] at h
    have : k = n.tape.length := by omega
    subst this
    rw [List.take_length] at hp
    rw [nowErr, if_neg (by omega), if_neg hok, if_neg (by rw [hp]; simp)]

def rdE (first : Int) (l : List Int) : Nat → List (Int × Int)
  | 0 => []
  | k + 1 => aset (rdE first l k) (first + k) ((l[k]?).getD 0)

theorem rdE_uniq (first : Int) (l : List Int) : ∀ k, Uniq (rdE first l k)
  | 0 => by simp [rdE, Uniq]
  | k + 1 => (rdE_uniq first l k).aset _ _

theorem rdE_mem {first : Int} {l : List Int} : ∀ {k : Nat} {p : Int × Int}, p ∈ rdE first l k → first ≤ p.1 ∧ p.1 < first + k
  | 0, p, h => by simp [rdE] at h
  | k + 1, p, h => by
    rcases aset_mem h with rfl | h
    · simp; omega
    · have := rdE_mem h; omega

theorem rdE_get (first : Int) (l : List Int) (x : Int) : ∀ k, k ≤ l.length → aget (rdE first l k) x = tapeF first (l.take k) x
  | 0, _ => by simp [rdE, aget, tapeF]
  | k + 1, h => by
    simp only [rdE]
    rw [aget_aset, rdE_get first l x k (by omega)]
    unfold tapeF
    by_cases h1 : first ≤ x
    · rw [if_pos h1, if_pos h1]
      by_cases h2 : x = first + k
      · subst h2
        rw [if_pos rfl, List.getElem?_take_of_lt (by omega)]
        congr 2; omega
      · rw [if_neg h2]
        by_cases h3 : (x - first).toNat < k
        · rw [List.getElem?_take_of_lt h3, List.getElem?_take_of_lt (by omega)]
        · rw [List.getElem?_take_eq_none (by omega), List.getElem?_take_eq_none (by omega)]
    · rw [if_neg h1, if_neg (by omega), if_neg h1]

theorem readCells_spec (n : Now) (hf : -60 ≤ n.first ∧ n.first ≤ 60) (hl : n.tape.length ≤ 60) : CallsA Try.prog 57 [encN n] (.mp 0) [.map (encE (rdE n.first n.tape n.tape.length))] := by
  refine fn_of comp57 (by simp) ?_
  unfold code57
  simp only [encN, encS, encE_T, mput_enc, mfind_enc, XX, reduceIte, ↓reduceIte, Nat.reduceAdd, Nat.reduceLeDiff, Nat.reduceEqDiff, Nat.reduceLT, Nat.reduceSub, Nat.reduceBEq, forall_const, reduceCtorEq, implies_true, exists_eq_left', exists_eq_left, if_true, if_false, undef]
  refine loopO Nat [10] (fun k => [I k]) (fun k => [(2, some (.map (encE (rdE n.first n.tape k))))]) (fun k => k ≤ n.tape.length) (fun k => n.tape.length - k) (by decide) 0 (by simp) (by simp [Back, BackF, fzT, fzM, fzU, fz, fzL, fzO, kin, SubT, Sub, SubL, SubM, SubO, keepM, srcOk, look, lookM, ev, evs, putT, argT, encS, encE_T, mput_enc, mfind_enc, XX, undef, rdE, encE]) (fun k hk => ?_)
  simp (maxSteps := 1000000) only [encS, encE_T, mput_enc, mfind_enc, XX, reduceIte, ↓reduceIte, Nat.reduceAdd, Nat.reduceLeDiff, Nat.reduceEqDiff, Nat.reduceLT, Nat.reduceSub, Nat.reduceBEq, forall_const, reduceCtorEq, implies_true, exists_eq_left', exists_eq_left, if_true, if_false, undef]
  refine ⟨fun h => ?_, fun h => ?_⟩ <;> try simp (maxSteps := 1000000) only [encS, encE_T, mput_enc, mfind_enc, XX, reduceIte, ↓reduceIte, Nat.reduceAdd, Nat.reduceLeDiff, Nat.reduceEqDiff, Nat.reduceLT, Nat.reduceSub, Nat.reduceBEq, forall_const, reduceCtorEq, implies_true, exists_eq_left', exists_eq_left, if_true, if_false, undef]
  · refine ⟨by omega, ?_⟩
    simp only [decide_eq_true_eq, List.length_map, Int.ofNat_lt] at h
    refine pickM h ?_
    have hw : IntKind.i64.wrap ((k : Int) + 1) = ((k + 1 : Nat) : Int) := by rw [wrap_id] <;> omega
    have hw2 : IntKind.i64.wrap (n.first + k) = n.first + k := by rw [wrap_id] <;> omega
    simp (maxSteps := 1000000) only [encS, encE_T, mput_enc, mfind_enc, XX, reduceIte, ↓reduceIte, Nat.reduceAdd, Nat.reduceLeDiff, Nat.reduceEqDiff, Nat.reduceLT, Nat.reduceSub, Nat.reduceBEq, forall_const, reduceCtorEq, implies_true, exists_eq_left', exists_eq_left, if_true, if_false, undef]
    refine ⟨k + 1, by omega, by omega, by simp [Back, BackF, fzT, fzM, fzU, fz, fzL, fzO, kin, SubT, Sub, SubL, SubM, SubO, keepM, srcOk, look, lookM, ev, evs, putT, argT, encS, encE_T, mput_enc, mfind_enc, XX, undef, hw, hw2, rdE, h]⟩
  · simp only [decide_eq_false_iff_not, List.length_map, Int.ofNat_lt] at h
    have : k = n.tape.length := by omega
    subst this
    refine ⟨[2], by simp [encS, encE_T, mput_enc, mfind_enc, XX, undef], rfl, by simp, fun i k o h1 h2 => ?_⟩
    cases i with
    | zero => simp at h1 h2; subst h1 h2; simp
    | succ i => simp at h1

theorem cellsF_length (f : Int → Int) (lo : Int) (n : Nat) : (cellsF f lo n).length = n := by simp [cellsF]

theorem cellsF_set (f : Int → Int) (lo : Int) {n k : Nat} (h : k < n) : ((cellsF f lo k).map I ++ List.replicate (n - k) (I 0)).set k (I (f (lo + k))) = (cellsF f lo (k + 1)).map I ++ List.replicate (n - (k + 1)) (I 0) := by
  have e : n - k = (n - (k + 1)) + 1 := by omega
  rw [List.set_append_right _ _ (by simp [cellsF]), e, List.replicate_succ]
  simp [cellsF, List.range_succ]

theorem writeCells_spec (es : List (Int × Int)) (head lo hi : Int) (hs : IsSpan (aget es) head lo hi) (hu : Uniq es) (hb : ∀ p ∈ es, -1000 ≤ p.1 ∧ p.1 ≤ 1000) (hh : -1000 ≤ head ∧ head ≤ 1000) :
    CallsA Try.prog 58 [.rm (encE es), I head] (.tup [I lo, .ro 1 ((cellsF (aget es) lo (hi - lo + 1).toNat).map I)]) [] := by
  refine fn_of0 comp58 (by simp) ?_
  unfold code58
  simp only [encS, encE_T, mput_enc, mfind_enc, XX, reduceIte, ↓reduceIte, Nat.reduceAdd, Nat.reduceLeDiff, Nat.reduceEqDiff, Nat.reduceLT, Nat.reduceSub, Nat.reduceBEq, forall_const, reduceCtorEq, implies_true, exists_eq_left', exists_eq_left, if_true, if_false, undef]
  refine loopO (List (Int × Int) × Option (Int × Int) × Int × Int) [6, 7] (fun s => [I s.2.2.1, I s.2.2.2]) (fun s => [(7, some (.iter (encE s.1) (s.2.1.map fun p => (.int .i64 p.1, I p.2))))])
    (fun s => (∀ p ∈ s.1, p ∈ es) ∧ (s.2.2.1 ≤ head ∧ head ≤ s.2.2.2) ∧ (s.2.2.1 = head ∨ aget es s.2.2.1 ≠ 0) ∧ (s.2.2.2 = head ∨ aget es s.2.2.2 ≠ 0) ∧ ∀ p ∈ es, p ∈ s.1 ∨ (p.2 ≠ 0 → s.2.2.1 ≤ p.1 ∧ p.1 ≤ s.2.2.2))
    (fun s => s.1.length) (by decide) (es, none, head, head) ⟨fun _ h => h, by simp, .inl rfl, .inl rfl, fun p h => .inl h⟩ (by simp [Back, BackF, fzT, fzM, fzU, fz, fzL, fzO, kin, SubT, Sub, SubL, SubM, SubO, keepM, srcOk, look, lookM, ev, evs, putT, argT, encS, encE_T, mput_enc, mfind_enc, XX, undef]) (fun s hs' => ?_)
  obtain ⟨rest, cur, l, h⟩ := s
  obtain ⟨h1, h2, h3, h4, h5⟩ := hs'
  simp only at h1 h2 h3 h4 h5
  simp (maxSteps := 1000000) only [encS, encE_T, mput_enc, mfind_enc, XX, reduceIte, ↓reduceIte, Nat.reduceAdd, Nat.reduceLeDiff, Nat.reduceEqDiff, Nat.reduceLT, Nat.reduceSub, Nat.reduceBEq, forall_const, reduceCtorEq, implies_true, exists_eq_left', exists_eq_left, if_true, if_false, undef]
  refine ⟨fun hr => ?_, fun j p hp => ?_⟩
  · have hr := encE_nil hr
    subst hr
    have hsp : IsSpan (aget es) head l h := ⟨h2.1, h2.2, fun x hx => by
      have := aget_mem hx
      rcases h5 _ this with h | h
      · simp at h
      · exact h hx, h3, h4⟩
    obtain ⟨rfl, rfl⟩ := hs.uniq hsp
    have hlo : -1000 ≤ lo := by
      rcases h3 with h | h
      · omega
      · exact (hb _ (aget_mem h)).1
    have hhi : hi ≤ 1000 := by
      rcases h4 with h | h
      · omega
      · exact (hb _ (aget_mem h)).2
    have hw1 : IntKind.i64.wrap (hi - lo) = hi - lo := by rw [wrap_id] <;> omega
    have hw2 : IntKind.i64.wrap (hi - lo + 1) = hi - lo + 1 := by rw [wrap_id] <;> omega
    simp only [hw1, hw2, encS, encE_T, mput_enc, mfind_enc, XX, reduceIte, ↓reduceIte, Nat.reduceAdd, Nat.reduceLeDiff, Nat.reduceEqDiff, Nat.reduceLT, Nat.reduceSub, Nat.reduceBEq, forall_const, reduceCtorEq, implies_true, exists_eq_left', exists_eq_left, if_true, if_false, undef]
    refine ⟨by omega, Int.le_refl _, by omega, ?_⟩
    obtain ⟨n, hn⟩ : ∃ n : Nat, n = (hi - lo + 1).toNat := ⟨_, rfl⟩
    have hn' : (n : Int) = hi - lo + 1 := by omega
    rw [← hn]
    refine loopO Nat [36] (fun k => [I k]) (fun k => [(14, some (.arr 1 ((cellsF (aget es) lo k).map I ++ List.replicate (n - k) (I 0))))]) (fun k => k ≤ n) (fun k => n - k) (by decide) 0 (by simp) (by simp [Back, BackF, fzT, fzM, fzU, fz, fzL, fzO, kin, SubT, Sub, SubL, SubM, SubO, keepM, srcOk, look, lookM, ev, evs, putT, argT, encS, encE_T, mput_enc, mfind_enc, XX, undef, cellsF, hw1, hw2, ← hn]) (fun k hk => ?_)
    simp only [hw1, hw2, ← hn, encS, encE_T, mput_enc, mfind_enc, XX, reduceIte, ↓reduceIte, Nat.reduceAdd, Nat.reduceLeDiff, Nat.reduceEqDiff, Nat.reduceLT, Nat.reduceSub, Nat.reduceBEq, forall_const, reduceCtorEq, implies_true, exists_eq_left', exists_eq_left, if_true, if_false, undef]
    refine ⟨fun h => ?_, fun h => ?_⟩ <;> try simp (maxSteps := 1000000) only [encS, encE_T, mput_enc, mfind_enc, XX, reduceIte, ↓reduceIte, Nat.reduceAdd, Nat.reduceLeDiff, Nat.reduceEqDiff, Nat.reduceLT, Nat.reduceSub, Nat.reduceBEq, forall_const, reduceCtorEq, implies_true, exists_eq_left', exists_eq_left, if_true, if_false, undef]
    · simp only [decide_eq_true_eq, Int.ofNat_lt] at h
      have hw3 : IntKind.i64.wrap ((k : Int) + 1) = ((k + 1 : Nat) : Int) := by rw [wrap_id] <;> omega
      have hw4 : IntKind.i64.wrap (lo + k) = lo + k := by rw [wrap_id] <;> omega
      refine ⟨by omega, by omega, ?_⟩
      simp only [hw4, encS, encE_T, mput_enc, mfind_enc, XX, reduceIte, ↓reduceIte, Nat.reduceAdd, Nat.reduceLeDiff, Nat.reduceEqDiff, Nat.reduceLT, Nat.reduceSub, Nat.reduceBEq, forall_const, reduceCtorEq, implies_true, exists_eq_left', exists_eq_left, if_true, if_false, undef]
      refine ⟨by simp [cellsF_length]; omega, ?_⟩
      refine ⟨k + 1, by omega, by omega, ?_⟩
      have := cellsF_set (aget es) lo h
      simp [Back, BackF, fzT, fzM, fzU, fz, fzL, fzO, kin, SubT, Sub, SubL, SubM, SubO, keepM, srcOk, look, lookM, ev, evs, putT, argT, encS, encE_T, mput_enc, mfind_enc, XX, reduceIte, ↓reduceIte, Nat.reduceAdd, Nat.reduceLeDiff, Nat.reduceEqDiff, Nat.reduceLT, Nat.reduceSub, Nat.reduceBEq, forall_const, reduceCtorEq, implies_true, exists_eq_left', exists_eq_left, if_true, if_false, undef, hw3, this]
    · simp only [decide_eq_false_iff_not, Int.ofNat_lt] at h
      have : k = n := by omega
      subst this
      simp [encS, encE_T, mput_enc, mfind_enc, XX, reduceIte, ↓reduceIte, Nat.reduceAdd, Nat.reduceLeDiff, Nat.reduceEqDiff, Nat.reduceLT, Nat.reduceSub, Nat.reduceBEq, forall_const, reduceCtorEq, implies_true, exists_eq_left', exists_eq_left, if_true, if_false, undef, cellsF_length]
      exact List.take_of_length_le (by simp [cellsF_length])
  · obtain ⟨q, hq, rfl⟩ := encE_get hp
    have hqe : q ∈ es := h1 q (List.mem_of_getElem? hq)
    have hj : j < rest.length := (List.getElem?_eq_some_iff.1 hq).1
    have hlen : (rest.eraseIdx j).length < rest.length := by rw [List.length_eraseIdx]; split <;> omega
    have hget := hu.get hqe
    have hsub : ∀ p ∈ rest.eraseIdx j, p ∈ es := fun p hp => h1 p (List.mem_of_mem_eraseIdx hp)
    simp (maxSteps := 1000000) only [encS, encE_T, mput_enc, mfind_enc, XX, reduceIte, ↓reduceIte, Nat.reduceAdd, Nat.reduceLeDiff, Nat.reduceEqDiff, Nat.reduceLT, Nat.reduceSub, Nat.reduceBEq, forall_const, reduceCtorEq, implies_true, exists_eq_left', exists_eq_left, if_true, if_false, undef]
    refine ⟨fun h6 => ?_, fun h6 => ?_⟩ <;> try simp (maxSteps := 1000000) only [encS, encE_T, mput_enc, mfind_enc, XX, reduceIte, ↓reduceIte, Nat.reduceAdd, Nat.reduceLeDiff, Nat.reduceEqDiff, Nat.reduceLT, Nat.reduceSub, Nat.reduceBEq, forall_const, reduceCtorEq, implies_true, exists_eq_left', exists_eq_left, if_true, if_false, undef]
    · simp at h6
      refine ⟨(rest.eraseIdx j, some q, if q.1 < l then q.1 else l, if q.1 > h then q.1 else h), ⟨hsub, ?_, ?_, ?_, fun p hp => ?_⟩, hlen, by simp [Back, BackF, fzT, fzM, fzU, fz, fzL, fzO, kin, SubT, Sub, SubL, SubM, SubO, keepM, srcOk, look, lookM, ev, evs, putT, argT, encS, encE_T, mput_enc, mfind_enc, XX, undef, encE_erase]⟩
      · simp only; split <;> split <;> omega
      · simp only; split
        · right; rw [hget]; exact h6
        · exact h3
      · simp only; split
        · right; rw [hget]; exact h6
        · exact h4
      · simp only
        rcases h5 p hp with h7 | h7
        · rcases mem_erase_or hq h7 with rfl | h7
          · right; intro _; split <;> split <;> omega
          · exact .inl h7
        · right; intro h8; have := h7 h8; split <;> split <;> omega
    · simp at h6
      refine ⟨(rest.eraseIdx j, some q, l, h), ⟨hsub, h2, h3, h4, fun p hp => ?_⟩, hlen, by simp [Back, BackF, fzT, fzM, fzU, fz, fzL, fzO, kin, SubT, Sub, SubL, SubM, SubO, keepM, srcOk, look, lookM, ev, evs, putT, argT, encS, encE_T, mput_enc, mfind_enc, XX, undef, encE_erase]⟩
      simp only
      rcases h5 p hp with h7 | h7
      · rcases mem_erase_or hq h7 with rfl | h7
        · exact .inr (fun h8 => (h8 h6).elim)
        · exact .inl h7
      · exact .inr h7

theorem execute_spec (M : Mach) (n : Now) (steps : Int) (h : GOk M n steps) : CallsA Try.prog 46 [encM M, encN n, I steps]
    (.tup [encN (tell (runC M (startC n) steps.toNat)), I (doneC M (startC n) steps.toNat)]) [] := by
  have hs := h.steps
  have hst := h.st
  have hhd := h.hd
  have hfs := h.fs
  have hlen := h.len
  obtain ⟨c, hc⟩ : ∃ c, c = startC n := ⟨_, rfl⟩
  have hcok : COk M 120 c := hc ▸ h.cfg
  rw [← hc]
  refine fn_of0 comp46 (by simp) ?_
  unfold code46
  simp only [encM, encN, encS, encE_T, mput_enc, mfind_enc, XX, reduceIte, ↓reduceIte, Nat.reduceAdd, Nat.reduceLeDiff, Nat.reduceEqDiff, Nat.reduceLT, Nat.reduceSub, Nat.reduceBEq, forall_const, reduceCtorEq, implies_true, exists_eq_left', exists_eq_left, if_true, if_false, undef]
  refine callA (CallsA.args (readCells_spec n h.fs h.len ) (by simp [ encN,encS, encE_T, mput_enc, mfind_enc, XX, undef])) rfl ?_
  simp (maxSteps := 1000000) only [encS, encE_T, mput_enc, mfind_enc, XX, reduceIte, ↓reduceIte, Nat.reduceAdd, Nat.reduceLeDiff, Nat.reduceEqDiff, Nat.reduceLT, Nat.reduceSub, Nat.reduceBEq, forall_const, reduceCtorEq, implies_true, exists_eq_left', exists_eq_left, if_true, if_false, undef]
  obtain ⟨N, hN⟩ : ∃ N : Nat, N = steps.toNat := ⟨_, rfl⟩
  have hN' : steps = (N : Int) := by omega
  rw [← hN]
  refine loopO (Nat × List (Int × Int)) [9, 10, 11] (fun s => [I (runC M c s.1).st, I (runC M c s.1).head, I (s.1 : Nat)]) (fun s => [(5, some (.map (encE s.2)))])
    (fun s => s.1 ≤ N ∧ doneC M c s.1 = s.1 ∧ Uniq s.2 ∧ (∀ p ∈ s.2, -1000 ≤ p.1 ∧ p.1 ≤ 1000) ∧ ∀ x, aget s.2 x = (runC M c s.1).f x) (fun s => N - s.1) (by decide)
    (0, rdE n.first n.tape n.tape.length) ⟨by simp, rfl, rdE_uniq _ _ _, fun p hp => ?_, fun x => ?_⟩ (by simp [Back, BackF, fzT, fzM, fzU, fz, fzL, fzO, kin, SubT, Sub, SubL, SubM, SubO, keepM, srcOk, look, lookM, ev, evs, putT, argT, encS, encE_T, mput_enc, mfind_enc, XX, undef, runC, hc, startC]) (fun s hs => ?_)
  · have := rdE_mem hp; omega
  · simp only [runC, hc, startC]
    rw [rdE_get _ _ _ _ (Nat.le_refl _), List.take_length]
  obtain ⟨k, es⟩ := s
  obtain ⟨h1, h2, h3, h4, h5⟩ := hs
  simp only at h1 h2 h3 h4 h5
  have hrk := runC_ok h.mach hcok k
  simp (maxSteps := 1000000) only [encS, encE_T, mput_enc, mfind_enc, XX, reduceIte, ↓reduceIte, Nat.reduceAdd, Nat.reduceLeDiff, Nat.reduceEqDiff, Nat.reduceLT, Nat.reduceSub, Nat.reduceBEq, forall_const, reduceCtorEq, implies_true, exists_eq_left', exists_eq_left, if_true, if_false, undef]
  have fin : ∀ (hh : ¬ (k < N ∧ (runC M c k).st < M.states)), runC M c N = runC M c k ∧ doneC M c N = k := fun hh => by
    by_cases hkN : k < N
    · have := halt_stays (fun q => hh ⟨hkN, q⟩) N h1
      exact ⟨this.1, this.2.trans h2⟩
    · have : N = k := by omega
      subst this; exact ⟨rfl, h2⟩
  have hd0 := hrk.hd
  have out : ∀ lo hi, IsSpan (aget es) (runC M c k).head lo hi → tell (runC M c k) = ⟨(runC M c k).st, (runC M c k).head, lo, cellsF (aget es) lo (hi - lo + 1).toNat⟩ := fun lo hi hsp => by
    have e : aget es = (runC M c k).f := funext h5
    rw [e] at hsp ⊢
    exact tell_eq hsp
  obtain ⟨lo, hi, hsp⟩ := span_exists (L := es.map (·.1)) (runC M c k).head (fun x hx => List.mem_map.2 ⟨_, aget_mem hx, rfl⟩)
  have hout := out lo hi hsp
  have hwc := writeCells_spec es (runC M c k).head lo hi hsp h3 h4 (by omega)
  refine ⟨fun ha => ?_, fun ha => ?_⟩ <;> try simp (maxSteps := 1000000) only [encS, encE_T, mput_enc, mfind_enc, XX, reduceIte, ↓reduceIte, Nat.reduceAdd, Nat.reduceLeDiff, Nat.reduceEqDiff, Nat.reduceLT, Nat.reduceSub, Nat.reduceBEq, forall_const, reduceCtorEq, implies_true, exists_eq_left', exists_eq_left, if_true, if_false, undef]
  · simp only [hN', decide_eq_true_eq, Int.ofNat_lt] at ha
    refine ⟨fun hb => ?_, fun hb => ?_⟩ <;> try simp (maxSteps := 1000000) only [encS, encE_T, mput_enc, mfind_enc, XX, reduceIte, ↓reduceIte, Nat.reduceAdd, Nat.reduceLeDiff, Nat.reduceEqDiff, Nat.reduceLT, Nat.reduceSub, Nat.reduceBEq, forall_const, reduceCtorEq, implies_true, exists_eq_left', exists_eq_left, if_true, if_false, undef]
    · simp only [decide_eq_true_eq] at hb
      have hg := hrk.sg (runC M c k).head
      rw [← h5] at hg
      obtain ⟨a, b, e⟩ := h.mach.at hrk.st0 hb hg.1 hg.2
      have hr := h.mach.ruleAt hrk.st0 hb hg.1 hg.2
      simp (maxSteps := 1000000) only [encS, encE_T, mput_enc, mfind_enc, XX, reduceIte, ↓reduceIte, Nat.reduceAdd, Nat.reduceLeDiff, Nat.reduceEqDiff, Nat.reduceLT, Nat.reduceSub, Nat.reduceBEq, forall_const, reduceCtorEq, implies_true, exists_eq_left', exists_eq_left, if_true, if_false, undef]
      refine ⟨hrk.st0, pickI a ?_⟩
      simp only [encRow, encS, encE_T, mput_enc, mfind_enc, XX, reduceIte, ↓reduceIte, Nat.reduceAdd, Nat.reduceLeDiff, Nat.reduceEqDiff, Nat.reduceLT, Nat.reduceSub, Nat.reduceBEq, forall_const, reduceCtorEq, implies_true, exists_eq_left', exists_eq_left, if_true, if_false, undef]
      refine ⟨hg.1, pickI b ?_⟩
      rw [← e]
      have hrun : runC M c (k + 1) = stepC M (runC M c k) := by simp only [runC]; rw [if_pos hb]
      have hdone : doneC M c (k + 1) = k + 1 := by simp only [doneC]; rw [if_pos hb, h2]
      have hrule : ruleAt M (runC M c k).st (aget es (runC M c k).head) = ruleAt M (runC M c k).st ((runC M c k).f (runC M c k).head) := by rw [h5]
      generalize hrr : ruleAt M (runC M c k).st (aget es (runC M c k).head) = r at *
      have hw1 : IntKind.i64.wrap ((k : Int) + 1) = ((k + 1 : Nat) : Int) := by rw [wrap_id] <;> omega
      have hw2 : IntKind.i64.wrap ((runC M c k).head + r.m) = (runC M c k).head + r.m := by rw [wrap_id] <;> omega
      simp only [encR, encS, encE_T, mput_enc, mfind_enc, XX, reduceIte, ↓reduceIte, Nat.reduceAdd, Nat.reduceLeDiff, Nat.reduceEqDiff, Nat.reduceLT, Nat.reduceSub, Nat.reduceBEq, forall_const, reduceCtorEq, implies_true, exists_eq_left', exists_eq_left, if_true, if_false, undef]
      refine ⟨(k + 1, aset es (runC M c k).head r.w), ⟨by omega, hdone, h3.aset _ _, fun p hp => ?_, fun x => ?_⟩, by simp; omega, ?_⟩
      · rcases aset_mem hp with rfl | hp
        · simp; omega
        · exact h4 p hp
      · simp only
        rw [aget_aset, hrun, h5]
        simp only [stepC, ← hrule]
      · simp [Back, BackF, fzT, fzM, fzU, fz, fzL, fzO, kin, SubT, Sub, SubL, SubM, SubO, keepM, srcOk, look, lookM, ev, evs, putT, argT, encS, encE_T, mput_enc, mfind_enc, XX, reduceIte, ↓reduceIte, Nat.reduceAdd, Nat.reduceLeDiff, Nat.reduceEqDiff, Nat.reduceLT, Nat.reduceSub, Nat.reduceBEq, forall_const, reduceCtorEq, implies_true, exists_eq_left', exists_eq_left, if_true, if_false, undef, hw1, hw2, hrun, stepC, ← hrule]
    · simp only [decide_eq_false_iff_not] at hb
      obtain ⟨f1, f2⟩ := fin (fun q => hb q.2)
      refine callA (CallsA.args (hwc) (by simp [encS, encE_T, mput_enc, mfind_enc, XX, undef])) rfl ?_
      simp (maxSteps := 1000000) only [encS, encE_T, mput_enc, mfind_enc, XX, reduceIte, ↓reduceIte, Nat.reduceAdd, Nat.reduceLeDiff, Nat.reduceEqDiff, Nat.reduceLT, Nat.reduceSub, Nat.reduceBEq, forall_const, reduceCtorEq, implies_true, exists_eq_left', exists_eq_left, if_true, if_false, undef]
      refine FzVC.no ?_
      simp [encS, encE_T, mput_enc, mfind_enc, XX, reduceIte, ↓reduceIte, Nat.reduceAdd, Nat.reduceLeDiff, Nat.reduceEqDiff, Nat.reduceLT, Nat.reduceSub, Nat.reduceBEq, forall_const, reduceCtorEq, implies_true, exists_eq_left', exists_eq_left, if_true, if_false, undef, f1, f2, hout, encN]
  · simp only [hN', Bool.not_true, decide_eq_false_iff_not, Int.ofNat_lt] at ha
    obtain ⟨f1, f2⟩ := fin (fun q => ha q.1)
    refine callA (CallsA.args (hwc) (by simp [encS, encE_T, mput_enc, mfind_enc, XX, undef])) rfl ?_
    simp (maxSteps := 1000000) only [encS, encE_T, mput_enc, mfind_enc, XX, reduceIte, ↓reduceIte, Nat.reduceAdd, Nat.reduceLeDiff, Nat.reduceEqDiff, Nat.reduceLT, Nat.reduceSub, Nat.reduceBEq, forall_const, reduceCtorEq, implies_true, exists_eq_left', exists_eq_left, if_true, if_false, undef]
    refine FzVC.no ?_
    simp [encS, encE_T, mput_enc, mfind_enc, XX, reduceIte, ↓reduceIte, Nat.reduceAdd, Nat.reduceLeDiff, Nat.reduceEqDiff, Nat.reduceLT, Nat.reduceSub, Nat.reduceBEq, forall_const, reduceCtorEq, implies_true, exists_eq_left', exists_eq_left, if_true, if_false, undef, f1, f2, hout, encN]

theorem goErr_now {M : Mach} {n : Now} {steps : Int} (h : machErr M = 0) : goErr M n steps = if nowErr M n ≠ 0 then nowErr M n else if ¬(0 ≤ steps ∧ steps ≤ 60) then 7 else 0 := by
  unfold goErr nowErr
  rw [if_neg (by omega)]
  split
  · rfl
  · split
    · rfl
    · split
      · rfl
      · rfl

/-- the answer of Go -/
noncomputable def goAns (M : Mach) (n : Now) (steps : Int) : AV :=
  if goErr M n steps = 0 then .tup [encN (tell (runC M (startC n) steps.toNat)), I (doneC M (startC n) steps.toNat), I 0] else .tup [encN now0, I 0, I (goErr M n steps)]

theorem go_spec (M : Mach) (n : Now) (steps : Int) (hl : (n.tape.length : Int) < 2 ^ 63) : CallsA Try.prog 32 [encM M, encN n, I steps] (goAns M n steps) [] := by
  refine fn_of0 comp32 (by simp) ?_
  unfold code32
  simp only [encM, encN, encS, encE_T, mput_enc, mfind_enc, XX, reduceIte, ↓reduceIte, Nat.reduceAdd, Nat.reduceLeDiff, Nat.reduceEqDiff, Nat.reduceLT, Nat.reduceSub, Nat.reduceBEq, forall_const, reduceCtorEq, implies_true, exists_eq_left', exists_eq_left, if_true, if_false, undef]
  refine callF (CallsA.args (check_spec M ) (by simp [ encM,encS, encE_T, mput_enc, mfind_enc, XX, undef])) rfl (by simp [flat, encS, encE_T, mput_enc, mfind_enc, XX, undef]) ?_
  simp (maxSteps := 1000000) only [encS, encE_T, mput_enc, mfind_enc, XX, reduceIte, ↓reduceIte, Nat.reduceAdd, Nat.reduceLeDiff, Nat.reduceEqDiff, Nat.reduceLT, Nat.reduceSub, Nat.reduceBEq, forall_const, reduceCtorEq, implies_true, exists_eq_left', exists_eq_left, if_true, if_false, undef]
  refine ⟨fun h0 => ?_, fun h0 => ?_⟩ <;> try simp (maxSteps := 1000000) only [encS, encE_T, mput_enc, mfind_enc, XX, reduceIte, ↓reduceIte, Nat.reduceAdd, Nat.reduceLeDiff, Nat.reduceEqDiff, Nat.reduceLT, Nat.reduceSub, Nat.reduceBEq, forall_const, reduceCtorEq, implies_true, exists_eq_left', exists_eq_left, if_true, if_false, undef]
  · simp at h0
    have e : goErr M n steps = machErr M := by simp [goErr, h0]
    simp [goAns, e, h0, encS, encE_T, mput_enc, mfind_enc, XX, reduceIte, ↓reduceIte, Nat.reduceAdd, Nat.reduceLeDiff, Nat.reduceEqDiff, Nat.reduceLT, Nat.reduceSub, Nat.reduceBEq, forall_const, reduceCtorEq, implies_true, exists_eq_left', exists_eq_left, if_true, if_false, undef, encN, now0]
  simp at h0
  have hm := mach_ok h0
  refine callF (CallsA.args (checkNow_spec M n hm hl ) (by simp [ encM, encN,encS, encE_T, mput_enc, mfind_enc, XX, undef])) rfl (by simp [flat, encS, encE_T, mput_enc, mfind_enc, XX, undef]) ?_
  simp (maxSteps := 1000000) only [encS, encE_T, mput_enc, mfind_enc, XX, reduceIte, ↓reduceIte, Nat.reduceAdd, Nat.reduceLeDiff, Nat.reduceEqDiff, Nat.reduceLT, Nat.reduceSub, Nat.reduceBEq, forall_const, reduceCtorEq, implies_true, exists_eq_left', exists_eq_left, if_true, if_false, undef]
  refine ⟨fun h1 => ?_, fun h1 => ?_⟩ <;> try simp (maxSteps := 1000000) only [encS, encE_T, mput_enc, mfind_enc, XX, reduceIte, ↓reduceIte, Nat.reduceAdd, Nat.reduceLeDiff, Nat.reduceEqDiff, Nat.reduceLT, Nat.reduceSub, Nat.reduceBEq, forall_const, reduceCtorEq, implies_true, exists_eq_left', exists_eq_left, if_true, if_false, undef]
  · simp at h1
    have e : goErr M n steps = nowErr M n := by rw [goErr_now h0, if_pos h1]
    simp [goAns, e, h1, encS, encE_T, mput_enc, mfind_enc, XX, reduceIte, ↓reduceIte, Nat.reduceAdd, Nat.reduceLeDiff, Nat.reduceEqDiff, Nat.reduceLT, Nat.reduceSub, Nat.reduceBEq, forall_const, reduceCtorEq, implies_true, exists_eq_left', exists_eq_left, if_true, if_false, undef, encN, now0]
  simp at h1
  refine callA (CallsA.args (between_spec 0 60) (by simp [encS, encE_T, mput_enc, mfind_enc, XX, undef])) rfl ?_
  simp (maxSteps := 1000000) only [encS, encE_T, mput_enc, mfind_enc, XX, reduceIte, ↓reduceIte, Nat.reduceAdd, Nat.reduceLeDiff, Nat.reduceEqDiff, Nat.reduceLT, Nat.reduceSub, Nat.reduceBEq, forall_const, reduceCtorEq, implies_true, exists_eq_left', exists_eq_left, if_true, if_false, undef]
  refine callF (CallsA.args (between1_spec 0 steps 60) (by simp [encS, encE_T, mput_enc, mfind_enc, XX, undef])) rfl (by simp [flat, encS, encE_T, mput_enc, mfind_enc, XX, undef]) ?_
  simp (maxSteps := 1000000) only [encS, encE_T, mput_enc, mfind_enc, XX, reduceIte, ↓reduceIte, Nat.reduceAdd, Nat.reduceLeDiff, Nat.reduceEqDiff, Nat.reduceLT, Nat.reduceSub, Nat.reduceBEq, forall_const, reduceCtorEq, implies_true, exists_eq_left', exists_eq_left, if_true, if_false, undef]
  refine ⟨fun h2 => ?_, fun h2 => ?_⟩ <;> try simp (maxSteps := 1000000) only [encS, encE_T, mput_enc, mfind_enc, XX, reduceIte, ↓reduceIte, Nat.reduceAdd, Nat.reduceLeDiff, Nat.reduceEqDiff, Nat.reduceLT, Nat.reduceSub, Nat.reduceBEq, forall_const, reduceCtorEq, implies_true, exists_eq_left', exists_eq_left, if_true, if_false, undef]
  · simp at h2
    have e : goErr M n steps = 7 := by rw [goErr_now h0, if_neg (by omega), if_pos (by omega)]
    simp [goAns, e, encS, encE_T, mput_enc, mfind_enc, XX, reduceIte, ↓reduceIte, Nat.reduceAdd, Nat.reduceLeDiff, Nat.reduceEqDiff, Nat.reduceLT, Nat.reduceSub, Nat.reduceBEq, forall_const, reduceCtorEq, implies_true, exists_eq_left', exists_eq_left, if_true, if_false, undef, encN, now0]
  simp at h2
  have e : goErr M n steps = 0 := by rw [goErr_now h0, if_neg (by omega), if_neg (by omega)]
  refine callA (CallsA.args (execute_spec M n steps (go_ok e) ) (by simp [ encM, encN,encS, encE_T, mput_enc, mfind_enc, XX, undef])) rfl ?_
  simp [goAns, e, encS, encE_T, mput_enc, mfind_enc, XX, reduceIte, ↓reduceIte, Nat.reduceAdd, Nat.reduceLeDiff, Nat.reduceEqDiff, Nat.reduceLT, Nat.reduceSub, Nat.reduceBEq, forall_const, reduceCtorEq, implies_true, exists_eq_left', exists_eq_left, if_true, if_false, undef, encN]

end Go.Av
