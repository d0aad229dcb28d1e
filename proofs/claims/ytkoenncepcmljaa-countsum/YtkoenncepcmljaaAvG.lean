/- What an operation asks is enough: stores, addresses, calls; all operations. -/
import Derived.Test.YtkoenncepcmljaaAvF
namespace Go.Av

variable {P : Program} {w w' : World} {S S' : Nat → Prop} {κ κ' : Nat → Option Loc} {m : Mem} {n N : Nat} {F : Nat → Prop} {t : Tmps} {a : Act} {X : Ctx}
  {K : AV → Mem → Prop} {Q : Exit → Act → World → Prop} {o : Oper}

theorem kf_R0 {x : AV} {v : Value} (h : R w S κ x v) (hk : x.kf = true) : R0 w S x v := by
  cases h with
  | base h => exact h
  | _ => simp [AV.kf] at hk

theorem kfs_get {l : List AV} (h : kfs l = true) {j : Nat} {y : AV} (hj : l[j]? = some y) : y.kf = true := by
  induction l generalizing j with
  | nil => simp at hj
  | cons x l ih =>
    simp only [kfs, Bool.and_eq_true] at h
    cases j with
    | zero => simp at hj; subst hj; exact h.1
    | succ j => exact ih h.2 (by simpa using hj)

/-- the cells behind a store -/
theorem row_get (cur : List Value) (vs : List Value) (q : Nat) (hq : q + vs.length ≤ cur.length) (j : Nat) :
    (cur.take q ++ vs ++ cur.drop (q + vs.length))[j]? = if q ≤ j ∧ j < q + vs.length then vs[j - q]? else cur[j]? := by
  by_cases h1 : j < q
  · rw [if_neg (by omega), List.append_assoc, List.getElem?_append_left (by simp; omega), List.getElem?_take_of_lt h1]
  · by_cases h2 : j < q + vs.length
    · rw [if_pos (by omega), List.append_assoc, List.getElem?_append_right (by simp; omega), List.getElem?_append_left (by simp; omega)]
      congr 1; simp; omega
    · rw [if_neg (by omega), List.getElem?_append_right (by simp; omega), List.getElem?_drop]
      congr 1; simp; omega

theorem store_ok {T : TypeId} {c : Nat} {x y : Operand} {x' y' : Opd} (ho : o.op = .store T x y) (hT : sizeT P T = some c) (hx : cOpd x = some x') (hy : cOpd y = some y')
    (hd : ∀ d, o.dst = some d → d < N) (r : Rel X N w S κ t m F a) (h : vop (.st c x' y') t m n K) : o.wp P a w (Post K X N o.dst t m F n) Q := by
  have hr := ev_ok hx r
  have hv := ev_ok hy r
  have run : ∀ (b off : Nat) (cur : Array Value) (T' : TypeId), a.eval x = .pointer (some ⟨b, off, none⟩) → w.heap[b]? = some (.cells cur T' (0, 0)) → okVal (ev t y') = true →
      (ev t y').cells.length = c → off + c ≤ cur.size →
      (execOp a.eval o).run P w = .ok .skip (w.setRow b (cur.toList.take off ++ (a.eval y).cells.toList ++ cur.toList.drop (off + (a.eval y).cells.toList.length)).toArray) := by
    intro b off cur T' h1 h2 h3 h4 h5
    have hc := cells_R hv h3
    have hs : (a.eval y).cells.size = c := by rw [← hc.1]; exact h4
    have := run_storeCells_at (P := P) b off T' (a.eval y).cells.toList 0 cur w h2 (by simp [hs]; omega) hc.2.2
    simp only [Nat.add_zero] at this
    simp [execOp, ho, h1, Instr.storeAt, Instr.sureAddr, storeVar, sizeT_run hT, hs, this]
  simp only [vop] at h
  split at h
  · rename_i k off e
    rw [e] at hr
    obtain ⟨l, hk, hp⟩ := hr.ptr_inv
    split at h
    · rename_i cs hm
      obtain ⟨e1, e2, e3, hK⟩ := h
      obtain ⟨l', hk', hn, vs, T', h1, h2, h3⟩ := r.ent.mm _ _ hm
      rw [hk] at hk'; cases hk'
      have hok := okVal_of_allCell e3
      have hc := cells_R hv hok
      have hsz : (a.eval y).cells.toList.length = c := by rw [← e1]; simpa using hc.1.symm
      refine wp_skipped (run _ _ _ _ hp h1 hok e1 (by omega)) ⟨_, _, S, κ, hK, ?_⟩
      refine Rel.free (F := F) ?_ (fun _ h => h.1)
      refine r.set hm hk hn (by simp) (fun b hb => setRow_other _ _ _ _ hb) ?_ (.base (.v _)) hd rfl rfl rfl
      have hSl := (r.ent.own _ _ _ hm hk hn).1
      refine ⟨l, hk, hn, _, T', setRow_heap _ _ _ _ _ _ h1, ?_, fun j z hj => ?_⟩
      · simp only [List.size_toArray, List.length_append, List.length_take, List.length_drop, splice_length, hsz, Array.length_toList]; omega
      · rw [splice_get _ _ _ (by omega), e1] at hj
        simp only [List.getElem?_toArray]
        rw [row_get _ _ _ (by simp [hsz]; simp at hsz; omega), hsz]
        have hmono : ∀ {z : AV} {cc : Value}, R w S κ z cc → R (w.setRow l.b (vs.toList.take (l.base + off) ++ (a.eval y).cells.toList ++ vs.toList.drop (l.base + off + c)).toArray) S κ z cc :=
          fun h => h.mono (fun b hb => setRow_other _ _ _ _ (fun hh => hSl (hh ▸ hb))) (fun _ h => h) (fun _ _ h => h)
        by_cases hin : off ≤ j ∧ j < off + c
        · rw [if_pos hin] at hj
          rw [if_pos (by omega)]
          have hj' : j - off < (a.eval y).cells.size := by simp at hsz; omega
          refine ⟨(a.eval y).cells[j - off], by rw [show l.base + j - (l.base + off) = j - off by omega]; simp [hj'], ?_⟩
          rw [← hsz] at hmono ⊢
          simp only [hsz] at hmono ⊢
          exact hmono (hc.2.1 _ _ _ hj (by simp [hj']))
        · rw [if_neg hin] at hj
          rw [if_neg (by omega)]
          obtain ⟨cc, hcc, hR⟩ := h3 j z hj
          exact ⟨cc, by simpa using hcc, hmono hR⟩
    · exact h.elim
  · rename_i k i e
    rw [e] at hr
    obtain ⟨l, hk, hn, hp⟩ := hr.elt_inv
    split at h
    · rename_i sz xs hm
      obtain ⟨e1, e2, e3, e4, e5, hK⟩ := h
      obtain ⟨l', hk', h0⟩ := r.ent.mm _ _ hm
      rw [hk] at hk'; cases hk'
      rcases h0 with ⟨h0, _⟩ | ⟨_, rfl, h1, h1', vs, T', h2, h3, h4, h5⟩
      · rw [hn] at h0; cases h0
      · have hok := okVal_of_allCell e4
        have hc := cells_R hv hok
        have hsz : (a.eval y).cells.toList.length = c := by rw [← e1]; simpa using hc.1.symm
        have hic : i * l.sz + l.sz ≤ l.cap * l.sz := by
          have : (i + 1) * l.sz ≤ l.cap * l.sz := Nat.mul_le_mul_right _ (by omega)
          rwa [Nat.add_mul, Nat.one_mul] at this
        refine wp_skipped (run _ _ _ _ hp h2 hok e1 (by omega)) ⟨_, _, S, κ, hK, ?_⟩
        refine Rel.free (F := F) ?_ (fun _ h => h.1)
        refine r.set hm hk hn (by simp) (fun b hb => setRow_other _ _ _ _ hb) ?_ (.base (.v _)) hd rfl rfl rfl
        have hSl := (r.ent.own _ _ _ hm hk hn).1
        refine ⟨l, hk, .inr ⟨hn, rfl, by simpa using h1, h1', _, T', setRow_heap _ _ _ _ _ _ h2, ?_, fun j z hj => ?_, fun i' z j y0 hz hy0 => ?_⟩⟩
        · simp only [List.size_toArray, List.length_append, List.length_take, List.length_drop, hsz, Array.length_toList]; omega
        · rw [List.getElem?_set] at hj
          split at hj
          · simp at hj; obtain ⟨_, rfl⟩ := hj; exact ⟨by omega, e4⟩
          · exact h4 _ _ hj
        · simp only [List.getElem?_toArray]
          rw [row_get _ _ _ (by simp [hsz]; simp at hsz; omega), hsz]
          have hmono : ∀ {z : AV} {cc : Value}, R0 w S z cc → R0 (w.setRow l.b (vs.toList.take (l.base + i * l.sz + 0) ++ (a.eval y).cells.toList ++ vs.toList.drop (l.base + i * l.sz + 0 + c)).toArray) S z cc :=
            fun h => h.mono (fun b hb => setRow_other _ _ _ _ (fun hh => hSl (hh ▸ hb))) (fun _ h => h)
          rw [List.getElem?_set] at hz
          by_cases hi : i = i'
          · subst hi
            rw [if_pos rfl, if_pos e3] at hz
            simp at hz; subst hz
            have hj : j < (ev t y').cells.length := (List.getElem?_eq_some_iff.1 hy0).1
            rw [if_pos (by omega)]
            have hj' : j < (a.eval y).cells.size := by simp at hsz; omega
            refine ⟨(a.eval y).cells[j], by rw [show l.base + i * l.sz + j - (l.base + i * l.sz + 0) = j by omega]; simp [hj'], ?_⟩
            exact hmono (kf_R0 (hc.2.1 _ _ _ hy0 (by simp [hj'])) (kfs_get e5 hy0))
          · rw [if_neg hi] at hz
            have hj : j < z.cells.length := (List.getElem?_eq_some_iff.1 hy0).1
            rw [(h4 _ _ hz).1] at hj
            have hne : ¬ (l.base + i * l.sz + 0 ≤ l.base + i' * l.sz + j ∧ l.base + i' * l.sz + j < l.base + i * l.sz + 0 + c) := by
              rcases Nat.lt_or_gt_of_ne hi with h | h
              · have : (i + 1) * l.sz ≤ i' * l.sz := Nat.mul_le_mul_right _ (by omega)
                rw [Nat.add_mul, Nat.one_mul] at this; omega
              · have : (i' + 1) * l.sz ≤ i * l.sz := Nat.mul_le_mul_right _ (by omega)
                rw [Nat.add_mul, Nat.one_mul] at this; omega
            rw [if_neg hne]
            obtain ⟨cc, hcc, hR⟩ := h5 i' z j y0 hz hy0
            exact ⟨cc, by simpa using hcc, hmono hR⟩
    · exact h.elim
  · exact h.elim

end Go.Av
