/- What an operation asks is enough: stores, addresses, calls; all operations. -/
import Derived.Test.YtblakcgmngdhmaaAvF
namespace Go.Av

variable {P : Program} {w w' : World} {S S' : Nat → Prop} {κ κ' : Nat → Option Loc} {m : Mem} {n N : Nat} {F : Nat → Prop} {t : Tmps} {a : Act} {X : Ctx}
  {K : AV → Mem → Prop} {Q : Exit → Act → World → Prop} {o : Oper}

theorem kf_R0 {x : AV} {v : Value} (h : R w S κ x v) (hk : x.kf = true) : R0 w S x v := by
  cases h with
  | base h => exact h
  | _ => simp [AV.kf] at hk

theorem kfs_get {l : List AV} (h : kfs l = true) {j : Nat} {y : AV} (hj : l[j]? = some y) : y.kf = true := by
  induction l generalizing j with
  | nil => simp at hj
  | cons x l ih =>
    simp only [kfs, Bool.and_eq_true] at h
    cases j with
    | zero => simp at hj; subst hj; exact h.1
    | succ j => exact ih h.2 (by simpa using hj)

/-- the cells behind a store -/
theorem row_get (cur : List Value) (vs : List Value) (q : Nat) (hq : q + vs.length ≤ cur.length) (j : Nat) :
    (cur.take q ++ vs ++ cur.drop (q + vs.length))[j]? = if q ≤ j ∧ j < q + vs.length then vs[j - q]? else cur[j]? := by
  by_cases h1 : j < q
  · rw [if_neg (by omega), List.append_assoc, List.getElem?_append_left (by simp; omega), List.getElem?_take_of_lt h1]
  · by_cases h2 : j < q + vs.length
    · rw [if_pos (by omega), List.append_assoc, List.getElem?_append_right (by simp; omega), List.getElem?_append_left (by simp; omega)]
      congr 1; simp; omega
    · rw [if_neg (by omega), List.getElem?_append_right (by simp; omega), List.getElem?_drop]
      congr 1; simp; omega

theorem allCell_get {l : List AV} (h : allCell l = true) {j : Nat} {y : AV} (hj : l[j]? = some y) : y.isCell = true := by
  induction l generalizing j with
  | nil => simp at hj
  | cons x l ih =>
    simp only [allCell, Bool.and_eq_true] at h
    cases j with
    | zero => simp at hj; subst hj; exact h.1
    | succ j => exact ih h.2 (by simpa using hj)
theorem allCell_all {l : List AV} (h : ∀ (j : Nat) y, l[j]? = some y → y.isCell = true) : allCell l = true := by
  induction l with
  | nil => rfl
  | cons x l ih => simp only [allCell, Bool.and_eq_true]; exact ⟨h 0 x (by simp), ih fun j y hj => h (j + 1) y (by simpa using hj)⟩
theorem allCell_splice {cs ys : List AV} {j : Nat} (h1 : allCell cs = true) (h2 : allCell ys = true) (hl : j + ys.length ≤ cs.length) : allCell (splice cs j ys) = true := by
  refine allCell_all fun q y hq => ?_
  rw [splice_get _ _ _ hl] at hq
  split at hq
  · exact allCell_get h2 hq
  · exact allCell_get h1 hq

theorem store_ok {T : TypeId} {c : Nat} {x y : Operand} {x' y' : Opd} (ho : o.op = .store T x y) (hT : sizeT P T = some c) (hx : cOpd x = some x') (hy : cOpd y = some y')
    (hd : ∀ d, o.dst = some d → d < N) (r : Rel X N w S κ t m F a) (h : vop (.st c x' y') t m n K) : o.wp P a w (Post K X N o.dst t m F n) Q := by
  have hr := ev_ok hx r
  have hv := ev_ok hy r
  have run : ∀ (b off : Nat) (cur : Array Value) (T' : TypeId), a.eval x = .pointer (some ⟨b, off, none⟩) → w.heap[b]? = some (.cells cur T' (0, 0)) → okVal (ev t y') = true →
      (ev t y').cells.length = c → off + c ≤ cur.size →
      (execOp a.eval o).run P w = .ok .skip (w.setRow b (cur.toList.take off ++ (a.eval y).cells.toList ++ cur.toList.drop (off + (a.eval y).cells.toList.length)).toArray) := by
    intro b off cur T' h1 h2 h3 h4 h5
    have hc := cells_R hv h3
    have hs : (a.eval y).cells.size = c := by rw [← hc.1]; exact h4
    have := run_storeCells_at (P := P) b off T' (a.eval y).cells.toList 0 cur w h2 (by simp [hs]; omega) hc.2.2
    simp only [Nat.add_zero] at this
    simp [execOp, ho, h1, Instr.storeAt, Instr.sureAddr, storeVar, sizeT_run hT, hs, this]
  simp only [vop] at h
  split at h
  · rename_i k off e
    rw [e] at hr
    obtain ⟨l, hk, hp⟩ := hr.ptr_inv
    split at h
    · rename_i cs hm
      obtain ⟨e1, e2, e3, hK⟩ := h
      obtain ⟨l', hk', hn, vs, T', h1, h2, h3⟩ := r.ent.mm _ _ hm
      rw [hk] at hk'; cases hk'
      have hok := okVal_of_allCell e3
      have hc := cells_R hv hok
      have hsz : (a.eval y).cells.toList.length = c := by rw [← e1]; simpa using hc.1.symm
      refine wp_skipped (run _ _ _ _ hp h1 hok e1 (by omega)) ⟨_, _, S, κ, hK, ?_⟩
      refine Rel.free (F := F) ?_ (fun _ h => h.1)
      refine r.set hm hk hn (by simp) (fun b hb => setRow_other _ _ _ _ hb) ?_ (.base (.v _)) hd rfl rfl rfl
      have hSl := (r.ent.own1 _ _ _ hm hk hn).1
      refine ⟨l, hk, hn, _, T', setRow_heap _ _ _ _ _ _ h1, ?_, fun j z hj => ?_⟩
      · simp only [List.size_toArray, List.length_append, List.length_take, List.length_drop, splice_length, hsz, Array.length_toList]; omega
      · rw [splice_get _ _ _ (by omega), e1] at hj
        simp only [List.getElem?_toArray]
        rw [row_get _ _ _ (by simp [hsz]; simp at hsz; omega), hsz]
        have hmono : ∀ {z : AV} {cc : Value}, R w S κ z cc → R (w.setRow l.b (vs.toList.take (l.base + off) ++ (a.eval y).cells.toList ++ vs.toList.drop (l.base + off + c)).toArray) S κ z cc :=
          fun h => h.mono (fun b hb => setRow_other _ _ _ _ (fun hh => hSl (hh ▸ hb))) (fun _ h => h) (fun _ _ h => h)
        by_cases hin : off ≤ j ∧ j < off + c
        · rw [if_pos hin] at hj
          rw [if_pos (by omega)]
          have hj' : j - off < (a.eval y).cells.size := by simp at hsz; omega
          refine ⟨(a.eval y).cells[j - off], by rw [show l.base + j - (l.base + off) = j - off by omega]; simp [hj'], ?_⟩
          rw [← hsz] at hmono ⊢
          simp only [hsz] at hmono ⊢
          exact hmono (hc.2.1 _ _ _ hj (by simp [hj']))
        · rw [if_neg hin] at hj
          rw [if_neg (by omega)]
          obtain ⟨cc, hcc, hR⟩ := h3 j z hj
          exact ⟨cc, by simpa using hcc, hmono hR⟩
    · exact h.elim
  · rename_i k i e
    rw [e] at hr
    obtain ⟨l, hk, hn, hp⟩ := hr.elt_inv
    have row : ∀ {sz : Nat} {rows : List MRow} {o0 : MObj}, lookM m k = some o0 → (∀ s xs, o0 ≠ .arr s xs) → ObjR w S κ k (.mat sz rows) →
        (c = 1 ∧ i < rows.length ∧ stRow m sz (ev t y') fun r u => K (.v undef) ((k, some (.mat sz (rows.set i r))) :: u)) → o.wp P a w (Post K X N o.dst t m F n) Q := by
      intro sz rows o0 hm hno h0 h
      obtain ⟨rfl, hil, h⟩ := h
      obtain ⟨l', hk', h0⟩ := h0
      rw [hk] at hk'; cases hk'
      obtain ⟨_, h1, h2, h3, h4, h5, vs, T', h6, h7, h8⟩ := h0
      have hSl := (r.ent.own1 _ _ _ hm hk hn).1
      have off0 : l.base + i * l.sz + 0 = l.base + i := by rw [h1]; omega
      rw [off0] at hp
      obtain ⟨w', hw'⟩ : ∃ w' : World, w' = w.setRow l.b (vs.toList.take (l.base + i) ++ (a.eval y).cells.toList ++ vs.toList.drop (l.base + i + (a.eval y).cells.toList.length)).toArray := ⟨_, rfl⟩
      have hother : ∀ b, b ≠ l.b → w'.heap[b]? = w.heap[b]? := fun b hb => by rw [hw']; exact setRow_other _ _ _ _ hb
      have hSo : ∀ b, S b → w'.heap[b]? = w.heap[b]? := fun b hb => hother b (fun hh => hSl (hh ▸ hb))
      have core : ∀ (l2 : Loc) (r' : MRow) (m2 : Mem), (a.eval y).cells = #[a.eval y] → Rel X N w S κ t m2 F a → lookM m2 k = some o0 → l2.same l → (∀ j, j ≠ i → l2.subs j = l.subs j) →
          (∀ b j, l2.subs i = some b → l.subs j = some b → j = i) → (∀ b, l2.subs i = some b → b ≠ l.b) → (∀ b, l2.subs i = some b → Free X w S κ m2 b) →
          RowR w' S sz (l2.subs i) (a.eval y) r' → Rel X N w' S (upd κ k l2) (putT o.dst (.v undef) t) ((k, some (.mat sz (rows.set i r'))) :: m2) F (a.put o.dst undef) := by
        intro l2 r' m2 hcell r2 hm2 q2 q3 q5 q6 q7 hrow
        refine r2.reset (l' := l2) hm2 hk q2 hn (by rw [hw']; simp) hother (fun b hb => ?_) ?_ (.base (.v _)) hd (by rw [hw']; rfl) (by rw [hw']; rfl) (by rw [hw']; rfl)
        · rcases hb with hb | ⟨j, hj⟩
          · exact .inl (.inl ⟨q2.isNil.symm.trans hb.1, q2.b.symm.trans hb.2⟩)
          · by_cases c1 : j = i
            · subst c1; exact .inr (q7 b hj)
            · rw [q3 j c1] at hj; exact .inl (.inr ⟨j, hj⟩)
        · have hlen1 : (a.eval y).cells.toList.length = 1 := by rw [hcell]; rfl
          refine ⟨l2, by simp [upd], q2.isNil.trans hn, q2.sz.trans h1, by rw [List.length_set, q2.used]; exact h2, by rw [q2.used, q2.cap]; exact h3, fun p q b g1 g2 => ?_, fun p b g1 => ?_, _, T', by rw [q2.b, hw']; exact setRow_heap _ _ _ _ _ _ h6, ?_, fun p rr hp => ?_⟩
          · by_cases c1 : p = i <;> by_cases c2 : q = i
            · rw [c1, c2]
            · subst c1; rw [q3 q c2] at g2; exact (q5 b q g1 g2).symm
            · subst c2; rw [q3 p c1] at g1; exact q5 b p g2 g1
            · rw [q3 p c1] at g1; rw [q3 q c2] at g2; exact h4 p q b g1 g2
          · rw [List.length_set, q2.b]
            by_cases c1 : p = i
            · subst c1; exact ⟨q6 b g1, hil⟩
            · rw [q3 p c1] at g1; exact h5 p b g1
          · rw [q2.base, q2.cap]
            simp only [List.size_toArray, List.length_append, List.length_take, List.length_drop, hlen1, Array.length_toList]; omega
          · rw [q2.base]
            simp only [List.getElem?_toArray]
            rw [row_get _ _ _ (by rw [hlen1]; simp; omega), hlen1]
            rw [List.getElem?_set] at hp
            by_cases c1 : i = p
            · subst c1
              rw [if_pos rfl, if_pos hil] at hp
              simp at hp; subst hp
              rw [if_pos (by omega)]
              exact ⟨a.eval y, by rw [hcell]; simp, hrow⟩
            · rw [if_neg c1] at hp
              rw [if_neg (by omega), q3 p (Ne.symm c1)]
              obtain ⟨cc, hcc, hR⟩ := h8 p rr hp
              exact ⟨cc, by simpa using hcc, hR.mono hSo (fun _ h => h) (fun b hb => hother b (h5 p b hb).1)⟩
      have fin : ∀ {u : Mem} {κ2 : Nat → Option Loc}, okVal (ev t y') = true → (ev t y').cells.length = 1 → K (.v undef) u → Rel X N w' S κ2 (putT o.dst (.v undef) t) (u ++ m) F (a.put o.dst undef) →
          o.wp P a w (Post K X N o.dst t m F n) Q := fun {u κ2} g1 g2 g3 g4 =>
        wp_skipped (w' := w') (by rw [hw']; exact run _ _ _ _ hp h6 g1 g2 (by omega)) ⟨_, _, S, κ2, g3, Rel.free g4 (fun _ h => h.1)⟩
      unfold stRow at h
      split at h
      · rename_i q off len e1
        split at h
        · rename_i s xs hq
          obtain ⟨rfl, rfl, hlx, hK⟩ := h
          have hqk : q ≠ k := fun hh => by subst hh; exact hno _ _ (Option.some.inj (hm.symm.trans hq))
          have rk := r.kill q
          have hmk : lookM ((q, none) :: m) k = some o0 := by rw [lookM_cons_ne _ _ hqk]; exact hm
          obtain ⟨lq', hlq', hob⟩ := r.ent.mm _ _ hq
          rw [e1] at hv
          have hcellS : ∀ (ad : Option Addr) (x1 x2 : Nat), a.eval y = .slice ad x1 x2 → (a.eval y).cells = #[a.eval y] := fun ad x1 x2 hh => by rw [hh]; rfl
          obtain ⟨l0, hl0⟩ : ∃ l0 : Loc, l0 = { l with subs := fun j => if j = i then none else l.subs j } := ⟨_, rfl⟩
          have nilcase : ∀ (ad : Option Addr), xs = [] → a.eval y = .slice ad 0 0 → o.wp P a w (Post K X N o.dst t m F n) Q := fun ad hx0 hvv => by
            refine fin (by rw [e1]; rfl) (by rw [e1]; rfl) hK (core l0 (.own xs) ((q, none) :: m) (hcellS _ _ _ hvv) rk hmk (by rw [hl0]; exact ⟨rfl, rfl, rfl, rfl, rfl, rfl⟩) (fun j hj => by rw [hl0]; simp [hj]) ?_ ?_ ?_ ?_)
            · intro b j hb; rw [hl0] at hb; simp at hb
            · intro b hb; rw [hl0] at hb; simp at hb
            · intro b hb; rw [hl0] at hb; simp at hb
            · exact .inl ⟨hx0, by rw [hl0]; simp, ad, hvv⟩
          generalize hvv : a.eval y = v at hv
          cases hv with
          | base hv => cases hv
          | arrNil hk2 hn2 => exact nilcase none (List.eq_nil_of_length_eq_zero hlx.symm) hvv
          | arr0 hk2 => exact nilcase (some _) (List.eq_nil_of_length_eq_zero hlx.symm) hvv
          | arr hk2 hn2 hlen2 hcap2 hu2 =>
            rename_i cap2 lq
            have hE : lq = lq' := by rw [hk2] at hlq'; exact Option.some.inj hlq'
            subst hE
            rcases hob with ⟨hob, _⟩ | ⟨_, g1, g2, g3, vs2, T2, g4, g5, g6, g7⟩
            · rw [hn2] at hob; cases hob
            have hbq : lq.has lq.b := .inl ⟨hn2, rfl⟩
            have hne : lq.b ≠ l.b := fun hh => hqk (r.ent.inj q k _ _ lq l lq.b hq hm hk2 hk hbq (.inl ⟨hn, hh.symm⟩))
            obtain ⟨l2, hl2⟩ : ∃ l2 : Loc, l2 = { l with subs := fun j => if j = i then some lq.b else l.subs j } := ⟨_, rfl⟩
            have hs2 : l2.subs i = some lq.b := by rw [hl2]; simp
            refine fin (by rw [e1]; rfl) (by rw [e1]; rfl) hK (core l2 (.own xs) ((q, none) :: m) (hcellS _ _ _ hvv) rk hmk (by rw [hl2]; exact ⟨rfl, rfl, rfl, rfl, rfl, rfl⟩) (fun j hj => by rw [hl2]; simp [hj]) ?_ ?_ ?_ ?_)
            · intro b j hb hj
              rw [hs2] at hb; cases hb
              exact (hqk (r.ent.inj q k _ _ lq l lq.b hq hm hk2 hk hbq (.inr ⟨j, hj⟩))).elim
            · intro b hb; rw [hs2] at hb; cases hb; exact hne
            · intro b hb; rw [hs2] at hb; cases hb
              refine ⟨fun q2 oq lq2 c1 c2 c3 => ?_, (r.ent.own q _ lq _ hq hk2 hbq).1, (r.ent.own q _ lq _ hq hk2 hbq).2, r.since.own q _ lq _ hq hk2 hbq⟩
              by_cases c4 : q2 = q
              · subst c4; rw [lookM_cons_eq] at c1; cases c1
              · rw [lookM_cons_ne _ _ (Ne.symm c4)] at c1
                exact c4 (r.ent.inj q2 q oq _ lq2 lq lq.b c1 hq c2 hk2 c3 hbq)
            · rw [hs2, hvv]
              subst hlx
              refine .inr ⟨lq.b, lq.base, cap2, rfl, by simp, hlen2, vs2, T2, (hother _ hne).trans g4, ?_, g6, fun i x j y hx hy => ?_⟩
              · have : cap2 * s ≤ lq.cap * s := Nat.mul_le_mul_right _ (by omega)
                omega
              · obtain ⟨c, hc, hR⟩ := g7 i x j y hx hy
                exact ⟨c, hc, hR.mono hSo (fun _ h => h)⟩
        · exact h.elim
      · rename_i z e1 hna
        obtain ⟨hkf, hcl, hK⟩ := h
        have hcs : (ev t y').cells = [ev t y'] := by
          generalize ev t y' = z at hcl
          cases z <;> first | rfl | simp [AV.isCell] at hcl
        have hok : okVal (ev t y') = true := by
          generalize ev t y' = z at hcl
          cases z <;> first | exact hcl | simp [AV.isCell] at hcl
        have hcv : (a.eval y).cells = #[a.eval y] := by
          have := (hv.notAgg hcl).1
          generalize a.eval y = v at this
          cases v <;> first | rfl | exact (this _ rfl).elim
        obtain ⟨l0, hl0⟩ : ∃ l0 : Loc, l0 = { l with subs := fun j => if j = i then none else l.subs j } := ⟨_, rfl⟩
        refine fin hok (by rw [hcs]; rfl) hK (core l0 _ m hcv r hm (by rw [hl0]; exact ⟨rfl, rfl, rfl, rfl, rfl, rfl⟩) (fun j hj => by rw [hl0]; simp [hj]) ?_ ?_ ?_ ?_)
        · intro b j hb; rw [hl0] at hb; simp at hb
        · intro b hb; rw [hl0] at hb; simp at hb
        · intro b hb; rw [hl0] at hb; simp at hb
        · exact ⟨by rw [hl0]; simp, hcl, hcs, (kf_R0 hv hkf).mono hSo (fun _ h => h)⟩
    split at h
    · rename_i sz xs hm
      obtain ⟨e1, e2, e3, e4, e5, hK⟩ := h
      obtain ⟨l', hk', h0⟩ := r.ent.mm _ _ hm
      rw [hk] at hk'; cases hk'
      rcases h0 with ⟨h0, _⟩ | ⟨_, rfl, h1, h1', vs, T', h2, h3, h4, h5⟩
      · rw [hn] at h0; cases h0
      · have hok := okVal_of_allCell e4
        have hc := cells_R hv hok
        have hsz : (a.eval y).cells.toList.length = c := by rw [← e1]; simpa using hc.1.symm
        have hic : i * l.sz + l.sz ≤ l.cap * l.sz := by
          have : (i + 1) * l.sz ≤ l.cap * l.sz := Nat.mul_le_mul_right _ (by omega)
          rwa [Nat.add_mul, Nat.one_mul] at this
        refine wp_skipped (run _ _ _ _ hp h2 hok e1 (by omega)) ⟨_, _, S, κ, hK, ?_⟩
        refine Rel.free (F := F) ?_ (fun _ h => h.1)
        refine r.set hm hk hn (by simp) (fun b hb => setRow_other _ _ _ _ hb) ?_ (.base (.v _)) hd rfl rfl rfl
        have hSl := (r.ent.own1 _ _ _ hm hk hn).1
        refine ⟨l, hk, .inr ⟨hn, rfl, by simpa using h1, h1', _, T', setRow_heap _ _ _ _ _ _ h2, ?_, fun j z hj => ?_, fun i' z j y0 hz hy0 => ?_⟩⟩
        · simp only [List.size_toArray, List.length_append, List.length_take, List.length_drop, hsz, Array.length_toList]; omega
        · rw [List.getElem?_set] at hj
          split at hj
          · simp at hj; obtain ⟨_, rfl⟩ := hj; exact ⟨by omega, e4⟩
          · exact h4 _ _ hj
        · simp only [List.getElem?_toArray]
          rw [row_get _ _ _ (by simp [hsz]; simp at hsz; omega), hsz]
          have hmono : ∀ {z : AV} {cc : Value}, R0 w S z cc → R0 (w.setRow l.b (vs.toList.take (l.base + i * l.sz + 0) ++ (a.eval y).cells.toList ++ vs.toList.drop (l.base + i * l.sz + 0 + c)).toArray) S z cc :=
            fun h => h.mono (fun b hb => setRow_other _ _ _ _ (fun hh => hSl (hh ▸ hb))) (fun _ h => h)
          rw [List.getElem?_set] at hz
          by_cases hi : i = i'
          · subst hi
            rw [if_pos rfl, if_pos e3] at hz
            simp at hz; subst hz
            have hj : j < (ev t y').cells.length := (List.getElem?_eq_some_iff.1 hy0).1
            rw [if_pos (by omega)]
            have hj' : j < (a.eval y).cells.size := by simp at hsz; omega
            refine ⟨(a.eval y).cells[j], by rw [show l.base + i * l.sz + j - (l.base + i * l.sz + 0) = j by omega]; simp [hj'], ?_⟩
            exact hmono (kf_R0 (hc.2.1 _ _ _ hy0 (by simp [hj'])) (kfs_get e5 hy0))
          · rw [if_neg hi] at hz
            have hj : j < z.cells.length := (List.getElem?_eq_some_iff.1 hy0).1
            rw [(h4 _ _ hz).1] at hj
            have hne : ¬ (l.base + i * l.sz + 0 ≤ l.base + i' * l.sz + j ∧ l.base + i' * l.sz + j < l.base + i * l.sz + 0 + c) := by
              rcases Nat.lt_or_gt_of_ne hi with h | h
              · have : (i + 1) * l.sz ≤ i' * l.sz := Nat.mul_le_mul_right _ (by omega)
                rw [Nat.add_mul, Nat.one_mul] at this; omega
              · have : (i' + 1) * l.sz ≤ i * l.sz := Nat.mul_le_mul_right _ (by omega)
                rw [Nat.add_mul, Nat.one_mul] at this; omega
            rw [if_neg hne]
            obtain ⟨cc, hcc, hR⟩ := h5 i' z j y0 hz hy0
            exact ⟨cc, by simpa using hcc, hmono hR⟩
    · rename_i sz rows hm
      exact row hm (fun _ _ hh => by cases hh) (r.ent.mm _ _ hm) h
    · rename_i sz rows i0 q0 hm
      exact row hm (fun _ _ hh => by cases hh) (r.ent.mm _ _ hm).unlent h
    · exact h.elim
  · rename_i k i jj _ e
    rw [e] at hr
    obtain ⟨l, hk, hn, hp⟩ := hr.elt_inv
    split at h
    · rename_i sz xs hm
      obtain ⟨e1, e2, e4, e5, el, hel, hK⟩ := h
      have e3 : i < xs.length := (List.getElem?_eq_some_iff.1 hel).1
      obtain ⟨l', hk', h0⟩ := r.ent.mm _ _ hm
      rw [hk] at hk'; cases hk'
      rcases h0 with ⟨h0, _⟩ | ⟨_, rfl, h1, h1', vs, T', h2, h3, h4, h5⟩
      · rw [hn] at h0; cases h0
      · have hok := okVal_of_allCell e4
        have hc := cells_R hv hok
        have hsz : (a.eval y).cells.toList.length = c := by rw [← e1]; simpa using hc.1.symm
        have hic : i * l.sz + l.sz ≤ l.cap * l.sz := by
          have : (i + 1) * l.sz ≤ l.cap * l.sz := Nat.mul_le_mul_right _ (by omega)
          rwa [Nat.add_mul, Nat.one_mul] at this
        have hes := h4 _ _ hel
        refine wp_skipped (run _ _ _ _ hp h2 hok e1 (by omega)) ⟨_, _, S, κ, hK, ?_⟩
        refine Rel.free (F := F) ?_ (fun _ h => h.1)
        refine r.set hm hk hn (by simp) (fun b hb => setRow_other _ _ _ _ hb) ?_ (.base (.v _)) hd rfl rfl rfl
        have hSl := (r.ent.own1 _ _ _ hm hk hn).1
        refine ⟨l, hk, .inr ⟨hn, rfl, by simpa using h1, h1', _, T', setRow_heap _ _ _ _ _ _ h2, ?_, fun j z hj => ?_, fun i' z j y0 hz hy0 => ?_⟩⟩
        · simp only [List.size_toArray, List.length_append, List.length_take, List.length_drop, hsz, Array.length_toList]; omega
        · rw [List.getElem?_set] at hj
          split at hj
          · simp at hj; obtain ⟨_, rfl⟩ := hj
            exact ⟨by show (splice el.cells jj (ev t y').cells).length = l.sz; rw [splice_length, hes.1], allCell_splice hes.2 e4 (by omega)⟩
          · exact h4 _ _ hj
        · simp only [List.getElem?_toArray]
          rw [row_get _ _ _ (by simp [hsz]; simp at hsz; omega), hsz]
          have hmono : ∀ {z : AV} {cc : Value}, R0 w S z cc → R0 (w.setRow l.b (vs.toList.take (l.base + i * l.sz + jj) ++ (a.eval y).cells.toList ++ vs.toList.drop (l.base + i * l.sz + jj + c)).toArray) S z cc :=
            fun h => h.mono (fun b hb => setRow_other _ _ _ _ (fun hh => hSl (hh ▸ hb))) (fun _ h => h)
          rw [List.getElem?_set] at hz
          by_cases hi : i = i'
          · subst hi
            rw [if_pos rfl, if_pos e3] at hz
            simp at hz; subst hz
            have hy0' : (splice el.cells jj (ev t y').cells)[j]? = some y0 := hy0
            clear hy0
            have hy0 := hy0'
            rw [splice_get _ _ _ (by omega), e1] at hy0
            split at hy0
            · rename_i hin
              rw [if_pos (by omega)]
              have hj' : j - jj < (a.eval y).cells.size := by simp at hsz; omega
              refine ⟨(a.eval y).cells[j - jj], by rw [show l.base + i * l.sz + j - (l.base + i * l.sz + jj) = j - jj by omega]; simp [hj'], ?_⟩
              exact hmono (kf_R0 (hc.2.1 _ _ _ hy0 (by simp [hj'])) (kfs_get e5 hy0))
            · rename_i hin
              rw [if_neg (by omega)]
              obtain ⟨cc, hcc, hR⟩ := h5 i el j y0 hel hy0
              exact ⟨cc, by simpa using hcc, hmono hR⟩
          · rw [if_neg hi] at hz
            have hj : j < z.cells.length := (List.getElem?_eq_some_iff.1 hy0).1
            rw [(h4 _ _ hz).1] at hj
            have hne : ¬ (l.base + i * l.sz + jj ≤ l.base + i' * l.sz + j ∧ l.base + i' * l.sz + j < l.base + i * l.sz + jj + c) := by
              rcases Nat.lt_or_gt_of_ne hi with h | h
              · have : (i + 1) * l.sz ≤ i' * l.sz := Nat.mul_le_mul_right _ (by omega)
                rw [Nat.add_mul, Nat.one_mul] at this; omega
              · have : (i' + 1) * l.sz ≤ i * l.sz := Nat.mul_le_mul_right _ (by omega)
                rw [Nat.add_mul, Nat.one_mul] at this; omega
            rw [if_neg hne]
            obtain ⟨cc, hcc, hR⟩ := h5 i' z j y0 hz hy0
            exact ⟨cc, by simpa using hcc, hmono hR⟩
    · exact h.elim
  · exact h.elim

end Go.Av
