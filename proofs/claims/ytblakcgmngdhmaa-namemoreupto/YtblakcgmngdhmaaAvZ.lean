/- What an operation asks is enough: append. -/
import Derived.Test.YtblakcgmngdhmaaAvY
namespace Go.Av

variable {P : Program} {w w' : World} {S S' : Nat → Prop} {κ κ' : Nat → Option Loc} {m : Mem} {n N : Nat} {F : Nat → Prop} {t : Tmps} {a : Act} {X : Ctx}
  {K : AV → Mem → Prop} {Q : Exit → Act → World → Prop} {o : Oper}

theorem Elems.one {sz : Nat} {ys : List AV} {cx : Array Value} (h : Elems w S sz ys cx 0) (hs : cx.size = ys.length * sz) (hp : 0 < sz) : ∀ c ∈ cx.toList, c.oneCell' = true := by
  intro c hc
  obtain ⟨q, hq, rfl⟩ := List.getElem_of_mem hc
  simp only [Array.length_toList] at hq
  have hi : q / sz < ys.length := Nat.div_lt_of_lt_mul (by rw [Nat.mul_comm, ← hs]; exact hq)
  have hj : q % sz < sz := Nat.mod_lt _ hp
  have hy : ys[q / sz]? = some ys[q / sz] := by simp [hi]
  have hsz := h.size _ _ hy
  have hjj : (ys[q / sz]).cells[q % sz]? = some ((ys[q / sz]).cells[q % sz]'(by omega)) := by simp
  obtain ⟨c, hc, hR⟩ := h.cell _ _ _ _ hy hjj
  rw [Nat.zero_add, Nat.mul_comm, Nat.div_add_mod, Array.getElem?_eq_getElem hq] at hc
  simp at hc; subst hc
  have := hR.notAgg (allCell_get hsz.2 hjj)
  simp only [Array.getElem_toList]
  cases hv : cx[q] <;> simp_all [Value.oneCell']

theorem loadRow {b off k : Nat} {f : Nat → Value} (W : World) (h : ∀ q, q < k → W.cell? ⟨b, off + q, none⟩ = some (f q)) : (loadCells ⟨b, off, none⟩ k).run P W = .ok ((List.range k).map f).toArray W :=
  run_loadCells W ⟨b, off, none⟩ k f (fun q hq => by rw [add_none]; exact h q hq)

theorem cell_heap {W : World} (h : W.heap = w.heap) (ad : Addr) : W.cell? ad = w.cell? ad := by unfold World.cell?; rw [h]

theorem src_run {x : AV} {v : Value} {sz : Nat} {G : List AV → Prop} (e : Ent w S κ m F) (hR : R w S κ x v) (h : srcE sz m x G) :
    ∃ ys cx, G ys ∧ (∀ W, (Builtin.lenOf v).run P W = .ok ys.length W) ∧ (∀ W, W.heap = w.heap → (Builtin.firstCells sz ys.length v).run P W = .ok cx W) ∧ cx.size = ys.length * sz ∧ Elems w S sz ys cx 0 := by
  have nilc : ∀ ad, ∀ W, (Builtin.firstCells sz 0 (.slice ad 0 0)).run P W = .ok #[] W := fun ad W => by
    cases ad with
    | none => simp [Builtin.firstCells]
    | some ad => simp [Builtin.firstCells, loadCells, loadCellsFrom]
  have row : ∀ (b off len cap : Nat) (ys : List AV) (f : Nat → Value), ys.length = len → (∀ (i : Nat) x, ys[i]? = some x → x.cells.length = sz ∧ allCell x.cells = true) →
      (∀ q, q < len * sz → w.cell? ⟨b, off + q, none⟩ = some (f q)) → (∀ (i : Nat) x (j : Nat) y, ys[i]? = some x → x.cells[j]? = some y → R0 w S y (f (i * sz + j))) →
      (∀ W, W.heap = w.heap → (Builtin.firstCells sz ys.length (.slice (some ⟨b, off, none⟩) len cap)).run P W = .ok ((List.range (len * sz)).map f).toArray W) ∧ ((List.range (len * sz)).map f).toArray.size = ys.length * sz ∧ Elems w S sz ys ((List.range (len * sz)).map f).toArray 0 := by
    intro b off len cap ys f hl hs hc hr
    subst hl
    refine ⟨fun W hW => ?_, by simp, hs, fun i x j y hx hy => ?_⟩
    · simp only [Builtin.firstCells]
      exact loadRow W (fun q hq => by rw [cell_heap hW]; exact hc q hq)
    · have hi : i < ys.length := (List.getElem?_eq_some_iff.1 hx).1
      have hj : j < sz := by rw [← (hs i x hx).1]; exact (List.getElem?_eq_some_iff.1 hy).1
      have hlt : i * sz + j < ys.length * sz := by
        have : (i + 1) * sz ≤ ys.length * sz := Nat.mul_le_mul_right _ (by omega)
        rw [Nat.add_mul, Nat.one_mul] at this; omega
      refine ⟨f (i * sz + j), ?_, hr i x j y hx hy⟩
      simp [List.getElem?_range hlt]
  unfold srcE at h
  split at h
  · rename_i s ys
    obtain ⟨rfl, hG⟩ := h
    cases hR with
    | base hR => cases hR with
      | roNil =>
        rename_i ad cap
        refine ⟨[], #[], hG, fun W => by simp [Builtin.lenOf], fun W _ => ?_, by simp, ⟨fun i x h => by simp at h, fun i x j y h => by simp at h⟩⟩
        cases ad with
        | none => simp [Builtin.firstCells]
        | some ad => simp [Builtin.firstCells, loadCells, loadCellsFrom]
      | ro hb hcap hs hc hr =>
        rename_i b off cap f
        obtain ⟨g1, g2, g3⟩ := row b off ys.length cap ys f rfl hs hc hr
        exact ⟨ys, _, hG, fun W => by simp [Builtin.lenOf], g1, g2, g3⟩
  · have := hR.v_inv; subst this
    exact ⟨[], #[], h, fun W => by simp [Builtin.lenOf], fun W _ => nilc none W, by simp, ⟨fun i x h => by simp at h, fun i x j y h => by simp at h⟩⟩
  · rename_i k off len
    split at h
    · rename_i s zs hm
      obtain ⟨rfl, hG⟩ := h
      cases hR with
      | base hR => cases hR
      | arrNil hk hn => exact ⟨[], #[], by simpa using hG, fun W => by simp [Builtin.lenOf], fun W _ => nilc none W, by simp, ⟨fun i x h => by simp at h, fun i x j y h => by simp at h⟩⟩
      | arr0 hk =>
        rename_i ad l
        exact ⟨[], #[], by simpa using hG, fun W => by simp [Builtin.lenOf], fun W _ => nilc (some ad) W, by simp, ⟨fun i x h => by simp at h, fun i x j y h => by simp at h⟩⟩
      | arr hk hn hlen hcap hu =>
        rename_i cap l
        obtain ⟨l', hk', h0⟩ := e.mm _ _ hm
        rw [hk] at hk'; cases hk'
        rcases h0 with ⟨h0, _⟩ | ⟨_, rfl, h1, h1', vs, T', h2, h3, h4, h5⟩
        · rw [hn] at h0; cases h0
        · have hlen' : ((zs.drop off).take len).length = len := by simp; omega
          have hget : ∀ (i : Nat) x, ((zs.drop off).take len)[i]? = some x → zs[off + i]? = some x := fun i x h => by
            have hi : i < len := by have := (List.getElem?_eq_some_iff.1 h).1; omega
            rw [List.getElem?_take_of_lt hi, List.getElem?_drop] at h
            exact h
          obtain ⟨g1, g2, g3⟩ := row l.b (l.base + off * l.sz) len cap ((zs.drop off).take len) (fun q => (vs[l.base + off * l.sz + q]?).getD undef) hlen'
            (fun i x hx => h4 _ _ (hget i x hx))
            (fun q hq => by
              have : (off + len) * l.sz ≤ l.cap * l.sz := Nat.mul_le_mul_right _ (by omega)
              rw [Nat.add_mul] at this
              rw [cell_of h2, Array.getElem?_eq_getElem (by omega)]; rfl)
            (fun i x j y hx hy => by
              obtain ⟨c, hc, hR⟩ := h5 _ x j y (hget i x hx) hy
              rw [show l.base + off * l.sz + (i * l.sz + j) = l.base + (off + i) * l.sz + j from by rw [Nat.add_mul]; omega, hc]
              exact hR)
          exact ⟨_, _, hG, fun W => by simp [Builtin.lenOf]; omega, g1, g2, g3⟩
    · exact h.elim
  · exact h.elim

theorem growBy_le (newLen : Nat) : ∀ (r c : Nat), Builtin.growBy newLen r c ≤ c ∨ Builtin.growBy newLen r c ≤ newLen + (newLen + 768) / 4
  | 0, c => .inl (Nat.le_refl _)
  | r + 1, c => by
    unfold Builtin.growBy
    split
    · exact .inl (Nat.le_refl _)
    · rcases growBy_le newLen r (c + (c + 768) / 4) with h | h
      · right; omega
      · exact .inr h

theorem nextcap_le {need cap : Nat} (h : cap < need) : Builtin.nextslicecap need cap ≤ 2 * need + 192 := by
  unfold Builtin.nextslicecap
  split
  · omega
  · split
    · omega
    · rcases growBy_le need 4 cap with h' | h' <;> omega

/-- rows one behind the other -/
theorem Elems.append {sz : Nat} {xs ys : List AV} {cx cy : Array Value} (h1 : Elems w S sz xs cx 0) (h2 : Elems w S sz ys cy 0) (hs : cx.size = xs.length * sz) : ∀ rest : Array Value, Elems w S sz (xs ++ ys) (cx ++ cy ++ rest) 0 := by
  intro rest
  refine ⟨fun i x hx => ?_, fun i x j y hx hy => ?_⟩
  · by_cases hi : i < xs.length
    · rw [List.getElem?_append_left hi] at hx; exact h1.size i x hx
    · rw [List.getElem?_append_right (by omega)] at hx; exact h2.size _ x hx
  · by_cases hi : i < xs.length
    · rw [List.getElem?_append_left hi] at hx
      obtain ⟨c, hc, hr⟩ := h1.cell i x j y hx hy
      exact ⟨c, by
        have hlt := (Array.getElem?_eq_some_iff.1 hc).1
        rw [Array.append_assoc, Array.getElem?_append_left hlt]; exact hc, hr⟩
    · rw [List.getElem?_append_right (by omega)] at hx
      obtain ⟨c, hc, hr⟩ := h2.cell _ x j y hx hy
      refine ⟨c, ?_, hr⟩
      have hlt := (Array.getElem?_eq_some_iff.1 hc).1
      have hidx : 0 + i * sz + j = cx.size + (0 + (i - xs.length) * sz + j) := by
        rw [hs, Nat.zero_add, Nat.zero_add, ← Nat.add_assoc, ← Nat.add_mul]
        congr 2; omega
      rw [hidx, Array.append_assoc, Array.getElem?_append_right (by omega), Nat.add_sub_cancel_left, Array.getElem?_append_left hlt]
      exact hc

section
variable {T T' e e' : TypeId} {sz : Nat} {z : AV} {c : Call} {s x : Operand}

/-- append, where there is no room -/
theorem app_grow {base : Option Addr} {sLen sCap k : Nat} {xv : Value} {cs cx : Array Value} {i : TypeInfo} {zv : Value} (hT : P.underlying T = some (.slice e)) (hT' : P.underlying T' = some (.slice e'))
    (hi : P.info? e = some i) (hz : i.zero = some zv) (hsz : i.size = sz) (hby : i.bytes ≤ 4096) (hlen : ∀ W, (Builtin.lenOf xv).run P W = .ok k W)
    (hneed : sCap < sLen + k) (hbig : sLen + k ≤ 4294967296) (hcs : ∀ W, W.heap = w.heap → (Builtin.firstCells sz sLen (.slice base sLen sCap)).run P W = .ok cs W)
    (hcx : ∀ W, W.heap = w.heap → (Builtin.firstCells sz k xv).run P W = .ok cx W) :
    ∃ q, sLen + k ≤ q ∧ (Builtin.append_ #[T, T'] T #[.slice base sLen sCap, xv]).run P w =
      .ok (.slice (some ⟨w.heap.size, 0, none⟩) (sLen + k) q) (w.drew.alloc (.cells (cs ++ cx ++ Builtin.zeroCells zv.cells (q - (sLen + k))) e)) := by
  have hso : ∀ W, (sizeOf e).run P W = .ok sz W := fun W => by simp [sizeOf, typeInfo, hi, hsz]
  have hzv : ∀ W, (zeroValue e).run P W = .ok zv W := fun W => by simp [zeroValue, typeInfo, hi, hz]
  have hti : ∀ W, (typeInfo e).run P W = .ok i W := fun W => by simp [typeInfo, hi]
  have hnc : ¬ (Builtin.nextslicecap (sLen + k) sCap * i.bytes > 2 ^ 48) := by
    have h1 := nextcap_le hneed
    have h2 : Builtin.nextslicecap (sLen + k) sCap * i.bytes ≤ (2 * 4294967296 + 192) * 4096 := Nat.mul_le_mul (by omega) hby
    have h3 : (2 * 4294967296 + 192) * 4096 ≤ 2 ^ 48 := by decide
    omega
  have hmax : ¬ ((sLen + k : Nat) : Int) > IntKind.i64.max := by
    have : IntKind.i64.max = 9223372036854775807 := by decide
    rw [this]; omega
  refine ⟨(Question.appendCap (sLen + k) sCap e).cut (w.tape w.drawn (.appendCap (sLen + k) sCap e)), by simp [Question.cut], ?_⟩
  have hroom : ¬ sLen + k ≤ sCap := by omega
  have hx1 := hcs w.drew rfl
  have hx2 := hcx w.drew rfl
  have hforced : (Question.appendCap (sLen + k) sCap e).forced = false := rfl
  unfold Builtin.append_
  simp only [List.getElem?_toArray, List.getElem?_cons_zero, List.getElem?_cons_succ, Sem.run_bind, und_run hT, und_run hT', hso, Result.andThen_ok, Sem.run_pure, hlen, Bool.false_eq_true, if_false, hroom, Bool.not_false, if_true, hti, hnc, hmax, false_and,
    run_choose, hforced, run_askRoom, World.drew_eq, hx1, hx2, hzv, newRow, run_newObj, World.alloc_eq, World.size_drew]

/-- append, where there is room -/
theorem app_room {b off sLen sCap k : Nat} {xv : Value} {cx vs : Array Value} {Tb : TypeId} {i : TypeInfo} (hT : P.underlying T = some (.slice e)) (hT' : P.underlying T' = some (.slice e'))
    (hi : P.info? e = some i) (hsz : i.size = sz) (hlen : ∀ W, (Builtin.lenOf xv).run P W = .ok k W)
    (hneed : sLen + k ≤ sCap) (hcx : ∀ W, W.heap = w.heap → (Builtin.firstCells sz k xv).run P W = .ok cx W) (hone : ∀ c ∈ cx.toList, c.oneCell' = true)
    (hb : w.heap[b]? = some (.cells vs Tb (0, 0))) (hfit : off + sLen * sz + cx.size ≤ vs.size) :
    (Builtin.append_ #[T, T'] T #[.slice (some ⟨b, off, none⟩) sLen sCap, xv]).run P w =
      .ok (.slice (some ⟨b, off, none⟩) (sLen + k) sCap) (w.setRow b (vs.toList.take (off + sLen * sz) ++ cx.toList ++ vs.toList.drop (off + sLen * sz + cx.toList.length)).toArray) := by
  have hso : ∀ W, (sizeOf e).run P W = .ok sz W := fun W => by simp [sizeOf, typeInfo, hi, hsz]
  have hx2 := hcx w rfl
  have hst := run_storeCells_at (P := P) b (off + sLen * sz) Tb cx.toList 0 vs w hb (by simpa using hfit) hone
  simp only [Nat.add_zero] at hst
  unfold Builtin.append_
  simp only [List.getElem?_toArray, List.getElem?_cons_zero, List.getElem?_cons_succ, Sem.run_bind, und_run hT, und_run hT', hso, Result.andThen_ok, Sem.run_pure, hlen, Bool.false_eq_true, if_false, hneed, Bool.not_false, if_true, hx2, add_none, hst]

/-- append of nothing to nothing -/
theorem app_none {base : Option Addr} {xv : Value} {cx : Array Value} {i : TypeInfo} (hT : P.underlying T = some (.slice e)) (hT' : P.underlying T' = some (.slice e'))
    (hi : P.info? e = some i) (hsz : i.size = sz) (hlen : ∀ W, (Builtin.lenOf xv).run P W = .ok 0 W) (hcx : ∀ W, W.heap = w.heap → (Builtin.firstCells sz 0 xv).run P W = .ok cx W) (hc0 : cx.size = 0) :
    (Builtin.append_ #[T, T'] T #[.slice base 0 0, xv]).run P w = .ok (.slice base 0 0) w := by
  have hso : ∀ W, (sizeOf e).run P W = .ok sz W := fun W => by simp [sizeOf, typeInfo, hi, hsz]
  have hx2 := hcx w rfl
  have hcl : cx.toList = [] := by have : cx = #[] := Array.eq_empty_of_size_eq_zero hc0; simp [this]
  unfold Builtin.append_
  cases base with
  | none =>
    simp only [List.getElem?_toArray, List.getElem?_cons_zero, List.getElem?_cons_succ, Sem.run_bind, und_run hT, und_run hT', hso, Result.andThen_ok, Sem.run_pure, hlen, Bool.false_eq_true, if_false, Bool.not_false, if_true, hx2, Nat.add_zero, Nat.le_refl]
  | some ad =>
    simp only [List.getElem?_toArray, List.getElem?_cons_zero, List.getElem?_cons_succ, Sem.run_bind, und_run hT, und_run hT', hso, Result.andThen_ok, Sem.run_pure, hlen, Bool.false_eq_true, if_false, Bool.not_false, if_true, hx2, Nat.add_zero, Nat.le_refl, hcl, storeCells]

theorem zero_size (zs : Array Value) (k : Nat) : (Builtin.zeroCells zs k).size = k * zs.size := by simp [Builtin.zeroCells]

theorem drew_rel (r : Rel X N w S κ t m F a) : Rel X N w.drew S κ t m F a := r.heap rfl rfl rfl rfl

theorem Elems.drew {sz base : Nat} {xs : List AV} {vs : Array Value} (h : Elems w S sz xs vs base) : Elems w.drew S sz xs vs base := h.mono (fun _ _ => rfl)

theorem app_ok {x' s' : Opd} (ho : o.op = .call c) (hb : c.callee = .builtin .append) (ha : c.args.toList = [s, x]) (ht : c.argTypes = #[T, T']) (hT : P.underlying T = some (.slice e)) (hT' : P.underlying T' = some (.slice e'))
    (he : elemT P e = some (sz, z)) (hs : cOpd s = some s') (hx : cOpd x = some x')
    (hd : ∀ d, o.dst = some d → d < N) (r : Rel X N w S κ t m F a) (hF : F n) (h : vop (.app sz s' x') t m n K) : o.wp P a w (Post K X N o.dst t m F n) Q := by
  obtain ⟨i, zv, hi, hz, hsz, hzc, hpos, hby, hzz, hall⟩ := elemT_inv he
  have hargs : c.args = #[s, x] := Array.toList_inj.1 ha
  have hRs := ev_ok hs r
  have hRx := ev_ok hx r
  have fin : ∀ {v : Value} {w' : World} {y : AV} {u : Mem}, (Builtin.append_ #[T, T'] T #[a.eval s, a.eval x]).run P w = .ok v w' → K y u →
      (∃ S' κ', Rel X N w' S' κ' (putT o.dst y t) (u ++ m) (fun k => F k ∧ k ≠ n) (a.put o.dst v)) → o.wp P a w (Post K X N o.dst t m F n) Q :=
    fun {v w' y u} h1 h2 ⟨S', κ', h3⟩ => wp_value (v := v) (w' := w') (by
      have : ∀ ty, Builtin.append_ #[T, T'] ty #[a.eval s, a.eval x] = Builtin.append_ #[T, T'] T #[a.eval s, a.eval x] := fun _ => rfl
      simp [execOp, ho, resolve, hb, hargs, invoke, builtin, ht, this, h1]) ⟨y, u, S', κ', h2, h3⟩
  simp only [vop, vapp] at h
  split at h
  · -- to nothing
    rename_i e1
    have hv := ev_v hs r e1
    obtain ⟨ys, cx, ⟨hbig, hK⟩, hlen, hcx, hcs, hE⟩ := src_run (P := P) r.ent hRx h
    by_cases h0 : ys.length = 0
    · have hy : ys = [] := List.eq_nil_of_length_eq_zero h0
      subst hy
      simp only [List.length_nil] at hlen hcx hcs hK
      refine fin (v := .slice none 0 0) (w' := w) (by rw [hv]; exact app_none hT hT' hi hsz hlen hcx (by simpa using hcs)) hK ?_
      exact ⟨_, _, r.newNil hF hd⟩
    · obtain ⟨q, hq, hrun⟩ := app_grow (P := P) (w := w) (base := none) (sLen := 0) (sCap := 0) (cs := #[]) hT hT' hi hz hsz hby hlen (by omega) (by omega)
        (fun W _ => by simp [Builtin.firstCells]) hcx
      simp only [Nat.zero_add] at hrun hq
      refine fin (by rw [hv]; exact hrun) hK ?_
      have hvs : q * sz ≤ (#[] ++ cx ++ Builtin.zeroCells zv.cells (q - ys.length)).size := by
        simp only [Array.size_append, zero_size, hzc, hcs, List.size_toArray, List.length_nil, Nat.zero_add]
        rw [← Nat.add_mul]; exact Nat.mul_le_mul_right _ (by omega)
      have hE' : Elems w S sz ys (#[] ++ cx ++ Builtin.zeroCells zv.cells (q - ys.length)) 0 := by
        have := Elems.append (w := w) (S := S) (xs := []) (cx := #[]) ⟨fun i x h => by simp at h, fun i x j y h => by simp at h⟩ hE (by simp) (Builtin.zeroCells zv.cells (q - ys.length))
        simpa using this
      have := new_arr (n := n) (d := o.dst) (T := e) (drew_rel r) hF hE'.drew hq hvs hd
      exact ⟨_, _, this⟩
  · rename_i k off len e1
    rw [e1] at hRs
    split at h
    · rename_i s2 xs hm
      obtain ⟨rfl, htip, h⟩ := h
      obtain ⟨ys, cx, ⟨hbig, hK⟩, hlen, hcx, hcs, hE⟩ := src_run (P := P) r.ent hRx h
      have nothing : ∀ ad, a.eval s = .slice ad 0 0 → xs.drop off = [] → len = 0 → o.wp P a w (Post K X N o.dst t m F n) Q := fun ad hv hdrop hl0 => by
        subst hl0
        rw [hdrop] at hK
        simp only [List.nil_append, Nat.zero_add] at hK hbig
        by_cases h0 : ys.length = 0
        · have hy : ys = [] := List.eq_nil_of_length_eq_zero h0
          subst hy
          simp only [List.length_nil] at hlen hcx hcs hK
          refine fin (v := .slice ad 0 0) (w' := w) (by rw [hv]; exact app_none hT hT' hi hsz hlen hcx (by simpa using hcs)) hK ?_
          exact ⟨_, _, (r.kill k).newNil hF hd⟩
        · obtain ⟨q, hq, hrun⟩ := app_grow (P := P) (w := w) (base := ad) (sLen := 0) (sCap := 0) (cs := #[]) hT hT' hi hz hsz hby hlen (by omega) (by omega)
            (fun W _ => by cases ad <;> simp [Builtin.firstCells, loadCells, loadCellsFrom]) hcx
          simp only [Nat.zero_add] at hrun hq
          refine fin (by rw [hv]; exact hrun) hK ?_
          have hvs : q * s2 ≤ (#[] ++ cx ++ Builtin.zeroCells zv.cells (q - ys.length)).size := by
            simp only [Array.size_append, zero_size, hzc, hcs, List.size_toArray, List.length_nil, Nat.zero_add]
            rw [← Nat.add_mul]; exact Nat.mul_le_mul_right _ (by omega)
          have hE' : Elems w S s2 ys (#[] ++ cx ++ Builtin.zeroCells zv.cells (q - ys.length)) 0 := by
            have := Elems.append (w := w) (S := S) (xs := []) (cx := #[]) ⟨fun i x h => by simp at h, fun i x j y h => by simp at h⟩ hE (by simp) (Builtin.zeroCells zv.cells (q - ys.length))
            simpa using this
          exact ⟨_, _, new_arr (n := n) (d := o.dst) (T := e) (drew_rel (r.kill k)) hF hE'.drew hq hvs hd⟩
      generalize hv : a.eval s = v at hRs
      cases hRs with
      | base hR => cases hR
      | arrNil hk hn => exact nothing none hv (List.drop_eq_nil_of_le (by omega)) rfl
      | arr0 hk =>
        rename_i ad l
        exact nothing (some ad) hv (List.drop_eq_nil_of_le (by omega)) rfl
      | arr hk hn hle hcap hu =>
        rename_i cap l
        obtain ⟨l', hk', g0⟩ := r.ent.mm _ _ hm
        rw [hk] at hk'; cases hk'
        rcases g0 with ⟨g0, _⟩ | ⟨_, rfl, g1, g1', vs, Tb, g2, g3, g4, g5⟩
        · rw [hn] at g0; cases g0
        · have hdl : (xs.drop off).length = len := by simp; omega
          have hEx : Elems w S l.sz (xs.drop off) vs (l.base + off * l.sz) := ⟨fun i x hx => g4 _ x (by rw [List.getElem?_drop] at hx; exact hx), fun i x j y hx hy => by
            rw [List.getElem?_drop] at hx
            obtain ⟨c, hc, hr⟩ := g5 _ x j y hx hy
            exact ⟨c, by rw [← hc]; congr 1; rw [Nat.add_mul]; omega, hr⟩⟩
          have hcapb : l.base + off * l.sz + cap * l.sz ≤ vs.size := by
            have : (off + cap) * l.sz ≤ l.cap * l.sz := Nat.mul_le_mul_right _ hcap
            rw [Nat.add_mul] at this; omega
          by_cases hroom : len + ys.length ≤ cap
          · -- in place
            have hfit : l.base + off * l.sz + len * l.sz + cx.size ≤ vs.size := by
              have : (len + ys.length) * l.sz ≤ cap * l.sz := Nat.mul_le_mul_right _ hroom
              rw [Nat.add_mul] at this; rw [hcs]; omega
            have hrun := app_room (P := P) (w := w) (sLen := len) (sCap := cap) hT hT' hi hsz hlen hroom hcx (hE.one hcs hpos) g2 hfit
            refine fin (by rw [hv]; exact hrun) hK ?_
            have hSl := (r.ent.own1 _ _ _ hm hk hn).1
            have hlc : cx.toList.length = ys.length * l.sz := by simpa using hcs
            let L : Loc := ⟨l.b, l.base + off * l.sz, l.sz, cap, len + ys.length, false, fun _ => none⟩
            refine ⟨S, upd κ n L, r.adopt (l' := L) hF hm hk hn rfl (fun _ => rfl) (by simp) (fun b hb' => setRow_other _ _ _ _ hb') ?_ ?_ hd rfl rfl rfl⟩
            · refine ⟨L, by simp [upd], .inr ⟨rfl, rfl, by simp [L, hdl], hroom, _, Tb, setRow_heap _ _ _ _ _ _ g2, ?_, fun i x hx => ?_, fun i x j y hx hy => ?_⟩⟩
              · simp only [L, List.size_toArray, List.length_append, List.length_take, List.length_drop, hlc, Array.length_toList]
                rw [← hlc] at *; omega
              · by_cases hil : i < len
                · rw [List.getElem?_append_left (by omega)] at hx; exact hEx.size i x hx
                · rw [List.getElem?_append_right (by omega)] at hx; exact hE.size _ x hx
              · have hmono : ∀ (rr : Array Value) {y : AV} {c : Value}, R0 w S y c → R0 (w.setRow l.b rr) S y c :=
                  fun rr _ _ h => h.mono (fun b hb' => setRow_other _ _ _ _ (fun hh => hSl (hh ▸ hb'))) (fun _ h => h)
                simp only [L, List.getElem?_toArray]
                rw [row_get _ _ _ (by simp [hcs]; rw [hcs] at hfit; omega), hlc]
                by_cases hil : i < len
                · rw [List.getElem?_append_left (by omega)] at hx
                  obtain ⟨c, hc, hr⟩ := hEx.cell i x j y hx hy
                  have hj : j < l.sz := by rw [← (hEx.size i x hx).1]; exact (List.getElem?_eq_some_iff.1 hy).1
                  have hlt : i * l.sz + j < len * l.sz := by
                    have : (i + 1) * l.sz ≤ len * l.sz := Nat.mul_le_mul_right _ (by omega)
                    rw [Nat.add_mul, Nat.one_mul] at this; omega
                  rw [if_neg (by omega)]
                  exact ⟨c, by simpa using hc, hmono _ hr⟩
                · rw [List.getElem?_append_right (by omega), hdl] at hx
                  obtain ⟨c, hc, hr⟩ := hE.cell _ x j y hx hy
                  have hj : j < l.sz := by rw [← (hE.size _ x hx).1]; exact (List.getElem?_eq_some_iff.1 hy).1
                  have hi2 : i - len < ys.length := (List.getElem?_eq_some_iff.1 hx).1
                  have hidx : i * l.sz = len * l.sz + (i - len) * l.sz := by rw [← Nat.add_mul]; congr 1; omega
                  have hlt : (i - len) * l.sz + j < ys.length * l.sz := by
                    have : (i - len + 1) * l.sz ≤ ys.length * l.sz := Nat.mul_le_mul_right _ (by omega)
                    rw [Nat.add_mul, Nat.one_mul] at this; omega
                  rw [if_pos (by omega)]
                  refine ⟨c, ?_, hmono _ hr⟩
                  rw [show l.base + off * l.sz + i * l.sz + j - (l.base + off * l.sz + len * l.sz) = 0 + (i - len) * l.sz + j by omega]
                  simpa using hc
            · have := R.arr (w := w.setRow l.b (vs.toList.take (l.base + off * l.sz + len * l.sz) ++ cx.toList ++ vs.toList.drop (l.base + off * l.sz + len * l.sz + cx.toList.length)).toArray) (S := S) (κ := upd κ n L) (k := n) (off := 0) (len := len + ys.length) (cap := cap) (l := L) (by simp [upd]) rfl hroom (by simp [L]) (by simp [L])
              simpa [L] using this
          · -- grown
            have hfc : ∀ W : World, W.heap = w.heap → (Builtin.firstCells l.sz len (.slice (some ⟨l.b, l.base + off * l.sz, none⟩) len cap)).run P W = .ok ((List.range (len * l.sz)).map fun q => (vs[l.base + off * l.sz + q]?).getD undef).toArray W := fun W hW => by
              simp only [Builtin.firstCells]
              refine loadRow W (fun q hq => ?_)
              rw [cell_heap hW, cell_of g2]
              have : len * l.sz ≤ cap * l.sz := Nat.mul_le_mul_right _ hle
              rw [Array.getElem?_eq_getElem (by omega)]; rfl
            obtain ⟨q, hq, hrun⟩ := app_grow (P := P) (w := w) (sLen := len) (sCap := cap) hT hT' hi hz hsz hby hlen (by omega) hbig hfc hcx
            refine fin (by rw [hv]; exact hrun) hK ?_
            have hE1 : Elems w S l.sz (xs.drop off) ((List.range (len * l.sz)).map fun q => (vs[l.base + off * l.sz + q]?).getD undef).toArray 0 := by
              refine ⟨hEx.size, fun i x j y hx hy => ?_⟩
              obtain ⟨c, hc, hr⟩ := hEx.cell i x j y hx hy
              have hi2 : i < len := by rw [← hdl]; exact (List.getElem?_eq_some_iff.1 hx).1
              have hj : j < l.sz := by rw [← (hEx.size i x hx).1]; exact (List.getElem?_eq_some_iff.1 hy).1
              have hlt : i * l.sz + j < len * l.sz := by
                have : (i + 1) * l.sz ≤ len * l.sz := Nat.mul_le_mul_right _ (by omega)
                rw [Nat.add_mul, Nat.one_mul] at this; omega
              refine ⟨c, ?_, hr⟩
              rw [Nat.zero_add, List.getElem?_toArray, List.getElem?_map, List.getElem?_range hlt, Option.map_some, ← Nat.add_assoc, hc]; rfl
            have hlen2 : (xs.drop off ++ ys).length = len + ys.length := by simp [hdl]
            have hE2 := (hE1.append hE (by simp [hdl])) (Builtin.zeroCells zv.cells (q - (len + ys.length)))
            have hvs : q * l.sz ≤ (((List.range (len * l.sz)).map fun q => (vs[l.base + off * l.sz + q]?).getD undef).toArray ++ cx ++ Builtin.zeroCells zv.cells (q - (len + ys.length))).size := by
              simp only [Array.size_append, zero_size, hzc, hcs, List.size_toArray, List.length_map, List.length_range]
              rw [← Nat.add_mul, ← Nat.add_mul]; exact Nat.mul_le_mul_right _ (by omega)
            have := new_arr (n := n) (d := o.dst) (T := e) (drew_rel (r.kill k)) hF hE2.drew (by omega) hvs hd
            rw [hlen2] at this
            exact ⟨_, _, this⟩
    · exact h.elim
  · exact h.elim

end

end Go.Av
