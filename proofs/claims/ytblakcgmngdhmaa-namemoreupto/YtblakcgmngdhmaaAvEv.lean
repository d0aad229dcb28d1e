/- The conditions, step by step, as facts. -/
import Derived.Test.YtblakcgmngdhmaaAvX
set_option linter.unusedVariables false
namespace Go.Av


def thenQ (P : Program) (b : MCode) (Q : WP) : WP := fun e t m n => match e with
    | .norm => vcg P b Q t m n
    | e => Q e t m n
def outQ (id : Nat) (Q : WP) : WP := fun e t m n => match e with
    | .ex id' => if id' = id then Q .norm t m n else Q (.ex id') t m n
    | e => Q e t m n

def drawyQ (is : List MI) (cs : List (Nat × Nat)) (zs : List Nat) (L : Nat) (Q : WP) : Tmps → Mem → Nat → Prop := fun t m n => apartY t m L is zs cs ∧ Q .norm t m (n + 1)
def drawcQ (is : List MI) (cs : List (Nat × Nat)) (L : Nat) (Q : WP) : Tmps → Mem → Nat → Prop := fun t m n => apart t m L is cs ∧ Q .norm t m n

/- what has been found is reckoned before the rest -/
variable {P : Program} {t t' : Tmps} {m m' : Mem} {n n' : Nat} {p : Prop}
@[congr] theorem vop_congr {o : MOp} {K : AV → Mem → Prop} (_ : (True ∧ True) = p) (ht : t = t') (hm : m = m') (hn : n = n') : vop o t m n K = vop o t' m' n' K := by rw [ht, hm, hn]
@[congr] theorem vrun_congr {d : Option Nat} {o : MOp} {K : Tmps → Mem → Nat → Prop} (_ : (True ∧ True) = p) (ht : t = t') (hm : m = m') (hn : n = n') : vrun P d o K t m n = vrun P d o K t' m' n' := by rw [ht, hm, hn]
@[congr] theorem vins_congr {i : MI} {K : Tmps → Mem → Nat → Prop} (_ : (True ∧ True) = p) (ht : t = t') (hm : m = m') (hn : n = n') : vins P i K t m n = vins P i K t' m' n' := by rw [ht, hm, hn]
@[congr] theorem vregs_congr {is : List MI} {K : Tmps → Mem → Nat → Prop} (_ : (True ∧ True) = p) (ht : t = t') (hm : m = m') (hn : n = n') : vregs P is K t m n = vregs P is K t' m' n' := by rw [ht, hm, hn]
@[congr] theorem vrunD_congr {o : MOp} {K : AV → Mem → Prop} (_ : (True ∧ True) = p) (ht : t = t') (hm : m = m') (hn : n = n') : vrunD P o t m n K = vrunD P o t' m' n' K := by rw [ht, hm, hn]
@[congr] theorem vstepD_congr {i : MI} {K : AV → Mem → Tmps → Prop} (_ : (True ∧ True) = p) (ht : t = t') (hm : m = m') (hn : n = n') : vstepD P i K t m n = vstepD P i K t' m' n' := by rw [ht, hm, hn]
@[congr] theorem vregsD_congr {is : List MI} {K : Tmps → Mem → Nat → Prop} (_ : (True ∧ True) = p) (ht : t = t') (hm : m = m') (hn : n = n') : vregsD P is K t m n = vregsD P is K t' m' n' := by rw [ht, hm, hn]
@[congr] theorem vcg_congr {c : MCode} {Q : WP} (_ : (True ∧ True) = p) (ht : t = t') (hm : m = m') (hn : n = n') : vcg P c Q t m n = vcg P c Q t' m' n' := by rw [ht, hm, hn]
@[congr] theorem thenQ_congr {b : MCode} {Q : WP} {e : Way} (_ : (True ∧ True) = p) (ht : t = t') (hm : m = m') (hn : n = n') : thenQ P b Q e t m n = thenQ P b Q e t' m' n' := by rw [ht, hm, hn]
@[congr] theorem outQ_congr {id : Nat} {Q : WP} {e : Way} (_ : (True ∧ True) = p) (ht : t = t') (hm : m = m') (hn : n = n') : outQ id Q e t m n = outQ id Q e t' m' n' := by rw [ht, hm, hn]
@[congr] theorem gvQ_congr {L : List Opd} {Q : WP} {e : Way} (_ : (True ∧ True) = p) (ht : t = t') (hm : m = m') (hn : n = n') : gvQ L Q e t m n = gvQ L Q e t' m' n' := by rw [ht, hm, hn]
@[congr] theorem gvVC_congr {L : List Opd} {K : Mem → Prop} (_ : (True ∧ True) = p) (ht : t = t') (hm : m = m') : gvVC L t m K = gvVC L t' m' K := by rw [ht, hm]
@[congr] theorem gvRow_congr {x x' : AV} {K : Mem → Prop} (_ : (True ∧ True) = p) (hx : x = x') (hm : m = m') : gvRow x m K = gvRow x' m' K := by rw [hx, hm]
@[congr] theorem ldc_congr {c : Option Nat} {cs cs' : List AV} {off off' : Nat} {K : AV → Prop} (_ : (True ∧ True) = p) (hc : cs = cs') (ho : off = off') : ldc c cs off K = ldc c cs' off' K := by rw [hc, ho]
@[congr] theorem mapE_congr {x x' : AV} {K : List (Value × AV) → Prop} (_ : (True ∧ True) = p) (hm : m = m') (hx : x = x') : mapE m x K = mapE m' x' K := by rw [hm, hx]
@[congr] theorem srcE_congr {sz : Nat} {x x' : AV} {K : List AV → Prop} (_ : (True ∧ True) = p) (hm : m = m') (hx : x = x') : srcE sz m x K = srcE sz m' x' K := by rw [hm, hx]
@[congr] theorem vapp_congr {sz : Nat} {s s' x x' : AV} {K : AV → Mem → Prop} (_ : (True ∧ True) = p) (hm : m = m') (hn : n = n') (hs : s = s') (hx : x = x') : vapp sz m n s x K = vapp sz m' n' s' x' K := by rw [hm, hn, hs, hx]
@[congr] theorem vld_congr {c : Option Nat} {x x' : AV} {K : AV → Mem → Prop} (_ : (True ∧ True) = p) (hm : m = m') (hn : n = n') (hx : x = x') : vld c m n x K = vld c m' n' x' K := by rw [hm, hn, hx]
@[congr] theorem stRow_congr {sz : Nat} {x x' : AV} {K : MRow → Mem → Prop} (_ : (True ∧ True) = p) (hm : m = m') (hx : x = x') : stRow m sz x K = stRow m' sz x' K := by rw [hm, hx]
@[congr] theorem bnd_congr' {d d' : Nat} {x : Option Opd} {K : Int → Prop} (_ : (True ∧ True) = p) (ht : t = t') (hd : d = d') : bnd t d x K = bnd t' d' x K := by rw [ht, hd]
@[congr] theorem drawyQ_congr {is : List MI} {cs : List (Nat × Nat)} {zs : List Nat} {L L' : Nat} {Q : WP} (_ : (True ∧ True) = p) (hL : L = L') (ht : t = t') (hm : m = m') (hn : n = n') : drawyQ is cs zs L Q t m n = drawyQ is cs zs L' Q t' m' n' := by rw [hL, ht, hm, hn]
@[congr] theorem drawcQ_congr {is : List MI} {cs : List (Nat × Nat)} {L L' : Nat} {Q : WP} (_ : (True ∧ True) = p) (hL : L = L') (ht : t = t') (hm : m = m') (hn : n = n') : drawcQ is cs L Q t m n = drawcQ is cs L' Q t' m' n' := by rw [hL, ht, hm, hn]
@[congr] theorem vress_congr {l : List RV} {K : List AV → Prop} (_ : (True ∧ True) = p) (ht : t = t') (hm : m = m') : vress t m l K = vress t' m' l K := by rw [ht, hm]
@[congr] theorem vres_congr {l : RV} {K : AV → Prop} (_ : (True ∧ True) = p) (ht : t = t') (hm : m = m') : vres t m l K = vres t' m' l K := by rw [ht, hm]
@[congr] theorem fillL_congr' {cs cs' : List AV} {l : List (Nat × Nat × Opd)} {K : List AV → Prop} (_ : (True ∧ True) = p) (ht : t = t') (hm : cs = cs') : fillL t cs l K = fillL t' cs' l K := by rw [ht, hm]
@[congr] theorem vbin_congr {op : BinOp} {k : IntKind} {a a' b b' : Int} {K : Value → Prop} (_ : (True ∧ True) = p) (ha : a = a') (hb : b = b') : vbin op k a b K = vbin op k a' b' K := by rw [ha, hb]
@[congr] theorem vshift_congr {op : BinOp} {k : IntKind} {a a' b b' : Int} {K : Value → Prop} (_ : (True ∧ True) = p) (ha : a = a') (hb : b = b') : vshift op k a b K = vshift op k a' b' K := by rw [ha, hb]

theorem vop_mov {x} {t} {m} {n} {K} : vop (.mov x) t m n K = (K (ev t x) []) := propext ⟨fun h => h, fun h => h⟩
theorem vop_pick {c} {a} {b} {t} {m} {n} {K} : vop (.pick c a b) t m n K = (match ev t c with
    | .v (.bool c) => Fork c (K (ev t a) []) (K (ev t b) [])
    | _ => False) := propext ⟨fun h => h, fun h => h⟩
theorem vop_bin {op} {x} {y} {t} {m} {n} {K} : vop (.bin op x y) t m n K = (match ev t x, ev t y with
    | .v (.int k a), .v (.int k' b) => match op with
      | .shl => vshift .shl k a b fun r => K (.v r) []
      | .shr => vshift .shr k a b fun r => K (.v r) []
      | op => k = k' ∧ vbin op k a b fun r => K (.v r) []
    | _, _ => False) := propext ⟨fun h => h, fun h => h⟩
theorem vop_eqb {neg} {x} {y} {t} {m} {n} {K} : vop (.eqb neg x y) t m n K = (match ev t x, ev t y with
    | .v (.bool a), .v (.bool b) => K (.v (.bool (bif neg then a != b else a == b))) []
    | _, _ => False) := propext ⟨fun h => h, fun h => h⟩
theorem vop_not {x} {t} {m} {n} {K} : vop (.not x) t m n K = (match ev t x with
    | .v (.bool a) => K (.v (.bool !a)) []
    | _ => False) := propext ⟨fun h => h, fun h => h⟩
theorem vop_neg {x} {t} {m} {n} {K} : vop (.neg x) t m n K = (match ev t x with
    | .v (.int k a) => K (.v (.int k (k.wrap (0 - a)))) []
    | _ => False) := propext ⟨fun h => h, fun h => h⟩
theorem vop_conv {k} {x} {t} {m} {n} {K} : vop (.conv k x) t m n K = (match ev t x with
    | .v (.int _ a) => K (.v (.int k (k.wrap a))) []
    | _ => False) := propext ⟨fun h => h, fun h => h⟩
theorem vop_new {zs} {t} {m} {n} {K} : vop (.new zs) t m n K = (K (.ptr n 0) [(n, some (.box (zs.map .v)))]) := propext ⟨fun h => h, fun h => h⟩
theorem vop_box {x} {t} {m} {n} {K} : vop (.box x) t m n K = (okVal (ev t x) = true ∧ K (.ptr n 0) [(n, some (.box (ev t x).cells))]) := propext ⟨fun h => h, fun h => h⟩
theorem vop_build {zs} {parts} {t} {m} {n} {K} : vop (.build zs parts) t m n K = ((parts.all fun p => okVal (ev t p.2.2)) = true ∧ fillL t (zs.map .v) parts fun cs => K (.agg cs) []) := propext ⟨fun h => h, fun h => h⟩
theorem vop_ld {c} {a} {t} {m} {n} {K} : vop (.ld c a) t m n K = (vld c m n (ev t a) K) := propext ⟨fun h => h, fun h => h⟩
theorem vop_ldm {a} {t} {m} {n} {K} : vop (.ldm a) t m n K = (vld none m n (ev t a) K) := propext ⟨fun h => h, fun h => h⟩
theorem vop_st {c} {a} {x} {t} {m} {n} {K} : vop (.st c a x) t m n K = (match ev t a with
    | .ptr k off => match lookM m k with
      | some (.box cs) => (ev t x).cells.length = c ∧ off + c ≤ cs.length ∧ allCell (ev t x).cells = true ∧
          K (.v undef) [(k, some (.box (splice cs off (ev t x).cells)))]
      | _ => False
    | .elt k i 0 => match lookM m k with
      | some (.arr sz xs) => (ev t x).cells.length = c ∧ c = sz ∧ i < xs.length ∧ allCell (ev t x).cells = true ∧ kfs (ev t x).cells = true ∧
          K (.v undef) [(k, some (.arr sz (xs.set i (ev t x))))]
      | some (.mat sz rows) => c = 1 ∧ i < rows.length ∧ stRow m sz (ev t x) fun r u => K (.v undef) ((k, some (.mat sz (rows.set i r))) :: u)
      | some (.lent sz rows _ _) => c = 1 ∧ i < rows.length ∧ stRow m sz (ev t x) fun r u => K (.v undef) ((k, some (.mat sz (rows.set i r))) :: u)
      | _ => False
    | .elt k i j => match lookM m k with
      | some (.arr sz xs) => (ev t x).cells.length = c ∧ j + c ≤ sz ∧ allCell (ev t x).cells = true ∧ kfs (ev t x).cells = true ∧ Pick xs i fun e =>
          K (.v undef) [(k, some (.arr sz (xs.set i (.agg (splice e.cells j (ev t x).cells)))))]
      | _ => False
    | _ => False) := propext ⟨fun h => h, fun h => h⟩
theorem vop_faddr {off} {x} {t} {m} {n} {K} : vop (.faddr off x) t m n K = (match ev t x with
    | .ptr k o => K (.ptr k (o + off)) []
    | .rp cs => off ≤ cs.length ∧ K (.rp (cs.drop off)) []
    | .elt k i j => K (.elt k i (j + off)) []
    | _ => False) := propext ⟨fun h => h, fun h => h⟩
theorem vop_fld {c} {off} {x} {t} {m} {n} {K} : vop (.fld c off x) t m n K = (match ev t x with
    | .agg cs => ldc c cs off fun y => K y []
    | _ => False) := propext ⟨fun h => h, fun h => h⟩
theorem vop_iaddr {sz} {x} {i} {t} {m} {n} {K} : vop (.iaddr sz x i) t m n K = (match ev t x, ev t i with
    | .ro s xs, .v (.int _ i) => s = sz ∧ 0 ≤ i ∧ Pick xs i.toNat fun y => K (.rp y.cells) []
    | .arr k off len, .v (.int _ i) => match lookM m k with
      | some (.arr s _) => s = sz ∧ 0 ≤ i ∧ i < len ∧ K (.elt k (off + i.toNat) 0) []
      | some (.mat _ _) => 1 = sz ∧ 0 ≤ i ∧ i < len ∧ K (.elt k (off + i.toNat) 0) []
      | some (.lent _ _ _ _) => 1 = sz ∧ 0 ≤ i ∧ i < len ∧ K (.elt k (off + i.toNat) 0) []
      | _ => False
    | _, _ => False) := propext ⟨fun h => h, fun h => h⟩
theorem vop_nchk {x} {t} {m} {n} {K} : vop (.nchk x) t m n K = (match ev t x with
    | .ptr k o => K (.ptr k o) []
    | .rp cs => K (.rp cs) []
    | .elt k i j => K (.elt k i j) []
    | _ => False) := propext ⟨fun h => h, fun h => h⟩
theorem vop_aaddr {c} {L} {x} {i} {t} {m} {n} {K} : vop (.aaddr c L x i) t m n K = (match ev t x, ev t i with
    | .ptr k off, .v (.int _ i) => 0 ≤ i ∧ i < L ∧ K (.ptr k (off + i.toNat * c)) []
    | .rp cs, .v (.int _ i) => 0 ≤ i ∧ i < L ∧ Chunk cs (i.toNat * c) c fun ys => K (.rp ys) []
    | _, _ => False) := propext ⟨fun h => h, fun h => h⟩
theorem vop_idx {L} {x} {i} {t} {m} {n} {K} : vop (.idx L x i) t m n K = (match ev t x, ev t i with
    | .agg cs, .v (.int _ i) => 0 ≤ i ∧ i < L ∧ Pick cs i.toNat fun y => K y []
    | _, _ => False) := propext ⟨fun h => h, fun h => h⟩
theorem vop_ext {i} {x} {t} {m} {n} {K} : vop (.ext i x) t m n K = (match ev t x with
    | .tup xs => ∃ y, xs[i]? = some y ∧ K y []
    | _ => False) := propext ⟨fun h => h, fun h => h⟩
theorem vop_len {x} {t} {m} {n} {K} : vop (.len x) t m n K = (match ev t x with
    | .ro _ xs => K (.v (.int .i64 xs.length)) []
    | .arr _ _ len => K (.v (.int .i64 len)) []
    | .v (.slice _ len _) => K (.v (.int .i64 len)) []
    | _ => False) := propext ⟨fun h => h, fun h => h⟩
theorem vop_mkfn {f} {caps} {t} {m} {n} {K} : vop (.mkfn f caps) t m n K = (K (.fn f (evs t caps)) []) := propext ⟨fun h => h, fun h => h⟩
theorem vop_blds {sz} {xs} {t} {m} {n} {K} : vop (.blds sz xs) t m n K = (okElems sz (evs t xs) = true ∧ K (.arr n 0 xs.length) [(n, some (.arr sz (evs t xs)))]) := propext ⟨fun h => h, fun h => h⟩
theorem vop_bldo {sz} {xs} {t} {m} {n} {K} : vop (.bldo sz xs) t m n K = (okElems sz (frzL [] m (evs t xs)) = true ∧ ((kysL (evs t xs)).all fun k => (lookM m k).isSome) = true ∧
      K (.arr n 0 xs.length) ((n, some (.arr sz (frzL [] m (evs t xs)))) :: kills (kysL (evs t xs)))) := propext ⟨fun h => h, fun h => h⟩
theorem vop_bldr {sz} {xs} {t} {m} {n} {K} : vop (.bldr sz xs) t m n K = (okElems sz (evs t xs) = true ∧ K (.ro sz (evs t xs)) []) := propext ⟨fun h => h, fun h => h⟩
theorem vop_mm {isMin} {x} {y} {t} {m} {n} {K} : vop (.mm isMin x y) t m n K = (match ev t x, ev t y with
    | .v (.int k a), .v (.int k' b) => k = k' ∧ K (.v (.int k (bif isMin then (if b < a then b else a) else (if b > a then b else a)))) []
    | _, _ => False) := propext ⟨fun h => h, fun h => h⟩
theorem vop_app {sz} {s} {x} {t} {m} {n} {K} : vop (.app sz s x) t m n K = (vapp sz m n (ev t s) (ev t x) K) := propext ⟨fun h => h, fun h => h⟩
theorem vop_mks {z} {l} {c} {t} {m} {n} {K} : vop (.mks z l c) t m n K = (match ev t l, ev t c with
    | .v (.int _ a), .v (.int _ b) => 0 ≤ a ∧ a ≤ b ∧ b ≤ 4294967296 ∧ K (.arr n 0 a.toNat) [(n, some (.arr z.cells.length (List.replicate a.toNat z)))]
    | _, _ => False) := propext ⟨fun h => h, fun h => h⟩
theorem vop_mkm {sz} {l} {c} {t} {m} {n} {K} : vop (.mkm sz l c) t m n K = (match ev t l, ev t c with
    | .v (.int _ a), .v (.int _ b) => 0 ≤ a ∧ a ≤ b ∧ b ≤ 4294967296 ∧ Either (K (.arr n 0 a.toNat) [(n, some (.arr 1 (List.replicate a.toNat (.v (.slice none 0 0)))))])
        (K (.arr n 0 a.toNat) [(n, some (.mat sz (List.replicate a.toNat (.own []))))])
    | _, _ => False) := propext ⟨fun h => h, fun h => h⟩
theorem vop_mnew {t} {m} {n} {K} : vop (.mnew ) t m n K = (K (.mp n) [(n, some (.map []))]) := propext ⟨fun h => h, fun h => h⟩
theorem vop_mget {kk} {z} {ok} {x} {i} {t} {m} {n} {K} : vop (.mget kk z ok x i) t m n K = (match ev t i with
    | .v (.int k a) => k = kk ∧ mapE m (ev t x) fun es => MKeys kk es ∧ K (bif ok then .tup [(mfind a es).getD z, .v (.bool (mfind a es).isSome)] else (mfind a es).getD z) []
    | _ => False) := propext ⟨fun h => h, fun h => h⟩
theorem vop_mset {kk} {x} {i} {y} {t} {m} {n} {K} : vop (.mset kk x i y) t m n K = (match ev t x, ev t i with
    | .mp k', .v (.int k a) => match lookM m k' with
      | some (.map es) => k = kk ∧ MKeys kk es ∧ (ev t y).kd = true ∧ K (.v undef) [(k', some (.map (mput kk a (ev t y) es)))]
      | _ => False
    | _, _ => False) := propext ⟨fun h => h, fun h => h⟩
theorem vop_mlen {x} {t} {m} {n} {K} : vop (.mlen x) t m n K = (mapE m (ev t x) fun es => K (.v (.int .i64 es.length)) []) := propext ⟨fun h => h, fun h => h⟩
theorem vop_mrng {x} {t} {m} {n} {K} : vop (.mrng x) t m n K = (match ev t x with
    | .rm es => K (.ptr n 0) [(n, some (.iter es none))]
    | .v (.map none) => K (.ptr n 0) [(n, some (.iter [] none))]
    | _ => False) := propext ⟨fun h => h, fun h => h⟩
theorem vop_next {x} {t} {m} {n} {K} : vop (.next x) t m n K = (match ev t x with
    | .ptr k 0 => match lookM m k with
      | some (.iter rest _) => NextVC rest (K (.tup [.v (.bool false)]) []) fun p l => K (.tup [.v (.bool true), .v p.1, p.2]) [(k, some (.iter l (some p)))]
      | _ => False
    | _ => False) := propext ⟨fun h => h, fun h => h⟩
theorem vop_entry {x} {t} {m} {n} {K} : vop (.entry x) t m n K = (match ev t x with
    | .ptr k 0 => match lookM m k with
      | some (.iter _ (some p)) => K (.tup [.v p.1, p.2]) []
      | _ => False
    | _ => False) := propext ⟨fun h => h, fun h => h⟩
theorem vop_isnil {ng} {x} {t} {m} {n} {K} : vop (.isnil ng x) t m n K = (NilVC (ev t x) fun b => K (.v (.bool (b != ng))) []) := propext ⟨fun h => h, fun h => h⟩
theorem vop_nilm {ng} {x} {t} {m} {n} {K} : vop (.nilm ng x) t m n K = (match ev t x with
    | .mp _ => K (.v (.bool (false != ng))) []
    | .rm _ => K (.v (.bool (false != ng))) []
    | .v (.map none) => K (.v (.bool (true != ng))) []
    | _ => False) := propext ⟨fun h => h, fun h => h⟩
theorem vop_eqa {sz} {ng} {x} {y} {t} {m} {n} {K} : vop (.eqa sz ng x y) t m n K = (match ev t x, ev t y with
    | .agg xs, .agg ys => EqVC sz xs ys fun b => K (.v (.bool (b != ng))) []
    | _, _ => False) := propext ⟨fun h => h, fun h => h⟩
theorem vop_cap {x} {t} {m} {n} {K} : vop (.cap x) t m n K = (match ev t x with
    | .v (.slice _ _ c) => K (.v (.int .i64 c)) []
    | _ => False) := propext ⟨fun h => h, fun h => h⟩
theorem vop_appz {z} {s} {x} {t} {m} {n} {K} : vop (.appz z s x) t m n K = (match ev t s, ev t x with
    | .v (.slice none 0 0), .v (.int _ a) => 0 ≤ a ∧ a ≤ 4294967296 ∧ K (.arr n 0 a.toNat) [(n, some (.arr z.cells.length (List.replicate a.toNat z)))]
    | _, _ => False) := propext ⟨fun h => h, fun h => h⟩
theorem vop_b2s {x} {t} {m} {n} {K} : vop (.b2s x) t m n K = (srcE 1 m (ev t x) fun ys => Bytes ys fun s => K (.v (.string s)) []) := propext ⟨fun h => h, fun h => h⟩
theorem vop_sget {z} {ok} {x} {i} {t} {m} {n} {K} : vop (.sget z ok x i) t m n K = (match ev t i with
    | .v (.string a) => mapE m (ev t x) fun es => SKeys es ∧ K (bif ok then .tup [(sfind a es).getD z, .v (.bool (sfind a es).isSome)] else (sfind a es).getD z) []
    | _ => False) := propext ⟨fun h => h, fun h => h⟩
theorem vop_sset {x} {i} {y} {t} {m} {n} {K} : vop (.sset x i y) t m n K = (match ev t x, ev t i with
    | .mp k', .v (.string a) => match lookM m k' with
      | some (.map es) => SKeys es ∧ (ev t y).kd = true ∧ K (.v undef) [(k', some (.map (sput a (ev t y) es)))]
      | _ => False
    | _, _ => False) := propext ⟨fun h => h, fun h => h⟩
theorem vop_aget {ks} {z} {ok} {x} {i} {t} {m} {n} {K} : vop (.aget ks z ok x i) t m n K = (match ev t i with
    | .agg xs => mapE m (ev t x) fun es => KeyVC ks xs fun c => AKeys ks es ∧ K (bif ok then .tup [(kfind c es).getD z, .v (.bool (kfind c es).isSome)] else (kfind c es).getD z) []
    | _ => False) := propext ⟨fun h => h, fun h => h⟩
theorem vop_aset {ks} {x} {i} {y} {t} {m} {n} {K} : vop (.aset ks x i y) t m n K = (match ev t x, ev t i with
    | .mp k', .agg xs => match lookM m k' with
      | some (.map es) => KeyVC ks xs fun c => AKeys ks es ∧ (ev t y).kd = true ∧ K (.v undef) [(k', some (.map (kput c (ev t y) es)))]
      | _ => False
    | _, _ => False) := propext ⟨fun h => h, fun h => h⟩
theorem vop_never {t} {m} {n} {K} : vop (.never ) t m n K = (False) := propext ⟨fun h => h, fun h => h⟩
theorem vop_slc {sz} {x} {lo} {hi} {t} {m} {n} {K} : vop (.slc sz x lo hi) t m n K = (match ev t x with
    | .ro s xs => bnd t 0 lo fun l => bnd t xs.length hi fun h => s = sz ∧ 0 ≤ l ∧ l ≤ h ∧ h ≤ xs.length ∧ K (.ro s ((xs.take h.toNat).drop l.toNat)) []
    | .arr k off len => match lookM m k with
      | some (.arr s _) => bnd t 0 lo fun l => bnd t len hi fun h => s = sz ∧ 0 ≤ l ∧ l ≤ h ∧ h ≤ len ∧ K (.arr k (off + l.toNat) (h.toNat - l.toNat)) []
      | _ => False
    | .v (.slice none 0 0) => bnd t 0 lo fun l => bnd t 0 hi fun h => l = 0 ∧ h = 0 ∧ K (.v (.slice none 0 0)) []
    | _ => False) := propext ⟨fun h => h, fun h => h⟩
theorem vrun_mov {P} {d} {K} {t} {m} {n} {a0} : vrun P d (.mov a0) K t m n = (vop (.mov a0) t m n fun x u => K (putT d x t) (u ++ m) (n + 1)) := propext ⟨fun h => h, fun h => h⟩
theorem vrunD_mov {P} {K} {t} {m} {n} {a0} : vrunD P (.mov a0) t m n K = (vop (.mov a0) t m n K) := propext ⟨fun h => h, fun h => h⟩
theorem vrun_pick {P} {d} {K} {t} {m} {n} {a0} {a1} {a2} : vrun P d (.pick a0 a1 a2) K t m n = (vop (.pick a0 a1 a2) t m n fun x u => K (putT d x t) (u ++ m) (n + 1)) := propext ⟨fun h => h, fun h => h⟩
theorem vrunD_pick {P} {K} {t} {m} {n} {a0} {a1} {a2} : vrunD P (.pick a0 a1 a2) t m n K = (vop (.pick a0 a1 a2) t m n K) := propext ⟨fun h => h, fun h => h⟩
theorem vrun_bin {P} {d} {K} {t} {m} {n} {a0} {a1} {a2} : vrun P d (.bin a0 a1 a2) K t m n = (vop (.bin a0 a1 a2) t m n fun x u => K (putT d x t) (u ++ m) (n + 1)) := propext ⟨fun h => h, fun h => h⟩
theorem vrunD_bin {P} {K} {t} {m} {n} {a0} {a1} {a2} : vrunD P (.bin a0 a1 a2) t m n K = (vop (.bin a0 a1 a2) t m n K) := propext ⟨fun h => h, fun h => h⟩
theorem vrun_eqb {P} {d} {K} {t} {m} {n} {a0} {a1} {a2} : vrun P d (.eqb a0 a1 a2) K t m n = (vop (.eqb a0 a1 a2) t m n fun x u => K (putT d x t) (u ++ m) (n + 1)) := propext ⟨fun h => h, fun h => h⟩
theorem vrunD_eqb {P} {K} {t} {m} {n} {a0} {a1} {a2} : vrunD P (.eqb a0 a1 a2) t m n K = (vop (.eqb a0 a1 a2) t m n K) := propext ⟨fun h => h, fun h => h⟩
theorem vrun_not {P} {d} {K} {t} {m} {n} {a0} : vrun P d (.not a0) K t m n = (vop (.not a0) t m n fun x u => K (putT d x t) (u ++ m) (n + 1)) := propext ⟨fun h => h, fun h => h⟩
theorem vrunD_not {P} {K} {t} {m} {n} {a0} : vrunD P (.not a0) t m n K = (vop (.not a0) t m n K) := propext ⟨fun h => h, fun h => h⟩
theorem vrun_neg {P} {d} {K} {t} {m} {n} {a0} : vrun P d (.neg a0) K t m n = (vop (.neg a0) t m n fun x u => K (putT d x t) (u ++ m) (n + 1)) := propext ⟨fun h => h, fun h => h⟩
theorem vrunD_neg {P} {K} {t} {m} {n} {a0} : vrunD P (.neg a0) t m n K = (vop (.neg a0) t m n K) := propext ⟨fun h => h, fun h => h⟩
theorem vrun_conv {P} {d} {K} {t} {m} {n} {a0} {a1} : vrun P d (.conv a0 a1) K t m n = (vop (.conv a0 a1) t m n fun x u => K (putT d x t) (u ++ m) (n + 1)) := propext ⟨fun h => h, fun h => h⟩
theorem vrunD_conv {P} {K} {t} {m} {n} {a0} {a1} : vrunD P (.conv a0 a1) t m n K = (vop (.conv a0 a1) t m n K) := propext ⟨fun h => h, fun h => h⟩
theorem vrun_new {P} {d} {K} {t} {m} {n} {a0} : vrun P d (.new a0) K t m n = (vop (.new a0) t m n fun x u => K (putT d x t) (u ++ m) (n + 1)) := propext ⟨fun h => h, fun h => h⟩
theorem vrunD_new {P} {K} {t} {m} {n} {a0} : vrunD P (.new a0) t m n K = (vop (.new a0) t m n K) := propext ⟨fun h => h, fun h => h⟩
theorem vrun_box {P} {d} {K} {t} {m} {n} {a0} : vrun P d (.box a0) K t m n = (vop (.box a0) t m n fun x u => K (putT d x t) (u ++ m) (n + 1)) := propext ⟨fun h => h, fun h => h⟩
theorem vrunD_box {P} {K} {t} {m} {n} {a0} : vrunD P (.box a0) t m n K = (vop (.box a0) t m n K) := propext ⟨fun h => h, fun h => h⟩
theorem vrun_build {P} {d} {K} {t} {m} {n} {a0} {a1} : vrun P d (.build a0 a1) K t m n = (vop (.build a0 a1) t m n fun x u => K (putT d x t) (u ++ m) (n + 1)) := propext ⟨fun h => h, fun h => h⟩
theorem vrunD_build {P} {K} {t} {m} {n} {a0} {a1} : vrunD P (.build a0 a1) t m n K = (vop (.build a0 a1) t m n K) := propext ⟨fun h => h, fun h => h⟩
theorem vrun_ld {P} {d} {K} {t} {m} {n} {a0} {a1} : vrun P d (.ld a0 a1) K t m n = (vop (.ld a0 a1) t m n fun x u => K (putT d x t) (u ++ m) (n + 1)) := propext ⟨fun h => h, fun h => h⟩
theorem vrunD_ld {P} {K} {t} {m} {n} {a0} {a1} : vrunD P (.ld a0 a1) t m n K = (noMat m (ev t a1) ∧ vop (.ld a0 a1) t m n K) := propext ⟨fun h => h, fun h => h⟩
theorem vrun_ldm {P} {d} {K} {t} {m} {n} {a0} : vrun P d (.ldm a0) K t m n = (vop (.ldm a0) t m n fun x u => K (putT d x t) (u ++ m) (n + 1)) := propext ⟨fun h => h, fun h => h⟩
theorem vrunD_ldm {P} {K} {t} {m} {n} {a0} : vrunD P (.ldm a0) t m n K = (vop (.ldm a0) t m n K) := propext ⟨fun h => h, fun h => h⟩
theorem vrun_st {P} {d} {K} {t} {m} {n} {a0} {a1} {a2} : vrun P d (.st a0 a1 a2) K t m n = (vop (.st a0 a1 a2) t m n fun x u => K (putT d x t) (u ++ m) (n + 1)) := propext ⟨fun h => h, fun h => h⟩
theorem vrunD_st {P} {K} {t} {m} {n} {a0} {a1} {a2} : vrunD P (.st a0 a1 a2) t m n K = (vop (.st a0 a1 a2) t m n K) := propext ⟨fun h => h, fun h => h⟩
theorem vrun_faddr {P} {d} {K} {t} {m} {n} {a0} {a1} : vrun P d (.faddr a0 a1) K t m n = (vop (.faddr a0 a1) t m n fun x u => K (putT d x t) (u ++ m) (n + 1)) := propext ⟨fun h => h, fun h => h⟩
theorem vrunD_faddr {P} {K} {t} {m} {n} {a0} {a1} : vrunD P (.faddr a0 a1) t m n K = (vop (.faddr a0 a1) t m n K) := propext ⟨fun h => h, fun h => h⟩
theorem vrun_fld {P} {d} {K} {t} {m} {n} {a0} {a1} {a2} : vrun P d (.fld a0 a1 a2) K t m n = (vop (.fld a0 a1 a2) t m n fun x u => K (putT d x t) (u ++ m) (n + 1)) := propext ⟨fun h => h, fun h => h⟩
theorem vrunD_fld {P} {K} {t} {m} {n} {a0} {a1} {a2} : vrunD P (.fld a0 a1 a2) t m n K = (vop (.fld a0 a1 a2) t m n K) := propext ⟨fun h => h, fun h => h⟩
theorem vrun_iaddr {P} {d} {K} {t} {m} {n} {a0} {a1} {a2} : vrun P d (.iaddr a0 a1 a2) K t m n = (vop (.iaddr a0 a1 a2) t m n fun x u => K (putT d x t) (u ++ m) (n + 1)) := propext ⟨fun h => h, fun h => h⟩
theorem vrunD_iaddr {P} {K} {t} {m} {n} {a0} {a1} {a2} : vrunD P (.iaddr a0 a1 a2) t m n K = (vop (.iaddr a0 a1 a2) t m n K) := propext ⟨fun h => h, fun h => h⟩
theorem vrun_nchk {P} {d} {K} {t} {m} {n} {a0} : vrun P d (.nchk a0) K t m n = (vop (.nchk a0) t m n fun x u => K (putT d x t) (u ++ m) (n + 1)) := propext ⟨fun h => h, fun h => h⟩
theorem vrunD_nchk {P} {K} {t} {m} {n} {a0} : vrunD P (.nchk a0) t m n K = (vop (.nchk a0) t m n K) := propext ⟨fun h => h, fun h => h⟩
theorem vrun_aaddr {P} {d} {K} {t} {m} {n} {a0} {a1} {a2} {a3} : vrun P d (.aaddr a0 a1 a2 a3) K t m n = (vop (.aaddr a0 a1 a2 a3) t m n fun x u => K (putT d x t) (u ++ m) (n + 1)) := propext ⟨fun h => h, fun h => h⟩
theorem vrunD_aaddr {P} {K} {t} {m} {n} {a0} {a1} {a2} {a3} : vrunD P (.aaddr a0 a1 a2 a3) t m n K = (vop (.aaddr a0 a1 a2 a3) t m n K) := propext ⟨fun h => h, fun h => h⟩
theorem vrun_idx {P} {d} {K} {t} {m} {n} {a0} {a1} {a2} : vrun P d (.idx a0 a1 a2) K t m n = (vop (.idx a0 a1 a2) t m n fun x u => K (putT d x t) (u ++ m) (n + 1)) := propext ⟨fun h => h, fun h => h⟩
theorem vrunD_idx {P} {K} {t} {m} {n} {a0} {a1} {a2} : vrunD P (.idx a0 a1 a2) t m n K = (vop (.idx a0 a1 a2) t m n K) := propext ⟨fun h => h, fun h => h⟩
theorem vrun_ext {P} {d} {K} {t} {m} {n} {a0} {a1} : vrun P d (.ext a0 a1) K t m n = (vop (.ext a0 a1) t m n fun x u => K (putT d x t) (u ++ m) (n + 1)) := propext ⟨fun h => h, fun h => h⟩
theorem vrunD_ext {P} {K} {t} {m} {n} {a0} {a1} : vrunD P (.ext a0 a1) t m n K = (vop (.ext a0 a1) t m n K) := propext ⟨fun h => h, fun h => h⟩
theorem vrun_len {P} {d} {K} {t} {m} {n} {a0} : vrun P d (.len a0) K t m n = (vop (.len a0) t m n fun x u => K (putT d x t) (u ++ m) (n + 1)) := propext ⟨fun h => h, fun h => h⟩
theorem vrunD_len {P} {K} {t} {m} {n} {a0} : vrunD P (.len a0) t m n K = (vop (.len a0) t m n K) := propext ⟨fun h => h, fun h => h⟩
theorem vrun_mkfn {P} {d} {K} {t} {m} {n} {a0} {a1} : vrun P d (.mkfn a0 a1) K t m n = (vop (.mkfn a0 a1) t m n fun x u => K (putT d x t) (u ++ m) (n + 1)) := propext ⟨fun h => h, fun h => h⟩
theorem vrunD_mkfn {P} {K} {t} {m} {n} {a0} {a1} : vrunD P (.mkfn a0 a1) t m n K = (vop (.mkfn a0 a1) t m n K) := propext ⟨fun h => h, fun h => h⟩
theorem vrun_blds {P} {d} {K} {t} {m} {n} {a0} {a1} : vrun P d (.blds a0 a1) K t m n = (vop (.blds a0 a1) t m n fun x u => K (putT d x t) (u ++ m) (n + 1)) := propext ⟨fun h => h, fun h => h⟩
theorem vrunD_blds {P} {K} {t} {m} {n} {a0} {a1} : vrunD P (.blds a0 a1) t m n K = (vop (.blds a0 a1) t m n K) := propext ⟨fun h => h, fun h => h⟩
theorem vrun_bldo {P} {d} {K} {t} {m} {n} {a0} {a1} : vrun P d (.bldo a0 a1) K t m n = (vop (.bldo a0 a1) t m n fun x u => K (putT d x t) (u ++ m) (n + 1)) := propext ⟨fun h => h, fun h => h⟩
theorem vrunD_bldo {P} {K} {t} {m} {n} {a0} {a1} : vrunD P (.bldo a0 a1) t m n K = (vop (.bldo a0 a1) t m n K) := propext ⟨fun h => h, fun h => h⟩
theorem vrun_bldr {P} {d} {K} {t} {m} {n} {a0} {a1} : vrun P d (.bldr a0 a1) K t m n = (vop (.bldr a0 a1) t m n fun x u => K (putT d x t) (u ++ m) (n + 1)) := propext ⟨fun h => h, fun h => h⟩
theorem vrunD_bldr {P} {K} {t} {m} {n} {a0} {a1} : vrunD P (.bldr a0 a1) t m n K = (vop (.bldr a0 a1) t m n K) := propext ⟨fun h => h, fun h => h⟩
theorem vrun_mm {P} {d} {K} {t} {m} {n} {a0} {a1} {a2} : vrun P d (.mm a0 a1 a2) K t m n = (vop (.mm a0 a1 a2) t m n fun x u => K (putT d x t) (u ++ m) (n + 1)) := propext ⟨fun h => h, fun h => h⟩
theorem vrunD_mm {P} {K} {t} {m} {n} {a0} {a1} {a2} : vrunD P (.mm a0 a1 a2) t m n K = (vop (.mm a0 a1 a2) t m n K) := propext ⟨fun h => h, fun h => h⟩
theorem vrun_app {P} {d} {K} {t} {m} {n} {a0} {a1} {a2} : vrun P d (.app a0 a1 a2) K t m n = (vop (.app a0 a1 a2) t m n fun x u => K (putT d x t) (u ++ m) (n + 1)) := propext ⟨fun h => h, fun h => h⟩
theorem vrunD_app {P} {K} {t} {m} {n} {a0} {a1} {a2} : vrunD P (.app a0 a1 a2) t m n K = (vop (.app a0 a1 a2) t m n K) := propext ⟨fun h => h, fun h => h⟩
theorem vrun_mks {P} {d} {K} {t} {m} {n} {a0} {a1} {a2} : vrun P d (.mks a0 a1 a2) K t m n = (vop (.mks a0 a1 a2) t m n fun x u => K (putT d x t) (u ++ m) (n + 1)) := propext ⟨fun h => h, fun h => h⟩
theorem vrunD_mks {P} {K} {t} {m} {n} {a0} {a1} {a2} : vrunD P (.mks a0 a1 a2) t m n K = (vop (.mks a0 a1 a2) t m n K) := propext ⟨fun h => h, fun h => h⟩
theorem vrun_mkm {P} {d} {K} {t} {m} {n} {a0} {a1} {a2} : vrun P d (.mkm a0 a1 a2) K t m n = (vop (.mkm a0 a1 a2) t m n fun x u => K (putT d x t) (u ++ m) (n + 1)) := propext ⟨fun h => h, fun h => h⟩
theorem vrunD_mkm {P} {K} {t} {m} {n} {a0} {a1} {a2} : vrunD P (.mkm a0 a1 a2) t m n K = (vop (.mkm a0 a1 a2) t m n K) := propext ⟨fun h => h, fun h => h⟩
theorem vrun_mnew {P} {d} {K} {t} {m} {n} : vrun P d (.mnew ) K t m n = (vop (.mnew ) t m n fun x u => K (putT d x t) (u ++ m) (n + 1)) := propext ⟨fun h => h, fun h => h⟩
theorem vrunD_mnew {P} {K} {t} {m} {n} : vrunD P (.mnew ) t m n K = (vop (.mnew ) t m n K) := propext ⟨fun h => h, fun h => h⟩
theorem vrun_mget {P} {d} {K} {t} {m} {n} {a0} {a1} {a2} {a3} {a4} : vrun P d (.mget a0 a1 a2 a3 a4) K t m n = (vop (.mget a0 a1 a2 a3 a4) t m n fun x u => K (putT d x t) (u ++ m) (n + 1)) := propext ⟨fun h => h, fun h => h⟩
theorem vrunD_mget {P} {K} {t} {m} {n} {a0} {a1} {a2} {a3} {a4} : vrunD P (.mget a0 a1 a2 a3 a4) t m n K = (vop (.mget a0 a1 a2 a3 a4) t m n K) := propext ⟨fun h => h, fun h => h⟩
theorem vrun_mset {P} {d} {K} {t} {m} {n} {a0} {a1} {a2} {a3} : vrun P d (.mset a0 a1 a2 a3) K t m n = (vop (.mset a0 a1 a2 a3) t m n fun x u => K (putT d x t) (u ++ m) (n + 1)) := propext ⟨fun h => h, fun h => h⟩
theorem vrunD_mset {P} {K} {t} {m} {n} {a0} {a1} {a2} {a3} : vrunD P (.mset a0 a1 a2 a3) t m n K = (vop (.mset a0 a1 a2 a3) t m n K) := propext ⟨fun h => h, fun h => h⟩
theorem vrun_mlen {P} {d} {K} {t} {m} {n} {a0} : vrun P d (.mlen a0) K t m n = (vop (.mlen a0) t m n fun x u => K (putT d x t) (u ++ m) (n + 1)) := propext ⟨fun h => h, fun h => h⟩
theorem vrunD_mlen {P} {K} {t} {m} {n} {a0} : vrunD P (.mlen a0) t m n K = (vop (.mlen a0) t m n K) := propext ⟨fun h => h, fun h => h⟩
theorem vrun_mrng {P} {d} {K} {t} {m} {n} {a0} : vrun P d (.mrng a0) K t m n = (vop (.mrng a0) t m n fun x u => K (putT d x t) (u ++ m) (n + 1)) := propext ⟨fun h => h, fun h => h⟩
theorem vrunD_mrng {P} {K} {t} {m} {n} {a0} : vrunD P (.mrng a0) t m n K = (vop (.mrng a0) t m n K) := propext ⟨fun h => h, fun h => h⟩
theorem vrun_next {P} {d} {K} {t} {m} {n} {a0} : vrun P d (.next a0) K t m n = (vop (.next a0) t m n fun x u => K (putT d x t) (u ++ m) (n + 1)) := propext ⟨fun h => h, fun h => h⟩
theorem vrunD_next {P} {K} {t} {m} {n} {a0} : vrunD P (.next a0) t m n K = (False) := propext ⟨fun h => h, fun h => h⟩
theorem vrun_entry {P} {d} {K} {t} {m} {n} {a0} : vrun P d (.entry a0) K t m n = (vop (.entry a0) t m n fun x u => K (putT d x t) (u ++ m) (n + 1)) := propext ⟨fun h => h, fun h => h⟩
theorem vrunD_entry {P} {K} {t} {m} {n} {a0} : vrunD P (.entry a0) t m n K = (vop (.entry a0) t m n K) := propext ⟨fun h => h, fun h => h⟩
theorem vrun_isnil {P} {d} {K} {t} {m} {n} {a0} {a1} : vrun P d (.isnil a0 a1) K t m n = (vop (.isnil a0 a1) t m n fun x u => K (putT d x t) (u ++ m) (n + 1)) := propext ⟨fun h => h, fun h => h⟩
theorem vrunD_isnil {P} {K} {t} {m} {n} {a0} {a1} : vrunD P (.isnil a0 a1) t m n K = (nilSure (ev t a1) ∧ vop (.isnil a0 a1) t m n K) := propext ⟨fun h => h, fun h => h⟩
theorem vrun_nilm {P} {d} {K} {t} {m} {n} {a0} {a1} : vrun P d (.nilm a0 a1) K t m n = (vop (.nilm a0 a1) t m n fun x u => K (putT d x t) (u ++ m) (n + 1)) := propext ⟨fun h => h, fun h => h⟩
theorem vrunD_nilm {P} {K} {t} {m} {n} {a0} {a1} : vrunD P (.nilm a0 a1) t m n K = (vop (.nilm a0 a1) t m n K) := propext ⟨fun h => h, fun h => h⟩
theorem vrun_eqa {P} {d} {K} {t} {m} {n} {a0} {a1} {a2} {a3} : vrun P d (.eqa a0 a1 a2 a3) K t m n = (vop (.eqa a0 a1 a2 a3) t m n fun x u => K (putT d x t) (u ++ m) (n + 1)) := propext ⟨fun h => h, fun h => h⟩
theorem vrunD_eqa {P} {K} {t} {m} {n} {a0} {a1} {a2} {a3} : vrunD P (.eqa a0 a1 a2 a3) t m n K = (vop (.eqa a0 a1 a2 a3) t m n K) := propext ⟨fun h => h, fun h => h⟩
theorem vrun_cap {P} {d} {K} {t} {m} {n} {a0} : vrun P d (.cap a0) K t m n = (vop (.cap a0) t m n fun x u => K (putT d x t) (u ++ m) (n + 1)) := propext ⟨fun h => h, fun h => h⟩
theorem vrunD_cap {P} {K} {t} {m} {n} {a0} : vrunD P (.cap a0) t m n K = (vop (.cap a0) t m n K) := propext ⟨fun h => h, fun h => h⟩
theorem vrun_appz {P} {d} {K} {t} {m} {n} {a0} {a1} {a2} : vrun P d (.appz a0 a1 a2) K t m n = (vop (.appz a0 a1 a2) t m n fun x u => K (putT d x t) (u ++ m) (n + 1)) := propext ⟨fun h => h, fun h => h⟩
theorem vrunD_appz {P} {K} {t} {m} {n} {a0} {a1} {a2} : vrunD P (.appz a0 a1 a2) t m n K = (vop (.appz a0 a1 a2) t m n K) := propext ⟨fun h => h, fun h => h⟩
theorem vrun_b2s {P} {d} {K} {t} {m} {n} {a0} : vrun P d (.b2s a0) K t m n = (vop (.b2s a0) t m n fun x u => K (putT d x t) (u ++ m) (n + 1)) := propext ⟨fun h => h, fun h => h⟩
theorem vrunD_b2s {P} {K} {t} {m} {n} {a0} : vrunD P (.b2s a0) t m n K = (vop (.b2s a0) t m n K) := propext ⟨fun h => h, fun h => h⟩
theorem vrun_sget {P} {d} {K} {t} {m} {n} {a0} {a1} {a2} {a3} : vrun P d (.sget a0 a1 a2 a3) K t m n = (vop (.sget a0 a1 a2 a3) t m n fun x u => K (putT d x t) (u ++ m) (n + 1)) := propext ⟨fun h => h, fun h => h⟩
theorem vrunD_sget {P} {K} {t} {m} {n} {a0} {a1} {a2} {a3} : vrunD P (.sget a0 a1 a2 a3) t m n K = (vop (.sget a0 a1 a2 a3) t m n K) := propext ⟨fun h => h, fun h => h⟩
theorem vrun_sset {P} {d} {K} {t} {m} {n} {a0} {a1} {a2} : vrun P d (.sset a0 a1 a2) K t m n = (vop (.sset a0 a1 a2) t m n fun x u => K (putT d x t) (u ++ m) (n + 1)) := propext ⟨fun h => h, fun h => h⟩
theorem vrunD_sset {P} {K} {t} {m} {n} {a0} {a1} {a2} : vrunD P (.sset a0 a1 a2) t m n K = (vop (.sset a0 a1 a2) t m n K) := propext ⟨fun h => h, fun h => h⟩
theorem vrun_aget {P} {d} {K} {t} {m} {n} {a0} {a1} {a2} {a3} {a4} : vrun P d (.aget a0 a1 a2 a3 a4) K t m n = (vop (.aget a0 a1 a2 a3 a4) t m n fun x u => K (putT d x t) (u ++ m) (n + 1)) := propext ⟨fun h => h, fun h => h⟩
theorem vrunD_aget {P} {K} {t} {m} {n} {a0} {a1} {a2} {a3} {a4} : vrunD P (.aget a0 a1 a2 a3 a4) t m n K = (vop (.aget a0 a1 a2 a3 a4) t m n K) := propext ⟨fun h => h, fun h => h⟩
theorem vrun_aset {P} {d} {K} {t} {m} {n} {a0} {a1} {a2} {a3} : vrun P d (.aset a0 a1 a2 a3) K t m n = (vop (.aset a0 a1 a2 a3) t m n fun x u => K (putT d x t) (u ++ m) (n + 1)) := propext ⟨fun h => h, fun h => h⟩
theorem vrunD_aset {P} {K} {t} {m} {n} {a0} {a1} {a2} {a3} : vrunD P (.aset a0 a1 a2 a3) t m n K = (vop (.aset a0 a1 a2 a3) t m n K) := propext ⟨fun h => h, fun h => h⟩
theorem vrun_never {P} {d} {K} {t} {m} {n} : vrun P d (.never ) K t m n = (vop (.never ) t m n fun x u => K (putT d x t) (u ++ m) (n + 1)) := propext ⟨fun h => h, fun h => h⟩
theorem vrunD_never {P} {K} {t} {m} {n} : vrunD P (.never ) t m n K = (vop (.never ) t m n K) := propext ⟨fun h => h, fun h => h⟩
theorem vrun_slc {P} {d} {K} {t} {m} {n} {a0} {a1} {a2} {a3} : vrun P d (.slc a0 a1 a2 a3) K t m n = (vop (.slc a0 a1 a2 a3) t m n fun x u => K (putT d x t) (u ++ m) (n + 1)) := propext ⟨fun h => h, fun h => h⟩
theorem vrunD_slc {P} {K} {t} {m} {n} {a0} {a1} {a2} {a3} : vrunD P (.slc a0 a1 a2 a3) t m n K = (vop (.slc a0 a1 a2 a3) t m n K) := propext ⟨fun h => h, fun h => h⟩
theorem vrun_call {P} {d} {K} {t} {m} {n} {f} {args} : vrun P d (.call f args) K t m n = (CallVC P f (evs t args) m n fun x m' n' => K (putT d x t) m' n') := propext ⟨fun h => h, fun h => h⟩
theorem vrun_callv {P} {d} {K} {t} {m} {n} {g} {args} : vrun P d (.callv g args) K t m n = (match ev t g with
    | .fn f caps => CallVC P f (evs t args ++ caps) m n fun x m' n' => K (putT d x t) m' n'
    | _ => False) := propext ⟨fun h => h, fun h => h⟩
theorem vrunD_call {P} {K} {t} {m} {n} {f} {args} : vrunD P (.call f args) t m n K = (CallD P f (evs t args) m n K) := propext ⟨fun h => h, fun h => h⟩
theorem vrunD_callx {P} {K} {t} {m} {n} {f} {args} : vrunD P (.callx f args) t m n K = (CallX P f (evs t args) m n K) := propext ⟨fun h => h, fun h => h⟩
theorem vrunD_cally {P} {K} {t} {m} {n} {k} {f} {args} : vrunD P (.cally k f args) t m n K = (CallY P f (evs t args) m n (n + k) K) := propext ⟨fun h => h, fun h => h⟩
theorem vrunD_callvx {P} {K} {t} {m} {n} {g} {args} : vrunD P (.callvx g args) t m n K = (match ev t g with
    | .fn f caps => CallX P f (evs t args ++ caps) m n K
    | _ => False) := propext ⟨fun h => h, fun h => h⟩
theorem vrunD_callv {P} {K} {t} {m} {n} {g} {args} : vrunD P (.callv g args) t m n K = (match ev t g with
    | .fn f caps => CallD P f (evs t args ++ caps) m n K
    | _ => False) := propext ⟨fun h => h, fun h => h⟩
theorem vins_none {P} {d} {op} {K} {t} {m} {n} : vins P ⟨d, op, none⟩ K t m n = (vrun P d op K t m n) := propext ⟨fun h => h, fun h => h⟩
theorem vins_some {P} {d} {op} {s} {want} {K} {t} {m} {n} : vins P ⟨d, op, some (s, want)⟩ K t m n = (match look t s with
    | .v (.bool b) => Split b want (vrun P d op K ((s, .v (.bool want)) :: t) m n) (K (putT d (.v undef) ((s, .v (.bool (!want))) :: t)) m (n + 1))
    | .v (.tuple _) => K (putT d (.v undef) t) m (n + 1)
    | _ => False) := propext ⟨fun h => h, fun h => h⟩
theorem vregs_nil {P} {K} {t} {m} {n} : vregs P [] K t m n = (K t m n) := propext ⟨fun h => h, fun h => h⟩
theorem vregs_cons {P} {i} {r} {K} {t} {m} {n} : vregs P (i :: r) K t m n = (vins P i (vregs P r K) t m n) := propext ⟨fun h => h, fun h => h⟩
theorem vstepD_none {P} {d} {op} {K} {t} {m} {n} : vstepD P ⟨d, op, none⟩ K t m n = (vrunD P op t m n fun x u => K x u t) := propext ⟨fun h => h, fun h => h⟩
theorem vstepD_some {P} {d} {op} {s} {want} {K} {t} {m} {n} : vstepD P ⟨d, op, some (s, want)⟩ K t m n = (match look t s with
    | .v (.bool b) => Split b want (vrunD P op ((s, .v (.bool want)) :: t) m n fun x u => K x u ((s, .v (.bool want)) :: t)) (K (.v undef) [] ((s, .v (.bool (!want))) :: t))
    | .v (.tuple _) => K (.v undef) [] t
    | _ => False) := propext ⟨fun h => h, fun h => h⟩
theorem vregsD_nil {P} {K} {t} {m} {n} : vregsD P [] K t m n = (K t m n) := propext ⟨fun h => h, fun h => h⟩
theorem vregsD_cons {P} {d} {op} {g} {r} {K} {t} {m} {n} : vregsD P (⟨d, op, g⟩ :: r) K t m n = (vstepD P ⟨d, op, g⟩ (fun x u t2 => vregsD P r K (putT d x t2) (u ++ m) (n + 1)) t m n) := propext ⟨fun h => h, fun h => h⟩
theorem vcg_skip {P} {Q} {t} {m} {n} : vcg P .skip Q t m n = (Q .norm t m n) := propext ⟨fun h => h, fun h => h⟩
theorem vcg_reg {P} {is} {Q} {t} {m} {n} : vcg P (.reg is) Q t m n = (vregs P is (Q .norm) t m n) := propext ⟨fun h => h, fun h => h⟩
theorem vcg_draw {P} {is} {Q} {t} {m} {n} : vcg P (.draw is) Q t m n = (vregsD P is (Q .norm) t m n) := propext ⟨fun h => h, fun h => h⟩
theorem vcg_drawc {P} {is} {cs} {Q} {t} {m} {n} : vcg P (.drawc is cs) Q t m n = (vregsD P is (drawcQ is cs m.length Q) t m n) := propext ⟨fun h => h, fun h => h⟩
theorem vcg_drawy {P} {is} {cs} {zs} {Q} {t} {m} {n} : vcg P (.drawy is cs zs) Q t m n = (vregsD P is (drawyQ is cs zs m.length Q) t m n) := propext ⟨fun h => h, fun h => h⟩
theorem drawyQ_ {is} {cs} {zs} {L} {Q} {t} {m} {n} : drawyQ is cs zs L Q t m n = (apartY t m L is zs cs ∧ Q .norm t m (n + 1)) := propext ⟨fun h => h, fun h => h⟩
theorem drawcQ_ {is} {cs} {L} {Q} {t} {m} {n} : drawcQ is cs L Q t m n = (apart t m L is cs ∧ Q .norm t m n) := propext ⟨fun h => h, fun h => h⟩
theorem vcg_seq {P} {a} {b} {Q} {t} {m} {n} : vcg P (.seq a b) Q t m n = (vcg P a (thenQ P b Q) t m n) := propext ⟨fun h => h, fun h => h⟩
theorem vcg_cond {P} {c} {a} {b} {Q} {t} {m} {n} : vcg P (.cond c a b) Q t m n = (match ev t c with
    | .v (.bool x) => Fork x (vcg P a Q t m n) (vcg P b Q t m n)
    | _ => False) := propext ⟨fun h => h, fun h => h⟩
theorem vcg_block {P} {id} {b} {Q} {t} {m} {n} : vcg P (.block id b) Q t m n = (vcg P b (outQ id Q) t m n) := propext ⟨fun h => h, fun h => h⟩
theorem vcg_loop {P} {b} {Q} {t} {m} {n} : vcg P (.loop b) Q t m n = (LoopVC (vcg P b) (asg b) Q t m n) := propext ⟨fun h => h, fun h => h⟩
theorem vcg_fz {P} {L} {b} {Q} {t} {m} {n} : vcg P (.fz L b) Q t m n = (FzVC (vcg P b Q) L t m n) := propext ⟨fun h => h, fun h => h⟩
theorem vcg_gv {P} {L} {b} {Q} {t} {m} {n} : vcg P (.gv L b) Q t m n = (vcg P b (gvQ L Q) t m n) := propext ⟨fun h => h, fun h => h⟩
theorem gvQ_norm {L} {Q} {t} {m} {n} : gvQ L Q .norm t m n = (gvVC L t m fun m' => Q .norm t m' n) := propext ⟨fun h => h, fun h => h⟩
theorem gvQ_ret {L} {Q} {t} {m} {n} : gvQ L Q .ret t m n = (Q .ret t m n) := propext ⟨fun h => h, fun h => h⟩
theorem gvQ_ex {L} {Q} {t} {m} {n} {i} : gvQ L Q (.ex i) t m n = (Q (.ex i) t m n) := propext ⟨fun h => h, fun h => h⟩
theorem gvVC_nil {t} {m} {K} : gvVC [] t m K = (K m) := propext ⟨fun h => h, fun h => h⟩
theorem gvVC_cons {a} {r} {t} {m} {K} : gvVC (a :: r) t m K = (gvRow (ev t a) m fun m' => gvVC r t m' K) := propext ⟨fun h => h, fun h => h⟩
theorem gvRow_ {x} {m} {K} : gvRow x m K = (match x with
  | .elt k _ _ => match lookM m k with
    | some (.lent sz rows i q) => match lookM m q with
      | some (.arr s xs) => s = sz ∧ K ((k, some (.mat sz (rows.set i (.own xs)))) :: (q, none) :: m)
      | _ => K m
    | _ => K m
  | _ => K m) := propext ⟨fun h => h, fun h => h⟩
theorem vcg_exit {P} {id} {Q} {t} {m} {n} : vcg P (.exit id) Q t m n = (Q (.ex id) t m n) := propext ⟨fun h => h, fun h => h⟩
theorem vcg_ret {P} {Q} {t} {m} {n} : vcg P .ret Q t m n = (Q .ret t m n) := propext ⟨fun h => h, fun h => h⟩
theorem thenQ_norm {P} {b} {Q} {t} {m} {n} : thenQ P b Q .norm t m n = (vcg P b Q t m n) := propext ⟨fun h => h, fun h => h⟩
theorem thenQ_ret {P} {b} {Q} {t} {m} {n} : thenQ P b Q .ret t m n = (Q .ret t m n) := propext ⟨fun h => h, fun h => h⟩
theorem thenQ_ex {P} {b} {Q} {t} {m} {n} {i} : thenQ P b Q (.ex i) t m n = (Q (.ex i) t m n) := propext ⟨fun h => h, fun h => h⟩
theorem outQ_norm {id} {Q} {t} {m} {n} : outQ id Q .norm t m n = (Q .norm t m n) := propext ⟨fun h => h, fun h => h⟩
theorem outQ_ret {id} {Q} {t} {m} {n} : outQ id Q .ret t m n = (Q .ret t m n) := propext ⟨fun h => h, fun h => h⟩
theorem outQ_ex {id} {Q} {t} {m} {n} {i} : outQ id Q (.ex i) t m n = (if i = id then Q .norm t m n else Q (.ex i) t m n) := propext ⟨fun h => h, fun h => h⟩
theorem EA : (∀ x t m n K, vop (.mov x) t m n K = (K (ev t x) [])) ∧
    (∀ c a b t m n K, vop (.pick c a b) t m n K = (match ev t c with
    | .v (.bool c) => Fork c (K (ev t a) []) (K (ev t b) [])
    | _ => False)) ∧
    (∀ op x y t m n K, vop (.bin op x y) t m n K = (match ev t x, ev t y with
    | .v (.int k a), .v (.int k' b) => match op with
      | .shl => vshift .shl k a b fun r => K (.v r) []
      | .shr => vshift .shr k a b fun r => K (.v r) []
      | op => k = k' ∧ vbin op k a b fun r => K (.v r) []
    | _, _ => False)) ∧
    (∀ neg x y t m n K, vop (.eqb neg x y) t m n K = (match ev t x, ev t y with
    | .v (.bool a), .v (.bool b) => K (.v (.bool (bif neg then a != b else a == b))) []
    | _, _ => False)) ∧
    (∀ x t m n K, vop (.not x) t m n K = (match ev t x with
    | .v (.bool a) => K (.v (.bool !a)) []
    | _ => False)) ∧
    (∀ x t m n K, vop (.neg x) t m n K = (match ev t x with
    | .v (.int k a) => K (.v (.int k (k.wrap (0 - a)))) []
    | _ => False)) ∧
    (∀ k x t m n K, vop (.conv k x) t m n K = (match ev t x with
    | .v (.int _ a) => K (.v (.int k (k.wrap a))) []
    | _ => False)) ∧
    (∀ zs t m n K, vop (.new zs) t m n K = (K (.ptr n 0) [(n, some (.box (zs.map .v)))])) ∧
    (∀ x t m n K, vop (.box x) t m n K = (okVal (ev t x) = true ∧ K (.ptr n 0) [(n, some (.box (ev t x).cells))])) ∧
    (∀ zs parts t m n K, vop (.build zs parts) t m n K = ((parts.all fun p => okVal (ev t p.2.2)) = true ∧ fillL t (zs.map .v) parts fun cs => K (.agg cs) [])) ∧
    (∀ c a t m n K, vop (.ld c a) t m n K = (vld c m n (ev t a) K)) ∧
    (∀ a t m n K, vop (.ldm a) t m n K = (vld none m n (ev t a) K)) ∧
    (∀ c a x t m n K, vop (.st c a x) t m n K = (match ev t a with
    | .ptr k off => match lookM m k with
      | some (.box cs) => (ev t x).cells.length = c ∧ off + c ≤ cs.length ∧ allCell (ev t x).cells = true ∧
          K (.v undef) [(k, some (.box (splice cs off (ev t x).cells)))]
      | _ => False
    | .elt k i 0 => match lookM m k with
      | some (.arr sz xs) => (ev t x).cells.length = c ∧ c = sz ∧ i < xs.length ∧ allCell (ev t x).cells = true ∧ kfs (ev t x).cells = true ∧
          K (.v undef) [(k, some (.arr sz (xs.set i (ev t x))))]
      | some (.mat sz rows) => c = 1 ∧ i < rows.length ∧ stRow m sz (ev t x) fun r u => K (.v undef) ((k, some (.mat sz (rows.set i r))) :: u)
      | some (.lent sz rows _ _) => c = 1 ∧ i < rows.length ∧ stRow m sz (ev t x) fun r u => K (.v undef) ((k, some (.mat sz (rows.set i r))) :: u)
      | _ => False
    | .elt k i j => match lookM m k with
      | some (.arr sz xs) => (ev t x).cells.length = c ∧ j + c ≤ sz ∧ allCell (ev t x).cells = true ∧ kfs (ev t x).cells = true ∧ Pick xs i fun e =>
          K (.v undef) [(k, some (.arr sz (xs.set i (.agg (splice e.cells j (ev t x).cells)))))]
      | _ => False
    | _ => False)) ∧
    (∀ off x t m n K, vop (.faddr off x) t m n K = (match ev t x with
    | .ptr k o => K (.ptr k (o + off)) []
    | .rp cs => off ≤ cs.length ∧ K (.rp (cs.drop off)) []
    | .elt k i j => K (.elt k i (j + off)) []
    | _ => False)) ∧
    (∀ c off x t m n K, vop (.fld c off x) t m n K = (match ev t x with
    | .agg cs => ldc c cs off fun y => K y []
    | _ => False)) ∧
    (∀ sz x i t m n K, vop (.iaddr sz x i) t m n K = (match ev t x, ev t i with
    | .ro s xs, .v (.int _ i) => s = sz ∧ 0 ≤ i ∧ Pick xs i.toNat fun y => K (.rp y.cells) []
    | .arr k off len, .v (.int _ i) => match lookM m k with
      | some (.arr s _) => s = sz ∧ 0 ≤ i ∧ i < len ∧ K (.elt k (off + i.toNat) 0) []
      | some (.mat _ _) => 1 = sz ∧ 0 ≤ i ∧ i < len ∧ K (.elt k (off + i.toNat) 0) []
      | some (.lent _ _ _ _) => 1 = sz ∧ 0 ≤ i ∧ i < len ∧ K (.elt k (off + i.toNat) 0) []
      | _ => False
    | _, _ => False)) ∧
    (∀ x t m n K, vop (.nchk x) t m n K = (match ev t x with
    | .ptr k o => K (.ptr k o) []
    | .rp cs => K (.rp cs) []
    | .elt k i j => K (.elt k i j) []
    | _ => False)) ∧
    (∀ c L x i t m n K, vop (.aaddr c L x i) t m n K = (match ev t x, ev t i with
    | .ptr k off, .v (.int _ i) => 0 ≤ i ∧ i < L ∧ K (.ptr k (off + i.toNat * c)) []
    | .rp cs, .v (.int _ i) => 0 ≤ i ∧ i < L ∧ Chunk cs (i.toNat * c) c fun ys => K (.rp ys) []
    | _, _ => False)) ∧
    (∀ L x i t m n K, vop (.idx L x i) t m n K = (match ev t x, ev t i with
    | .agg cs, .v (.int _ i) => 0 ≤ i ∧ i < L ∧ Pick cs i.toNat fun y => K y []
    | _, _ => False)) ∧
    (∀ i x t m n K, vop (.ext i x) t m n K = (match ev t x with
    | .tup xs => ∃ y, xs[i]? = some y ∧ K y []
    | _ => False)) ∧
    (∀ x t m n K, vop (.len x) t m n K = (match ev t x with
    | .ro _ xs => K (.v (.int .i64 xs.length)) []
    | .arr _ _ len => K (.v (.int .i64 len)) []
    | .v (.slice _ len _) => K (.v (.int .i64 len)) []
    | _ => False)) :=
  ⟨fun _ _ _ _ _ => vop_mov, fun _ _ _ _ _ _ _ => vop_pick, fun _ _ _ _ _ _ _ => vop_bin, fun _ _ _ _ _ _ _ => vop_eqb, fun _ _ _ _ _ => vop_not, fun _ _ _ _ _ => vop_neg, fun _ _ _ _ _ _ => vop_conv, fun _ _ _ _ _ => vop_new, fun _ _ _ _ _ => vop_box, fun _ _ _ _ _ _ => vop_build, fun _ _ _ _ _ _ => vop_ld, fun _ _ _ _ _ => vop_ldm, fun _ _ _ _ _ _ _ => vop_st, fun _ _ _ _ _ _ => vop_faddr, fun _ _ _ _ _ _ _ => vop_fld, fun _ _ _ _ _ _ _ => vop_iaddr, fun _ _ _ _ _ => vop_nchk, fun _ _ _ _ _ _ _ _ => vop_aaddr, fun _ _ _ _ _ _ _ => vop_idx, fun _ _ _ _ _ _ => vop_ext, fun _ _ _ _ _ => vop_len⟩
theorem EB : (∀ f caps t m n K, vop (.mkfn f caps) t m n K = (K (.fn f (evs t caps)) [])) ∧
    (∀ sz xs t m n K, vop (.blds sz xs) t m n K = (okElems sz (evs t xs) = true ∧ K (.arr n 0 xs.length) [(n, some (.arr sz (evs t xs)))])) ∧
    (∀ sz xs t m n K, vop (.bldo sz xs) t m n K = (okElems sz (frzL [] m (evs t xs)) = true ∧ ((kysL (evs t xs)).all fun k => (lookM m k).isSome) = true ∧
      K (.arr n 0 xs.length) ((n, some (.arr sz (frzL [] m (evs t xs)))) :: kills (kysL (evs t xs))))) ∧
    (∀ sz xs t m n K, vop (.bldr sz xs) t m n K = (okElems sz (evs t xs) = true ∧ K (.ro sz (evs t xs)) [])) ∧
    (∀ isMin x y t m n K, vop (.mm isMin x y) t m n K = (match ev t x, ev t y with
    | .v (.int k a), .v (.int k' b) => k = k' ∧ K (.v (.int k (bif isMin then (if b < a then b else a) else (if b > a then b else a)))) []
    | _, _ => False)) ∧
    (∀ sz s x t m n K, vop (.app sz s x) t m n K = (vapp sz m n (ev t s) (ev t x) K)) ∧
    (∀ z l c t m n K, vop (.mks z l c) t m n K = (match ev t l, ev t c with
    | .v (.int _ a), .v (.int _ b) => 0 ≤ a ∧ a ≤ b ∧ b ≤ 4294967296 ∧ K (.arr n 0 a.toNat) [(n, some (.arr z.cells.length (List.replicate a.toNat z)))]
    | _, _ => False)) ∧
    (∀ sz l c t m n K, vop (.mkm sz l c) t m n K = (match ev t l, ev t c with
    | .v (.int _ a), .v (.int _ b) => 0 ≤ a ∧ a ≤ b ∧ b ≤ 4294967296 ∧ Either (K (.arr n 0 a.toNat) [(n, some (.arr 1 (List.replicate a.toNat (.v (.slice none 0 0)))))])
        (K (.arr n 0 a.toNat) [(n, some (.mat sz (List.replicate a.toNat (.own []))))])
    | _, _ => False)) ∧
    (∀ t m n K, vop (.mnew ) t m n K = (K (.mp n) [(n, some (.map []))])) ∧
    (∀ kk z ok x i t m n K, vop (.mget kk z ok x i) t m n K = (match ev t i with
    | .v (.int k a) => k = kk ∧ mapE m (ev t x) fun es => MKeys kk es ∧ K (bif ok then .tup [(mfind a es).getD z, .v (.bool (mfind a es).isSome)] else (mfind a es).getD z) []
    | _ => False)) ∧
    (∀ kk x i y t m n K, vop (.mset kk x i y) t m n K = (match ev t x, ev t i with
    | .mp k', .v (.int k a) => match lookM m k' with
      | some (.map es) => k = kk ∧ MKeys kk es ∧ (ev t y).kd = true ∧ K (.v undef) [(k', some (.map (mput kk a (ev t y) es)))]
      | _ => False
    | _, _ => False)) ∧
    (∀ x t m n K, vop (.mlen x) t m n K = (mapE m (ev t x) fun es => K (.v (.int .i64 es.length)) [])) ∧
    (∀ x t m n K, vop (.mrng x) t m n K = (match ev t x with
    | .rm es => K (.ptr n 0) [(n, some (.iter es none))]
    | .v (.map none) => K (.ptr n 0) [(n, some (.iter [] none))]
    | _ => False)) ∧
    (∀ x t m n K, vop (.next x) t m n K = (match ev t x with
    | .ptr k 0 => match lookM m k with
      | some (.iter rest _) => NextVC rest (K (.tup [.v (.bool false)]) []) fun p l => K (.tup [.v (.bool true), .v p.1, p.2]) [(k, some (.iter l (some p)))]
      | _ => False
    | _ => False)) ∧
    (∀ x t m n K, vop (.entry x) t m n K = (match ev t x with
    | .ptr k 0 => match lookM m k with
      | some (.iter _ (some p)) => K (.tup [.v p.1, p.2]) []
      | _ => False
    | _ => False)) ∧
    (∀ ng x t m n K, vop (.isnil ng x) t m n K = (NilVC (ev t x) fun b => K (.v (.bool (b != ng))) [])) ∧
    (∀ ng x t m n K, vop (.nilm ng x) t m n K = (match ev t x with
    | .mp _ => K (.v (.bool (false != ng))) []
    | .rm _ => K (.v (.bool (false != ng))) []
    | .v (.map none) => K (.v (.bool (true != ng))) []
    | _ => False)) ∧
    (∀ sz ng x y t m n K, vop (.eqa sz ng x y) t m n K = (match ev t x, ev t y with
    | .agg xs, .agg ys => EqVC sz xs ys fun b => K (.v (.bool (b != ng))) []
    | _, _ => False)) ∧
    (∀ x t m n K, vop (.cap x) t m n K = (match ev t x with
    | .v (.slice _ _ c) => K (.v (.int .i64 c)) []
    | _ => False)) ∧
    (∀ z s x t m n K, vop (.appz z s x) t m n K = (match ev t s, ev t x with
    | .v (.slice none 0 0), .v (.int _ a) => 0 ≤ a ∧ a ≤ 4294967296 ∧ K (.arr n 0 a.toNat) [(n, some (.arr z.cells.length (List.replicate a.toNat z)))]
    | _, _ => False)) ∧
    (∀ x t m n K, vop (.b2s x) t m n K = (srcE 1 m (ev t x) fun ys => Bytes ys fun s => K (.v (.string s)) [])) :=
  ⟨fun _ _ _ _ _ _ => vop_mkfn, fun _ _ _ _ _ _ => vop_blds, fun _ _ _ _ _ _ => vop_bldo, fun _ _ _ _ _ _ => vop_bldr, fun _ _ _ _ _ _ _ => vop_mm, fun _ _ _ _ _ _ _ => vop_app, fun _ _ _ _ _ _ _ => vop_mks, fun _ _ _ _ _ _ _ => vop_mkm, fun _ _ _ _ => vop_mnew, fun _ _ _ _ _ _ _ _ _ => vop_mget, fun _ _ _ _ _ _ _ _ => vop_mset, fun _ _ _ _ _ => vop_mlen, fun _ _ _ _ _ => vop_mrng, fun _ _ _ _ _ => vop_next, fun _ _ _ _ _ => vop_entry, fun _ _ _ _ _ _ => vop_isnil, fun _ _ _ _ _ _ => vop_nilm, fun _ _ _ _ _ _ _ _ => vop_eqa, fun _ _ _ _ _ => vop_cap, fun _ _ _ _ _ _ _ => vop_appz, fun _ _ _ _ _ => vop_b2s⟩
theorem EC : (∀ z ok x i t m n K, vop (.sget z ok x i) t m n K = (match ev t i with
    | .v (.string a) => mapE m (ev t x) fun es => SKeys es ∧ K (bif ok then .tup [(sfind a es).getD z, .v (.bool (sfind a es).isSome)] else (sfind a es).getD z) []
    | _ => False)) ∧
    (∀ x i y t m n K, vop (.sset x i y) t m n K = (match ev t x, ev t i with
    | .mp k', .v (.string a) => match lookM m k' with
      | some (.map es) => SKeys es ∧ (ev t y).kd = true ∧ K (.v undef) [(k', some (.map (sput a (ev t y) es)))]
      | _ => False
    | _, _ => False)) ∧
    (∀ ks z ok x i t m n K, vop (.aget ks z ok x i) t m n K = (match ev t i with
    | .agg xs => mapE m (ev t x) fun es => KeyVC ks xs fun c => AKeys ks es ∧ K (bif ok then .tup [(kfind c es).getD z, .v (.bool (kfind c es).isSome)] else (kfind c es).getD z) []
    | _ => False)) ∧
    (∀ ks x i y t m n K, vop (.aset ks x i y) t m n K = (match ev t x, ev t i with
    | .mp k', .agg xs => match lookM m k' with
      | some (.map es) => KeyVC ks xs fun c => AKeys ks es ∧ (ev t y).kd = true ∧ K (.v undef) [(k', some (.map (kput c (ev t y) es)))]
      | _ => False
    | _, _ => False)) ∧
    (∀ t m n K, vop (.never ) t m n K = (False)) ∧
    (∀ sz x lo hi t m n K, vop (.slc sz x lo hi) t m n K = (match ev t x with
    | .ro s xs => bnd t 0 lo fun l => bnd t xs.length hi fun h => s = sz ∧ 0 ≤ l ∧ l ≤ h ∧ h ≤ xs.length ∧ K (.ro s ((xs.take h.toNat).drop l.toNat)) []
    | .arr k off len => match lookM m k with
      | some (.arr s _) => bnd t 0 lo fun l => bnd t len hi fun h => s = sz ∧ 0 ≤ l ∧ l ≤ h ∧ h ≤ len ∧ K (.arr k (off + l.toNat) (h.toNat - l.toNat)) []
      | _ => False
    | .v (.slice none 0 0) => bnd t 0 lo fun l => bnd t 0 hi fun h => l = 0 ∧ h = 0 ∧ K (.v (.slice none 0 0)) []
    | _ => False)) ∧
    (∀ P d K t m n a0, vrun P d (.mov a0) K t m n = (vop (.mov a0) t m n fun x u => K (putT d x t) (u ++ m) (n + 1))) ∧
    (∀ P K t m n a0, vrunD P (.mov a0) t m n K = (vop (.mov a0) t m n K)) ∧
    (∀ P d K t m n a0 a1 a2, vrun P d (.pick a0 a1 a2) K t m n = (vop (.pick a0 a1 a2) t m n fun x u => K (putT d x t) (u ++ m) (n + 1))) ∧
    (∀ P K t m n a0 a1 a2, vrunD P (.pick a0 a1 a2) t m n K = (vop (.pick a0 a1 a2) t m n K)) ∧
    (∀ P d K t m n a0 a1 a2, vrun P d (.bin a0 a1 a2) K t m n = (vop (.bin a0 a1 a2) t m n fun x u => K (putT d x t) (u ++ m) (n + 1))) ∧
    (∀ P K t m n a0 a1 a2, vrunD P (.bin a0 a1 a2) t m n K = (vop (.bin a0 a1 a2) t m n K)) ∧
    (∀ P d K t m n a0 a1 a2, vrun P d (.eqb a0 a1 a2) K t m n = (vop (.eqb a0 a1 a2) t m n fun x u => K (putT d x t) (u ++ m) (n + 1))) ∧
    (∀ P K t m n a0 a1 a2, vrunD P (.eqb a0 a1 a2) t m n K = (vop (.eqb a0 a1 a2) t m n K)) ∧
    (∀ P d K t m n a0, vrun P d (.not a0) K t m n = (vop (.not a0) t m n fun x u => K (putT d x t) (u ++ m) (n + 1))) ∧
    (∀ P K t m n a0, vrunD P (.not a0) t m n K = (vop (.not a0) t m n K)) ∧
    (∀ P d K t m n a0, vrun P d (.neg a0) K t m n = (vop (.neg a0) t m n fun x u => K (putT d x t) (u ++ m) (n + 1))) ∧
    (∀ P K t m n a0, vrunD P (.neg a0) t m n K = (vop (.neg a0) t m n K)) ∧
    (∀ P d K t m n a0 a1, vrun P d (.conv a0 a1) K t m n = (vop (.conv a0 a1) t m n fun x u => K (putT d x t) (u ++ m) (n + 1))) ∧
    (∀ P K t m n a0 a1, vrunD P (.conv a0 a1) t m n K = (vop (.conv a0 a1) t m n K)) ∧
    (∀ P d K t m n a0, vrun P d (.new a0) K t m n = (vop (.new a0) t m n fun x u => K (putT d x t) (u ++ m) (n + 1))) :=
  ⟨fun _ _ _ _ _ _ _ _ => vop_sget, fun _ _ _ _ _ _ _ => vop_sset, fun _ _ _ _ _ _ _ _ _ => vop_aget, fun _ _ _ _ _ _ _ _ => vop_aset, fun _ _ _ _ => vop_never, fun _ _ _ _ _ _ _ _ => vop_slc, fun _ _ _ _ _ _ _ => vrun_mov, fun _ _ _ _ _ _ => vrunD_mov, fun _ _ _ _ _ _ _ _ _ => vrun_pick, fun _ _ _ _ _ _ _ _ => vrunD_pick, fun _ _ _ _ _ _ _ _ _ => vrun_bin, fun _ _ _ _ _ _ _ _ => vrunD_bin, fun _ _ _ _ _ _ _ _ _ => vrun_eqb, fun _ _ _ _ _ _ _ _ => vrunD_eqb, fun _ _ _ _ _ _ _ => vrun_not, fun _ _ _ _ _ _ => vrunD_not, fun _ _ _ _ _ _ _ => vrun_neg, fun _ _ _ _ _ _ => vrunD_neg, fun _ _ _ _ _ _ _ _ => vrun_conv, fun _ _ _ _ _ _ _ => vrunD_conv, fun _ _ _ _ _ _ _ => vrun_new⟩
theorem ED : (∀ P K t m n a0, vrunD P (.new a0) t m n K = (vop (.new a0) t m n K)) ∧
    (∀ P d K t m n a0, vrun P d (.box a0) K t m n = (vop (.box a0) t m n fun x u => K (putT d x t) (u ++ m) (n + 1))) ∧
    (∀ P K t m n a0, vrunD P (.box a0) t m n K = (vop (.box a0) t m n K)) ∧
    (∀ P d K t m n a0 a1, vrun P d (.build a0 a1) K t m n = (vop (.build a0 a1) t m n fun x u => K (putT d x t) (u ++ m) (n + 1))) ∧
    (∀ P K t m n a0 a1, vrunD P (.build a0 a1) t m n K = (vop (.build a0 a1) t m n K)) ∧
    (∀ P d K t m n a0 a1, vrun P d (.ld a0 a1) K t m n = (vop (.ld a0 a1) t m n fun x u => K (putT d x t) (u ++ m) (n + 1))) ∧
    (∀ P K t m n a0 a1, vrunD P (.ld a0 a1) t m n K = (noMat m (ev t a1) ∧ vop (.ld a0 a1) t m n K)) ∧
    (∀ P d K t m n a0, vrun P d (.ldm a0) K t m n = (vop (.ldm a0) t m n fun x u => K (putT d x t) (u ++ m) (n + 1))) ∧
    (∀ P K t m n a0, vrunD P (.ldm a0) t m n K = (vop (.ldm a0) t m n K)) ∧
    (∀ P d K t m n a0 a1 a2, vrun P d (.st a0 a1 a2) K t m n = (vop (.st a0 a1 a2) t m n fun x u => K (putT d x t) (u ++ m) (n + 1))) ∧
    (∀ P K t m n a0 a1 a2, vrunD P (.st a0 a1 a2) t m n K = (vop (.st a0 a1 a2) t m n K)) ∧
    (∀ P d K t m n a0 a1, vrun P d (.faddr a0 a1) K t m n = (vop (.faddr a0 a1) t m n fun x u => K (putT d x t) (u ++ m) (n + 1))) ∧
    (∀ P K t m n a0 a1, vrunD P (.faddr a0 a1) t m n K = (vop (.faddr a0 a1) t m n K)) ∧
    (∀ P d K t m n a0 a1 a2, vrun P d (.fld a0 a1 a2) K t m n = (vop (.fld a0 a1 a2) t m n fun x u => K (putT d x t) (u ++ m) (n + 1))) ∧
    (∀ P K t m n a0 a1 a2, vrunD P (.fld a0 a1 a2) t m n K = (vop (.fld a0 a1 a2) t m n K)) ∧
    (∀ P d K t m n a0 a1 a2, vrun P d (.iaddr a0 a1 a2) K t m n = (vop (.iaddr a0 a1 a2) t m n fun x u => K (putT d x t) (u ++ m) (n + 1))) ∧
    (∀ P K t m n a0 a1 a2, vrunD P (.iaddr a0 a1 a2) t m n K = (vop (.iaddr a0 a1 a2) t m n K)) ∧
    (∀ P d K t m n a0, vrun P d (.nchk a0) K t m n = (vop (.nchk a0) t m n fun x u => K (putT d x t) (u ++ m) (n + 1))) ∧
    (∀ P K t m n a0, vrunD P (.nchk a0) t m n K = (vop (.nchk a0) t m n K)) ∧
    (∀ P d K t m n a0 a1 a2 a3, vrun P d (.aaddr a0 a1 a2 a3) K t m n = (vop (.aaddr a0 a1 a2 a3) t m n fun x u => K (putT d x t) (u ++ m) (n + 1))) ∧
    (∀ P K t m n a0 a1 a2 a3, vrunD P (.aaddr a0 a1 a2 a3) t m n K = (vop (.aaddr a0 a1 a2 a3) t m n K)) :=
  ⟨fun _ _ _ _ _ _ => vrunD_new, fun _ _ _ _ _ _ _ => vrun_box, fun _ _ _ _ _ _ => vrunD_box, fun _ _ _ _ _ _ _ _ => vrun_build, fun _ _ _ _ _ _ _ => vrunD_build, fun _ _ _ _ _ _ _ _ => vrun_ld, fun _ _ _ _ _ _ _ => vrunD_ld, fun _ _ _ _ _ _ _ => vrun_ldm, fun _ _ _ _ _ _ => vrunD_ldm, fun _ _ _ _ _ _ _ _ _ => vrun_st, fun _ _ _ _ _ _ _ _ => vrunD_st, fun _ _ _ _ _ _ _ _ => vrun_faddr, fun _ _ _ _ _ _ _ => vrunD_faddr, fun _ _ _ _ _ _ _ _ _ => vrun_fld, fun _ _ _ _ _ _ _ _ => vrunD_fld, fun _ _ _ _ _ _ _ _ _ => vrun_iaddr, fun _ _ _ _ _ _ _ _ => vrunD_iaddr, fun _ _ _ _ _ _ _ => vrun_nchk, fun _ _ _ _ _ _ => vrunD_nchk, fun _ _ _ _ _ _ _ _ _ _ => vrun_aaddr, fun _ _ _ _ _ _ _ _ _ => vrunD_aaddr⟩
theorem EE : (∀ P d K t m n a0 a1 a2, vrun P d (.idx a0 a1 a2) K t m n = (vop (.idx a0 a1 a2) t m n fun x u => K (putT d x t) (u ++ m) (n + 1))) ∧
    (∀ P K t m n a0 a1 a2, vrunD P (.idx a0 a1 a2) t m n K = (vop (.idx a0 a1 a2) t m n K)) ∧
    (∀ P d K t m n a0 a1, vrun P d (.ext a0 a1) K t m n = (vop (.ext a0 a1) t m n fun x u => K (putT d x t) (u ++ m) (n + 1))) ∧
    (∀ P K t m n a0 a1, vrunD P (.ext a0 a1) t m n K = (vop (.ext a0 a1) t m n K)) ∧
    (∀ P d K t m n a0, vrun P d (.len a0) K t m n = (vop (.len a0) t m n fun x u => K (putT d x t) (u ++ m) (n + 1))) ∧
    (∀ P K t m n a0, vrunD P (.len a0) t m n K = (vop (.len a0) t m n K)) ∧
    (∀ P d K t m n a0 a1, vrun P d (.mkfn a0 a1) K t m n = (vop (.mkfn a0 a1) t m n fun x u => K (putT d x t) (u ++ m) (n + 1))) ∧
    (∀ P K t m n a0 a1, vrunD P (.mkfn a0 a1) t m n K = (vop (.mkfn a0 a1) t m n K)) ∧
    (∀ P d K t m n a0 a1, vrun P d (.blds a0 a1) K t m n = (vop (.blds a0 a1) t m n fun x u => K (putT d x t) (u ++ m) (n + 1))) ∧
    (∀ P K t m n a0 a1, vrunD P (.blds a0 a1) t m n K = (vop (.blds a0 a1) t m n K)) ∧
    (∀ P d K t m n a0 a1, vrun P d (.bldo a0 a1) K t m n = (vop (.bldo a0 a1) t m n fun x u => K (putT d x t) (u ++ m) (n + 1))) ∧
    (∀ P K t m n a0 a1, vrunD P (.bldo a0 a1) t m n K = (vop (.bldo a0 a1) t m n K)) ∧
    (∀ P d K t m n a0 a1, vrun P d (.bldr a0 a1) K t m n = (vop (.bldr a0 a1) t m n fun x u => K (putT d x t) (u ++ m) (n + 1))) ∧
    (∀ P K t m n a0 a1, vrunD P (.bldr a0 a1) t m n K = (vop (.bldr a0 a1) t m n K)) ∧
    (∀ P d K t m n a0 a1 a2, vrun P d (.mm a0 a1 a2) K t m n = (vop (.mm a0 a1 a2) t m n fun x u => K (putT d x t) (u ++ m) (n + 1))) ∧
    (∀ P K t m n a0 a1 a2, vrunD P (.mm a0 a1 a2) t m n K = (vop (.mm a0 a1 a2) t m n K)) ∧
    (∀ P d K t m n a0 a1 a2, vrun P d (.app a0 a1 a2) K t m n = (vop (.app a0 a1 a2) t m n fun x u => K (putT d x t) (u ++ m) (n + 1))) ∧
    (∀ P K t m n a0 a1 a2, vrunD P (.app a0 a1 a2) t m n K = (vop (.app a0 a1 a2) t m n K)) ∧
    (∀ P d K t m n a0 a1 a2, vrun P d (.mks a0 a1 a2) K t m n = (vop (.mks a0 a1 a2) t m n fun x u => K (putT d x t) (u ++ m) (n + 1))) ∧
    (∀ P K t m n a0 a1 a2, vrunD P (.mks a0 a1 a2) t m n K = (vop (.mks a0 a1 a2) t m n K)) ∧
    (∀ P d K t m n a0 a1 a2, vrun P d (.mkm a0 a1 a2) K t m n = (vop (.mkm a0 a1 a2) t m n fun x u => K (putT d x t) (u ++ m) (n + 1))) :=
  ⟨fun _ _ _ _ _ _ _ _ _ => vrun_idx, fun _ _ _ _ _ _ _ _ => vrunD_idx, fun _ _ _ _ _ _ _ _ => vrun_ext, fun _ _ _ _ _ _ _ => vrunD_ext, fun _ _ _ _ _ _ _ => vrun_len, fun _ _ _ _ _ _ => vrunD_len, fun _ _ _ _ _ _ _ _ => vrun_mkfn, fun _ _ _ _ _ _ _ => vrunD_mkfn, fun _ _ _ _ _ _ _ _ => vrun_blds, fun _ _ _ _ _ _ _ => vrunD_blds, fun _ _ _ _ _ _ _ _ => vrun_bldo, fun _ _ _ _ _ _ _ => vrunD_bldo, fun _ _ _ _ _ _ _ _ => vrun_bldr, fun _ _ _ _ _ _ _ => vrunD_bldr, fun _ _ _ _ _ _ _ _ _ => vrun_mm, fun _ _ _ _ _ _ _ _ => vrunD_mm, fun _ _ _ _ _ _ _ _ _ => vrun_app, fun _ _ _ _ _ _ _ _ => vrunD_app, fun _ _ _ _ _ _ _ _ _ => vrun_mks, fun _ _ _ _ _ _ _ _ => vrunD_mks, fun _ _ _ _ _ _ _ _ _ => vrun_mkm⟩
theorem EF : (∀ P K t m n a0 a1 a2, vrunD P (.mkm a0 a1 a2) t m n K = (vop (.mkm a0 a1 a2) t m n K)) ∧
    (∀ P d K t m n, vrun P d (.mnew ) K t m n = (vop (.mnew ) t m n fun x u => K (putT d x t) (u ++ m) (n + 1))) ∧
    (∀ P K t m n, vrunD P (.mnew ) t m n K = (vop (.mnew ) t m n K)) ∧
    (∀ P d K t m n a0 a1 a2 a3 a4, vrun P d (.mget a0 a1 a2 a3 a4) K t m n = (vop (.mget a0 a1 a2 a3 a4) t m n fun x u => K (putT d x t) (u ++ m) (n + 1))) ∧
    (∀ P K t m n a0 a1 a2 a3 a4, vrunD P (.mget a0 a1 a2 a3 a4) t m n K = (vop (.mget a0 a1 a2 a3 a4) t m n K)) ∧
    (∀ P d K t m n a0 a1 a2 a3, vrun P d (.mset a0 a1 a2 a3) K t m n = (vop (.mset a0 a1 a2 a3) t m n fun x u => K (putT d x t) (u ++ m) (n + 1))) ∧
    (∀ P K t m n a0 a1 a2 a3, vrunD P (.mset a0 a1 a2 a3) t m n K = (vop (.mset a0 a1 a2 a3) t m n K)) ∧
    (∀ P d K t m n a0, vrun P d (.mlen a0) K t m n = (vop (.mlen a0) t m n fun x u => K (putT d x t) (u ++ m) (n + 1))) ∧
    (∀ P K t m n a0, vrunD P (.mlen a0) t m n K = (vop (.mlen a0) t m n K)) ∧
    (∀ P d K t m n a0, vrun P d (.mrng a0) K t m n = (vop (.mrng a0) t m n fun x u => K (putT d x t) (u ++ m) (n + 1))) ∧
    (∀ P K t m n a0, vrunD P (.mrng a0) t m n K = (vop (.mrng a0) t m n K)) ∧
    (∀ P d K t m n a0, vrun P d (.next a0) K t m n = (vop (.next a0) t m n fun x u => K (putT d x t) (u ++ m) (n + 1))) ∧
    (∀ P K t m n a0, vrunD P (.next a0) t m n K = (False)) ∧
    (∀ P d K t m n a0, vrun P d (.entry a0) K t m n = (vop (.entry a0) t m n fun x u => K (putT d x t) (u ++ m) (n + 1))) ∧
    (∀ P K t m n a0, vrunD P (.entry a0) t m n K = (vop (.entry a0) t m n K)) ∧
    (∀ P d K t m n a0 a1, vrun P d (.isnil a0 a1) K t m n = (vop (.isnil a0 a1) t m n fun x u => K (putT d x t) (u ++ m) (n + 1))) ∧
    (∀ P K t m n a0 a1, vrunD P (.isnil a0 a1) t m n K = (nilSure (ev t a1) ∧ vop (.isnil a0 a1) t m n K)) ∧
    (∀ P d K t m n a0 a1, vrun P d (.nilm a0 a1) K t m n = (vop (.nilm a0 a1) t m n fun x u => K (putT d x t) (u ++ m) (n + 1))) ∧
    (∀ P K t m n a0 a1, vrunD P (.nilm a0 a1) t m n K = (vop (.nilm a0 a1) t m n K)) ∧
    (∀ P d K t m n a0 a1 a2 a3, vrun P d (.eqa a0 a1 a2 a3) K t m n = (vop (.eqa a0 a1 a2 a3) t m n fun x u => K (putT d x t) (u ++ m) (n + 1))) ∧
    (∀ P K t m n a0 a1 a2 a3, vrunD P (.eqa a0 a1 a2 a3) t m n K = (vop (.eqa a0 a1 a2 a3) t m n K)) :=
  ⟨fun _ _ _ _ _ _ _ _ => vrunD_mkm, fun _ _ _ _ _ _ => vrun_mnew, fun _ _ _ _ _ => vrunD_mnew, fun _ _ _ _ _ _ _ _ _ _ _ => vrun_mget, fun _ _ _ _ _ _ _ _ _ _ => vrunD_mget, fun _ _ _ _ _ _ _ _ _ _ => vrun_mset, fun _ _ _ _ _ _ _ _ _ => vrunD_mset, fun _ _ _ _ _ _ _ => vrun_mlen, fun _ _ _ _ _ _ => vrunD_mlen, fun _ _ _ _ _ _ _ => vrun_mrng, fun _ _ _ _ _ _ => vrunD_mrng, fun _ _ _ _ _ _ _ => vrun_next, fun _ _ _ _ _ _ => vrunD_next, fun _ _ _ _ _ _ _ => vrun_entry, fun _ _ _ _ _ _ => vrunD_entry, fun _ _ _ _ _ _ _ _ => vrun_isnil, fun _ _ _ _ _ _ _ => vrunD_isnil, fun _ _ _ _ _ _ _ _ => vrun_nilm, fun _ _ _ _ _ _ _ => vrunD_nilm, fun _ _ _ _ _ _ _ _ _ _ => vrun_eqa, fun _ _ _ _ _ _ _ _ _ => vrunD_eqa⟩
theorem EG : (∀ P d K t m n a0, vrun P d (.cap a0) K t m n = (vop (.cap a0) t m n fun x u => K (putT d x t) (u ++ m) (n + 1))) ∧
    (∀ P K t m n a0, vrunD P (.cap a0) t m n K = (vop (.cap a0) t m n K)) ∧
    (∀ P d K t m n a0 a1 a2, vrun P d (.appz a0 a1 a2) K t m n = (vop (.appz a0 a1 a2) t m n fun x u => K (putT d x t) (u ++ m) (n + 1))) ∧
    (∀ P K t m n a0 a1 a2, vrunD P (.appz a0 a1 a2) t m n K = (vop (.appz a0 a1 a2) t m n K)) ∧
    (∀ P d K t m n a0, vrun P d (.b2s a0) K t m n = (vop (.b2s a0) t m n fun x u => K (putT d x t) (u ++ m) (n + 1))) ∧
    (∀ P K t m n a0, vrunD P (.b2s a0) t m n K = (vop (.b2s a0) t m n K)) ∧
    (∀ P d K t m n a0 a1 a2 a3, vrun P d (.sget a0 a1 a2 a3) K t m n = (vop (.sget a0 a1 a2 a3) t m n fun x u => K (putT d x t) (u ++ m) (n + 1))) ∧
    (∀ P K t m n a0 a1 a2 a3, vrunD P (.sget a0 a1 a2 a3) t m n K = (vop (.sget a0 a1 a2 a3) t m n K)) ∧
    (∀ P d K t m n a0 a1 a2, vrun P d (.sset a0 a1 a2) K t m n = (vop (.sset a0 a1 a2) t m n fun x u => K (putT d x t) (u ++ m) (n + 1))) ∧
    (∀ P K t m n a0 a1 a2, vrunD P (.sset a0 a1 a2) t m n K = (vop (.sset a0 a1 a2) t m n K)) ∧
    (∀ P d K t m n a0 a1 a2 a3 a4, vrun P d (.aget a0 a1 a2 a3 a4) K t m n = (vop (.aget a0 a1 a2 a3 a4) t m n fun x u => K (putT d x t) (u ++ m) (n + 1))) ∧
    (∀ P K t m n a0 a1 a2 a3 a4, vrunD P (.aget a0 a1 a2 a3 a4) t m n K = (vop (.aget a0 a1 a2 a3 a4) t m n K)) ∧
    (∀ P d K t m n a0 a1 a2 a3, vrun P d (.aset a0 a1 a2 a3) K t m n = (vop (.aset a0 a1 a2 a3) t m n fun x u => K (putT d x t) (u ++ m) (n + 1))) ∧
    (∀ P K t m n a0 a1 a2 a3, vrunD P (.aset a0 a1 a2 a3) t m n K = (vop (.aset a0 a1 a2 a3) t m n K)) ∧
    (∀ P d K t m n, vrun P d (.never ) K t m n = (vop (.never ) t m n fun x u => K (putT d x t) (u ++ m) (n + 1))) ∧
    (∀ P K t m n, vrunD P (.never ) t m n K = (vop (.never ) t m n K)) ∧
    (∀ P d K t m n a0 a1 a2 a3, vrun P d (.slc a0 a1 a2 a3) K t m n = (vop (.slc a0 a1 a2 a3) t m n fun x u => K (putT d x t) (u ++ m) (n + 1))) ∧
    (∀ P K t m n a0 a1 a2 a3, vrunD P (.slc a0 a1 a2 a3) t m n K = (vop (.slc a0 a1 a2 a3) t m n K)) ∧
    (∀ P d K t m n f args, vrun P d (.call f args) K t m n = (CallVC P f (evs t args) m n fun x m' n' => K (putT d x t) m' n')) ∧
    (∀ P d K t m n g args, vrun P d (.callv g args) K t m n = (match ev t g with
    | .fn f caps => CallVC P f (evs t args ++ caps) m n fun x m' n' => K (putT d x t) m' n'
    | _ => False)) ∧
    (∀ P K t m n f args, vrunD P (.call f args) t m n K = (CallD P f (evs t args) m n K)) :=
  ⟨fun _ _ _ _ _ _ _ => vrun_cap, fun _ _ _ _ _ _ => vrunD_cap, fun _ _ _ _ _ _ _ _ _ => vrun_appz, fun _ _ _ _ _ _ _ _ => vrunD_appz, fun _ _ _ _ _ _ _ => vrun_b2s, fun _ _ _ _ _ _ => vrunD_b2s, fun _ _ _ _ _ _ _ _ _ _ => vrun_sget, fun _ _ _ _ _ _ _ _ _ => vrunD_sget, fun _ _ _ _ _ _ _ _ _ => vrun_sset, fun _ _ _ _ _ _ _ _ => vrunD_sset, fun _ _ _ _ _ _ _ _ _ _ _ => vrun_aget, fun _ _ _ _ _ _ _ _ _ _ => vrunD_aget, fun _ _ _ _ _ _ _ _ _ _ => vrun_aset, fun _ _ _ _ _ _ _ _ _ => vrunD_aset, fun _ _ _ _ _ _ => vrun_never, fun _ _ _ _ _ => vrunD_never, fun _ _ _ _ _ _ _ _ _ _ => vrun_slc, fun _ _ _ _ _ _ _ _ _ => vrunD_slc, fun _ _ _ _ _ _ _ _ => vrun_call, fun _ _ _ _ _ _ _ _ => vrun_callv, fun _ _ _ _ _ _ _ => vrunD_call⟩
theorem EH : (∀ P K t m n f args, vrunD P (.callx f args) t m n K = (CallX P f (evs t args) m n K)) ∧
    (∀ P K t m n k f args, vrunD P (.cally k f args) t m n K = (CallY P f (evs t args) m n (n + k) K)) ∧
    (∀ P K t m n g args, vrunD P (.callvx g args) t m n K = (match ev t g with
    | .fn f caps => CallX P f (evs t args ++ caps) m n K
    | _ => False)) ∧
    (∀ P K t m n g args, vrunD P (.callv g args) t m n K = (match ev t g with
    | .fn f caps => CallD P f (evs t args ++ caps) m n K
    | _ => False)) ∧
    (∀ P d op K t m n, vins P ⟨d, op, none⟩ K t m n = (vrun P d op K t m n)) ∧
    (∀ P d op s want K t m n, vins P ⟨d, op, some (s, want)⟩ K t m n = (match look t s with
    | .v (.bool b) => Split b want (vrun P d op K ((s, .v (.bool want)) :: t) m n) (K (putT d (.v undef) ((s, .v (.bool (!want))) :: t)) m (n + 1))
    | .v (.tuple _) => K (putT d (.v undef) t) m (n + 1)
    | _ => False)) ∧
    (∀ P K t m n, vregs P [] K t m n = (K t m n)) ∧
    (∀ P i r K t m n, vregs P (i :: r) K t m n = (vins P i (vregs P r K) t m n)) ∧
    (∀ P d op K t m n, vstepD P ⟨d, op, none⟩ K t m n = (vrunD P op t m n fun x u => K x u t)) ∧
    (∀ P d op s want K t m n, vstepD P ⟨d, op, some (s, want)⟩ K t m n = (match look t s with
    | .v (.bool b) => Split b want (vrunD P op ((s, .v (.bool want)) :: t) m n fun x u => K x u ((s, .v (.bool want)) :: t)) (K (.v undef) [] ((s, .v (.bool (!want))) :: t))
    | .v (.tuple _) => K (.v undef) [] t
    | _ => False)) ∧
    (∀ P K t m n, vregsD P [] K t m n = (K t m n)) ∧
    (∀ P d op g r K t m n, vregsD P (⟨d, op, g⟩ :: r) K t m n = (vstepD P ⟨d, op, g⟩ (fun x u t2 => vregsD P r K (putT d x t2) (u ++ m) (n + 1)) t m n)) ∧
    (∀ P Q t m n, vcg P .skip Q t m n = (Q .norm t m n)) ∧
    (∀ P is Q t m n, vcg P (.reg is) Q t m n = (vregs P is (Q .norm) t m n)) ∧
    (∀ P is Q t m n, vcg P (.draw is) Q t m n = (vregsD P is (Q .norm) t m n)) ∧
    (∀ P is cs Q t m n, vcg P (.drawc is cs) Q t m n = (vregsD P is (drawcQ is cs m.length Q) t m n)) ∧
    (∀ P is cs zs Q t m n, vcg P (.drawy is cs zs) Q t m n = (vregsD P is (drawyQ is cs zs m.length Q) t m n)) ∧
    (∀ is cs zs L Q t m n, drawyQ is cs zs L Q t m n = (apartY t m L is zs cs ∧ Q .norm t m (n + 1))) ∧
    (∀ is cs L Q t m n, drawcQ is cs L Q t m n = (apart t m L is cs ∧ Q .norm t m n)) ∧
    (∀ P a b Q t m n, vcg P (.seq a b) Q t m n = (vcg P a (thenQ P b Q) t m n)) ∧
    (∀ P c a b Q t m n, vcg P (.cond c a b) Q t m n = (match ev t c with
    | .v (.bool x) => Fork x (vcg P a Q t m n) (vcg P b Q t m n)
    | _ => False)) :=
  ⟨fun _ _ _ _ _ _ _ => vrunD_callx, fun _ _ _ _ _ _ _ _ => vrunD_cally, fun _ _ _ _ _ _ _ => vrunD_callvx, fun _ _ _ _ _ _ _ => vrunD_callv, fun _ _ _ _ _ _ _ => vins_none, fun _ _ _ _ _ _ _ _ _ => vins_some, fun _ _ _ _ _ => vregs_nil, fun _ _ _ _ _ _ _ => vregs_cons, fun _ _ _ _ _ _ _ => vstepD_none, fun _ _ _ _ _ _ _ _ _ => vstepD_some, fun _ _ _ _ _ => vregsD_nil, fun _ _ _ _ _ _ _ _ _ => vregsD_cons, fun _ _ _ _ _ => vcg_skip, fun _ _ _ _ _ _ => vcg_reg, fun _ _ _ _ _ _ => vcg_draw, fun _ _ _ _ _ _ _ => vcg_drawc, fun _ _ _ _ _ _ _ _ => vcg_drawy, fun _ _ _ _ _ _ _ _ => drawyQ_, fun _ _ _ _ _ _ _ => drawcQ_, fun _ _ _ _ _ _ _ => vcg_seq, fun _ _ _ _ _ _ _ _ => vcg_cond⟩
theorem EI : (∀ P id b Q t m n, vcg P (.block id b) Q t m n = (vcg P b (outQ id Q) t m n)) ∧
    (∀ P b Q t m n, vcg P (.loop b) Q t m n = (LoopVC (vcg P b) (asg b) Q t m n)) ∧
    (∀ P L b Q t m n, vcg P (.fz L b) Q t m n = (FzVC (vcg P b Q) L t m n)) ∧
    (∀ P L b Q t m n, vcg P (.gv L b) Q t m n = (vcg P b (gvQ L Q) t m n)) ∧
    (∀ L Q t m n, gvQ L Q .norm t m n = (gvVC L t m fun m' => Q .norm t m' n)) ∧
    (∀ L Q t m n, gvQ L Q .ret t m n = (Q .ret t m n)) ∧
    (∀ L Q t m n i, gvQ L Q (.ex i) t m n = (Q (.ex i) t m n)) ∧
    (∀ t m K, gvVC [] t m K = (K m)) ∧
    (∀ a r t m K, gvVC (a :: r) t m K = (gvRow (ev t a) m fun m' => gvVC r t m' K)) ∧
    (∀ x m K, gvRow x m K = (match x with
  | .elt k _ _ => match lookM m k with
    | some (.lent sz rows i q) => match lookM m q with
      | some (.arr s xs) => s = sz ∧ K ((k, some (.mat sz (rows.set i (.own xs)))) :: (q, none) :: m)
      | _ => K m
    | _ => K m
  | _ => K m)) ∧
    (∀ P id Q t m n, vcg P (.exit id) Q t m n = (Q (.ex id) t m n)) ∧
    (∀ P Q t m n, vcg P .ret Q t m n = (Q .ret t m n)) ∧
    (∀ P b Q t m n, thenQ P b Q .norm t m n = (vcg P b Q t m n)) ∧
    (∀ P b Q t m n, thenQ P b Q .ret t m n = (Q .ret t m n)) ∧
    (∀ P b Q t m n i, thenQ P b Q (.ex i) t m n = (Q (.ex i) t m n)) ∧
    (∀ id Q t m n, outQ id Q .norm t m n = (Q .norm t m n)) ∧
    (∀ id Q t m n, outQ id Q .ret t m n = (Q .ret t m n)) ∧
    (∀ id Q t m n i, outQ id Q (.ex i) t m n = (if i = id then Q .norm t m n else Q (.ex i) t m n)) :=
  ⟨fun _ _ _ _ _ _ _ => vcg_block, fun _ _ _ _ _ _ => vcg_loop, fun _ _ _ _ _ _ _ => vcg_fz, fun _ _ _ _ _ _ _ => vcg_gv, fun _ _ _ _ _ => gvQ_norm, fun _ _ _ _ _ => gvQ_ret, fun _ _ _ _ _ _ => gvQ_ex, fun _ _ _ => gvVC_nil, fun _ _ _ _ _ => gvVC_cons, fun _ _ _ => gvRow_, fun _ _ _ _ _ _ => vcg_exit, fun _ _ _ _ _ => vcg_ret, fun _ _ _ _ _ _ => thenQ_norm, fun _ _ _ _ _ _ => thenQ_ret, fun _ _ _ _ _ _ _ => thenQ_ex, fun _ _ _ _ _ => outQ_norm, fun _ _ _ _ _ => outQ_ret, fun _ _ _ _ _ _ => outQ_ex⟩

end Go.Av
