/- record: the document's Line. -/
import Derived.Test.YtljeedgnjgeopaaUd
import Derived.Test.YtljeedgnjgeopaaZg
namespace Go.Proofs.Ytljeedgnjgeopaa
open Go.ChangeShapes Go.WideShapes Go.ChangeAt Go.RowKit Go.Shelf
set_option linter.unusedVariables false
set_option linter.unusedSimpArgs false
set_option maxRecDepth 100000
set_option maxHeartbeats 4000000
/-- the head of a body -/
def hdL (sq nw gn : Nat) : List Nat := [] ++ Larder.bigN 8 sq ++ Larder.bigN 8 nw ++ Larder.bigN 4 gn
theorem hdL_len (sq nw gn : Nat) : (hdL sq nw gn).length = 20 := by unfold hdL; simp [Larder.bigN_len]
theorem take_flat {α : Type} (f : α → List Nat) (l : List α) (i : Nat) (x : α) (h : l[i]? = some x) : (l.take i).flatMap f ++ f x = (l.take (i + 1)).flatMap f := by
  rw [List.take_add_one, h, List.flatMap_append]
  simp
theorem bigN1 {d : Nat} (h : d < 256) : Larder.bigN 1 d = [d] := by
  unfold Larder.bigN
  simp
  omega
theorem flat_take_le {α : Type} (f : α → List Nat) (B N : Nat) (l : List α) (hN : l.length ≤ N) (h : ∀ x ∈ l, (f x).length ≤ B) (i : Nat) : ((l.take i).flatMap f).length ≤ N * B := by
  have h1 := Larder.flat_le f B (l.take i) (fun x hx => h x (List.mem_of_mem_take hx))
  have h2 : (l.take i).length ≤ N := by rw [List.length_take]; omega
  exact Nat.le_trans h1 (Nat.mul_le_mul_right B h2)
theorem dline_yes (W : World) (sq nw : Nat) (ga : Option Addr) (gn gc : Nat) (g : List Larder.ActP) (hg : GrpAt W ga g) (hgn : gn = g.length) (hok : Larder.OkE ⟨sq, nw, g⟩) (hmay : Larder.okE ⟨(sq : Nat), nw, g.map fun a => ((a.1 : Int), a.2)⟩ = true) :
    Calls Try.prog 16 #[.agg #[.int .i64 (sq : Nat), .int .u64 (nw : Nat), .slice ga gn gc]] W fun e W' => ∃ (a : Option Addr) (n c : Nat), e = .returned (.tuple #[.slice a n c, .int .i64 0]) ∧ n = (Larder.recE ⟨sq, nw, g⟩).length ∧ Hid (Nw W W' (.slice a n c) ∧ RB W' (.slice a n c) (Larder.recE ⟨sq, nw, g⟩)) := by
  have hb := (Below.refl W.heap.size W).alloc (Nat.le_refl _) (.cells #[.int .i64 (sq : Nat), .int .u64 (nw : Nat), .slice ga gn gc] 41)
  have hnew := heap_alloc_new W (.cells #[.int .i64 (sq : Nat), .int .u64 (nw : Nat), .slice ga gn gc] 41)
  obtain ⟨w1, hw1⟩ : ∃ w1, W.alloc (.cells #[.int .i64 (sq : Nat), .int .u64 (nw : Nat), .slice ga gn gc] 41) = w1 := ⟨_, rfl⟩
  rw [hw1] at hb hnew
  have hE := blk_lt hnew
  have x0 := cell_blk hnew 0
  have x1 := cell_blk hnew 1
  have x2 := cell_blk hnew 2
  have HB := hide hb
  have hGI : GrpI w1 ga (g.map fun a => ((a.1 : Int), a.2)) := by
    have := hg.below2 hb
    rcases this with h | ⟨b, off, e, hl, hc⟩
    · exact .inl (by rw [h]; rfl)
    · refine .inr ⟨b, off, e, hl, fun i x hx => ?_⟩
      rw [List.getElem?_map] at hx
      obtain ⟨y, hy, rfl⟩ := Option.map_eq_some_iff.1 hx
      exact hc i y hy
  have C32 := may_any w1 (sq : Nat) nw ga gn gc _ hGI (by rw [List.length_map]; exact hgn)
  rw [hmay] at C32
  have HGA := hide (hg.below2 hb)
  have HN := hide hgn
  have HOK := hide hok
  have hsq : sq < 9223372036854775808 := hok.seq.2
  have hnw : nw ≤ 4503599627370496 := hok.now
  have hgn64 : gn ≤ 64 := by rw [hgn]; exact hok.len
  have C33 := hide (fun (W : World) (n : Nat) (h : n < 18446744073709551616) => dnum8 W n h)
  have C334 := hide (fun (W : World) (n : Nat) (h : n < 18446744073709551616) => dnum4 W n h)
  have d1 : IntKind.u64.wrap (sq : Int) = (sq : Int) := by rw [IntKind.wrap_u64]; omega
  have d2 : IntKind.u64.wrap (gn : Int) = (gn : Int) := by rw [IntKind.wrap_u64]; omega
  have HNU : Hid (∀ (W W2 : World) (v k : Nat), Hid (Below W.heap.size W W2 ∧ RB W2 (.slice (some ⟨W.heap.size, 0, none⟩) k k) (Larder.bigN k v)) → Bytes W2 (some ⟨W.heap.size, 0, none⟩) (Larder.bigN k v)) := hide (fun W W2 v k h => (RB.bytes (unhide h).2).1)
  have HC : Hid (∀ (V : World) (a : Option Addr) (n c : Nat) (L : List Nat), NB2 w1 V a n c L → V.cell? ⟨W.heap.size, 0, none⟩ = some (.int .i64 (sq : Nat)) ∧ V.cell? ⟨W.heap.size, 1, none⟩ = some (.int .u64 (nw : Nat)) ∧ V.cell? ⟨W.heap.size, 2, none⟩ = some (.slice ga gn gc)) := hide (fun V a n c L h => ⟨(h.1.bel.cell (p := ⟨W.heap.size, 0, none⟩) hE).trans x0, (h.1.bel.cell (p := ⟨W.heap.size, 1, none⟩) hE).trans x1, (h.1.bel.cell (p := ⟨W.heap.size, 2, none⟩) hE).trans x2⟩)
  have S1 : Hid (NB2 w1 w1 none 0 0 []) := hide ⟨Nw.nil w1, .inl ⟨rfl, rfl⟩⟩
  clear hg hgn hok hmay hb hnew hGI hE x1 x2 x0
  obtain ⟨x0, x1, x2⟩ := (unhide HC) w1 none 0 0 [] (unhide S1)
  go_enter Try.func16, Try.ntmps16
  go_wp2_with (first
    | (go_at_call 32; refine C32.mono ?_; clear C32; rintro e w2 ⟨rfl, z2⟩; have S2 := hide ((unhide S1).on (unhide z2)); obtain ⟨u0, u1, u2⟩ := (unhide HC) w2 none 0 0 [] (unhide S2))
    | (go_at_call 33; (with_reducible refine ((unhide C33) w2 sq (by omega)).mono ?_); rintro e w3 ⟨rfl, z3⟩; have S3 := hide ((unhide S2).on (unhide z3).1))
    | (at_builtin; refine app_rb rfl _ _ rfl none 0 0 [] rfl (unhide S3).2 _ 8 8 rfl (Larder.bigN 8 sq) (Larder.bigN_len 8 sq).symm ((unhide HNU) _ _ _ _ z3) 8 rfl (by omega) ?_; intro a4 c4 w4 r4 k4; have S4 := hide ((unhide S3).app r4 k4); obtain ⟨v0, v1, v2⟩ := (unhide HC) w4 _ _ _ _ (unhide S4); clear r4 k4; go_frame)
    | (go_at_call 33; (with_reducible refine ((unhide C33) w4 nw (by omega)).mono ?_); rintro e w5 ⟨rfl, z5⟩; have S5 := hide ((unhide S4).on (unhide z5).1))
    | (at_builtin; refine app_rb rfl _ _ rfl a4 8 c4 _ rfl (unhide S5).2 _ 8 8 rfl (Larder.bigN 8 nw) (Larder.bigN_len 8 nw).symm ((unhide HNU) _ _ _ _ z5) 16 rfl (by omega) ?_; intro a6 c6 w6 r6 k6; have S6 := hide ((unhide S5).app r6 k6); obtain ⟨v60, v61, v62⟩ := (unhide HC) w6 _ _ _ _ (unhide S6); clear r6 k6; go_frame)
    | (go_at_call 33; (with_reducible refine ((unhide C334) w6 gn (by omega)).mono ?_); rintro e w7 ⟨rfl, z7⟩; have S7 := hide ((unhide S6).on (unhide z7).1))
    | (at_builtin; refine app_rb rfl _ _ rfl a6 16 c6 _ rfl (unhide S7).2 _ 4 4 rfl (Larder.bigN 4 gn) (Larder.bigN_len 4 gn).symm ((unhide HNU) _ _ _ _ z7) 20 rfl (by omega) ?_; intro a8 c8 w8 r8 k8; have S8 : Hid (NB2 w1 w8 a8 20 c8 (hdL sq nw gn)) := hide ((unhide S7).app r8 k8); clear r8 k8; go_frame))
  clear S1 S2 S3 S4 S5 S6 S7 z2 z3 z5 z7 C33 x0 x1 x2 u0 u1 u2 v0 v1 v2 v60 v61 v62 d1 d2
  have HBI : Hid (∀ i, ((g.take i).flatMap Larder.encA).length ≤ 33587520) := hide (fun i => flat_take_le Larder.encA 524805 64 g (unhide HOK).len (fun x hx => Larder.encA_le ((unhide HOK).each x hx)) i)
  go_loopw [4, 5] (fun bv iv wr => ∃ (i : Nat) (ba : Option Addr) (bn bc : Nat), bv = .slice ba bn bc ∧ iv = .int .i64 ((i : Nat) : Int) ∧ i ≤ gn ∧ Hid (NB2 w1 wr ba bn bc (hdL sq nw gn ++ (g.take i).flatMap Larder.encA))) (fun _ iv _ => gn - (intOf iv).toNat)
  case atStart => exact ⟨0, a8, 20, c8, rfl, rfl, Nat.zero_le _, hide (by rw [List.take_zero, List.flatMap_nil, List.append_nil]; exact unhide S8)⟩
  case round =>
    clear S8
    obtain ⟨i, ba, bn, bc, rfl, rfl, hi, HS⟩ := hrel
    obtain ⟨y0, y1, y2⟩ := (unhide HC) wr _ _ _ _ (unhide HS)
    have hbn : bn ≤ 33587540 := by
      have h1 := (unhide HS).len
      have h2 := (unhide HBI) i
      rw [List.length_append, hdL_len] at h1
      omega
    by_cases hin : i < gn
    · have f1 : decide ((i : Int) < (gn : Int)) = true := decide_eq_true (by omega)
      have f2 : decide (i < gn) = true := decide_eq_true hin
      have g1 : (0 : Int) ≤ (i : Int) := by omega
      have g2 : (i : Int) < (gn : Int) := by omega
      obtain ⟨⟨d, V⟩, hx⟩ : ∃ x, g[i]? = some x := ⟨_, List.getElem?_eq_getElem (by have := unhide HN; omega)⟩
      have hA := (unhide HOK).each _ (List.mem_of_getElem? hx)
      obtain ⟨b, off, rfl, hb, k1, xa, xc, k2, k3⟩ : ∃ b off, ga = some ⟨b, off, none⟩ ∧ b < w1.heap.size ∧ w1.cell? ⟨b, off + i * 2, none⟩ = some (.int .i64 (d : Nat)) ∧ ∃ xa xc, w1.cell? ⟨b, off + i * 2 + 1, none⟩ = some (.slice xa V.length xc) ∧ BL w1 xa V := by
        rcases unhide HGA with h | ⟨b, off, e, hl, hc⟩
        · rw [h] at hx; cases hx
        · obtain ⟨q1, xa, xc, q2, q3⟩ := hc i _ hx
          exact ⟨b, off, e, hl, q1, xa, xc, q2, q3⟩
      have hd4 : d < 4 := hA.db
      have hV128 : V.length ≤ 128 := hA.len
      have HTX : Hid (∀ T ∈ V, Larder.OkT T) := hide hA.each
      have HXB := hide k3
      obtain ⟨vn, hvn⟩ : ∃ vn, vn = V.length := ⟨_, rfl⟩
      have HVN := hide hvn
      have HBT : Hid (∀ k, ((V.take k).flatMap Larder.encT).length ≤ 524800) := hide (fun k => flat_take_le Larder.encT 4100 128 V hV128 (fun x hx => Larder.encT_le (hA.each x hx)) k)
      have HEA : Hid (hdL sq nw gn ++ (g.take i).flatMap Larder.encA ++ [d] ++ Larder.bigN 4 vn ++ V.flatMap Larder.encT = hdL sq nw gn ++ (g.take (i + 1)).flatMap Larder.encA) := hide (by
        rw [← take_flat Larder.encA g i _ hx]
        unfold Larder.encA
        dsimp only
        rw [bigN1 (by omega : d < 256), hvn]
        simp only [List.append_assoc])
      rw [← hvn] at k2
      have HGC : Hid (∀ (V2 : World) (a : Option Addr) (n c : Nat) (L : List Nat), NB2 w1 V2 a n c L → V2.cell? ⟨b, off + i * 2, none⟩ = some (.int .i64 (d : Nat)) ∧ V2.cell? ⟨b, off + i * 2 + 1, none⟩ = some (.slice xa vn xc)) := hide (fun V2 a n c L h => ⟨(h.1.bel.cell (p := ⟨b, _, none⟩) hb).trans k1, (h.1.bel.cell (p := ⟨b, _, none⟩) hb).trans k2⟩)
      obtain ⟨t1, t2⟩ := (unhide HGC) wr _ _ _ _ (unhide HS)
      have d1 : IntKind.u8.wrap (d : Int) = (d : Int) := by rw [IntKind.wrap_u8]; omega
      have d2 : IntKind.u64.wrap (vn : Int) = (vn : Int) := by rw [IntKind.wrap_u64]; omega
      have hvn128 : vn ≤ 128 := by omega
      have SA := hide ((unhide HS).on ((Below.refl _ _).alloc (Nat.le_refl _) (.cells #[.int .u8 (d : Nat)] 5)))
      have BA : Hid (Bytes (wr.alloc (.cells #[.int .u8 (d : Nat)] 5)) (some ⟨wr.heap.size, 0, none⟩) [d]) := hide (RB.bytes (RB.of (l := [d]) (n := 1) (heap_alloc_new wr (.cells #[.int .u8 (d : Nat)] 5)) rfl (by unfold maxLen; omega) rfl (fun j hj => by (obtain rfl : j = 0 := Nat.lt_one_iff.1 hj); rfl))).1
      obtain ⟨bn1, hbn1⟩ : ∃ k, bn + 1 = k := ⟨_, rfl⟩
      obtain ⟨bn5, hbn5⟩ : ∃ k, bn1 + 4 = k := ⟨_, rfl⟩
      have HB1 := hide hbn1
      have HB5 := hide hbn5
      have q1 : bn1 ≤ 34000000 := by omega
      have q5 : bn5 ≤ 34000000 := by omega
      clear hvn hx hA k1 k2 k3 hV128 hbn1 hbn5
      go_wp2_with (first
        | (at_builtin; refine app_rb rfl _ _ rfl ba bn bc _ rfl (unhide SA).2 (some ⟨wr.heap.size, 0, none⟩) 1 1 rfl [d] rfl (unhide BA) bn1 (unhide HB1) (by omega) ?_; intro a9 c9 w9 r9 k9; have S9 := hide ((unhide SA).app r9 k9); obtain ⟨y90, y91, y92⟩ := (unhide HC) w9 _ _ _ _ (unhide S9); obtain ⟨t91, t92⟩ := (unhide HGC) w9 _ _ _ _ (unhide S9); clear r9 k9; go_frame)
        | (go_at_call 33; (with_reducible refine ((unhide C334) w9 vn (by omega)).mono ?_); rintro e w10 ⟨rfl, z10⟩; have S10 := hide ((unhide S9).on (unhide z10).1))
        | (at_builtin; refine app_rb rfl _ _ rfl a9 bn1 c9 _ rfl (unhide S10).2 _ 4 4 rfl (Larder.bigN 4 vn) (Larder.bigN_len 4 vn).symm ((unhide HNU) _ _ _ _ z10) bn5 (unhide HB5) (by omega) ?_; intro a11 c11 w11 r11 k11; have S11 := hide ((unhide S10).app r11 k11); clear r11 k11; go_frame))
      clear SA BA S9 S10 z10 y0 y1 y2 y90 y91 y92 t1 t2 t91 t92
      rename World => wo
      go_loopw [4, 6] (fun bv kv wr => ∃ (k : Nat) (ba : Option Addr) (bn bc : Nat), bv = .slice ba bn bc ∧ kv = .int .i64 ((k : Nat) : Int) ∧ k ≤ vn ∧ Hid (NB2 w1 wr ba bn bc (hdL sq nw gn ++ (g.take i).flatMap Larder.encA ++ [d] ++ Larder.bigN 4 vn ++ (V.take k).flatMap Larder.encT))) (fun _ kv _ => vn - (intOf kv).toNat)
      case atStart => exact ⟨0, a11, bn5, c11, rfl, rfl, Nat.zero_le _, hide (by rw [List.take_zero, List.flatMap_nil, List.append_nil]; exact unhide S11)⟩
      case round =>
        clear S11
        obtain ⟨k, ca, cn, cc, rfl, rfl, hk, HT⟩ := hrel
        obtain ⟨y0, y1, y2⟩ := (unhide HC) wr _ _ _ _ (unhide HT)
        obtain ⟨t1, t2⟩ := (unhide HGC) wr _ _ _ _ (unhide HT)
        have hcn : cn ≤ 35000000 := by
          have h1 := (unhide HT).len
          have h2 := (unhide HBI) i
          have h3 := (unhide HBT) k
          rw [List.length_append, List.length_append, List.length_append, List.length_append, hdL_len, Larder.bigN_len] at h1
          simp only [List.length_cons, List.length_nil] at h1
          omega
        by_cases hkn : k < vn
        · have e1 : decide ((k : Int) < (vn : Int)) = true := decide_eq_true (by omega)
          have e2 : decide (k < vn) = true := decide_eq_true hkn
          have e3 : (0 : Int) ≤ (k : Int) := by omega
          have e4 : (k : Int) < (vn : Int) := by omega
          obtain ⟨T, hT⟩ : ∃ T, V[k]? = some T := ⟨_, List.getElem?_eq_getElem (by have := unhide HVN; omega)⟩
          obtain ⟨xb, xo, rfl, ai, ci, k4, k5⟩ : ∃ xb xo, xa = some ⟨xb, xo, none⟩ ∧ ∃ ai ci, wr.cell? ⟨xb, xo + k, none⟩ = some (.slice ai T.length ci) ∧ Bytes wr ai T := by
            rcases unhide HXB with h | ⟨xb, xo, e, hl, hc⟩
            · rw [h] at hT; cases hT
            · obtain ⟨ai, ci, q1, q2⟩ := hc k T hT
              exact ⟨xb, xo, e, ai, ci, ((unhide HT).1.bel.cell (p := ⟨xb, _, none⟩) hl).trans q1, q2.below' (unhide HT).1.bel⟩
          have hT4 := ((unhide HTX) T (List.mem_of_getElem? hT)).len
          obtain ⟨tn, htn⟩ : ∃ tn, tn = T.length := ⟨_, rfl⟩
          obtain ⟨t4, ht4⟩ : ∃ t4, t4 = 4 + tn := ⟨_, rfl⟩
          obtain ⟨cs, hcs⟩ : ∃ cs, cn + t4 = cs := ⟨_, rfl⟩
          have C34 : Hid (Calls Try.prog 34 #[.slice ai tn ci] wr fun e w' => ∃ a' c', e = .returned (.slice a' t4 c') ∧ Hid (Below wr.heap.size wr w' ∧ Bytes w' a' (Larder.encT T))) := hide ((dtext_any wr ai tn ci T htn k5 (fun e => by
            rcases k5 with q | ⟨_, _, q, -⟩
            · rw [htn, q]; rfl
            · rw [e] at q; cases q) (by omega)).mono (fun e w' h => by
            obtain ⟨a', c', h1, h2⟩ := h
            rw [← ht4] at h1
            exact ⟨a', c', h1, hide ⟨(unhide h2).1.bel, (RB.bytes (unhide h2).2).1⟩⟩))
          have HTL : Hid (t4 = (Larder.encT T).length) := hide (by unfold Larder.encT; rw [List.length_append, Larder.bigN_len, ht4, htn])
          have HTF := hide (take_flat Larder.encT V k T hT)
          rw [← htn] at k4
          have HCS := hide hcs
          have q6 : cs ≤ 36000000 := by omega
          clear hT k5 htn ht4 hcs hT4 hcn
          go_wp2_with (first
            | (go_at_call 34; refine (unhide C34).mono ?_; clear C34; rintro e w12 ⟨a12, c12, rfl, z12⟩; have S12 := hide ((unhide HT).on (unhide z12).1))
            | (at_builtin; refine app_rb rfl _ _ rfl ca cn cc _ rfl (unhide S12).2 a12 t4 c12 rfl (Larder.encT T) (unhide HTL) (unhide z12).2 cs (unhide HCS) (by omega) ?_; intro a13 c13 w13 r13 k13; have S13 := hide ((unhide S12).app r13 k13); clear r13 k13; go_frame))
          exact ⟨⟨k + 1, a13, cs, c13, rfl, congrArg (Value.int .i64) (by omega), by omega, hide (by rw [← unhide HTF, ← List.append_assoc]; exact unhide S13)⟩, by simp [intOf]; omega⟩
        · obtain rfl : k = vn := by omega
          have e1 : decide ((k : Int) < (k : Int)) = false := decide_eq_false (by omega)
          have e2 : decide (k < k) = false := decide_eq_false (by omega)
          have HE : Hid (NB2 w1 wr ca cn cc (hdL sq nw gn ++ (g.take (i + 1)).flatMap Larder.encA)) := hide (by
            have := unhide HT
            rw [List.take_of_length_le (Nat.le_of_eq (unhide HVN).symm), unhide HEA] at this
            exact this)
          clear HT
          go_wp2_with fail
          exact ⟨⟨i + 1, ca, cn, cc, rfl, congrArg (Value.int .i64) (by omega), by omega, HE⟩, by simp [intOf]; omega⟩
    · obtain rfl : i = gn := by omega
      have f1 : decide ((i : Int) < (i : Int)) = false := decide_eq_false (by omega)
      have f2 : decide (i < i) = false := decide_eq_false (by omega)
      have hfull : g.take i = g := List.take_of_length_le (Nat.le_of_eq (unhide HN).symm)
      have hsb : ∀ x ∈ hdL sq nw i ++ g.flatMap Larder.encA, x < 256 := fun x hx => by
        have := body_small (OkN.ofE (unhide HOK)) x
        unfold Larder.body at this
        dsimp only at this
        rw [← unhide HN] at this
        refine this ?_
        unfold hdL at hx
        simpa only [List.nil_append, List.append_assoc] using hx
      have C35 : Hid (Calls Try.prog 35 #[.slice ba bn bc] wr fun e w' => ∃ a' n' c', e = .returned (.slice a' n' c') ∧ Hid (n' = (Larder.recE ⟨sq, nw, g⟩).length ∧ Nw W w' (.slice a' n' c') ∧ RB w' (.slice a' n' c') (Larder.recE ⟨sq, nw, g⟩))) := hide (by
        have h1 := unhide HS
        rw [hfull] at h1
        refine (framed_any wr ba bn bc _ h1.len (RB.bytes h1.2).1 hsb (by omega)).mono (fun e w' h => ?_)
        obtain ⟨a', c', q1, q2⟩ := h
        have hrec : Larder.frame (hdL sq nw i ++ g.flatMap Larder.encA) = Larder.recE ⟨sq, nw, g⟩ := by
          unfold Larder.recE Larder.body hdL
          dsimp only
          rw [← unhide HN]
          simp only [List.nil_append, List.append_assoc]
        rw [hrec] at q2
        have q3 := unhide q2
        have hbw := (unhide HB).trans ((h1.1.bel.trans (q3.1.bel.mono h1.1.bel.size)).mono (unhide HB).size)
        exact ⟨a', bn + 26, c', q1, hide ⟨q3.len, ⟨hbw, fun g' hg' => by have := q3.1.own g' hg'; have := h1.1.bel.size; have := (unhide HB).size; omega⟩, q3.2⟩⟩)
      clear hfull hsb HS hbn
      go_wp2_with (go_at_call 35; refine (unhide C35).mono ?_; clear C35; rintro e w14 ⟨a14, n14, c14, rfl, z14⟩)
      go_ret2
      exact ⟨a14, n14, c14, rfl, (unhide z14).1, hide (unhide z14).2⟩
theorem dline_any (W : World) (sq : Int) (nw : Nat) (ga : Option Addr) (gn gc : Nat) (g : List Larder.ActI) (hg : GrpI W ga g) (hgn : gn = g.length) (hs : Larder.SmallG g) (h63 : sq < 9223372036854775808) :
    Calls Try.prog 16 #[.agg #[.int .i64 sq, .int .u64 (nw : Nat), .slice ga gn gc]] W (LnEnd W ⟨sq, nw, g⟩) := by
  cases hok : Larder.okE ⟨sq, nw, g⟩ with
  | true =>
    have h1 := (Larder.okE_iff hok).1
    dsimp only at h1
    obtain ⟨s, rfl⟩ : ∃ s : Nat, sq = (s : Int) := ⟨sq.toNat, (Int.toNat_of_nonneg (by omega)).symm⟩
    have hp : ∀ x ∈ g, 0 ≤ x.1 := fun x hx => (Larder.okA_iff ((Larder.okE_iff hok).2.2.2.2 x hx)).1
    have hback : (g.map Larder.ActI.toP).map (fun a => ((a.1 : Int), a.2)) = g := by
      rw [List.map_map]
      conv => rhs; rw [← List.map_id g]
      apply List.map_congr_left
      intro x hx
      show ((x.1.toNat : Int), x.2) = x
      rw [Int.toNat_of_nonneg (hp x hx)]
    have htp : Larder.EntI.toP ⟨(s : Int), nw, g⟩ = ⟨s, nw, g.map Larder.ActI.toP⟩ := by
      unfold Larder.EntI.toP
      simp
    have hO := Larder.OkE_toP hok hs h63
    rw [htp] at hO
    refine (dline_yes W s nw ga gn gc (g.map Larder.ActI.toP) (hg.toAt hp) (by rw [List.length_map]; exact hgn) hO (by rw [hback]; exact hok)).mono (fun e W' h => ?_)
    obtain ⟨a, n, c, q1, q2, q3⟩ := h
    exact .inl ⟨hok, a, n, c, q1, by rw [htp]; exact q2, by rw [htp]; exact q3⟩
  | false =>
    have hb := (Below.refl W.heap.size W).alloc (Nat.le_refl _) (.cells #[.int .i64 sq, .int .u64 (nw : Nat), .slice ga gn gc] 41)
    have hnew := heap_alloc_new W (.cells #[.int .i64 sq, .int .u64 (nw : Nat), .slice ga gn gc] 41)
    have C32 := may_any (W.alloc (.cells #[.int .i64 sq, .int .u64 (nw : Nat), .slice ga gn gc] 41)) sq nw ga gn gc g (hg.below hb) hgn
    rw [hok] at C32
    have HOK := hide hok
    have HB := hide hb
    clear hb hg hgn hs h63 hok hnew
    go_enter Try.func16, Try.ntmps16
    go_wp2_with (go_at_call 32; refine C32.mono ?_; clear C32; rintro e w2 ⟨rfl, z2⟩)
    go_ret2
    exact .inr ⟨unhide HOK, rfl, hide ((unhide HB).trans ((unhide z2).mono (unhide HB).size))⟩
end Go.Proofs.Ytljeedgnjgeopaa
