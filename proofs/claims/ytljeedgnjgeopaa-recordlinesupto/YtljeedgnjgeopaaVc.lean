/- record: Line. -/
import Derived.Test.YtljeedgnjgeopaaVb
namespace Larder
theorem okA_iff {a : ActI} (h : okA a = true) : 0 ≤ a.1 ∧ a.1 < 4 ∧ a.2 ≠ [] ∧ a.2.length ≤ 128 ∧ ∀ t ∈ a.2, t.length ≤ 4096 := by
  unfold okA okT at h
  simp only [Bool.and_eq_true, decide_eq_true_eq, List.all_eq_true] at h
  exact ⟨h.1, h.2.1, fun e => h.2.2.1 (by rw [e]; rfl), h.2.2.2.1, h.2.2.2.2⟩
theorem okE_iff {e : EntI} (h : okE e = true) : 1 ≤ e.seq ∧ e.now ≤ 4503599627370496 ∧ e.group ≠ [] ∧ e.group.length ≤ 64 ∧ ∀ a ∈ e.group, okA a = true := by
  unfold okE at h
  simp only [Bool.and_eq_true, decide_eq_true_eq, List.all_eq_true] at h
  exact ⟨h.1, h.2.1, fun e => h.2.2.1 (by rw [e]; rfl), h.2.2.2.1, h.2.2.2.2⟩
/-- bytes are bytes -/
def SmallG (g : List ActI) : Prop := ∀ a ∈ g, ∀ t ∈ a.2, ∀ c ∈ t, c < 256
theorem OkE_toP {e : EntI} (h : okE e = true) (hs : SmallG e.group) (h63 : e.seq < 9223372036854775808) : OkE e.toP := by
  obtain ⟨h1, h2, h3, h4, h5⟩ := okE_iff h
  refine ⟨⟨?_, ?_⟩, h2, ?_, ?_, ?_⟩
  · show 1 ≤ e.seq.toNat; omega
  · show e.seq.toNat < 2 ^ 63; omega
  · show e.group.map ActI.toP ≠ []; simpa using h3
  · show (e.group.map ActI.toP).length ≤ 64; simpa using h4
  · intro a ha
    obtain ⟨x, hx, rfl⟩ := List.mem_map.1 ha
    obtain ⟨q1, q2, q3, q4, q5⟩ := okA_iff (h5 x hx)
    exact ⟨(by show x.1.toNat < 4; omega), q3, q4, fun t ht => ⟨q5 t ht, hs x hx t ht⟩⟩
end Larder
namespace Go.Proofs.Ytljeedgnjgeopaa
open Go.ChangeShapes Go.WideShapes Go.ChangeAt Go.RowKit
set_option linter.unusedVariables false
set_option linter.unusedSimpArgs false
set_option maxRecDepth 100000
set_option maxHeartbeats 4000000
theorem OkN_toP {e : Larder.EntI} (h : Larder.okE e = true) (hs : Larder.SmallG e.group) (h63 : e.seq < 9223372036854775808) : OkN e.toP := by
  have H := Larder.OkE_toP h hs h63
  exact ⟨by have := H.seq.2; omega, by have := H.now; omega, ⟨H.len, fun a ha => ⟨(H.each a ha).db, (H.each a ha).len, fun t ht => ((H.each a ha).each t ht).len⟩⟩, fun a ha t ht => ((H.each a ha).each t ht).small⟩
theorem GrpI.toAt {w : World} {a : Option Addr} {g : List Larder.ActI} (h : GrpI w a g) (hp : ∀ x ∈ g, 0 ≤ x.1) : GrpAt w a (g.map Larder.ActI.toP) := by
  rcases h with h | ⟨b, off, e, hl, hc⟩
  · exact .inl (by rw [h]; rfl)
  · refine .inr ⟨b, off, e, hl, fun i x hx => ?_⟩
    rw [List.getElem?_map] at hx
    obtain ⟨y, hy, rfl⟩ := Option.map_eq_some_iff.1 hx
    obtain ⟨k1, xa, xc, k2, k3⟩ := hc i y hy
    have h0 := hp y (List.mem_of_getElem? hy)
    refine ⟨?_, xa, xc, k2, k3⟩
    rw [k1]
    show _ = some (Value.int IntKind.i64 ((y.1.toNat : Nat) : Int))
    rw [Int.toNat_of_nonneg h0]
/-- what Line answers -/
def LnEnd (W : World) (E : Larder.EntI) (e : Ending) (W' : World) : Prop :=
  (Larder.okE E = true ∧ ∃ a n c, e = .returned (.tuple #[.slice a n c, .int .i64 0]) ∧ n = (Larder.recE E.toP).length ∧ Hid (Nw W W' (.slice a n c) ∧ RB W' (.slice a n c) (Larder.recE E.toP))) ∨
  (Larder.okE E = false ∧ e = .returned (.tuple #[.slice none 0 0, .int .i64 162]) ∧ Hid (Below W.heap.size W W'))
theorem line_any (W : World) (sq : Int) (nw : Nat) (ga : Option Addr) (gn gc : Nat) (g : List Larder.ActI) (hg : GrpI W ga g) (hgn : gn = g.length) (hs : Larder.SmallG g) (h63 : sq < 9223372036854775808) :
    Calls Try.prog 15 #[.agg #[.int .i64 sq, .int .u64 (nw : Nat), .slice ga gn gc]] W (LnEnd W ⟨sq, nw, g⟩) := by
  have hb := (Below.refl W.heap.size W).alloc (Nat.le_refl _) (.cells #[.int .i64 sq, .int .u64 (nw : Nat), .slice ga gn gc] 41)
  have hnew := heap_alloc_new W (.cells #[.int .i64 sq, .int .u64 (nw : Nat), .slice ga gn gc] 41)
  obtain ⟨w1, hw1⟩ : ∃ w1, W.alloc (.cells #[.int .i64 sq, .int .u64 (nw : Nat), .slice ga gn gc] 41) = w1 := ⟨_, rfl⟩
  rw [hw1] at hb hnew
  have x0 : w1.cell? ⟨W.heap.size, 0, none⟩ = some (.int .i64 sq) := cell_blk hnew 0
  have x1 : w1.cell? ⟨W.heap.size, 1, none⟩ = some (.int .u64 (nw : Nat)) := cell_blk hnew 1
  have x2 : w1.cell? ⟨W.heap.size, 2, none⟩ = some (.slice ga gn gc) := cell_blk hnew 2
  have HB := hide hb
  have C30 : Calls Try.prog 30 #[.agg #[.int .i64 sq, .int .u64 (nw : Nat), .slice ga gn gc]] w1 fun e w' => e = .returned (.bool (Larder.okE ⟨sq, nw, g⟩)) ∧ w'.cell? ⟨W.heap.size, 0, none⟩ = some (.int .i64 sq) ∧ w'.cell? ⟨W.heap.size, 1, none⟩ = some (.int .u64 (nw : Nat)) ∧ w'.cell? ⟨W.heap.size, 2, none⟩ = some (.slice ga gn gc) ∧ Hid (Below W.heap.size W w') := by
    refine (written_any w1 sq nw ga gn gc g (hg.below hb) hgn).mono ?_
    rintro e w' ⟨q1, q2⟩
    have q3 := (unhide q2)
    have hlt : W.heap.size < w1.heap.size := blk_lt hnew
    exact ⟨q1, (q3.cell (p := ⟨W.heap.size, 0, none⟩) hlt).trans x0, (q3.cell (p := ⟨W.heap.size, 1, none⟩) hlt).trans x1, (q3.cell (p := ⟨W.heap.size, 2, none⟩) hlt).trans x2, hide (hb.trans (q3.mono hb.size))⟩
  cases hok : Larder.okE ⟨sq, nw, g⟩ with
  | false =>
    rw [hok] at C30
    have HOK := hide hok
    clear hok hnew hb hg hgn hs h63
    go_enter Try.func15, Try.ntmps15
    go_wp2_with (go_at_call 30; refine C30.mono ?_; clear C30; rintro e w2 ⟨rfl, y0, y1, y2, k2⟩)
    go_ret2
    exact .inr ⟨unhide HOK, rfl, k2⟩
  | true =>
    rw [hok] at C30
    have HOK := hide hok
    have C31 : Hid (∀ V, Below W.heap.size W V → Calls Try.prog 31 #[.agg #[.int .i64 sq, .int .u64 (nw : Nat), .slice ga gn gc]] V (REnd V (Larder.recE (Larder.EntI.toP ⟨sq, nw, g⟩)))) := hide (fun V hV => by
      have hp : ∀ x ∈ g, 0 ≤ x.1 := fun x hx => (Larder.okA_iff ((Larder.okE_iff hok).2.2.2.2 x hx)).1
      have h1 := (Larder.okE_iff hok).1
      have := wrecord V (Larder.EntI.toP ⟨sq, nw, g⟩) ga gn gc (OkN_toP hok hs h63) ((hg.below hV).toAt hp) (by rw [hgn]; show _ = (g.map _).length; rw [List.length_map])
      have e : ((Larder.EntI.toP ⟨sq, nw, g⟩).seq : Int) = sq := by show ((sq.toNat : Nat) : Int) = sq; rw [Int.toNat_of_nonneg (by dsimp only at h1; omega)]
      rw [e] at this
      exact this)
    clear hok hnew hb hg hgn hs h63
    unfold REnd at C31
    go_enter Try.func15, Try.ntmps15
    go_wp2_with (first
      | (go_at_call 31; refine ((unhide C31) w2 (unhide k2)).mono ?_; clear C31; rintro e w3 ⟨a3, n3, c3, rfl, e3, k3⟩; replace e3 := hide e3)
      | (go_at_call 30; refine C30.mono ?_; clear C30; rintro e w2 ⟨rfl, y0, y1, y2, k2⟩))
    go_ret2
    exact .inl ⟨unhide HOK, a3, n3, c3, rfl, unhide e3, hide ⟨⟨(unhide k2).trans ((unhide k3).1.bel.mono (unhide k2).size), fun g hg => Nat.le_trans (unhide k2).size ((unhide k3).1.own g hg)⟩, (unhide k3).2⟩⟩
end Go.Proofs.Ytljeedgnjgeopaa
