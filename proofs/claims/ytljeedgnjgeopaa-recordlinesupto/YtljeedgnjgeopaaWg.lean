/- record: a record written. -/
import Derived.Test.YtljeedgnjgeopaaWf
namespace Go.Proofs.Ytljeedgnjgeopaa
open Go.ChangeShapes Go.WideShapes Go.ChangeAt Go.RowKit
set_option linter.unusedVariables false
set_option linter.unusedSimpArgs false
set_option maxRecDepth 100000
set_option maxHeartbeats 4000000
theorem RB.bytes {W : World} {a : Option Addr} {n c : Nat} {l : List Nat} (h : RB W (.slice a n c) l) : Bytes W a l ∧ n = l.length := by
  rcases h with ⟨e, e0⟩ | ⟨g, cap, cur, e, hg, h1, h2, h3, h4⟩
  · cases e
    exact ⟨.inl (List.length_eq_zero_iff.1 e0), e0.symm⟩
  · cases e
    refine ⟨.inr ⟨g, 0, rfl, blk_lt hg, fun i hi => ?_⟩, rfl⟩
    rw [cell_blk hg, Nat.zero_add]
    exact h4 i (by omega)
/-- an answer: bytes in new memory -/
def REnd (W : World) (L : List Nat) (e : Ending) (W' : World) : Prop := ∃ a n c, e = .returned (.slice a n c) ∧ n = L.length ∧ Hid (Nw W W' (.slice a n c) ∧ RB W' (.slice a n c) L)
theorem wsum (w : World) (a : Option Addr) (n c : Nat) (l : List Nat) (hr : RB w (.slice a n c) l) (hs : ∀ x ∈ l, x < 256) (hl : l.length ≤ 1000000000000) : Calls Try.prog 44 #[.slice a n c] w fun e w' => e = .returned (.int .u64 ((Larder.sumOf l).toNat : Nat)) ∧ Hid (Below w.heap.size w w') := by
  obtain ⟨h1, h2⟩ := hr.bytes
  rw [h2]
  exact (sum_any a c w l (by omega) (small_of hs) h1).mono fun e w' ⟨z1, z2⟩ => ⟨z1, hide z2⟩
theorem RB.nil {W : World} {a : Option Addr} {n c : Nat} {l : List Nat} (h : RB W (.slice a n c) l) (e : a = none) : l.length = 0 := by
  rcases h with ⟨z, z0⟩ | ⟨g0, cap, cur, z, -⟩
  · exact z0
  · rw [e] at z
    cases z
theorem wrecord (W : World) (E : Larder.EntP) (ga : Option Addr) (gn gc : Nat) (hE : OkN E) (hg : GrpAt W ga E.group) (hgn : gn = E.group.length) :
    Calls Try.prog 31 #[.agg #[.int .i64 (E.seq : Nat), .int .u64 (E.now : Nat), .slice ga gn gc]] W (REnd W (Larder.recE E)) := by
  obtain ⟨sq, nw, g⟩ := E
  dsimp only at hg hgn ⊢
  have hbl := body_len (E := ⟨sq, nw, g⟩) hE.grp
  have hbs := body_small hE
  have hb := (Below.refl W.heap.size W).alloc (Nat.le_refl _) (.cells #[.int .i64 (sq : Nat), .int .u64 (nw : Nat), .slice ga gn gc] 41)
  have hnew := heap_alloc_new W (.cells #[.int .i64 (sq : Nat), .int .u64 (nw : Nat), .slice ga gn gc] 41)
  obtain ⟨w1, hw1⟩ : ∃ w1, W.alloc (.cells #[.int .i64 (sq : Nat), .int .u64 (nw : Nat), .slice ga gn gc] 41) = w1 := ⟨_, rfl⟩
  rw [hw1] at hb hnew
  have C42 := wentry W w1 (.slice none 0 0) [] ⟨sq, nw, g⟩ ga gn gc hE hg hgn ((Nw.nil W).on hb) (.inl ⟨rfl, rfl⟩) (by decide)
  rw [List.nil_append] at C42
  have x0 : w1.cell? ⟨W.heap.size, 0, none⟩ = some (.int .i64 (sq : Nat)) := cell_blk hnew 0
  have x1 : w1.cell? ⟨W.heap.size, 1, none⟩ = some (.int .u64 (nw : Nat)) := cell_blk hnew 1
  have x2 : w1.cell? ⟨W.heap.size, 2, none⟩ = some (.slice ga gn gc) := cell_blk hnew 2
  unfold Larder.recE
  obtain ⟨b, hbb⟩ : ∃ b, b = Larder.body ⟨sq, nw, g⟩ := ⟨_, rfl⟩
  rw [← hbb] at C42 hbl hbs ⊢
  have q1 : ∀ n : Nat, n ≤ 40000000 → IntKind.u64.wrap (n : Int) = (n : Int) := fun n hn => by rw [IntKind.wrap_u64]; omega
  have HF : Hid (Larder.frame b = Larder.headB b ++ (Larder.bigN 8 (Larder.sumOf (Larder.headB b)).toNat ++ (b ++ (Larder.bigN 8 (Larder.sumOf b).toNat ++ [85])))) := hide (by unfold Larder.frame; rw [Larder.bigBytes_big, Larder.bigBytes_big])
  have HS1 := hide (head_small b)
  have hhl := Larder.headB_len b
  obtain ⟨i0, hi0, hz0, hz1, hz2⟩ := info_parts4 info5
  have HBS := hide hbs
  -- the parts, behind the body's row
  have D1 : Hid (∀ V n, n = b.length → Calls Try.prog 43 #[.slice (some ⟨V.heap.size, 0, none⟩) 1 1, .int .u64 (n : Nat)] (V.alloc (.cells #[.int .u8 170] 5)) (WEnd V (V.alloc (.cells #[.int .u8 170] 5)) (.slice (some ⟨V.heap.size, 0, none⟩) 1 1) (Larder.headB b))) := hide (fun V n hn => by
    have hal := (Below.refl V.heap.size V).alloc (Nat.le_refl _) (.cells #[.int .u8 170] 5)
    have := w64 V (V.alloc (.cells #[.int .u8 170] 5)) (.slice (some ⟨V.heap.size, 0, none⟩) 1 1) [170] n (by omega) ⟨hal, fun g hg => (by cases hg; exact Nat.le_refl _)⟩ (.inr ⟨_, 1, _, rfl, heap_alloc_new V _, Nat.le_refl _, by decide, rfl, fun k hk => by
      obtain rfl : k = 0 := by simp at hk; omega
      rfl⟩) (by decide)
    rw [hn] at this ⊢
    exact this)
  have D2 : Hid (∀ V0 V (a : Option Addr) (n c : Nat), Nw V0 V (.slice a n c) → RB V (.slice a n c) (Larder.headB b) → Calls Try.prog 43 #[.slice a n c, .int .u64 ((Larder.sumOf (Larder.headB b)).toNat : Nat)] V (WEnd V0 V (.slice a n c) (Larder.headB b ++ Larder.bigN 8 (Larder.sumOf (Larder.headB b)).toNat))) := hide (fun V0 V a n c h1 h2 => w64 V0 V _ _ _ (BitVec.isLt _) h1 h2 (by omega))
  have D3 : Hid (∀ V0 V (a : Option Addr) (n c : Nat), Nw V0 V (.slice a n c) → RB V (.slice a n c) (Larder.headB b ++ Larder.bigN 8 (Larder.sumOf (Larder.headB b)).toNat ++ b) → Calls Try.prog 43 #[.slice a n c, .int .u64 ((Larder.sumOf b).toNat : Nat)] V (WEnd V0 V (.slice a n c) (Larder.headB b ++ Larder.bigN 8 (Larder.sumOf (Larder.headB b)).toNat ++ b ++ Larder.bigN 8 (Larder.sumOf b).toNat))) := hide (fun V0 V a n c h1 h2 => w64 V0 V _ _ _ (BitVec.isLt _) h1 h2 (by rw [List.length_append, List.length_append, Larder.bigN_len]; omega))
  clear hE hg hgn hb hnew hbb hbs
  unfold WEnd at C42 D1 D2 D3
  unfold REnd
  go_enter Try.func31, Try.ntmps31
  go_wp2_with (first
    | (go_at_call 44; refine (wsum w6 ab nb cb b ((unhide kb).2.1.below (unhide N6).bel) (unhide HBS) (by omega)).mono ?_; rintro e w7 ⟨rfl, k7⟩)
    | (go_at_call 43; refine ((unhide D3) w2 w7 a6 _ c6 ((unhide N6).on (unhide k7)) ((unhide R6).below (unhide k7))).mono ?_; rintro e w8 ⟨a8, n8, c8, rfl, e8, k8⟩; replace e8 := hide e8; have H8 := hide ((Below.refl w8.heap.size w8).alloc (Nat.le_refl _) (.cells #[.int .u8 85] 5)); have R8 : Hid (Rws w8 5 1 (.slice a8 n8 c8) n8 (fun j => .int .u8 ((Larder.headB b ++ Larder.bigN 8 (Larder.sumOf (Larder.headB b)).toNat ++ b ++ Larder.bigN 8 (Larder.sumOf b).toNat).getD j 0 : Nat))) := hide (by have := (unhide k8).2.1; unfold RB at this; rw [← unhide e8] at this; exact this); have l8 : n8 ≤ 50000000 := (by have := unhide e8; rw [List.length_append, List.length_append, List.length_append, Larder.bigN_len, Larder.bigN_len] at this; omega))
    | (at_builtin; refine append_gen rfl _ _ 27 rfl 5 i0 _ 1 1 Try.underlying27 hi0 hz0 hz1 hz2 rfl (.slice a8 n8 c8) n8 _ rfl ((unhide R8).below (unhide H8)) (some ⟨w8.heap.size, 0, none⟩) 1 1 rfl [.int .u8 (85 : Nat)] rfl (by simp) (new_cells w8 [.int .u8 (85 : Nat)] 5) (by simp [Value.oneCell']) (by omega) (by unfold maxLen; omega) ?_; intro v9 w9 h9 k9; obtain ⟨a9, c9, rfl⟩ := h9.shape; have N9 := hide (((unhide k8).1.on (unhide H8)).ga k9); have R9 := hide (RB.snoc (unhide e8) h9); clear h9 k9; go_frame)
    | (at_builtin; refine append_gen rfl _ _ 27 rfl 5 i0 _ 1 1 Try.underlying27 hi0 hz0 hz1 hz2 rfl (.slice a5 n5 c5) n5 _ rfl (unhide R5) ab nb cb rfl (cellsB b) (by rw [cellsB_len, unhide eb]; omega) (unhide NIL) (bytes_news (unhide B5)) (cellsB_one b) (by omega) (by unfold maxLen; omega) ?_; intro v6 w6 h6 k6; obtain ⟨a6, c6, rfl⟩ := h6.shape; have N6 := hide ((unhide k5).1.ga k6); have R6 : Hid (RB w6 (.slice a6 (n5 + nb) c6) (Larder.headB b ++ Larder.bigN 8 (Larder.sumOf (Larder.headB b)).toNat ++ b)) := hide (RB.app (unhide e5) (by rw [← unhide eb]; exact h6)); clear h6 k6; go_frame)
    | (go_at_call 43; refine ((unhide D2) w2 w4 a3 n3 c3 ((unhide k3).1.on (unhide k4)) ((unhide k3).2.1.below (unhide k4))).mono ?_; rintro e w5 ⟨a5, n5, c5, rfl, e5, k5⟩; replace e5 := hide e5; have R5 : Hid (Rws w5 5 1 (.slice a5 n5 c5) n5 (fun j => .int .u8 ((Larder.headB b ++ Larder.bigN 8 (Larder.sumOf (Larder.headB b)).toNat).getD j 0 : Nat))) := hide (by have := (unhide k5).2.1; unfold RB at this; rw [← unhide e5] at this; exact this); have l5 : n5 ≤ 100 := (by have := unhide e5; rw [List.length_append, Larder.bigN_len] at this; omega); have B5 := hide ((unhide kb).2.1.bytes.1.below' (unhide k5).1.bel); have NIL : Hid (ab = none → nb = 0) := hide (fun e => (unhide eb).trans ((unhide kb).2.1.nil e)))
    | (go_at_call 44; refine (wsum w3 a3 n3 c3 (Larder.headB b) (unhide k3).2.1 (unhide HS1) (by omega)).mono ?_; rintro e w4 ⟨rfl, k4⟩)
    | (go_at_call 43; refine ((unhide D1) w2 nb (unhide eb)).mono ?_; rintro e w3 ⟨a3, n3, c3, rfl, e3, k3⟩; replace e3 := hide e3)
    | (go_at_call 42; refine C42.mono ?_; clear C42; rintro e w2 ⟨ab, nb, cb, rfl, eb, kb⟩; replace eb := hide eb; have nbl : nb ≤ 40000000 := (by rw [unhide eb]; exact hbl); have qb := q1 nb nbl))
  go_ret
  have HL := congrArg List.length (unhide HF)
  refine ⟨a9, n8 + 1, c9, rfl, ?_, hide ⟨⟨(unhide kb).1.bel.trans ((unhide N9).bel.mono (unhide kb).1.bel.size), fun g hg => Nat.le_trans (unhide kb).1.bel.size ((unhide N9).own g hg)⟩, ?_⟩⟩
  · rw [HL, unhide e8]
    simp only [List.length_append, List.length_singleton, List.length_cons, List.length_nil]
    omega
  · rw [unhide HF]
    have := unhide R9
    simp only [List.append_assoc] at this
    exact this
end Go.Proofs.Ytljeedgnjgeopaa
