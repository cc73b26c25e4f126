/- PostHears: hears, ahead. -/
import Derived.Test.YtjmnddcombepaaaHpb
import Derived.Test.YtjmnddcombepaaaPoz
namespace Go.Proofs.Ytjmnddcombepaaa
open Go.ChangeShapes Go.WideShapes Go.ChangeAt Go.RowKit Go.Maps Go.Sort
set_option linter.unusedVariables false
set_option linter.unusedSimpArgs false
set_option maxRecDepth 100000
set_option maxHeartbeats 8000000
theorem bs_eq (T U : List UInt8) : ((bs T).toList == (bs U).toList) = decide (T = U) := by
  have e3 : ∀ T : List UInt8, (bs T).toList = T := fun T => by unfold bs; rw [ByteArray.toList_mk]
  rw [e3, e3]
  by_cases h : T = U
  · rw [h, beq_self_eq_true, decide_eq_true rfl]
  · rw [decide_eq_false h]; simpa using h
theorem glob_two (G : List UInt8 → List UInt8 → Bool) (hG : GlobIs G) (W : World) (a1 a2 : Option Addr) (c1 c2 : Nat) (P T : List UInt8) (hP : P.length ≤ 1073741824) (hT : T.length ≤ 140737488355328) (h1 : Bytes W a1 (nb P)) (h2 : Bytes W a2 (nb T)) :
    Calls Try.prog 22 #[.slice a1 P.length c1, .slice a2 T.length c2] W fun e w' => e = .returned (.bool (G P T)) ∧ Hid (Below W.heap.size W w') := by
  have h := glob_any a1 a2 c1 c2 W (nb P) (nb T) (by rw [nb_len]; exact hP) (by rw [nb_len]; exact hT) (nb_small P) (nb_small T) h1 h2
  rw [nb_len, nb_len] at h
  refine h.mono ?_
  rintro e w' ⟨r, rfl, hr, hb⟩
  have e1 : r = G P T := by rw [Bool.eq_iff_iff, hr, hG P T]
  exact ⟨by rw [e1], hide hb⟩
theorem hears_any (G : List UInt8 → List UInt8 → Bool) (hG : GlobIs G) (w : World) (x : Sv) (T : List UInt8) (hx : Named w x) (hl : x.1.2.1.length ≤ 4096) (hT : T.length ≤ 140737488355328) :
    Calls Try.prog 19 #[.agg #[.int .i64 x.1.1, .slice x.2.1 x.1.2.1.length x.2.2, .bool x.1.2.2], .string (bs T)] w fun e w' => e = .returned (.bool (heardB G T x.1)) ∧ Hid (Below w.heap.size w w') := by
  obtain ⟨⟨c, N, p⟩, a, cap⟩ := x
  simp only [Named] at hx hl ⊢
  have hb : Below w.heap.size w (w.alloc (.cells #[.int .i64 c, .slice a N.length cap, .bool p] 40)) := (Below.refl _ _).alloc (Nat.le_refl _) _
  have hx1 := hx.below hb
  cases p with
  | false =>
    have R1 := conv_back _ a cap N hx1
    have f1 := bs_eq N T
    have HB := hide hb
    have e0 : heardB G T (c, N, false) = decide (N = T) := by unfold heardB; simp
    rw [e0]
    generalize N.length = n at *
    generalize decide (N = T) = B at *
    clear hx hx1 hb e0
    go_enter Try.func19, Try.ntmps19
    go_wp2_with fail
    go_ret
    exact ⟨rfl, HB⟩
  | true =>
    have e0 : heardB G T (c, N, true) = G N T := by unfold heardB; simp
    rw [e0]
    have HX := hide hx1
    have y1 : (w.alloc (.cells #[.int .i64 c, .slice a N.length cap, .bool true] 40)).cell? ⟨w.heap.size, 1, none⟩ = some (.slice a N.length cap) := cell_blk (heap_alloc_new _ _) 1
    have y2 : (w.alloc (.cells #[.int .i64 c, .slice a N.length cap, .bool true] 40)).cell? ⟨w.heap.size, 2, none⟩ = some (.bool true) := cell_blk (heap_alloc_new _ _) 2
    have HB := hide hb
    obtain ⟨w1, hw1⟩ : ∃ w1, w.alloc (.cells #[.int .i64 c, .slice a N.length cap, .bool true] 40) = w1 := ⟨_, rfl⟩
    rw [hw1] at HX HB y1 y2
    obtain ⟨c1, w2, r1, k1⟩ := conv_txt w1 T
    have k2 := unhide k1
    have C22 := hide ((glob_two G hG w2 a (some ⟨w1.heap.size, 0, none⟩) cap c1 N T (by omega) hT ((unhide HX).below k2.2.1) (bytes_of (by rw [k2.2.2]; omega) k2.1)).mono (R' := fun e w' => e = .returned (.bool (G N T)) ∧ Hid (Below w.heap.size w w')) (fun e w' h => ⟨h.1, hide ((unhide HB).trans ((k2.2.1.trans ((unhide h.2).mono k2.2.1.size)).mono (unhide HB).size))⟩))
    generalize G N T = B at *
    generalize N.length = n at *
    generalize T.length = m at *
    clear hx hx1 hb e0 HX k1 k2
    go_enter Try.func19, Try.ntmps19
    go_wp2_with (go_at_call 22; refine (unhide C22).mono ?_; rintro e w3 ⟨rfl, k3⟩)
    go_ret
    exact ⟨rfl, k3⟩
theorem ahead_any (w : World) (x y : Hit) (h : ltH x y) :
    Calls Try.prog 20 #[.int .i64 x.1, .bool x.2.1, .string (bs x.2.2), .int .i64 y.1, .bool y.2.1, .string (bs y.2.2)] w fun e w' => e = .returned (.bool true) ∧ w' = w := by
  obtain ⟨c, p, N⟩ := x
  obtain ⟨c', p', N'⟩ := y
  have e3 : ∀ T : List UInt8, (bs T).toList = T := fun T => by unfold bs; rw [ByteArray.toList_mk]
  dsimp only
  rcases h with h | ⟨h0, h | ⟨h1, h2⟩⟩
  · have f1 : (c != c') = true := by dsimp only at h; simp; omega
    have f2 : decide (c < c') = true := decide_eq_true h
    clear h
    go_enter Try.func20, Try.ntmps20
    go_wp2
    go_ret
    exact ⟨rfl, rfl⟩
  · obtain ⟨h1, h2⟩ := h
    dsimp only at h0 h1 h2
    subst h0
    subst h1
    subst h2
    have f1 : (c != c) = false := bne_self_eq_false _
    go_enter Try.func20, Try.ntmps20
    go_wp2
    go_ret
    exact ⟨rfl, rfl⟩
  · dsimp only at h0 h1 h2
    subst h0
    subst h1
    have f1 : (c != c) = false := bne_self_eq_false _
    have f2 : (p != p) = false := bne_self_eq_false _
    have f3 : Op.bytesLess N N' = true := by rw [bytesLess_eq]; exact decide_eq_true h2
    clear h2
    go_enter Try.func20, Try.ntmps20
    go_wp2
    go_ret
    exact ⟨rfl, rfl⟩
end Go.Proofs.Ytjmnddcombepaaa
