/- plays: one step on a side. -/
import Derived.Test.YtfebiemfmiahhabPa
import Derived.Deep.RegionHeld3
namespace Go.Proofs.Ytfebiemfmiahhab
open Go.ChangeShapes Go.WideShapes Go.ChangeAt Go.RowKit Go.Maps
set_option linter.unusedVariables false
set_option linter.unusedSimpArgs false
set_option maxRecDepth 100000
set_option maxHeartbeats 8000000
section
variable {w0 w : World} {P Q : Nat → Prop} {ps p r T : Nat} {E : List En} {o : Ol} {j : Nat}
theorem s_start {L : List Wt} (hj : Hid (j = o.pl.length)) (ok : OlOk w0 o) (h : Sd w0 P Q w ps p r T E L) {w1 : World} (hw : w.alloc (.cells #[.int .i64 o.on, .int .i64 o.act, .int .i64 o.conn, .int .i64 o.kind, .slice o.a j o.cap, .int .u64 (o.time : Nat)] 41) = w1) : Sp w0 w (fun b => P b ∨ Q b) P Q w1 ps p r T E L w.heap.size o := by
  subst hw
  have hb := (Below.refl w.heap.size w).alloc (Nat.le_refl _) (.cells #[.int .i64 o.on, .int .i64 o.act, .int .i64 o.conn, .int .i64 o.kind, .slice o.a j o.cap, .int .u64 (o.time : Nat)] 41)
  refine ⟨h.below hb, ?_, fun z => by have := h.wa.lt _ z; omega, fun z => by have := h.ra.lt _ z; omega, ok, Fr.of hb, fun b z => .inl z⟩
  unfold OpBk opC
  rw [← unhide hj]
  exact heap_alloc_new _ _
theorem s_two {L : List Wt} (h : Sd w0 P Q w ps p r T E L) (hL : L = E.map (·.x)) : L = E.map (·.x) ∧ (L.map (·.conn)).Nodup := by
  subst hL
  obtain ⟨bw, bl, q⟩ := h.wa.ex
  exact ⟨rfl, by rw [List.map_map]; exact q.nd⟩
theorem plays_1 (hj : Hid (j = o.pl.length)) (hT : T < 1099511627776) (ok : OlOk w0 o) (h : Sd w0 P Q w ps p r T E (E.map (·.x))) (hk : o.act = 1) :
    Calls Try.prog 10 #[.pointer (some ⟨ps, 0, none⟩), .agg #[.int .i64 o.on, .int .i64 o.act, .int .i64 o.conn, .int .i64 o.kind, .slice o.a j o.cap, .int .u64 (o.time : Nat)]] w fun e w' => e = .returned (.bool true) ∧ Hid (PlEnd w0 w w' (fun b => P b ∨ Q b) ps p r T) := by
  obtain ⟨w1, hw1⟩ : ∃ w1, w.alloc (.cells #[.int .i64 o.on, .int .i64 o.act, .int .i64 o.conn, .int .i64 o.kind, .slice o.a j o.cap, .int .u64 (o.time : Nat)] 41) = w1 := ⟨_, rfl⟩
  obtain ⟨L, hL⟩ : ∃ L, L = E.map (·.x) := ⟨_, rfl⟩
  rw [← hL] at h
  have HS := hide (s_start hj ok h hw1)
  have HL := hide (s_two h hL)
  have HE := hide hL
  have HJ := hj
  have HT := hide hT
  obtain ⟨x0, x1, x2, x3, x4, x5, x6, x7⟩ := Sp.cs (unhide HS) HJ
  have f1 : (o.act == 1) = true := by rw [hk]; rfl
  clear h hk hT hj ok hL
  go_enter Try.func10, Try.ntmps10
  go_wp2_with fail
  go_region_held3 (fun W => W.cell? ⟨ps, 0, none⟩ = some (.pointer (some ⟨p, 0, none⟩)) ∧ W.cell? ⟨ps, 1, none⟩ = some (.pointer (some ⟨r, 0, none⟩)) ∧ W.cell? ⟨w.heap.size, 0, none⟩ = some (.int .i64 o.on) ∧ W.cell? ⟨w.heap.size, 1, none⟩ = some (.int .i64 o.act) ∧ W.cell? ⟨w.heap.size, 2, none⟩ = some (.int .i64 o.conn) ∧ W.cell? ⟨w.heap.size, 3, none⟩ = some (.int .i64 o.kind) ∧ W.cell? ⟨w.heap.size, 4, none⟩ = some (.slice o.a j o.cap) ∧ W.cell? ⟨w.heap.size, 5, none⟩ = some (.int .u64 (o.time : Nat))) (go_keep) (first | (go_at_call 29; refine (s_twin HJ (hide (unhide HS).drew)).mono ?_; rintro e w2 ⟨a2, cap2, rfl, x0, x1, x2, x3, x4, x5, x6, x7, HS2⟩) | (go_at_call 11; refine (s_block HJ HT HS2).mono ?_; rintro e w3 ⟨rv, rfl, x0, x1, x2, x3, x4, x5, x6, x7, HS3⟩))
  all_goals go_wp2_with fail
  all_goals go_region_held3 (fun W => W.cell? ⟨ps, 0, none⟩ = some (.pointer (some ⟨p, 0, none⟩)) ∧ W.cell? ⟨ps, 1, none⟩ = some (.pointer (some ⟨r, 0, none⟩)) ∧ W.cell? ⟨w.heap.size, 0, none⟩ = some (.int .i64 o.on) ∧ W.cell? ⟨w.heap.size, 1, none⟩ = some (.int .i64 o.act) ∧ W.cell? ⟨w.heap.size, 2, none⟩ = some (.int .i64 o.conn) ∧ W.cell? ⟨w.heap.size, 3, none⟩ = some (.int .i64 o.kind) ∧ W.cell? ⟨w.heap.size, 4, none⟩ = some (.slice o.a j o.cap) ∧ W.cell? ⟨w.heap.size, 5, none⟩ = some (.int .u64 (o.time : Nat))) (go_keep) (first | (go_at_call 13; refine (s_rblock HJ HE (hide (by obtain ⟨z0, P9, T9, E9, z1, z2⟩ := unhide HS3; exact ⟨z0, P9, T9, E9, z1.drew, z2⟩))).mono ?_; rintro e w4 ⟨rfl, x0, x1, x2, x3, x4, x5, x6, x7, HZ⟩))
  all_goals go_wp2_with fail
  all_goals go_ret
  all_goals exact ⟨by simp, HZ⟩
theorem plays_2 (hj : Hid (j = o.pl.length)) (hT : T < 1099511627776) (ok : OlOk w0 o) (h : Sd w0 P Q w ps p r T E (E.map (·.x))) (hk : o.act = 2) :
    Calls Try.prog 10 #[.pointer (some ⟨ps, 0, none⟩), .agg #[.int .i64 o.on, .int .i64 o.act, .int .i64 o.conn, .int .i64 o.kind, .slice o.a j o.cap, .int .u64 (o.time : Nat)]] w fun e w' => e = .returned (.bool true) ∧ Hid (PlEnd w0 w w' (fun b => P b ∨ Q b) ps p r T) := by
  obtain ⟨w1, hw1⟩ : ∃ w1, w.alloc (.cells #[.int .i64 o.on, .int .i64 o.act, .int .i64 o.conn, .int .i64 o.kind, .slice o.a j o.cap, .int .u64 (o.time : Nat)] 41) = w1 := ⟨_, rfl⟩
  obtain ⟨L, hL⟩ : ∃ L, L = E.map (·.x) := ⟨_, rfl⟩
  rw [← hL] at h
  have HS := hide (s_start hj ok h hw1)
  have HL := hide (s_two h hL)
  have HE := hide hL
  have HJ := hj
  have HT := hide hT
  obtain ⟨x0, x1, x2, x3, x4, x5, x6, x7⟩ := Sp.cs (unhide HS) HJ
  have f1 : (o.act == 1) = false := by rw [hk]; rfl
  have f2 : (o.act == 2) = true := by rw [hk]; rfl
  clear h hk hT hj ok hL
  go_enter Try.func10, Try.ntmps10
  go_wp2_with fail
  go_region_held3 (fun W => W.cell? ⟨ps, 0, none⟩ = some (.pointer (some ⟨p, 0, none⟩)) ∧ W.cell? ⟨ps, 1, none⟩ = some (.pointer (some ⟨r, 0, none⟩)) ∧ W.cell? ⟨w.heap.size, 0, none⟩ = some (.int .i64 o.on) ∧ W.cell? ⟨w.heap.size, 1, none⟩ = some (.int .i64 o.act) ∧ W.cell? ⟨w.heap.size, 2, none⟩ = some (.int .i64 o.conn) ∧ W.cell? ⟨w.heap.size, 3, none⟩ = some (.int .i64 o.kind) ∧ W.cell? ⟨w.heap.size, 4, none⟩ = some (.slice o.a j o.cap) ∧ W.cell? ⟨w.heap.size, 5, none⟩ = some (.int .u64 (o.time : Nat))) (go_keep) (first | (go_at_call 30; refine (s_release HJ (hide (unhide HS).drew)).mono ?_; rintro e w2 ⟨wt, rfl, x0, x1, x2, x3, x4, x5, x6, x7, HS2⟩))
  all_goals go_wp2_with fail
  all_goals go_region_held3 (fun W => W.cell? ⟨ps, 0, none⟩ = some (.pointer (some ⟨p, 0, none⟩)) ∧ W.cell? ⟨ps, 1, none⟩ = some (.pointer (some ⟨r, 0, none⟩)) ∧ W.cell? ⟨w.heap.size, 0, none⟩ = some (.int .i64 o.on) ∧ W.cell? ⟨w.heap.size, 1, none⟩ = some (.int .i64 o.act) ∧ W.cell? ⟨w.heap.size, 2, none⟩ = some (.int .i64 o.conn) ∧ W.cell? ⟨w.heap.size, 3, none⟩ = some (.int .i64 o.kind) ∧ W.cell? ⟨w.heap.size, 4, none⟩ = some (.slice o.a j o.cap) ∧ W.cell? ⟨w.heap.size, 5, none⟩ = some (.int .u64 (o.time : Nat))) (go_keep) (first | (go_at_call 31; refine (s_rrelease HJ HL (hide (by obtain ⟨z0, P9, z1⟩ := unhide HS2; exact ⟨z0, P9, z1.drew⟩))).mono ?_; rintro e w4 ⟨rfl, x0, x1, x2, x3, x4, x5, x6, x7, HZ⟩))
  all_goals go_wp2_with fail
  all_goals go_ret
  all_goals exact ⟨by simp, HZ⟩
theorem plays_3 (hj : Hid (j = o.pl.length)) (hT : T < 1099511627776) (ok : OlOk w0 o) (h : Sd w0 P Q w ps p r T E (E.map (·.x))) (hk : o.act = 3) :
    Calls Try.prog 10 #[.pointer (some ⟨ps, 0, none⟩), .agg #[.int .i64 o.on, .int .i64 o.act, .int .i64 o.conn, .int .i64 o.kind, .slice o.a j o.cap, .int .u64 (o.time : Nat)]] w fun e w' => e = .returned (.bool true) ∧ Hid (PlEnd w0 w w' (fun b => P b ∨ Q b) ps p r T) := by
  obtain ⟨w1, hw1⟩ : ∃ w1, w.alloc (.cells #[.int .i64 o.on, .int .i64 o.act, .int .i64 o.conn, .int .i64 o.kind, .slice o.a j o.cap, .int .u64 (o.time : Nat)] 41) = w1 := ⟨_, rfl⟩
  obtain ⟨L, hL⟩ : ∃ L, L = E.map (·.x) := ⟨_, rfl⟩
  rw [← hL] at h
  have HS := hide (s_start hj ok h hw1)
  have HL := hide (s_two h hL)
  have HE := hide hL
  have HJ := hj
  have HT := hide hT
  obtain ⟨x0, x1, x2, x3, x4, x5, x6, x7⟩ := Sp.cs (unhide HS) HJ
  have f1 : (o.act == 1) = false := by rw [hk]; rfl
  have f2 : (o.act == 2) = false := by rw [hk]; rfl
  have f3 : (o.act == 3) = true := by rw [hk]; rfl
  clear h hk hT hj ok hL
  go_enter Try.func10, Try.ntmps10
  go_wp2_with fail
  go_region_held3 (fun W => W.cell? ⟨ps, 0, none⟩ = some (.pointer (some ⟨p, 0, none⟩)) ∧ W.cell? ⟨ps, 1, none⟩ = some (.pointer (some ⟨r, 0, none⟩)) ∧ W.cell? ⟨w.heap.size, 0, none⟩ = some (.int .i64 o.on) ∧ W.cell? ⟨w.heap.size, 1, none⟩ = some (.int .i64 o.act) ∧ W.cell? ⟨w.heap.size, 2, none⟩ = some (.int .i64 o.conn) ∧ W.cell? ⟨w.heap.size, 3, none⟩ = some (.int .i64 o.kind) ∧ W.cell? ⟨w.heap.size, 4, none⟩ = some (.slice o.a j o.cap) ∧ W.cell? ⟨w.heap.size, 5, none⟩ = some (.int .u64 (o.time : Nat))) (go_keep) (first | (go_at_call 32; refine (s_place HJ (hide (unhide HS).drew)).mono ?_; rintro e w2 ⟨rfl, x0, x1, x2, x3, x4, x5, x6, x7, HS2⟩) | (go_at_call 12; refine (s_next HJ HS2).mono ?_; rintro e w3 ⟨nv, nb, rfl, x0, x1, x2, x3, x4, x5, x6, x7, HV, HS3⟩))
  all_goals go_wp2_with fail
  all_goals go_region_held3 (fun W => W.cell? ⟨ps, 0, none⟩ = some (.pointer (some ⟨p, 0, none⟩)) ∧ W.cell? ⟨ps, 1, none⟩ = some (.pointer (some ⟨r, 0, none⟩)) ∧ W.cell? ⟨w.heap.size, 0, none⟩ = some (.int .i64 o.on) ∧ W.cell? ⟨w.heap.size, 1, none⟩ = some (.int .i64 o.act) ∧ W.cell? ⟨w.heap.size, 2, none⟩ = some (.int .i64 o.conn) ∧ W.cell? ⟨w.heap.size, 3, none⟩ = some (.int .i64 o.kind) ∧ W.cell? ⟨w.heap.size, 4, none⟩ = some (.slice o.a j o.cap) ∧ W.cell? ⟨w.heap.size, 5, none⟩ = some (.int .u64 (o.time : Nat))) (go_keep) (first | (go_at_call 32; refine (s_place HJ (hide (unhide HS3).drew)).mono ?_; rintro e w5 ⟨rfl, x0, x1, x2, x3, x4, x5, x6, x7, HS5⟩) | (go_at_call 33; refine (s_rnext HJ HL HV HS5).mono ?_; rintro e w4 ⟨rfl, x0, x1, x2, x3, x4, x5, x6, x7, HZ⟩))
  all_goals go_wp2_with fail
  all_goals go_ret
  all_goals exact ⟨by simp, HZ⟩
theorem plays_4 (hj : Hid (j = o.pl.length)) (hT : T < 1099511627776) (ok : OlOk w0 o) (h : Sd w0 P Q w ps p r T E (E.map (·.x))) (hk : o.act = 4) :
    Calls Try.prog 10 #[.pointer (some ⟨ps, 0, none⟩), .agg #[.int .i64 o.on, .int .i64 o.act, .int .i64 o.conn, .int .i64 o.kind, .slice o.a j o.cap, .int .u64 (o.time : Nat)]] w fun e w' => e = .returned (.bool true) ∧ Hid (PlEnd w0 w w' (fun b => P b ∨ Q b) ps p r T) := by
  obtain ⟨w1, hw1⟩ : ∃ w1, w.alloc (.cells #[.int .i64 o.on, .int .i64 o.act, .int .i64 o.conn, .int .i64 o.kind, .slice o.a j o.cap, .int .u64 (o.time : Nat)] 41) = w1 := ⟨_, rfl⟩
  obtain ⟨L, hL⟩ : ∃ L, L = E.map (·.x) := ⟨_, rfl⟩
  rw [← hL] at h
  have HS := hide (s_start hj ok h hw1)
  have HL := hide (s_two h hL)
  have HE := hide hL
  have HJ := hj
  have HT := hide hT
  obtain ⟨x0, x1, x2, x3, x4, x5, x6, x7⟩ := Sp.cs (unhide HS) HJ
  have f1 : (o.act == 1) = false := by rw [hk]; rfl
  have f2 : (o.act == 2) = false := by rw [hk]; rfl
  have f3 : (o.act == 3) = false := by rw [hk]; rfl
  have f4 : (o.act == 4) = true := by rw [hk]; rfl
  clear h hk hT hj ok hL
  go_enter Try.func10, Try.ntmps10
  go_wp2_with fail
  go_region_held3 (fun W => W.cell? ⟨ps, 0, none⟩ = some (.pointer (some ⟨p, 0, none⟩)) ∧ W.cell? ⟨ps, 1, none⟩ = some (.pointer (some ⟨r, 0, none⟩)) ∧ W.cell? ⟨w.heap.size, 0, none⟩ = some (.int .i64 o.on) ∧ W.cell? ⟨w.heap.size, 1, none⟩ = some (.int .i64 o.act) ∧ W.cell? ⟨w.heap.size, 2, none⟩ = some (.int .i64 o.conn) ∧ W.cell? ⟨w.heap.size, 3, none⟩ = some (.int .i64 o.kind) ∧ W.cell? ⟨w.heap.size, 4, none⟩ = some (.slice o.a j o.cap) ∧ W.cell? ⟨w.heap.size, 5, none⟩ = some (.int .u64 (o.time : Nat))) (go_keep) (first | (go_at_call 16; refine (s_due HJ (hide (unhide HS).drew)).mono ?_; rintro e w2 ⟨g2, n2, rfl, x0, x1, x2, x3, x4, x5, x6, x7, HV, HS2⟩) | (go_at_call 20; refine (s_rdue HJ HL HV HS2).mono ?_; rintro e w3 ⟨a3, cap3, rfl, x0, x1, x2, x3, x4, x5, x6, x7, HV3, HS3⟩) | (go_at_call 19; refine (s_ints HV3 HJ HE HS3).mono ?_; rintro e w4 ⟨rfl, x0, x1, x2, x3, x4, x5, x6, x7, HZ⟩))
  all_goals go_wp2_with fail
  all_goals go_ret
  all_goals exact ⟨by simp, HZ⟩
theorem plays_5 (hj : Hid (j = o.pl.length)) (hT : T < 1099511627776) (ok : OlOk w0 o) (h : Sd w0 P Q w ps p r T E (E.map (·.x))) (hk : o.act = 5) :
    Calls Try.prog 10 #[.pointer (some ⟨ps, 0, none⟩), .agg #[.int .i64 o.on, .int .i64 o.act, .int .i64 o.conn, .int .i64 o.kind, .slice o.a j o.cap, .int .u64 (o.time : Nat)]] w fun e w' => e = .returned (.bool true) ∧ Hid (PlEnd w0 w w' (fun b => P b ∨ Q b) ps p r T) := by
  obtain ⟨w1, hw1⟩ : ∃ w1, w.alloc (.cells #[.int .i64 o.on, .int .i64 o.act, .int .i64 o.conn, .int .i64 o.kind, .slice o.a j o.cap, .int .u64 (o.time : Nat)] 41) = w1 := ⟨_, rfl⟩
  obtain ⟨L, hL⟩ : ∃ L, L = E.map (·.x) := ⟨_, rfl⟩
  rw [← hL] at h
  have HS := hide (s_start hj ok h hw1)
  have HL := hide (s_two h hL)
  have HE := hide hL
  have HJ := hj
  have HT := hide hT
  obtain ⟨x0, x1, x2, x3, x4, x5, x6, x7⟩ := Sp.cs (unhide HS) HJ
  have f1 : (o.act == 1) = false := by rw [hk]; rfl
  have f2 : (o.act == 2) = false := by rw [hk]; rfl
  have f3 : (o.act == 3) = false := by rw [hk]; rfl
  have f4 : (o.act == 4) = false := by rw [hk]; rfl
  have f5 : (o.act == 5) = true := by rw [hk]; rfl
  clear h hk hT hj ok hL
  go_enter Try.func10, Try.ntmps10
  go_wp2_with fail
  go_region_held3 (fun W => W.cell? ⟨ps, 0, none⟩ = some (.pointer (some ⟨p, 0, none⟩)) ∧ W.cell? ⟨ps, 1, none⟩ = some (.pointer (some ⟨r, 0, none⟩)) ∧ W.cell? ⟨w.heap.size, 0, none⟩ = some (.int .i64 o.on) ∧ W.cell? ⟨w.heap.size, 1, none⟩ = some (.int .i64 o.act) ∧ W.cell? ⟨w.heap.size, 2, none⟩ = some (.int .i64 o.conn) ∧ W.cell? ⟨w.heap.size, 3, none⟩ = some (.int .i64 o.kind) ∧ W.cell? ⟨w.heap.size, 4, none⟩ = some (.slice o.a j o.cap) ∧ W.cell? ⟨w.heap.size, 5, none⟩ = some (.int .u64 (o.time : Nat))) (go_keep) (first | (go_at_call 34; refine (s_until HJ (hide (unhide HS).drew)).mono ?_; rintro e w2 ⟨nv, nb, rfl, x0, x1, x2, x3, x4, x5, x6, x7, HV, HS2⟩))
  all_goals go_wp2_with fail
  all_goals go_region_held3 (fun W => W.cell? ⟨ps, 0, none⟩ = some (.pointer (some ⟨p, 0, none⟩)) ∧ W.cell? ⟨ps, 1, none⟩ = some (.pointer (some ⟨r, 0, none⟩)) ∧ W.cell? ⟨w.heap.size, 0, none⟩ = some (.int .i64 o.on) ∧ W.cell? ⟨w.heap.size, 1, none⟩ = some (.int .i64 o.act) ∧ W.cell? ⟨w.heap.size, 2, none⟩ = some (.int .i64 o.conn) ∧ W.cell? ⟨w.heap.size, 3, none⟩ = some (.int .i64 o.kind) ∧ W.cell? ⟨w.heap.size, 4, none⟩ = some (.slice o.a j o.cap) ∧ W.cell? ⟨w.heap.size, 5, none⟩ = some (.int .u64 (o.time : Nat))) (go_keep) (first | (go_at_call 35; refine (s_runtil HJ HL HV (hide (unhide HS2).drew)).mono ?_; rintro e w4 ⟨rfl, x0, x1, x2, x3, x4, x5, x6, x7, HZ⟩))
  all_goals go_wp2_with fail
  all_goals go_ret
  all_goals exact ⟨by simp, HZ⟩
theorem plays_6 (hj : Hid (j = o.pl.length)) (hT : T < 1099511627776) (ok : OlOk w0 o) (h : Sd w0 P Q w ps p r T E (E.map (·.x))) (hk : o.act = 6) :
    Calls Try.prog 10 #[.pointer (some ⟨ps, 0, none⟩), .agg #[.int .i64 o.on, .int .i64 o.act, .int .i64 o.conn, .int .i64 o.kind, .slice o.a j o.cap, .int .u64 (o.time : Nat)]] w fun e w' => e = .returned (.bool true) ∧ Hid (PlEnd w0 w w' (fun b => P b ∨ Q b) ps p r T) := by
  obtain ⟨w1, hw1⟩ : ∃ w1, w.alloc (.cells #[.int .i64 o.on, .int .i64 o.act, .int .i64 o.conn, .int .i64 o.kind, .slice o.a j o.cap, .int .u64 (o.time : Nat)] 41) = w1 := ⟨_, rfl⟩
  obtain ⟨L, hL⟩ : ∃ L, L = E.map (·.x) := ⟨_, rfl⟩
  rw [← hL] at h
  have HS := hide (s_start hj ok h hw1)
  have HL := hide (s_two h hL)
  have HE := hide hL
  have HJ := hj
  have HT := hide hT
  obtain ⟨x0, x1, x2, x3, x4, x5, x6, x7⟩ := Sp.cs (unhide HS) HJ
  have f1 : (o.act == 1) = false := by rw [hk]; rfl
  have f2 : (o.act == 2) = false := by rw [hk]; rfl
  have f3 : (o.act == 3) = false := by rw [hk]; rfl
  have f4 : (o.act == 4) = false := by rw [hk]; rfl
  have f5 : (o.act == 5) = false := by rw [hk]; rfl
  have f6 : (o.act == 6) = true := by rw [hk]; rfl
  clear h hk hT hj ok hL
  go_enter Try.func10, Try.ntmps10
  go_wp2_with fail
  go_region_held3 (fun W => W.cell? ⟨ps, 0, none⟩ = some (.pointer (some ⟨p, 0, none⟩)) ∧ W.cell? ⟨ps, 1, none⟩ = some (.pointer (some ⟨r, 0, none⟩)) ∧ W.cell? ⟨w.heap.size, 0, none⟩ = some (.int .i64 o.on) ∧ W.cell? ⟨w.heap.size, 1, none⟩ = some (.int .i64 o.act) ∧ W.cell? ⟨w.heap.size, 2, none⟩ = some (.int .i64 o.conn) ∧ W.cell? ⟨w.heap.size, 3, none⟩ = some (.int .i64 o.kind) ∧ W.cell? ⟨w.heap.size, 4, none⟩ = some (.slice o.a j o.cap) ∧ W.cell? ⟨w.heap.size, 5, none⟩ = some (.int .u64 (o.time : Nat))) (go_keep) (first | (go_at_call 15; refine (s_places HJ (hide (unhide HS).drew)).mono ?_; rintro e w2 ⟨g2, n2, rfl, x0, x1, x2, x3, x4, x5, x6, x7, HV, HS2⟩) | (go_at_call 18; refine (s_rplaces HJ HL HV HS2).mono ?_; rintro e w3 ⟨a3, cap3, rfl, x0, x1, x2, x3, x4, x5, x6, x7, HV3, HS3⟩) | (go_at_call 14; refine (s_same HV3 HJ HE HS3).mono ?_; rintro e w4 ⟨rfl, x0, x1, x2, x3, x4, x5, x6, x7, HZ⟩))
  all_goals go_wp2_with fail
  all_goals go_ret
  all_goals exact ⟨by simp, HZ⟩
theorem plays_7 (hj : Hid (j = o.pl.length)) (hT : T < 1099511627776) (ok : OlOk w0 o) (h : Sd w0 P Q w ps p r T E (E.map (·.x))) (hk : o.act = 7) :
    Calls Try.prog 10 #[.pointer (some ⟨ps, 0, none⟩), .agg #[.int .i64 o.on, .int .i64 o.act, .int .i64 o.conn, .int .i64 o.kind, .slice o.a j o.cap, .int .u64 (o.time : Nat)]] w fun e w' => e = .returned (.bool true) ∧ Hid (PlEnd w0 w w' (fun b => P b ∨ Q b) ps p r T) := by
  obtain ⟨w1, hw1⟩ : ∃ w1, w.alloc (.cells #[.int .i64 o.on, .int .i64 o.act, .int .i64 o.conn, .int .i64 o.kind, .slice o.a j o.cap, .int .u64 (o.time : Nat)] 41) = w1 := ⟨_, rfl⟩
  obtain ⟨L, hL⟩ : ∃ L, L = E.map (·.x) := ⟨_, rfl⟩
  rw [← hL] at h
  have HS := hide (s_start hj ok h hw1)
  have HL := hide (s_two h hL)
  have HE := hide hL
  have HJ := hj
  have HT := hide hT
  obtain ⟨x0, x1, x2, x3, x4, x5, x6, x7⟩ := Sp.cs (unhide HS) HJ
  have f1 : (o.act == 1) = false := by rw [hk]; rfl
  have f2 : (o.act == 2) = false := by rw [hk]; rfl
  have f3 : (o.act == 3) = false := by rw [hk]; rfl
  have f4 : (o.act == 4) = false := by rw [hk]; rfl
  have f5 : (o.act == 5) = false := by rw [hk]; rfl
  have f6 : (o.act == 6) = false := by rw [hk]; rfl
  have f7 : (o.act == 7) = true := by rw [hk]; rfl
  clear h hk hT hj ok hL
  go_enter Try.func10, Try.ntmps10
  go_wp2_with fail
  go_region_held3 (fun W => W.cell? ⟨ps, 0, none⟩ = some (.pointer (some ⟨p, 0, none⟩)) ∧ W.cell? ⟨ps, 1, none⟩ = some (.pointer (some ⟨r, 0, none⟩)) ∧ W.cell? ⟨w.heap.size, 0, none⟩ = some (.int .i64 o.on) ∧ W.cell? ⟨w.heap.size, 1, none⟩ = some (.int .i64 o.act) ∧ W.cell? ⟨w.heap.size, 2, none⟩ = some (.int .i64 o.conn) ∧ W.cell? ⟨w.heap.size, 3, none⟩ = some (.int .i64 o.kind) ∧ W.cell? ⟨w.heap.size, 4, none⟩ = some (.slice o.a j o.cap) ∧ W.cell? ⟨w.heap.size, 5, none⟩ = some (.int .u64 (o.time : Nat))) (go_keep) (first | (go_at_call 17; refine (s_waiting HJ (hide (unhide HS).drew)).mono ?_; rintro e w2 ⟨g2, n2, rfl, x0, x1, x2, x3, x4, x5, x6, x7, HV, HS2⟩) | (go_at_call 21; refine (s_rwaiting HJ HL HV HS2).mono ?_; rintro e w3 ⟨a3, cap3, rfl, x0, x1, x2, x3, x4, x5, x6, x7, HV3, HS3⟩) | (go_at_call 19; refine (s_ints HV3 HJ HE HS3).mono ?_; rintro e w4 ⟨rfl, x0, x1, x2, x3, x4, x5, x6, x7, HZ⟩))
  all_goals go_wp2_with fail
  all_goals go_ret
  all_goals exact ⟨by simp, HZ⟩
theorem plays_0 (hj : Hid (j = o.pl.length)) (hT : T < 1099511627776) (ok : OlOk w0 o) (h : Sd w0 P Q w ps p r T E (E.map (·.x))) (hk : o.act < 1 ∨ 7 < o.act) :
    Calls Try.prog 10 #[.pointer (some ⟨ps, 0, none⟩), .agg #[.int .i64 o.on, .int .i64 o.act, .int .i64 o.conn, .int .i64 o.kind, .slice o.a j o.cap, .int .u64 (o.time : Nat)]] w fun e w' => e = .returned (.bool true) ∧ Hid (PlEnd w0 w w' (fun b => P b ∨ Q b) ps p r T) := by
  obtain ⟨w1, hw1⟩ : ∃ w1, w.alloc (.cells #[.int .i64 o.on, .int .i64 o.act, .int .i64 o.conn, .int .i64 o.kind, .slice o.a j o.cap, .int .u64 (o.time : Nat)] 41) = w1 := ⟨_, rfl⟩
  obtain ⟨L, hL⟩ : ∃ L, L = E.map (·.x) := ⟨_, rfl⟩
  rw [← hL] at h
  have HS := hide (s_start hj ok h hw1)
  have HL := hide (s_two h hL)
  have HE := hide hL
  have HJ := hj
  have HT := hide hT
  obtain ⟨x0, x1, x2, x3, x4, x5, x6, x7⟩ := Sp.cs (unhide HS) HJ
  have f1 : (o.act == 1) = false := by simp; omega
  have f2 : (o.act == 2) = false := by simp; omega
  have f3 : (o.act == 3) = false := by simp; omega
  have f4 : (o.act == 4) = false := by simp; omega
  have f5 : (o.act == 5) = false := by simp; omega
  have f6 : (o.act == 6) = false := by simp; omega
  have f7 : (o.act == 7) = false := by simp; omega
  clear h hk hT hj ok hL
  go_enter Try.func10, Try.ntmps10
  go_wp2_with fail
  go_ret
  rw [unhide HE] at HS
  refine ⟨rfl, hide ⟨P, Q, T, E, (unhide HS).sd, (unhide HS).fr, by omega, (unhide HS).sub⟩⟩
end
end Go.Proofs.Ytfebiemfmiahhab
