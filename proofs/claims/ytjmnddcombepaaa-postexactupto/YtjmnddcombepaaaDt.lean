/- The book of PostExact: addHits. -/
import Derived.Test.YtjmnddcombepaaaDs
namespace Go.Proofs.Ytjmnddcombepaaa
open Go.ChangeShapes Go.WideShapes Go.ChangeAt Go.RowKit Go.Maps
set_option linter.unusedVariables false
set_option linter.unusedSimpArgs false
set_option maxRecDepth 100000
set_option maxHeartbeats 8000000
theorem info35 : (Try.prog.info? 35).map (fun i => (i.zero, i.size, i.bytes)) = some (some (.slice none 0 0), 1, 24) := by kernel_rfl
theorem info3' : (Try.prog.info? 3).map (fun i => (i.zero, i.size, i.bytes)) = some (some (.int .i64 0), 1, 8) := by kernel_rfl
theorem size45 : (Try.prog.info? 45).map (·.size) = some 3 := by kernel_rfl
theorem addhits_any (W : World) (X : Nat → Nat) (B0 bp : Nat) (D : BD) (a : Option Addr) (n cap : Nat) (f : Nat → Value) (h : BK W X B0 bp D) (hr : Rws W 45 3 (.slice a n cap) n f) (hx : ∀ g, (Value.slice a n cap).ownBlock = some g → X g = 9) (hn : n ≤ 800000) :
    Calls Try.prog 50 #[.pointer (some ⟨bp, 0, none⟩), .slice a n cap] W fun e w' => e = .returned (.tuple #[]) ∧ Hid (∃ X' D', BK w' X' B0 bp D' ∧ Cx (fun k => k = 1 ∨ k = 3 ∨ k = 5 ∨ k = 9) X W X' w') := by
  obtain ⟨na, hna⟩ : ∃ na, na = D.nh := ⟨_, rfl⟩
  have b0 : W.cell? ⟨bp, 1, none⟩ = some (.slice D.ha na D.hc) := by rw [hna]; exact cell_blk h.cell 1
  have hfa : na ≤ 1202 := by rw [hna]; exact h.fb
  have HH := hide h
  have HR := hide hr
  have HX := hide hx
  have HNA := hide hna
  obtain ⟨q, hq⟩ : ∃ q, q = na / 3 := ⟨_, rfl⟩
  have q1 : (na : Int).tdiv 3 = (q : Int) := by rw [Int.tdiv_eq_ediv_of_nonneg (by omega)]; omega
  have q2 : IntKind.i64.wrap (q : Int) = (q : Int) := by rw [IntKind.wrap_i64]; omega
  have hq4 : q ≤ 400 := by omega
  obtain ⟨mk, hmk⟩ : ∃ mk : Nat, mk = 1000 + na := ⟨_, rfl⟩
  have q3 : IntKind.i64.wrap (1000 + (na : Int)) = (mk : Int) := by rw [IntKind.wrap_i64]; omega
  have q4 : (1000 + (na : Int)) = (mk : Int) := by omega
  have HQ := hide hq
  have H45 := hide size45
  clear h hr hx hna hq hmk
  go_enter Try.func50, Try.ntmps50
  go_wp2_with fail
  clear b0
  go_loopw [5] (fun iv wr => ∃ i : Nat, iv = .int .i64 ((i : Nat) : Int) ∧ i ≤ n ∧ Hid (Rws wr 45 3 (.slice a n cap) n (fillF [.int .i64 (mk : Nat), .bool false, .string ⟨#[]⟩] f i) ∧ Fl [⟨.slice a n cap, n, [.int .i64 (mk : Nat), .bool false, .string ⟨#[]⟩]⟩] W wr)) (fun iv _ => n - (intOf iv).toNat)
  case atStart => exact ⟨0, rfl, Nat.zero_le _, hide ⟨fill_begin (unhide HR), Fl.refl _ _⟩⟩
  case round =>
    obtain ⟨i, rfl, hi, HO⟩ := hrel
    by_cases hin : i < n
    · have f1 : decide ((i : Int) < (n : Int)) = true := decide_eq_true (by omega)
      have f9 : decide (i < n) = true := decide_eq_true hin
      have g1 : (0 : Int) ≤ (i : Int) := by omega
      have g2 : (i : Int) < (n : Int) := by omega
      obtain ⟨z1, z3⟩ := unhide HO
      obtain ⟨g, cap', e, hown, hgl, -⟩ := z1.at (by omega)
      cases e
      obtain ⟨th, p1, p2⟩ := fill_put3 z1 hin
      have HN : Hid (Rws (wr.setCells g (i * 3) [.int .i64 (mk : Nat), .bool false, .string ⟨#[]⟩]) 45 3 (.slice (some ⟨g, 0, none⟩) n cap) n (fillF [.int .i64 (mk : Nat), .bool false, .string ⟨#[]⟩] f (i + 1)) ∧ Fl [⟨.slice (some ⟨g, 0, none⟩) n cap, n, [.int .i64 (mk : Nat), .bool false, .string ⟨#[]⟩]⟩] W (wr.setCells g (i * 3) [.int .i64 (mk : Nat), .bool false, .string ⟨#[]⟩])) := hide ⟨p1, z3.trans p2 (fun x hx => .inl hx)⟩
      have TH := hide th
      clear z1 z3 p1 p2 th hown hgl HO
      go_wp2_with (first
        | (refine wpList_store_mid rfl 45 (.tmp 25) (.tmp 24) rfl g (i * 3) #[.int .i64 (mk : Nat), .bool false, .string ⟨#[]⟩] rfl rfl (unhide TH) (unhide H45) (by simp [Value.oneCell']) ?_; generalize hw8 : World.setCells wr g (i * 3) _ = w8; have H8 : Hid _ := HN; rw [show wr.setCells g (i * 3) [.int .i64 (mk : Nat), .bool false, .string ⟨#[]⟩] = w8 from hw8] at H8; clear hw8 HN TH))
      exact ⟨⟨i + 1, congrArg (Value.int .i64) (by omega), by omega, H8⟩, by simp [intOf]; omega⟩
    · obtain rfl : i = n := by omega
      have f1 : decide ((i : Int) < (i : Int)) = false := decide_eq_false (by omega)
      have f9 : decide (i < i) = false := decide_eq_false (by omega)
      have HA0 : Hid (Ap W wr B0 45 3 ⟨.slice a i cap, i, [.int .i64 (mk : Nat), .bool false, .string ⟨#[]⟩]⟩ [⟨.slice a i cap, i, [.int .i64 (mk : Nat), .bool false, .string ⟨#[]⟩]⟩]) := hide (Ap.begin (by have := (unhide HH).lt bp (by rw [(unhide HH).xbp]; decide); omega) (fill_end (unhide HO).1 rfl) rfl (unhide HO).2 (fun g hg => ((unhide HH).lt g (by rw [(unhide HX) g hg]; decide)).2))
      have b0 : wr.cell? ⟨bp, 1, none⟩ = some (.slice D.ha na D.hc) := by
        obtain ⟨X', k1, -, -⟩ := (unhide HH).mark ((unhide HA0).sub (M := []) (fun x hx => by cases hx)) (unhide HX)
        rw [unhide HNA]; exact cell_blk k1.cell 1
      clear HO
      by_cases hq400 : 400 ≤ q
      · have e1 : decide ((400 : Int) ≤ (q : Int)) = true := decide_eq_true (by omega)
        have e2 : decide ((q : Int) ≥ 400) = true := decide_eq_true (by omega)
        have e3 : decide (400 ≤ q) = true := decide_eq_true hq400
        have e4 : decide (q ≥ 400) = true := decide_eq_true hq400
        go_wp2_with fail
        (try simp only [Exit.inBlock, Exit.then])
        refine bodyPost_ret (results_none rfl _ _ _) rfl ?_
        obtain ⟨X', k1, k2, -⟩ := (unhide HH).mark ((unhide HA0).sub (M := []) (fun x hx => by cases hx)) (unhide HX)
        exact ⟨rfl, hide ⟨X', D, k1, k2.mono (fun k hk => .inr (.inr (.inr hk)))⟩⟩
      · have e1 : decide ((400 : Int) ≤ (q : Int)) = false := decide_eq_false (by omega)
        have e2 : decide ((q : Int) ≥ 400) = false := decide_eq_false (by omega)
        have e3 : decide (400 ≤ q) = false := decide_eq_false hq400
        have e4 : decide (q ≥ 400) = false := decide_eq_false hq400
        have hna9 : na ≤ 1199 := by have := unhide HQ; omega
        obtain ⟨i0, hi0, hz0, hz1, hz2⟩ := info_parts info45
        have HAl := hide ((Below.refl wr.heap.size wr).alloc (Nat.le_refl _) (.cells #[.int .i64 (mk : Nat), .bool false, .string ⟨#[]⟩] 45))
        go_wp2_with (first
          | (at_builtin; refine append_rws rfl _ _ 35 rfl 45 i0 _ 3 32 Try.underlying35 hi0 hz0 hz1 hz2 rfl 45 (.slice a i cap) i (mkF [.int .i64 (mk : Nat), .bool false, .string ⟨#[]⟩]) rfl (((unhide HA0).kl.row _ (List.mem_singleton.2 rfl)).1.below (unhide HAl)) (.inl rfl) wr.heap.size 1 rfl [.int .i64 (mk : Nat), .bool false, .string ⟨#[]⟩] (by decide) rfl (made_cells wr [.int .i64 (mk : Nat), .bool false, .string ⟨#[]⟩] 45) (by simp [Value.oneCell']) (by omega) (by omega) ?_; intro v5 w5 h5 k5; obtain ⟨a5, c5, rfl⟩ := h5.shape; have A5 := hide ((unhide HA0).app (unhide HAl) (List.mem_singleton.2 rfl) rfl rfl h5 k5); clear h5 k5; go_frame))
        have A6 : Hid (Ap W w5 B0 45 3 ⟨.slice a i cap, i, [.int .i64 (mk : Nat), .bool false, .string ⟨#[]⟩]⟩ [⟨.slice a i cap, i, [.int .i64 (mk : Nat), .bool false, .string ⟨#[]⟩]⟩, ⟨.slice a5 (i + 1) c5, i + 1, [.int .i64 (mk : Nat), .bool false, .string ⟨#[]⟩]⟩, ⟨.slice a5 (i + 1) c5, i + 1, [.int .i64 (mk : Nat), .bool false, .string ⟨#[]⟩]⟩]) := hide ((unhide A5).sub (fun x hx => by simp only [List.mem_cons, List.not_mem_nil, or_false, List.mem_append, List.mem_singleton] at hx ⊢; rcases hx with h | h | h <;> simp [h]))
        clear HAl A5
        go_loopw [7, 8] (fun gv iv wr => ∃ (j m : Nat) (ag : Option Addr) (cg : Nat), gv = .slice ag m cg ∧ iv = .int .i64 ((j : Nat) : Int) ∧ j ≤ 70 ∧ m = i + j ∧ Hid (Ap W wr B0 45 3 ⟨.slice a i cap, i, [.int .i64 (mk : Nat), .bool false, .string ⟨#[]⟩]⟩ [⟨.slice a i cap, i, [.int .i64 (mk : Nat), .bool false, .string ⟨#[]⟩]⟩, ⟨.slice a5 (i + 1) c5, i + 1, [.int .i64 (mk : Nat), .bool false, .string ⟨#[]⟩]⟩, ⟨.slice ag m cg, m, [.int .i64 (mk : Nat), .bool false, .string ⟨#[]⟩]⟩])) (fun _ iv _ => 70 - (intOf iv).toNat)
        case atStart => exact ⟨1, i + 1, a5, c5, rfl, rfl, by omega, rfl, A6⟩
        case round =>
          clear A6
          rename World => wq
          obtain ⟨j, m, ag, cg, rfl, rfl, hj, hm, A6⟩ := hrel
          have HM := hide hm
          have hm9 : m ≤ 800070 := by omega
          clear hm
          by_cases hj7 : j < 70
          · have f2 : decide ((j : Int) < 70) = true := decide_eq_true (by omega)
            have f3 : decide (j < 70) = true := decide_eq_true hj7
            have HAl := hide ((Below.refl wq.heap.size wq).alloc (Nat.le_refl _) (.cells #[.int .i64 (mk : Nat), .bool false, .string ⟨#[]⟩] 45))
            go_wp2_with (first
              | (at_builtin; refine append_rws rfl _ _ 35 rfl 45 i0 _ 3 32 Try.underlying35 hi0 hz0 hz1 hz2 rfl 45 (.slice ag m cg) m (mkF [.int .i64 (mk : Nat), .bool false, .string ⟨#[]⟩]) rfl (((unhide A6).kl.row ⟨.slice ag m cg, m, [.int .i64 (mk : Nat), .bool false, .string ⟨#[]⟩]⟩ (by simp)).1.below (unhide HAl)) (.inl rfl) wq.heap.size 1 rfl [.int .i64 (mk : Nat), .bool false, .string ⟨#[]⟩] (by decide) rfl (made_cells wq [.int .i64 (mk : Nat), .bool false, .string ⟨#[]⟩] 45) (by simp [Value.oneCell']) (by omega) (by omega) ?_; intro v7 w7 h7 k7; obtain ⟨a7, c7, rfl⟩ := h7.shape; have A7 := hide ((unhide A6).app (unhide HAl) (x := ⟨.slice ag m cg, m, [.int .i64 (mk : Nat), .bool false, .string ⟨#[]⟩]⟩) (by simp) rfl rfl h7 k7); clear h7 k7; go_frame))
            exact ⟨⟨j + 1, m + 1, a7, c7, rfl, congrArg (Value.int .i64) (by omega), by omega, (by have := unhide HM; omega), hide ((unhide A7).sub (fun x hx => by simp only [List.mem_cons, List.not_mem_nil, or_false, List.mem_append, List.mem_singleton] at hx ⊢; rcases hx with h | h | h <;> simp [h]))⟩, by simp [intOf]; omega⟩
          · obtain rfl : j = 70 := by omega
            have f2 : decide (((70 : Nat) : Int) < 70) = false := by decide
            obtain ⟨X3, HK3, HC3, HX3⟩ : ∃ X3, Hid (BK wq X3 B0 bp D) ∧ Hid (Cx (fun k => k = 9) X W X3 wq) ∧ Hid (∀ x ∈ [(⟨.slice a i cap, i, [.int .i64 (mk : Nat), .bool false, .string ⟨#[]⟩]⟩ : Ent), ⟨.slice a5 (i + 1) c5, i + 1, [.int .i64 (mk : Nat), .bool false, .string ⟨#[]⟩]⟩, ⟨.slice ag m cg, m, [.int .i64 (mk : Nat), .bool false, .string ⟨#[]⟩]⟩], ∀ g, x.v.ownBlock = some g → X3 g = 9) := by
              obtain ⟨X3, z1, z2, z3⟩ := (unhide HH).mark (unhide A6) (unhide HX)
              exact ⟨X3, hide z1, hide z2, hide z3⟩
            obtain ⟨i2, hi2, hu0, hu1, hu2⟩ := info_parts info3'
            obtain ⟨i1, hi1, hy0, hy1, hy2⟩ := info_parts info35
            have b0 : wq.cell? ⟨bp, 1, none⟩ = some (.slice D.ha na D.hc) := by rw [unhide HNA]; exact cell_blk (unhide HK3).cell 1
            have HAl := hide ((Below.refl wq.heap.size wq).alloc (Nat.le_refl _) (.cells #[.slice a i cap, .slice a5 (i + 1) c5, .slice ag m cg] 35))
            have HRA : Hid (Rws wq 35 1 (.slice D.ha na D.hc) na (fun k => (D.B.getD k ent0).v)) := hide (by rw [unhide HNA]; exact (unhide HK3).rb)
            go_upto_region 13 with (first
              | (at_builtin; refine append_rws rfl _ _ 60 rfl 35 i1 _ 1 24 Try.underlying60 hi1 hy0 hy1 hy2 rfl 35 (.slice D.ha na D.hc) na (fun k => (D.B.getD k ent0).v) rfl ((unhide HRA).below (unhide HAl)) (.inl rfl) wq.heap.size 3 rfl [.slice a i cap, .slice a5 (i + 1) c5, .slice ag m cg] (by decide) rfl (made_cells wq [.slice a i cap, .slice a5 (i + 1) c5, .slice ag m cg] 35) (by simp [Value.oneCell']) (by omega) (by omega) ?_; intro v7 w7 h7 k7; obtain ⟨a7, c7, rfl⟩ := h7.shape; have H7 := hide h7; have K7 := hide k7; clear h7 k7; have E7 : Hid (w7.heap[bp]? = some (.cells #[.slice D.ta D.na D.tc, .slice D.ha D.nh D.hc, .slice D.ma D.na D.mc, .slice D.ia D.nh D.ic] 63 (0, 0))) := hide (((unhide K7).other bp (Nat.lt_of_lt_of_le (blk_lt (unhide HK3).cell) (unhide HAl).size) (fun e => by have := (unhide HK3).xrb bp (by rw [← unhide HNA]; exact e); have := (unhide HK3).xbp; omega)).trans (((unhide HAl).block bp (blk_lt (unhide HK3).cell)).trans (unhide HK3).cell)); have y7 : w7.cell? ⟨bp, 1, none⟩ = some (.slice D.ha D.nh D.hc) := cell_blk (unhide E7) 1; have z7 : w7.frozen? ⟨bp, 1, none⟩ = false := (by simp [World.frozen?, unhide E7]); go_frame))
            have E8 : Hid ((w7.setCell ⟨bp, 1, none⟩ (.slice a7 (na + 3) c7)).heap[bp]? = some (.cells #[.slice D.ta D.na D.tc, .slice a7 (na + 3) c7, .slice D.ma D.na D.mc, .slice D.ia D.nh D.ic] 63 (0, 0))) := hide (heap_setCell_same w7 bp 1 _ 63 (.slice a7 (na + 3) c7) (unhide E7))
            have HRM : Hid (Rws (w7.setCell ⟨bp, 1, none⟩ (.slice a7 (na + 3) c7)) 3 1 (.slice D.ia na D.ic) na (fun k => (D.B.getD k ent0).c.getD 0 undef)) := hide (by
              have z := (unhide HK3).ri
              rw [← unhide HNA] at z
              refine z.same (fun g hg => ?_)
              have hX := (unhide HK3).xri g (by rw [← unhide HNA]; exact hg)
              have hl := (unhide HK3).ri.lt g (by rw [← unhide HNA]; exact hg)
              rw [set_other _ _ _ _ _ (fun e => by have := (unhide HK3).xbp; rw [e] at hX; omega), (unhide K7).other g (Nat.lt_of_lt_of_le hl (unhide HAl).size) (fun e => by have := (unhide HK3).xrb g (by rw [← unhide HNA]; exact e); omega), (unhide HAl).block g hl])
            have HW8 := hide (Below.refl (w7.setCell ⟨bp, 1, none⟩ (.slice a7 (na + 3) c7)).heap.size (w7.setCell ⟨bp, 1, none⟩ (.slice a7 (na + 3) c7)))
            generalize hw8 : w7.setCell ⟨bp, 1, none⟩ (.slice a7 (na + 3) c7) = w8 at E8 HRM ⊢
            have HW := hide hw8
            clear hw8 y7 z7 b0 HW8
            have y8 : w8.cell? ⟨bp, 3, none⟩ = some (.slice D.ia na D.ic) := by rw [unhide HNA]; exact cell_blk (unhide E8) 3
            have HAm := hide ((Below.refl w8.heap.size w8).alloc (Nat.le_refl _) (.cells #[.int .i64 (mk : Nat), .int .i64 (mk : Nat), .int .i64 (mk : Nat)] 3))
            go_wp2_with (first
              | (at_builtin; refine append_rws rfl _ _ 61 rfl 3 i2 _ 1 8 Try.underlying61 hi2 hu0 hu1 hu2 rfl 3 (.slice D.ia na D.ic) na (fun k => (D.B.getD k ent0).c.getD 0 undef) rfl ((unhide HRM).below (unhide HAm)) (.inl rfl) w8.heap.size 3 rfl [.int .i64 (mk : Nat), .int .i64 (mk : Nat), .int .i64 (mk : Nat)] (by decide) rfl (made_cells w8 [.int .i64 (mk : Nat), .int .i64 (mk : Nat), .int .i64 (mk : Nat)] 3) (by simp [Value.oneCell']) (by omega) (by omega) ?_; intro v9 w9 h9 k9; obtain ⟨a9, c9, rfl⟩ := h9.shape; have H9 := hide h9; have K9 := hide k9; clear h9 k9; have E9 : Hid (w9.heap[bp]? = some (.cells #[.slice D.ta D.na D.tc, .slice a7 (na + 3) c7, .slice D.ma D.na D.mc, .slice D.ia D.nh D.ic] 63 (0, 0))) := hide (((unhide K9).other bp (Nat.lt_of_lt_of_le (blk_lt (unhide E8)) (unhide HAm).size) (fun e => by have := (unhide HK3).xri bp (by rw [← unhide HNA]; exact e); have := (unhide HK3).xbp; omega)).trans (((unhide HAm).block bp (blk_lt (unhide E8))).trans (unhide E8))); have y9 : w9.cell? ⟨bp, 3, none⟩ = some (.slice D.ia D.nh D.ic) := cell_blk (unhide E9) 3; have z9 : w9.frozen? ⟨bp, 3, none⟩ = false := (by simp [World.frozen?, unhide E9]); go_frame))
            go_end0
            have e := unhide HNA
            have hW := unhide HW
            subst e
            subst hW
            obtain ⟨X', D', z1, z2⟩ := (unhide HK3).addH (P := [⟨.slice a i cap, i, [.int .i64 (mk : Nat), .bool false, .string ⟨#[]⟩]⟩, ⟨.slice a5 (i + 1) c5, i + 1, [.int .i64 (mk : Nat), .bool false, .string ⟨#[]⟩]⟩, ⟨.slice ag m cg, m, [.int .i64 (mk : Nat), .bool false, .string ⟨#[]⟩]⟩]) rfl (unhide A6).kl (unhide HX3) (fun x hx => by
                have hxx : x = ⟨.slice a i cap, i, [.int .i64 (mk : Nat), .bool false, .string ⟨#[]⟩]⟩ ∨ x = ⟨.slice a5 (i + 1) c5, i + 1, [.int .i64 (mk : Nat), .bool false, .string ⟨#[]⟩]⟩ ∨ x = ⟨.slice ag m cg, m, [.int .i64 (mk : Nat), .bool false, .string ⟨#[]⟩]⟩ := by simpa using hx
                rcases hxx with rfl | rfl | rfl
                · exact ⟨⟨mk, rfl⟩, by show i ≤ 900000; omega⟩
                · exact ⟨⟨mk, rfl⟩, by show i + 1 ≤ 900000; omega⟩
                · exact ⟨⟨mk, rfl⟩, by show m ≤ 900000; omega⟩) hna9 (unhide HAl)
              ((unhide H7).congr (fun k hk => three_v (k := k) (unhide HK3).lb ⟨.slice a i cap, i, [.int .i64 (mk : Nat), .bool false, .string ⟨#[]⟩]⟩ ⟨.slice a5 (i + 1) c5, i + 1, [.int .i64 (mk : Nat), .bool false, .string ⟨#[]⟩]⟩ ⟨.slice ag m cg, m, [.int .i64 (mk : Nat), .bool false, .string ⟨#[]⟩]⟩ (by omega))) (unhide K7) (unhide HAm)
              ((unhide H9).congr (fun k hk => three_c (k := k) (unhide HK3).lb _ _ _ _ rfl rfl rfl (by omega))) (unhide K9)
            exact ⟨rfl, hide ⟨X', D', z1, ((unhide HC3).mono (fun k hk => .inr (.inr (.inr hk)))).trans z2⟩⟩
end Go.Proofs.Ytjmnddcombepaaa
