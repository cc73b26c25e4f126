/- The book of PostExact: addTexts. -/
import Derived.Test.YtjmnddcombepaaaDq
namespace Go.Proofs.Ytjmnddcombepaaa
open Go.ChangeShapes Go.WideShapes Go.ChangeAt Go.RowKit Go.Maps
set_option linter.unusedVariables false
set_option linter.unusedSimpArgs false
set_option maxRecDepth 100000
set_option maxHeartbeats 8000000
theorem info47 : (Try.prog.info? 47).map (fun i => (i.zero, i.size, i.bytes)) = some (some (.slice none 0 0), 1, 24) := by kernel_rfl
theorem three_v {A : List Ent} {na k : Nat} (hl : A.length = na) (x y z : Ent) (hk : k < na + 3) : (if k < na * 1 then (A.getD k ent0).v else [x.v, y.v, z.v].getD (k - na * 1) undef) = ((A ++ [x, y, z]).getD k ent0).v := by
  rw [Nat.mul_one, List.getD_eq_getElem?_getD (l := A ++ [x, y, z])]
  by_cases h : k < na
  · rw [if_pos h, List.getElem?_append_left (by omega), List.getD_eq_getElem?_getD]
  · rw [if_neg h, List.getElem?_append_right (by omega), hl]
    have : k - na = 0 ∨ k - na = 1 ∨ k - na = 2 := by omega
    rcases this with e | e | e <;> rw [e] <;> rfl
theorem three_c {A : List Ent} {na k : Nat} (hl : A.length = na) (x y z : Ent) (u : Value) (hx : x.c.getD 0 undef = u) (hy : y.c.getD 0 undef = u) (hz : z.c.getD 0 undef = u) (hk : k < na + 3) : (if k < na * 1 then (A.getD k ent0).c.getD 0 undef else [u, u, u].getD (k - na * 1) undef) = ((A ++ [x, y, z]).getD k ent0).c.getD 0 undef := by
  rw [Nat.mul_one, List.getD_eq_getElem?_getD (l := A ++ [x, y, z])]
  by_cases h : k < na
  · rw [if_pos h, List.getElem?_append_left (by omega), List.getD_eq_getElem?_getD (l := A)]
  · rw [if_neg h, List.getElem?_append_right (by omega), hl]
    have : k - na = 0 ∨ k - na = 1 ∨ k - na = 2 := by omega
    rcases this with e | e | e <;> rw [e]
    · exact hx.symm
    · exact hy.symm
    · exact hz.symm
theorem addtexts_any (W : World) (X : Nat → Nat) (B0 bp : Nat) (D : BD) (a : Option Addr) (n cap : Nat) (f : Nat → Value) (h : BK W X B0 bp D) (hr : Rws W 9 1 (.slice a n cap) n f) (hx : ∀ g, (Value.slice a n cap).ownBlock = some g → X g = 9) (hn : n ≤ 800000) :
    Calls Try.prog 52 #[.pointer (some ⟨bp, 0, none⟩), .slice a n cap] W fun e w' => e = .returned (.tuple #[]) ∧ Hid (∃ X' D', BK w' X' B0 bp D' ∧ Cx (fun k => k = 1 ∨ k = 2 ∨ k = 4 ∨ k = 9) X W X' w') := by
  obtain ⟨na, hna⟩ : ∃ na, na = D.na := ⟨_, rfl⟩
  have b0 : W.cell? ⟨bp, 0, none⟩ = some (.slice D.ta na D.tc) := by rw [hna]; exact cell_blk h.cell 0
  have hfa : na ≤ 1202 := by rw [hna]; exact h.fa
  have HH := hide h
  have HR := hide hr
  have HX := hide hx
  have HNA := hide hna
  obtain ⟨q, hq⟩ : ∃ q, q = na / 3 := ⟨_, rfl⟩
  have q1 : (na : Int).tdiv 3 = (q : Int) := by rw [Int.tdiv_eq_ediv_of_nonneg (by omega)]; omega
  have q2 : IntKind.i64.wrap (q : Int) = (q : Int) := by rw [IntKind.wrap_i64]; omega
  have hq4 : q ≤ 400 := by omega
  obtain ⟨r1, h1⟩ : ∃ r, r = q % 26 := ⟨_, rfl⟩
  obtain ⟨p2, hp2⟩ : ∃ r, r = q / 26 := ⟨_, rfl⟩
  obtain ⟨r2, h2⟩ : ∃ r, r = p2 % 26 := ⟨_, rfl⟩
  obtain ⟨p3, hp3⟩ : ∃ r, r = q / 676 := ⟨_, rfl⟩
  obtain ⟨r3, h3⟩ : ∃ r, r = p3 % 26 := ⟨_, rfl⟩
  have m1 : (q : Int).tmod 26 = (r1 : Int) := by rw [Int.tmod_eq_emod_of_nonneg (by omega)]; omega
  have m2 : (p2 : Int).tmod 26 = (r2 : Int) := by rw [Int.tmod_eq_emod_of_nonneg (by omega)]; omega
  have m3 : (p3 : Int).tmod 26 = (r3 : Int) := by rw [Int.tmod_eq_emod_of_nonneg (by omega)]; omega
  have d2 : (q : Int).tdiv 26 = (p2 : Int) := by rw [Int.tdiv_eq_ediv_of_nonneg (by omega)]; omega
  have d3 : (q : Int).tdiv 676 = (p3 : Int) := by rw [Int.tdiv_eq_ediv_of_nonneg (by omega)]; omega
  have w1 : IntKind.i64.wrap (r1 : Int) = (r1 : Int) := by rw [IntKind.wrap_i64]; omega
  have w2 : IntKind.i64.wrap (r2 : Int) = (r2 : Int) := by rw [IntKind.wrap_i64]; omega
  have w3 : IntKind.i64.wrap (r3 : Int) = (r3 : Int) := by rw [IntKind.wrap_i64]; omega
  have v2 : IntKind.i64.wrap (p2 : Int) = (p2 : Int) := by rw [IntKind.wrap_i64]; omega
  have v3 : IntKind.i64.wrap (p3 : Int) = (p3 : Int) := by rw [IntKind.wrap_i64]; omega
  have hr1 : r1 < 26 := by omega
  have hr2 : r2 < 26 := by omega
  have hr3 : r3 < 26 := by omega
  have HQ := hide hq
  clear h hr hx hna hq h1 hp2 h2 hp3 h3
  obtain ⟨s3, hs3, hcv⟩ : ∃ s3 : ByteArray, s3.size = 3 ∧ (convert 23 9 (.slice (some ⟨W.heap.size, 0, none⟩) 3 3)).run Try.prog (W.alloc (.cells #[.int .u8 (97 + (r1 : Int)), .int .u8 (97 + (r2 : Int)), .int .u8 (97 + (r3 : Int))] 5)) = .ok (.string s3) (W.alloc (.cells #[.int .u8 (97 + (r1 : Int)), .int .u8 (97 + (r2 : Int)), .int .u8 (97 + (r3 : Int))] 5)) := by
    refine ⟨strOfNums ([97 + r1, 97 + r2, 97 + r3].map Int.ofNat), (by simp [strOfNums, ByteArray.size]), conv_any (some ⟨W.heap.size, 0, none⟩) 3 _ [97 + r1, 97 + r2, 97 + r3] (.inr ⟨W.heap.size, 0, rfl, by simp, fun i hi => ?_⟩)⟩
    rw [cell_blk (heap_alloc_new W _)]
    have hi3 : i < 3 := hi
    have : i = 0 ∨ i = 1 ∨ i = 2 := by omega
    rcases this with rfl | rfl | rfl <;> simp
  go_enter Try.func52, Try.ntmps52
  go_wp2_with fail
  have HB1 := hide ((Below.refl W.heap.size W).alloc (Nat.le_refl _) (.cells #[.int .u8 (97 + (r1 : Int)), .int .u8 (97 + (r2 : Int)), .int .u8 (97 + (r3 : Int))] 5))
  generalize hs : (⟨#[109, 97, 114, 107]⟩ : ByteArray) ++ s3 = s
  clear hs
  generalize W.alloc (.cells #[.int .u8 (97 + (r1 : Int)), .int .u8 (97 + (r2 : Int)), .int .u8 (97 + (r3 : Int))] 5) = W1 at HB1 ⊢
  clear hcv m1 m2 m3 d2 d3 w1 w2 w3 v2 v3 hr1 hr2 hr3 b0 q1 q2
  go_loopw [6] (fun iv wr => ∃ i : Nat, iv = .int .i64 ((i : Nat) : Int) ∧ i ≤ n ∧ Hid (Rws wr 9 1 (.slice a n cap) n (fillF [.string s] f i) ∧ Fl [⟨.slice a n cap, n, [.string s]⟩] W wr)) (fun iv _ => n - (intOf iv).toNat)
  case atStart => exact ⟨0, rfl, Nat.zero_le _, hide ⟨fill_begin ((unhide HR).below (unhide HB1)), Fl.of (unhide HB1)⟩⟩
  case round =>
    obtain ⟨i, rfl, hi, HO⟩ := hrel
    by_cases hin : i < n
    · have f1 : decide ((i : Int) < (n : Int)) = true := decide_eq_true (by omega)
      have f9 : decide (i < n) = true := decide_eq_true hin
      have g1 : (0 : Int) ≤ (i : Int) := by omega
      have g2 : (i : Int) < (n : Int) := by omega
      obtain ⟨z1, z3⟩ := unhide HO
      obtain ⟨g, cap', e, hown, hgl, -⟩ := z1.at (by omega)
      cases e
      obtain ⟨⟨u, x0⟩, x1, p1, p2⟩ := fill_put1 z1 hin
      have HN : Hid (Rws (wr.setCell ⟨g, i, none⟩ (.string s)) 9 1 (.slice (some ⟨g, 0, none⟩) n cap) n (fillF [.string s] f (i + 1)) ∧ Fl [⟨.slice (some ⟨g, 0, none⟩) n cap, n, [.string s]⟩] W (wr.setCell ⟨g, i, none⟩ (.string s))) := hide ⟨p1, z3.trans p2 (fun x hx => .inl hx)⟩
      clear z1 z3 p1 p2 hown hgl HO
      go_wp2_with fail
      exact ⟨⟨i + 1, congrArg (Value.int .i64) (by omega), by omega, HN⟩, by simp [intOf]; omega⟩
    · obtain rfl : i = n := by omega
      have f1 : decide ((i : Int) < (i : Int)) = false := decide_eq_false (by omega)
      have f9 : decide (i < i) = false := decide_eq_false (by omega)
      have HA0 : Hid (Ap W wr B0 9 1 ⟨.slice a i cap, i, [.string s]⟩ [⟨.slice a i cap, i, [.string s]⟩]) := hide (Ap.begin (by have := (unhide HH).lt bp (by rw [(unhide HH).xbp]; decide); omega) (fill_end (unhide HO).1 rfl) rfl (unhide HO).2 (fun g hg => ((unhide HH).lt g (by rw [(unhide HX) g hg]; decide)).2))
      clear HO
      by_cases hq400 : 400 ≤ q
      · have e1 : decide ((400 : Int) ≤ (q : Int)) = true := decide_eq_true (by omega)
        have e2 : decide ((q : Int) ≥ 400) = true := decide_eq_true (by omega)
        have e3 : decide (400 ≤ q) = true := decide_eq_true hq400
        have e4 : decide (q ≥ 400) = true := decide_eq_true hq400
        go_wp2_with fail
        (try simp only [Exit.inBlock, Exit.then])
        refine bodyPost_ret (results_none rfl _ _ _) rfl ?_
        obtain ⟨X', k1, k2, -⟩ := (unhide HH).mark ((unhide HA0).sub (M := []) (fun x hx => by cases hx)) (unhide HX)
        exact ⟨rfl, hide ⟨X', D, k1, k2.mono (fun k hk => .inr (.inr (.inr hk)))⟩⟩
      · have e1 : decide ((400 : Int) ≤ (q : Int)) = false := decide_eq_false (by omega)
        have e2 : decide ((q : Int) ≥ 400) = false := decide_eq_false (by omega)
        have e3 : decide (400 ≤ q) = false := decide_eq_false hq400
        have e4 : decide (q ≥ 400) = false := decide_eq_false hq400
        have hna9 : na ≤ 1199 := by have := unhide HQ; omega
        obtain ⟨i0, hi0, hz0, hz1, hz2⟩ := info_parts info9
        have HAl := hide ((Below.refl wr.heap.size wr).alloc (Nat.le_refl _) (.cells #[.string s] 9))
        go_wp2_with (first
          | (at_builtin; refine append_rws rfl _ _ 47 rfl 9 i0 _ 1 16 Try.underlying47 hi0 hz0 hz1 hz2 rfl 9 (.slice a i cap) i (mkF [.string s]) rfl (((unhide HA0).kl.row _ (List.mem_singleton.2 rfl)).1.below (unhide HAl)) (.inl rfl) wr.heap.size 1 rfl [.string s] (by decide) rfl (made_cells wr [.string s] 9) (by simp [Value.oneCell']) (by omega) (by omega) ?_; intro v5 w5 h5 k5; obtain ⟨a5, c5, rfl⟩ := h5.shape; have A5 := hide ((unhide HA0).app (unhide HAl) (List.mem_singleton.2 rfl) rfl rfl h5 k5); clear h5 k5; go_frame))
        have A6 : Hid (Ap W w5 B0 9 1 ⟨.slice a i cap, i, [.string s]⟩ [⟨.slice a i cap, i, [.string s]⟩, ⟨.slice a5 (i + 1) c5, i + 1, [.string s]⟩, ⟨.slice a5 (i + 1) c5, i + 1, [.string s]⟩]) := hide ((unhide A5).sub (fun x hx => by simp only [List.mem_cons, List.not_mem_nil, or_false, List.mem_append, List.mem_singleton] at hx ⊢; rcases hx with h | h | h <;> simp [h]))
        clear HAl A5
        go_loopw [8, 9] (fun gv iv wr => ∃ (j m : Nat) (ag : Option Addr) (cg : Nat), gv = .slice ag m cg ∧ iv = .int .i64 ((j : Nat) : Int) ∧ j ≤ 70 ∧ m = i + j ∧ Hid (Ap W wr B0 9 1 ⟨.slice a i cap, i, [.string s]⟩ [⟨.slice a i cap, i, [.string s]⟩, ⟨.slice a5 (i + 1) c5, i + 1, [.string s]⟩, ⟨.slice ag m cg, m, [.string s]⟩])) (fun _ iv _ => 70 - (intOf iv).toNat)
        case atStart => exact ⟨1, i + 1, a5, c5, rfl, rfl, by omega, rfl, A6⟩
        case round =>
          clear A6
          rename World => wq
          obtain ⟨j, m, ag, cg, rfl, rfl, hj, hm, A6⟩ := hrel
          have HM := hide hm
          have hm9 : m ≤ 800070 := by omega
          clear hm
          by_cases hj7 : j < 70
          · have f2 : decide ((j : Int) < 70) = true := decide_eq_true (by omega)
            have f3 : decide (j < 70) = true := decide_eq_true hj7
            have HAl := hide ((Below.refl wq.heap.size wq).alloc (Nat.le_refl _) (.cells #[.string s] 9))
            go_wp2_with (first
              | (at_builtin; refine append_rws rfl _ _ 47 rfl 9 i0 _ 1 16 Try.underlying47 hi0 hz0 hz1 hz2 rfl 9 (.slice ag m cg) m (mkF [.string s]) rfl (((unhide A6).kl.row ⟨.slice ag m cg, m, [.string s]⟩ (by simp)).1.below (unhide HAl)) (.inl rfl) wq.heap.size 1 rfl [.string s] (by decide) rfl (made_cells wq [.string s] 9) (by simp [Value.oneCell']) (by omega) (by omega) ?_; intro v7 w7 h7 k7; obtain ⟨a7, c7, rfl⟩ := h7.shape; have A7 := hide ((unhide A6).app (unhide HAl) (x := ⟨.slice ag m cg, m, [.string s]⟩) (by simp) rfl rfl h7 k7); clear h7 k7; go_frame))
            exact ⟨⟨j + 1, m + 1, a7, c7, rfl, congrArg (Value.int .i64) (by omega), by omega, (by have := unhide HM; omega), hide ((unhide A7).sub (fun x hx => by simp only [List.mem_cons, List.not_mem_nil, or_false, List.mem_append, List.mem_singleton] at hx ⊢; rcases hx with h | h | h <;> simp [h]))⟩, by simp [intOf]; omega⟩
          · obtain rfl : j = 70 := by omega
            have f2 : decide (((70 : Nat) : Int) < 70) = false := by decide
            obtain ⟨X3, HK3, HC3, HX3⟩ : ∃ X3, Hid (BK wq X3 B0 bp D) ∧ Hid (Cx (fun k => k = 9) X W X3 wq) ∧ Hid (∀ x ∈ [(⟨.slice a i cap, i, [.string s]⟩ : Ent), ⟨.slice a5 (i + 1) c5, i + 1, [.string s]⟩, ⟨.slice ag m cg, m, [.string s]⟩], ∀ g, x.v.ownBlock = some g → X3 g = 9) := by
              obtain ⟨X3, z1, z2, z3⟩ := (unhide HH).mark (unhide A6) (unhide HX)
              exact ⟨X3, hide z1, hide z2, hide z3⟩
            obtain ⟨i1, hi1, hy0, hy1, hy2⟩ := info_parts info47
            have b0 : wq.cell? ⟨bp, 0, none⟩ = some (.slice D.ta na D.tc) := by rw [unhide HNA]; exact cell_blk (unhide HK3).cell 0
            have HAl := hide ((Below.refl wq.heap.size wq).alloc (Nat.le_refl _) (.cells #[.slice a i cap, .slice a5 (i + 1) c5, .slice ag m cg] 47))
            have HRA : Hid (Rws wq 47 1 (.slice D.ta na D.tc) na (fun k => (D.A.getD k ent0).v)) := hide (by rw [unhide HNA]; exact (unhide HK3).ra)
            go_upto_region 14 with (first
              | (at_builtin; refine append_rws rfl _ _ 59 rfl 47 i1 _ 1 24 Try.underlying59 hi1 hy0 hy1 hy2 rfl 47 (.slice D.ta na D.tc) na (fun k => (D.A.getD k ent0).v) rfl ((unhide HRA).below (unhide HAl)) (.inl rfl) wq.heap.size 3 rfl [.slice a i cap, .slice a5 (i + 1) c5, .slice ag m cg] (by decide) rfl (made_cells wq [.slice a i cap, .slice a5 (i + 1) c5, .slice ag m cg] 47) (by simp [Value.oneCell']) (by omega) (by omega) ?_; intro v7 w7 h7 k7; obtain ⟨a7, c7, rfl⟩ := h7.shape; have H7 := hide h7; have K7 := hide k7; clear h7 k7; have E7 : Hid (w7.heap[bp]? = some (.cells #[.slice D.ta D.na D.tc, .slice D.ha D.nh D.hc, .slice D.ma D.na D.mc, .slice D.ia D.nh D.ic] 63 (0, 0))) := hide (((unhide K7).other bp (Nat.lt_of_lt_of_le (blk_lt (unhide HK3).cell) (unhide HAl).size) (fun e => by have := (unhide HK3).xra bp (by rw [← unhide HNA]; exact e); have := (unhide HK3).xbp; omega)).trans (((unhide HAl).block bp (blk_lt (unhide HK3).cell)).trans (unhide HK3).cell)); have y7 : w7.cell? ⟨bp, 0, none⟩ = some (.slice D.ta D.na D.tc) := cell_blk (unhide E7) 0; have z7 : w7.frozen? ⟨bp, 0, none⟩ = false := (by simp [World.frozen?, unhide E7]); go_frame))
            have E8 : Hid ((w7.setCell ⟨bp, 0, none⟩ (.slice a7 (na + 3) c7)).heap[bp]? = some (.cells #[.slice a7 (na + 3) c7, .slice D.ha D.nh D.hc, .slice D.ma D.na D.mc, .slice D.ia D.nh D.ic] 63 (0, 0))) := hide (heap_setCell_same w7 bp 0 _ 63 (.slice a7 (na + 3) c7) (unhide E7))
            have HRM : Hid (Rws (w7.setCell ⟨bp, 0, none⟩ (.slice a7 (na + 3) c7)) 9 1 (.slice D.ma na D.mc) na (fun k => (D.A.getD k ent0).c.getD 0 undef)) := hide (by
              have z := (unhide HK3).rm
              rw [← unhide HNA] at z
              refine z.same (fun g hg => ?_)
              have hX := (unhide HK3).xrm g (by rw [← unhide HNA]; exact hg)
              have hl := (unhide HK3).rm.lt g (by rw [← unhide HNA]; exact hg)
              rw [set_other _ _ _ _ _ (fun e => by have := (unhide HK3).xbp; rw [e] at hX; omega), (unhide K7).other g (Nat.lt_of_lt_of_le hl (unhide HAl).size) (fun e => by have := (unhide HK3).xra g (by rw [← unhide HNA]; exact e); omega), (unhide HAl).block g hl])
            have HW8 := hide (Below.refl (w7.setCell ⟨bp, 0, none⟩ (.slice a7 (na + 3) c7)).heap.size (w7.setCell ⟨bp, 0, none⟩ (.slice a7 (na + 3) c7)))
            generalize hw8 : w7.setCell ⟨bp, 0, none⟩ (.slice a7 (na + 3) c7) = w8 at E8 HRM ⊢
            have HW := hide hw8
            clear hw8 y7 z7 b0 HW8
            have y8 : w8.cell? ⟨bp, 2, none⟩ = some (.slice D.ma na D.mc) := by rw [unhide HNA]; exact cell_blk (unhide E8) 2
            have HAm := hide ((Below.refl w8.heap.size w8).alloc (Nat.le_refl _) (.cells #[.string s, .string s, .string s] 9))
            go_wp2_with (first
              | (at_builtin; refine append_rws rfl _ _ 47 rfl 9 i0 _ 1 16 Try.underlying47 hi0 hz0 hz1 hz2 rfl 9 (.slice D.ma na D.mc) na (fun k => (D.A.getD k ent0).c.getD 0 undef) rfl ((unhide HRM).below (unhide HAm)) (.inl rfl) w8.heap.size 3 rfl [.string s, .string s, .string s] (by decide) rfl (made_cells w8 [.string s, .string s, .string s] 9) (by simp [Value.oneCell']) (by omega) (by omega) ?_; intro v9 w9 h9 k9; obtain ⟨a9, c9, rfl⟩ := h9.shape; have H9 := hide h9; have K9 := hide k9; clear h9 k9; have E9 : Hid (w9.heap[bp]? = some (.cells #[.slice a7 (na + 3) c7, .slice D.ha D.nh D.hc, .slice D.ma D.na D.mc, .slice D.ia D.nh D.ic] 63 (0, 0))) := hide (((unhide K9).other bp (Nat.lt_of_lt_of_le (blk_lt (unhide E8)) (unhide HAm).size) (fun e => by have := (unhide HK3).xrm bp (by rw [← unhide HNA]; exact e); have := (unhide HK3).xbp; omega)).trans (((unhide HAm).block bp (blk_lt (unhide E8))).trans (unhide E8))); have y9 : w9.cell? ⟨bp, 2, none⟩ = some (.slice D.ma D.na D.mc) := cell_blk (unhide E9) 2; have z9 : w9.frozen? ⟨bp, 2, none⟩ = false := (by simp [World.frozen?, unhide E9]); go_frame))
            go_end0
            have e := unhide HNA
            have hW := unhide HW
            subst e
            subst hW
            obtain ⟨X', D', z1, z2⟩ := (unhide HK3).addT (P := [⟨.slice a i cap, i, [.string s]⟩, ⟨.slice a5 (i + 1) c5, i + 1, [.string s]⟩, ⟨.slice ag m cg, m, [.string s]⟩]) rfl (unhide A6).kl (unhide HX3) (fun x hx => by
                have hxx : x = ⟨.slice a i cap, i, [.string s]⟩ ∨ x = ⟨.slice a5 (i + 1) c5, i + 1, [.string s]⟩ ∨ x = ⟨.slice ag m cg, m, [.string s]⟩ := by simpa using hx
                rcases hxx with rfl | rfl | rfl
                · exact ⟨⟨s.data.toList, by rw [bs_back]⟩, by show i ≤ 900000; omega⟩
                · exact ⟨⟨s.data.toList, by rw [bs_back]⟩, by show i + 1 ≤ 900000; omega⟩
                · exact ⟨⟨s.data.toList, by rw [bs_back]⟩, by show m ≤ 900000; omega⟩) hna9 (unhide HAl)
              ((unhide H7).congr (fun k hk => three_v (k := k) (unhide HK3).la ⟨.slice a i cap, i, [.string s]⟩ ⟨.slice a5 (i + 1) c5, i + 1, [.string s]⟩ ⟨.slice ag m cg, m, [.string s]⟩ (by omega))) (unhide K7) (unhide HAm)
              ((unhide H9).congr (fun k hk => three_c (k := k) (unhide HK3).la _ _ _ _ rfl rfl rfl (by omega))) (unhide K9)
            exact ⟨rfl, hide ⟨X', D', z1, ((unhide HC3).mono (fun k hk => .inr (.inr (.inr hk)))).trans z2⟩⟩
end Go.Proofs.Ytjmnddcombepaaa
