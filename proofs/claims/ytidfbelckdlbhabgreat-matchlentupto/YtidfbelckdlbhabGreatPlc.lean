/- larderlaw3's Place: Bytes; Budget.Takes. -/
import Derived.Test.YtidfbelckdlbhabGreatPla
namespace Go.Proofs.YtidfbelckdlbhabGreat
open Go.ChangeShapes Go.WideShapes Go.ChangeAt Go.RowKit
set_option linter.unusedVariables false
set_option linter.unusedSimpArgs false
set_option maxRecDepth 20000
set_option maxHeartbeats 4000000

theorem plrows_any (w : World) (S : Nat → Prop) (pa g : Nat) (oa ia : Option Addr) (oc ic no ni bc : Nat) (O I : Nat → Value) (l0 l : List Nat) (ba : Option Addr) (h : PlAt w S pa (.slice oa no oc) (.slice ia ni ic) no ni O I l0) (hS : ∀ b, w.heap.size ≤ b → S b) (hg : w.cell? ⟨g, 0, none⟩ = some (.slice ba l.length bc)) (hgl : g < w.heap.size) (hgS : ¬ S g) (hB : Bytes w ba l) (hbS : ∀ b off, 0 < l.length → ba = some ⟨b, off, none⟩ → ¬ S b) (hl : l.length ≤ 1073741824) :
    Calls Tryz.prog 45 #[.pointer (some ⟨pa, 0, none⟩), .slice (some ⟨g, 0, none⟩) 1 1] w fun e w' => ∃ og oc' iv' va vc, e = .returned (.slice (some ⟨og, 0, none⟩) 1 oc') ∧ Hid (PlAt w' S pa (.slice (some ⟨og, 0, none⟩) 1 oc') iv' 1 1 (fun _ => .slice va l.length vc) (fun _ => .slice va l.length vc) l ∧ Kept S w w') := by
  obtain ⟨x0, x1, z⟩ := h.cells
  have z0 := z 0
  obtain ⟨i3, hi3, hz3, hs3, hb3⟩ := info_partsS Tryz.info34s
  obtain ⟨i5, hi5, hz5, hs5, hb5⟩ := info_partsS Tryz.info5s
  have C := hide h.cut
  have HS := hide hS
  have HB := hide hB
  have hone := h.one
  clear z h hS hB
  have HG : Hid (∀ W, Kept S w W → W.cell? ⟨g, 0, none⟩ = some (.slice ba l.length bc)) := hide (fun W hk => (World.cell?_of_block (hk.blk g hgl hgS)).trans hg)
  obtain ⟨ll, hll⟩ : ∃ ll, ll = l.length := ⟨_, rfl⟩
  have HLL := hide hll
  rw [← hll] at HG hg hl ⊢
  clear hll
  go_enter Tryz.func45, Tryz.ntmps45
  go_wp2_with fail
  generalize w.setCell ⟨pa, 0, none⟩ (.slice oa 0 oc) = W0 at *
  clear x0 x1 z0
  go_loopw [5] (fun iv wr => (iv = .int .i64 0 ∧ wr = W0) ∨ (iv = .int .i64 1 ∧ ∃ og oc' iv' va vc, Hid (PlAt wr S pa (.slice (some ⟨og, 0, none⟩) 1 oc') iv' 1 1 (fun _ => .slice va ll vc) (fun _ => .slice va ll vc) l ∧ Kept S w wr))) (fun iv _ => 1 - (intOf iv).toNat)
  case atStart => exact .inl ⟨rfl, rfl⟩
  case round =>
    rcases hrel with ⟨rfl, hwo⟩ | ⟨rfl, og, oc', iv', va, vc, p⟩
    · subst hwo
      rename World => W0
      obtain ⟨x0, x1, z⟩ := (unhide C).1.cells
      have z1 := z 1
      clear z
      rcases Nat.eq_zero_or_pos ni with hni | hni
      · subst hni
        obtain ⟨mk, hmk⟩ : ∃ mk, mk = madeCells #[.int .u8 0] 64 := ⟨_, rfl⟩
        have m1 : ∀ W, (Instr.makeSlice 34 (.int .i64 0) (.int .i64 64)).run Tryz.prog W = .ok (.slice (some ⟨W.heap.size, 0, none⟩) 0 64) (W.alloc (.cells mk 5)) := fun W => by
          have hr := run_make (P := Tryz.prog) W 34 5 i5 (.int .u8 0) Tryz.underlying34 hi5 hz5 .i64 .i64 0 64 (by omega) (by omega) (by rw [hb5]; decide) (by omega)
          rw [hmk]
          rw [hs5] at hr
          exact hr
        have hms : mk.size = 64 := by rw [hmk]; exact size_madeCells _ _
        clear hmk
        have HMS := hide hms
        have hpa : pa < W0.heap.size := block_lt (unhide C).1.at'
        have xa : ∀ o, (W0.drew.alloc o).cell? ⟨pa, 1, none⟩ = some (.slice ia 0 ic) := fun o => (((Below.refl _ W0).drew.alloc (Nat.le_refl _) o).cell (p := ⟨pa, 1, none⟩) hpa).trans x1
        have xb : ∀ o o', ((W0.drew.alloc o).alloc o').cell? ⟨pa, 1, none⟩ = some (.slice ia 0 ic) := fun o o' => ((((Below.refl _ W0).drew.alloc (Nat.le_refl _) o).alloc (by simp) o').cell (p := ⟨pa, 1, none⟩) hpa).trans x1
        have ba' : Hid (∀ o o', Below W0.heap.size W0 ((W0.drew.alloc o).alloc o')) := hide (fun o o' => ((Below.refl _ W0).drew.alloc (Nat.le_refl _) o).alloc (by simp) o')
        have hsz : (W0.drew.alloc (.cells mk 5)).heap.size = W0.heap.size + 1 := by simp
        have HMC : Hid (∀ j x, [Value.slice (some ⟨W0.heap.size, 0, none⟩) 0 64][j]? = some x → ((W0.drew.alloc (.cells mk 5)).alloc (.cells #[Value.slice (some ⟨W0.heap.size, 0, none⟩) 0 64] 34)).cell? ⟨W0.heap.size + 1, j, none⟩ = some x) := hide (by
          have := made_cells (W0.drew.alloc (.cells mk 5)) [Value.slice (some ⟨W0.heap.size, 0, none⟩) 0 64] 34
          rw [hsz] at this
          exact this)
        have HMB : Hid (∀ o', ((W0.drew.alloc (.cells mk 5)).alloc o').heap[W0.heap.size]? = some (.cells mk 5 (0, 0))) := hide (fun o' => by
          rw [heap_alloc_old _ _ (by rw [hsz]; omega)]
          exact heap_alloc_new W0.drew _)
        have HS0 : Hid (∀ b, W0.heap.size ≤ b → S b) := hide (fun b hb => unhide HS b (Nat.le_trans (unhide C).2.size hb))
        clear hms hsz
        go_wp2_with fail
        apply once2 (R := fun (a5 : Option Addr) (c5 : Nat) (w' : World) => Hid (PlAt w' S pa (.slice oa 0 oc) (.slice a5 1 c5) 0 1 O (fun _ => .slice (some ⟨W0.heap.size, 0, none⟩) 0 64) [] ∧ Kept S W0 w'))
        case h =>
          go_region_law (refine step_append_rws rfl (.tmp 31) (.tmp 33) 41 rfl 34 i3 _ 1 24 Tryz.underlying41 hi3 hz3 hs3 hb3 rfl 34 (.slice ia 0 ic) 0 I (by first | rfl | simp [Act.eval, Act.put]) ((unhide C).1.irow.below (unhide ba' _ _)) (.inl rfl) (W0.heap.size + 1) 1 (by first | rfl | simp [Act.eval, Act.put]) [.slice (some ⟨W0.heap.size, 0, none⟩) 0 64] (by decide) rfl (unhide HMC) (fun x hx => by simp at hx; subst hx; rfl) (by omega) (by omega) ?_; intro v5 w5 hL hG; obtain ⟨y5, z5, q5⟩ := (unhide C).1.first (unhide HS0) (unhide HMS) (unhide ba' _ _) (unhide HMB _) hL hG; obtain ⟨a5, c5, he⟩ := hL.shape; rw [Nat.zero_add] at he; subst he; clear hL hG)
          all_goals exact OnlyN.mk ⟨a5, c5, rfl, q5⟩
        case hq =>
          intro a5 c5 W5 q5
          have C5 := hide (show _ ∧ _ from ⟨(unhide q5).1, (unhide C).2.trans (unhide q5).2⟩)
          clear q5 HS0 HMB HMC ba' xa xb m1 x0 x1 z1 HMS
          obtain ⟨x0, x1, z⟩ := (unhide C5).1.cells
          obtain ⟨ig, ic', hiv, -, -, hat⟩ := (unhide C5).1.irow.at (by decide)
          cases hiv
          have xi := hat 0 (by decide)
          obtain ⟨va, vc, hv, hz⟩ := ((unhide C5).1.ent (by decide)).none' (byV [])
          have HV := hide hv
          have HZ := hide hz
          rw [hv] at xi
          have xg := unhide HG W5 (unhide C5).2
          have HBW := hide ((unhide HB).kept (unhide C5).2 hbS)
          have HSW : Hid (∀ b, W5.heap.size ≤ b → S b) := hide (fun b hb => unhide HS b (Nat.le_trans (unhide C5).2.size hb))
          clear hv hz hat
          go_wp2_with fail
          apply once2 (R := fun (a6 : Option Addr) (c6 : Nat) (w' : World) => Hid (PlAt w' S pa (.slice oa 0 oc) (.slice (some ⟨ig, 0, none⟩) 1 c5) 0 1 O (fun _ => .slice a6 ll c6) l ∧ Kept S W5 w'))
          case h =>
            go_region_law (refine step_append_bytes rfl (.tmp 49) (.tmp 53) 34 rfl i5 Tryz.underlying34 hi5 hz5 hs5 hb5 (.slice va 0 vc) 0 (byV []) (by first | rfl | simp [Act.eval, Act.put]) (unhide HZ) ba bc l (by rw [← unhide HLL]; first | rfl | simp [Act.eval, Act.put]) (unhide HBW) (by have := unhide HLL; omega) ?_; intro v6 w6 hL hG; obtain ⟨x6, y6, z6, q6⟩ := (unhide C5).1.laid (unhide HSW) (by rw [unhide HV]; cases va <;> rfl) hL hG.drew'; rw [unhide HV] at y6; obtain ⟨a6, c6, he⟩ := hL.shape; rw [Nat.zero_add, ← unhide HLL] at he; subst he; clear hL hG)
            all_goals exact OnlyN.mk ⟨a6, c6, rfl, q6⟩
          case hq =>
            intro a6 c6 W6 q6
            obtain ⟨o0, o1, oz⟩ := (unhide q6).1.cells
            have oz0 := oz 0
            obtain ⟨ig2, ic2, hiv2, -, -, hat2⟩ := (unhide q6).1.irow.at (by decide)
            cases hiv2
            have oi := hat2 0 (by decide)
            have hp6 : pa < W6.heap.size := block_lt (unhide q6).1.at'
            have ob : ∀ o, (W6.drew.alloc o).cell? ⟨pa, 0, none⟩ = some (.slice oa 0 oc) := fun o => (((Below.refl _ W6).drew.alloc (Nat.le_refl _) o).cell (p := ⟨pa, 0, none⟩) hp6).trans o0
            have bb : Hid (∀ o, Below W6.heap.size W6 (W6.drew.alloc o)) := hide (fun o => (Below.refl _ W6).drew.alloc (Nat.le_refl _) o)
            have HS6 : Hid (∀ b, W6.heap.size ≤ b → S b) := hide (fun b hb => unhide HSW b (Nat.le_trans (unhide q6).2.size hb))
            clear oz hat2 x0 x1 xi xg HSW HBW HZ HV
            go_wp2_with fail
            apply once2 (R := fun (og : Nat) (oc2 : Nat) (w' : World) => Hid (PlAt w' S pa (.slice (some ⟨og, 0, none⟩) 1 oc2) (.slice (some ⟨ig, 0, none⟩) 1 c5) 1 1 (fun _ => .slice a6 ll c6) (fun _ => .slice a6 ll c6) l ∧ Kept S W6 w'))
            case h =>
              go_region_law (refine step_append_rws rfl (.tmp 60) (.tmp 68) 41 rfl 34 i3 _ 1 24 Tryz.underlying41 hi3 hz3 hs3 hb3 rfl 34 (.slice oa 0 oc) 0 O (by first | rfl | simp [Act.eval, Act.put]) ((unhide q6).1.orow.below (unhide bb _)) (.inl rfl) W6.heap.size 1 (by first | rfl | simp [Act.eval, Act.put]) [.slice a6 ll c6] (by decide) rfl (made_cells W6.drew [.slice a6 ll c6] 34) (fun x hx => by simp at hx; subst hx; rfl) (by omega) (by omega) ?_; intro v7 w7 hL hG; obtain ⟨y7, z7, q7⟩ := (unhide q6).1.told (unhide HS6) (unhide bb _) hL hG; obtain ⟨og, oc2, he, -, -, -⟩ := hL.at (by decide); rw [Nat.zero_add] at he; subst he; clear hL hG)
              all_goals exact OnlyN.mk ⟨og, oc2, rfl, q7⟩
            case hq =>
              intro og oc2 W7 q7
              have Q7 := hide (show _ ∧ _ from ⟨(unhide q7).1, ((unhide C5).2.trans (unhide q6).2).trans (unhide q7).2⟩)
              clear q7
              go_wp2
              all_goals go_roundw
              all_goals first | exact .inr ⟨rfl, _, _, _, _, _, Q7⟩ | (simp [intOf])
      · obtain rfl : ni = 1 := by omega
        obtain ⟨ig, ic', hiv, -, -, hat⟩ := (unhide C).1.irow.at (by decide)
        cases hiv
        have xi := hat 0 (by decide)
        obtain ⟨va, vc, hv, hz⟩ := ((unhide C).1.ent (by decide)).none' (byV l0)
        have HV := hide hv
        have HZ := hide hz
        rw [hv] at xi
        have xg := unhide HG W0 (unhide C).2
        have HBW := hide ((unhide HB).kept (unhide C).2 hbS)
        have HSW : Hid (∀ b, W0.heap.size ≤ b → S b) := hide (fun b hb => unhide HS b (Nat.le_trans (unhide C).2.size hb))
        clear hv hz hat
        go_wp2_with fail
        apply once2 (R := fun (a6 : Option Addr) (c6 : Nat) (w' : World) => Hid (PlAt w' S pa (.slice oa 0 oc) (.slice (some ⟨ig, 0, none⟩) 1 ic) 0 1 O (fun _ => .slice a6 ll c6) l ∧ Kept S W0 w'))
        case h =>
          go_region_law (refine step_append_bytes rfl (.tmp 49) (.tmp 53) 34 rfl i5 Tryz.underlying34 hi5 hz5 hs5 hb5 (.slice va 0 vc) 0 (byV l0) (by first | rfl | simp [Act.eval, Act.put]) (unhide HZ) ba bc l (by rw [← unhide HLL]; first | rfl | simp [Act.eval, Act.put]) (unhide HBW) (by have := unhide HLL; omega) ?_; intro v6 w6 hL hG; obtain ⟨x6, y6, z6, q6⟩ := (unhide C).1.laid (unhide HSW) (by rw [unhide HV]; cases va <;> rfl) hL hG.drew'; rw [unhide HV] at y6; obtain ⟨a6, c6, he⟩ := hL.shape; rw [Nat.zero_add, ← unhide HLL] at he; subst he; clear hL hG)
          all_goals exact OnlyN.mk ⟨a6, c6, rfl, q6⟩
        case hq =>
          intro a6 c6 W6 q6
          obtain ⟨o0, o1, oz⟩ := (unhide q6).1.cells
          have oz0 := oz 0
          obtain ⟨ig2, ic2, hiv2, -, -, hat2⟩ := (unhide q6).1.irow.at (by decide)
          cases hiv2
          have oi := hat2 0 (by decide)
          have hp6 : pa < W6.heap.size := block_lt (unhide q6).1.at'
          have ob : ∀ o, (W6.drew.alloc o).cell? ⟨pa, 0, none⟩ = some (.slice oa 0 oc) := fun o => (((Below.refl _ W6).drew.alloc (Nat.le_refl _) o).cell (p := ⟨pa, 0, none⟩) hp6).trans o0
          have bb : Hid (∀ o, Below W6.heap.size W6 (W6.drew.alloc o)) := hide (fun o => (Below.refl _ W6).drew.alloc (Nat.le_refl _) o)
          have HS6 : Hid (∀ b, W6.heap.size ≤ b → S b) := hide (fun b hb => unhide HSW b (Nat.le_trans (unhide q6).2.size hb))
          clear oz hat2 x0 x1 xi xg HSW HBW HZ HV
          go_wp2_with fail
          apply once2 (R := fun (og : Nat) (oc2 : Nat) (w' : World) => Hid (PlAt w' S pa (.slice (some ⟨og, 0, none⟩) 1 oc2) (.slice (some ⟨ig, 0, none⟩) 1 ic) 1 1 (fun _ => .slice a6 ll c6) (fun _ => .slice a6 ll c6) l ∧ Kept S W6 w'))
          case h =>
            go_region_law (refine step_append_rws rfl (.tmp 60) (.tmp 68) 41 rfl 34 i3 _ 1 24 Tryz.underlying41 hi3 hz3 hs3 hb3 rfl 34 (.slice oa 0 oc) 0 O (by first | rfl | simp [Act.eval, Act.put]) ((unhide q6).1.orow.below (unhide bb _)) (.inl rfl) W6.heap.size 1 (by first | rfl | simp [Act.eval, Act.put]) [.slice a6 ll c6] (by decide) rfl (made_cells W6.drew [.slice a6 ll c6] 34) (fun x hx => by simp at hx; subst hx; rfl) (by omega) (by omega) ?_; intro v7 w7 hL hG; obtain ⟨y7, z7, q7⟩ := (unhide q6).1.told (unhide HS6) (unhide bb _) hL hG; obtain ⟨og, oc2, he, -, -, -⟩ := hL.at (by decide); rw [Nat.zero_add] at he; subst he; clear hL hG)
            all_goals exact OnlyN.mk ⟨og, oc2, rfl, q7⟩
          case hq =>
            intro og oc2 W7 q7
            have Q7 := hide (show _ ∧ _ from ⟨(unhide q7).1, ((unhide C).2.trans (unhide q6).2).trans (unhide q7).2⟩)
            clear q7
            go_wp2
            all_goals go_roundw
            all_goals first | exact .inr ⟨rfl, _, _, _, _, _, Q7⟩ | (simp [intOf])
    · obtain ⟨x0, x1, z⟩ := (unhide p).1.cells
      go_wp2
      go_ret
      exact ⟨_, _, rfl, _, _, _, p⟩
end Go.Proofs.YtidfbelckdlbhabGreat
namespace Go.Proofs.YtidfbelckdlbhabGreat
open Go.ChangeShapes Go.WideShapes Go.ChangeAt Go.RowKit
set_option linter.unusedVariables false
set_option linter.unusedSimpArgs false
set_option maxRecDepth 20000
set_option maxHeartbeats 4000000

theorem Kept.mono {S S' : Nat → Prop} {w w' : World} (h : Kept S w w') (hs : ∀ b, b < w.heap.size → S b → S' b) : Kept S' w w' := ⟨h.os, h.tape, h.output, h.size, fun b hb hS => h.blk b hb (fun q => hS (hs b hb q))⟩
theorem plbytes_any (w : World) (S : Nat → Prop) (pa : Nat) (oa ia : Option Addr) (oc ic no ni bc : Nat) (O I : Nat → Value) (l0 l : List Nat) (ba : Option Addr) (h : PlAt w S pa (.slice oa no oc) (.slice ia ni ic) no ni O I l0) (hS : ∀ b, w.heap.size ≤ b → S b) (hB : Bytes w ba l) (hbS : ∀ b off, 0 < l.length → ba = some ⟨b, off, none⟩ → ¬ S b) (hl : l.length ≤ 1073741824) :
    Calls Tryz.prog 22 #[.pointer (some ⟨pa, 0, none⟩), .slice ba l.length bc] w fun e w' => ∃ va vc, e = .returned (.slice va l.length vc) ∧ Hid (∃ ov iv, PlAt w' S pa ov iv 1 1 (fun _ => .slice va l.length vc) (fun _ => .slice va l.length vc) l ∧ Kept S w w') := by
  have hb : ∀ o, Below w.heap.size w (w.alloc o) := fun o => (Below.refl _ _).alloc (Nat.le_refl _) o
  have R : Hid (Calls Tryz.prog 45 #[.pointer (some ⟨pa, 0, none⟩), .slice (some ⟨w.heap.size, 0, none⟩) 1 1] (w.alloc (.cells #[.slice ba l.length bc] 34)) fun e w' => ∃ og oc' iv' va vc, e = .returned (.slice (some ⟨og, 0, none⟩) 1 oc') ∧ w'.cell? ⟨og, 0, none⟩ = some (.slice va l.length vc) ∧ Hid (PlAt w' S pa (.slice (some ⟨og, 0, none⟩) 1 oc') iv' 1 1 (fun _ => .slice va l.length vc) (fun _ => .slice va l.length vc) l ∧ Kept S w w')) := hide (by
    have hsz : (w.alloc (.cells #[.slice ba l.length bc] 34)).heap.size = w.heap.size + 1 := by simp
    have h1 := (h.same (w' := w.alloc (.cells #[.slice ba l.length bc] 34)) (fun b h1 _ => (hb _).block b h1))
    have h2 : PlAt (w.alloc (.cells #[.slice ba l.length bc] 34)) (fun b => S b ∧ b ≠ w.heap.size) pa (.slice oa no oc) (.slice ia ni ic) no ni O I l0 := by
      refine ⟨h1.at', h1.orow, h1.irow, h1.ent, h1.oi, ⟨h.sp, ?_⟩, fun g hg => ⟨h.so g hg, ?_⟩, fun g hg => ⟨h.si g hg, ?_⟩, fun hn g hg => ⟨h.se hn g hg, ?_⟩, h.one⟩
      · have := block_lt h.at'; omega
      · have := h.orow.lt g hg; omega
      · have := h.irow.lt g hg; omega
      · have := (h.ent hn).lt g hg; omega
    refine (plrows_any _ _ pa w.heap.size oa ia oc ic no ni bc O I l0 l ba h2 (fun b hb1 => ⟨hS b (by omega), by omega⟩) ?_ (by omega) (fun q => q.2 rfl) (hB.below (hb _)) (fun b off h0 e q => hbS b off h0 e q.1) hl).mono ?_
    · rw [cell_of_row _ _ _ _ _ _ (heap_alloc_new w _)]
      rfl
    · rintro e w' ⟨og, oc', iv', va, vc, rfl, hp⟩
      obtain ⟨g, cp, hg1, -, -, hg3⟩ := (unhide hp).1.orow.at (by decide)
      cases hg1
      exact ⟨_, _, _, va, vc, rfl, hg3 0 (by decide), hide ⟨(unhide hp).1.mono (fun b _ q => q.1), (Kept.below (hb _)).trans ((unhide hp).2.mono (fun b _ q => q.1))⟩⟩)
  clear h hS hB hbS hb
  generalize l.length = ll at *
  go_enter Tryz.func22, Tryz.ntmps22
  go_wp2_with fail
  refine (unhide R).mono ?_
  rintro e w1 ⟨og, oc', iv', va, vc, rfl, hc, hp⟩
  go_wp2
  go_ret
  exact ⟨va, vc, rfl, hide ⟨_, _, unhide hp⟩⟩
/-- Takes: may so many bytes more be marked? -/
theorem takes_any (w : World) (pr : Nat) (m k : Nat) (cs : Array Value) (h : w.heap[pr]? = some (.cells #[.int .i64 (m : Nat)] 56 (0, 0))) (hs : m ≤ 1152921504606846976) (hk : k ≤ 1152921504606846976) :
    Calls Tryz.prog 12 #[.pointer (some ⟨pr, 0, none⟩), .int .i64 (k : Nat)] w fun e w' => e = .returned (.bool (decide (m + k + 200 ≤ 4194304))) ∧ w' = w.setCell ⟨pr, 0, none⟩ (.int .i64 ((m + k + 200 : Nat) : Int)) := by
  have c8 : w.cell? ⟨pr, 0, none⟩ = some (.int .i64 (m : Nat)) := by rw [cell_of_row _ _ _ _ _ _ h]; rfl
  have z8 : w.frozen? ⟨pr, 0, none⟩ = false := by simp only [World.frozen?, h]; simp
  have e1 : ((m + k + 200 : Nat) : Int) = (m : Int) + (k : Int) + 200 := by omega
  have e2 : decide (m + k + 200 ≤ 4194304) = decide ((m : Int) + (k : Int) + 200 ≤ 4194304) := by
    by_cases q : m + k + 200 ≤ 4194304
    · rw [decide_eq_true q, decide_eq_true (by omega)]
    · rw [decide_eq_false q, decide_eq_false (by omega)]
  rw [e1, e2]
  clear e1 e2 h
  go_enter Tryz.func12, Tryz.ntmps12
  go_wp2
  go_ret
  exact ⟨rfl, rfl⟩
end Go.Proofs.YtidfbelckdlbhabGreat
