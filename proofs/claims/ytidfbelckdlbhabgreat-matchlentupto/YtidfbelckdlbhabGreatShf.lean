/- larderlaw3's Shelf: what lies there; Same. -/
import Derived.Test.YtidfbelckdlbhabGreatShd
import Derived.Test.YtidfbelckdlbhabGreatEqs
namespace Go.Proofs.YtidfbelckdlbhabGreat
open Go.ChangeShapes Go.WideShapes Go.ChangeAt Go.RowKit
set_option linter.unusedVariables false
set_option maxRecDepth 20000
set_option maxHeartbeats 4000000

theorem Tryz.info34s : (Tryz.prog.info? 34).map (fun i => (i.zero, i.size, i.bytes)) = some (some (.slice none 0 0), 1, 24) := by kernel_rfl
theorem Tryz.info5s : (Tryz.prog.info? 5).map (fun i => (i.zero, i.size, i.bytes)) = some (some (.int .u8 0), 1, 1) := by kernel_rfl
theorem info_partsS {P : Program} {e : TypeId} {z : Value} {s b : Nat} (h : (P.info? e).map (fun i => (i.zero, i.size, i.bytes)) = some (some z, s, b)) : ∃ ie, P.info? e = some ie ∧ ie.zero = some z ∧ ie.size = s ∧ ie.bytes = b := by
  obtain ⟨ie, h1, h2⟩ := Option.map_eq_some_iff.1 h
  injection h2 with h3 h4
  injection h4 with h5 h6
  exact ⟨ie, h1, h3, h5, h6⟩
theorem Gn.start {w : World} {py : Nat} {yv : Value} {n : Nat} {F : Nat → Value} {L : Nat → Nat} (h : Mk w py yv n F L n 0) : Gn w (w.alloc (.cells #[.slice none 0 0, .slice none 0 0, .slice none 0 0, .slice none 0 0] 107)) py yv n F L w.heap.size (.slice none 0 0) 0 (fun _ => undef) := by
  have b : Below w.heap.size w (w.alloc (.cells #[.slice none 0 0, .slice none 0 0, .slice none 0 0, .slice none 0 0] 107)) := (Below.refl _ _).alloc (Nat.le_refl _) _
  have m := h.below b
  refine ⟨m.at', m.row, m.md.ent, m.one, m.len, heap_alloc_new w _, .inl ⟨rfl, rfl⟩, fun j hj => absurd hj (Nat.not_lt_zero _), fun j g k hj => absurd hj (Nat.not_lt_zero _), fun g _ e => by simp [Value.ownBlock] at e, Tch.below b, Nat.le_refl _, fun g e => by simp [Value.ownBlock] at e⟩
theorem grown_any (w : World) (py : Nat) (ya : Option Addr) (yc n : Nat) (F : Nat → Value) (L : Nat → Nat) (h : Mk w py (.slice ya n yc) n F L n 0) (hn : n ≤ 300000) :
    Calls Tryz.prog 53 #[.pointer (some ⟨py, 0, none⟩)] w fun e w' => e = .returned (.pointer (some ⟨w.heap.size, 0, none⟩)) ∧ Hid (∃ za zc Z, Gn w w' py (.slice ya n yc) n F L w.heap.size (.slice za n zc) n Z) := by
  have H := hide (Gn.start h)
  have hpy : py < w.heap.size := block_lt h.at'
  obtain ⟨pz, hpz⟩ : ∃ pz, pz = w.heap.size := ⟨_, rfl⟩
  have hne : py ≠ pz := by omega
  have HPZ := hide hpz
  obtain ⟨i3, hi3, hz3, hs3, hb3⟩ := info_partsS Tryz.info34s
  obtain ⟨i5, hi5, hz5, hs5, hb5⟩ := info_partsS Tryz.info5s
  clear h hpy
  rw [← hpz] at H ⊢
  go_enter Tryz.func53, Tryz.ntmps53
  go_wp2_with fail
  rw [← hpz]
  clear hpz
  go_loopw [4, 5, 6] (fun iv _ _ wr => ∃ (i : Nat) (zv : Value) (Z : Nat → Value), iv = .int .i64 (i : Nat) ∧ i ≤ n ∧ Hid (Gn w wr py (.slice ya n yc) n F L pz zv i Z)) (fun iv _ _ _ => n - (intOf iv).toNat)
  case atStart => exact ⟨0, _, _, rfl, Nat.zero_le _, H⟩
  case round =>
    rename World => ws
    obtain ⟨i, zv, Z, rfl, hi, p⟩ := hrel
    obtain ⟨za, zc, rfl⟩ := (unhide p).zr.shape
    obtain ⟨x0, x1, x2, x3⟩ := (unhide p).ya.cells
    clear H
    rcases Nat.lt_or_ge i n with hlt | hge
    · have f1 : decide ((i : Int) < (n : Int)) = true := decide_eq_true (by omega)
      obtain ⟨yg, yc', hyv, -, -, hyat⟩ := (unhide p).yr.at (by omega)
      cases hyv
      have xi := hyat i (by omega)
      obtain ⟨fa, fc, hFi⟩ := ((unhide p).ye i hlt).shape
      have q0 := hide (In.start (unhide p) hlt)
      have hlen := (unhide p).len i hlt
      rw [hFi] at xi q0
      clear hyat hFi
      go_wp2_with fail
      go_loopw [5, 6] (fun lv kv wr => ∃ k : Nat, kv = .int .i64 (k : Nat) ∧ k ≤ 96 ∧ Hid (In ws wr F L lv i k)) (fun _ kv _ => 96 - (intOf kv).toNat)
      case atStart => exact ⟨0, rfl, Nat.zero_le _, q0⟩
      case round =>
        obtain ⟨k, rfl, hk, q⟩ := hrel
        obtain ⟨la, lc, rfl⟩ := (unhide q).lr.shape
        clear q0 xi x0 x1 x2 x3
        rcases Nat.lt_or_ge k 96 with hkl | hkg
        · have f2 : decide ((k : Int) < 96) = true := decide_eq_true (by omega)
          have SG : Hid (Calls Tryz.prog 84 #[.int .i64 (i : Nat), .int .i64 ((L i + k : Nat) : Int)] wr fun e w' => e = .returned (sgV i (L i + k)) ∧ w' = wr) := hide (sign_any i (L i + k) wr (by omega) (by omega))
          have qb := hide ((unhide q).below ((Below.refl _ _).alloc (Nat.le_refl _) (.cells #[sgV i (L i + k)] 5)))
          unfold sgV at SG
          go_wp2_with (first
            | (go_at_call 84; refine (unhide SG).mono ?_; rintro e w5 ⟨rfl, h5⟩; obtain rfl := h5.symm)
            | (at_builtin; refine append_rws rfl _ _ 34 rfl 5 i5 _ 1 1 Tryz.underlying34 hi5 hz5 hs5 hb5 rfl 5 (.slice la (L i + k) lc) (L i + k) (sgV i) rfl (unhide qb).lr (.inl rfl) wr.heap.size 1 rfl [sgV i (L i + k)] (by decide) rfl (made_cells wr [sgV i (L i + k)] 5) (fun x hx => by simp at hx; subst hx; rfl) (by omega) (by omega) ?_; intro v' w3 hL hG; have q3 := hide ((unhide qb).more hL hG); obtain ⟨a3, c3, rfl⟩ := hL.shape; clear hL hG))
          all_goals go_roundw
          all_goals first | exact ⟨k + 1, by simp, by omega, q3⟩ | (simp only [intOf]; omega)
        · obtain rfl : k = 96 := by omega
          rw [show ((96 : Nat) : Int) = 96 from rfl]
          have f2 : decide ((96 : Int) < 96) = false := decide_eq_false (by omega)
          obtain ⟨z0, -, -, -⟩ := ((unhide p).beside hlt (unhide q)).za.cells
          have zb := hide ((((unhide p).beside hlt (unhide q)).below ((Below.refl _ _).alloc (Nat.le_refl _) (.cells #[.slice la (L i + 96) lc] 34))).zr)
          go_wp2_with (at_builtin; refine append_rws rfl _ _ 41 rfl 34 i3 _ 1 24 Tryz.underlying41 hi3 hz3 hs3 hb3 rfl 34 (.slice za i zc) i Z rfl (unhide zb) (.inl rfl) wr.heap.size 1 rfl [.slice la (L i + 96) lc] (by decide) rfl (made_cells wr [.slice la (L i + 96) lc] 34) (fun x hx => by simp at hx; subst hx; rfl) (by omega) (by omega) ?_; intro v' w3 hL hG; obtain ⟨a3, c3, rfl⟩ := hL.shape; obtain ⟨g3, y3, fz3⟩ := (unhide p).next hne hlt (unhide q) hL hG; have G3 := hide g3; clear hL hG g3)
          all_goals go_roundw
          all_goals first | exact ⟨i + 1, _, _, by simp, by omega, G3⟩ | (simp only [intOf]; omega)
    · obtain rfl : n = i := by omega
      have f1 : decide ((n : Int) < (n : Int)) = false := decide_eq_false (by omega)
      have f1' : (n < n) = False := eq_false (by omega)
      go_wp2_with fail
      go_loopw [7, 8, 9] (fun iv _ _ wr => iv = .int .i64 0 ∧ wr = ws) (fun _ _ _ _ => 0)
      case atStart => exact ⟨rfl, rfl⟩
      case round =>
        obtain ⟨rfl, hwo⟩ := hrel
        subst hwo
        rename World => ws
        go_wp2_with fail
        go_loopw [10, 11, 12] (fun iv _ _ wr => iv = .int .i64 0 ∧ wr = ws) (fun _ _ _ _ => 0)
        case atStart => exact ⟨rfl, rfl⟩
        case round =>
          obtain ⟨rfl, hwo⟩ := hrel
          subst hwo
          rename World => ws
          go_wp2_with fail
          go_loopw [13, 14, 15] (fun iv _ _ wr => iv = .int .i64 0 ∧ wr = ws) (fun _ _ _ _ => 0)
          case atStart => exact ⟨rfl, rfl⟩
          case round =>
            obtain ⟨rfl, hwo⟩ := hrel
            subst hwo
            go_wp2
            go_ret
            exact ⟨rfl, hide ⟨_, _, _, unhide p⟩⟩
end Go.Proofs.YtidfbelckdlbhabGreat
namespace Go.Proofs.YtidfbelckdlbhabGreat
open Go.ChangeShapes Go.WideShapes Go.ChangeAt Go.RowKit
set_option linter.unusedVariables false
set_option maxRecDepth 20000
set_option maxHeartbeats 4000000

/-- the cells of bytes -/
def byV (l : List Nat) (q : Nat) : Value := .int .u8 (l.getD q 0 : Nat)
/-- a shelf that holds lists of bytes alone: F j is the list, G j its copy, D j what it held -/
structure ShAt (W : World) (px : Nat) (xv wv : Value) (n : Nat) (F G : Nat → Value) (D : Nat → List Nat) (sz : Nat) : Prop where
  at' : W.heap[px]? = some (.cells #[xv, wv, .slice none 0 0, .slice none 0 0, .slice none 0 0, .slice none 0 0, .slice none 0 0, .slice none 0 0, .int .i64 (sz : Nat)] 73 (0, 0))
  xr : Rws W 34 1 xv n F
  gr : Rws W 34 1 wv n G
  fe : ∀ j, j < n → Rws W 5 1 (F j) (D j).length (byV (D j))
  ge : ∀ j, j < n → Rws W 5 1 (G j) (D j).length (byV (D j))
  one : ∀ i j g, i < n → j < n → (F i).ownBlock = some g → (F j).ownBlock = some g → i = j
  xw : ∀ g, xv.ownBlock = some g → wv.ownBlock ≠ some g
  len : ∀ j, j < n → (D j).length ≤ 4194304
  few : 50 * n ≤ sz ∧ n ≤ 100000
theorem Rws.bytes {W : World} {v : Value} {l : List Nat} (h : Rws W 5 1 v l.length (byV l)) : ∃ a c, v = .slice a l.length c ∧ Bytes W a l ∧ (a = none → c = 0) := by
  rcases h with ⟨rfl, h0⟩ | ⟨b, cap, cur, rfl, hg, hn, hm, hs, hh⟩
  · exact ⟨none, 0, by rw [h0], .inl (List.eq_nil_of_length_eq_zero h0), fun _ => rfl⟩
  · refine ⟨_, cap, rfl, .inr ⟨b, 0, rfl, block_lt hg, fun i hi => ?_⟩, fun h => by cases h⟩
    rw [Nat.zero_add, cell_of_row _ _ _ _ _ _ hg, hh i (by omega)]
    rfl
theorem ShAt.cells {W : World} {px : Nat} {xv wv : Value} {n : Nat} {F G : Nat → Value} {D : Nat → List Nat} {sz : Nat} (h : ShAt W px xv wv n F G D sz) :
    W.cell? ⟨px, 0, none⟩ = some xv ∧ W.cell? ⟨px, 1, none⟩ = some wv ∧ W.cell? ⟨px, 2, none⟩ = some (.slice none 0 0) ∧ W.cell? ⟨px, 4, none⟩ = some (.slice none 0 0) ∧ W.cell? ⟨px, 6, none⟩ = some (.slice none 0 0) ∧ W.cell? ⟨px, 8, none⟩ = some (.int .i64 (sz : Nat)) := by
  refine ⟨?_, ?_, ?_, ?_, ?_, ?_⟩ <;> (rw [cell_of_row _ _ _ _ _ _ h.at']; rfl)
theorem same_any' (w : World) (px : Nat) (xa wa : Option Addr) (xc wc n : Nat) (F G : Nat → Value) (D : Nat → List Nat) (sz : Nat) (h : ShAt w px (.slice xa n xc) (.slice wa n wc) n F G D sz) :
    Calls Tryz.prog 50 #[.pointer (some ⟨px, 0, none⟩)] w fun e w' => e = .returned (.bool true) ∧ Hid (Still w w') := by
  have H := hide h
  have hn := h.few.2
  obtain ⟨X0, X1, X2, X4, X6, -⟩ := h.cells
  clear h
  go_enter Tryz.func50, Tryz.ntmps50
  go_wp2_with fail
  go_loopw [3] (fun iv wr => ∃ i : Nat, iv = .int .i64 (i : Nat) ∧ i ≤ n ∧ Hid (Still w wr)) (fun iv _ => n - (intOf iv).toNat)
  case atStart => exact ⟨0, rfl, Nat.zero_le _, hide (Still.refl w)⟩
  case round =>
    rename World => wo
    obtain ⟨i, rfl, hi, p⟩ := hrel
    have x0 := ((unhide p).cell ⟨px, 0, none⟩).trans X0
    have x1 := ((unhide p).cell ⟨px, 1, none⟩).trans X1
    have x2 := ((unhide p).cell ⟨px, 2, none⟩).trans X2
    have x4 := ((unhide p).cell ⟨px, 4, none⟩).trans X4
    have x6 := ((unhide p).cell ⟨px, 6, none⟩).trans X6
    rcases Nat.lt_or_ge i n with hlt | hge
    · have f1 : decide ((i : Int) < (n : Int)) = true := decide_eq_true (by omega)
      obtain ⟨xg, xc', hxv, -, -, hxat⟩ := (unhide H).xr.at (by omega)
      cases hxv
      obtain ⟨wg, wc', hwv, -, -, hwat⟩ := (unhide H).gr.at (by omega)
      cases hwv
      obtain ⟨a, c, hF, hBa, -⟩ := ((unhide H).fe i hlt).bytes
      obtain ⟨b, d, hG, hBb, -⟩ := ((unhide H).ge i hlt).bytes
      have y1 := ((unhide p).cell ⟨xg, i, none⟩).trans (hxat i (by omega))
      have y2 := ((unhide p).cell ⟨wg, i, none⟩).trans (hwat i (by omega))
      rw [hF] at y1
      rw [hG] at y2
      have hlen := (unhide H).len i hlt
      have EQ : Hid (∀ W, Hid (Still w W) → Calls Tryz.prog 17 #[.slice a (D i).length c, .slice b (D i).length d] W fun e w' => e = .returned (.bool true) ∧ Hid (Still w w') ∧ w'.cell? ⟨px, 0, none⟩ = some (.slice (some ⟨xg, 0, none⟩) n xc) ∧ w'.cell? ⟨px, 1, none⟩ = some (.slice (some ⟨wg, 0, none⟩) n wc) ∧ w'.cell? ⟨xg, i, none⟩ = some (.slice a (D i).length c) ∧ w'.cell? ⟨wg, i, none⟩ = some (.slice b (D i).length d)) := hide (fun W hW => by
        refine (eq_any (by omega) (by omega) (hBa.below (unhide hW).below) (hBb.below (unhide hW).below)).mono ?_
        rintro e w' ⟨rfl, hs⟩
        have h2 := (unhide hW).trans hs
        exact ⟨by simp, hide h2, (h2.cell _).trans X0, (h2.cell _).trans X1, ((h2.cell _).trans (hxat i (by omega))).trans (by rw [hF]), ((h2.cell _).trans (hwat i (by omega))).trans (by rw [hG])⟩)
      have kd : Hid (Still w wo.drew) := hide (unhide p).drew
      clear hF hG hxat hwat x2 x4 x6 hBa hBb
      have g1 : (0 : Int) ≤ (i : Int) := by omega
      have g2 : (i : Int) < (n : Int) := by omega
      generalize (D i).length = dl at *
      go_wp2_with fail
      go_region_held3 (fun w' => w'.cell? ⟨px, 0, none⟩ = some (.slice (some ⟨xg, 0, none⟩) n xc) ∧ w'.cell? ⟨px, 1, none⟩ = some (.slice (some ⟨wg, 0, none⟩) n wc) ∧ w'.cell? ⟨xg, i, none⟩ = some (.slice a dl c) ∧ w'.cell? ⟨wg, i, none⟩ = some (.slice b dl d)) (go_keep) (first | (go_at_call 17; refine (unhide EQ _ kd).mono ?_; rintro e w5 ⟨rfl, k5, s5⟩))
      all_goals go_wp2
      all_goals go_roundw
      all_goals first | exact ⟨i + 1, by simp, by omega, k5⟩ | (simp only [intOf]; omega)
    · obtain rfl : n = i := by omega
      have f1 : decide ((n : Int) < (n : Int)) = false := decide_eq_false (by omega)
      have f1' : (n < n) = False := eq_false (by omega)
      go_wp2_with fail
      go_loopw [4] (fun iv wr => iv = .int .i64 0 ∧ wr = wo) (fun _ _ => 0)
      case atStart => exact ⟨rfl, rfl⟩
      case round =>
        obtain ⟨rfl, hwo⟩ := hrel
        subst hwo
        rename World => wo
        go_wp2_with fail
        go_loopw [5] (fun iv wr => iv = .int .i64 0 ∧ wr = wo) (fun _ _ => 0)
        case atStart => exact ⟨rfl, rfl⟩
        case round =>
          obtain ⟨rfl, hwo⟩ := hrel
          subst hwo
          rename World => wo
          go_wp2_with fail
          go_loopw [6] (fun iv wr => iv = .int .i64 0 ∧ wr = wo) (fun _ _ => 0)
          case atStart => exact ⟨rfl, rfl⟩
          case round =>
            obtain ⟨rfl, hwo⟩ := hrel
            subst hwo
            go_wp2
            go_ret
            exact ⟨rfl, p⟩
end Go.Proofs.YtidfbelckdlbhabGreat
