/- larderlaw3's spread: what stays while it grows. -/
import Derived.Test.YtidfbelckdlbhabGreatSha
namespace Go.Proofs.YtidfbelckdlbhabGreat
open Go.ChangeShapes Go.WideShapes Go.ChangeAt Go.RowKit
set_option linter.unusedVariables false
set_option maxRecDepth 20000
set_option maxHeartbeats 4000000

theorem SpAt.cells {W : World} {py : Nat} {yv : Value} (h : SpAt W py yv) : W.cell? ⟨py, 0, none⟩ = some yv ∧ W.cell? ⟨py, 1, none⟩ = some (.slice none 0 0) ∧ W.cell? ⟨py, 2, none⟩ = some (.slice none 0 0) ∧ W.cell? ⟨py, 3, none⟩ = some (.slice none 0 0) := by
  unfold SpAt at h
  refine ⟨?_, ?_, ?_, ?_⟩ <;> (rw [cell_of_row _ _ _ _ _ _ h]; rfl)
theorem mark_any (w : World) (py : Nat) (ya : Option Addr) (yc n : Nat) (F : Nat → Value) (L : Nat → Nat) (h : Mk w py (.slice ya n yc) n F L 0 0) (hn : n ≤ 1000000) :
    Calls Tryz.prog 52 #[.pointer (some ⟨py, 0, none⟩)] w fun e w' => e = .returned (.tuple #[]) ∧ Hid (Mk w' py (.slice ya n yc) n F L n 0 ∧ Tch n F w w') := by
  have H := hide h
  clear h
  go_enter Tryz.func52, Tryz.ntmps52
  go_wp2_with fail
  go_loopw [2, 3] (fun iv _ wr => ∃ i : Nat, iv = .int .i64 (i : Nat) ∧ i ≤ n ∧ Hid (Mk wr py (.slice ya n yc) n F L i 0 ∧ Tch n F w wr)) (fun iv _ _ => n - (intOf iv).toNat)
  case atStart => exact ⟨0, rfl, Nat.zero_le _, hide ⟨unhide H, Tch.refl _ _ _⟩⟩
  case round =>
    rename World => wo
    obtain ⟨i, rfl, hi, p⟩ := hrel
    obtain ⟨x0, x1, x2, x3⟩ := (unhide p).1.at'.cells
    rcases Nat.lt_or_ge i n with hlt | hge
    · have f1 : decide ((i : Int) < (n : Int)) = true := decide_eq_true (by omega)
      go_wp2_with fail
      go_loopw [3] (fun kv wr => ∃ k : Nat, kv = .int .i64 (k : Nat) ∧ k ≤ L i ∧ Hid (Mk wr py (.slice ya n yc) n F L i k ∧ Tch n F w wr)) (fun kv _ => L i - (intOf kv).toNat)
      case atStart => exact ⟨0, rfl, Nat.zero_le _, p⟩
      case round =>
        obtain ⟨k, rfl, hk, q⟩ := hrel
        clear x0 x1 x2 x3
        obtain ⟨x0, -, -, -⟩ := (unhide q).1.at'.cells
        obtain ⟨yg, yc', hyv, -, hyl, hyat⟩ := (unhide q).1.row.at (by omega)
        cases hyv
        have xi := hyat i (by omega)
        clear hyat hyl
        obtain ⟨f, hr, -⟩ := (unhide q).1.ent i hlt
        have hlen := (unhide q).1.len i hlt
        rcases Nat.lt_or_ge k (L i) with hkl | hkg
        · have f2 : decide ((k : Int) < (L i : Int)) = true := decide_eq_true (by omega)
          obtain ⟨fb, fc, hFi, hown, hfl, hfat⟩ := hr.at (by omega)
          have xk := hfat k (by omega)
          have hfz : wr.frozen? ⟨fb, k, none⟩ = false := by
            obtain ⟨c, hc⟩ := hr.type fb hown
            simp only [World.frozen?, hc]; simp
          obtain ⟨cc, hcc⟩ := hr.type fb hown
          have n1 : py ≠ fb := fun e => by
            have := (unhide q).1.at'
            unfold SpAt at this
            rw [e, hcc] at this
            cases this
          have n2 : yg ≠ fb := fun e => by
            obtain ⟨c, hc⟩ := (unhide q).1.row.type yg rfl
            rw [e, hcc] at hc
            cases hc
          have PUT := hide ((unhide q).1.put hlt hown)
          have Q2 := hide (unhide q).2
          rw [hFi] at xi
          have SG : Hid (∀ W, Calls Tryz.prog 84 #[.int .i64 (i : Nat), .int .i64 (k : Nat)] W fun e w' => e = .returned (sgV i k) ∧ w' = W) := hide (fun W => sign_any i k W (by omega) (by omega))
          unfold sgV at SG PUT
          clear hr hfat hcc hFi hown
          have m1 : (py == fb) = false := by simp [n1]
          have m2 : (yg == fb) = false := by simp [n2]
          have g1 : (0 : Int) ≤ (i : Int) := by omega
          have g2 : (i : Int) < (n : Int) := by omega
          have g3 : (0 : Int) ≤ (k : Int) := by omega
          have g4 : (k : Int) < (L i : Int) := by omega
          have s1 : (wr.setCell ⟨fb, k, none⟩ (.int .u8 (sgN i k : Nat))).cell? ⟨py, 0, none⟩ = some (.slice (some ⟨yg, 0, none⟩) n yc) := (World.cell?_of_block (w := wr) (setCell_else wr fb k py _ n1)).trans x0
          have s2 : (wr.setCell ⟨fb, k, none⟩ (.int .u8 (sgN i k : Nat))).cell? ⟨yg, i, none⟩ = some (.slice (some ⟨fb, 0, none⟩) (L i) fc) := (World.cell?_of_block (w := wr) (setCell_else wr fb k yg _ n2)).trans xi
          go_wp2_with fail
          go_region_held3 (fun w' => w'.cell? ⟨py, 0, none⟩ = some (.slice (some ⟨yg, 0, none⟩) n yc) ∧ w'.cell? ⟨yg, i, none⟩ = some (.slice (some ⟨fb, 0, none⟩) (L i) fc)) (first | exact ⟨s1, s2⟩ | go_keep) (first | (go_at_call 84; refine (unhide SG _).mono ?_; rintro e w5 ⟨rfl, rfl⟩))
          all_goals go_wp2
          all_goals go_roundw
          all_goals first | exact ⟨k + 1, by simp, by omega, hide ⟨(unhide PUT).1.below (Below.drew (Below.refl _ _)), (unhide Q2).trans ((unhide PUT).2.trans (Tch.below (Below.drew (Below.refl _ _))))⟩⟩ | (simp only [intOf]; omega)
        · have hkk : k = L i := by omega
          have f2 : decide ((k : Int) < (L i : Int)) = false := decide_eq_false (by omega)
          have f2' : (k < L i) = False := eq_false (by omega)
          have q2 := hide (And.intro ((unhide q).1.next (by omega)) (unhide q).2)
          obtain ⟨fa, fc, hFi⟩ := hr.shape
          rw [hFi] at xi
          clear hkk hr hFi
          go_wp2
          all_goals go_roundw
          all_goals first | exact ⟨i + 1, by simp, by omega, q2⟩ | (simp only [intOf]; omega)
    · obtain rfl : n = i := by omega
      have f1 : decide ((n : Int) < (n : Int)) = false := decide_eq_false (by omega)
      have f1' : (n < n) = False := eq_false (by omega)
      go_wp2_with fail
      go_loopw [4, 5] (fun iv _ wr => iv = .int .i64 0 ∧ wr = wo) (fun _ _ _ => 0)
      case atStart => exact ⟨rfl, rfl⟩
      case round =>
        obtain ⟨rfl, hwo⟩ := hrel
        subst hwo
        rename World => wo
        go_wp2_with fail
        go_loopw [6, 7] (fun iv _ wr => iv = .int .i64 0 ∧ wr = wo) (fun _ _ _ => 0)
        case atStart => exact ⟨rfl, rfl⟩
        case round =>
          obtain ⟨rfl, hwo⟩ := hrel
          subst hwo
          rename World => wo
          go_wp2_with fail
          go_loopw [8, 9] (fun iv _ wr => iv = .int .i64 0 ∧ wr = wo) (fun _ _ _ => 0)
          case atStart => exact ⟨rfl, rfl⟩
          case round =>
            obtain ⟨rfl, hwo⟩ := hrel
            subst hwo
            go_wp2
            go_end0
            exact ⟨rfl, p⟩
end Go.Proofs.YtidfbelckdlbhabGreat
namespace Go.Proofs.YtidfbelckdlbhabGreat
open Go.ChangeShapes Go.WideShapes Go.ChangeAt Go.RowKit
set_option linter.unusedVariables false
set_option maxRecDepth 20000
set_option maxHeartbeats 4000000

/-- all lists hold their marks -/
structure Md (W : World) (py : Nat) (yv : Value) (n : Nat) (F : Nat → Value) (L : Nat → Nat) : Prop where
  at' : SpAt W py yv
  row : Rws W 34 1 yv n F
  ent : ∀ j, j < n → Rws W 5 1 (F j) (L j) (sgV j)
  len : ∀ j, j < n → L j ≤ 8388608 + 96
theorem Mk.md {W : World} {py : Nat} {yv : Value} {n : Nat} {F : Nat → Value} {L : Nat → Nat} (h : Mk W py yv n F L n 0) : Md W py yv n F L :=
  ⟨h.at', h.row, fun j hj => by
    obtain ⟨f, h1, h2⟩ := h.ent j hj
    exact h1.congr (fun q hq => h2 q (by omega) (.inl hj)), fun j hj => Nat.le_trans (h.len j hj) (by omega)⟩
theorem marked_any (w : World) (py : Nat) (ya : Option Addr) (yc n : Nat) (F : Nat → Value) (L : Nat → Nat) (h : Md w py (.slice ya n yc) n F L) (hn : n ≤ 1000000) :
    Calls Tryz.prog 54 #[.pointer (some ⟨py, 0, none⟩)] w fun e w' => e = .returned (.bool true) ∧ Hid (∃ m, w' = w.drewN m) := by
  have H := hide h
  obtain ⟨X0, X1, X2, X3⟩ := h.at'.cells
  clear h
  go_enter Tryz.func54, Tryz.ntmps54
  go_wp2_with fail
  go_loopw [3, 4] (fun iv _ wr => ∃ i : Nat, iv = .int .i64 (i : Nat) ∧ i ≤ n ∧ Hid (∃ m, wr = w.drewN m)) (fun iv _ _ => n - (intOf iv).toNat)
  case atStart => exact ⟨0, rfl, Nat.zero_le _, hide ⟨0, rfl⟩⟩
  case round =>
    rename World => wo
    obtain ⟨i, rfl, hi, p⟩ := hrel
    have hco : ∀ x, wo.cell? x = w.cell? x := fun x => by obtain ⟨m, rfl⟩ := unhide p; rfl
    have x0 := (hco ⟨py, 0, none⟩).trans X0
    have x1 := (hco ⟨py, 1, none⟩).trans X1
    have x2 := (hco ⟨py, 2, none⟩).trans X2
    have x3 := (hco ⟨py, 3, none⟩).trans X3
    clear hco
    rcases Nat.lt_or_ge i n with hlt | hge
    · have f1 : decide ((i : Int) < (n : Int)) = true := decide_eq_true (by omega)
      obtain ⟨yg, yc', hyv, -, hyl, hyat⟩ := (unhide H).row.at (by omega)
      cases hyv
      have XI := hyat i (by omega)
      clear hyat hyl
      obtain ⟨fa, fc, hFi⟩ := ((unhide H).ent i hlt).shape
      rw [hFi] at XI
      have HE : Hid (∀ k, k < L i → ∃ fb, fa = some ⟨fb, 0, none⟩ ∧ w.cell? ⟨fb, k, none⟩ = some (sgV i k)) := hide (fun k hk => by
        obtain ⟨fb, fc2, h1, _, _, h2⟩ := ((unhide H).ent i hlt).at (by omega)
        rw [hFi] at h1
        cases h1
        exact ⟨fb, rfl, h2 k (by omega)⟩)
      have hlen := (unhide H).len i hlt
      clear x1 x2 x3 hFi
      go_wp2_with fail
      go_loopw [4] (fun kv wr => ∃ k : Nat, kv = .int .i64 (k : Nat) ∧ k ≤ L i ∧ Hid (∃ m, wr = w.drewN m)) (fun kv _ => L i - (intOf kv).toNat)
      case atStart => exact ⟨0, rfl, Nat.zero_le _, p⟩
      case round =>
        obtain ⟨k, rfl, hk, q⟩ := hrel
        have hco : ∀ x, wr.cell? x = w.cell? x := fun x => by obtain ⟨m, rfl⟩ := unhide q; rfl
        have y0 := (hco ⟨py, 0, none⟩).trans X0
        have yi := (hco ⟨yg, i, none⟩).trans XI
        rcases Nat.lt_or_ge k (L i) with hkl | hkg
        · have f2 : decide ((k : Int) < (L i : Int)) = true := decide_eq_true (by omega)
          obtain ⟨fb, rfl, hfk⟩ := unhide HE k hkl
          have yk := (hco ⟨fb, k, none⟩).trans hfk
          have SG : Hid (∀ W, Calls Tryz.prog 84 #[.int .i64 (i : Nat), .int .i64 (k : Nat)] W fun e w' => e = .returned (sgV i k) ∧ w' = W) := hide (fun W => sign_any i k W (by omega) (by omega))
          unfold sgV at SG yk
          generalize sgN i k = c at *
          clear hco hfk x0
          have g1 : (0 : Int) ≤ (i : Int) := by omega
          have g2 : (i : Int) < (n : Int) := by omega
          have g3 : (0 : Int) ≤ (k : Int) := by omega
          have g4 : (k : Int) < (L i : Int) := by omega
          go_wp2_with fail
          go_region_held3 (fun w' => w'.cell? ⟨py, 0, none⟩ = some (.slice (some ⟨yg, 0, none⟩) n yc) ∧ w'.cell? ⟨yg, i, none⟩ = some (.slice (some ⟨fb, 0, none⟩) (L i) fc) ∧ w'.cell? ⟨fb, k, none⟩ = some (.int .u8 (c : Nat))) (go_keep) (first | (go_at_call 84; refine (unhide SG _).mono ?_; rintro e w5 ⟨rfl, rfl⟩))
          all_goals go_wp2
          all_goals go_roundw
          all_goals first | exact ⟨k + 1, by simp, by omega, hide (by obtain ⟨m, rfl⟩ := unhide q; exact ⟨m + 1, rfl⟩)⟩ | (simp only [intOf]; omega)
        · have f2 : decide ((k : Int) < (L i : Int)) = false := decide_eq_false (by omega)
          have f2' : (k < L i) = False := eq_false (by omega)
          clear hco x0
          go_wp2
          all_goals go_roundw
          all_goals first | exact ⟨i + 1, by simp, by omega, q⟩ | (simp only [intOf]; omega)
    · obtain rfl : n = i := by omega
      have f1 : decide ((n : Int) < (n : Int)) = false := decide_eq_false (by omega)
      have f1' : (n < n) = False := eq_false (by omega)
      go_wp2_with fail
      go_loopw [5, 6] (fun iv _ wr => iv = .int .i64 0 ∧ wr = wo) (fun _ _ _ => 0)
      case atStart => exact ⟨rfl, rfl⟩
      case round =>
        obtain ⟨rfl, hwo⟩ := hrel
        subst hwo
        rename World => wo
        go_wp2_with fail
        go_loopw [7, 8] (fun iv _ wr => iv = .int .i64 0 ∧ wr = wo) (fun _ _ _ => 0)
        case atStart => exact ⟨rfl, rfl⟩
        case round =>
          obtain ⟨rfl, hwo⟩ := hrel
          subst hwo
          rename World => wo
          go_wp2_with fail
          go_loopw [9, 10, 11] (fun iv _ _ wr => iv = .int .i64 0 ∧ wr = wo) (fun _ _ _ _ => 0)
          case atStart => exact ⟨rfl, rfl⟩
          case round =>
            obtain ⟨rfl, hwo⟩ := hrel
            subst hwo
            go_wp2
            go_ret
            exact ⟨rfl, p⟩
end Go.Proofs.YtidfbelckdlbhabGreat
namespace Go.Proofs.YtidfbelckdlbhabGreat
open Go.ChangeShapes Go.WideShapes Go.ChangeAt Go.RowKit
set_option linter.unusedVariables false
set_option maxRecDepth 20000
set_option maxHeartbeats 2000000

/-- i lists have grown; they lie in the second spread -/
structure Gn (w0 wr : World) (py : Nat) (yv : Value) (n : Nat) (F : Nat → Value) (L : Nat → Nat) (pz : Nat) (zv : Value) (i : Nat) (Z : Nat → Value) : Prop where
  ya : SpAt wr py yv
  yr : Rws wr 34 1 yv n F
  ye : ∀ j, j < n → Rws wr 5 1 (F j) (L j) (sgV j)
  one : ∀ i j g, i < n → j < n → (F i).ownBlock = some g → (F j).ownBlock = some g → i = j
  len : ∀ j, j < n → L j ≤ 8388608
  za : SpAt wr pz zv
  zr : Rws wr 34 1 zv i Z
  ze : ∀ j, j < i → Rws wr 5 1 (Z j) (L j + 96) (sgV j)
  zo : ∀ j g k, j < i → (Z j).ownBlock = some g → k < n → k ≠ j → (F k).ownBlock ≠ some g
  yz : ∀ g, yv.ownBlock = some g → zv.ownBlock ≠ some g
  tc : Tch n F w0 wr
  pB : w0.heap.size ≤ pz
  zB : ∀ g, zv.ownBlock = some g → w0.heap.size ≤ g
/-- list i, of which k have been put behind it -/
structure In (ws wr : World) (F : Nat → Value) (L : Nat → Nat) (lv : Value) (i k : Nat) : Prop where
  os : wr.os = ws.os
  tape : wr.tape = ws.tape
  output : wr.output = ws.output
  size : ws.heap.size ≤ wr.heap.size
  blk : ∀ b, b < ws.heap.size → (F i).ownBlock ≠ some b → wr.heap[b]? = ws.heap[b]?
  fi : Rws wr 5 1 (F i) (L i) (sgV i)
  lr : Rws wr 5 1 lv (L i + k) (sgV i)
  lo : ∀ g, lv.ownBlock = some g → (F i).ownBlock = some g ∨ ws.heap.size ≤ g
theorem In.start {w0 wr : World} {py : Nat} {yv : Value} {n : Nat} {F : Nat → Value} {L : Nat → Nat} {pz : Nat} {zv : Value} {i : Nat} {Z : Nat → Value} (h : Gn w0 wr py yv n F L pz zv i Z) (hi : i < n) : In wr wr F L (F i) i 0 :=
  ⟨rfl, rfl, rfl, Nat.le_refl _, fun _ _ _ => rfl, h.ye i hi, h.ye i hi, fun g hg => .inl hg⟩
theorem In.below {ws wr w1 : World} {F : Nat → Value} {L : Nat → Nat} {lv : Value} {i k : Nat} (h : In ws wr F L lv i k) (hb : Below wr.heap.size wr w1) : In ws w1 F L lv i k :=
  ⟨hb.os.trans h.os, hb.tape.trans h.tape, hb.output.trans h.output, Nat.le_trans h.size hb.size, fun b hbb hF => (hb.block b (Nat.lt_of_lt_of_le hbb h.size)).trans (h.blk b hbb hF), h.fi.below hb, h.lr.below hb, h.lo⟩
theorem In.more {ws wr w1 : World} {F : Nat → Value} {L : Nat → Nat} {lv lv' : Value} {i k : Nat} (h : In ws wr F L lv i k) (hN : Rws w1 5 1 lv' (L i + k + 1) (fun q => if q < (L i + k) * 1 then sgV i q else [sgV i (L i + k)].getD (q - (L i + k) * 1) undef)) (hG : Gr 5 ((L i + k) * 1) [sgV i (L i + k)].length wr w1 lv lv') : In ws w1 F L lv' i (k + 1) := by
  refine ⟨hG.os.trans h.os, hG.tape.trans h.tape, hG.output.trans h.output, Nat.le_trans h.size hG.size, fun b hb hF => ?_, ?_, ?_, fun g hg => ?_⟩
  · rw [hG.other b (Nat.lt_of_lt_of_le hb h.size) (fun e => ?_), h.blk b hb hF]
    rcases h.lo b e with e2 | e2
    · exact hF e2
    · omega
  · rcases hG.how with ⟨g, cur, cur', h1, _, hc, hc', hz, hj, _, hk⟩ | ⟨_, _, hk⟩
    · by_cases e : (F i).ownBlock = some g
      · rcases h.fi with h0 | ⟨g', cap, cu, hv, hg', hn, hm, hs, hh⟩
        · exact .inl h0
        · have : g' = g := by rw [hv] at e; simpa [Value.ownBlock] using e
          subst this
          rw [hc] at hg'
          cases hg'
          exact .inr ⟨g', cap, cur', hv, hc', hn, hm, by omega, fun q hq => by rw [hj q (.inl (by omega)), hh q hq]⟩
      · exact h.fi.same (fun x hx => hk x (fun e2 => e (by rw [← e2]; exact hx)))
    · exact h.fi.same (fun x hx => hk x (h.fi.lt x hx))
  · rw [show L i + (k + 1) = L i + k + 1 by omega]
    refine hN.congr (fun q hq => ?_)
    rw [Nat.mul_one]
    by_cases e : q < L i + k
    · simp only [if_pos e]
    · have : q = L i + k := by omega
      subst this
      simp
  · rcases hG.how with ⟨g', cur, cur', h1, h2, _⟩ | ⟨h2, _⟩
    · rw [hg] at h2
      cases h2
      exact h.lo g h1
    · rw [hg] at h2
      cases h2
      exact .inr h.size
/-- what stands beside list i while it grows -/
theorem Gn.beside {w0 ws wr : World} {py : Nat} {yv : Value} {n : Nat} {F : Nat → Value} {L : Nat → Nat} {pz : Nat} {zv lv : Value} {i k : Nat} {Z : Nat → Value} (h : Gn w0 ws py yv n F L pz zv i Z) (hi : i < n) (hI : In ws wr F L lv i k) : Gn w0 wr py yv n F L pz zv i Z := by
  have fb : ∀ (b : Nat) (t : TypeId) (c : Array Value), t ≠ 5 → ws.heap[b]? = some (.cells c t (0, 0)) → wr.heap[b]? = some (.cells c t (0, 0)) := fun b t c ht hb => by
    rw [hI.blk b (block_lt hb) (fun e => by
      obtain ⟨c', hc'⟩ := (h.ye i hi).type b e
      rw [hb] at hc'
      cases hc'
      exact ht rfl)]
    exact hb
  have rw' : ∀ {v : Value} {m : Nat} {f : Nat → Value}, Rws ws 34 1 v m f → Rws wr 34 1 v m f := fun {v m f} hv => hv.same (fun g hg => by
    obtain ⟨c, hc⟩ := hv.type g hg
    rw [fb g 34 c (by decide) hc, hc])
  refine ⟨fb _ 107 _ (by decide) h.ya, rw' h.yr, fun j hj => ?_, h.one, h.len, fb _ 107 _ (by decide) h.za, rw' h.zr, fun j hj => ?_, h.zo, h.yz, h.tc.trans ⟨hI.os, hI.tape, hI.output, hI.size, fun b hb hF => hI.blk b hb (hF i hi)⟩, h.pB, h.zB⟩
  · by_cases e : j = i
    · subst e; exact hI.fi
    · refine (h.ye j hj).same (fun g hg => hI.blk g ((h.ye j hj).lt g hg) (fun e2 => e (h.one j i g hj hi hg e2)))
  · refine (h.ze j hj).same (fun g hg => hI.blk g ((h.ze j hj).lt g hg) (h.zo j g i hj hg hi (by omega)))
theorem Gn.below {w0 wr w1 : World} {py : Nat} {yv : Value} {n : Nat} {F : Nat → Value} {L : Nat → Nat} {pz : Nat} {zv : Value} {i : Nat} {Z : Nat → Value} (h : Gn w0 wr py yv n F L pz zv i Z) (hb : Below wr.heap.size wr w1) : Gn w0 w1 py yv n F L pz zv i Z :=
  ⟨by unfold SpAt; rw [hb.block _ (block_lt h.ya)]; exact h.ya, h.yr.below hb, fun j hj => (h.ye j hj).below hb, h.one, h.len, by unfold SpAt; rw [hb.block _ (block_lt h.za)]; exact h.za, h.zr.below hb, fun j hj => (h.ze j hj).below hb, h.zo, h.yz, h.tc.trans (Tch.below hb), h.pB, h.zB⟩
/-- list i is laid into the second spread -/
theorem Gn.next {w0 ws wr w1 : World} {py : Nat} {yv : Value} {n : Nat} {F : Nat → Value} {L : Nat → Nat} {pz : Nat} {zv zv' lv : Value} {i : Nat} {Z : Nat → Value} (h0 : Gn w0 ws py yv n F L pz zv i Z) (hp : py ≠ pz) (hi : i < n) (hI : In ws wr F L lv i 96)
    (hN : Rws w1 34 1 zv' (i + 1) (fun q => if q < i * 1 then Z q else [lv].getD (q - i * 1) undef)) (hG : Gr 34 (i * 1) [lv].length (wr.alloc (.cells #[lv] 34)) w1 zv zv') :
    Gn w0 (w1.setCell ⟨pz, 0, none⟩ zv') py yv n F L pz zv' (i + 1) (fun j => if j < i then Z j else lv) ∧ w1.cell? ⟨pz, 0, none⟩ = some zv ∧ w1.frozen? ⟨pz, 0, none⟩ = false := by
  have b1 : Below wr.heap.size wr (wr.alloc (.cells #[lv] 34)) := (Below.refl _ _).alloc (Nat.le_refl _) _
  have h := (h0.beside hi hI).below b1
  have hI1 := hI.below b1
  have ol : ∀ (b : Nat) (t : TypeId) (c : Array Value), t ≠ 34 → (wr.alloc (.cells #[lv] 34)).heap[b]? = some (.cells c t (0, 0)) → w1.heap[b]? = some (.cells c t (0, 0)) := fun b t c ht hb => by
    rw [hG.other b (block_lt hb) (fun e => by
      obtain ⟨c', hc'⟩ := h.zr.type b e
      rw [hb] at hc'
      cases hc'
      exact ht rfl)]
    exact hb
  have hz1 := ol _ 107 _ (by decide) h.za
  have hy1 := ol _ 107 _ (by decide) h.ya
  have st : ∀ (b : Nat) (c : Array Value) (t : TypeId) (fr : Nat × Nat), b ≠ pz → w1.heap[b]? = some (.cells c t fr) → (w1.setCell ⟨pz, 0, none⟩ zv').heap[b]? = some (.cells c t fr) := fun b c t fr hb hc => by rw [setCell_else _ _ _ _ _ hb]; exact hc
  have t5 : ∀ {v : Value} {m : Nat} {f : Nat → Value}, Rws (wr.alloc (.cells #[lv] 34)) 5 1 v m f → Rws (w1.setCell ⟨pz, 0, none⟩ zv') 5 1 v m f := fun {v m f} hv => hv.same (fun g hg => by
    obtain ⟨c, hc⟩ := hv.type g hg
    rw [st g c 5 _ (fun e => by have h5 := ol g 5 c (by decide) hc; rw [e, hz1] at h5; cases h5) (ol g 5 c (by decide) hc), hc])
  refine ⟨⟨?_, ?_, fun j hj => t5 (h.ye j hj), h.one, h.len, ?_, ?_, fun j hj => ?_, fun j g k hj hg hk hne => ?_, fun g hg => ?_, ?_, h.pB, hG.own _ (Nat.le_trans h.tc.size (Nat.le_refl _)) h.zB⟩, ?_, ?_⟩
  · unfold SpAt; exact st _ _ _ _ hp hy1
  · refine h.yr.same (fun g hg => ?_)
    obtain ⟨c, hc⟩ := h.yr.type g hg
    rw [setCell_else _ _ _ _ _ (fun e => ?_), hG.other g (block_lt hc) (h.yz g hg)]
    have h3 := hG.other g (block_lt hc) (h.yz g hg)
    rw [hc, e, hz1] at h3
    cases h3
  · unfold SpAt
    rw [setCell_block w1 pz 0 zv' _ _ _ hz1]
    rfl
  · refine (hN.congr (fun q hq => ?_)).same (fun g hg => ?_)
    · rw [Nat.mul_one]
      by_cases e : q < i
      · simp only [if_pos e]
      · have : q = i := by omega
        subst this
        simp
    · obtain ⟨c, hc⟩ := hN.type g hg
      rw [setCell_else _ _ _ _ _ (fun e => ?_)]
      rw [e, hz1] at hc
      cases hc
  · by_cases e : j < i
    · simp only [if_pos e]; exact t5 (h.ze j e)
    · have : j = i := by omega
      subst this
      simp only [if_neg e]
      exact t5 hI1.lr
  · by_cases e : j < i
    · simp only [if_pos e] at hg
      exact h.zo j g k e hg hk hne
    · have : j = i := by omega
      subst this
      simp only [if_neg e] at hg
      intro e2
      rcases hI.lo g hg with e3 | e3
      · exact hne (h0.one k j g hk hi e2 e3)
      · have := (h0.ye k hk).lt g e2
        omega
  · intro e
    rcases hG.how with ⟨g', c, c', h1, h2, _⟩ | ⟨h2, _⟩
    · rw [e] at h2
      cases h2
      exact h.yz g hg h1
    · rw [e] at h2
      cases h2
      have := h.yr.lt _ hg
      omega
  · have hpB := h.pB
    refine ⟨hG.os.trans h.tc.os, hG.tape.trans h.tc.tape, hG.output.trans h.tc.output, ?_, fun b hb hF => ?_⟩
    · simp only [World.setCell, Array.size_modify]; exact Nat.le_trans h.tc.size hG.size
    · rw [setCell_else _ _ _ _ _ (by omega), hG.other b (Nat.lt_of_lt_of_le hb h.tc.size) (fun e => by have := h.zB b e; omega), h.tc.blk b hb hF]
  · rw [cell_of_row _ _ _ _ _ _ hz1]; rfl
  · simp only [World.frozen?, hz1]; simp
end Go.Proofs.YtidfbelckdlbhabGreat
