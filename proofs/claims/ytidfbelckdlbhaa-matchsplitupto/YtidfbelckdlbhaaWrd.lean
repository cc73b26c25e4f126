/- MatchClass: the law. -/
import Derived.Test.YtidfbelckdlbhaaWrc
import Derived.Test.YtidfbelckdlbhaaWak
namespace Go.Proofs.Ytidfbelckdlbhaa
open Go.ChangeShapes Go.WideShapes Go.ChangeAt Go.RowKit
set_option linter.unusedVariables false
set_option linter.unusedSimpArgs false
set_option maxRecDepth 20000
set_option maxHeartbeats 2000000

def PcOk (x : Larder.Pcd) : Prop := x.b < 256 ∧ x.ms.length ≤ 35184372088832 ∧ MsSmall x.ms
/-- pieces that came in -/
def PcsAt (W : World) (a : Option Addr) (xs : List Larder.Pcd) : Prop := xs = [] ∨ ∃ b off, a = some ⟨b, off, none⟩ ∧ b < W.heap.size ∧ ∀ i x, xs[i]? = some x → PcOk x ∧ ∃ am cm, MsAt W am x.ms ∧ W.cell? ⟨b, off + i * 4, none⟩ = some (.int .i64 x.d) ∧ W.cell? ⟨b, off + i * 4 + 1, none⟩ = some (.int .u8 (x.b : Nat)) ∧ W.cell? ⟨b, off + i * 4 + 2, none⟩ = some (.bool x.nt) ∧ W.cell? ⟨b, off + i * 4 + 3, none⟩ = some (.slice am x.ms.length cm)
theorem PcsAt.below {W W' : World} {a : Option Addr} {xs : List Larder.Pcd} (h : PcsAt W a xs) (hb : Below W.heap.size W W') : PcsAt W' a xs := by
  rcases h with h | ⟨b, off, rfl, hlt, hc⟩
  · exact .inl h
  · refine .inr ⟨b, off, rfl, Nat.lt_of_lt_of_le hlt hb.size, fun i x hx => ?_⟩
    obtain ⟨ho, am, cm, hm, h1, h2, h3, h4⟩ := hc i x hx
    exact ⟨ho, am, cm, hm.below hb, (hb.cell (p := ⟨b, off + i * 4, none⟩) hlt).trans h1, (hb.cell (p := ⟨b, off + i * 4 + 1, none⟩) hlt).trans h2, (hb.cell (p := ⟨b, off + i * 4 + 2, none⟩) hlt).trans h3, (hb.cell (p := ⟨b, off + i * 4 + 3, none⟩) hlt).trans h4⟩
theorem small_all {l : List Nat} (h : ∀ y ∈ l, y < 256) : Small l := fun j hj => h _ (by rw [List.getD_eq_getElem?_getD, List.getElem?_eq_getElem hj]; exact List.getElem_mem hj)
theorem mem_small (m : Larder.Mb) (h : m.lo < 256 ∧ m.hi < 256) : ∀ y ∈ Larder.memL m, y < 256 := by
  have sp : ∀ c p, c < 256 → ∀ y ∈ Larder.spellL c p, y < 256 := by
    intro c p hc y hy
    unfold Larder.spellL at hy
    split at hy <;> simp at hy <;> omega
  intro y hy
  unfold Larder.memL at hy
  rcases List.mem_append.1 hy with h1 | h1
  · exact sp _ _ h.1 y h1
  · split at h1
    · rcases List.mem_cons.1 h1 with rfl | h2
      · decide
      · exact sp _ _ h.2 y h2
    · cases h1
theorem small_write (x : Larder.Pcd) (hb : x.b < 256) (hs : MsSmall x.ms) : Small (Larder.writeL x) := by
  refine small_all ?_
  intro y hy
  unfold Larder.writeL at hy
  split at hy
  · simp at hy; omega
  split at hy
  · simp at hy; omega
  split at hy
  · simp at hy; omega
  rcases List.mem_cons.1 hy with rfl | hy
  · decide
  rcases List.mem_append.1 hy with h1 | h1
  · split at h1
    · simp at h1; omega
    · cases h1
  rcases List.mem_append.1 h1 with h2 | h2
  · obtain ⟨m, hm, hy⟩ := List.mem_flatMap.1 h2
    exact mem_small m (hs m hm) y hy
  · simp at h2; omega
theorem parse_write (b : Nat) (nt : Bool) (ms : List Larder.Mb) : Larder.parse (Larder.writeL ⟨3, b, nt, ms⟩) = [some (fun c => Larder.fitsL ms c != nt)] := by
  have h := Larder.parse_pat [⟨3, b, nt, ms⟩]
  have e : Larder.patL [⟨3, b, nt, ms⟩] = Larder.writeL ⟨3, b, nt, ms⟩ := by simp [Larder.patL]
  rw [e] at h
  rw [h]
  simp [Larder.pieceL]
/-- Glob of a class at any short text -/
theorem glob_class (la a : Option Addr) (lc c : Nat) (b : Nat) (nt : Bool) (ms : List Larder.Mb) (T : List Nat) (W : World) (ans : Bool) (hb : b < 256) (hs : MsSmall ms) (hp : (Larder.writeL ⟨3, b, nt, ms⟩).length ≤ 1073741824) (hT : T.length ≤ 2) (hS : Small T) (hB : Bytes W la (Larder.writeL ⟨3, b, nt, ms⟩)) (hBT : Bytes W a T) (ha : ans = true ↔ Larder.Meets [some (fun c => Larder.fitsL ms c != nt)] T) :
    Calls Try.prog 11 #[.slice la (Larder.writeL ⟨3, b, nt, ms⟩).length lc, .slice a T.length c] W fun e w' => e = .returned (.bool ans) ∧ Below W.heap.size W w' := by
  refine (glob_any la a lc c W _ T hp (by omega) (small_write ⟨3, b, nt, ms⟩ hb hs) hS hB hBT).mono ?_
  rintro e w' ⟨r, rfl, hr, hbl⟩
  rw [parse_write] at hr
  have : r = ans := by
    rcases Bool.eq_false_or_eq_true r with h1 | h1 <;> rcases Bool.eq_false_or_eq_true ans with h2 | h2
    · rw [h1, h2]
    · rw [ha.2 (hr.1 h1)] at h2; cases h2
    · rw [hr.2 (ha.1 h2)] at h1; cases h1
    · rw [h1, h2]
  rw [this]
  exact ⟨rfl, hbl⟩
/-- where the class's pieces lie in a round, behind write -/
structure Rnd (w WP : World) (xb : Nat) (la : Option Addr) (b : Nat) (nt : Bool) (ms : List Larder.Mb) (am : Option Addr) (cm : Nat) : Prop where
  bytes : Bytes WP la (Larder.writeL ⟨3, b, nt, ms⟩)
  mems : MsAt WP am ms
  box : WP.heap[xb]? = some (.cells #[.int .i64 3, .int .u8 (b : Nat), .bool nt, .slice am ms.length cm] 38 (0, 0))
theorem Rnd.below {w WP W : World} {xb : Nat} {la am : Option Addr} {b cm : Nat} {nt : Bool} {ms : List Larder.Mb} (h : Rnd w WP xb la b nt ms am cm) (hb : Below WP.heap.size WP W) : Rnd w W xb la b nt ms am cm := ⟨h.bytes.below hb, h.mems.below hb, (hb.block xb (Array.getElem?_eq_some_iff.1 h.box).1).trans h.box⟩
def XC (W : World) (xb b : Nat) (nt : Bool) (n : Nat) (am : Option Addr) (cm : Nat) : Prop := W.cell? ⟨xb, 0, none⟩ = some (.int .i64 3) ∧ W.cell? ⟨xb, 1, none⟩ = some (.int .u8 (b : Nat)) ∧ W.cell? ⟨xb, 2, none⟩ = some (.bool nt) ∧ W.cell? ⟨xb, 3, none⟩ = some (.slice am n cm)
theorem Rnd.cells {w WP : World} {xb : Nat} {la am : Option Addr} {b cm : Nat} {nt : Bool} {ms : List Larder.Mb} (h : Rnd w WP xb la b nt ms am cm) : XC WP xb b nt ms.length am cm := by
  unfold XC
  rw [cell_of_row _ _ _ _ _ _ h.box, cell_of_row _ _ _ _ _ _ h.box, cell_of_row _ _ _ _ _ _ h.box, cell_of_row _ _ _ _ _ _ h.box]
  exact ⟨rfl, rfl, rfl, rfl⟩
theorem class_any (aP aQ aT : Option Addr) (cP nQ cQ nT cT : Nat) (xs : List Larder.Pcd) (w : World) (hx : xs.length ≤ 4611686018427387904) (hP : PcsAt w aP xs) :
    Calls Try.prog 4 #[.agg #[.slice aP xs.length cP, .slice aQ nQ cQ, .slice aT nT cT]] w fun e w' => e = .returned (.bool true) ∧ Below w.heap.size w w' := by
  obtain ⟨A, hA⟩ : ∃ A : Array Value, A = #[.slice aP xs.length cP, .slice aQ nQ cQ, .slice aT nT cT] := ⟨_, rfl⟩
  have bx : Below w.heap.size w (w.alloc (.cells A 35)) := (Below.refl _ _).alloc (Nat.le_refl _) _
  have br := heap_alloc_new w (.cells A 35)
  have hsz : (w.alloc (.cells A 35)).heap.size = w.heap.size + 1 := by simp
  have kx : Hid (∀ W : World, W.heap[w.heap.size]? = some (.cells A 35 (0, 0)) → W.cell? ⟨w.heap.size, 0, none⟩ = some (.slice aP xs.length cP)) := hide (fun W h => by
    rw [cell_of_row _ _ _ _ _ _ h, hA]; rfl)
  have BO : Hid (∀ W, Hid (Below (w.heap.size + 1) (w.alloc (.cells A 35)) W) → Below w.heap.size w W ∧ W.cell? ⟨w.heap.size, 0, none⟩ = some (.slice aP xs.length cP) ∧ w.heap.size + 1 ≤ W.heap.size) := hide (fun W h => ⟨bx.trans ((unhide h).mono (by omega)), unhide kx W (((unhide h).block _ (by omega)).trans br), by have := (unhide h).size; rw [hsz] at this; exact this⟩)
  have W0 : Hid (Calls Try.prog 8 #[] (w.alloc (.cells A 35)) fun e w' => e = .returned (.bool true) ∧ Hid (Below (w.heap.size + 1) (w.alloc (.cells A 35)) w') ∧ w'.cell? ⟨w.heap.size, 0, none⟩ = some (.slice aP xs.length cP)) := hide ((wakes_any _).mono (fun e w' ⟨h1, h2⟩ => by
    rw [hsz] at h2
    exact ⟨h1, hide h2, (unhide BO _ (hide h2)).2.1⟩))
  have HP := hide hP
  clear bx br hsz kx hP
  subst hA
  go_enter Try.func4, Try.ntmps4
  go_wp2_with (go_at_call 8; refine (unhide W0).mono ?_; rintro e w1 ⟨rfl, k1, x1⟩)
  go_loopw [3, 4, 5, 6] (fun iv _ _ _ wr => ∃ i : Nat, iv = .int .i64 (i : Nat) ∧ i ≤ xs.length ∧ i ≤ 40 ∧ Hid (Below (w.heap.size + 1) (w.alloc (.cells #[.slice aP xs.length cP, .slice aQ nQ cQ, .slice aT nT cT] 35)) wr)) (fun iv _ _ _ _ => xs.length - (intOf iv).toNat)
  case atStart => exact ⟨0, rfl, Nat.zero_le _, by omega, k1⟩
  case round =>
    rename World => wo
    obtain ⟨i, rfl, hi, hi40, K⟩ := hrel
    obtain ⟨b1, x2, b3⟩ := unhide BO _ K
    have HB1 := hide b1
    have HB3 := hide b3
    clear b1 b3 x1 k1 W0
    by_cases hlt : i < xs.length
    · by_cases h40 : i < 40
      · obtain ⟨x, hxi⟩ : ∃ x, xs[i]? = some x := ⟨_, List.getElem?_eq_getElem hlt⟩
        have di : decide ((i : Int) < (xs.length : Int)) = true := decide_eq_true (by omega)
        have dj : decide ((i : Int) < 40) = true := decide_eq_true (by omega)
        rcases (unhide HP).below (unhide HB1) with h | ⟨mb, mo, rfl, hmb, hmc⟩
        · rw [h] at hlt; simp at hlt
        obtain ⟨⟨ok1, ok2, ok3⟩, am, cm, hma, y1, y2, y3, y4⟩ := hmc i x hxi
        obtain ⟨d, b, nt, ms⟩ := x
        dsimp only at y1 y2 y3 y4 ok1 ok2 ok3 hma
        have HMA := hide hma
        have HOK3 := hide ok3
        clear hmc hmb hma ok3
        obtain ⟨np, hnp⟩ : ∃ np, np = (Larder.writeL ⟨3, b, nt, ms⟩).length := ⟨_, rfl⟩
        obtain ⟨ff, hff⟩ : ∃ ff : Nat → Bool, ff = fun y => Larder.fitsL ms y != nt := ⟨_, rfl⟩
        obtain ⟨WS, hWS⟩ : ∃ WS, WS = w.alloc (.cells #[.slice (some ⟨mb, mo, none⟩) xs.length cP, .slice aQ nQ cQ, .slice aT nT cT] 35) := ⟨_, rfl⟩
        have WR : Hid (Calls Try.prog 10 #[.agg #[.int .i64 3, .int .u8 (b : Nat), .bool nt, .slice am ms.length cm]] (wo.alloc (.cells #[.int .i64 3, .int .u8 (b : Nat), .bool nt, .slice am ms.length cm] 38)) fun e w' => ∃ la lc, e = .returned (.slice la np lc) ∧ Hid (Rnd w w' wo.heap.size la b nt ms am cm ∧ Below (w.heap.size + 1) WS w')) := hide (by
          refine (write_any ⟨3, b, nt, ms⟩ am cm _ ok1 ok2 (unhide HOK3) ((unhide HMA).below ((Below.refl _ _).alloc (Nat.le_refl _) _)) (by dsimp only; omega)).mono ?_
          rintro e w' ⟨a, c, rfl, hB, _, hbl⟩
          refine ⟨a, c, by rw [hnp], hide ⟨⟨hB, ((unhide HMA).below ((Below.refl _ _).alloc (Nat.le_refl _) _)).below hbl, ?_⟩, ?_⟩⟩
          · rw [hbl.block _ (by simp), heap_alloc_new]
          · rw [hWS]
            exact ((unhide K).alloc (unhide HB3) _).trans (hbl.mono (by have := unhide HB3; simp; omega)))
        have HNP := hide hnp
        have HFF := hide hff
        have HWS := hide hWS
        rw [← hWS] at BO K
        clear hnp hff hWS
        go_wp2_with fail
        go_at_call 10; refine (unhide WR).mono ?_; rintro e WP ⟨la, lc, rfl, R⟩
        clear WR
        dsimp only
        have y0 := unhide BO WP (hide (unhide R).2)
        have HBP := hide y0.1
        have ZP := hide y0.2.2
        clear y0 x2 y1 y2 y3 y4 K HMA HB1 HB3
        by_cases hbig : 5000 < np
        · have db : decide ((5000 : Int) < (np : Int)) = true := decide_eq_true (by omega)
          go_wp2
          all_goals go_ret
          all_goals exact ⟨rfl, unhide HBP⟩
        · have db : decide ((5000 : Int) < (np : Int)) = false := decide_eq_false (by omega)
          have MT : Hid (∀ y W g cc, y < 256 → Hid (Below WP.heap.size WP W) → Bytes W (some ⟨g, 0, none⟩) [y] → Calls Try.prog 11 #[.slice la np lc, .slice (some ⟨g, 0, none⟩) 1 cc] W fun e w' => e = .returned (.bool (ff y)) ∧ Hid (Below WP.heap.size WP w') ∧ w'.cell? ⟨wo.heap.size, 0, none⟩ = some (.int .i64 3) ∧ w'.cell? ⟨wo.heap.size, 1, none⟩ = some (.int .u8 (b : Nat)) ∧ w'.cell? ⟨wo.heap.size, 2, none⟩ = some (.bool nt) ∧ w'.cell? ⟨wo.heap.size, 3, none⟩ = some (.slice am ms.length cm)) := hide (fun y W g cc hy hW hBy => by
            have R2 := (unhide R).1.below (unhide hW)
            rw [unhide HNP, unhide HFF]
            refine (glob_class la (some ⟨g, 0, none⟩) lc cc b nt ms [y] W _ ok1 (unhide HOK3) (by rw [← unhide HNP]; omega) (by simp) (small_all (by simp; exact hy)) R2.bytes hBy (Larder.meets_one _ y).symm).mono ?_
            rintro e w' ⟨rfl, hb2⟩
            have hb3 := (unhide hW).trans (hb2.mono (unhide hW).size)
            exact ⟨rfl, hide hb3, ((unhide R).1.below hb3).cells⟩)
          have FT : Hid (∀ y W, y < 256 → Hid (Below WP.heap.size WP W) → Calls Try.prog 12 #[.agg #[.int .i64 3, .int .u8 (b : Nat), .bool nt, .slice am ms.length cm], .int .u8 (y : Nat)] W fun e w' => e = .returned (.bool (ff y)) ∧ Hid (Below WP.heap.size WP w') ∧ w'.cell? ⟨wo.heap.size, 0, none⟩ = some (.int .i64 3) ∧ w'.cell? ⟨wo.heap.size, 1, none⟩ = some (.int .u8 (b : Nat)) ∧ w'.cell? ⟨wo.heap.size, 2, none⟩ = some (.bool nt) ∧ w'.cell? ⟨wo.heap.size, 3, none⟩ = some (.slice am ms.length cm)) := hide (fun y W hy hW => by
            have R2 := (unhide R).1.below (unhide hW)
            rw [unhide HFF]
            refine (fits_any ⟨3, b, nt, ms⟩ am cm y W hy ok2 (unhide HOK3) R2.mems).mono ?_
            rintro e w' ⟨rfl, hb2⟩
            have hb3 := (unhide hW).trans (hb2.mono (unhide hW).size)
            exact ⟨rfl, hide hb3, ((unhide R).1.below hb3).cells⟩)
          have GN : Hid (∀ W, Hid (Below WP.heap.size WP W) → Calls Try.prog 11 #[.slice la np lc, .slice none 0 0] W fun e w' => e = .returned (.bool false) ∧ Hid (Below WP.heap.size WP w')) := hide (fun W hW => by
            have R2 := (unhide R).1.below (unhide hW)
            rw [unhide HNP]
            refine (glob_class la none lc 0 b nt ms [] W false ok1 (unhide HOK3) (by rw [← unhide HNP]; omega) (by simp) (fun j hj => by cases hj) R2.bytes (.inl rfl) ⟨(fun h => by cases h), fun h => absurd h (Larder.meets_one_nil _)⟩).mono ?_
            rintro e w' ⟨rfl, hb2⟩
            exact ⟨rfl, hide ((unhide hW).trans (hb2.mono (unhide hW).size))⟩)
          have GA : Hid (∀ W g, Hid (Below WP.heap.size WP W) → W.heap.size = g → Calls Try.prog 11 #[.slice la np lc, .slice (some ⟨g, 0, none⟩) 2 2] (W.alloc (.cells #[.int .u8 97, .int .u8 98] 5 (2, 3))) fun e w' => e = .returned (.bool false) ∧ Hid (Below WP.heap.size WP w')) := hide (fun W g hW hg => by
            subst hg
            have hW2 : Below WP.heap.size WP (W.alloc (.cells #[.int .u8 97, .int .u8 98] 5 (2, 3))) := (unhide hW).alloc (unhide hW).size _
            have R2 := (unhide R).1.below hW2
            rw [unhide HNP]
            refine (glob_class la (some ⟨W.heap.size, 0, none⟩) lc 2 b nt ms [97, 98] _ false ok1 (unhide HOK3) (by rw [← unhide HNP]; omega) (by simp) (small_lit _ rfl) R2.bytes (lit_bytes W [97, 98] (2, 3)) ⟨(fun h => by cases h), fun h => absurd h (Larder.meets_one_two _ _ _)⟩).mono ?_
            rintro e w' ⟨rfl, hb2⟩
            exact ⟨rfl, hide (hW2.trans (hb2.mono hW2.size))⟩)
          have XC0 : Hid (∀ W, Hid (Below WP.heap.size WP W) → W.cell? ⟨wo.heap.size, 0, none⟩ = some (.int .i64 3) ∧ W.cell? ⟨wo.heap.size, 1, none⟩ = some (.int .u8 (b : Nat)) ∧ W.cell? ⟨wo.heap.size, 2, none⟩ = some (.bool nt) ∧ W.cell? ⟨wo.heap.size, 3, none⟩ = some (.slice am ms.length cm)) := hide (fun W hW => ((unhide R).1.below (unhide hW)).cells)
          have OUT : Hid (∀ W, Hid (Below WP.heap.size WP W) → Hid (Below (w.heap.size + 1) WS W)) := hide (fun W hW => hide ((unhide R).2.trans ((unhide hW).mono (unhide ZP))))
          have kc := fun (w : World) (C : Array Value) (n c : Nat) => Lib.run_convert_bytes_const (P := Try.prog) w 22 5 C n c Try.underlying22 Try.underlying5
          clear R
          go_wp2_with fail
          go_loopw [6] (fun bv wr => ∃ y : Nat, bv = .int .i64 (y : Nat) ∧ y ≤ 256 ∧ Hid (Below WP.heap.size WP wr)) (fun bv _ => 256 - (intOf bv).toNat)
          case atStart => exact ⟨0, rfl, by omega, hide (Below.refl _ _)⟩
          case round =>
            rename World => wi
            obtain ⟨y, rfl, hy, KI⟩ := hrel
            by_cases hy2 : y < 256
            · have dy : decide ((y : Int) < 256) = true := decide_eq_true (by omega)
              have kw : IntKind.u8.wrap ((y : Nat) : Int) = ((y : Nat) : Int) := by rw [IntKind.wrap_u8]; omega
              obtain ⟨z0, z1, z2, z3⟩ := unhide XC0 _ KI
              have M1 := hide (unhide MT y (wi.alloc (.cells #[.int .u8 (y : Nat)] 5)).drew wi.heap.size 1 hy2 (hide (((unhide KI).alloc (unhide KI).size _).drew)) (lit1_bytes wi y))
              go_wp2_with fail
              go_region_held3 (fun w' => w'.cell? ⟨wo.heap.size, 0, none⟩ = some (.int .i64 3) ∧ w'.cell? ⟨wo.heap.size, 1, none⟩ = some (.int .u8 (b : Nat)) ∧ w'.cell? ⟨wo.heap.size, 2, none⟩ = some (.bool nt) ∧ w'.cell? ⟨wo.heap.size, 3, none⟩ = some (.slice am ms.length cm)) (go_keep) (first | (go_at_call 11; with_reducible refine (unhide M1).mono ?_; rintro e w5 ⟨rfl, k5, z5, z6, z7, z8⟩) | (go_at_call 12; with_reducible refine (unhide FT y _ hy2 k5).mono ?_; rintro e w6 ⟨rfl, k6, z9, z10, z11, z12⟩))
              all_goals go_wp2
              all_goals exact ⟨⟨y + 1, by simp, by omega, k6⟩, by simp only [intOf]; omega⟩
            · obtain rfl : y = 256 := by omega
              have dy : decide (((256 : Nat) : Int) < 256) = false := by decide
              go_wp2_with (first | (go_at_call 11; with_reducible refine (unhide GN _ KI).mono ?_; rintro e w5 ⟨rfl, k5⟩) | (go_at_call 11; with_reducible refine (unhide GA _ _ k5 rfl).mono ?_; rintro e w6 ⟨rfl, k6⟩))
              all_goals (refine ⟨⟨i + 1, by simp, by omega, by omega, ?_⟩, by simp only [intOf]; omega⟩; rw [← unhide HWS]; exact unhide OUT _ k6)
      · have dj : decide ((i : Int) < 40) = false := decide_eq_false (by omega)
        have di : decide ((i : Int) < (xs.length : Int)) = true := decide_eq_true (by omega)
        go_wp2
        all_goals go_ret
        all_goals exact ⟨rfl, unhide HB1⟩
    · have di : decide ((i : Int) < (xs.length : Int)) = false := decide_eq_false (by omega)
      go_wp2
      all_goals go_ret
      all_goals exact ⟨rfl, unhide HB1⟩
end Go.Proofs.Ytidfbelckdlbhaa
