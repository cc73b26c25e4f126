/- write. -/
import Derived.Test.YtidfbelckdlbhaaWra
import Derived.Deep.MidRow
namespace Go.Proofs.Ytidfbelckdlbhaa
open Go.ChangeShapes Go.WideShapes Go.ChangeAt Go.RowKit
set_option linter.unusedVariables false
set_option maxRecDepth 20000
set_option maxHeartbeats 2000000

/-- a member lies there -/
def MbAt (W : World) (b o : Nat) (m : Larder.Mb) : Prop := W.cell? ⟨b, o, none⟩ = some (.int .u8 (m.lo : Nat)) ∧ W.cell? ⟨b, o + 1, none⟩ = some (.int .u8 (m.hi : Nat)) ∧ W.cell? ⟨b, o + 2, none⟩ = some (.bool m.rng) ∧ W.cell? ⟨b, o + 3, none⟩ = some (.bool m.pl)
/-- members that came in -/
def MsAt (W : World) (a : Option Addr) (ms : List Larder.Mb) : Prop := ms = [] ∨ ∃ b off, a = some ⟨b, off, none⟩ ∧ b < W.heap.size ∧ ∀ i m, ms[i]? = some m → MbAt W b (off + i * 4) m
theorem MsAt.below {W W' : World} {a : Option Addr} {ms : List Larder.Mb} (h : MsAt W a ms) (hb : Below W.heap.size W W') : MsAt W' a ms := by
  rcases h with h | ⟨b, off, rfl, hlt, hc⟩
  · exact .inl h
  · refine .inr ⟨b, off, rfl, Nat.lt_of_lt_of_le hlt hb.size, fun i m hm => ?_⟩
    obtain ⟨h1, h2, h3, h4⟩ := hc i m hm
    exact ⟨(hb.cell (p := ⟨b, off + i * 4, none⟩) hlt).trans h1, (hb.cell (p := ⟨b, off + i * 4 + 1, none⟩) hlt).trans h2, (hb.cell (p := ⟨b, off + i * 4 + 2, none⟩) hlt).trans h3, (hb.cell (p := ⟨b, off + i * 4 + 3, none⟩) hlt).trans h4⟩
def MsSmall (ms : List Larder.Mb) : Prop := ∀ m ∈ ms, m.lo < 256 ∧ m.hi < 256
/-- a piece's cells -/
def pcV (x : Larder.Pcd) (am : Option Addr) (cm : Nat) : Array Value := #[.int .i64 x.d, .int .u8 (x.b : Nat), .bool x.nt, .slice am x.ms.length cm]
/-- the class so far -/
def soFar (nt : Bool) (ms : List Larder.Mb) (i : Nat) : List Nat := (91 :: (if nt = true then [94] else [])) ++ Larder.memsL (ms.take i)
theorem mem_len (m : Larder.Mb) : (Larder.memL m).length ≤ 5 := by
  have h1 := Larder.spell_len m.lo m.pl
  have h2 := Larder.spell_len m.hi m.pl
  unfold Larder.memL
  rw [List.length_append]
  split <;> simp <;> omega
theorem mems_le : ∀ ms : List Larder.Mb, (Larder.memsL ms).length ≤ 5 * ms.length
  | [] => by simp [Larder.memsL]
  | m :: ms => by
    have h1 := mem_len m
    have h2 := mems_le ms
    simp only [Larder.memsL, List.flatMap_cons, List.length_append, List.length_cons] at h2 ⊢
    omega
theorem soFar_len (nt : Bool) (ms : List Larder.Mb) (i : Nat) (h : ms.length ≤ 35184372088832) : (soFar nt ms i).length ≤ 175921860444162 := by
  have h1 := mems_le (ms.take i)
  have h2 : (ms.take i).length ≤ ms.length := by rw [List.length_take]; omega
  unfold soFar
  rw [List.length_append]
  have : (91 :: (if nt = true then [94] else [])).length ≤ 2 := by split <;> simp
  omega
theorem soFar_step (nt : Bool) (ms : List Larder.Mb) (i : Nat) (m : Larder.Mb) (h : ms[i]? = some m) : soFar nt ms (i + 1) = soFar nt ms i ++ Larder.memL m := by
  have hi := (List.getElem?_eq_some_iff.1 h).1
  unfold soFar
  rw [List.take_succ_eq_append_getElem hi, (List.getElem?_eq_some_iff.1 h).2, List.append_assoc]
  simp [Larder.memsL]
theorem lit_row (W : World) (y : Nat) (B : Nat) : Row (W.alloc (.cells #[.int .u8 (y : Nat)] 5 (1, 2))) B (.slice (some ⟨W.heap.size, 0, none⟩) 1 1) [y] := .inr ⟨W.heap.size, y, rfl, rfl, by rw [World.cell?_alloc_mark]; rfl⟩
theorem lit1_bytes (W : World) (y : Nat) : Bytes (W.alloc (.cells #[.int .u8 (y : Nat)] 5)) (some ⟨W.heap.size, 0, none⟩) [y] := .inr ⟨_, 0, rfl, by simp, fun i hi => by
  rw [cell_of_row _ _ _ _ _ _ (heap_alloc_new W _)]
  match i, hi with
  | 0, _ => rfl⟩
/-- what has been written -/
def Wrt (w w' : World) (e : Ending) (L : List Nat) : Prop := ∃ a c, e = .returned (.slice a L.length c) ∧ Bytes w' a L ∧ (a = none → c = 0) ∧ Below w.heap.size w w'

theorem write_any (x : Larder.Pcd) (am : Option Addr) (cm : Nat) (w : World) (hb : x.b < 256) (hl : x.ms.length ≤ 35184372088832) (hs : MsSmall x.ms) (hM : MsAt w am x.ms) (hd : -9223372036854775808 ≤ x.d ∧ x.d ≤ 9223372036854775807) :
    Calls Try.prog 10 #[.agg (pcV x am cm)] w fun e w' => Wrt w w' e (Larder.writeL x) := by
  obtain ⟨d, b, nt, ms⟩ := x
  have hl : ms.length ≤ 35184372088832 := hl
  have hM : MsAt w am ms := hM
  have hs : MsSmall ms := hs
  unfold pcV Larder.writeL
  dsimp only
  have kd := fun (w : World) (o : Obj) (C : Array Value) (n c : Nat) => Go.Joins.run_convert_bytes_const_at (P := Try.prog) (w.alloc o) 22 5 C n c (w.heap.size + 1) (by simp) Try.underlying22 Try.underlying5
  have kc := fun (w : World) (C : Array Value) (n c : Nat) => Lib.run_convert_bytes_const (P := Try.prog) w 22 5 C n c Try.underlying22 Try.underlying5
  have bx : Below w.heap.size w (w.alloc (.cells #[.int .i64 d, .int .u8 (b : Nat), .bool nt, .slice am ms.length cm] 38)) := (Below.refl _ _).alloc (Nat.le_refl _) _
  have br := heap_alloc_new w (.cells #[.int .i64 d, .int .u8 (b : Nat), .bool nt, .slice am ms.length cm] 38)
  have HX := hide bx
  have HR := hide br
  have hsz : (w.alloc (.cells #[.int .i64 d, .int .u8 (b : Nat), .bool nt, .slice am ms.length cm] 38)).heap.size = w.heap.size + 1 := by simp
  have HZ := hide hsz
  clear bx br hsz
  by_cases h0 : d = 0
  · subst h0
    rw [if_pos rfl]
    go_enter Try.func10, Try.ntmps10
    go_wp2
    all_goals go_ret
    all_goals (obtain ⟨a, c, h1, h2, h3⟩ := (lit_row (w.alloc (.cells #[.int .i64 0, .int .u8 (b : Nat), .bool nt, .slice am ms.length cm] 38)) 42 0).shape; exact ⟨_, _, rfl, by first | exact .inr ⟨_, 0, rfl, by simp, fun i hi => by
      match i, hi with
      | 0, _ =>
        rw [Nat.add_zero, ← unhide HZ, World.cell?_alloc_mark]
        rfl⟩, (fun h => by cases h), (unhide HX).alloc (unhide HX).size _⟩)
  rw [if_neg h0]
  have e0 : (d == 0) = false := by rw [beq_eq_false_iff_ne]; exact h0
  by_cases h1 : d = 1
  · subst h1
    rw [if_pos rfl]
    clear h0
    go_enter Try.func10, Try.ntmps10
    go_wp2
    all_goals go_ret
    all_goals exact ⟨_, _, rfl, .inr ⟨_, 0, rfl, by simp, fun i hi => by
      match i, hi with
      | 0, _ =>
        rw [Nat.add_zero, ← unhide HZ, World.cell?_alloc_mark]
        rfl⟩, (fun h => by cases h), (unhide HX).alloc (unhide HX).size _⟩
  rw [if_neg h1]
  have e1 : (d == 1) = false := by rw [beq_eq_false_iff_ne]; exact h1
  by_cases h2 : d = 2
  · subst h2
    rw [if_pos rfl]
    clear h0 h1
    go_enter Try.func10, Try.ntmps10
    go_wp2
    all_goals go_ret
    all_goals exact ⟨_, _, rfl, .inr ⟨_, 0, rfl, by simp, fun i hi => by
      rw [← unhide HZ, cell_of_row _ _ _ _ _ _ (heap_alloc_new _ _)]
      match i, hi with
      | 0, _ => rfl
      | 1, _ => rfl⟩, (fun h => by cases h), (unhide HX).alloc (unhide HX).size _⟩
  rw [if_neg h2]
  have e2 : (d == 2) = false := by rw [beq_eq_false_iff_ne]; exact h2
  clear h0 h1 h2
  obtain ⟨LL, hLL⟩ : ∃ LL, LL = 91 :: ((if nt = true then [94] else []) ++ (Larder.memsL ms ++ [93])) := ⟨_, rfl⟩
  rw [← hLL]
  have HLL := hide hLL
  clear hLL
  obtain ⟨A, hA⟩ : ∃ A : Array Value, A = #[.int .i64 d, .int .u8 (b : Nat), .bool nt, .slice am ms.length cm] := ⟨_, rfl⟩
  have kx : ∀ W : World, W.heap[w.heap.size]? = some (.cells A 38 (0, 0)) → W.cell? ⟨w.heap.size, 2, none⟩ = some (.bool nt) ∧ W.cell? ⟨w.heap.size, 3, none⟩ = some (.slice am ms.length cm) := fun W h => by
    rw [cell_of_row _ _ _ _ _ _ h, cell_of_row _ _ _ _ _ _ h, hA]; exact ⟨rfl, rfl⟩
  have KX := hide kx
  rw [← hA] at HX HR HZ ⊢
  have BO : Hid (∀ W, Hid (Below (w.heap.size + 1) (w.alloc (.cells A 38)) W) → Below w.heap.size w W ∧ W.heap[w.heap.size]? = some (.cells A 38 (0, 0)) ∧ w.heap.size + 1 ≤ W.heap.size) := hide (fun W h => ⟨(unhide HX).trans ((unhide h).mono (by omega)), ((unhide h).block _ (by omega)).trans (unhide HR), by have := (unhide h).size; rw [unhide HZ] at this; exact this⟩)
  have SP : Hid (∀ (c : Nat) (p : Bool) W g, c < 256 → W.heap.size = g → Calls Try.prog 20 #[.int .u8 (c : Nat), .bool p] W fun e w' => e = .returned (.slice (some ⟨g, 0, none⟩) (Larder.spellL c p).length (Larder.spellL c p).length) ∧ Hid (Bytes w' (some ⟨g, 0, none⟩) (Larder.spellL c p) ∧ Below W.heap.size W w')) := hide (fun c p W g hc hg => by subst hg; exact spell_any c p W hc)
  have HM := hide hM
  have HS := hide hs
  have K0 : Hid (Row ((w.alloc (.cells A 38)).alloc (.cells #[.int .u8 ((91 : Nat) : Int)] 5 (1, 2))) (w.heap.size + 1) (.slice (some ⟨w.heap.size + 1, 0, none⟩) 1 1) [91] ∧ Below (w.heap.size + 1) (w.alloc (.cells A 38)) ((w.alloc (.cells A 38)).alloc (.cells #[.int .u8 ((91 : Nat) : Int)] 5 (1, 2)))) := hide ⟨by
    have := lit_row (w.alloc (.cells A 38)) 91 (w.heap.size + 1)
    rw [unhide HZ] at this
    exact this, (Below.refl _ _).alloc (by rw [unhide HZ]; exact Nat.le_refl _) _⟩
  have LB : ∀ g, g = w.heap.size + 1 + 1 → Bytes (((w.alloc (.cells A 38)).alloc (.cells #[.int .u8 ((91 : Nat) : Int)] 5 (1, 2))).alloc (.cells #[.int .u8 ((94 : Nat) : Int)] 5)) (some ⟨g, 0, none⟩) [94] := fun g hg => by
    have h := lit1_bytes ((w.alloc (.cells A 38)).alloc (.cells #[.int .u8 ((91 : Nat) : Int)] 5 (1, 2))) 94
    rw [show ((w.alloc (.cells A 38)).alloc (.cells #[.int .u8 ((91 : Nat) : Int)] 5 (1, 2))).heap.size = g by rw [hg]; simp] at h
    exact h
  have HLB := hide LB
  clear LB
  have x0 := kx _ (unhide BO _ (hide (unhide K0).2)).2.1
  clear kx hM hs
  have go : ∀ (L0 : List Nat) (lv : Value) (W0 : World), True := fun _ _ _ => trivial
  cases nt with
  | true =>
    subst hA
    go_enter Try.func10, Try.ntmps10
    go_wp2_with (at_builtin; refine wpList_row rfl _ _ rfl rfl (w.heap.size + 1) _ [91] [94] _ 1 1 rfl rfl ((unhide K0).1.below ((Below.refl _ _).alloc (Nat.le_refl _) _)) rfl (unhide HLB _ (by first | rfl | simp)) (by decide) (by decide) (by decide) (by first | (simp; omega) | simp) ?_; intro lv w1 h1 h2 _; obtain ⟨la, lc, rfl, -, -⟩ := h1.shape; have K1 := hide (And.intro (show Row w1 (w.heap.size + 1) _ (soFar true ms 0) from .inl h1) (((unhide K0).2.alloc (by have := (unhide K0).2.size; rw [unhide HZ] at this; exact this) _).trans h2)); clear h1 h2)
    go_loopw [3, 4, 5] (fun lv iv _ wr => ∃ i : Nat, iv = .int .i64 (i : Nat) ∧ i ≤ ms.length ∧ Hid (Row wr (w.heap.size + 1) lv (soFar true ms i) ∧ Below (w.heap.size + 1) (w.alloc (.cells #[.int .i64 d, .int .u8 (b : Nat), .bool true, .slice am ms.length cm] 38)) wr)) (fun _ iv _ _ => ms.length - (intOf iv).toNat)
    case atStart => exact ⟨0, rfl, Nat.zero_le _, K1⟩
    case round =>
      rename World => wo
      obtain ⟨i, rfl, hi, K⟩ := hrel
      obtain ⟨la, lc, rfl, -, -⟩ := (unhide K).1.shape
      obtain ⟨b1, b2, b3⟩ := unhide BO _ (hide (unhide K).2)
      have x1 := unhide KX wo b2
      have HB1 := hide b1
      have HB3 := hide b3
      have hL := soFar_len true ms i hl
      clear b1 b2 b3 K1 x0
      by_cases hlt : i < ms.length
      · obtain ⟨m, hm⟩ : ∃ m, ms[i]? = some m := ⟨_, List.getElem?_eq_getElem hlt⟩
        have hsm := unhide HS m (List.mem_of_getElem? hm)
        have stp := soFar_step true ms i m hm
        have HST := hide stp
        have di : decide ((i : Int) < (ms.length : Int)) = true := decide_eq_true (by omega)
        rcases (unhide HM).below (unhide HB1) with h | ⟨mb, mo, rfl, hmb, hmc⟩
        · rw [h] at hlt; simp at hlt
        obtain ⟨y1, y2, y3, y4⟩ := hmc i m hm
        obtain ⟨lo, hi', rg, pl⟩ := m
        dsimp only at y1 y2 y3 y4 hsm
        have hmw : Hid (mb < wo.heap.size) := hide hmb
        clear hmc hmb stp
        unfold Larder.memL at HST
        dsimp only at HST
        generalize hLN : soFar true ms (i + 1) = LN at HST
        have HQ := hide hLN
        clear hLN
        generalize soFar true ms i = L at K hL HST
        have hlo := Larder.spell_len lo pl
        have hhi := Larder.spell_len hi' pl
        have S1 := hide (fun W g hg => unhide SP lo pl W g hsm.1 hg)
        have S2 := hide (fun W g hg => unhide SP hi' pl W g hsm.2 hg)
        generalize Larder.spellL lo pl = s1 at *
        generalize Larder.spellL hi' pl = s2 at *
        obtain ⟨M, hM4⟩ : ∃ M : Array Value, M = #[.int .u8 (lo : Nat), .int .u8 (hi' : Nat), .bool rg, .bool pl] := ⟨_, rfl⟩
        have KB : Hid (Row (wo.alloc (.cells M 60)) (w.heap.size + 1) (.slice la L.length lc) L ∧ Below (w.heap.size + 1) (w.alloc (.cells #[.int .i64 d, .int .u8 (b : Nat), .bool true, .slice (some ⟨mb, mo, none⟩) ms.length cm] 38)) (wo.alloc (.cells M 60)) ∧ (wo.alloc (.cells M 60)).heap[wo.heap.size]? = some (.cells M 60 (0, 0))) := hide ⟨(unhide K).1.below ((Below.refl _ _).alloc (Nat.le_refl _) _), (unhide K).2.alloc (unhide HB3) _, heap_alloc_new _ _⟩
        have MX : Hid (∀ W : World, W.heap[wo.heap.size]? = some (.cells M 60 (0, 0)) → W.cell? ⟨wo.heap.size, 0, none⟩ = some (.int .u8 (lo : Nat)) ∧ W.cell? ⟨wo.heap.size, 1, none⟩ = some (.int .u8 (hi' : Nat)) ∧ W.cell? ⟨wo.heap.size, 2, none⟩ = some (.bool rg) ∧ W.cell? ⟨wo.heap.size, 3, none⟩ = some (.bool pl)) := hide (fun W h => by
          rw [cell_of_row _ _ _ _ _ _ h, cell_of_row _ _ _ _ _ _ h, cell_of_row _ _ _ _ _ _ h, cell_of_row _ _ _ _ _ _ h, hM4]; exact ⟨rfl, rfl, rfl, rfl⟩)
        subst hM4
        have gb : w.heap.size + 1 ≤ wo.heap.size := unhide HB3
        cases rg with
        | false =>
          rw [if_neg (by decide), List.append_nil] at HST
          go_wp2_with fail
          go_at_call 20; refine (unhide S1 _ (wo.heap.size + 1) (by simp)).mono ?_; rintro e w2 ⟨rfl, k2⟩; have R2 := hide (And.intro ((unhide KB).1.below (unhide k2).2) (And.intro ((unhide KB).2.1.trans ((unhide k2).2.mono (by simp; omega))) (((unhide k2).2.block _ (by simp)).trans (unhide KB).2.2))); have z2 : w.heap.size + 1 ≤ w2.heap.size := by have := (unhide k2).2.size; simp at this; omega
          dsimp only
          first | go_values | go_skip | go_guarded | go_step | go_upon
          at_builtin; refine wpList_row rfl _ _ rfl rfl (w.heap.size + 1) (.slice la L.length lc) L s1 _ s1.length s1.length rfl rfl (unhide R2).1 rfl (unhide k2).1 (by omega) (by omega) (by omega) z2 ?_
          intro lv3 w3 h1 h2 h4
          rw [← unhide HST] at h1
          obtain ⟨la3, lc3, rfl, -, -⟩ := h1.shape
          have hbk := h4 _ _ 60 (by decide) (unhide R2).2.2
          have y9 := unhide MX w3 hbk
          have K3 := hide (And.intro (show Row w3 (w.heap.size + 1) _ _ from .inl h1) (And.intro ((unhide R2).2.1.trans h2) hbk))
          have z3 : w.heap.size + 1 ≤ w3.heap.size := by have := h2.size; omega
          clear h1 h2 h4 hbk
          go_wp2
          all_goals go_roundw
          all_goals first | exact ⟨i + 1, by simp, by omega, hide ⟨by rw [unhide HQ]; exact (unhide K3).1, (unhide K3).2.1⟩⟩ | (simp only [intOf]; omega)
        | true =>
          rw [if_pos rfl] at HST
          obtain ⟨L1, hL1⟩ : ∃ L1, L1 = L ++ s1 := ⟨_, rfl⟩
          obtain ⟨L2, hL2⟩ : ∃ L2, L2 = L1 ++ [45] := ⟨_, rfl⟩
          have HL1 := hide hL1
          have HL2 := hide hL2
          have l1 : L1.length ≤ 175921860444170 := by rw [hL1, List.length_append]; omega
          have l2 : L2.length ≤ 175921860444180 := by rw [hL2, List.length_append]; simp; omega
          have HLN : Hid (L2 ++ s2 = LN) := hide (by rw [unhide HST, hL2, hL1]; simp)
          clear hL1 hL2
          go_wp2_with fail
          go_at_call 20; refine (unhide S1 _ (wo.heap.size + 1) (by simp)).mono ?_; rintro e w2 ⟨rfl, k2⟩; have R2 := hide (And.intro ((unhide KB).1.below (unhide k2).2) (And.intro ((unhide KB).2.1.trans ((unhide k2).2.mono (by simp; omega))) (((unhide k2).2.block _ (by simp)).trans (unhide KB).2.2))); have z2 : w.heap.size + 1 ≤ w2.heap.size := by have := (unhide k2).2.size; simp at this; omega
          dsimp only
          first | go_values | go_skip | go_guarded | go_step | go_upon
          at_builtin; refine wpList_row rfl _ _ rfl rfl (w.heap.size + 1) (.slice la L.length lc) L s1 _ s1.length s1.length rfl rfl (unhide R2).1 rfl (unhide k2).1 (by omega) (by omega) (by omega) z2 ?_
          intro lv3 w3 h1 h2 h4
          rw [← unhide HL1] at h1
          obtain ⟨la3, lc3, rfl, -, -⟩ := h1.shape
          have hbk := h4 _ _ 60 (by decide) (unhide R2).2.2
          have y9 := unhide MX w3 hbk
          have K3 := hide (And.intro (show Row w3 (w.heap.size + 1) _ _ from .inl h1) (And.intro ((unhide R2).2.1.trans h2) hbk))
          have z3 : w.heap.size + 1 ≤ w3.heap.size := by have := h2.size; omega
          clear h1 h2 h4 hbk
          go_wp2_with (at_builtin; go_loud (refine wpList_row rfl _ _ rfl rfl (w.heap.size + 1) (.slice la3 L1.length lc3) L1 [45] _ 1 1 rfl rfl ((unhide K3).1.below ((Below.refl _ _).alloc (Nat.le_refl _) _)) rfl (lit1_bytes _ 45) (by decide) (by decide) (by omega) (by simp; omega) ?_; intro lv4 w4 h1 h2 h4; rw [← unhide HL2] at h1; obtain ⟨la4, lc4, rfl, -, -⟩ := h1.shape; have hbk := h4 _ _ 60 (by decide) ((Below.heap_alloc _ _ _ (Array.getElem?_eq_some_iff.1 (unhide K3).2.2).1).trans (unhide K3).2.2); have y10 := unhide MX w4 hbk; have K4 := hide (And.intro (show Row w4 (w.heap.size + 1) _ _ from .inl h1) (And.intro (((unhide K3).2.1.alloc z3 _).trans h2) hbk)); have z4 : w.heap.size + 1 ≤ w4.heap.size := (by have := h2.size; simp at this; omega); clear h1 h2 h4 hbk))
          go_at_call 20; refine (unhide S2 w4 _ rfl).mono ?_; rintro e w5 ⟨rfl, k5⟩; have R5 := hide (And.intro ((unhide K4).1.below (unhide k5).2) ((unhide K4).2.1.trans ((unhide k5).2.mono z4))); have z5 : w.heap.size + 1 ≤ w5.heap.size := by have := (unhide k5).2.size; omega
          dsimp only
          first | go_values | go_skip | go_guarded | go_step | go_upon
          at_builtin; refine wpList_row rfl _ _ rfl rfl (w.heap.size + 1) (.slice la4 L2.length lc4) L2 s2 _ s2.length s2.length rfl rfl (unhide R5).1 rfl (unhide k5).1 (by omega) (by omega) (by omega) z5 ?_
          intro lv6 w6 h1 h2 _
          rw [unhide HLN] at h1
          obtain ⟨la6, lc6, rfl, -, -⟩ := h1.shape
          have K6 := hide (And.intro (show Row w6 (w.heap.size + 1) _ LN from .inl h1) ((unhide R5).2.trans h2))
          clear h1 h2
          go_wp2
          all_goals go_roundw
          all_goals first | exact ⟨i + 1, by simp, by omega, hide ⟨by rw [unhide HQ]; exact (unhide K6).1, (unhide K6).2⟩⟩ | (simp only [intOf]; omega)
      · obtain rfl : i = ms.length := by omega
        have di : decide ((ms.length : Int) < (ms.length : Int)) = false := decide_eq_false (by omega)
        have hend : Hid (soFar true ms ms.length ++ [93] = LL) := hide (by rw [unhide HLL]; unfold soFar; rw [List.take_length]; simp)
        generalize soFar true ms ms.length = L at K hL hend
        go_wp2_with (at_builtin; refine wpList_row rfl _ _ rfl rfl (w.heap.size + 1) _ L [93] _ 1 1 rfl rfl ((unhide K).1.below ((Below.refl _ _).alloc (Nat.le_refl _) _)) rfl (lit1_bytes _ 93) (by decide) (by decide) (by omega) (by have := unhide HB3; simp; omega) ?_; intro lv w3 h1 h2 _; obtain ⟨la3, lc3, rfl, q1, q2⟩ := h1.shape; have K3 := hide (And.intro q1 (And.intro q2 ((unhide HX).trans ((((unhide K).2.alloc (unhide HB3) _).trans h2).mono (by omega))))); clear h1 h2 q1 q2)
        all_goals go_ret
        all_goals (have hlen : LL.length = L.length + 1 := by rw [← unhide hend]; simp)
        all_goals exact ⟨la3, lc3, by rw [hlen]; rfl, by rw [← unhide hend]; exact (unhide K3).1, (unhide K3).2.1, (unhide K3).2.2⟩
  | false =>
    subst hA
    have K1 : Hid (Row ((w.alloc (.cells #[.int .i64 d, .int .u8 (b : Nat), .bool false, .slice am ms.length cm] 38)).alloc (.cells #[.int .u8 ((91 : Nat) : Int)] 5 (1, 2))) (w.heap.size + 1) (.slice (some ⟨w.heap.size + 1, 0, none⟩) 1 1) (soFar false ms 0) ∧ Below (w.heap.size + 1) (w.alloc (.cells #[.int .i64 d, .int .u8 (b : Nat), .bool false, .slice am ms.length cm] 38)) ((w.alloc (.cells #[.int .i64 d, .int .u8 (b : Nat), .bool false, .slice am ms.length cm] 38)).alloc (.cells #[.int .u8 ((91 : Nat) : Int)] 5 (1, 2)))) := K0
    go_enter Try.func10, Try.ntmps10
    go_wp2_with fail
    go_loopw [3, 4, 5] (fun lv iv _ wr => ∃ i : Nat, iv = .int .i64 (i : Nat) ∧ i ≤ ms.length ∧ Hid (Row wr (w.heap.size + 1) lv (soFar false ms i) ∧ Below (w.heap.size + 1) (w.alloc (.cells #[.int .i64 d, .int .u8 (b : Nat), .bool false, .slice am ms.length cm] 38)) wr)) (fun _ iv _ _ => ms.length - (intOf iv).toNat)
    case atStart => exact ⟨0, rfl, Nat.zero_le _, K1⟩
    case round =>
      rename World => wo
      obtain ⟨i, rfl, hi, K⟩ := hrel
      obtain ⟨la, lc, rfl, -, -⟩ := (unhide K).1.shape
      obtain ⟨b1, b2, b3⟩ := unhide BO _ (hide (unhide K).2)
      have x1 := unhide KX wo b2
      have HB1 := hide b1
      have HB3 := hide b3
      have hL := soFar_len false ms i hl
      clear b1 b2 b3 K1 x0
      by_cases hlt : i < ms.length
      · obtain ⟨m, hm⟩ : ∃ m, ms[i]? = some m := ⟨_, List.getElem?_eq_getElem hlt⟩
        have hsm := unhide HS m (List.mem_of_getElem? hm)
        have stp := soFar_step false ms i m hm
        have HST := hide stp
        have di : decide ((i : Int) < (ms.length : Int)) = true := decide_eq_true (by omega)
        rcases (unhide HM).below (unhide HB1) with h | ⟨mb, mo, rfl, hmb, hmc⟩
        · rw [h] at hlt; simp at hlt
        obtain ⟨y1, y2, y3, y4⟩ := hmc i m hm
        obtain ⟨lo, hi', rg, pl⟩ := m
        dsimp only at y1 y2 y3 y4 hsm
        have hmw : Hid (mb < wo.heap.size) := hide hmb
        clear hmc hmb stp
        unfold Larder.memL at HST
        dsimp only at HST
        generalize hLN : soFar false ms (i + 1) = LN at HST
        have HQ := hide hLN
        clear hLN
        generalize soFar false ms i = L at K hL HST
        have hlo := Larder.spell_len lo pl
        have hhi := Larder.spell_len hi' pl
        have S1 := hide (fun W g hg => unhide SP lo pl W g hsm.1 hg)
        have S2 := hide (fun W g hg => unhide SP hi' pl W g hsm.2 hg)
        generalize Larder.spellL lo pl = s1 at *
        generalize Larder.spellL hi' pl = s2 at *
        obtain ⟨M, hM4⟩ : ∃ M : Array Value, M = #[.int .u8 (lo : Nat), .int .u8 (hi' : Nat), .bool rg, .bool pl] := ⟨_, rfl⟩
        have KB : Hid (Row (wo.alloc (.cells M 60)) (w.heap.size + 1) (.slice la L.length lc) L ∧ Below (w.heap.size + 1) (w.alloc (.cells #[.int .i64 d, .int .u8 (b : Nat), .bool false, .slice (some ⟨mb, mo, none⟩) ms.length cm] 38)) (wo.alloc (.cells M 60)) ∧ (wo.alloc (.cells M 60)).heap[wo.heap.size]? = some (.cells M 60 (0, 0))) := hide ⟨(unhide K).1.below ((Below.refl _ _).alloc (Nat.le_refl _) _), (unhide K).2.alloc (unhide HB3) _, heap_alloc_new _ _⟩
        have MX : Hid (∀ W : World, W.heap[wo.heap.size]? = some (.cells M 60 (0, 0)) → W.cell? ⟨wo.heap.size, 0, none⟩ = some (.int .u8 (lo : Nat)) ∧ W.cell? ⟨wo.heap.size, 1, none⟩ = some (.int .u8 (hi' : Nat)) ∧ W.cell? ⟨wo.heap.size, 2, none⟩ = some (.bool rg) ∧ W.cell? ⟨wo.heap.size, 3, none⟩ = some (.bool pl)) := hide (fun W h => by
          rw [cell_of_row _ _ _ _ _ _ h, cell_of_row _ _ _ _ _ _ h, cell_of_row _ _ _ _ _ _ h, cell_of_row _ _ _ _ _ _ h, hM4]; exact ⟨rfl, rfl, rfl, rfl⟩)
        subst hM4
        have gb : w.heap.size + 1 ≤ wo.heap.size := unhide HB3
        cases rg with
        | false =>
          rw [if_neg (by decide), List.append_nil] at HST
          go_wp2_with fail
          go_at_call 20; refine (unhide S1 _ (wo.heap.size + 1) (by simp)).mono ?_; rintro e w2 ⟨rfl, k2⟩; have R2 := hide (And.intro ((unhide KB).1.below (unhide k2).2) (And.intro ((unhide KB).2.1.trans ((unhide k2).2.mono (by simp; omega))) (((unhide k2).2.block _ (by simp)).trans (unhide KB).2.2))); have z2 : w.heap.size + 1 ≤ w2.heap.size := by have := (unhide k2).2.size; simp at this; omega
          dsimp only
          first | go_values | go_skip | go_guarded | go_step | go_upon
          at_builtin; refine wpList_row rfl _ _ rfl rfl (w.heap.size + 1) (.slice la L.length lc) L s1 _ s1.length s1.length rfl rfl (unhide R2).1 rfl (unhide k2).1 (by omega) (by omega) (by omega) z2 ?_
          intro lv3 w3 h1 h2 h4
          rw [← unhide HST] at h1
          obtain ⟨la3, lc3, rfl, -, -⟩ := h1.shape
          have hbk := h4 _ _ 60 (by decide) (unhide R2).2.2
          have y9 := unhide MX w3 hbk
          have K3 := hide (And.intro (show Row w3 (w.heap.size + 1) _ _ from .inl h1) (And.intro ((unhide R2).2.1.trans h2) hbk))
          have z3 : w.heap.size + 1 ≤ w3.heap.size := by have := h2.size; omega
          clear h1 h2 h4 hbk
          go_wp2
          all_goals go_roundw
          all_goals first | exact ⟨i + 1, by simp, by omega, hide ⟨by rw [unhide HQ]; exact (unhide K3).1, (unhide K3).2.1⟩⟩ | (simp only [intOf]; omega)
        | true =>
          rw [if_pos rfl] at HST
          obtain ⟨L1, hL1⟩ : ∃ L1, L1 = L ++ s1 := ⟨_, rfl⟩
          obtain ⟨L2, hL2⟩ : ∃ L2, L2 = L1 ++ [45] := ⟨_, rfl⟩
          have HL1 := hide hL1
          have HL2 := hide hL2
          have l1 : L1.length ≤ 175921860444170 := by rw [hL1, List.length_append]; omega
          have l2 : L2.length ≤ 175921860444180 := by rw [hL2, List.length_append]; simp; omega
          have HLN : Hid (L2 ++ s2 = LN) := hide (by rw [unhide HST, hL2, hL1]; simp)
          clear hL1 hL2
          go_wp2_with fail
          go_at_call 20; refine (unhide S1 _ (wo.heap.size + 1) (by simp)).mono ?_; rintro e w2 ⟨rfl, k2⟩; have R2 := hide (And.intro ((unhide KB).1.below (unhide k2).2) (And.intro ((unhide KB).2.1.trans ((unhide k2).2.mono (by simp; omega))) (((unhide k2).2.block _ (by simp)).trans (unhide KB).2.2))); have z2 : w.heap.size + 1 ≤ w2.heap.size := by have := (unhide k2).2.size; simp at this; omega
          dsimp only
          first | go_values | go_skip | go_guarded | go_step | go_upon
          at_builtin; refine wpList_row rfl _ _ rfl rfl (w.heap.size + 1) (.slice la L.length lc) L s1 _ s1.length s1.length rfl rfl (unhide R2).1 rfl (unhide k2).1 (by omega) (by omega) (by omega) z2 ?_
          intro lv3 w3 h1 h2 h4
          rw [← unhide HL1] at h1
          obtain ⟨la3, lc3, rfl, -, -⟩ := h1.shape
          have hbk := h4 _ _ 60 (by decide) (unhide R2).2.2
          have y9 := unhide MX w3 hbk
          have K3 := hide (And.intro (show Row w3 (w.heap.size + 1) _ _ from .inl h1) (And.intro ((unhide R2).2.1.trans h2) hbk))
          have z3 : w.heap.size + 1 ≤ w3.heap.size := by have := h2.size; omega
          clear h1 h2 h4 hbk
          go_wp2_with (at_builtin; go_loud (refine wpList_row rfl _ _ rfl rfl (w.heap.size + 1) (.slice la3 L1.length lc3) L1 [45] _ 1 1 rfl rfl ((unhide K3).1.below ((Below.refl _ _).alloc (Nat.le_refl _) _)) rfl (lit1_bytes _ 45) (by decide) (by decide) (by omega) (by simp; omega) ?_; intro lv4 w4 h1 h2 h4; rw [← unhide HL2] at h1; obtain ⟨la4, lc4, rfl, -, -⟩ := h1.shape; have hbk := h4 _ _ 60 (by decide) ((Below.heap_alloc _ _ _ (Array.getElem?_eq_some_iff.1 (unhide K3).2.2).1).trans (unhide K3).2.2); have y10 := unhide MX w4 hbk; have K4 := hide (And.intro (show Row w4 (w.heap.size + 1) _ _ from .inl h1) (And.intro (((unhide K3).2.1.alloc z3 _).trans h2) hbk)); have z4 : w.heap.size + 1 ≤ w4.heap.size := (by have := h2.size; simp at this; omega); clear h1 h2 h4 hbk))
          go_at_call 20; refine (unhide S2 w4 _ rfl).mono ?_; rintro e w5 ⟨rfl, k5⟩; have R5 := hide (And.intro ((unhide K4).1.below (unhide k5).2) ((unhide K4).2.1.trans ((unhide k5).2.mono z4))); have z5 : w.heap.size + 1 ≤ w5.heap.size := by have := (unhide k5).2.size; omega
          dsimp only
          first | go_values | go_skip | go_guarded | go_step | go_upon
          at_builtin; refine wpList_row rfl _ _ rfl rfl (w.heap.size + 1) (.slice la4 L2.length lc4) L2 s2 _ s2.length s2.length rfl rfl (unhide R5).1 rfl (unhide k5).1 (by omega) (by omega) (by omega) z5 ?_
          intro lv6 w6 h1 h2 _
          rw [unhide HLN] at h1
          obtain ⟨la6, lc6, rfl, -, -⟩ := h1.shape
          have K6 := hide (And.intro (show Row w6 (w.heap.size + 1) _ LN from .inl h1) ((unhide R5).2.trans h2))
          clear h1 h2
          go_wp2
          all_goals go_roundw
          all_goals first | exact ⟨i + 1, by simp, by omega, hide ⟨by rw [unhide HQ]; exact (unhide K6).1, (unhide K6).2⟩⟩ | (simp only [intOf]; omega)
      · obtain rfl : i = ms.length := by omega
        have di : decide ((ms.length : Int) < (ms.length : Int)) = false := decide_eq_false (by omega)
        have hend : Hid (soFar false ms ms.length ++ [93] = LL) := hide (by rw [unhide HLL]; unfold soFar; rw [List.take_length]; simp)
        generalize soFar false ms ms.length = L at K hL hend
        go_wp2_with (at_builtin; refine wpList_row rfl _ _ rfl rfl (w.heap.size + 1) _ L [93] _ 1 1 rfl rfl ((unhide K).1.below ((Below.refl _ _).alloc (Nat.le_refl _) _)) rfl (lit1_bytes _ 93) (by decide) (by decide) (by omega) (by have := unhide HB3; simp; omega) ?_; intro lv w3 h1 h2 _; obtain ⟨la3, lc3, rfl, q1, q2⟩ := h1.shape; have K3 := hide (And.intro q1 (And.intro q2 ((unhide HX).trans ((((unhide K).2.alloc (unhide HB3) _).trans h2).mono (by omega))))); clear h1 h2 q1 q2)
        all_goals go_ret
        all_goals (have hlen : LL.length = L.length + 1 := by rw [← unhide hend]; simp)
        all_goals exact ⟨la3, lc3, by rw [hlen]; rfl, by rw [← unhide hend]; exact (unhide K3).1, (unhide K3).2.1, (unhide K3).2.2⟩
end Go.Proofs.Ytidfbelckdlbhaa
