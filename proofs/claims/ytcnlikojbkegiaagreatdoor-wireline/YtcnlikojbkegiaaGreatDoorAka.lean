/- Ahead of asked: the document's Command of no arguments, both Commands at once, num, the Told's beginning. -/
import Derived.Test.YtcnlikojbkegiaaGreatDoorWrd
import Derived.Test.YtcnlikojbkegiaaGreatDoorSpd
import Derived.Test.YtcnlikojbkegiaaGreatDoorHvy
import Derived.Test.YtcnlikojbkegiaaGreatDoorTda
namespace Go.Proofs.YtcnlikojbkegiaaGreatDoor
open Go.ChangeShapes Go.WideShapes Go.ChangeAt Go.RowKit
set_option linter.unusedVariables false
set_option linter.unusedSimpArgs false
set_option maxRecDepth 20000
set_option maxHeartbeats 4000000

theorem spell_smallI (n : Int) : Small (Larder.spellI n) := fun i hi => Larder.nums_small _ i hi
theorem small_app {x y : List Nat} (hx : Small x) (hy : Small y) : Small (x ++ y) := fun i hi => by
  rw [List.length_append] at hi
  rw [List.getD_eq_getElem?_getD]
  by_cases q : i < x.length
  · rw [List.getElem?_append_left q, ← List.getD_eq_getElem?_getD]; exact hx i q
  · rw [List.getElem?_append_right (by omega), ← List.getD_eq_getElem?_getD]; exact hy _ (by omega)
theorem small_of {l : List Nat} (h : l.all (fun c => decide (c < 256)) = true) : Small l := fun i hi => by
  have := List.all_eq_true.1 h _ (List.getElem_mem hi)
  rw [List.getD_eq_getElem?_getD, List.getElem?_eq_getElem hi]
  simpa using this
theorem numL_small (mk : Nat) (n : Int) (h : mk < 256) : Small (numL mk n) := small_app (small_app (small_of (by simp [h])) (spell_smallI n)) (small_of (by decide))
theorem textL_small (T : List Nat) (h : Small T) : Small (textL T) := small_app (small_app (numL_small 36 _ (by decide)) h) (small_of (by decide))
structure Grf (w W : World) (B : Nat) (v : Value) (n : Nat) (l : List Nat) : Prop where
  bel : Below B w W
  sz : B ≤ W.heap.size
  row : RwF W v n l
  own : ∀ g, v.ownBlock = some g → B ≤ g
theorem RwF.below {w w' : World} {v : Value} {n : Nat} {l : List Nat} (h : RwF w v n l) (hb : Below w.heap.size w w') : RwF w' v n l := by
  obtain ⟨g, cap, cur, fz, h1, h2, h3⟩ := h
  exact ⟨g, cap, cur, fz, h1, (hb.block g (block_lt h2)).trans h2, h3⟩
theorem Grf.below {w W W' : World} {B n : Nat} {v : Value} {l : List Nat} (h : Grf w W B v n l) (hb : Below W.heap.size W W') : Grf w W' B v n l :=
  ⟨h.bel.trans (hb.mono h.sz), Nat.le_trans h.sz hb.size, h.row.below hb, h.own⟩
theorem Grf.app {w W w' : World} {B n : Nat} {v v' : Value} {l m : List Nat} (h : Grf w W B v n l) (hR : RwF w' v' (n + m.length) (l ++ m)) (hG : Gw W w' v v') : Grf w w' B v' (n + m.length) (l ++ m) := by
  refine ⟨h.bel.trans ⟨hG.os, hG.tape, hG.output, hG.size, fun b hb => hG.oth b (Nat.lt_of_lt_of_le hb h.sz) (fun e => by have := h.own b e; omega)⟩, Nat.le_trans h.sz hG.size, hR, fun g hg => ?_⟩
  rcases hG.own g hg with q | q
  · exact h.own g q
  · exact Nat.le_trans h.sz q
theorem RwF.len {w : World} {v : Value} {n : Nat} {l : List Nat} (h : RwF w v n l) : n = l.length := by
  obtain ⟨g, cap, cur, fz, _, _, _, _, _, _, h7, _⟩ := h
  exact h7
theorem RwF.shape {w : World} {v : Value} {n : Nat} {l : List Nat} (h : RwF w v n l) : ∃ a c, v = .slice a n c := by
  obtain ⟨g, cap, cur, fz, h1, _⟩ := h
  exact ⟨_, _, h1⟩
theorem conv_text' (w : World) (m : List Nat) (hs : Small m) (hl : m.length ≤ 140737488355328) :
    ∃ c w', (convert 9 25 (.string (sB m))).run Tryz.prog w = .ok (.slice (some ⟨w.heap.size, 0, none⟩) m.length c) w' ∧ Grf w w' w.heap.size (.slice (some ⟨w.heap.size, 0, none⟩) m.length c) m.length m := by
  have h := Lib.run_convert_string_bytes (P := Tryz.prog) w 9 25 5 (sB m) Tryz.underlying9 Tryz.underlying25 Tryz.underlying5
  have hz := sB_size m
  rw [hz] at h
  have hb := Go.Joins.below_bytesWorld _ w 5 (sB m) (Nat.le_refl w.heap.size)
  have hge := grownCap_ge w m.length 0 5
  have hsz : (Lib.bytesCells w 5 (sB m)).size = grownCap w m.length 0 5 := by
    unfold Lib.bytesCells
    rw [Array.size_append, Array.size_map, Array.size_replicate, hz]
    have : (sB m).data.size = m.length := hz
    omega
  refine ⟨_, _, h, hb, hb.size, ⟨w.heap.size, _, _, _, rfl, Lib.bytesWorld_at_new w 5 (sB m), hge, hsz.symm, grownCap_le_maxLen w m.length 0 5 (by simp only [maxLen]; omega), fun k hk => ?_, rfl, fun k hk => ?_⟩, fun g hg => by simp [Value.ownBlock] at hg; omega⟩
  · rw [decide_eq_false (show ¬ (Lib.bytesCells w 5 (sB m)).size ≤ k by omega)]; rfl
  · have h1 := Lib.bytesWorld_cell w 5 (sB m) k (by rw [hz]; exact hk)
    rw [cell_of_row _ _ _ _ _ _ (Lib.bytesWorld_at_new w 5 (sB m))] at h1
    rw [h1]
    have h2 := strCells_sB m hs k hk
    unfold Lib.strCells at h2
    rw [List.getElem?_map] at h2
    have hlt : k < (sB m).data.toList.length := by rw [Array.length_toList]; show k < (sB m).size; omega
    rw [List.getElem?_eq_getElem hlt] at h2
    rw [List.getD_eq_getElem?_getD, List.getElem?_eq_getElem hlt]
    simpa using h2
theorem app_text {w : World} {ops : Array Oper} {rest : List Oper} {o : Oper} {act : Act} {Q : Exit → Act → World → Prop} (hgd : o.guard = none) (so x : Operand) (ho : o.op = .call { callee := .builtin .append, args := #[so, x], argTypes := #[25, 9] }) (hty : o.type = 25)
    (v : Value) (n : Nat) (l m : List Nat) (hs : act.eval so = v) (h : RwF w v n l) (hx : act.eval x = .string (sB m)) (hm : Small m) (hl : n + m.length ≤ 140737488355328)
    (hk : ∀ v' w', RwF w' v' (n + m.length) (l ++ m) → Gw w w' v v' → wpList Tryz.prog ops Q rest (act.put o.dst v') w') : wpList Tryz.prog ops Q (o :: rest) act w := by
  obtain ⟨v', w', h1, h2, h3⟩ := run_app_text w v n l m h hm hl
  refine wpList_plain hgd fun K hK => ?_
  unfold Oper.wp execOp
  simp only [ho, resolve, invoke, builtin, Sem.run_bind, Sem.run_pure, Result.andThen_ok, List.map_toArray, List.map_cons, List.map_nil, hs, hx, hty, h1]
  exact hK _ _ (hk v' w' h2 h3)
end Go.Proofs.YtcnlikojbkegiaaGreatDoor
namespace Go.Proofs.YtcnlikojbkegiaaGreatDoor
open Go.ChangeShapes Go.WideShapes Go.ChangeAt Go.RowKit
set_option linter.unusedVariables false
set_option linter.unusedSimpArgs false
set_option maxRecDepth 20000
set_option maxHeartbeats 4000000

theorem rcommand_any (w : World) (b off cap : Nat) (L : List (List Nat)) (hA : ArgsAt w b off L) (hS : ∀ T ∈ L, Small T) :
    Calls Tryz.prog 22 #[.slice (some ⟨b, off, none⟩) L.length cap] w fun e w' => (cmdBad L ∧ e = .returned (.tuple #[.slice none 0 0, .int .i64 87]) ∧ Below w.heap.size w w') ∨ (¬ cmdBad L ∧ ∃ va n vc, e = .returned (.tuple #[.slice va n vc, .int .i64 0]) ∧ Hid (Grf w w' w.heap.size (.slice va n vc) n (cmdL L))) := by
  by_cases h0 : L.length = 0
  · have HB : Hid (cmdBad L) := hide (.inl h0)
    rw [h0]
    go_enter Tryz.func22, Tryz.ntmps22
    go_wp2
    all_goals go_ret2
    all_goals exact .inl ⟨unhide HB, rfl, Below.refl _ _⟩
  by_cases h1 : 128 < L.length
  · have HB : Hid (cmdBad L) := hide (.inr (.inl h1))
    have z1 : decide (((L.length : Nat) : Int) < 1) = false := decide_eq_false (by omega)
    have d1 : decide ((128 : Int) < (L.length : Int)) = true := decide_eq_true (by omega)
    generalize L.length = m at *
    go_enter Tryz.func22, Tryz.ntmps22
    go_wp2
    all_goals go_ret2
    all_goals exact .inl ⟨unhide HB, rfl, Below.refl _ _⟩
  have z1 : decide (((L.length : Nat) : Int) < 1) = false := decide_eq_false (by omega)
  have d1 : decide ((128 : Int) < (L.length : Int)) = false := decide_eq_false (by omega)
  obtain ⟨m, hm⟩ : ∃ m, m = L.length := ⟨_, rfl⟩
  have spl := spell_short (m : Nat) (by omega) (by omega)
  have CN : Hid (Calls Tryz.prog 46 #[.int .i64 (m : Nat)] w fun e w' => e = .returned (.string (sB (Larder.spellI m))) ∧ ∃ c w2, (convert 9 25 (.string (sB (numL 42 m)))).run Tryz.prog w' = .ok (.slice (some ⟨w'.heap.size, 0, none⟩) (numL 42 m).length c) w2 ∧ Hid (Grf w w2 w.heap.size (.slice (some ⟨w'.heap.size, 0, none⟩) (numL 42 m).length c) (numL 42 m).length (numL 42 m))) := hide ((texted_any (m : Nat) (by omega) (by omega) w).mono (fun e w' h => ⟨h.1, by
    obtain ⟨c, w2, h3, h4⟩ := conv_text' w' (numL 42 m) (numL_small 42 _ (by decide)) (by unfold numL; simp; omega)
    exact ⟨c, w2, h3, hide ⟨h.2.trans (h4.bel.mono h.2.size), Nat.le_trans h.2.size h4.sz, h4.row, fun g hg => Nat.le_trans h.2.size (h4.own g hg)⟩⟩⟩))
  have A1 : ∀ W, (Op.stringOp .add ⟨#[42]⟩ (sB (Larder.spellI m))).run Tryz.prog W = .ok (.string (sB ([42] ++ Larder.spellI m))) W := fun W => sB_add W [42] _ (by simp) (by omega)
  have A2 : ∀ W, (Op.stringOp .add (sB ([42] ++ Larder.spellI m)) ⟨#[13, 10]⟩).run Tryz.prog W = .ok (.string (sB (numL 42 m))) W := fun W => sB_add W _ [13, 10] (by simp; omega) (by simp)
  generalize sB ([42] ++ Larder.spellI m) = R1 at *
  generalize sB (Larder.spellI m) = R0 at *
  generalize sB (numL 42 m) = R2 at *
  have HM := hide hm
  have HA := hide hA
  have HS := hide hS
  rw [← hm] at z1 d1 h0 h1 ⊢
  clear hm hA hS
  have sp : Hid ((numL 42 m).length ≤ 24) := hide (by
    unfold numL
    simp only [List.length_append, List.length_cons, List.length_nil]
    omega)
  obtain ⟨n0, hn0⟩ : ∃ n0, n0 = (numL 42 m).length := ⟨_, rfl⟩
  rw [← hn0] at CN sp
  clear hn0 spl
  go_enter Tryz.func22, Tryz.ntmps22
  go_wp2_with (go_at_call 46; refine (unhide CN).mono ?_; rintro e w1 ⟨rfl, c1, w2, x1, HG1⟩)
  go_loopw [5, 6] (fun bv kv wr => ∃ (k : Nat) (va : Option Addr) (n vc : Nat), bv = .slice va n vc ∧ kv = .int .i64 (k : Nat) ∧ k ≤ m ∧ n ≤ 24 + k * 4125 ∧ Hid ((∀ T ∈ L.take k, T.length ≤ 4096) ∧ Grf w wr w.heap.size (.slice va n vc) n (numL 42 m ++ ((L.take k).map textL).flatten))) (fun _ kv _ => m - (intOf kv).toNat)
  case atStart => exact ⟨0, _, _, _, rfl, rfl, Nat.zero_le _, by have := unhide sp; omega, hide ⟨by simp, by simpa using unhide HG1⟩⟩
  case round =>
    obtain ⟨k, va, n, vc, rfl, rfl, hk, hn, p⟩ := hrel
    rcases Nat.lt_or_ge k m with hkm | hkm
    · have f1 : decide ((k : Int) < (m : Int)) = true := decide_eq_true (by omega)
      obtain ⟨T, hT⟩ : ∃ T, L[k]? = some T := ⟨_, List.getElem?_eq_getElem (by have := unhide HM; omega)⟩
      obtain ⟨a, c, x1, x2, x3⟩ := (unhide HA).2 k T hT
      have y1 : wr.cell? ⟨b, off + k, none⟩ = some (.slice a T.length c) := ((unhide p).2.bel.cell (p := ⟨b, off + k, none⟩) (unhide HA).1).trans x1
      have hmem : T ∈ L := List.mem_of_getElem? hT
      have htk : L.take (k + 1) = L.take k ++ [T] := by rw [List.take_add_one, hT]; rfl
      have g1 : (0 : Int) ≤ (k : Int) := by omega
      have g2 : (k : Int) < (m : Int) := by omega
      by_cases hb : 4096 < T.length
      · have f2 : decide ((4096 : Int) < (T.length : Int)) = true := decide_eq_true (by omega)
        have HBad : Hid (cmdBad L) := hide (.inr (.inr ⟨T, hmem, hb⟩))
        clear hT x1 x2 hmem htk
        go_wp2
        all_goals go_ret2
        all_goals exact .inl ⟨unhide HBad, rfl, (unhide p).2.bel⟩
      · have f2 : decide ((4096 : Int) < (T.length : Int)) = false := decide_eq_false (by omega)
        have CA : Hid (Calls Tryz.prog 47 #[.slice a T.length c] wr fun e w' => e = .returned (.string (sB (textL T))) ∧ Hid (Below wr.heap.size wr w')) := hide ((bulk_any a c T wr (x2.below (unhide p).2.bel) (by omega)).mono (fun e w' h => ⟨h.1, hide h.2⟩))
        have HTK := hide htk
        have tl := textL_len T (by omega)
        have TS : Hid (Small (textL T)) := hide (textL_small T (unhide HS T hmem))
        clear hT x1 x2 hmem htk
        go_wp2_with (first
          | (go_at_call 47; refine (unhide CA).mono ?_; rintro e w2 ⟨rfl, k2⟩)
          | (at_builtin; refine app_text rfl _ _ rfl rfl (.slice va n vc) n _ (textL T) rfl ((unhide p).2.below (unhide k2)).row rfl (unhide TS) (by omega) ?_; intro v3 w3 h3 g3; have HG3 := hide (((unhide p).2.below (unhide k2)).app h3 g3); obtain ⟨a3, c3, rfl⟩ := h3.shape; clear h3 g3))
        go_roundw
        case rel =>
          refine ⟨k + 1, a3, _, c3, rfl, by go_num, by omega, by omega, hide ⟨fun T' h' => ?_, ?_⟩⟩
          · rw [unhide HTK] at h'
            rcases List.mem_append.1 h' with h' | h'
            · exact (unhide p).1 T' h'
            · obtain rfl := List.mem_singleton.1 h'
              omega
          · rw [unhide HTK, List.map_append, List.flatten_append]
            simpa using unhide HG3
        case measure => simp [intOf]; omega
    · obtain rfl : k = m := by omega
      have f1 : decide ((k : Int) < (k : Int)) = false := decide_eq_false (by omega)
      go_wp2
      all_goals go_ret2
      all_goals refine .inr ⟨fun hbad => ?_, _, _, _, rfl, ?_⟩
      all_goals have hm := unhide HM
      · rcases hbad with q | q | ⟨T, q1, q2⟩
        · omega
        · omega
        · have := (unhide p).1 T (by rw [hm, List.take_length]; exact q1)
          omega
      · have := (unhide p).2
        rw [hm, List.take_length] at this
        exact hide (by unfold cmdL; exact this)
end Go.Proofs.YtcnlikojbkegiaaGreatDoor
namespace Go.Proofs.YtcnlikojbkegiaaGreatDoor
open Go.ChangeShapes Go.WideShapes Go.ChangeAt Go.RowKit
set_option linter.unusedVariables false
set_option linter.unusedSimpArgs false
set_option maxRecDepth 20000
set_option maxHeartbeats 4000000

theorem num_any (w : World) (x : Int) : Calls Tryz.prog 7 #[.int .i64 x] w fun e w' => e = .returned (.int .i64 x) ∧ w' = w := by
  go_enter Tryz.func7, Tryz.ntmps7
  go_wp2
  go_ret
  exact ⟨rfl, rfl⟩
theorem rcommand_nil (w : World) (a : Option Addr) (c : Nat) : Calls Tryz.prog 22 #[.slice a 0 c] w fun e w' => e = .returned (.tuple #[.slice none 0 0, .int .i64 87]) ∧ w' = w := by
  go_enter Tryz.func22, Tryz.ntmps22
  go_wp2
  go_ret2
  exact ⟨rfl, rfl⟩
theorem Spd.below {w wr wr' : World} {gm n g9 : Nat} {fv : Value} {L : List (List Nat)} {G : Nat → Nat} (h : Spd w wr gm n g9 fv L G) (hb : Below wr.heap.size wr wr') : Spd w wr' gm n g9 fv L G :=
  ⟨h.bel.trans (hb.mono h.bel.size), h.gmb, h.m.below hb, h.full.below hb, fun k hk => ⟨(h.row k hk).1, (h.row k hk).2.below hb⟩, h.one, h.nine.below hb, h.nin⟩
theorem flat_len : ∀ (L : List (List Nat)) (m : Nat), (∀ T ∈ L, T.length ≤ m) → L.flatten.length ≤ L.length * m
  | [], m, _ => by simp
  | x :: L, m, h => by
    have h1 := h x (List.mem_cons_self ..)
    have h2 := flat_len L m (fun T hT => h T (List.mem_cons_of_mem _ hT))
    simp only [List.flatten_cons, List.length_append, List.length_cons, Nat.add_mul, Nat.one_mul]
    omega
theorem cmdL_len {L : List (List Nat)} (h : ¬ cmdBad L) : (cmdL L).length ≤ 600000 := by
  have h1 : L.length ≤ 128 := Classical.byContradiction (fun e => h (.inr (.inl (by omega))))
  have h2 : ∀ T ∈ L, T.length ≤ 4096 := fun T hT => Classical.byContradiction (fun e => h (.inr (.inr ⟨T, hT, by omega⟩)))
  have sp := spell_short (L.length : Nat) (by omega) (by omega)
  have h3 := flat_len (L.map textL) 4125 (fun T hT => by
    obtain ⟨x, hx, rfl⟩ := List.mem_map.1 hT
    exact textL_len x (h2 x hx))
  unfold cmdL numL
  simp only [List.length_append, List.length_map, List.length_cons, List.length_nil] at h3 ⊢
  have : L.length * 4125 ≤ 128 * 4125 := Nat.mul_le_mul_right _ h1
  omega
/-- what both sides answer of these arguments -/
def BothC (L : List (List Nat)) (l : List Nat) (E : Int) : Prop :=
  (∀ w b off cap, Tab w → ArgsAt w b off L → Calls Tryz.prog 21 #[.slice (some ⟨b, off, none⟩) L.length cap] w fun e w' => ∃ va vc, e = .returned (.tuple #[.slice va l.length vc, .int .i64 E]) ∧ Hid (Gro w w' w.heap.size (.slice va l.length vc) l.length l)) ∧
  (∀ w a cap, ArgsO w a L → Calls Tryz.prog 22 #[.slice a L.length cap] w fun e w' => ∃ va vc, e = .returned (.tuple #[.slice va l.length vc, .int .i64 E]) ∧ Hid (Bytes w' va l ∧ (∀ g off, 0 < l.length → va = some ⟨g, off, none⟩ → w.heap.size ≤ g) ∧ Below w.heap.size w w'))
theorem both_any (L : List (List Nat)) (hS : ∀ T ∈ L, Small T) : ∃ l E, l.length ≤ 600000 ∧ BothC L l E := by
  by_cases hb : cmdBad L
  · refine ⟨[], 87, by simp, fun w b off cap ht hA => (command_any w b off cap L ht hA).mono ?_, fun w a cap hA => ?_⟩
    · rintro e w' (⟨-, rfl, h⟩ | ⟨h, -⟩)
      · exact ⟨none, 0, rfl, hide ⟨h, h.size, .inl ⟨rfl, rfl⟩, fun g hg => by simp [Value.ownBlock] at hg, rfl⟩⟩
      · exact absurd hb h
    · rcases hA with rfl | ⟨b, off, rfl, hA⟩
      · refine (rcommand_nil w a cap).mono ?_
        rintro e w' ⟨rfl, h⟩
        obtain rfl := h.symm
        exact ⟨none, 0, rfl, hide ⟨.inl rfl, fun g off h => by simp at h, Below.refl _ _⟩⟩
      · refine (rcommand_any w b off cap L hA hS).mono ?_
        rintro e w' (⟨-, rfl, h⟩ | ⟨h, -⟩)
        · exact ⟨none, 0, rfl, hide ⟨.inl rfl, fun g off h => by simp at h, h⟩⟩
        · exact absurd hb h
  · refine ⟨cmdL L, 0, cmdL_len hb, fun w b off cap ht hA => (command_any w b off cap L ht hA).mono ?_, fun w a cap hA => ?_⟩
    · rintro e w' (⟨h, -⟩ | ⟨-, va, n, vc, rfl, h⟩)
      · exact absurd h hb
      · obtain rfl := (unhide h).len
        exact ⟨va, vc, rfl, h⟩
    · rcases hA with rfl | ⟨b, off, rfl, hA⟩
      · exact absurd (.inl rfl) hb
      · refine (rcommand_any w b off cap L hA hS).mono ?_
        rintro e w' (⟨h, -⟩ | ⟨-, va, n, vc, rfl, h⟩)
        · exact absurd h hb
        · obtain ⟨g, cap', cur, fz, h1, h2, h3, h4, h5, h6, h7, h8⟩ := (unhide h).row
          cases h1
          subst h7
          refine ⟨_, _, rfl, hide ⟨.inr ⟨g, 0, rfl, block_lt h2, fun i hi => ?_⟩, fun g' off' h0 e => ?_, (unhide h).bel⟩⟩
          · rw [Nat.zero_add, cell_of_row _ _ _ _ _ _ h2, h8 i hi]; rfl
          · cases e
            exact (unhide h).own g rfl
theorem Td.start {W : World} (pb : Nat) (h1 : W.heap[pb]? = some (.cells #[.slice none 0 0, .slice none 0 0, .int .i64 0, .slice none 0 0, .slice none 0 0, .int .i64 0, .slice none 0 0, .slice none 0 0, .int .i64 0, .slice none 0 0, .slice none 0 0, .int .i64 0, .slice none 0 0, .slice none 0 0, .int .i64 0, .slice none 0 0, .slice none 0 0, .int .i64 0, .slice none 0 0, .slice none 0 0, .int .i64 0, .slice none 0 0, .slice none 0 0, .int .i64 0, .slice none 0 0, .slice none 0 0, .int .i64 0, .slice none 0 0, .slice none 0 0, .int .i64 0, .int .i64 0, .int .i64 0, .int .i64 0] 48 (0, 0))) (h2 : W.heap[pb + 1]? = some (.cells #[.pointer (some ⟨pb, 0, none⟩), .int .i64 400000] 50 (0, 0))) : Td W W pb 0 400000 [] [] := by
  have half : ∀ (c : Nat) (te tl : TypeId) (mk : Nat → Nat → Value), Bk.Half c te tl mk W (fun _ => 0) 0 ⟨Bk.nilS, Bk.nilS, [], [], 0⟩ := fun c te tl mk => ⟨.inl ⟨rfl, rfl⟩, .inl ⟨rfl, rfl⟩, fun g hg => by simp [Bk.nilS, Value.ownBlock] at hg, fun g hg => by simp [Bk.nilS, Value.ownBlock] at hg, fun j hj => by simp at hj, fun j _ hj => by simp at hj, by simp⟩
  refine ⟨fun _ => 0, ⟨⟨Bk.nilS, Bk.nilS, [], [], 0⟩, ⟨Bk.nilS, Bk.nilS, [], [], 0⟩, 0, 0, 0⟩, Nat.le_refl _, ⟨⟨⟨fun i hi => ?_, fun i hi => ?_, block_lt h1⟩, half _ _ _ _, half _ _ _ _, fun g hg => absurd rfl hg, rfl, rfl, rfl, Nat.le_refl _, Nat.le_refl _, by decide, by decide, by decide⟩, h2, rfl, fun b hb => rfl, fun z hz => (by cases hz), List.Pairwise.nil, fun x hx => (by cases hx), Kept.refl _ _, by have := block_lt h1; omega⟩⟩
  · simp only [World.cell?, h1, Nat.zero_add]
    match i, hi with
    | 0, _ => rfl | 1, _ => rfl | 2, _ => rfl | 3, _ => rfl | 4, _ => rfl | 5, _ => rfl | 6, _ => rfl | 7, _ => rfl | 8, _ => rfl | 9, _ => rfl | 10, _ => rfl | 11, _ => rfl | 12, _ => rfl | 13, _ => rfl | 14, _ => rfl | 15, _ => rfl | 16, _ => rfl | 17, _ => rfl | 18, _ => rfl | 19, _ => rfl | 20, _ => rfl | 21, _ => rfl | 22, _ => rfl | 23, _ => rfl | 24, _ => rfl | 25, _ => rfl | 26, _ => rfl | 27, _ => rfl | 28, _ => rfl | 29, _ => rfl | 30, _ => rfl | 31, _ => rfl | 32, _ => rfl | k + 33, h => exact absurd h (by omega)
  · simp only [World.frozen?, h1]
    simp
theorem ArgsW.opt {w w' : World} {a : Option Addr} {L : List (List Nat)} (h : ArgsW w a L) (hb : Below w.heap.size w w') (hs : ∀ T ∈ L, T.length ≤ 268435456) : ArgsO w' a L := by
  rcases h with h | ⟨b, off, rfl, hlt, hc⟩
  · exact .inl h
  · refine ArgsO.below (.inr ⟨b, off, rfl, hlt, fun k T hT => ?_⟩) hb
    obtain ⟨x, c, h1, h2, h3⟩ := hc k T hT
    exact ⟨x, c, h1, h2, hs T (List.mem_of_getElem? hT)⟩
theorem ArgsW.low {w w' : World} {a : Option Addr} {L : List (List Nat)} (h : ArgsW w a L) (hb : Below w.heap.size w w') : LowO w' a L w.heap.size := by
  intro b off k T e hT
  rcases h with rfl | ⟨b', off', e', hlt, hc⟩
  · simp at hT
  · rw [e] at e'
    cases e'
    refine ⟨hlt, fun x c g o hx h0 hg => ?_⟩
    obtain ⟨x', c', h1, h2, h3⟩ := hc k T hT
    rw [hb.cell hlt, h1] at hx
    cases hx
    rcases h2 with rfl | ⟨b2, o2, e2, hl2, _⟩
    · simp at h0
    · rw [hg] at e2
      cases e2
      exact hl2
theorem Td.old {w0 w1 W : World} {pb t : Nat} {m : Int} {Z : List (Value × List Nat)} {X : List (Nat × Obj)} (h : Td w1 W pb t m Z X) (h01 : Below w0.heap.size w0 w1) (hp : w0.heap.size ≤ pb) : Below w0.heap.size w0 W := by
  have k := h.kept
  exact h01.trans ⟨k.os, k.tape, k.output, k.size, fun b hb => k.blk b (Nat.lt_of_lt_of_le hb h01.size) (by omega)⟩
end Go.Proofs.YtcnlikojbkegiaaGreatDoor
