/- wire: what writes a request. -/
import Derived.Test.YtfgemcmiilbodaaDoorApb
import Derived.Test.YtfgemcmiilbodaaDoorText
namespace Go.Proofs.YtfgemcmiilbodaaDoor
open Go.ChangeShapes Go.WideShapes Go.ChangeAt Go.RowKit
set_option linter.unusedVariables false
set_option linter.unusedSimpArgs false
set_option maxRecDepth 20000
set_option maxHeartbeats 4000000

theorem Tryd.info5s : (Tryd.prog.info? 5).map (fun i => (i.zero, i.size, i.bytes)) = some (some (.int .u8 0), 1, 1) := by kernel_rfl
theorem info_partsS {P : Program} {e : TypeId} {z : Value} {s b : Nat} (h : (P.info? e).map (fun i => (i.zero, i.size, i.bytes)) = some (some z, s, b)) : ∃ ie, P.info? e = some ie ∧ ie.zero = some z ∧ ie.size = s ∧ ie.bytes = b := by
  obtain ⟨ie, h1, h2⟩ := Option.map_eq_some_iff.1 h
  injection h2 with h3 h4
  injection h4 with h5 h6
  exact ⟨ie, h1, h3, h5, h6⟩
/-- a row of bytes that grows, from B on; all below B is as in w -/
structure Gro (w W : World) (B : Nat) (v : Value) (n : Nat) (l : List Nat) : Prop where
  bel : Below B w W
  sz : B ≤ W.heap.size
  row : Rws W 5 1 v n (byV l)
  own : ∀ g, v.ownBlock = some g → B ≤ g
  len : n = l.length
theorem Gro.below {w W W' : World} {B n : Nat} {v : Value} {l : List Nat} (h : Gro w W B v n l) (hb : Below W.heap.size W W') : Gro w W' B v n l :=
  ⟨h.bel.trans (hb.mono h.sz), Nat.le_trans h.sz hb.size, h.row.below hb, h.own, h.len⟩
theorem Gro.app {w W w' : World} {B n : Nat} {v v' : Value} {l m : List Nat} (h : Gro w W B v n l) (hR : Rws w' 5 1 v' (n + m.length) (fun k => if k < n then byV l k else byV m (k - n))) (hG : Gw W w' v v') : Gro w w' B v' (n + m.length) (l ++ m) := by
  refine ⟨h.bel.trans ⟨hG.os, hG.tape, hG.output, hG.size, fun b hb => hG.oth b (Nat.lt_of_lt_of_le hb h.sz) (fun e => by have := h.own b e; omega)⟩, Nat.le_trans h.sz hG.size, hR.congr (fun k hk => ?_), fun g hg => ?_, by rw [List.length_append, h.len]⟩
  · have hn := h.len
    unfold byV
    by_cases q : k < n
    · rw [if_pos q, List.getD_eq_getElem?_getD, List.getD_eq_getElem?_getD, List.getElem?_append_left (by omega)]
    · rw [if_neg q, List.getD_eq_getElem?_getD, List.getD_eq_getElem?_getD, List.getElem?_append_right (by omega), hn]
  · rcases hG.own g hg with q | q
    · exact h.own g q
    · exact Nat.le_trans h.sz q
/-- bytes elsewhere -/
theorem Gw.bytes {W w' : World} {v v' : Value} {a : Option Addr} {l : List Nat} (hG : Gw W w' v v') (hB : Bytes W a l) (hn : ∀ g off, 0 < l.length → a = some ⟨g, off, none⟩ → v.ownBlock ≠ some g) : Bytes w' a l := by
  rcases hB with e | ⟨b, off, rfl, hb, hc⟩
  · exact .inl e
  · rcases Nat.eq_zero_or_pos l.length with q | q
    · exact .inl (List.eq_nil_of_length_eq_zero q)
    · have hblk := hG.oth b hb (hn b off q rfl)
      refine .inr ⟨b, off, rfl, Nat.lt_of_lt_of_le hb hG.size, fun i hi => ?_⟩
      rw [← hc i hi]
      unfold World.cell?
      rw [hblk]
theorem made_bytes (w : World) (l : List Nat) : Bytes (w.alloc (.cells (cellsOf l).toArray 5)) (some ⟨w.heap.size, 0, none⟩) l := .inr ⟨w.heap.size, 0, rfl, by simp, fun i hi => by
  rw [Nat.zero_add, cell_of_row _ _ _ _ _ _ (heap_alloc_new w _), List.getElem?_toArray, cellsOf_at l i hi]⟩
theorem addline_any (w0 w : World) (B : Nat) (va a : Option Addr) (n vc c mk : Nat) (l T : List Nat) (h : Gro w0 w B (.slice va n vc) n l) (hT : Bytes w a T) (ho : ∀ g off, 0 < T.length → a = some ⟨g, off, none⟩ → (Value.slice va n vc).ownBlock ≠ some g) (hl : n + T.length ≤ 1073741824) :
    Calls Tryd.prog 24 #[.slice va n vc, .int .u8 (mk : Nat), .slice a T.length c] w fun e w' => ∃ va' vc', e = .returned (.slice va' (n + 1 + T.length + 2) vc') ∧ Hid (Gro w0 w' B (.slice va' (n + 1 + T.length + 2) vc') (n + 1 + T.length + 2) (l ++ [mk] ++ T ++ [13, 10])) := by
  obtain ⟨i5, hi5, hz5, hs5, hb5⟩ := info_partsS Tryd.info5s
  have H := hide h
  have HT := hide hT
  have HO := hide ho
  clear h hT ho
  have al1 : Hid (Below w.heap.size w (w.alloc (.cells #[.int .u8 (mk : Nat)] 5))) := hide ((Below.refl _ _).alloc (Nat.le_refl _) _)
  have mb1 : Hid (Bytes (w.alloc (.cells #[.int .u8 (mk : Nat)] 5)) (some ⟨w.heap.size, 0, none⟩) [mk]) := hide (made_bytes w [mk])
  go_enter Tryd.func24, Tryd.ntmps24
  have AL : Hid (∀ W : World, ∀ o, Below W.heap.size W (W.alloc o)) := hide (fun W o => (Below.refl _ _).alloc (Nat.le_refl _) _)
  have MB : Hid (∀ W : World, Bytes (W.alloc (.cells #[.int .u8 13, .int .u8 10] 5)) (some ⟨W.heap.size, 0, none⟩) [13, 10]) := hide (fun W => made_bytes W [13, 10])
  have ST : Hid (∀ v1 w1, Rws w1 5 1 v1 (n + [mk].length) (fun k => if k < n then byV l k else byV [mk] (k - n)) → Gw (w.alloc (.cells #[.int .u8 (mk : Nat)] 5)) w1 (.slice va n vc) v1 → Gro w0 w1 B v1 (n + 1) (l ++ [mk]) ∧ Bytes w1 a T) := hide (fun v1 w1 h1 g1 => ⟨((unhide H).below (unhide al1)).app h1 g1, g1.bytes ((unhide HT).below (unhide al1)) (unhide HO)⟩)
  go_wp2_with (first
    | (at_builtin; refine append_bytes rfl _ _ 22 rfl i5 Tryd.underlying22 hi5 hz5 hs5 hb5 (.slice va n vc) n (byV l) rfl ((unhide H).row.below (unhide al1)) (some ⟨w.heap.size, 0, none⟩) 1 [mk] rfl (unhide mb1) (by simp; omega) ?_; intro v1 w1 h1 g1; have HG1 := hide (unhide ST _ _ h1 g1); obtain ⟨a1, c1, rfl⟩ := h1.shape; clear h1 g1)
    | (at_builtin; refine append_bytes rfl _ _ 22 rfl i5 Tryd.underlying22 hi5 hz5 hs5 hb5 (.slice a1 (n + 1) c1) (n + 1) (byV (l ++ [mk])) rfl (unhide HG1).1.row a c T rfl (unhide HG1).2 (by omega) ?_; intro v2 w2 h2 g2; have HG2 := hide ((unhide HG1).1.app h2 g2); obtain ⟨a2, c2, rfl⟩ := h2.shape; clear h2 g2)
    | (at_builtin; refine append_bytes rfl _ _ 22 rfl i5 Tryd.underlying22 hi5 hz5 hs5 hb5 (.slice a2 (n + 1 + T.length) c2) (n + 1 + T.length) (byV (l ++ [mk] ++ T)) rfl ((unhide HG2).row.below (unhide AL _ _)) (some ⟨w2.heap.size, 0, none⟩) 2 [13, 10] rfl (unhide MB w2) (by simp; omega) ?_; intro v3 w3 h3 g3; have HG3 := hide (((unhide HG2).below (unhide AL _ _)).app h3 g3); obtain ⟨a3, c3, rfl⟩ := h3.shape; clear h3 g3))
  go_ret
  exact ⟨_, _, rfl, HG3⟩
theorem Gro.start (w : World) (B : Nat) (hB : B ≤ w.heap.size) : Gro w w B (.slice none 0 0) 0 [] := ⟨Below.refl _ _, hB, .inl ⟨rfl, rfl⟩, fun g hg => by simp [Value.ownBlock] at hg, rfl⟩
theorem spell_short (n : Int) (h1 : -9223372036854775808 ≤ n) (h2 : n ≤ 9223372036854775807) : (Larder.spellI n).length ≤ 21 := by
  unfold Larder.spellI
  rw [Larder.nums_length]
  exact Lib.itoa_length_le n h1 h2
def numL (mk : Nat) (n : Int) : List Nat := [mk] ++ Larder.spellI n ++ [13, 10]
theorem addnum_any (w0 w : World) (B : Nat) (va : Option Addr) (n vc mk : Nat) (l : List Nat) (x : Int) (h : Gro w0 w B (.slice va n vc) n l) (ht : Tab w) (hx : -9223372036854775808 ≤ x ∧ x ≤ 9223372036854775807) (hl : n ≤ 536870912) :
    Calls Tryd.prog 25 #[.slice va n vc, .int .u8 (mk : Nat), .int .i64 x] w fun e w' => ∃ va' n' vc', e = .returned (.slice va' n' vc') ∧ Hid (Gro w0 w' B (.slice va' n' vc') n' (l ++ numL mk x)) := by
  have CT : Hid (Calls Tryd.prog 33 #[.int .i64 x] w fun e w' => ∃ a c, e = .returned (.slice a (Larder.spellI x).length c) ∧ Hid (Bytes w' a (Larder.spellI x) ∧ Below w.heap.size w w' ∧ ∀ g off, 0 < (Larder.spellI x).length → a = some ⟨g, off, none⟩ → w.heap.size ≤ g)) := hide ((text_any x (by omega) (by omega) w ht).mono (fun e w' ⟨v, h1, h2, h3⟩ => by
    obtain ⟨a, c, rfl, hb, hz⟩ := h2.shape
    refine ⟨a, c, h1, hide ⟨hb, h3, fun g off hp e => h2.ge g ?_⟩⟩
    rcases h2.rws with ⟨q, q0⟩ | ⟨b', cap, cur, q, _⟩
    · omega
    · cases q; cases e; rfl))
  have sp : (Larder.spellI x).length ≤ 21 := spell_short x (by omega) (by omega)
  have H := hide h
  clear h ht
  obtain ⟨S, hS⟩ : ∃ S, S = Larder.spellI x := ⟨_, rfl⟩
  unfold numL
  rw [← hS] at CT sp ⊢
  clear hS
  go_enter Tryd.func25, Tryd.ntmps25
  go_wp2_with (go_at_call 33; refine (unhide CT).mono ?_; rintro e w1 ⟨a1, c1, rfl, k1⟩)
  refine (addline_any w0 w1 B va a1 n vc c1 mk l S ((unhide H).below (unhide k1).2.1) (unhide k1).1 (fun g off hp e e2 => ?_) (by omega)).mono ?_
  · have h1 := (unhide k1).2.2 g off hp e
    have h2 := (unhide H).row.lt g e2
    omega
  · rintro e w2 ⟨a2, c2, rfl, k2⟩
    go_wp2
    go_ret
    exact ⟨_, _, _, rfl, by simpa using k2⟩
end Go.Proofs.YtfgemcmiilbodaaDoor
