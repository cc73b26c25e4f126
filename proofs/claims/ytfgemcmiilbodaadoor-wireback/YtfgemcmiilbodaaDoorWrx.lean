/- addLine, addNumber, addText: what they leave as it was. -/
import Derived.Test.YtfgemcmiilbodaaDoorWrb
namespace Go.Proofs.YtfgemcmiilbodaaDoor
open Go.ChangeShapes Go.WideShapes Go.ChangeAt Go.RowKit
set_option linter.unusedVariables false
set_option linter.unusedSimpArgs false
set_option maxRecDepth 20000
set_option maxHeartbeats 4000000

theorem Gw.trans {a b c : World} {u v x : Value} (h : Gw a b u v) (k : Gw b c v x) : Gw a c u x := by
  have hs := h.size
  refine ⟨k.os.trans h.os, k.tape.trans h.tape, k.output.trans h.output, Nat.le_trans h.size k.size, fun j hj hu => ?_, fun g hg => ?_⟩
  · rw [k.oth j (by omega) (fun e => by rcases h.own j e with e | e; exact hu e; omega), h.oth j hj hu]
  · rcases k.own g hg with e | e
    · exact h.own g e
    · exact .inr (by omega)
theorem Gw.below {a b c : World} {u v : Value} (h : Gw a b u v) (hb : Below b.heap.size b c) : Gw a c u v :=
  ⟨hb.os.trans h.os, hb.tape.trans h.tape, hb.output.trans h.output, Nat.le_trans h.size hb.size, fun j hj hu => (hb.block j (Nat.lt_of_lt_of_le hj h.size)).trans (h.oth j hj hu), h.own⟩
/-- a row that grows, and what is still as it was in W1 -/
structure Grw (w0 W1 : World) (V : Value) (W : World) (B : Nat) (v : Value) (n : Nat) (l : List Nat) : Prop where
  gro : Gro w0 W B v n l
  gw : Gw W1 W V v
theorem Grw.below {w0 W1 W W' : World} {V v : Value} {B n : Nat} {l : List Nat} (h : Grw w0 W1 V W B v n l) (hb : Below W.heap.size W W') : Grw w0 W1 V W' B v n l := ⟨h.gro.below hb, h.gw.below hb⟩
theorem Grw.app {w0 W1 W w' : World} {V v v' : Value} {B n : Nat} {l m : List Nat} (h : Grw w0 W1 V W B v n l) (hR : Rws w' 5 1 v' (n + m.length) (fun k => if k < n then byV l k else byV m (k - n))) (hG : Gw W w' v v') : Grw w0 W1 V w' B v' (n + m.length) (l ++ m) := ⟨h.gro.app hR hG, h.gw.trans hG⟩
theorem Gro.w {w0 W : World} {v : Value} {B n : Nat} {l : List Nat} (h : Gro w0 W B v n l) : Grw w0 W v W B v n l := ⟨h, Gw.refl _ _⟩
theorem addline_w (w0 W1 w : World) (V : Value) (B : Nat) (va a : Option Addr) (n vc c mk : Nat) (l T : List Nat) (h : Grw w0 W1 V w B (.slice va n vc) n l) (hT : Bytes w a T) (ho : ∀ g off, 0 < T.length → a = some ⟨g, off, none⟩ → (Value.slice va n vc).ownBlock ≠ some g) (hl : n + T.length ≤ 1073741824) :
    Calls Tryd.prog 24 #[.slice va n vc, .int .u8 (mk : Nat), .slice a T.length c] w fun e w' => ∃ va' vc', e = .returned (.slice va' (n + 1 + T.length + 2) vc') ∧ Hid (Grw w0 W1 V w' B (.slice va' (n + 1 + T.length + 2) vc') (n + 1 + T.length + 2) (l ++ [mk] ++ T ++ [13, 10])) := by
  obtain ⟨i5, hi5, hz5, hs5, hb5⟩ := info_partsS Tryd.info5s
  have H := hide h
  have HT := hide hT
  have HO := hide ho
  clear h hT ho
  have al1 : Hid (Below w.heap.size w (w.alloc (.cells #[.int .u8 (mk : Nat)] 5))) := hide ((Below.refl _ _).alloc (Nat.le_refl _) _)
  have mb1 : Hid (Bytes (w.alloc (.cells #[.int .u8 (mk : Nat)] 5)) (some ⟨w.heap.size, 0, none⟩) [mk]) := hide (made_bytes w [mk])
  go_enter Tryd.func24, Tryd.ntmps24
  have AL : Hid (∀ W : World, ∀ o, Below W.heap.size W (W.alloc o)) := hide (fun W o => (Below.refl _ _).alloc (Nat.le_refl _) _)
  have MB : Hid (∀ W : World, Bytes (W.alloc (.cells #[.int .u8 13, .int .u8 10] 5)) (some ⟨W.heap.size, 0, none⟩) [13, 10]) := hide (fun W => made_bytes W [13, 10])
  have ST : Hid (∀ v1 w1, Rws w1 5 1 v1 (n + [mk].length) (fun k => if k < n then byV l k else byV [mk] (k - n)) → Gw (w.alloc (.cells #[.int .u8 (mk : Nat)] 5)) w1 (.slice va n vc) v1 → Grw w0 W1 V w1 B v1 (n + 1) (l ++ [mk]) ∧ Bytes w1 a T) := hide (fun v1 w1 h1 g1 => ⟨((unhide H).below (unhide al1)).app h1 g1, g1.bytes ((unhide HT).below (unhide al1)) (unhide HO)⟩)
  go_wp2_with (first
    | (at_builtin; refine append_bytes rfl _ _ 22 rfl i5 Tryd.underlying22 hi5 hz5 hs5 hb5 (.slice va n vc) n (byV l) rfl ((unhide H).gro.row.below (unhide al1)) (some ⟨w.heap.size, 0, none⟩) 1 [mk] rfl (unhide mb1) (by simp; omega) ?_; intro v1 w1 h1 g1; have HG1 := hide (unhide ST _ _ h1 g1); obtain ⟨a1, c1, rfl⟩ := h1.shape; clear h1 g1)
    | (at_builtin; refine append_bytes rfl _ _ 22 rfl i5 Tryd.underlying22 hi5 hz5 hs5 hb5 (.slice a1 (n + 1) c1) (n + 1) (byV (l ++ [mk])) rfl (unhide HG1).1.gro.row a c T rfl (unhide HG1).2 (by omega) ?_; intro v2 w2 h2 g2; have HG2 := hide ((unhide HG1).1.app h2 g2); obtain ⟨a2, c2, rfl⟩ := h2.shape; clear h2 g2)
    | (at_builtin; refine append_bytes rfl _ _ 22 rfl i5 Tryd.underlying22 hi5 hz5 hs5 hb5 (.slice a2 (n + 1 + T.length) c2) (n + 1 + T.length) (byV (l ++ [mk] ++ T)) rfl ((unhide HG2).gro.row.below (unhide AL _ _)) (some ⟨w2.heap.size, 0, none⟩) 2 [13, 10] rfl (unhide MB w2) (by simp; omega) ?_; intro v3 w3 h3 g3; have HG3 := hide (((unhide HG2).below (unhide AL _ _)).app h3 g3); obtain ⟨a3, c3, rfl⟩ := h3.shape; clear h3 g3))
  go_ret
  exact ⟨_, _, rfl, HG3⟩
theorem addnum_w (w0 W1 w : World) (V : Value) (B : Nat) (va : Option Addr) (n vc mk : Nat) (l : List Nat) (x : Int) (h : Grw w0 W1 V w B (.slice va n vc) n l) (ht : Tab w) (hx : -9223372036854775808 ≤ x ∧ x ≤ 9223372036854775807) (hl : n ≤ 536870912) :
    Calls Tryd.prog 25 #[.slice va n vc, .int .u8 (mk : Nat), .int .i64 x] w fun e w' => ∃ va' n' vc', e = .returned (.slice va' n' vc') ∧ Hid (Grw w0 W1 V w' B (.slice va' n' vc') n' (l ++ numL mk x)) := by
  have CT : Hid (Calls Tryd.prog 33 #[.int .i64 x] w fun e w' => ∃ a c, e = .returned (.slice a (Larder.spellI x).length c) ∧ Hid (Bytes w' a (Larder.spellI x) ∧ Below w.heap.size w w' ∧ ∀ g off, 0 < (Larder.spellI x).length → a = some ⟨g, off, none⟩ → w.heap.size ≤ g)) := hide ((text_any x (by omega) (by omega) w ht).mono (fun e w' ⟨v, h1, h2, h3⟩ => by
    obtain ⟨a, c, rfl, hb, hz⟩ := h2.shape
    refine ⟨a, c, h1, hide ⟨hb, h3, fun g off hp e => h2.ge g ?_⟩⟩
    rcases h2.rws with ⟨q, q0⟩ | ⟨b', cap, cur, q, _⟩
    · omega
    · cases q; cases e; rfl))
  have sp : (Larder.spellI x).length ≤ 21 := spell_short x (by omega) (by omega)
  have H := hide h
  clear h ht
  obtain ⟨S, hS⟩ : ∃ S, S = Larder.spellI x := ⟨_, rfl⟩
  unfold numL
  rw [← hS] at CT sp ⊢
  clear hS
  go_enter Tryd.func25, Tryd.ntmps25
  go_wp2_with (go_at_call 33; refine (unhide CT).mono ?_; rintro e w1 ⟨a1, c1, rfl, k1⟩)
  refine (addline_w w0 W1 w1 V B va a1 n vc c1 mk l S ((unhide H).below (unhide k1).2.1) (unhide k1).1 (fun g off hp e e2 => ?_) (by omega)).mono ?_
  · have h1 := (unhide k1).2.2 g off hp e
    have h2 := (unhide H).gro.row.lt g e2
    omega
  · rintro e w2 ⟨a2, c2, rfl, k2⟩
    go_wp2
    go_ret
    exact ⟨_, _, _, rfl, by simpa using k2⟩
theorem addtext_w (w0 W1 w : World) (V : Value) (va a : Option Addr) (n vc c : Nat) (l T : List Nat) (h : Grw w0 W1 V w w0.heap.size (.slice va n vc) n l) (ht : Tab w0) (hT : Bytes w0 a T) (hl : n ≤ 268435456) (hl2 : T.length ≤ 268435456) :
    Calls Tryd.prog 26 #[.slice va n vc, .slice a T.length c] w fun e w' => ∃ va' n' vc', e = .returned (.slice va' n' vc') ∧ Hid (Grw w0 W1 V w' w0.heap.size (.slice va' n' vc') n' (l ++ textL T)) := by
  obtain ⟨i5, hi5, hz5, hs5, hb5⟩ := info_partsS Tryd.info5s
  have CN : Hid (Calls Tryd.prog 25 #[.slice va n vc, .int .u8 36, .int .i64 (T.length : Nat)] w fun e w' => ∃ va' n' vc', e = .returned (.slice va' n' vc') ∧ Hid (Grw w0 W1 V w' w0.heap.size (.slice va' n' vc') n' (l ++ numL 36 T.length))) := hide (addnum_w w0 W1 w V w0.heap.size va n vc 36 l (T.length : Nat) h (ht.below h.gro.bel) ⟨by omega, by omega⟩ (by omega))
  have AL : Hid (∀ W : World, ∀ o, Below W.heap.size W (W.alloc o)) := hide (fun W o => (Below.refl _ _).alloc (Nat.le_refl _) _)
  have MB : Hid (∀ W : World, Bytes (W.alloc (.cells #[.int .u8 13, .int .u8 10] 5)) (some ⟨W.heap.size, 0, none⟩) [13, 10]) := hide (fun W => made_bytes W [13, 10])
  have LN : Hid (∀ W n' v, Grw w0 W1 V W w0.heap.size v n' (l ++ numL 36 T.length) → n' + T.length + 2 ≤ 140737488355328) := hide (fun W n' v g => by
    have := g.gro.len
    have sp := spell_short (T.length : Nat) (by omega) (by omega)
    have h1 := h.gro.len
    unfold numL at this
    simp only [List.length_append, List.length_cons, List.length_nil] at this
    omega)
  have HT := hide hT
  clear h ht hT
  go_enter Tryd.func26, Tryd.ntmps26
  go_wp2_with (first
    | (go_at_call 25; refine (unhide CN).mono ?_; rintro e w1 ⟨a1, n1, c1, rfl, HG1⟩; have L1 := unhide LN _ _ _ (unhide HG1))
    | (at_builtin; refine append_bytes rfl _ _ 22 rfl i5 Tryd.underlying22 hi5 hz5 hs5 hb5 (.slice a1 n1 c1) n1 (byV (l ++ numL 36 T.length)) rfl (unhide HG1).gro.row a c T rfl ((unhide HT).below (unhide HG1).gro.bel) (by omega) ?_; intro v2 w2 h2 g2; have HG2 := hide ((unhide HG1).app h2 g2); obtain ⟨a2, c2, rfl⟩ := h2.shape; clear h2 g2)
    | (at_builtin; refine append_bytes rfl _ _ 22 rfl i5 Tryd.underlying22 hi5 hz5 hs5 hb5 (.slice a2 (n1 + T.length) c2) (n1 + T.length) (byV (l ++ numL 36 T.length ++ T)) rfl ((unhide HG2).gro.row.below (unhide AL _ _)) (some ⟨w2.heap.size, 0, none⟩) 2 [13, 10] rfl (unhide MB w2) (by simp; omega) ?_; intro v3 w3 h3 g3; have HG3 := hide (((unhide HG2).below (unhide AL _ _)).app h3 g3); obtain ⟨a3, c3, rfl⟩ := h3.shape; clear h3 g3))
  go_ret
  exact ⟨_, _, _, rfl, by unfold textL; simpa using HG3⟩

end Go.Proofs.YtfgemcmiilbodaaDoor
