/- Decode and Encode, in plain words: what is read is what would be written. -/
import Derived.Test.YtecfgbjnjgjkoaaGreatDoorWrb
import Derived.Test.YtecfgbjnjgjkoaaGreatDoorFit
import Derived.Test.YtecfgbjnjgjkoaaGreatDoorPfa
import Derived.Test.YtecfgbjnjgjkoaaGreatDoorDcq
namespace Go.Proofs.YtecfgbjnjgjkoaaGreatDoor
open Go.ChangeShapes Go.WideShapes Go.ChangeAt Go.RowKit
set_option linter.unusedVariables false
set_option linter.unusedSimpArgs false
set_option maxRecDepth 20000
set_option maxHeartbeats 4000000

theorem Gw.trans {a b c : World} {u v x : Value} (h : Gw a b u v) (k : Gw b c v x) : Gw a c u x := by
  have hs := h.size
  refine ⟨k.os.trans h.os, k.tape.trans h.tape, k.output.trans h.output, Nat.le_trans h.size k.size, fun j hj hu => ?_, fun g hg => ?_⟩
  · rw [k.oth j (by omega) (fun e => by rcases h.own j e with e | e; exact hu e; omega), h.oth j hj hu]
  · rcases k.own g hg with e | e
    · exact h.own g e
    · exact .inr (by omega)
theorem Gw.below {a b c : World} {u v : Value} (h : Gw a b u v) (hb : Below b.heap.size b c) : Gw a c u v :=
  ⟨hb.os.trans h.os, hb.tape.trans h.tape, hb.output.trans h.output, Nat.le_trans h.size hb.size, fun j hj hu => (hb.block j (Nat.lt_of_lt_of_le hj h.size)).trans (h.oth j hj hu), h.own⟩
/-- a row that grows, and what is still as it was in W1 -/
structure Grw (w0 W1 : World) (V : Value) (W : World) (B : Nat) (v : Value) (n : Nat) (l : List Nat) : Prop where
  gro : Gro w0 W B v n l
  gw : Gw W1 W V v
theorem Grw.below {w0 W1 W W' : World} {V v : Value} {B n : Nat} {l : List Nat} (h : Grw w0 W1 V W B v n l) (hb : Below W.heap.size W W') : Grw w0 W1 V W' B v n l := ⟨h.gro.below hb, h.gw.below hb⟩
theorem Grw.app {w0 W1 W w' : World} {V v v' : Value} {B n : Nat} {l m : List Nat} (h : Grw w0 W1 V W B v n l) (hR : Rws w' 5 1 v' (n + m.length) (fun k => if k < n then byV l k else byV m (k - n))) (hG : Gw W w' v v') : Grw w0 W1 V w' B v' (n + m.length) (l ++ m) := ⟨h.gro.app hR hG, h.gw.trans hG⟩
theorem Gro.w {w0 W : World} {v : Value} {B n : Nat} {l : List Nat} (h : Gro w0 W B v n l) : Grw w0 W v W B v n l := ⟨h, Gw.refl _ _⟩
theorem addline_w (w0 W1 w : World) (V : Value) (B : Nat) (va a : Option Addr) (n vc c mk : Nat) (l T : List Nat) (h : Grw w0 W1 V w B (.slice va n vc) n l) (hT : Bytes w a T) (ho : ∀ g off, 0 < T.length → a = some ⟨g, off, none⟩ → (Value.slice va n vc).ownBlock ≠ some g) (hl : n + T.length ≤ 1073741824) :
    Calls Tryz.prog 35 #[.slice va n vc, .int .u8 (mk : Nat), .slice a T.length c] w fun e w' => ∃ va' vc', e = .returned (.slice va' (n + 1 + T.length + 2) vc') ∧ Hid (Grw w0 W1 V w' B (.slice va' (n + 1 + T.length + 2) vc') (n + 1 + T.length + 2) (l ++ [mk] ++ T ++ [13, 10])) := by
  obtain ⟨i5, hi5, hz5, hs5, hb5⟩ := info_partsS Tryz.info5s
  have H := hide h
  have HT := hide hT
  have HO := hide ho
  clear h hT ho
  have al1 : Hid (Below w.heap.size w (w.alloc (.cells #[.int .u8 (mk : Nat)] 5))) := hide ((Below.refl _ _).alloc (Nat.le_refl _) _)
  have mb1 : Hid (Bytes (w.alloc (.cells #[.int .u8 (mk : Nat)] 5)) (some ⟨w.heap.size, 0, none⟩) [mk]) := hide (made_bytes w [mk])
  go_enter Tryz.func35, Tryz.ntmps35
  have AL : Hid (∀ W : World, ∀ o, Below W.heap.size W (W.alloc o)) := hide (fun W o => (Below.refl _ _).alloc (Nat.le_refl _) _)
  have MB : Hid (∀ W : World, Bytes (W.alloc (.cells #[.int .u8 13, .int .u8 10] 5)) (some ⟨W.heap.size, 0, none⟩) [13, 10]) := hide (fun W => made_bytes W [13, 10])
  have ST : Hid (∀ v1 w1, Rws w1 5 1 v1 (n + [mk].length) (fun k => if k < n then byV l k else byV [mk] (k - n)) → Gw (w.alloc (.cells #[.int .u8 (mk : Nat)] 5)) w1 (.slice va n vc) v1 → Grw w0 W1 V w1 B v1 (n + 1) (l ++ [mk]) ∧ Bytes w1 a T) := hide (fun v1 w1 h1 g1 => ⟨((unhide H).below (unhide al1)).app h1 g1, g1.bytes ((unhide HT).below (unhide al1)) (unhide HO)⟩)
  go_wp2_with (first
    | (at_builtin; refine append_bytes rfl _ _ 25 rfl i5 Tryz.underlying25 hi5 hz5 hs5 hb5 (.slice va n vc) n (byV l) rfl ((unhide H).gro.row.below (unhide al1)) (some ⟨w.heap.size, 0, none⟩) 1 [mk] rfl (unhide mb1) (by simp; omega) ?_; intro v1 w1 h1 g1; have HG1 := hide (unhide ST _ _ h1 g1); obtain ⟨a1, c1, rfl⟩ := h1.shape; clear h1 g1)
    | (at_builtin; refine append_bytes rfl _ _ 25 rfl i5 Tryz.underlying25 hi5 hz5 hs5 hb5 (.slice a1 (n + 1) c1) (n + 1) (byV (l ++ [mk])) rfl (unhide HG1).1.gro.row a c T rfl (unhide HG1).2 (by omega) ?_; intro v2 w2 h2 g2; have HG2 := hide ((unhide HG1).1.app h2 g2); obtain ⟨a2, c2, rfl⟩ := h2.shape; clear h2 g2)
    | (at_builtin; refine append_bytes rfl _ _ 25 rfl i5 Tryz.underlying25 hi5 hz5 hs5 hb5 (.slice a2 (n + 1 + T.length) c2) (n + 1 + T.length) (byV (l ++ [mk] ++ T)) rfl ((unhide HG2).gro.row.below (unhide AL _ _)) (some ⟨w2.heap.size, 0, none⟩) 2 [13, 10] rfl (unhide MB w2) (by simp; omega) ?_; intro v3 w3 h3 g3; have HG3 := hide (((unhide HG2).below (unhide AL _ _)).app h3 g3); obtain ⟨a3, c3, rfl⟩ := h3.shape; clear h3 g3))
  go_ret
  exact ⟨_, _, rfl, HG3⟩
theorem addnum_w (w0 W1 w : World) (V : Value) (B : Nat) (va : Option Addr) (n vc mk : Nat) (l : List Nat) (x : Int) (h : Grw w0 W1 V w B (.slice va n vc) n l) (ht : Tab w) (hx : -9223372036854775808 ≤ x ∧ x ≤ 9223372036854775807) (hl : n ≤ 536870912) :
    Calls Tryz.prog 36 #[.slice va n vc, .int .u8 (mk : Nat), .int .i64 x] w fun e w' => ∃ va' n' vc', e = .returned (.slice va' n' vc') ∧ Hid (Grw w0 W1 V w' B (.slice va' n' vc') n' (l ++ numL mk x)) := by
  have CT : Hid (Calls Tryz.prog 58 #[.int .i64 x] w fun e w' => ∃ a c, e = .returned (.slice a (Larder.spellI x).length c) ∧ Hid (Bytes w' a (Larder.spellI x) ∧ Below w.heap.size w w' ∧ ∀ g off, 0 < (Larder.spellI x).length → a = some ⟨g, off, none⟩ → w.heap.size ≤ g)) := hide ((text_any x (by omega) (by omega) w ht).mono (fun e w' ⟨v, h1, h2, h3⟩ => by
    obtain ⟨a, c, rfl, hb, hz⟩ := h2.shape
    refine ⟨a, c, h1, hide ⟨hb, h3, fun g off hp e => h2.ge g ?_⟩⟩
    rcases h2.rws with ⟨q, q0⟩ | ⟨b', cap, cur, q, _⟩
    · omega
    · cases q; cases e; rfl))
  have sp : (Larder.spellI x).length ≤ 21 := spell_short x (by omega) (by omega)
  have H := hide h
  clear h ht
  obtain ⟨S, hS⟩ : ∃ S, S = Larder.spellI x := ⟨_, rfl⟩
  unfold numL
  rw [← hS] at CT sp ⊢
  clear hS
  go_enter Tryz.func36, Tryz.ntmps36
  go_wp2_with (go_at_call 58; refine (unhide CT).mono ?_; rintro e w1 ⟨a1, c1, rfl, k1⟩)
  refine (addline_w w0 W1 w1 V B va a1 n vc c1 mk l S ((unhide H).below (unhide k1).2.1) (unhide k1).1 (fun g off hp e e2 => ?_) (by omega)).mono ?_
  · have h1 := (unhide k1).2.2 g off hp e
    have h2 := (unhide H).gro.row.lt g e2
    omega
  · rintro e w2 ⟨a2, c2, rfl, k2⟩
    go_wp2
    go_ret
    exact ⟨_, _, _, rfl, by simpa using k2⟩
theorem addtext_w (w0 W1 w : World) (V : Value) (va a : Option Addr) (n vc c : Nat) (l T : List Nat) (h : Grw w0 W1 V w w0.heap.size (.slice va n vc) n l) (ht : Tab w0) (hT : Bytes w0 a T) (hl : n ≤ 268435456) (hl2 : T.length ≤ 268435456) :
    Calls Tryz.prog 37 #[.slice va n vc, .slice a T.length c] w fun e w' => ∃ va' n' vc', e = .returned (.slice va' n' vc') ∧ Hid (Grw w0 W1 V w' w0.heap.size (.slice va' n' vc') n' (l ++ textL T)) := by
  obtain ⟨i5, hi5, hz5, hs5, hb5⟩ := info_partsS Tryz.info5s
  have CN : Hid (Calls Tryz.prog 36 #[.slice va n vc, .int .u8 36, .int .i64 (T.length : Nat)] w fun e w' => ∃ va' n' vc', e = .returned (.slice va' n' vc') ∧ Hid (Grw w0 W1 V w' w0.heap.size (.slice va' n' vc') n' (l ++ numL 36 T.length))) := hide (addnum_w w0 W1 w V w0.heap.size va n vc 36 l (T.length : Nat) h (ht.below h.gro.bel) ⟨by omega, by omega⟩ (by omega))
  have AL : Hid (∀ W : World, ∀ o, Below W.heap.size W (W.alloc o)) := hide (fun W o => (Below.refl _ _).alloc (Nat.le_refl _) _)
  have MB : Hid (∀ W : World, Bytes (W.alloc (.cells #[.int .u8 13, .int .u8 10] 5)) (some ⟨W.heap.size, 0, none⟩) [13, 10]) := hide (fun W => made_bytes W [13, 10])
  have LN : Hid (∀ W n' v, Grw w0 W1 V W w0.heap.size v n' (l ++ numL 36 T.length) → n' + T.length + 2 ≤ 140737488355328) := hide (fun W n' v g => by
    have := g.gro.len
    have sp := spell_short (T.length : Nat) (by omega) (by omega)
    have h1 := h.gro.len
    unfold numL at this
    simp only [List.length_append, List.length_cons, List.length_nil] at this
    omega)
  have HT := hide hT
  clear h ht hT
  go_enter Tryz.func37, Tryz.ntmps37
  go_wp2_with (first
    | (go_at_call 36; refine (unhide CN).mono ?_; rintro e w1 ⟨a1, n1, c1, rfl, HG1⟩; have L1 := unhide LN _ _ _ (unhide HG1))
    | (at_builtin; refine append_bytes rfl _ _ 25 rfl i5 Tryz.underlying25 hi5 hz5 hs5 hb5 (.slice a1 n1 c1) n1 (byV (l ++ numL 36 T.length)) rfl (unhide HG1).gro.row a c T rfl ((unhide HT).below (unhide HG1).gro.bel) (by omega) ?_; intro v2 w2 h2 g2; have HG2 := hide ((unhide HG1).app h2 g2); obtain ⟨a2, c2, rfl⟩ := h2.shape; clear h2 g2)
    | (at_builtin; refine append_bytes rfl _ _ 25 rfl i5 Tryz.underlying25 hi5 hz5 hs5 hb5 (.slice a2 (n1 + T.length) c2) (n1 + T.length) (byV (l ++ numL 36 T.length ++ T)) rfl ((unhide HG2).gro.row.below (unhide AL _ _)) (some ⟨w2.heap.size, 0, none⟩) 2 [13, 10] rfl (unhide MB w2) (by simp; omega) ?_; intro v3 w3 h3 g3; have HG3 := hide (((unhide HG2).below (unhide AL _ _)).app h3 g3); obtain ⟨a3, c3, rfl⟩ := h3.shape; clear h3 g3))
  go_ret
  exact ⟨_, _, _, rfl, by unfold textL; simpa using HG3⟩

end Go.Proofs.YtecfgbjnjgjkoaaGreatDoor
namespace Go.Proofs.YtecfgbjnjgjkoaaGreatDoor
open Go.ChangeShapes Go.WideShapes Go.ChangeAt Go.RowKit
set_option linter.unusedVariables false
set_option linter.unusedSimpArgs false
set_option maxRecDepth 20000
set_option maxHeartbeats 8000000

/-- what is written of a reply -/
def encK (K n : Int) (t : List Nat) (ln : Nat) (sub : List Nat) : List Nat :=
  if K = 1 then [43] ++ t ++ [13, 10] else if K = 2 then [45] ++ t ++ [13, 10] else if K = 3 then numL 58 n else if K = 4 then textL t
  else if K = 5 then numL 36 (-1) else if K = 7 then numL 42 (-1) else numL 42 (ln : Nat) ++ sub
def encL : (d : Nat) → Tr d → List Nat
  | 0, _ => []
  | d + 1, x => encK x.nd.k x.nd.n x.nd.t x.nd.l.length (x.nd.l.map (encL d)).flatten
theorem numL_len (mk : Nat) (x : Int) (h1 : -9223372036854775808 ≤ x) (h2 : x ≤ 9223372036854775807) : (numL mk x).length ≤ 24 := by
  have := spell_short x h1 h2
  unfold numL
  simp only [List.length_append, List.length_cons, List.length_nil]
  omega
theorem textL_len' (T : List Nat) (h : T.length ≤ 140737488351232) : (textL T).length ≤ T.length + 26 := by
  have := numL_len 36 (T.length : Nat) (by omega) (by omega)
  unfold textL
  simp only [List.length_append, List.length_cons, List.length_nil]
  omega
theorem flat_sum {α : Type} (f : α → List Nat) (g : α → Nat) : ∀ (l : List α), (∀ y ∈ l, (f y).length ≤ 3 * g y) → (l.map f).flatten.length ≤ 3 * (l.map g).sum
  | [], _ => by simp
  | x :: l, h => by
    have h1 := h x (List.mem_cons_self ..)
    have h2 := flat_sum f g l (fun y hy => h y (List.mem_cons_of_mem _ hy))
    simp only [List.map_cons, List.flatten_cons, List.length_append, List.sum_cons]
    omega
/-- the numbers in a reply are numbers -/
def NumOk : (d : Nat) → Tr d → Prop
  | 0, _ => True
  | d + 1, x => (-9223372036854775808 ≤ x.nd.n ∧ x.nd.n ≤ 9223372036854775807) ∧ x.nd.t.length ≤ 140737488351232 ∧ x.nd.l.length ≤ 140737488351232 ∧ ∀ y ∈ x.nd.l, NumOk d y
theorem RpAt.num {w : World} : ∀ {d : Nat} {x : Tr d} {v0 v1 v2 v3 : Value}, RpAt w d x v0 v1 v2 v3 → NumOk d x
  | 0, _, _, _, _, _, h => trivial
  | d + 1, x, v0, v1, v2, v3, ⟨h0, h1, ⟨a2, c2, h2, h2b, h2c, h2d, _⟩, a, c, h3, h4, h5⟩ => by
    refine ⟨h1.2, h2d, h4, fun y hy => ?_⟩
    rcases h5 with h | ⟨b, off, e, hlt, hc⟩
    · rw [h] at hy; cases hy
    · obtain ⟨i, hi⟩ := List.getElem?_of_mem hy
      obtain ⟨u0, u1, u2, u3, c0, c1, c2, c3, r⟩ := hc i y hi
      exact r.num
theorem encL_len : ∀ (d : Nat) (x : Tr d), NumOk d x → (encL d x).length ≤ 3 * sz d x
  | 0, _, _ => by show (0 : Nat) ≤ _; omega
  | d + 1, x, h => by
    obtain ⟨⟨h1, h2⟩, h3, h4, h5⟩ := h
    have hf := flat_sum (encL d) (sz d) x.nd.l (fun y hy => encL_len d y (h5 y hy))
    have n1 := numL_len 58 x.nd.n h1 h2
    have n2 := textL_len' x.nd.t h3
    have n3 := numL_len 36 (-1) (by decide) (by decide)
    have n4 := numL_len 42 (-1) (by decide) (by decide)
    have n5 := numL_len 42 (x.nd.l.length : Nat) (by omega) (by omega)
    show (encK _ _ _ _ _).length ≤ 3 * (10 + x.nd.t.length + (x.nd.l.map (sz d)).sum)
    unfold encK
    repeat' split
    all_goals (try simp only [List.length_append, List.length_cons, List.length_nil])
    all_goals omega
theorem add_walk (w0 w : World) (va ta la : Option Addr) (n vc tc ln lc : Nat) (k0 k1 : Int) (l T sub : List Nat) (h : Gro w0 w w0.heap.size (.slice va n vc) n l) (ht : Tab w0) (hT : Bytes w0 ta T) (h1 : -9223372036854775808 ≤ k1 ∧ k1 ≤ 9223372036854775807) (hln : ln ≤ 140737488351232) (hl : n + T.length ≤ 201326592)
    (LP : k0 ≠ 1 → k0 ≠ 2 → k0 ≠ 3 → k0 ≠ 4 → k0 ≠ 5 → k0 ≠ 7 → Calls Tryz.prog 11 #[.slice va n vc, .agg #[.int .i64 k0, .int .i64 k1, .slice ta T.length tc, .slice la ln lc]] w fun e w' => ∃ va' n' vc', e = .returned (.slice va' n' vc') ∧ Hid (Grw w0 w (.slice va n vc) w' w0.heap.size (.slice va' n' vc') n' (l ++ encK k0 k1 T ln sub))) :
    Calls Tryz.prog 11 #[.slice va n vc, .agg #[.int .i64 k0, .int .i64 k1, .slice ta T.length tc, .slice la ln lc]] w fun e w' => ∃ va' n' vc', e = .returned (.slice va' n' vc') ∧ Hid (Grw w0 w (.slice va n vc) w' w0.heap.size (.slice va' n' vc') n' (l ++ encK k0 k1 T ln sub)) := by
  obtain ⟨tn, htn⟩ : ∃ tn, tn = T.length := ⟨_, rfl⟩
  have AL : ∀ o, Grw w0 w (.slice va n vc) (w.alloc o) w0.heap.size (.slice va n vc) n l := fun o => h.w.below ((Below.refl _ _).alloc (Nat.le_refl _) _)
  have TB : ∀ o, Tab (w.alloc o) := fun o => ht.below (AL o).gro.bel
  have CL : Hid (∀ (mk : Nat) o, Calls Tryz.prog 35 #[.slice va n vc, .int .u8 (mk : Nat), .slice ta tn tc] (w.alloc o) fun e w' => ∃ va' n' vc', e = .returned (.slice va' n' vc') ∧ Hid (Grw w0 w (.slice va n vc) w' w0.heap.size (.slice va' n' vc') n' (l ++ ([mk] ++ T ++ [13, 10])))) := hide (fun mk o => by
    rw [htn]
    refine (addline_w w0 w (w.alloc o) (.slice va n vc) w0.heap.size va ta n vc tc mk l T (AL o) (hT.below (AL o).gro.bel) (fun g off h0 e he => ?_) (by omega)).mono ?_
    · rcases hT with hT | ⟨b, off', e', hb, hc⟩
      · rw [hT] at h0; simp at h0
      · rw [e] at e'
        cases e'
        have := h.own g he
        omega
    · rintro e w' ⟨va', vc', rfl, k⟩
      exact ⟨va', _, vc', rfl, by simpa [List.append_assoc] using k⟩)
  have CN : Hid (∀ (mk : Nat) (x : Int) o, -9223372036854775808 ≤ x → x ≤ 9223372036854775807 → Calls Tryz.prog 36 #[.slice va n vc, .int .u8 (mk : Nat), .int .i64 x] (w.alloc o) fun e w' => ∃ va' n' vc', e = .returned (.slice va' n' vc') ∧ Hid (Grw w0 w (.slice va n vc) w' w0.heap.size (.slice va' n' vc') n' (l ++ numL mk x))) := hide (fun mk x o h3 h4 => addnum_w w0 w (w.alloc o) (.slice va n vc) w0.heap.size va n vc mk l x (AL o) (TB o) ⟨h3, h4⟩ (by omega))
  have CT : Hid (∀ o, Calls Tryz.prog 37 #[.slice va n vc, .slice ta tn tc] (w.alloc o) fun e w' => ∃ va' n' vc', e = .returned (.slice va' n' vc') ∧ Hid (Grw w0 w (.slice va n vc) w' w0.heap.size (.slice va' n' vc') n' (l ++ textL T))) := hide (fun o => by rw [htn]; exact addtext_w w0 w (w.alloc o) (.slice va n vc) va ta n vc tc l T (AL o) ht hT (by omega) (by omega))
  by_cases e1 : k0 = 1
  · subst e1
    rw [← htn]
    clear LP AL TB h ht hT htn
    go_enter Tryz.func11, Tryz.ntmps11
    go_wp2_with (go_at_call 35; refine (unhide CL 43 _).mono ?_; rintro e w5 ⟨va', n', vc', rfl, k5⟩)
    go_ret
    exact ⟨va', n', vc', rfl, k5⟩
  by_cases e2 : k0 = 2
  · subst e2
    rw [← htn]
    clear LP AL TB h ht hT htn
    go_enter Tryz.func11, Tryz.ntmps11
    go_wp2_with (go_at_call 35; refine (unhide CL 45 _).mono ?_; rintro e w5 ⟨va', n', vc', rfl, k5⟩)
    go_ret
    exact ⟨va', n', vc', rfl, k5⟩
  by_cases e3 : k0 = 3
  · subst e3
    rw [← htn]
    clear LP AL TB h ht hT htn
    go_enter Tryz.func11, Tryz.ntmps11
    go_wp2_with (go_at_call 36; refine (unhide CN 58 _ _ h1.1 h1.2).mono ?_; rintro e w5 ⟨va', n', vc', rfl, k5⟩)
    go_ret
    exact ⟨va', n', vc', rfl, k5⟩
  by_cases e4 : k0 = 4
  · subst e4
    rw [← htn]
    clear LP AL TB h ht hT htn
    go_enter Tryz.func11, Tryz.ntmps11
    go_wp2_with (go_at_call 37; refine (unhide CT _).mono ?_; rintro e w5 ⟨va', n', vc', rfl, k5⟩)
    go_ret
    exact ⟨va', n', vc', rfl, k5⟩
  by_cases e5 : k0 = 5
  · subst e5
    rw [← htn]
    clear LP AL TB h ht hT htn
    go_enter Tryz.func11, Tryz.ntmps11
    go_wp2_with (go_at_call 36; refine (unhide CN 36 (-1) _ (by decide) (by decide)).mono ?_; rintro e w5 ⟨va', n', vc', rfl, k5⟩)
    go_ret
    exact ⟨va', n', vc', rfl, k5⟩
  by_cases e7 : k0 = 7
  · subst e7
    rw [← htn]
    clear LP AL TB h ht hT htn
    go_enter Tryz.func11, Tryz.ntmps11
    go_wp2_with (go_at_call 36; refine (unhide CN 42 (-1) _ (by decide) (by decide)).mono ?_; rintro e w5 ⟨va', n', vc', rfl, k5⟩)
    go_ret
    exact ⟨va', n', vc', rfl, k5⟩
  exact LP e1 e2 e3 e4 e5 e7
def encTo (d : Nat) (l : List (Tr d)) (i : Nat) : List Nat := ((l.take i).map (encL d)).flatten
theorem encTo_step {d : Nat} {l : List (Tr d)} {i : Nat} {y : Tr d} (h : l[i]? = some y) : encTo d l (i + 1) = encTo d l i ++ encL d y := by
  unfold encTo
  rw [List.take_add_one, h]
  simp
theorem encTo_len {d : Nat} (l : List (Tr d)) (i : Nat) (h : ∀ y ∈ l, NumOk d y) : (encTo d l i).length ≤ 3 * sumTo d l i := flat_sum (encL d) (sz d) (l.take i) (fun y hy => encL_len d y (h y (List.mem_of_mem_take hy)))
theorem sum_take {d : Nat} (l : List (Tr d)) (i : Nat) {y : Tr d} (h : l[i]? = some y) : sumTo d l i + sz d y ≤ (l.map (sz d)).sum := by
  have h1 := sumTo_step h
  have h2 : sumTo d l (i + 1) ≤ (l.map (sz d)).sum := by
    have e := List.take_append_drop (i + 1) l
    have e2 := congrArg (fun l => (l.map (sz d)).sum) e
    simp only [List.map_append, List.sum_append] at e2
    unfold sumTo
    omega
  omega
theorem addreply_any (w0 : World) (ht : Tab w0) : ∀ (d : Nat) (x : Tr d) (w : World) (va : Option Addr) (n vc : Nat) (l : List Nat) (v0 v1 v2 v3 : Value), RpAt w0 d x v0 v1 v2 v3 → Gro w0 w w0.heap.size (.slice va n vc) n l → n + 3 * sz d x ≤ 201326592 →
    Calls Tryz.prog 11 #[.slice va n vc, .agg #[v0, v1, v2, v3]] w fun e w' => ∃ va' n' vc', e = .returned (.slice va' n' vc') ∧ Hid (Grw w0 w (.slice va n vc) w' w0.heap.size (.slice va' n' vc') n' (l ++ encL d x))
  | 0, x, w, va, n, vc, l, v0, v1, v2, v3, h, _, _ => absurd h id
  | d + 1, x, w, va, n, vc, l, v0, v1, v2, v3, h, hG, hn => by
    have IH := addreply_any w0 ht d
    have hnum := h.num
    have hszl := sz_list x
    obtain ⟨⟨rfl, -⟩, ⟨rfl, hb1⟩, ⟨ta, tc, rfl, hB, hS, htn, -⟩, la, lc, rfl, hln, hat⟩ := h
    refine add_walk w0 w va ta la n vc tc x.nd.l.length lc x.nd.k x.nd.n l x.nd.t _ hG ht hB hb1 hln (by omega) (fun e1 e2 e3 e4 e5 e7 => ?_)
    have hEnc : encK x.nd.k x.nd.n x.nd.t x.nd.l.length (x.nd.l.map (encL d)).flatten = numL 42 (x.nd.l.length : Nat) ++ encTo d x.nd.l x.nd.l.length := by
      unfold encK encTo
      rw [if_neg e1, if_neg e2, if_neg e3, if_neg e4, if_neg e5, if_neg e7, List.take_length]
    rw [hEnc]
    have hl0 : RlAt w0 d la x.nd.l := hat
    have hsum : Hid (sz (d + 1) x = 10 + x.nd.t.length + (x.nd.l.map (sz d)).sum) := hide rfl
    have hnumC : ∀ y ∈ x.nd.l, NumOk d y := hnum.2.2.2
    obtain ⟨S, hS'⟩ : ∃ S, S = sz (d + 1) x := ⟨_, rfl⟩
    rw [← hS'] at hn hszl hsum
    clear hS' hEnc hat hnum
    obtain ⟨k0, hk0⟩ : ∃ k, k = x.nd.k := ⟨_, rfl⟩
    obtain ⟨k1, hk1⟩ : ∃ k, k = x.nd.n := ⟨_, rfl⟩
    obtain ⟨tn, htn'⟩ : ∃ k, k = x.nd.t.length := ⟨_, rfl⟩
    obtain ⟨ll, hll⟩ : ∃ k, k = x.nd.l := ⟨_, rfl⟩
    rw [← hk0] at e1 e2 e3 e4 e5 e7 ⊢
    rw [← hll] at hl0 hnumC hln hszl hsum ⊢
    rw [← htn'] at hszl hsum ⊢
    rw [← hk1]
    obtain ⟨ln, hln'⟩ : ∃ k, k = ll.length := ⟨_, rfl⟩
    rw [← hln'] at hln hszl ⊢
    have HLn := hide hln'
    have HL0 := hide hl0
    have HNC := hide hnumC
    obtain ⟨wb, hwb⟩ : ∃ wb, wb = w.alloc (.cells #[.int .i64 k0, .int .i64 k1, .slice ta tn tc, .slice la ln lc] 31) := ⟨_, rfl⟩
    have bb : Below w.heap.size w wb := by rw [hwb]; exact (Below.refl _ _).alloc (Nat.le_refl _) _
    have hGb : Gro w0 wb w0.heap.size (.slice va n vc) n l := hG.below bb
    have hbox : wb.heap[w.heap.size]? = some (.cells #[.int .i64 k0, .int .i64 k1, .slice ta tn tc, .slice la ln lc] 31 (0, 0)) := by rw [hwb]; exact heap_alloc_new w _
    have c0 : wb.cell? ⟨w.heap.size, 0, none⟩ = some (.int .i64 k0) := by rw [cell_of_row _ _ _ _ _ _ hbox]; rfl
    have c3 : wb.cell? ⟨w.heap.size, 3, none⟩ = some (.slice la ln lc) := by rw [cell_of_row _ _ _ _ _ _ hbox]; rfl
    have CN : Hid (Calls Tryz.prog 36 #[.slice va n vc, .int .u8 42, .int .i64 (ln : Nat)] wb fun e w' => ∃ va' n' vc', e = .returned (.slice va' n' vc') ∧ Hid (Grw w0 wb (.slice va n vc) w' w0.heap.size (.slice va' n' vc') n' (l ++ numL 42 (ln : Nat) ++ encTo d ll 0)) ∧ w'.cell? ⟨w.heap.size, 3, none⟩ = some (.slice la ln lc)) := hide ((addnum_w w0 wb wb (.slice va n vc) w0.heap.size va n vc 42 l (ln : Nat) hGb.w (ht.below hGb.bel) ⟨by omega, by omega⟩ (by omega)).mono (fun e w' ⟨va', n', vc', h1, h2⟩ => ⟨va', n', vc', h1, by simpa [encTo] using h2, by
      have hlt := (Array.getElem?_eq_some_iff.1 hbox).1
      rw [cell_of_row _ _ _ _ _ _ (((unhide h2).gw.oth _ hlt (fun e => by have := hG.row.lt _ e; omega)).trans hbox)]; rfl⟩))
    have HF : Hid (∀ (w' : World) v' n' l', Hid (Grw w0 wb (.slice va n vc) w' w0.heap.size v' n' l') → Grw w0 w (.slice va n vc) w' w0.heap.size v' n' l') := hide (fun w' v' n' l' h => ⟨(unhide h).gro, ((Gw.refl w (.slice va n vc)).below bb).trans (unhide h).gw⟩)
    have HC : Hid (∀ (i : Nat) (y : Tr d), ll[i]? = some y → ∀ (W : World) va1 n1 vc1 u0 u1 u2 u3, RpAt w0 d y u0 u1 u2 u3 → Hid (Grw w0 wb (.slice va n vc) W w0.heap.size (.slice va1 n1 vc1) n1 (l ++ numL 42 (ln : Nat) ++ encTo d ll i)) → Calls Tryz.prog 11 #[.slice va1 n1 vc1, .agg #[u0, u1, u2, u3]] W fun e w' => ∃ va' n' vc', e = .returned (.slice va' n' vc') ∧ Hid (Grw w0 wb (.slice va n vc) w' w0.heap.size (.slice va' n' vc') n' (l ++ numL 42 (ln : Nat) ++ encTo d ll (i + 1)))) := hide (fun i y hy W va1 n1 vc1 u0 u1 u2 u3 r g => by
      have hlen := (unhide g).gro.len
      have n5 := numL_len 42 (ln : Nat) (by omega) (by omega)
      have n6 := encTo_len ll i hnumC
      have n7 := sum_take ll i hy
      have n8 := hG.len
      have hs := unhide hsum
      simp only [List.length_append] at hlen
      refine (IH y W va1 n1 vc1 _ u0 u1 u2 u3 r (unhide g).gro (by omega)).mono ?_
      rintro e w' ⟨va', n', vc', rfl, k⟩
      refine ⟨va', n', vc', rfl, hide ?_⟩
      rw [encTo_step hy, ← List.append_assoc]
      exact ⟨(unhide k).gro, (unhide g).gw.trans (unhide k).gw⟩)
    clear IH hl0 hnumC hll htn' hk0 hk1 hln' hbox hGb bb hsum hB hG
    go_enter Tryz.func11, Tryz.ntmps11
    go_upto_region 1 with fail
    rw [← hwb]
    clear hwb
    have g1 : (k0 == 1) = false := by simp [e1]
    have g2 : (k0 == 2) = false := by simp [e2]
    have g3 : (k0 == 3) = false := by simp [e3]
    have g4 : (k0 == 4) = false := by simp [e4]
    have g5 : (k0 == 5) = false := by simp [e5]
    have g7 : (k0 == 7) = false := by simp [e7]
    go_wp2_with (go_at_call 36; refine (unhide CN).mono ?_; rintro e w5 ⟨va5, n5, vc5, rfl, k5, x5⟩)
    go_loopw [0, 49] (fun bv iv wr => ∃ (j n1 vc1 : Nat) (va1 : Option Addr), iv = .int .i64 (j : Nat) ∧ j ≤ ln ∧ bv = .slice va1 n1 vc1 ∧ Hid (Grw w0 wb (.slice va n vc) wr w0.heap.size (.slice va1 n1 vc1) n1 (l ++ numL 42 (ln : Nat) ++ encTo d ll j))) (fun _ iv _ => ln - (intOf iv).toNat)
    case atStart => exact ⟨0, n5, vc5, va5, rfl, Nat.zero_le _, rfl, k5⟩
    case round =>
      obtain ⟨j, n1, vc1, va1, rfl, hj, rfl, p⟩ := hrel
      rcases Nat.lt_or_ge j ln with hlt | hge
      · have f0 : decide ((j : Int) < (ln : Int)) = true := decide_eq_true (by omega)
        have y1 : (0 : Int) ≤ (j : Int) := by omega
        have y2 : (j : Int) < (ln : Int) := by omega
        obtain ⟨b, off, rfl, hb, hc⟩ : ∃ b off, la = some ⟨b, off, none⟩ ∧ b < w0.heap.size ∧ ∀ i y, ll[i]? = some y → ∃ u0 u1 u2 u3, w0.cell? ⟨b, off + i * 4, none⟩ = some u0 ∧ w0.cell? ⟨b, off + i * 4 + 1, none⟩ = some u1 ∧ w0.cell? ⟨b, off + i * 4 + 2, none⟩ = some u2 ∧ w0.cell? ⟨b, off + i * 4 + 3, none⟩ = some u3 ∧ RpAt w0 d y u0 u1 u2 u3 := by
          rcases unhide HL0 with h | h
          · have := unhide HLn; rw [h] at this; simp at this; omega
          · exact h
        obtain ⟨y, hy⟩ : ∃ y, ll[j]? = some y := ⟨_, List.getElem?_eq_getElem (by have := unhide HLn; omega)⟩
        obtain ⟨u0, u1, u2, u3, z0, z1, z2, z3, r⟩ := hc j y hy
        have d0 : wr.cell? ⟨b, off + j * 4, none⟩ = some u0 := by rw [(unhide p).gro.bel.cell hb]; exact z0
        have d1 : wr.cell? ⟨b, off + j * 4 + 1, none⟩ = some u1 := by rw [(unhide p).gro.bel.cell hb]; exact z1
        have d2 : wr.cell? ⟨b, off + j * 4 + 2, none⟩ = some u2 := by rw [(unhide p).gro.bel.cell hb]; exact z2
        have d3 : wr.cell? ⟨b, off + j * 4 + 3, none⟩ = some u3 := by rw [(unhide p).gro.bel.cell hb]; exact z3
        have CJ : Hid (∀ o, Calls Tryz.prog 11 #[.slice va1 n1 vc1, .agg #[u0, u1, u2, u3]] (wr.alloc o) fun e w' => ∃ va' n' vc', e = .returned (.slice va' n' vc') ∧ Hid (Grw w0 wb (.slice va n vc) w' w0.heap.size (.slice va' n' vc') n' (l ++ numL 42 (ln : Nat) ++ encTo d ll (j + 1)))) := hide (fun o => unhide HC j y hy _ va1 n1 vc1 u0 u1 u2 u3 r (hide ((unhide p).below ((Below.refl _ _).alloc (Nat.le_refl _) _))))
        have hd : d ≠ 0 := tr_pos y
        obtain ⟨d, rfl⟩ : ∃ d', d = d' + 1 := ⟨d - 1, by omega⟩
        obtain ⟨⟨rfl, -⟩, ⟨rfl, -⟩, ⟨ta', tc', rfl, -⟩, qa', qc', rfl, -⟩ := r
        clear z0 z1 z2 z3 hc hy
        go_wp2_with (go_at_call 11; refine (unhide CJ _).mono ?_; rintro e w6 ⟨va6, n6, vc6, rfl, k6⟩)
        all_goals go_roundw
        all_goals first | exact ⟨j + 1, n6, vc6, va6, by go_num, by omega, rfl, k6⟩ | (simp [intOf]; omega)
      · obtain rfl : j = ln := by omega
        have f0 : decide ((j : Int) < (j : Int)) = false := decide_eq_false (by omega)
        go_wp2
        go_ret
        refine ⟨va1, n1, vc1, rfl, hide ?_⟩
        have := unhide HF _ _ _ _ p
        rw [List.append_assoc] at this
        exact this
end Go.Proofs.YtecfgbjnjgjkoaaGreatDoor
namespace Go.Proofs.YtecfgbjnjgjkoaaGreatDoor
open Larder8
set_option linter.unusedVariables false
set_option linter.unusedSimpArgs false

theorem arrP_grows {d : Nat} {f : List Nat → St (Tr d)} (hf : Grows f) : Grows (arrP f) := by
  have hg : Grows (numP (-1) (if d = 0 then -1 else 65536)) := numP_grows (by decide) (by split <;> decide)
  refine ⟨fun b x r c e => ?_, fun b c e => ?_⟩
  · unfold arrP at e ⊢
    cases hn : numP (-1) (if d = 0 then -1 else 65536) b with
    | short => rw [hn] at e; cases e
    | wrong => rw [hn] at e; cases e
    | ok n s =>
      rw [hn] at e
      rw [hg.ok b n s c hn]
      simp only at e ⊢
      split at e
      · rename_i h; cases e; rw [if_pos h]
      · rename_i h
        rw [if_neg h]
        obtain ⟨z, h1, rfl⟩ := map_ok e
        rw [(listP_grows hf _).ok _ _ _ c h1]
        rfl
  · unfold arrP at e ⊢
    cases hn : numP (-1) (if d = 0 then -1 else 65536) b with
    | short => rw [hn] at e; cases e
    | wrong => rw [hg.bad b c hn]
    | ok n s =>
      rw [hn] at e
      rw [hg.ok b n s c hn]
      simp only at e ⊢
      split at e
      · cases e
      · rename_i h
        rw [if_neg h, (listP_grows hf _).bad _ c (map_bad e)]
        rfl
theorem repP_grows : ∀ d, Grows (repP d)
  | 0 => ⟨fun b x r c e => (by cases e), fun b c e => rfl⟩
  | d + 1 => by
    have hn : Grows (numP (-9223372036854775808) 9223372036854775807) := numP_grows (by decide) (by decide)
    have ha := arrP_grows (repP_grows d)
    refine ⟨fun b x r c e => ?_, fun b c e => ?_⟩
    · cases b with
      | nil => cases e
      | cons m b =>
        show repP (d + 1) (m :: (b ++ c)) = _
        unfold repP at e ⊢
        split at e
        · rename_i h; rw [if_pos h]; exact (lineP_grows.map _).ok b x r c e
        · rename_i h; rw [if_neg h]
          split at e
          · rename_i h; rw [if_pos h]; exact (lineP_grows.map _).ok b x r c e
          · rename_i h; rw [if_neg h]
            split at e
            · rename_i h; rw [if_pos h]; exact (hn.map _).ok b x r c e
            · rename_i h; rw [if_neg h]
              split at e
              · rename_i h; rw [if_pos h]; exact (bulkP_grows.map _).ok b x r c e
              · rename_i h; rw [if_neg h]
                split at e
                · rename_i h; rw [if_pos h]; exact ha.ok b x r c e
                · cases e
    · cases b with
      | nil => cases e
      | cons m b =>
        show repP (d + 1) (m :: (b ++ c)) = _
        unfold repP at e ⊢
        split at e
        · rename_i h; rw [if_pos h]; exact (lineP_grows.map _).bad b c e
        · rename_i h; rw [if_neg h]
          split at e
          · rename_i h; rw [if_pos h]; exact (lineP_grows.map _).bad b c e
          · rename_i h; rw [if_neg h]
            split at e
            · rename_i h; rw [if_pos h]; exact (hn.map _).bad b c e
            · rename_i h; rw [if_neg h]
              split at e
              · rename_i h; rw [if_pos h]; exact (bulkP_grows.map _).bad b c e
              · rename_i h; rw [if_neg h]
                split at e
                · rename_i h; rw [if_pos h]; exact ha.bad b c e
                · rename_i h; rw [if_neg h]
/-- what a reply that was read is: its text, that it may be written, that its numbers are numbers -/
def ReadOk (d : Nat) (x : Tr d) (b r : List Nat) : Prop := encL d x ++ r = b ∧ encL d x ≠ [] ∧ (d ≤ 9 → fitB d x (9 - d) = true)
theorem repP_text : ∀ (d : Nat) (b : List Nat) (x : Tr d) (r : List Nat), repP d b = .ok x r → ReadOk d x b r
  | 0, b, x, r, h => by cases h
  | d + 1, [], x, r, h => by cases h
  | d + 1, m :: b, x, r, h => by
    unfold repP at h
    split at h
    · rename_i hm
      subst hm
      obtain ⟨t, h1, rfl⟩ := map_ok h
      obtain ⟨q1, q2, q3⟩ := lineP_text h1
      refine ⟨?_, by simp [encL, mkR, Tr.nd, encK], fun _ => ?_⟩
      · show ([43] ++ t ++ [13, 10]) ++ r = 43 :: b
        rw [← q1]; simp
      · show fitK 1 0 t 0 _ = true
        unfold fitK crlf
        rw [if_pos (.inl rfl)]
        simp [q2, q3]
    split at h
    · rename_i hm
      subst hm
      obtain ⟨t, h1, rfl⟩ := map_ok h
      obtain ⟨q1, q2, q3⟩ := lineP_text h1
      refine ⟨?_, by simp [encL, mkR, Tr.nd, encK], fun _ => ?_⟩
      · show ([45] ++ t ++ [13, 10]) ++ r = 45 :: b
        rw [← q1]; simp
      · show fitK 2 0 t 0 _ = true
        unfold fitK crlf
        rw [if_pos (.inr rfl)]
        simp [q2, q3]
    split at h
    · rename_i hm
      subst hm
      obtain ⟨n, h1, rfl⟩ := map_ok h
      obtain ⟨q1, -⟩ := numP_text h1
      refine ⟨?_, by simp [encL, mkR, Tr.nd, encK, numL], fun _ => ?_⟩
      · show numL 58 n ++ r = 58 :: b
        rw [← q1]; simp [numL]
      · show fitK 3 n [] 0 _ = true
        unfold fitK
        simp
    split at h
    · rename_i hm
      subst hm
      obtain ⟨o, h1, rfl⟩ := map_ok h
      cases o with
      | none =>
        have q1 := bulkP_none h1
        refine ⟨?_, by simp [encL, mkR, Tr.nd, encK, numL], fun _ => ?_⟩
        · show numL 36 (-1) ++ r = 36 :: b
          rw [← q1]; simp [numL]
        · show fitK 5 0 [] 0 _ = true
          unfold fitK
          simp
      | some t =>
        obtain ⟨q1, q2⟩ := bulkP_some h1
        refine ⟨?_, by simp [encL, mkR, Tr.nd, encK, textL, numL], fun _ => ?_⟩
        · show textL t ++ r = 36 :: b
          rw [← q1]; simp [textL, numL]
        · show fitK 4 0 t 0 _ = true
          unfold fitK
          simp [q2]
    split at h
    · rename_i hm
      subst hm
      unfold arrP at h
      cases hn : numP (-1) (if d = 0 then -1 else 65536) b with
      | short => rw [hn] at h; cases h
      | wrong => rw [hn] at h; cases h
      | ok n s =>
        rw [hn] at h
        obtain ⟨q1, q2, q3, q4, q5⟩ := numP_text hn
        simp only at h
        split at h
        · rename_i hn1
          subst hn1
          cases h
          refine ⟨?_, by simp [encL, mkR, Tr.nd, encK, numL], fun _ => ?_⟩
          · show numL 42 (-1) ++ r = 42 :: b
            rw [← q1]; simp [numL]
          · show fitK 7 0 [] 0 _ = true
            unfold fitK
            simp
        · rename_i hn1
          obtain ⟨l, h1, rfl⟩ := map_ok h
          obtain ⟨p1, p2⟩ := listP_text (E := encL d) (fun b x r hx => (repP_text d b x r hx).1) _ _ _ _ h1
          have p3 := listP_all (Q := fun x => d ≤ 9 → fitB d x (9 - d) = true) (fun b x r hx => (repP_text d b x r hx).2.2) _ _ _ _ h1
          have hnn : ((n.toNat : Nat) : Int) = n := Int.toNat_of_nonneg (by omega)
          refine ⟨?_, by simp [encL, mkR, Tr.nd, encK, numL], fun hd => ?_⟩
          · show (numL 42 ((l.length : Nat) : Int) ++ (l.map (encL d)).flatten) ++ r = 42 :: b
            rw [p2, hnn, ← q1, List.append_assoc, p1]
            simp [numL]
          · show fitK 6 0 [] l.length (decide ((9 - (d + 1)) + 1 ≤ 8) && decide (l.length ≤ 65536) && l.all (fun y => fitB d y ((9 - (d + 1)) + 1))) = true
            have e9 : 9 - (d + 1) + 1 = 9 - d := by omega
            have hd0 : d ≠ 0 := by
              intro e
              subst e
              simp only [if_pos] at q3
              omega
            rw [if_neg hd0] at q3
            have hall : l.all (fun y => fitB d y (9 - d)) = true := List.all_eq_true.2 (fun y hy => p3 y hy (by omega))
            have h8 : decide (9 - d ≤ 8) = true := decide_eq_true (by omega)
            have h6 : decide (l.length ≤ 65536) = true := decide_eq_true (by omega)
            rw [e9, hall, h8, h6]
            rfl
    · cases h
end Go.Proofs.YtecfgbjnjgjkoaaGreatDoor
