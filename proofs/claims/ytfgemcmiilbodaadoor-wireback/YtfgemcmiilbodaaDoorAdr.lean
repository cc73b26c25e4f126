/- addReply, Encode. -/
import Derived.Test.YtfgemcmiilbodaaDoorFit
import Derived.Test.YtfgemcmiilbodaaDoorWrx
namespace Go.Proofs.YtfgemcmiilbodaaDoor
open Go.ChangeShapes Go.WideShapes Go.ChangeAt Go.RowKit
set_option linter.unusedVariables false
set_option linter.unusedSimpArgs false
set_option maxRecDepth 20000
set_option maxHeartbeats 8000000

/-- what is written of a reply -/
def encK (K n : Int) (t : List Nat) (ln : Nat) (sub : List Nat) : List Nat :=
  if K = 1 then [43] ++ t ++ [13, 10] else if K = 2 then [45] ++ t ++ [13, 10] else if K = 3 then numL 58 n else if K = 4 then textL t
  else if K = 5 then numL 36 (-1) else if K = 7 then numL 42 (-1) else numL 42 (ln : Nat) ++ sub
def encL : (d : Nat) → Tr d → List Nat
  | 0, _ => []
  | d + 1, x => encK x.nd.k x.nd.n x.nd.t x.nd.l.length (x.nd.l.map (encL d)).flatten
theorem numL_len (mk : Nat) (x : Int) (h1 : -9223372036854775808 ≤ x) (h2 : x ≤ 9223372036854775807) : (numL mk x).length ≤ 24 := by
  have := spell_short x h1 h2
  unfold numL
  simp only [List.length_append, List.length_cons, List.length_nil]
  omega
theorem textL_len' (T : List Nat) (h : T.length ≤ 140737488351232) : (textL T).length ≤ T.length + 26 := by
  have := numL_len 36 (T.length : Nat) (by omega) (by omega)
  unfold textL
  simp only [List.length_append, List.length_cons, List.length_nil]
  omega
theorem flat_sum {α : Type} (f : α → List Nat) (g : α → Nat) : ∀ (l : List α), (∀ y ∈ l, (f y).length ≤ 3 * g y) → (l.map f).flatten.length ≤ 3 * (l.map g).sum
  | [], _ => by simp
  | x :: l, h => by
    have h1 := h x (List.mem_cons_self ..)
    have h2 := flat_sum f g l (fun y hy => h y (List.mem_cons_of_mem _ hy))
    simp only [List.map_cons, List.flatten_cons, List.length_append, List.sum_cons]
    omega
/-- the numbers in a reply are numbers -/
def NumOk : (d : Nat) → Tr d → Prop
  | 0, _ => True
  | d + 1, x => (-9223372036854775808 ≤ x.nd.n ∧ x.nd.n ≤ 9223372036854775807) ∧ x.nd.t.length ≤ 140737488351232 ∧ x.nd.l.length ≤ 140737488351232 ∧ ∀ y ∈ x.nd.l, NumOk d y
theorem RpAt.num {w : World} : ∀ {d : Nat} {x : Tr d} {v0 v1 v2 v3 : Value}, RpAt w d x v0 v1 v2 v3 → NumOk d x
  | 0, _, _, _, _, _, h => trivial
  | d + 1, x, v0, v1, v2, v3, ⟨h0, h1, ⟨a2, c2, h2, h2b, h2c, h2d, _⟩, a, c, h3, h4, h5⟩ => by
    refine ⟨h1.2, h2d, h4, fun y hy => ?_⟩
    rcases h5 with h | ⟨b, off, e, hlt, hc⟩
    · rw [h] at hy; cases hy
    · obtain ⟨i, hi⟩ := List.getElem?_of_mem hy
      obtain ⟨u0, u1, u2, u3, c0, c1, c2, c3, r⟩ := hc i y hi
      exact r.num
theorem encL_len : ∀ (d : Nat) (x : Tr d), NumOk d x → (encL d x).length ≤ 3 * sz d x
  | 0, _, _ => by show (0 : Nat) ≤ _; omega
  | d + 1, x, h => by
    obtain ⟨⟨h1, h2⟩, h3, h4, h5⟩ := h
    have hf := flat_sum (encL d) (sz d) x.nd.l (fun y hy => encL_len d y (h5 y hy))
    have n1 := numL_len 58 x.nd.n h1 h2
    have n2 := textL_len' x.nd.t h3
    have n3 := numL_len 36 (-1) (by decide) (by decide)
    have n4 := numL_len 42 (-1) (by decide) (by decide)
    have n5 := numL_len 42 (x.nd.l.length : Nat) (by omega) (by omega)
    show (encK _ _ _ _ _).length ≤ 3 * (10 + x.nd.t.length + (x.nd.l.map (sz d)).sum)
    unfold encK
    repeat' split
    all_goals (try simp only [List.length_append, List.length_cons, List.length_nil])
    all_goals omega
theorem add_walk (w0 w : World) (va ta la : Option Addr) (n vc tc ln lc : Nat) (k0 k1 : Int) (l T sub : List Nat) (h : Gro w0 w w0.heap.size (.slice va n vc) n l) (ht : Tab w0) (hT : Bytes w0 ta T) (h1 : -9223372036854775808 ≤ k1 ∧ k1 ≤ 9223372036854775807) (hln : ln ≤ 140737488351232) (hl : n + T.length ≤ 201326592)
    (LP : k0 ≠ 1 → k0 ≠ 2 → k0 ≠ 3 → k0 ≠ 4 → k0 ≠ 5 → k0 ≠ 7 → Calls Tryd.prog 15 #[.slice va n vc, .agg #[.int .i64 k0, .int .i64 k1, .slice ta T.length tc, .slice la ln lc]] w fun e w' => ∃ va' n' vc', e = .returned (.slice va' n' vc') ∧ Hid (Grw w0 w (.slice va n vc) w' w0.heap.size (.slice va' n' vc') n' (l ++ encK k0 k1 T ln sub))) :
    Calls Tryd.prog 15 #[.slice va n vc, .agg #[.int .i64 k0, .int .i64 k1, .slice ta T.length tc, .slice la ln lc]] w fun e w' => ∃ va' n' vc', e = .returned (.slice va' n' vc') ∧ Hid (Grw w0 w (.slice va n vc) w' w0.heap.size (.slice va' n' vc') n' (l ++ encK k0 k1 T ln sub)) := by
  obtain ⟨tn, htn⟩ : ∃ tn, tn = T.length := ⟨_, rfl⟩
  have AL : ∀ o, Grw w0 w (.slice va n vc) (w.alloc o) w0.heap.size (.slice va n vc) n l := fun o => h.w.below ((Below.refl _ _).alloc (Nat.le_refl _) _)
  have TB : ∀ o, Tab (w.alloc o) := fun o => ht.below (AL o).gro.bel
  have CL : Hid (∀ (mk : Nat) o, Calls Tryd.prog 24 #[.slice va n vc, .int .u8 (mk : Nat), .slice ta tn tc] (w.alloc o) fun e w' => ∃ va' n' vc', e = .returned (.slice va' n' vc') ∧ Hid (Grw w0 w (.slice va n vc) w' w0.heap.size (.slice va' n' vc') n' (l ++ ([mk] ++ T ++ [13, 10])))) := hide (fun mk o => by
    rw [htn]
    refine (addline_w w0 w (w.alloc o) (.slice va n vc) w0.heap.size va ta n vc tc mk l T (AL o) (hT.below (AL o).gro.bel) (fun g off h0 e he => ?_) (by omega)).mono ?_
    · rcases hT with hT | ⟨b, off', e', hb, hc⟩
      · rw [hT] at h0; simp at h0
      · rw [e] at e'
        cases e'
        have := h.own g he
        omega
    · rintro e w' ⟨va', vc', rfl, k⟩
      exact ⟨va', _, vc', rfl, by simpa [List.append_assoc] using k⟩)
  have CN : Hid (∀ (mk : Nat) (x : Int) o, -9223372036854775808 ≤ x → x ≤ 9223372036854775807 → Calls Tryd.prog 25 #[.slice va n vc, .int .u8 (mk : Nat), .int .i64 x] (w.alloc o) fun e w' => ∃ va' n' vc', e = .returned (.slice va' n' vc') ∧ Hid (Grw w0 w (.slice va n vc) w' w0.heap.size (.slice va' n' vc') n' (l ++ numL mk x))) := hide (fun mk x o h3 h4 => addnum_w w0 w (w.alloc o) (.slice va n vc) w0.heap.size va n vc mk l x (AL o) (TB o) ⟨h3, h4⟩ (by omega))
  have CT : Hid (∀ o, Calls Tryd.prog 26 #[.slice va n vc, .slice ta tn tc] (w.alloc o) fun e w' => ∃ va' n' vc', e = .returned (.slice va' n' vc') ∧ Hid (Grw w0 w (.slice va n vc) w' w0.heap.size (.slice va' n' vc') n' (l ++ textL T))) := hide (fun o => by rw [htn]; exact addtext_w w0 w (w.alloc o) (.slice va n vc) va ta n vc tc l T (AL o) ht hT (by omega) (by omega))
  by_cases e1 : k0 = 1
  · subst e1
    rw [← htn]
    clear LP AL TB h ht hT htn
    go_enter Tryd.func15, Tryd.ntmps15
    go_wp2_with (go_at_call 24; refine (unhide CL 43 _).mono ?_; rintro e w5 ⟨va', n', vc', rfl, k5⟩)
    go_ret
    exact ⟨va', n', vc', rfl, k5⟩
  by_cases e2 : k0 = 2
  · subst e2
    rw [← htn]
    clear LP AL TB h ht hT htn
    go_enter Tryd.func15, Tryd.ntmps15
    go_wp2_with (go_at_call 24; refine (unhide CL 45 _).mono ?_; rintro e w5 ⟨va', n', vc', rfl, k5⟩)
    go_ret
    exact ⟨va', n', vc', rfl, k5⟩
  by_cases e3 : k0 = 3
  · subst e3
    rw [← htn]
    clear LP AL TB h ht hT htn
    go_enter Tryd.func15, Tryd.ntmps15
    go_wp2_with (go_at_call 25; refine (unhide CN 58 _ _ h1.1 h1.2).mono ?_; rintro e w5 ⟨va', n', vc', rfl, k5⟩)
    go_ret
    exact ⟨va', n', vc', rfl, k5⟩
  by_cases e4 : k0 = 4
  · subst e4
    rw [← htn]
    clear LP AL TB h ht hT htn
    go_enter Tryd.func15, Tryd.ntmps15
    go_wp2_with (go_at_call 26; refine (unhide CT _).mono ?_; rintro e w5 ⟨va', n', vc', rfl, k5⟩)
    go_ret
    exact ⟨va', n', vc', rfl, k5⟩
  by_cases e5 : k0 = 5
  · subst e5
    rw [← htn]
    clear LP AL TB h ht hT htn
    go_enter Tryd.func15, Tryd.ntmps15
    go_wp2_with (go_at_call 25; refine (unhide CN 36 (-1) _ (by decide) (by decide)).mono ?_; rintro e w5 ⟨va', n', vc', rfl, k5⟩)
    go_ret
    exact ⟨va', n', vc', rfl, k5⟩
  by_cases e7 : k0 = 7
  · subst e7
    rw [← htn]
    clear LP AL TB h ht hT htn
    go_enter Tryd.func15, Tryd.ntmps15
    go_wp2_with (go_at_call 25; refine (unhide CN 42 (-1) _ (by decide) (by decide)).mono ?_; rintro e w5 ⟨va', n', vc', rfl, k5⟩)
    go_ret
    exact ⟨va', n', vc', rfl, k5⟩
  exact LP e1 e2 e3 e4 e5 e7
def encTo (d : Nat) (l : List (Tr d)) (i : Nat) : List Nat := ((l.take i).map (encL d)).flatten
theorem encTo_step {d : Nat} {l : List (Tr d)} {i : Nat} {y : Tr d} (h : l[i]? = some y) : encTo d l (i + 1) = encTo d l i ++ encL d y := by
  unfold encTo
  rw [List.take_add_one, h]
  simp
theorem encTo_len {d : Nat} (l : List (Tr d)) (i : Nat) (h : ∀ y ∈ l, NumOk d y) : (encTo d l i).length ≤ 3 * sumTo d l i := flat_sum (encL d) (sz d) (l.take i) (fun y hy => encL_len d y (h y (List.mem_of_mem_take hy)))
theorem sum_take {d : Nat} (l : List (Tr d)) (i : Nat) {y : Tr d} (h : l[i]? = some y) : sumTo d l i + sz d y ≤ (l.map (sz d)).sum := by
  have h1 := sumTo_step h
  have h2 : sumTo d l (i + 1) ≤ (l.map (sz d)).sum := by
    have e := List.take_append_drop (i + 1) l
    have e2 := congrArg (fun l => (l.map (sz d)).sum) e
    simp only [List.map_append, List.sum_append] at e2
    unfold sumTo
    omega
  omega
theorem addreply_any (w0 : World) (ht : Tab w0) : ∀ (d : Nat) (x : Tr d) (w : World) (va : Option Addr) (n vc : Nat) (l : List Nat) (v0 v1 v2 v3 : Value), RpAt w0 d x v0 v1 v2 v3 → Gro w0 w w0.heap.size (.slice va n vc) n l → n + 3 * sz d x ≤ 201326592 →
    Calls Tryd.prog 15 #[.slice va n vc, .agg #[v0, v1, v2, v3]] w fun e w' => ∃ va' n' vc', e = .returned (.slice va' n' vc') ∧ Hid (Grw w0 w (.slice va n vc) w' w0.heap.size (.slice va' n' vc') n' (l ++ encL d x))
  | 0, x, w, va, n, vc, l, v0, v1, v2, v3, h, _, _ => absurd h id
  | d + 1, x, w, va, n, vc, l, v0, v1, v2, v3, h, hG, hn => by
    have IH := addreply_any w0 ht d
    have hnum := h.num
    have hszl := sz_list x
    obtain ⟨⟨rfl, -⟩, ⟨rfl, hb1⟩, ⟨ta, tc, rfl, hB, hS, htn, -⟩, la, lc, rfl, hln, hat⟩ := h
    refine add_walk w0 w va ta la n vc tc x.nd.l.length lc x.nd.k x.nd.n l x.nd.t _ hG ht hB hb1 hln (by omega) (fun e1 e2 e3 e4 e5 e7 => ?_)
    have hEnc : encK x.nd.k x.nd.n x.nd.t x.nd.l.length (x.nd.l.map (encL d)).flatten = numL 42 (x.nd.l.length : Nat) ++ encTo d x.nd.l x.nd.l.length := by
      unfold encK encTo
      rw [if_neg e1, if_neg e2, if_neg e3, if_neg e4, if_neg e5, if_neg e7, List.take_length]
    rw [hEnc]
    have hl0 : RlAt w0 d la x.nd.l := hat
    have hsum : Hid (sz (d + 1) x = 10 + x.nd.t.length + (x.nd.l.map (sz d)).sum) := hide rfl
    have hnumC : ∀ y ∈ x.nd.l, NumOk d y := hnum.2.2.2
    obtain ⟨S, hS'⟩ : ∃ S, S = sz (d + 1) x := ⟨_, rfl⟩
    rw [← hS'] at hn hszl hsum
    clear hS' hEnc hat hnum
    obtain ⟨k0, hk0⟩ : ∃ k, k = x.nd.k := ⟨_, rfl⟩
    obtain ⟨k1, hk1⟩ : ∃ k, k = x.nd.n := ⟨_, rfl⟩
    obtain ⟨tn, htn'⟩ : ∃ k, k = x.nd.t.length := ⟨_, rfl⟩
    obtain ⟨ll, hll⟩ : ∃ k, k = x.nd.l := ⟨_, rfl⟩
    rw [← hk0] at e1 e2 e3 e4 e5 e7 ⊢
    rw [← hll] at hl0 hnumC hln hszl hsum ⊢
    rw [← htn'] at hszl hsum ⊢
    rw [← hk1]
    obtain ⟨ln, hln'⟩ : ∃ k, k = ll.length := ⟨_, rfl⟩
    rw [← hln'] at hln hszl ⊢
    have HLn := hide hln'
    have HL0 := hide hl0
    have HNC := hide hnumC
    obtain ⟨wb, hwb⟩ : ∃ wb, wb = w.alloc (.cells #[.int .i64 k0, .int .i64 k1, .slice ta tn tc, .slice la ln lc] 27) := ⟨_, rfl⟩
    have bb : Below w.heap.size w wb := by rw [hwb]; exact (Below.refl _ _).alloc (Nat.le_refl _) _
    have hGb : Gro w0 wb w0.heap.size (.slice va n vc) n l := hG.below bb
    have hbox : wb.heap[w.heap.size]? = some (.cells #[.int .i64 k0, .int .i64 k1, .slice ta tn tc, .slice la ln lc] 27 (0, 0)) := by rw [hwb]; exact heap_alloc_new w _
    have c0 : wb.cell? ⟨w.heap.size, 0, none⟩ = some (.int .i64 k0) := by rw [cell_of_row _ _ _ _ _ _ hbox]; rfl
    have c3 : wb.cell? ⟨w.heap.size, 3, none⟩ = some (.slice la ln lc) := by rw [cell_of_row _ _ _ _ _ _ hbox]; rfl
    have CN : Hid (Calls Tryd.prog 25 #[.slice va n vc, .int .u8 42, .int .i64 (ln : Nat)] wb fun e w' => ∃ va' n' vc', e = .returned (.slice va' n' vc') ∧ Hid (Grw w0 wb (.slice va n vc) w' w0.heap.size (.slice va' n' vc') n' (l ++ numL 42 (ln : Nat) ++ encTo d ll 0)) ∧ w'.cell? ⟨w.heap.size, 3, none⟩ = some (.slice la ln lc)) := hide ((addnum_w w0 wb wb (.slice va n vc) w0.heap.size va n vc 42 l (ln : Nat) hGb.w (ht.below hGb.bel) ⟨by omega, by omega⟩ (by omega)).mono (fun e w' ⟨va', n', vc', h1, h2⟩ => ⟨va', n', vc', h1, by simpa [encTo] using h2, by
      have hlt := (Array.getElem?_eq_some_iff.1 hbox).1
      rw [cell_of_row _ _ _ _ _ _ (((unhide h2).gw.oth _ hlt (fun e => by have := hG.row.lt _ e; omega)).trans hbox)]; rfl⟩))
    have HF : Hid (∀ (w' : World) v' n' l', Hid (Grw w0 wb (.slice va n vc) w' w0.heap.size v' n' l') → Grw w0 w (.slice va n vc) w' w0.heap.size v' n' l') := hide (fun w' v' n' l' h => ⟨(unhide h).gro, ((Gw.refl w (.slice va n vc)).below bb).trans (unhide h).gw⟩)
    have HC : Hid (∀ (i : Nat) (y : Tr d), ll[i]? = some y → ∀ (W : World) va1 n1 vc1 u0 u1 u2 u3, RpAt w0 d y u0 u1 u2 u3 → Hid (Grw w0 wb (.slice va n vc) W w0.heap.size (.slice va1 n1 vc1) n1 (l ++ numL 42 (ln : Nat) ++ encTo d ll i)) → Calls Tryd.prog 15 #[.slice va1 n1 vc1, .agg #[u0, u1, u2, u3]] W fun e w' => ∃ va' n' vc', e = .returned (.slice va' n' vc') ∧ Hid (Grw w0 wb (.slice va n vc) w' w0.heap.size (.slice va' n' vc') n' (l ++ numL 42 (ln : Nat) ++ encTo d ll (i + 1)))) := hide (fun i y hy W va1 n1 vc1 u0 u1 u2 u3 r g => by
      have hlen := (unhide g).gro.len
      have n5 := numL_len 42 (ln : Nat) (by omega) (by omega)
      have n6 := encTo_len ll i hnumC
      have n7 := sum_take ll i hy
      have n8 := hG.len
      have hs := unhide hsum
      simp only [List.length_append] at hlen
      refine (IH y W va1 n1 vc1 _ u0 u1 u2 u3 r (unhide g).gro (by omega)).mono ?_
      rintro e w' ⟨va', n', vc', rfl, k⟩
      refine ⟨va', n', vc', rfl, hide ?_⟩
      rw [encTo_step hy, ← List.append_assoc]
      exact ⟨(unhide k).gro, (unhide g).gw.trans (unhide k).gw⟩)
    clear IH hl0 hnumC hll htn' hk0 hk1 hln' hbox hGb bb hsum hB hG
    go_enter Tryd.func15, Tryd.ntmps15
    go_upto_region 1 with fail
    rw [← hwb]
    clear hwb
    have g1 : (k0 == 1) = false := by simp [e1]
    have g2 : (k0 == 2) = false := by simp [e2]
    have g3 : (k0 == 3) = false := by simp [e3]
    have g4 : (k0 == 4) = false := by simp [e4]
    have g5 : (k0 == 5) = false := by simp [e5]
    have g7 : (k0 == 7) = false := by simp [e7]
    go_wp2_with (go_at_call 25; refine (unhide CN).mono ?_; rintro e w5 ⟨va5, n5, vc5, rfl, k5, x5⟩)
    go_loopw [0, 49] (fun bv iv wr => ∃ (j n1 vc1 : Nat) (va1 : Option Addr), iv = .int .i64 (j : Nat) ∧ j ≤ ln ∧ bv = .slice va1 n1 vc1 ∧ Hid (Grw w0 wb (.slice va n vc) wr w0.heap.size (.slice va1 n1 vc1) n1 (l ++ numL 42 (ln : Nat) ++ encTo d ll j))) (fun _ iv _ => ln - (intOf iv).toNat)
    case atStart => exact ⟨0, n5, vc5, va5, rfl, Nat.zero_le _, rfl, k5⟩
    case round =>
      obtain ⟨j, n1, vc1, va1, rfl, hj, rfl, p⟩ := hrel
      rcases Nat.lt_or_ge j ln with hlt | hge
      · have f0 : decide ((j : Int) < (ln : Int)) = true := decide_eq_true (by omega)
        have y1 : (0 : Int) ≤ (j : Int) := by omega
        have y2 : (j : Int) < (ln : Int) := by omega
        obtain ⟨b, off, rfl, hb, hc⟩ : ∃ b off, la = some ⟨b, off, none⟩ ∧ b < w0.heap.size ∧ ∀ i y, ll[i]? = some y → ∃ u0 u1 u2 u3, w0.cell? ⟨b, off + i * 4, none⟩ = some u0 ∧ w0.cell? ⟨b, off + i * 4 + 1, none⟩ = some u1 ∧ w0.cell? ⟨b, off + i * 4 + 2, none⟩ = some u2 ∧ w0.cell? ⟨b, off + i * 4 + 3, none⟩ = some u3 ∧ RpAt w0 d y u0 u1 u2 u3 := by
          rcases unhide HL0 with h | h
          · have := unhide HLn; rw [h] at this; simp at this; omega
          · exact h
        obtain ⟨y, hy⟩ : ∃ y, ll[j]? = some y := ⟨_, List.getElem?_eq_getElem (by have := unhide HLn; omega)⟩
        obtain ⟨u0, u1, u2, u3, z0, z1, z2, z3, r⟩ := hc j y hy
        have d0 : wr.cell? ⟨b, off + j * 4, none⟩ = some u0 := by rw [(unhide p).gro.bel.cell hb]; exact z0
        have d1 : wr.cell? ⟨b, off + j * 4 + 1, none⟩ = some u1 := by rw [(unhide p).gro.bel.cell hb]; exact z1
        have d2 : wr.cell? ⟨b, off + j * 4 + 2, none⟩ = some u2 := by rw [(unhide p).gro.bel.cell hb]; exact z2
        have d3 : wr.cell? ⟨b, off + j * 4 + 3, none⟩ = some u3 := by rw [(unhide p).gro.bel.cell hb]; exact z3
        have CJ : Hid (∀ o, Calls Tryd.prog 15 #[.slice va1 n1 vc1, .agg #[u0, u1, u2, u3]] (wr.alloc o) fun e w' => ∃ va' n' vc', e = .returned (.slice va' n' vc') ∧ Hid (Grw w0 wb (.slice va n vc) w' w0.heap.size (.slice va' n' vc') n' (l ++ numL 42 (ln : Nat) ++ encTo d ll (j + 1)))) := hide (fun o => unhide HC j y hy _ va1 n1 vc1 u0 u1 u2 u3 r (hide ((unhide p).below ((Below.refl _ _).alloc (Nat.le_refl _) _))))
        have hd : d ≠ 0 := tr_pos y
        obtain ⟨d, rfl⟩ : ∃ d', d = d' + 1 := ⟨d - 1, by omega⟩
        obtain ⟨⟨rfl, -⟩, ⟨rfl, -⟩, ⟨ta', tc', rfl, -⟩, qa', qc', rfl, -⟩ := r
        clear z0 z1 z2 z3 hc hy
        go_wp2_with (go_at_call 15; refine (unhide CJ _).mono ?_; rintro e w6 ⟨va6, n6, vc6, rfl, k6⟩)
        all_goals go_roundw
        all_goals first | exact ⟨j + 1, n6, vc6, va6, by go_num, by omega, rfl, k6⟩ | (simp [intOf]; omega)
      · obtain rfl : j = ln := by omega
        have f0 : decide ((j : Int) < (j : Int)) = false := decide_eq_false (by omega)
        go_wp2
        go_ret
        refine ⟨va1, n1, vc1, rfl, hide ?_⟩
        have := unhide HF _ _ _ _ p
        rw [List.append_assoc] at this
        exact this
end Go.Proofs.YtfgemcmiilbodaaDoor
