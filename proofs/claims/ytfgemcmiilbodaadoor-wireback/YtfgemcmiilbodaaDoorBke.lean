/- WireBack: fit's arms without a list. -/
import Derived.Test.YtfgemcmiilbodaaDoorBkd
namespace Go.Proofs.YtfgemcmiilbodaaDoor
open Go.ChangeShapes Go.WideShapes Go.ChangeAt Go.RowKit
set_option linter.unusedVariables false
set_option linter.unusedSimpArgs false
set_option maxRecDepth 100000
set_option maxHeartbeats 8000000

theorem results_box1 {P : Program} {fn : Func} {p : Tmp} {ty : TypeId} (h : fn.results = #[.cell p ty]) (tmps : Array Value) (w : World) (g : Nat) (t : TypeId) (cs : Array Value) (fr : Nat × Nat) (d : TypeDesc)
    (hp : tmps.getD p undef = .pointer (some ⟨g, 0, none⟩)) (hg : w.heap[g]? = some (.cells cs t fr))
    (hu : P.underlying ty = some d) (hd : (match d with | .struct _ | .array _ _ => true | _ => false) = true) (hi : (P.info? ty).map (·.size) = some cs.size) :
    (results fn tmps).run P w = .ok (.agg cs) w := by
  have hp' : tmps[p]?.getD undef = .pointer (some ⟨g, 0, none⟩) := by simpa using hp
  simp [results, h, hp', asAddr, run_loadVar_row w g t ty cs fr d hg hu hd hi]
theorem ft_end {W : World} {g : Nat} {v0 v1 v2 v3 : Value} (tmps : Array Value) (hg : W.heap[g]? = some (.cells #[v0, v1, v2, v3] 27 (0, 0))) (h2 : tmps.getD 4 undef = .pointer (some ⟨g, 0, none⟩)) :
    (results Tryd.f10 tmps).run Tryd.prog W = .ok (.agg #[v0, v1, v2, v3]) W := by
  refine results_box1 (p := 4) (ty := 27) rfl tmps _ g 27 _ (0, 0) _ h2 hg Tryd.underlying27 rfl (by kernel_rfl)
def FtEnd (w : World) (m : Nat) (X : Tr (m + 1)) (e : Ending) (w' : World) : Prop := ∃ (k0 k1 : Int) (ta : Option Addr) (tn tc : Nat) (la : Option Addr) (ln lc : Nat), e = .returned (.agg #[.int .i64 k0, .int .i64 k1, .slice ta tn tc, .slice la ln lc]) ∧ Hid (Below w.heap.size w w' ∧ DrAt w' (m + 1) (fun b => w.heap.size ≤ b) X (.int .i64 k0) (.int .i64 k1) (.slice ta tn tc) (.slice la ln lc))
theorem ft_new (w : World) (C1 : Array Value) (v0 v1 v2 v3 : Value) : ((w.alloc (.cells C1 27)).alloc (.cells #[v0, v1, v2, v3] 27)).heap[w.heap.size + 1]? = some (.cells #[v0, v1, v2, v3] 27 (0, 0)) := by
  have := heap_alloc_new (w.alloc (.cells C1 27)) (.cells #[v0, v1, v2, v3] 27)
  rw [World.size_alloc] at this
  exact this
theorem ft_leaf (w : World) (C1 : Array Value) (m : Nat) (k0 k1 : Int) : FtEnd w m (mkR k0 k1 [] []) (.returned (.agg #[.int .i64 k0, .int .i64 k1, .slice none 0 0, .slice none 0 0])) ((w.alloc (.cells C1 27)).alloc (.cells #[.int .i64 k0, .int .i64 k1, .slice none 0 0, .slice none 0 0] 27)) :=
  ⟨k0, k1, none, 0, 0, none, 0, 0, rfl, hide ⟨((Below.refl _ _).alloc (Nat.le_refl _) _).alloc (by simp) _, DrAt.leaf (OwnB.nil _ _) small_nil⟩⟩
theorem Ex2.f2 {w V : World} {C1 C2 : Array Value} (h : Ex2 w V C1 C2) (j : Nat) : V.frozen? ⟨w.heap.size + 1, j, none⟩ = false := by simp only [World.frozen?, h.b2]; simp
/-- an answer with a text -/
theorem ft_text {w V : World} {C1 C2 : Array Value} {m : Nat} (h : Ex2 w V C1 C2) (k0 k1 : Int) {ta : Option Addr} {tn tc : Nat} {t : List Nat} (ho : OwnB V (w.heap.size + 2) (.slice ta tn tc) t) (hs : Small t) :
    FtEnd w m (mkR k0 k1 t []) (.returned (.agg #[.int .i64 k0, .int .i64 k1, .slice ta tn tc, .slice none 0 0])) ((((V.setCell ⟨w.heap.size + 1, 0, none⟩ (.int .i64 k0)).setCell ⟨w.heap.size + 1, 1, none⟩ (.int .i64 k1)).setCell ⟨w.heap.size + 1, 2, none⟩ (.slice ta tn tc)).setCell ⟨w.heap.size + 1, 3, none⟩ (.slice none 0 0)) := by
  have hb : ∀ k, k ≠ w.heap.size + 1 → ((((V.setCell ⟨w.heap.size + 1, 0, none⟩ (.int .i64 k0)).setCell ⟨w.heap.size + 1, 1, none⟩ (.int .i64 k1)).setCell ⟨w.heap.size + 1, 2, none⟩ (.slice ta tn tc)).setCell ⟨w.heap.size + 1, 3, none⟩ (.slice none 0 0)).heap[k]? = V.heap[k]? := fun k hk => by
    rw [Bk.setCell_else _ _ _ _ _ hk, Bk.setCell_else _ _ _ _ _ hk, Bk.setCell_else _ _ _ _ _ hk, Bk.setCell_else _ _ _ _ _ hk]
  refine ⟨k0, k1, ta, tn, tc, none, 0, 0, rfl, hide ⟨⟨h.bel.os, h.bel.tape, h.bel.output, by simpa using h.bel.size, fun k hk => (hb k (by omega)).trans (h.bel.block k hk)⟩, DrAt.leaf ((ho.same (fun g hg => hb g (by have := ho.ge g hg; omega))).mono (by omega)) hs⟩⟩
theorem Gro.ownB {w W : World} {base n : Nat} {v : Value} {l : List Nat} (h : Gro w W base v n l) : OwnB W base v l := by
  have hl := h.len
  refine ⟨by rw [cellsOf_length]; omega, ?_⟩
  rcases h.row with ⟨e, h0⟩ | ⟨g, cap, cur, e, hg, hn, hm, hs, hh⟩
  · exact .inl ⟨e, by omega⟩
  · refine .inr ⟨g, cap, cur, by rw [← hl]; exact e, h.own g (by rw [e]; simp [Value.ownBlock]), hg, by omega, hm, hs, ?_⟩
    apply List.ext_getElem?
    intro k
    rw [List.getElem?_take]
    by_cases q : k < l.length * 1
    · rw [if_pos q]
      have h1 := hh k (by omega)
      have hk' : k < l.length := by omega
      unfold cellsOf
      rw [List.getElem?_map, List.getElem?_eq_getElem hk']
      have h2 : cur.toList[k]? = cur[k]? := by simp
      rw [h2, h1]
      unfold byV
      rw [List.getD_eq_getElem?_getD, List.getElem?_eq_getElem hk']
      rfl
    · rw [if_neg q]
      unfold cellsOf
      rw [List.getElem?_map, List.getElem?_eq_none (by omega)]
      rfl
theorem OwnB.first {w : World} {base : Nat} {a : Option Addr} {n c : Nat} {l : List Nat} (h : OwnB w base (.slice a n c) l) (k : Nat) (hk : k ≤ l.length) (h0 : 0 < l.length) : OwnB w base (.slice a k c) (l.take k) := by
  have e1 : (l.take k).length = k := by rw [List.length_take]; omega
  refine ⟨by rw [cellsOf_length]; omega, ?_⟩
  rcases h.2 with ⟨e, hn⟩ | ⟨g, cap, cur, e, hb, hg, hn, hm, hs, ht⟩
  · omega
  · cases e
    refine .inr ⟨g, c, cur, by rw [e1], hb, hg, by omega, hm, hs, ?_⟩
    rw [e1]
    unfold cellsOf at ht ⊢
    rw [List.map_take, ← ht, List.take_take]
    congr 1
    omega
theorem ft_num (w : World) (m : Nat) (k1 : Int) (ta : Option Addr) (tn tc : Nat) (la : Option Addr) (ln lc : Nat) (I : Int) :
    Calls Tryd.prog 10 #[.agg #[.int .i64 3, .int .i64 k1, .slice ta tn tc, .slice la ln lc], .int .i64 I] w (FtEnd w m (mkR 3 k1 [] [])) := by
  go_enter Tryd.func10, Tryd.ntmps10
  go_wp2_with fail
  refine bodyPost_ret (ft_end _ (ft_new _ _ _ _ _ _) rfl) rfl ?_
  exact ft_leaf w _ m _ _
theorem ft_narr (w : World) (m : Nat) (k1 : Int) (ta : Option Addr) (tn tc : Nat) (la : Option Addr) (ln lc : Nat) (I : Int) :
    Calls Tryd.prog 10 #[.agg #[.int .i64 7, .int .i64 k1, .slice ta tn tc, .slice la ln lc], .int .i64 I] w (FtEnd w m (mkR 7 0 [] [])) := by
  go_enter Tryd.func10, Tryd.ntmps10
  go_wp2_with fail
  refine bodyPost_ret (ft_end _ (ft_new _ _ _ _ _ _) rfl) rfl ?_
  exact ft_leaf w _ m _ _
theorem ft_nil (w : World) (m : Nat) (k0 : Int) (k1 : Int) (ta : Option Addr) (tn tc : Nat) (la : Option Addr) (ln lc : Nat) (I : Int) (h1 : (k0 == 1) = false) (h2 : (k0 == 2) = false) (h3 : (k0 == 3) = false) (h4 : (k0 == 4) = false) (h6 : (k0 == 6) = false) (h7 : (k0 == 7) = false) :
    Calls Tryd.prog 10 #[.agg #[.int .i64 k0, .int .i64 k1, .slice ta tn tc, .slice la ln lc], .int .i64 I] w (FtEnd w m (mkR 5 0 [] [])) := by
  go_enter Tryd.func10, Tryd.ntmps10
  go_wp2_with fail
  refine bodyPost_ret (ft_end _ (ft_new _ _ _ _ _ _) rfl) rfl ?_
  exact ft_leaf w _ m _ _
theorem ft_deep (w : World) (m : Nat) (k1 : Int) (ta : Option Addr) (tn tc : Nat) (la : Option Addr) (ln lc : Nat) (I : Int) (hI : (I == 8) = true) :
    Calls Tryd.prog 10 #[.agg #[.int .i64 6, .int .i64 k1, .slice ta tn tc, .slice la ln lc], .int .i64 I] w (FtEnd w m (mkR 5 0 [] [])) := by
  go_enter Tryd.func10, Tryd.ntmps10
  go_wp2_with fail
  refine bodyPost_ret (ft_end _ (ft_new _ _ _ _ _ _) rfl) rfl ?_
  exact ft_leaf w _ m _ _
theorem ft_line1 (w0 : World) (w : World) (m : Nat) (k1 : Int) (ta : Option Addr) (tn tc : Nat) (la : Option Addr) (ln lc : Nat) (I : Int) (T : List Nat) (hB : Bytes w0 ta T) (hS : Small T) (hn : tn = T.length) (hl : tn ≤ 140737488351232) (hw : Below w0.heap.size w0 w) :
    Calls Tryd.prog 10 #[.agg #[.int .i64 1, .int .i64 k1, .slice ta tn tc, .slice la ln lc], .int .i64 I] w (FtEnd w m (mkR 1 0 (cleanL T) [])) := by
  have E0 := hide (Ex2.new w #[.int .i64 1, .int .i64 k1, .slice ta tn tc, .slice la ln lc] #[.int .i64 0, .int .i64 0, .slice none 0 0, .slice none 0 0]).drew
  have CK : Hid (Calls Tryd.prog 17 #[.slice ta tn tc, .int .i64 1024] ((w.alloc (.cells #[.int .i64 1, .int .i64 k1, .slice ta tn tc, .slice la ln lc] 27)).alloc (.cells #[.int .i64 0, .int .i64 0, .slice none 0 0, .slice none 0 0] 27)).drew fun e w' => ∃ va vn vc, e = .returned (.slice va vn vc) ∧ Hid (Ex2 w w' #[.int .i64 1, .int .i64 k1, .slice ta tn tc, .slice la ln lc] #[.int .i64 0, .int .i64 0, .slice none 0 0, .slice none 0 0]) ∧ Hid (OwnB w' (w.heap.size + 2) (.slice va vn vc) (cleanL T))) := hide ((clean_any _ ta tn tc T hn (hB.below (hw.trans ((unhide E0).bel.mono hw.size))) hl).mono (fun e w' ⟨va, vn, vc, h1, h2⟩ => ⟨va, vn, vc, h1, hide ((unhide E0).next (unhide h2).2.bel), hide (((unhide h2).2.ownB).mono (by show w.heap.size + 2 ≤ _; simp))⟩))
  have HS : Hid (Small (cleanL T)) := hide (fun i hi => by
    have hm : (cleanL T).getD i 0 ∈ T := by
      rw [List.getD_eq_getElem?_getD, List.getElem?_eq_getElem hi]
      exact (List.mem_filter.1 (List.mem_of_mem_take (List.getElem_mem hi))).1
    obtain ⟨j, hj, e⟩ := List.mem_iff_getElem.1 hm
    have := hS j hj
    rw [List.getD_eq_getElem?_getD, List.getElem?_eq_getElem hj] at this
    rw [← e]
    exact this)
  have c0 := (unhide E0).c1 0 _ rfl
  have c2 := (unhide E0).c1 2 _ rfl
  clear hB hS hn hw
  go_enter Tryd.func10, Tryd.ntmps10
  go_wp2_with fail
  go_region_held3 (fun w' => w'.cell? ⟨w.heap.size, 0, none⟩ = some (.int .i64 1) ∧ w'.cell? ⟨w.heap.size, 2, none⟩ = some (.slice ta tn tc)) (first | exact ⟨c0, c2⟩ | exact ⟨b0, b2⟩ | go_keep) (first
    | (go_at_call 17; with_reducible refine (unhide CK).mono ?_; rintro e w3 ⟨va, vn, vc, rfl, E3, h3⟩; have z0 := (unhide E3).c2 0 _ rfl; have z1 := (unhide E3).c2 1 _ rfl; have z2 := (unhide E3).c2 2 _ rfl; have z3 := (unhide E3).c2 3 _ rfl; have y0 := (unhide E3).f2 0; have y1 := (unhide E3).f2 1; have y2 := (unhide E3).f2 2; have y3 := (unhide E3).f2 3; have b0 := (unhide E3).c1 0 _ rfl; have b2 := (unhide E3).c1 2 _ rfl))
  all_goals go_wp2_with fail
  all_goals refine bodyPost_ret (ft_end _ (store4 (unhide E3).b2 rfl _ _ _ _) rfl) rfl ?_
  all_goals exact ft_text (unhide E3) _ _ (unhide h3) (unhide HS)
theorem ft_line2 (w0 : World) (w : World) (m : Nat) (k1 : Int) (ta : Option Addr) (tn tc : Nat) (la : Option Addr) (ln lc : Nat) (I : Int) (T : List Nat) (hB : Bytes w0 ta T) (hS : Small T) (hn : tn = T.length) (hl : tn ≤ 140737488351232) (hw : Below w0.heap.size w0 w) :
    Calls Tryd.prog 10 #[.agg #[.int .i64 2, .int .i64 k1, .slice ta tn tc, .slice la ln lc], .int .i64 I] w (FtEnd w m (mkR 2 0 (cleanL T) [])) := by
  have E0 := hide (Ex2.new w #[.int .i64 2, .int .i64 k1, .slice ta tn tc, .slice la ln lc] #[.int .i64 0, .int .i64 0, .slice none 0 0, .slice none 0 0]).drew
  have CK : Hid (Calls Tryd.prog 17 #[.slice ta tn tc, .int .i64 1024] ((w.alloc (.cells #[.int .i64 2, .int .i64 k1, .slice ta tn tc, .slice la ln lc] 27)).alloc (.cells #[.int .i64 0, .int .i64 0, .slice none 0 0, .slice none 0 0] 27)).drew fun e w' => ∃ va vn vc, e = .returned (.slice va vn vc) ∧ Hid (Ex2 w w' #[.int .i64 2, .int .i64 k1, .slice ta tn tc, .slice la ln lc] #[.int .i64 0, .int .i64 0, .slice none 0 0, .slice none 0 0]) ∧ Hid (OwnB w' (w.heap.size + 2) (.slice va vn vc) (cleanL T))) := hide ((clean_any _ ta tn tc T hn (hB.below (hw.trans ((unhide E0).bel.mono hw.size))) hl).mono (fun e w' ⟨va, vn, vc, h1, h2⟩ => ⟨va, vn, vc, h1, hide ((unhide E0).next (unhide h2).2.bel), hide (((unhide h2).2.ownB).mono (by show w.heap.size + 2 ≤ _; simp))⟩))
  have HS : Hid (Small (cleanL T)) := hide (fun i hi => by
    have hm : (cleanL T).getD i 0 ∈ T := by
      rw [List.getD_eq_getElem?_getD, List.getElem?_eq_getElem hi]
      exact (List.mem_filter.1 (List.mem_of_mem_take (List.getElem_mem hi))).1
    obtain ⟨j, hj, e⟩ := List.mem_iff_getElem.1 hm
    have := hS j hj
    rw [List.getD_eq_getElem?_getD, List.getElem?_eq_getElem hj] at this
    rw [← e]
    exact this)
  have c0 := (unhide E0).c1 0 _ rfl
  have c2 := (unhide E0).c1 2 _ rfl
  clear hB hS hn hw
  go_enter Tryd.func10, Tryd.ntmps10
  go_wp2_with fail
  go_region_held3 (fun w' => w'.cell? ⟨w.heap.size, 0, none⟩ = some (.int .i64 2) ∧ w'.cell? ⟨w.heap.size, 2, none⟩ = some (.slice ta tn tc)) (first | exact ⟨c0, c2⟩ | exact ⟨b0, b2⟩ | go_keep) (first
    | (go_at_call 17; with_reducible refine (unhide CK).mono ?_; rintro e w3 ⟨va, vn, vc, rfl, E3, h3⟩; have z0 := (unhide E3).c2 0 _ rfl; have z1 := (unhide E3).c2 1 _ rfl; have z2 := (unhide E3).c2 2 _ rfl; have z3 := (unhide E3).c2 3 _ rfl; have y0 := (unhide E3).f2 0; have y1 := (unhide E3).f2 1; have y2 := (unhide E3).f2 2; have y3 := (unhide E3).f2 3; have b0 := (unhide E3).c1 0 _ rfl; have b2 := (unhide E3).c1 2 _ rfl))
  all_goals go_wp2_with fail
  all_goals refine bodyPost_ret (ft_end _ (store4 (unhide E3).b2 rfl _ _ _ _) rfl) rfl ?_
  all_goals exact ft_text (unhide E3) _ _ (unhide h3) (unhide HS)
theorem ft_bulk (w0 : World) (w : World) (m : Nat) (k1 : Int) (tn tc : Nat) (la : Option Addr) (ln lc : Nat) (I : Int) (x : Addr) (T : List Nat) (hB : Bytes w0 (some x) T) (hS : Small T) (hn : tn = T.length) (hl : tn ≤ 140737488351232) (hw : Below w0.heap.size w0 w) (hc : tn ≤ 4096) :
    Calls Tryd.prog 10 #[.agg #[.int .i64 4, .int .i64 k1, .slice (some x) tn tc, .slice la ln lc], .int .i64 I] w (FtEnd w m (mkR 4 0 (T) [])) := by
  have E0 := hide (Ex2.new w #[.int .i64 4, .int .i64 k1, .slice (some x) tn tc, .slice la ln lc] #[.int .i64 0, .int .i64 0, .slice none 0 0, .slice none 0 0])
  have CK : Hid (Calls Tryd.prog 9 #[.slice (some x) tn tc] ((w.alloc (.cells #[.int .i64 4, .int .i64 k1, .slice (some x) tn tc, .slice la ln lc] 27)).alloc (.cells #[.int .i64 0, .int .i64 0, .slice none 0 0, .slice none 0 0] 27)) fun e w' => ∃ va vc, e = .returned (.slice va tn vc) ∧ tn ≤ vc ∧ Hid (Ex2 w w' #[.int .i64 4, .int .i64 k1, .slice (some x) tn tc, .slice la ln lc] #[.int .i64 0, .int .i64 0, .slice none 0 0, .slice none 0 0]) ∧ Hid (OwnB w' (w.heap.size + 2) (.slice va tn vc) T)) := hide (by
    have h := copyR_any (cap := tc) T (by omega) (hB.below (hw.trans ((unhide E0).bel.mono hw.size)))
    rw [← hn] at h
    exact h.mono (fun e w' ⟨h1, h2⟩ => ⟨_, _, h1, Nat.le_refl _, hide ((unhide E0).next (unhide h2).bel), hide ((unhide h2).ownB.mono (by show w.heap.size + 2 ≤ _; simp))⟩))
  have HN := hide hn
  have HS := hide hS
  have f1 : decide ((4096 : Int) < (tn : Int)) = false := decide_eq_false (by omega)
  have f2 : decide (4096 < tn) = false := decide_eq_false (by omega)
  clear hB hS hn hw
  go_enter Tryd.func10, Tryd.ntmps10
  go_wp2_with (first
    | (go_at_call 9; with_reducible refine (unhide CK).mono ?_; rintro e w3 ⟨va, vc, rfl, hvc, E3, h3⟩; have z0 := (unhide E3).c2 0 _ rfl; have z1 := (unhide E3).c2 1 _ rfl; have z2 := (unhide E3).c2 2 _ rfl; have z3 := (unhide E3).c2 3 _ rfl; have y0 := (unhide E3).f2 0; have y1 := (unhide E3).f2 1; have y2 := (unhide E3).f2 2; have y3 := (unhide E3).f2 3; have b0 := (unhide E3).c1 0 _ rfl; have b2 := (unhide E3).c1 2 _ rfl))
  refine bodyPost_ret (ft_end _ (store4 (unhide E3).b2 rfl _ _ _ _) rfl) rfl ?_
  exact ft_text (unhide E3) _ _ (unhide h3) (unhide HS)
theorem ft_long (w0 : World) (w : World) (m : Nat) (k1 : Int) (tn tc : Nat) (la : Option Addr) (ln lc : Nat) (I : Int) (x : Addr) (T : List Nat) (hB : Bytes w0 (some x) T) (hS : Small T) (hn : tn = T.length) (hl : tn ≤ 140737488351232) (hw : Below w0.heap.size w0 w) (hc : 4096 < tn) :
    Calls Tryd.prog 10 #[.agg #[.int .i64 4, .int .i64 k1, .slice (some x) tn tc, .slice la ln lc], .int .i64 I] w (FtEnd w m (mkR 4 0 (T.take 4096) [])) := by
  have E0 := hide (Ex2.new w #[.int .i64 4, .int .i64 k1, .slice (some x) tn tc, .slice la ln lc] #[.int .i64 0, .int .i64 0, .slice none 0 0, .slice none 0 0])
  have CK : Hid (Calls Tryd.prog 9 #[.slice (some x) tn tc] ((w.alloc (.cells #[.int .i64 4, .int .i64 k1, .slice (some x) tn tc, .slice la ln lc] 27)).alloc (.cells #[.int .i64 0, .int .i64 0, .slice none 0 0, .slice none 0 0] 27)) fun e w' => ∃ va vc, e = .returned (.slice va tn vc) ∧ tn ≤ vc ∧ Hid (Ex2 w w' #[.int .i64 4, .int .i64 k1, .slice (some x) tn tc, .slice la ln lc] #[.int .i64 0, .int .i64 0, .slice none 0 0, .slice none 0 0]) ∧ Hid (OwnB w' (w.heap.size + 2) (.slice va tn vc) T)) := hide (by
    have h := copyR_any (cap := tc) T (by omega) (hB.below (hw.trans ((unhide E0).bel.mono hw.size)))
    rw [← hn] at h
    exact h.mono (fun e w' ⟨h1, h2⟩ => ⟨_, _, h1, Nat.le_refl _, hide ((unhide E0).next (unhide h2).bel), hide ((unhide h2).ownB.mono (by show w.heap.size + 2 ≤ _; simp))⟩))
  have HN := hide hn
  have HS := hide hS
  have f1 : decide ((4096 : Int) < (tn : Int)) = true := decide_eq_true (by omega)
  have f2 : decide (4096 < tn) = true := decide_eq_true (by omega)
  clear hB hS hn hw
  go_enter Tryd.func10, Tryd.ntmps10
  go_wp2_with (first
    | (go_at_call 9; with_reducible refine (unhide CK).mono ?_; rintro e w3 ⟨va, vc, rfl, hvc, E3, h3⟩; have z0 := (unhide E3).c2 0 _ rfl; have z1 := (unhide E3).c2 1 _ rfl; have z2 := (unhide E3).c2 2 _ rfl; have z3 := (unhide E3).c2 3 _ rfl; have y0 := (unhide E3).f2 0; have y1 := (unhide E3).f2 1; have y2 := (unhide E3).f2 2; have y3 := (unhide E3).f2 3; have b0 := (unhide E3).c1 0 _ rfl; have b2 := (unhide E3).c1 2 _ rfl; obtain ⟨xa, rfl⟩ : ∃ xa, va = some xa := (by obtain ⟨a2, c2, e2, hB2, h02⟩ := (unhide h3).shape; cases e2; cases va with | none => exact absurd (h02 rfl) (by omega) | some xa => exact ⟨xa, rfl⟩); have q1 : (4096 : Int) ≤ (vc : Int) := (by omega)))
  refine bodyPost_ret (ft_end _ (store4 (unhide E3).b2 rfl _ _ _ _) rfl) rfl ?_
  have hT := unhide HN
  exact ft_text (unhide E3) _ _ ((unhide h3).first 4096 (by omega) (by omega)) ((unhide HS).take _)
theorem ft_none (w : World) (m : Nat) (k1 : Int) (tc : Nat) (la : Option Addr) (ln lc : Nat) (I : Int) :
    Calls Tryd.prog 10 #[.agg #[.int .i64 4, .int .i64 k1, .slice none 0 tc, .slice la ln lc], .int .i64 I] w (FtEnd w m (mkR 4 0 [] [])) := by
  have E0 := hide (Ex2.new w #[.int .i64 4, .int .i64 k1, .slice none 0 tc, .slice la ln lc] #[.int .i64 0, .int .i64 0, .slice none 0 0, .slice none 0 0])
  have CK : Hid (Calls Tryd.prog 9 #[.slice none 0 tc] ((w.alloc (.cells #[.int .i64 4, .int .i64 k1, .slice none 0 tc, .slice la ln lc] 27)).alloc (.cells #[.int .i64 0, .int .i64 0, .slice none 0 0, .slice none 0 0] 27)) fun e w' => ∃ va vc, e = .returned (.slice va 0 vc) ∧ Hid (Ex2 w w' #[.int .i64 4, .int .i64 k1, .slice none 0 tc, .slice la ln lc] #[.int .i64 0, .int .i64 0, .slice none 0 0, .slice none 0 0]) ∧ Hid (OwnB w' (w.heap.size + 2) (.slice va 0 vc) [])) := hide ((copy_none _ tc).mono (fun e w' ⟨h1, h2⟩ => ⟨_, _, h1, hide ((unhide E0).next (unhide h2).bel), hide ((unhide h2).ownB.mono (by show w.heap.size + 2 ≤ _; simp))⟩))
  go_enter Tryd.func10, Tryd.ntmps10
  go_wp2_with (first
    | (go_at_call 9; with_reducible refine (unhide CK).mono ?_; rintro e w3 ⟨va, vc, rfl, E3, h3⟩; have z0 := (unhide E3).c2 0 _ rfl; have z1 := (unhide E3).c2 1 _ rfl; have z2 := (unhide E3).c2 2 _ rfl; have z3 := (unhide E3).c2 3 _ rfl; have y0 := (unhide E3).f2 0; have y1 := (unhide E3).f2 1; have y2 := (unhide E3).f2 2; have y3 := (unhide E3).f2 3; have b0 := (unhide E3).c1 0 _ rfl; have b2 := (unhide E3).c1 2 _ rfl))
  refine bodyPost_ret (ft_end _ (store4 (unhide E3).b2 rfl _ _ _ _) rfl) rfl ?_
  exact ft_text (unhide E3) _ _ (unhide h3) small_nil
end Go.Proofs.YtfgemcmiilbodaaDoor
