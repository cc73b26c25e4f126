/- Release. -/
import Derived.Test.YtfebiemfmiahhabKh
namespace Go.Proofs.Ytfebiemfmiahhab
open Go.ChangeShapes Go.WideShapes Go.ChangeAt Go.RowKit Go.Maps Go.Sort
set_option linter.unusedVariables false
set_option linter.unusedSimpArgs false
set_option maxRecDepth 100000
set_option maxHeartbeats 8000000
/-- without the one with the number c -/
def goneE (E : List En) (c : Int) : List En := E.filter (fun e => !decide ((e.x.conn : Int) = c))
theorem lookE_gone (E : List En) (c d : Int) : lookE (goneE E c) d = if d = c then none else lookE E d := by
  unfold lookE goneE
  rw [List.find?_filter]
  by_cases e : d = c
  · subst e
    rw [if_pos rfl, List.find?_eq_none]
    intro x _
    simp
  · rw [if_neg e]
    congr 1
    funext x
    by_cases e2 : (x.x.conn : Int) = d
    · simp [e2, e]
    · simp [e2]
theorem gone_none {E : List En} {c : Int} (h : lookE E c = none) : goneE E c = E := by
  unfold goneE
  rw [List.filter_eq_self]
  intro e he
  have := List.find?_eq_none.1 h e he
  simpa using this
/-- the lines while one leaves them -/
def Lo (E : List En) (l : List Pl) (c i : Nat) : Pl → List Nat := fun q => if q ∈ l.take i then (conns E q).filter (fun y => decide (y ≠ c)) else conns E q
theorem Lo_zero (E : List En) (l : List Pl) (c : Nat) (q : Pl) : Lo E l c 0 q = conns E q := by simp [Lo]
theorem filter2 (l : List Nat) (c : Nat) : (l.filter (fun y => decide (y ≠ c))).filter (fun y => decide (y ≠ c)) = l.filter (fun y => decide (y ≠ c)) := by
  rw [List.filter_filter]
  simp
theorem Lo_next (E : List En) (l : List Pl) (c i : Nat) (x : Pl) (hx : l[i]? = some x) (q : Pl) : Lo E l c (i + 1) q = updL (Lo E l c i) x ((Lo E l c i x).filter (fun y => decide (y ≠ c))) q := by
  unfold Lo updL
  rw [List.take_add_one, hx]
  by_cases e : q = x
  · subst e
    rw [if_pos rfl, if_pos (by simp)]
    split
    · rw [filter2]
    · rfl
  · have : (q ∈ l.take i ++ (some x).toList) ↔ q ∈ l.take i := by simp [e]
    simp only [this, if_neg e]
theorem inj_of_nodup {E : List En} (hn : (E.map (·.x.conn)).Nodup) {a b : En} (ha : a ∈ E) (hb : b ∈ E) (e : a.x.conn = b.x.conn) : a = b := by
  induction E with
  | nil => cases ha
  | cons x r ih =>
    rw [List.map_cons, List.nodup_cons] at hn
    rcases List.mem_cons.1 ha with rfl | ha'
    · rcases List.mem_cons.1 hb with rfl | hb'
      · rfl
      · exact absurd (List.mem_map_of_mem (f := (·.x.conn)) hb') (by rw [← e]; exact hn.1)
    · rcases List.mem_cons.1 hb with rfl | hb'
      · exact absurd (List.mem_map_of_mem (f := (·.x.conn)) ha') (by rw [e]; exact hn.1)
      · exact ih hn.2 ha' hb'
theorem Lo_all {E : List En} {e0 : En} (he : e0 ∈ E) (hnd : (E.map (·.x.conn)).Nodup) (q : Pl) (n : Nat) (hn : e0.x.places.length ≤ n) : conns (goneE E (e0.x.conn : Nat)) q = Lo E e0.x.places e0.x.conn n q := by
  unfold Lo
  rw [List.take_of_length_le hn]
  have h1 : ∀ E' : List En, conns (goneE E' (e0.x.conn : Nat)) q = (conns E' q).filter (fun y => decide (y ≠ e0.x.conn)) := by
    intro E'
    unfold conns goneE
    rw [List.filter_map, List.filter_filter, List.filter_filter]
    congr 1
    refine List.filter_congr (fun e _ => ?_)
    have : ((e.x.conn : Int) = (e0.x.conn : Nat)) ↔ e.x.conn = e0.x.conn := by omega
    simp [this, Bool.and_comm]
  rw [h1]
  split
  · rfl
  · rename_i hq
    rw [List.filter_eq_self]
    intro y hy
    unfold conns at hy
    obtain ⟨e, he', rfl⟩ := List.mem_map.1 hy
    obtain ⟨he1, he2⟩ := List.mem_filter.1 he'
    have hne : e ≠ e0 := fun e2 => by
      subst e2
      exact hq (by simpa using he2)
    have : e.x.conn ≠ e0.x.conn := fun e2 => hne (by
      exact inj_of_nodup hnd he1 he e2)
    simpa using this
/-- he is struck from the map -/
theorem WL.gone {O : Nat → Prop} {w W : World} {p bw bl T n : Nat} {E : List En} {L : Pl → List Nat} (h : WL (ext O w W) W p bw bl T n E L) (hf : Fr O w W) (c : Int) (hc : IOk c) (ty : TypeId) : ∃ w2, (Builtin.delete_ #[63, 3] ty #[.map (some bw), .int .i64 c]).run Try.prog W = .ok (.tuple #[]) w2 ∧ WL (ext O w w2) w2 p bw bl T n (goneE E c) L ∧ Fr O w w2 := by
  obtain ⟨w2, hr, hm, ht⟩ := h.mw.del (t := 63) (e := 73) Try.underlying63 (x := c) hc ty
  obtain ⟨k2, s2⟩ := KeptB.turned ht
  obtain ⟨n3, npl, npw⟩ := no3_p h
  have hsub : ∀ b, ext O w W b → ext O w w2 b := fun b ob => by
    rcases ob with ob | ob
    · exact .inl ob
    · exact .inr ⟨ob.1, by omega⟩
  refine ⟨w2, hr, ⟨(k2.blk p (h.lt p h.op) npw).trans h.cell, ?_, (h.ln.keep k2 h.ne (no3_bw h) hsub), fun e he => ?_, hsub _ h.op, hsub _ h.ow, hsub _ h.ol, fun e he => hsub _ (h.oe e (List.mem_filter.1 he).1), fun b ob => ?_, h.ne, ?_, fun e he => h.ok e (List.mem_filter.1 he).1, fun e he => h.le e (List.mem_filter.1 he).1, h.inc.filter _, h.few⟩, hf.kept k2 (by
    rcases h.ow with o | o
    · exact .inl o
    · exact .inr o.1)⟩
  · have : (fun d => (lookE (goneE E c) d).map enV) = upd (fun d => (lookE E d).map enV) c none := by
      funext d
      unfold upd
      rw [lookE_gone]
      by_cases e : d = c
      · rw [if_pos e, if_pos e]; rfl
      · rw [if_neg e, if_neg e]
    rw [this]
    exact hm
  · have he' := (List.mem_filter.1 he).1
    obtain ⟨-, -, nw, -⟩ := no3_row h he'
    exact (k2.blk e.g (h.lt e.g (h.oe e he')) nw).trans (h.rows e he')
  · rcases ob with ob | ob
    · have := h.lt b (.inl ob); omega
    · exact ob.2
  · exact h.nd.sublist ((List.filter_sublist).map _)
theorem release_yes (O : Nat → Prop) (w : World) (p bw bl T : Nat) (E : List En) (e0 : En) (h : WAt O w p bw bl T E) (he : lookE E (e0.x.conn : Nat) = some e0) :
    Calls Try.prog 30 #[.pointer (some ⟨p, 0, none⟩), .int .i64 (e0.x.conn : Nat)] w fun e w' => e = .returned (.bool true) ∧ Hid (WAt (ext O w w') w' p bw bl T (goneE E (e0.x.conn : Nat)) ∧ Fr O w w') := by
  obtain ⟨hm, -⟩ := lookE_mem he
  have hok := h.ok e0 hm
  have hc8 := hok.conn
  obtain ⟨-, c1, -⟩ := h.c0
  have hr := h.mw.look_ok (t := 63) (e := 73) Try.underlying63 (zero68 w) (x := ((e0.x.conn : Nat) : Int)) (WalkArith.wf_i64 (by omega))
  change (Instr.lookup 63 (.map (some bw)) (.int .i64 ((e0.x.conn : Nat) : Int)) true).run Try.prog w = _ at hr
  rw [he] at hr
  change _ = Result.ok (Value.tuple #[.agg #[.int .i64 (e0.x.conn : Nat), .int .u64 (e0.turn : Nat), .int .i64 e0.x.kind, .slice (some ⟨e0.g, 0, none⟩) e0.x.places.length e0.x.places.length, .int .u64 (e0.x.till : Nat)], .bool true]) w at hr
  have HW := hide h
  have HOK := hide hok
  obtain ⟨n, hn⟩ : ∃ n, n = e0.x.places.length := ⟨_, rfl⟩
  rw [← hn] at hr
  have hlen : n ≤ 64 := by rw [hn]; exact hok.many.2
  have HN := hide hn
  obtain ⟨w0, hw0⟩ : ∃ w0, w.alloc (.cells #[.int .i64 (e0.x.conn : Nat), .int .u64 (e0.turn : Nat), .int .i64 e0.x.kind, .slice (some ⟨e0.g, 0, none⟩) n n, .int .u64 (e0.x.till : Nat)] 73) = w0 := ⟨_, rfl⟩
  have hb0 : Below w.heap.size w w0 := by rw [← hw0]; exact (Below.refl _ _).alloc (Nat.le_refl _) _
  have HS : Hid (WL (ext O w w0) w0 p bw bl T (64 * T) E (Lo E e0.x.places e0.x.conn 0) ∧ Fr O w w0) := hide (by
    have h1 := (h.wl.below hb0).wide (O' := ext O w w0) (fun b ob => .inl ob) (fun b ob => by
      rcases ob with ob | ob
      · have := h.lt b ob; have := hb0.size; omega
      · exact ob.2)
    exact ⟨⟨h1.cell, h1.mw, h1.ln.eq (fun q _ => Lo_zero E _ _ q), h1.rows, h1.op, h1.ow, h1.ol, h1.oe, h1.lt, h1.ne, h1.nd, h1.ok, h1.le, h1.inc, h1.few⟩, Fr.of hb0⟩)
  have hbo : w0.cell? ⟨w.heap.size, 3, none⟩ = some (.slice (some ⟨e0.g, 0, none⟩) n n) := by
    rw [← hw0]
    exact cell_blk (heap_alloc_new _ _) 3
  have hT := h.few
  have HE := hide hm
  clear h he hok hn hb0 hm
  go_enter Try.func30, Try.ntmps30
  go_wp2_with fail
  go_loopw [21] (fun iv wr => ∃ i : Nat, iv = .int .i64 ((i : Nat) : Int) ∧ i ≤ n ∧ Hid (WL (ext O w wr) wr p bw bl T (64 * T) E (Lo E e0.x.places e0.x.conn i) ∧ Fr O w wr)) (fun iv _ => n - (intOf iv).toNat)
  case atStart => exact ⟨0, rfl, Nat.zero_le _, HS⟩
  case round =>
    clear HS hbo hr c1
    obtain ⟨i, rfl, hi, HC⟩ := hrel
    by_cases hin : i < n
    · have f1 : decide ((i : Int) < (n : Int)) = true := decide_eq_true (by omega)
      have g1 : (0 : Int) ≤ (i : Int) := by omega
      have g2 : (i : Int) < (n : Int) := by omega
      obtain ⟨x, hx⟩ : ∃ x, e0.x.places[i]? = some x := ⟨_, List.getElem?_eq_getElem (by have := unhide HN; omega)⟩
      have hxg : PGood x := (unhide HOK).places x (List.mem_of_getElem? hx)
      have hrow : RowP wr e0.g e0.x.places := (unhide HC).1.rows e0 (unhide HE)
      obtain ⟨c0, c1⟩ : wr.cell? ⟨e0.g, i * 2, none⟩ = some (.int .i64 x.1) ∧ wr.cell? ⟨e0.g, i * 2 + 1, none⟩ = some (.string (bs x.2)) := by
        rcases hrow.at with h | ⟨b, off, e, -, hc⟩
        · rw [h] at hx; simp at hx
        · cases e
          have := hc i x hx
          simpa using this
      have CL : Hid (Calls Try.prog 47 #[.pointer (some ⟨p, 0, none⟩), .agg #[.int .i64 x.1, .string (bs x.2)], .int .i64 (e0.x.conn : Nat)] (wr.alloc (.cells #[.int .i64 x.1, .string (bs x.2)] 46)) fun e w' => e = .returned (.tuple #[]) ∧ Hid (WL (ext O w w') w' p bw bl T (64 * T) E (Lo E e0.x.places e0.x.conn (i + 1)) ∧ Fr O w w')) := hide (by
        obtain ⟨A, AF⟩ := (unhide HC).1.on (unhide HC).2 ((Below.refl wr.heap.size wr).alloc (Nat.le_refl _) (.cells #[.int .i64 x.1, .string (bs x.2)] 46))
        refine (leave_any O w _ p bw bl T (64 * T) E _ x e0.x.conn A AF hxg.ok (by unfold maxLen; omega)).mono (fun e w' ⟨e1, e2⟩ => ⟨e1, hide ?_⟩)
        have h9 := unhide e2
        exact ⟨⟨h9.1.cell, h9.1.mw, h9.1.ln.eq (fun q _ => Lo_next E _ _ i x hx q), h9.1.rows, h9.1.op, h9.1.ow, h9.1.ol, h9.1.oe, h9.1.lt, h9.1.ne, h9.1.nd, h9.1.ok, h9.1.le, h9.1.inc, h9.1.few⟩, h9.2⟩)
      have d0 : (wr.alloc (.cells #[.int .i64 x.1, .string (bs x.2)] 46)).cell? ⟨wr.heap.size, 0, none⟩ = some (.int .i64 x.1) := cell_blk (heap_alloc_new _ _) 0
      have d1 : (wr.alloc (.cells #[.int .i64 x.1, .string (bs x.2)] 46)).cell? ⟨wr.heap.size, 1, none⟩ = some (.string (bs x.2)) := cell_blk (heap_alloc_new _ _) 1
      clear hx hxg hrow
      go_wp2_with (first
        | (go_at_call 47; with_reducible refine (unhide CL).mono ?_; rintro e w5 ⟨rfl, k5⟩))
      all_goals go_roundw
      case rel => exact ⟨i + 1, by go_num, by omega, k5⟩
      case measure => simp [intOf]; omega
    · obtain rfl : i = n := by omega
      have f1 : decide ((i : Int) < (i : Int)) = false := decide_eq_false (by omega)
      obtain ⟨-, c1, -⟩ := (unhide HC).1.c0
      obtain ⟨w2, r2, k2, kf⟩ := (unhide HC).1.gone (unhide HC).2 ((e0.x.conn : Nat) : Int) (WalkArith.wf_i64 (by omega)) 0
      have FIN : Hid (WAt (ext O w w2) w2 p bw bl T (goneE E (e0.x.conn : Nat)) ∧ Fr O w w2) := hide ⟨k2.at (fun q _ => Lo_all (unhide HE) (unhide HW).nd q i (Nat.le_of_eq (unhide HN).symm)) (Nat.le_refl _), kf⟩
      clear k2 kf HC
      go_wp2_with fail
      go_ret
      exact ⟨rfl, FIN⟩
theorem release_no (O : Nat → Prop) (w : World) (p bw bl T : Nat) (E : List En) (c : Int) (h : WAt O w p bw bl T E) (hc : IOk c) (he : lookE E c = none) :
    Calls Try.prog 30 #[.pointer (some ⟨p, 0, none⟩), .int .i64 c] w fun e w' => e = .returned (.bool false) ∧ Hid (WAt (ext O w w') w' p bw bl T E ∧ Fr O w w') := by
  obtain ⟨-, c1, -⟩ := h.c0
  have hr := h.mw.look_ok (t := 63) (e := 73) Try.underlying63 (zero68 w) (x := c) hc
  change (Instr.lookup 63 (.map (some bw)) (.int .i64 c) true).run Try.prog w = _ at hr
  rw [he] at hr
  change _ = Result.ok (Value.tuple #[.agg #[.int .i64 0, .int .u64 0, .int .i64 0, .slice none 0 0, .int .u64 0], .bool false]) w at hr
  obtain ⟨w0, hw0⟩ : ∃ w0, w.alloc (.cells #[.int .i64 0, .int .u64 0, .int .i64 0, .slice none 0 0, .int .u64 0] 73) = w0 := ⟨_, rfl⟩
  have hb0 : Below w.heap.size w w0 := by rw [← hw0]; exact (Below.refl _ _).alloc (Nat.le_refl _) _
  have hbo : w0.cell? ⟨w.heap.size, 3, none⟩ = some (.slice none 0 0) := by
    rw [← hw0]
    exact cell_blk (heap_alloc_new _ _) 3
  have h1 := (h.wl.below hb0).wide (O' := ext O w w0) (fun b ob => .inl ob) (fun b ob => by
    rcases ob with ob | ob
    · have := h.lt b ob; have := hb0.size; omega
    · exact ob.2)
  obtain ⟨w2, r2, k2, kf⟩ := h1.gone (Fr.of hb0) c hc 0
  rw [gone_none he] at k2
  have FIN : Hid (WAt (ext O w w2) w2 p bw bl T E ∧ Fr O w w2) := hide ⟨k2.at (fun q _ => rfl) (Nat.le_refl _), kf⟩
  obtain ⟨-, c2, -⟩ := h1.c0
  clear h he hb0 h1 k2 kf
  subst hw0
  go_enter Try.func30, Try.ntmps30
  go_wp2_with fail
  go_loopw [21] (fun iv wr => iv = .int .i64 0 ∧ Hid (wr = w.alloc (.cells #[.int .i64 0, .int .u64 0, .int .i64 0, .slice none 0 0, .int .u64 0] 73))) (fun iv _ => 0)
  case atStart => exact ⟨rfl, hide rfl⟩
  case round =>
    obtain ⟨rfl, hwr⟩ := hrel
    obtain rfl := (unhide hwr).symm
    go_wp2_with fail
    go_ret
    exact ⟨rfl, FIN⟩
end Go.Proofs.Ytfebiemfmiahhab
