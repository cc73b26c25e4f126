/- The document's Block. -/
import Derived.Test.YtfebiemfmiahhabMe
namespace Go.Proofs.Ytfebiemfmiahhab
open Go.ChangeShapes Go.WideShapes Go.ChangeAt Go.RowKit Go.Maps
set_option linter.unusedVariables false
set_option linter.unusedSimpArgs false
set_option maxRecDepth 100000
set_option maxHeartbeats 8000000
def firstP (l : List Pl) : Pl := (l[0]?).getD (0, [])
theorem results_box1 {P : Program} {fn : Func} {p : Tmp} {ty : TypeId} (h : fn.results = #[.cell p ty]) (tmps : Array Value) (w : World) (g : Nat) (t : TypeId) (cs : Array Value) (fr : Nat × Nat) (d : TypeDesc)
    (hp : tmps.getD p undef = .pointer (some ⟨g, 0, none⟩)) (hg : w.heap[g]? = some (.cells cs t fr))
    (hu : P.underlying ty = some d) (hd : (match d with | .struct _ | .array _ _ => true | _ => false) = true) (hi : (P.info? ty).map (·.size) = some cs.size) :
    (results fn tmps).run P w = .ok (.agg cs) w := by
  have hp' : tmps[p]?.getD undef = .pointer (some ⟨g, 0, none⟩) := by simpa using hp
  simp [results, h, hp', asAddr, run_loadVar_row w g t ty cs fr d hg hu hd hi]
theorem place_any (w : World) (o : Ol) (n : Nat) (hn : n = o.pl.length) (h : PlsAt w o.a o.pl) :
    Calls Try.prog 32 #[.agg #[.int .i64 o.on, .int .i64 o.act, .int .i64 o.conn, .int .i64 o.kind, .slice o.a n o.cap, .int .u64 (o.time : Nat)]] w fun e w' => e = .returned (.agg #[.int .i64 (firstP o.pl).1, .string (bs (firstP o.pl).2)]) ∧ Hid (Below w.heap.size w w') := by
  obtain ⟨w1, hw1⟩ : ∃ w1, w.alloc (.cells #[.int .i64 o.on, .int .i64 o.act, .int .i64 o.conn, .int .i64 o.kind, .slice o.a n o.cap, .int .u64 (o.time : Nat)] 41) = w1 := ⟨_, rfl⟩
  have hb1 : Below w.heap.size w w1 := by rw [← hw1]; exact (Below.refl _ _).alloc (Nat.le_refl _) _
  have hb2 : Below w1.heap.size w1 (w1.alloc (.cells #[.int .i64 0, .string { data := #[] }] 46)) := (Below.refl _ _).alloc (Nat.le_refl _) _
  have q0 : w1.heap[w.heap.size]? = some (.cells #[.int .i64 o.on, .int .i64 o.act, .int .i64 o.conn, .int .i64 o.kind, .slice o.a n o.cap, .int .u64 (o.time : Nat)] 41 (0, 0)) := by rw [← hw1]; exact heap_alloc_new _ _
  have q1 : (w1.alloc (.cells #[.int .i64 0, .string { data := #[] }] 46)).cell? ⟨w.heap.size, 4, none⟩ = some (.slice o.a n o.cap) := (hb2.cell (p := ⟨w.heap.size, 4, none⟩) (blk_lt q0)).trans (cell_blk q0 4)
  have HB1 := hide hb1
  have HB2 : Hid (∀ x, Below w.heap.size w (w1.alloc (.cells x 46))) := hide fun x => hb1.alloc hb1.size _
  by_cases h0 : o.pl = []
  · have hf : firstP o.pl = (0, []) := by rw [h0]; rfl
    rw [hf]
    obtain rfl : n = 0 := by rw [hn, h0]; rfl
    clear hn h h0 hf hb1 hb2 q0
    go_enter Try.func32, Try.ntmps32
    go_wp2_with fail
    refine bodyPost_ret (results_box1 (p := 2) (ty := 46) rfl _ _ w1.heap.size 46 _ (0, 0) _ rfl (heap_alloc_new _ _) Try.underlying46 rfl (by kernel_rfl)) rfl ?_
    exact ⟨rfl, hide (unhide HB2 _)⟩
  · obtain ⟨x, hx⟩ : ∃ x, o.pl[0]? = some x := ⟨_, List.getElem?_eq_getElem (List.length_pos_iff.2 h0)⟩
    have hf : firstP o.pl = x := by unfold firstP; rw [hx]; rfl
    rw [hf]
    have hpos : 0 < n := by rw [hn]; exact List.length_pos_iff.2 h0
    obtain ⟨b, off, ha, y0, y1⟩ : ∃ b off, o.a = some ⟨b, off, none⟩ ∧ (w1.alloc (.cells #[.int .i64 0, .string { data := #[] }] 46)).cell? ⟨b, off, none⟩ = some (.int .i64 x.1) ∧ (w1.alloc (.cells #[.int .i64 0, .string { data := #[] }] 46)).cell? ⟨b, off + 1, none⟩ = some (.string (bs x.2)) := by
      rcases (h.below hb1).below hb2 with h0 | ⟨pb, po, e, hlt, hc⟩
      · rw [h0] at hx; simp at hx
      · have := hc 0 x hx
        exact ⟨pb, po, e, by simpa using this.1, by simpa using this.2⟩
    rw [ha] at q1 hw1 ⊢
    have e0 : ((n : Int) == 0) = false := by simp; omega
    have g2 : (0 : Int) < (n : Int) := by omega
    clear hn h h0 hf hb1 hx ha hb2 q0
    go_enter Try.func32, Try.ntmps32
    go_wp2_with fail
    refine bodyPost_ret (results_box1 (p := 2) (ty := 46) rfl _ _ w1.heap.size 46 _ (0, 0) _ rfl (heap_alloc_new _ _) Try.underlying46 rfl (by kernel_rfl)) rfl ?_
    exact ⟨rfl, hide (unhide HB2 _)⟩
/-- the same places -/
theorem same_any (W : World) (a a' : Option Addr) (n c c' : Nat) (l : List Pl) (h : PlsAt W a l) (h' : PlsAt W a' l) (hn : n = l.length) (hn2 : n ≤ 1000000) :
    Calls Try.prog 14 #[.slice a n c, .slice a' n c'] W fun e w' => e = .returned (.bool true) ∧ Hid (Below W.heap.size W w') := by
  have HN := hide hn
  clear hn
  go_enter Try.func14, Try.ntmps14
  go_wp2_with fail
  go_loopw [5] (fun iv wr => ∃ i : Nat, iv = .int .i64 ((i : Nat) : Int) ∧ i ≤ n ∧ Hid (Below W.heap.size W wr)) (fun iv _ => n - (intOf iv).toNat)
  case atStart => exact ⟨0, rfl, Nat.zero_le _, hide (Below.refl _ _)⟩
  case round =>
    obtain ⟨i, rfl, hi, HB⟩ := hrel
    by_cases hin : i < n
    · have f1 : decide ((i : Int) < (n : Int)) = true := decide_eq_true (by omega)
      have g1 : (0 : Int) ≤ (i : Int) := by omega
      have g2 : (i : Int) < (n : Int) := by omega
      obtain ⟨x, hx⟩ : ∃ x, l[i]? = some x := ⟨_, List.getElem?_eq_getElem (by have := unhide HN; omega)⟩
      obtain ⟨b, off, rfl, c0, c1⟩ : ∃ b off, a = some ⟨b, off, none⟩ ∧ wr.cell? ⟨b, off + i * 2, none⟩ = some (.int .i64 x.1) ∧ wr.cell? ⟨b, off + i * 2 + 1, none⟩ = some (.string (bs x.2)) := by
        rcases h.below (unhide HB) with h0 | ⟨pb, po, e, hlt, hc⟩
        · rw [h0] at hx; simp at hx
        · exact ⟨pb, po, e, hc i x hx⟩
      obtain ⟨b', off', rfl, d0, d1⟩ : ∃ b off, a' = some ⟨b, off, none⟩ ∧ wr.cell? ⟨b, off + i * 2, none⟩ = some (.int .i64 x.1) ∧ wr.cell? ⟨b, off + i * 2 + 1, none⟩ = some (.string (bs x.2)) := by
        rcases h'.below (unhide HB) with h0 | ⟨pb, po, e, hlt, hc⟩
        · rw [h0] at hx; simp at hx
        · exact ⟨pb, po, e, hc i x hx⟩
      have f2 : (x.1 != x.1) = false := by simp
      have f3 : ((bs x.2).toList != (bs x.2).toList) = false := by simp
      have f4 : ((bs x.2).toList == (bs x.2).toList) = true := by simp
      clear hx h h'
      go_wp2_with fail
      go_quiet (fail)
      go_wp2_with fail
      refine ⟨⟨i + 1, congrArg (Value.int .i64) (by omega), by omega, hide (below_drewN (unhide HB) _)⟩, by simp [intOf]; omega⟩
    · obtain rfl : i = n := by omega
      have f1 : decide ((i : Int) < (i : Int)) = false := decide_eq_false (by omega)
      clear h h'
      go_wp2_with fail
      go_ret
      exact ⟨rfl, HB⟩
end Go.Proofs.Ytfebiemfmiahhab
namespace Go.Proofs.Ytfebiemfmiahhab
open Go.ChangeShapes Go.WideShapes Go.ChangeAt Go.RowKit Go.Maps
set_option linter.unusedVariables false
set_option linter.unusedSimpArgs false
set_option maxRecDepth 100000
set_option maxHeartbeats 8000000
def refW (L : List Wt) (c k : Int) (l : List Pl) (t : Nat) : Int := if c < 0 ∨ 8 ≤ c then 180 else if (lookW L c).isSome then 181 else if k ≠ 2 ∧ k ≠ 5 then 184 else if badB l = true then 182 else if 4503599627370496 < t then 183 else 0
theorem refR_map (E : List En) (c k : Int) (l : List Pl) (t : Nat) : refR E c k l t = refW (E.map (·.x)) c k l t := by
  unfold refR refW badB
  rw [← lookE_map]
  simp only [Option.isSome_map, decide_eq_true_eq]
theorem find_lt {L : List Wt} {c : Int} : decide (findI L c < 0) = !(lookW L c).isSome ∧ decide ((0 : Int) ≤ findI L c) = (lookW L c).isSome := by
  cases hf : findW L c with
  | none => rw [find_nolook hf]; unfold findI; rw [hf]; exact ⟨by decide, by decide⟩
  | some i =>
    obtain ⟨x, -, hl, -⟩ := find_look hf
    rw [hl]; unfold findI; rw [hf]
    exact ⟨decide_eq_false (by show ¬ ((i : Int) < 0); omega), decide_eq_true (by show (0 : Int) ≤ (i : Int); omega)⟩
theorem rblock_no (Q : Nat → Prop) (w : World) (p : Nat) (L : List Wt) (c k : Int) (a : Option Addr) (n cap : Nat) (l : List Pl) (t : Nat) (h : RAt Q w p L) (hl : PlsAt w a l) (hn : n = l.length) (hll : n ≤ 9223372036854775807) (hok : ∀ x ∈ l, POk x) (hr : refW L c k l t ≠ 0) :
    Calls Try.prog 13 #[.pointer (some ⟨p, 0, none⟩), .int .i64 c, .int .i64 k, .slice a n cap, .int .u64 (t : Nat)] w fun e w' => e = .returned (.int .i64 (refW L c k l t)) ∧ w' = w := by
  have C1 := find_any Q w p L c h
  have C2 := bad_any w a cap l n hn hll hl hok
  obtain ⟨fi, hfi⟩ : ∃ fi, fi = findI L c := ⟨_, rfl⟩
  have hf := (find_lt (L := L) (c := c)).2
  rw [← hfi] at C1 hf
  obtain ⟨B, hB⟩ : ∃ B, B = badB l := ⟨_, rfl⟩
  rw [← hB] at C2
  obtain ⟨s, hs⟩ : ∃ s, s = (lookW L c).isSome := ⟨_, rfl⟩
  rw [← hs] at hf
  unfold refW at hr ⊢
  rw [← hs, ← hB] at hr ⊢
  clear hs hB hfi hl h hn hok
  by_cases h1 : c < 0
  · have f1 : decide (c < 0) = true := decide_eq_true h1
    rw [if_pos (.inl h1)]
    clear hr hf
    go_enter Try.func13, Try.ntmps13
    go_wp2_with fail
    go_ret
    exact ⟨rfl, rfl⟩
  have f1 : decide (c < 0) = false := decide_eq_false h1
  by_cases h2 : 8 ≤ c
  · have f2 : decide ((8 : Int) ≤ c) = true := decide_eq_true h2
    rw [if_pos (.inr h2)]
    clear hr hf
    go_enter Try.func13, Try.ntmps13
    go_wp2_with fail
    go_ret
    exact ⟨rfl, rfl⟩
  have f2 : decide ((8 : Int) ≤ c) = false := decide_eq_false h2
  rw [if_neg (by omega)] at hr ⊢
  cases s with
  | true =>
    rw [if_pos rfl]
    clear hr
    go_enter Try.func13, Try.ntmps13
    go_wp2_with (go_at_call 39; refine C1.mono ?_; clear C1; rintro e w1 ⟨rfl, rfl⟩)
    go_ret
    exact ⟨rfl, rfl⟩
  | false =>
  rw [if_neg (by simp)] at hr ⊢
  by_cases h3 : k ≠ 2 ∧ k ≠ 5
  · rw [if_pos h3]
    have f3 : (k != 2) = true := by simpa using h3.1
    have f4 : (k != 5) = true := by simpa using h3.2
    clear hr h3
    go_enter Try.func13, Try.ntmps13
    go_wp2_with (go_at_call 39; refine C1.mono ?_; clear C1; rintro e w1 ⟨rfl, rfl⟩)
    go_ret
    exact ⟨rfl, rfl⟩
  rw [if_neg h3] at hr ⊢
  have h3' : k = 2 ∨ k = 5 := by omega
  clear h3
  cases B with
  | true =>
    rw [if_pos rfl]
    clear hr
    rcases h3' with rfl | rfl
    all_goals go_enter Try.func13, Try.ntmps13
    all_goals go_wp2_with (first | (go_at_call 39; refine C1.mono ?_; clear C1; rintro e w1 ⟨rfl, rfl⟩) | (go_at_call 40; refine C2.mono ?_; clear C2; rintro e w2 ⟨rfl, rfl⟩))
    all_goals go_ret
    all_goals exact ⟨rfl, rfl⟩
  | false =>
  rw [if_neg (by simp)] at hr ⊢
  by_cases h4 : 4503599627370496 < t
  · rw [if_pos h4]
    have f5 : decide ((4503599627370496 : Int) < (t : Int)) = true := decide_eq_true (by omega)
    clear hr h4
    rcases h3' with rfl | rfl
    all_goals go_enter Try.func13, Try.ntmps13
    all_goals go_wp2_with (first | (go_at_call 39; refine C1.mono ?_; clear C1; rintro e w1 ⟨rfl, rfl⟩) | (go_at_call 40; refine C2.mono ?_; clear C2; rintro e w2 ⟨rfl, rfl⟩))
    all_goals go_ret
    all_goals exact ⟨rfl, rfl⟩
  rw [if_neg h4] at hr
  exact absurd rfl hr
end Go.Proofs.Ytfebiemfmiahhab
