/- WireBack: fit, whole; what the law asks of the other calls. -/
import Derived.Test.YtfgemcmiilbodaaDoorBkf
import Derived.Test.YtfgemcmiilbodaaDoorTkd
namespace Go.Proofs.YtfgemcmiilbodaaDoor
open Go.ChangeShapes Go.WideShapes Go.ChangeAt Go.RowKit
set_option linter.unusedVariables false
set_option linter.unusedSimpArgs false
set_option maxRecDepth 100000
set_option maxHeartbeats 4000000

theorem fitr_any : ∀ (d : Nat) (x : Tr d) (w0 w : World) (m : Nat) (v0 v1 v2 v3 : Value), RpAt w0 d x v0 v1 v2 v3 → Below w0.heap.size w0 w → m ≤ 8 → Calls Tryd.prog 10 #[.agg #[v0, v1, v2, v3], .int .i64 ((8 - m : Nat) : Int)] w (FtEnd w m (fitT d x m))
  | 0, _, _, _, _, _, _, _, _, h, _, _ => absurd h id
  | d + 1, x, w0, w, m, v0, v1, v2, v3, hr, hw, hm => by
    obtain ⟨⟨rfl, -⟩, ⟨rfl, -⟩, ⟨ta, tc, rfl, hB, hS, htn, htc⟩, la, lc, rfl, hln, hat⟩ := hr
    unfold fitT
    by_cases h1 : x.nd.k = 1
    · rw [if_pos (.inl h1), h1]
      exact ft_line1 w0 w m _ ta _ tc la _ lc _ x.nd.t hB hS rfl htn hw
    by_cases h2 : x.nd.k = 2
    · rw [if_pos (.inr h2), h2]
      exact ft_line2 w0 w m _ ta _ tc la _ lc _ x.nd.t hB hS rfl htn hw
    rw [if_neg (fun e => e.elim h1 h2)]
    by_cases h3 : x.nd.k = 3
    · rw [if_pos h3, h3]
      exact ft_num w m _ ta _ tc la _ lc _
    rw [if_neg h3]
    by_cases h4 : x.nd.k = 4
    · rw [if_pos h4, h4]
      cases ta with
      | none =>
        have hT : x.nd.t = [] := by
          rcases hB with e | ⟨b, off, e, _⟩
          · exact e
          · cases e
        rw [hT]
        exact ft_none w m _ tc la _ lc _
      | some y =>
        by_cases hc : x.nd.t.length ≤ 4096
        · rw [List.take_of_length_le hc]
          exact ft_bulk w0 w m _ _ tc la _ lc _ y x.nd.t hB hS rfl htn hw hc
        · exact ft_long w0 w m _ _ tc la _ lc _ y x.nd.t hB hS rfl htn hw (by omega)
    rw [if_neg h4]
    by_cases h6 : x.nd.k = 6
    · rw [if_pos h6, h6]
      cases m with
      | zero => exact ft_deep w 0 _ ta _ tc la _ lc _ (by decide)
      | succ m =>
        refine ft_list w0 w d m x.nd.l _ ta _ tc la _ lc (8 - (m + 1)) (by omega) hat rfl hln hw (fun W y u0 u1 u2 u3 hy hr hb => ?_)
        have := fitr_any d y w0 W m u0 u1 u2 u3 hr hb (by omega)
        rw [show (((8 - (m + 1) : Nat) : Int) + 1) = ((8 - m : Nat) : Int) by omega]
        exact this
    rw [if_neg h6]
    by_cases h7 : x.nd.k = 7
    · rw [if_pos h7, h7]
      exact ft_narr w m _ ta _ tc la _ lc _
    rw [if_neg h7]
    exact ft_nil w m _ _ ta _ tc la _ lc _ (by rw [beq_eq_false_iff_ne]; exact h1) (by rw [beq_eq_false_iff_ne]; exact h2) (by rw [beq_eq_false_iff_ne]; exact h3) (by rw [beq_eq_false_iff_ne]; exact h4) (by rw [beq_eq_false_iff_ne]; exact h6) (by rw [beq_eq_false_iff_ne]; exact h7)
/-- what was appended to still reads as it did -/
theorem Gr.keeps {e : TypeId} {s n m : Nat} {w w' : World} {v v' : Value} {f : Nat → Value} (h : Gr e (n * s) m w w' v v') (hR : Rws w e s v n f) : Rws w' e s v n f := by
  rcases hR with q | ⟨g, cap, cur, rfl, hg, hn, hm, hs, hh⟩
  · exact .inl q
  · rcases h.how with ⟨g', c1, c2, e1, e2, b1, b2, hsz, hkeep, hs2, hoth⟩ | ⟨e2, hs2, hoth⟩
    · simp [Value.ownBlock] at e1
      subst e1
      rw [hg] at b1
      cases b1
      exact .inr ⟨g, cap, c2, rfl, b2, hn, hm, by omega, fun k hk => by rw [hkeep k (.inl hk)]; exact hh k hk⟩
    · exact .inr ⟨g, cap, cur, rfl, (hoth g (block_lt hg)).trans hg, hn, hm, hs, hh⟩
theorem run_append_keep {P : Program} {w : World} (ty t : TypeId) (i : TypeInfo) (ht : P.underlying t = some (.slice 5)) (hi : P.info? 5 = some i) (hz : i.zero = some (.int .u8 0)) (hsize : i.size = 1) (hby : i.bytes = 1)
    (v : Value) (n : Nat) (f : Nat → Value) (h : Rws w 5 1 v n f) (a : Option Addr) (c : Nat) (l : List Nat) (hB : Bytes w a l) (hn : n + l.length ≤ 140737488355328) :
    ∃ v' w', (Builtin.append_ #[t, t] ty #[v, .slice a l.length c]).run P w = .ok v' w' ∧ Rws w' 5 1 v' (n + l.length) (fun k => if k < n then f k else byV l (k - n)) ∧ Gw w w' v v' ∧ Rws w' 5 1 v n f := by
  rcases List.eq_nil_or_concat l with rfl | hl
  · obtain ⟨d, cap, rfl⟩ := h.shape
    have hc : n ≤ cap := by
      rcases h with ⟨e, h0⟩ | ⟨b, c2, cur, e, _, h2, _⟩
      · omega
      · cases e; exact h2
    refine ⟨_, _, run_append_zero ty t 5 i ht hi d n cap hc a c, ?_, Gw.refl _ _, h⟩
    exact h.congr (fun k hk => by rw [if_pos (by omega)])
  · have hp : 0 < l.length := by obtain ⟨L, b, rfl⟩ := hl; simp
    rcases hB with rfl | ⟨b, off, rfl, hb, hc⟩
    · simp at hp
    · obtain ⟨v', w', r1, r2, r3⟩ := run_append_rws_at (P := P) (w := w) ty t 5 i (.int .u8 0) 1 1 ht hi hz hsize hby rfl 5 v n f h (.inl rfl) ⟨b, off, none⟩ l.length c (cellsOf l) hp (by unfold cellsOf; simp) (fun j x hx => by
        have hj : j < l.length := by have := (List.getElem?_eq_some_iff.1 hx).1; simpa [cellsOf] using this
        rw [add_plain, hc j hj]
        unfold cellsOf at hx
        rw [List.getElem?_map, List.getElem?_eq_getElem hj] at hx
        rw [List.getD_eq_getElem?_getD, List.getElem?_eq_getElem hj]
        exact hx) (fun x hx => by
        unfold cellsOf at hx
        obtain ⟨y, _, rfl⟩ := List.mem_map.1 hx
        rfl) (by omega) (by omega)
      refine ⟨v', w', r1, r2.congr (fun k hk => ?_), r3.gw, r3.keeps h⟩
      by_cases q : k < n
      · rw [if_pos (by omega), if_pos q]
      · rw [if_neg (by omega), if_neg q]
        have hj : k - n * 1 < l.length := by omega
        unfold cellsOf byV
        rw [List.getD_eq_getElem?_getD, List.getElem?_map, List.getElem?_eq_getElem hj, List.getD_eq_getElem?_getD, show k - n = k - n * 1 by omega, List.getElem?_eq_getElem hj]
        rfl
theorem append_keep {P : Program} {w : World} {ops : Array Oper} {rest : List Oper} {o : Oper} {act : Act} {Q : Exit → Act → World → Prop} (hgd : o.guard = none) (so x : Operand) (t : TypeId) (ho : o.op = .call { callee := .builtin .append, args := #[so, x], argTypes := #[t, t] })
    (i : TypeInfo) (ht : P.underlying t = some (.slice 5)) (hi : P.info? 5 = some i) (hz : i.zero = some (.int .u8 0)) (hsize : i.size = 1) (hby : i.bytes = 1)
    (v : Value) (n : Nat) (f : Nat → Value) (hs : act.eval so = v) (h : Rws w 5 1 v n f) (a : Option Addr) (c : Nat) (l : List Nat) (hx : act.eval x = .slice a l.length c) (hB : Bytes w a l) (hn : n + l.length ≤ 140737488355328)
    (hk : ∀ v' w', Rws w' 5 1 v' (n + l.length) (fun k => if k < n then f k else byV l (k - n)) → Gw w w' v v' → Rws w' 5 1 v n f → wpList P ops Q rest (act.put o.dst v') w') : wpList P ops Q (o :: rest) act w := by
  refine wpList_plain hgd fun _ hK => ?_
  obtain ⟨v', w', hr, h2, h3, h4⟩ := run_append_keep (P := P) (w := w) o.type t i ht hi hz hsize hby v n f h a c l hB hn
  exact wp_appended so x t ho _ _ hs hx _ _ hr (hK _ _ (hk v' w' h2 h3 h4))
/-- EqReply of two empty replies -/
theorem eqr_zero (w : World) (tc lc : Nat) : Calls Tryd.prog 11 #[.agg #[.int .i64 0, .int .i64 0, .slice none 0 tc, .slice none 0 lc], .agg #[.int .i64 0, .int .i64 0, .slice none 0 0, .slice none 0 0]] w fun e w' => e = .returned (.bool true) ∧ Hid (Below w.heap.size w w') :=
  eqr_walk w 0 0 none none none none 0 tc 0 0 lc 0 (by omega) (by omega) (hide (fun W hW => by
    have h := cmp_any (w := W) (a := none) (b := none) (c1 := tc) (c2 := 0) (la := []) (lb := []) (by simp) (by simp) (.inl rfl) (.inl rfl)
    exact h.mono (fun e w' k => ⟨k.1, hide k.2.below⟩))) (hide (fun i hi => absurd hi (by omega)))
/-- Decode of a beginning: nothing -/
theorem dec_zero {w : World} {a : Option Addr} {n cp : Nat} {T : List Nat} (h : DecIn w a n cp T) (hU : UOk w) (hP : repP 9 T = .short) :
    Calls Tryd.prog 5 #[.slice a n cp] w fun e w' => ∃ (tc lc : Nat), e = .returned (.tuple #[.agg #[.int .i64 0, .int .i64 0, .slice none 0 tc, .slice none 0 lc], .int .i64 0, .int .i64 86]) ∧ Hid (Below w.heap.size w w') := by
  refine (wdecode_any w a n cp T hU h.by' h.sm h.len h.le h.top h.few h.lt hU.2.2).mono ?_
  rintro e w' ⟨k0, k1, ta, tn, tc, la, ln, lc, N, rfl, hh⟩
  obtain ⟨h1, h2, h3⟩ := unhide hh
  obtain ⟨rfl, rfl, rfl, rfl, rfl, rfl, rfl⟩ := h3 (fun x r e => by rw [hP] at e; cases e)
  rw [hP]
  exact ⟨tc, lc, rfl, hide h1⟩
end Go.Proofs.YtfgemcmiilbodaaDoor
