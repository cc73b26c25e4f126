/- record: texts, lists, commands, entries written. -/
import Derived.Test.YtljeedgnjgeopaaSm
namespace Go.Proofs.Ytljeedgnjgeopaa
open Go.ChangeShapes Go.WideShapes Go.ChangeAt Go.RowKit
set_option linter.unusedVariables false
set_option linter.unusedSimpArgs false
set_option maxRecDepth 100000
set_option maxHeartbeats 4000000
/-- what a writer answers: a list in new memory -/
def WEnd (w0 W : World) (v : Value) (L : List Nat) (e : Ending) (W' : World) : Prop := ∃ a n c, e = .returned (.slice a n c) ∧ n = L.length ∧ Hid (Nw w0 W' (.slice a n c) ∧ RB W' (.slice a n c) L ∧ Gq W W' v (.slice a n c))
theorem w64 (w0 W : World) (v : Value) (l : List Nat) (n : Nat) (hn : n < 18446744073709551616) (hN : Nw w0 W v) (hr : RB W v l) (hl : l.length ≤ 1099511627776) : Calls Try.prog 43 #[v, .int .u64 (n : Nat)] W (WEnd w0 W v (l ++ Larder.bigN 8 n)) :=
  (add64 w0 W v l n hn hN hr hl).mono fun e W' ⟨a, c, h1, h2⟩ => ⟨a, _, c, h1, by rw [List.length_append, Larder.bigN_len], h2⟩
theorem w32 (w0 W : World) (v : Value) (l : List Nat) (n : Nat) (hn : n < 4294967296) (hN : Nw w0 W v) (hr : RB W v l) (hl : l.length ≤ 1099511627776) : Calls Try.prog 61 #[v, .int .u32 (n : Nat)] W (WEnd w0 W v (l ++ Larder.bigN 4 n)) :=
  (add32 w0 W v l n hn hN hr hl).mono fun e W' ⟨a, c, h1, h2⟩ => ⟨a, _, c, h1, by rw [List.length_append, Larder.bigN_len], h2⟩
theorem w8 (w0 W : World) (v : Value) (l : List Nat) (n : Nat) (hn : n < 256) (hN : Nw w0 W v) (hr : RB W v l) (hl : l.length ≤ 1099511627776) : Calls Try.prog 62 #[v, .int .u8 (n : Nat)] W (WEnd w0 W v (l ++ Larder.bigN 1 n)) :=
  (add8 w0 W v l n hn hN hr hl).mono fun e W' ⟨a, c, h1, h2⟩ => ⟨a, _, c, h1, by rw [List.length_append, Larder.bigN_len], h2⟩
def cellsB (t : List Nat) : List Value := t.map (fun c : Nat => Value.int .u8 (c : Int))
theorem cellsB_len (t : List Nat) : (cellsB t).length = t.length := by simp [cellsB]
theorem cellsB_get (t : List Nat) (j : Nat) (u : Value) (h : (cellsB t)[j]? = some u) : j < t.length ∧ u = .int .u8 (t.getD j 0 : Nat) := by
  have hj : j < t.length := by have := (List.getElem?_eq_some_iff.1 h).1; rwa [cellsB_len] at this
  refine ⟨hj, ?_⟩
  unfold cellsB at h
  rw [List.getElem?_map, List.getElem?_eq_getElem hj] at h
  rw [List.getD_eq_getElem?_getD, List.getElem?_eq_getElem hj]
  simpa using h.symm
theorem cellsB_one (t : List Nat) : ∀ u ∈ cellsB t, u.oneCell' = true := fun u hu => by
  obtain ⟨c, -, rfl⟩ := List.mem_map.1 hu
  rfl
theorem bytes_news {w : World} {a : Option Addr} {t : List Nat} (h : Bytes w a t) : ∀ ad, a = some ad → ∀ (j : Nat) (x : Value), (cellsB t)[j]? = some x → w.cell? (ad.add j) = some x := fun ad e j x hx => by
  obtain ⟨hj, rfl⟩ := cellsB_get t j x hx
  rcases h with h | ⟨b, off, e2, hl, hc⟩
  · rw [h] at hj; simp at hj
  · rw [e] at e2
    cases e2
    have e3 : (⟨b, off, none⟩ : Addr).add j = ⟨b, off + j, none⟩ := by unfold Addr.add; split <;> simp_all
    rw [e3]
    exact hc j hj
theorem RB.app {W' : World} {v' : Value} {l t : List Nat} {n : Nat} (hn : n = l.length) (h : Rws W' 5 1 v' (n + t.length) (fun k => if k < n * 1 then .int .u8 (l.getD k 0 : Nat) else (cellsB t).getD (k - n * 1) undef)) : RB W' v' (l ++ t) := by
  subst hn
  unfold RB
  rw [List.length_append]
  refine Rws.congr h (fun k hk => ?_)
  simp only [Nat.mul_one] at hk ⊢
  by_cases hk2 : k < l.length
  · rw [if_pos hk2, List.getD_eq_getElem?_getD, List.getD_eq_getElem?_getD, List.getElem?_append_left hk2]
  · rw [if_neg hk2, List.getD_eq_getElem?_getD (l := l ++ t), List.getElem?_append_right (by omega), List.getD_eq_getElem?_getD]
    unfold cellsB
    rw [List.getElem?_map, List.getElem?_eq_getElem (by omega)]
    rfl
theorem wtext (w0 W : World) (v : Value) (l : List Nat) (ta : Option Addr) (tn tc : Nat) (t : List Nat) (ht : Bytes w0 ta t) (htn : tn = t.length) (h4 : t.length ≤ 4096) (hN : Nw w0 W v) (hr : RB W v l) (hl : l.length ≤ 1000000000000) :
    Calls Try.prog 64 #[v, .slice ta tn tc] W (WEnd w0 W v (l ++ Larder.encT t)) := by
  obtain ⟨i0, hi0, hz0, hz1, hz2⟩ := info_parts4 info5
  have C61 := w32 w0 W v l tn (by omega) hN hr (by omega)
  have q1 : IntKind.u32.wrap (tn : Int) = (tn : Int) := by rw [IntKind.wrap_u32]; omega
  have q2 : (tn : Int) % 4294967296 = (tn : Int) := by omega
  have HT := hide ht
  have HTN := hide htn
  have hn4 : tn ≤ 4096 := by omega
  have hnil : ta = none → tn = 0 := fun e => by
    rcases ht with h | ⟨b, off, e2, -⟩
    · rw [htn, h]; rfl
    · rw [e] at e2; cases e2
  have HNIL := hide hnil
  have hL1 : (l ++ Larder.bigN 4 tn).length ≤ 1000000000004 := by rw [List.length_append, Larder.bigN_len]; omega
  have HE : Hid ((l ++ Larder.bigN 4 tn) ++ t = l ++ Larder.encT t) := hide (by rw [htn, List.append_assoc]; rfl)
  generalize l ++ Larder.bigN 4 tn = L at C61 hL1 HE
  clear ht htn h4 hN hr hl hnil
  unfold WEnd at C61 ⊢
  go_enter Try.func64, Try.ntmps64
  go_wp2_with (first
    | (go_at_call 61; refine C61.mono ?_; clear C61; rintro e w1 ⟨a1, n1, c1, rfl, e1, k1⟩; replace e1 := hide e1; have hn1 : n1 ≤ 1000000000004 := (by rw [unhide e1]; exact hL1); have R1 : Hid (Rws w1 5 1 (.slice a1 n1 c1) n1 (fun j => .int .u8 (L.getD j 0 : Nat))) := hide (by have := (unhide k1).2.1; unfold RB at this; rw [← unhide e1] at this; exact this); have B1 := hide ((unhide HT).below' (unhide k1).1.bel))
    | (at_builtin; refine append_gen rfl _ _ 27 rfl 5 i0 _ 1 1 Try.underlying27 hi0 hz0 hz1 hz2 rfl (.slice a1 n1 c1) n1 (fun j => .int .u8 (L.getD j 0 : Nat)) rfl (unhide R1) ta tn tc rfl (cellsB t) (by rw [cellsB_len, unhide HTN]; omega) (unhide HNIL) (bytes_news (unhide B1)) (cellsB_one t) (by omega) (by unfold maxLen; omega) ?_; intro v5 w5 h5 k5; obtain ⟨a5, c5, rfl⟩ := h5.shape; have N5 := hide ((unhide k1).1.ga k5); have G5 := hide ((unhide k1).2.2.ga (Below.refl _ _) k5); have R5 : Hid (RB w5 (.slice a5 (n1 + tn) c5) (L ++ t)) := hide (RB.app (unhide e1) (by rw [← unhide HTN]; exact h5)); clear h5 k5; go_frame))
  go_ret
  exact ⟨a5, n1 + tn, c5, rfl, by rw [← unhide HE, List.length_append, unhide e1, unhide HTN], hide ⟨unhide N5, (by rw [← unhide HE]; exact unhide R5), unhide G5⟩⟩
end Go.Proofs.Ytljeedgnjgeopaa
