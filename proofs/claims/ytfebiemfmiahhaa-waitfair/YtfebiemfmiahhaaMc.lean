/- The document's Waiting, Places. -/
import Derived.Test.YtfebiemfmiahhaaMb
namespace Go.Proofs.Ytfebiemfmiahhaa
open Go.ChangeShapes Go.WideShapes Go.ChangeAt Go.RowKit Go.Maps
set_option linter.unusedVariables false
set_option linter.unusedSimpArgs false
set_option maxRecDepth 100000
set_option maxHeartbeats 8000000
def iC (x : Nat) : List Value := [.int .i64 (x : Nat)]
theorem infoI : (Try.prog.info? 3).map (fun i => (i.zero, i.size, i.bytes)) = some (some (.int .i64 0), 1, 8) := by kernel_rfl
theorem cell_one_new (w : World) (a : Value) (t : TypeId) : ∀ j u, [a][j]? = some u → (w.alloc (.cells #[a] t)).cell? ((⟨w.heap.size, 0, none⟩ : Addr).add j) = some u := by
  intro j u hj
  have h := heap_alloc_new w (.cells #[a] t)
  match j, hj with
  | 0, hj => rw [show ((⟨w.heap.size, 0, none⟩ : Addr).add 0) = ⟨w.heap.size, 0, none⟩ from by simp [Addr.add], cell_blk h]; simpa using hj
/-- a row of numbers that was answered -/
theorem own_ints {w : World} {base n : Nat} {v : Value} {l : List Nat} (h : w.ownsRow base 3 1 v n (l.flatMap iC)) : ∃ a cap, v = .slice a n cap ∧ IsI w a l := by
  obtain ⟨a, cap, rfl, -⟩ := own_shape h
  refine ⟨a, cap, rfl, ?_⟩
  by_cases h0 : l = []
  · exact .inl h0
  · have g := fun i x (hx : l[i]? = some x) => flat_get iC 1 (fun _ => rfl) l i x hx 0 (by omega)
    obtain ⟨x0, hx0⟩ : ∃ x, l[0]? = some x := ⟨_, List.getElem?_eq_getElem (List.length_pos_iff.2 h0)⟩
    obtain ⟨b, cp, e, -, hlt⟩ := own_cell h (g 0 x0 hx0)
    cases e
    refine .inr ⟨b, 0, rfl, hlt, fun i x hx => ?_⟩
    obtain ⟨b1, cp1, e1, d0, -⟩ := own_cell h (g i x hx)
    cases e1
    simpa using d0
theorem rwaiting_any (Q : Nat → Prop) (w : World) (p : Nat) (L : List Wt) (h : RAt Q w p L) :
    Calls Try.prog 54 #[.pointer (some ⟨p, 0, none⟩)] w fun e w' => ∃ v, e = .returned v ∧ Hid (w'.ownsRow w.heap.size 3 1 v L.length ((L.map (·.conn)).flatMap iC) ∧ Below w.heap.size w w') := by
  obtain ⟨lv, D, h, hD⟩ := h
  obtain ⟨a, cap, rfl, -⟩ := own_shape h.own
  have few := h.few
  obtain ⟨n, hn⟩ : ∃ n, n = D.length := ⟨_, rfl⟩
  have hp := h.cell
  have HR : Hid (∀ i x, L[i]? = some x → ∃ b, a = some ⟨b, 0, none⟩ ∧ b < w.heap.size ∧ w.cell? ⟨b, i * 4, none⟩ = some (.int .i64 (x.conn : Nat))) := hide fun i x hx => by
    rw [← hD, List.getElem?_map] at hx
    obtain ⟨d, hd, rfl⟩ := Option.map_eq_some_iff.1 hx
    obtain ⟨b, cp, e, c0, -⟩ := h.at hd
    cases e
    exact ⟨b, rfl, h.lt b (h.lq b rfl), c0⟩
  rw [← hn] at hp few
  have HN : Hid (n = L.length) := by rw [← hD, List.length_map]; exact hide hn
  have c0 : w.cell? ⟨p, 0, none⟩ = some (.slice a n cap) := cell_blk hp 0
  have hpl : p < w.heap.size := blk_lt hp
  obtain ⟨i0, hi0, hzz⟩ := Option.map_eq_some_iff.1 infoI
  simp only [Prod.mk.injEq] at hzz
  obtain ⟨hz0, hz1, hz2⟩ := hzz
  clear hn hp h hD
  go_enter Try.func54, Try.ntmps54
  go_wp2_with fail
  go_loopw [3, 4] (fun v iv wr => ∃ i : Nat, iv = .int .i64 ((i : Nat) : Int) ∧ i ≤ n ∧ Hid (wr.ownsRow w.heap.size 3 1 v i (((L.take i).map (·.conn)).flatMap iC) ∧ Below w.heap.size w wr)) (fun _ iv _ => n - (intOf iv).toNat)
  case atStart => exact ⟨0, rfl, Nat.zero_le _, hide ⟨⟨by simp, .inl ⟨rfl, rfl⟩⟩, Below.refl _ _⟩⟩
  case round =>
    obtain ⟨i, rfl, hi, HO⟩ := hrel
    have cr : wr.cell? ⟨p, 0, none⟩ = some (.slice a n cap) := ((unhide HO).2.cell (p := ⟨p, 0, none⟩) hpl).trans c0
    by_cases hin : i < n
    · have f1 : decide ((i : Int) < (n : Int)) = true := decide_eq_true (by omega)
      have g1 : (0 : Int) ≤ (i : Int) := by omega
      have g2 : (i : Int) < (n : Int) := by omega
      obtain ⟨x, hx⟩ : ∃ x, L[i]? = some x := ⟨_, List.getElem?_eq_getElem (by have := unhide HN; omega)⟩
      obtain ⟨b, rfl, hbl, y0⟩ := unhide HR i x hx
      have y1 : wr.cell? ⟨b, i * 4, none⟩ = some (.int .i64 (x.conn : Nat)) := ((unhide HO).2.cell (p := ⟨b, i * 4, none⟩) hbl).trans y0
      have HX := hide hx
      clear hx y0
      have hrw : (wr.alloc (.cells #[.int .i64 (x.conn : Nat)] 3)).ownsRow w.heap.size 3 1 u3 i (((L.take i).map (·.conn)).flatMap iC) := World.ownsRow.alloc (unhide HO).1 _
      have hsz : w.heap.size ≤ wr.heap.size := (unhide HO).2.size
      go_wp2_with (first
        | (at_builtin; refine wpList_append_own _ rfl _ _ 32 rfl _ 3 i0 _ 1 8 Try.underlying32 hi0 hz0 hz1 hz2 rfl (by decide) _ _ _ rfl hrw ⟨wr.heap.size, 0, none⟩ 1 1 [.int .i64 (x.conn : Nat)] rfl rfl (cell_one_new _ _ _) (by simp [Value.oneCell']) (by unfold maxLen; omega) (by omega) (Nat.le_trans hsz (by simp)) ?_; intro v' w7 hown' hg7 hnil7; have H7 := hide (And.intro hown' hg7); clear hown' hg7 hnil7; go_frame))
      refine ⟨⟨i + 1, congrArg (Value.int .i64) (by omega), by omega, hide ?_⟩, by simp [intOf]; omega⟩
      obtain ⟨k1, k2⟩ := unhide H7
      obtain ⟨k3, k4⟩ := unhide HO
      refine ⟨?_, below_grown (k4.alloc k4.size _) (Nat.le_refl _) k2 (own_ge k3)⟩
      rw [List.take_add_one, unhide HX, List.map_append, List.flatMap_append]
      simpa [iC] using k1
    · obtain rfl : i = n := by omega
      have f1 : decide ((i : Int) < (i : Int)) = false := decide_eq_false (by omega)
      go_wp2_with fail
      go_ret
      refine ⟨_, rfl, hide ?_⟩
      obtain ⟨k1, k2⟩ := unhide HO
      rw [unhide HN, List.take_length] at k1
      exact ⟨k1, k2⟩
end Go.Proofs.Ytfebiemfmiahhaa
