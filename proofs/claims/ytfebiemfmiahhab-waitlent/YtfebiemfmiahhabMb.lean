/- The document's Until, copies. -/
import Derived.Test.YtfebiemfmiahhabMa
namespace Go.Proofs.Ytfebiemfmiahhab
open Go.ChangeShapes Go.WideShapes Go.ChangeAt Go.RowKit Go.Maps
set_option linter.unusedVariables false
set_option linter.unusedSimpArgs false
set_option maxRecDepth 100000
set_option maxHeartbeats 8000000
def lookW (L : List Wt) (c : Int) : Option Wt := L.find? (fun x => decide ((x.conn : Int) = c))
theorem lookE_map (E : List En) (c : Int) : (lookE E c).map (·.x) = lookW (E.map (·.x)) c := by
  unfold lookE lookW
  rw [List.find?_map]
  rfl
theorem find_look {L : List Wt} {c : Int} {i : Nat} (h : findW L c = some i) : ∃ x, L[i]? = some x ∧ lookW L c = some x ∧ (x.conn : Int) = c := by
  unfold findW at h
  obtain ⟨hi, h1, h2⟩ := List.findIdx?_eq_some_iff_getElem.1 h
  refine ⟨L[i], List.getElem?_eq_getElem hi, ?_, of_decide_eq_true h1⟩
  unfold lookW
  rw [List.find?_eq_some_iff_getElem]
  exact ⟨h1, i, hi, rfl, fun j hj => by simpa using h2 j hj⟩
theorem find_nolook {L : List Wt} {c : Int} (h : findW L c = none) : lookW L c = none := by
  unfold findW at h
  unfold lookW
  rw [List.find?_eq_none]
  intro x hx
  have := List.findIdx?_eq_none_iff.1 h x hx
  rw [this]; simp
theorem runtil_any (Q : Nat → Prop) (w : World) (p : Nat) (L : List Wt) (c : Int) (h : RAt Q w p L) :
    Calls Try.prog 35 #[.pointer (some ⟨p, 0, none⟩), .int .i64 c] w fun e w' => e = .returned (.tuple #[.int .u64 (((lookW L c).map (·.till)).getD 0 : Nat), .bool (lookW L c).isSome]) ∧ w' = w := by
  have C := find_any Q w p L c h
  cases hf : findW L c with
  | none =>
    rw [find_nolook hf]
    unfold findI at C
    rw [hf] at C
    clear h
    go_enter Try.func35, Try.ntmps35
    go_wp2_with (go_at_call 39; refine C.mono ?_; clear C; rintro e w1 ⟨rfl, rfl⟩)
    go_ret2
    exact ⟨rfl, rfl⟩
  | some i =>
    obtain ⟨x, hx, hl, -⟩ := find_look hf
    rw [hl]
    unfold findI at C
    rw [hf] at C
    obtain ⟨lv, D, h, hD⟩ := h
    have hxD := hx
    rw [← hD, List.getElem?_map] at hxD
    obtain ⟨d, hd, rfl⟩ := Option.map_eq_some_iff.1 hxD
    obtain ⟨b, cap, rfl, c0, c1, c2, c3⟩ := h.at hd
    have hi : i < D.length := (List.getElem?_eq_some_iff.1 hd).1
    have few := h.few
    have cp : w.cell? ⟨p, 0, none⟩ = some (.slice (some ⟨b, 0, none⟩) D.length cap) := cell_blk h.cell 0
    generalize D.length = n at *
    have f1 : decide ((i : Int) < 0) = false := decide_eq_false (by omega)
    have g1 : (0 : Int) ≤ (i : Int) := by omega
    have g2 : (i : Int) < (n : Int) := by omega
    clear h hD hd hx hl hf hxD
    go_enter Try.func35, Try.ntmps35
    go_wp2_with (go_at_call 39; refine C.mono ?_; clear C; rintro e w1 ⟨rfl, rfl⟩)
    go_ret2
    exact ⟨rfl, rfl⟩
theorem own_ge {w : World} {base : Nat} {e : TypeId} {size : Nat} {v : Value} {n : Nat} {xs : List Value} (h : w.ownsRow base e size v n xs) (k : Nat) (hk : v.ownBlock = some k) : base ≤ k := by
  rcases h.2 with ⟨rfl, rfl⟩ | ⟨g, cap, cur, rfl, hb, -⟩
  · cases hk
  · cases hk; exact hb
theorem below_grown {B : Nat} {w0 w w' : World} {row : Option Nat} (h : Below B w0 w) (hB : B ≤ w0.heap.size) (hg : w.grownBy w' row) (hrow : ∀ k, row = some k → B ≤ k) : Below B w0 w' :=
  ⟨hg.os.trans h.os, hg.tape.trans h.tape, hg.output.trans h.output, Nat.le_trans h.size hg.size, fun k hk => (hg.block k (by have := h.size; omega) (fun e => by have := hrow k e.symm; omega)).trans (h.block k hk)⟩
theorem cell_two_new (w : World) (a b : Value) (t : TypeId) : ∀ j u, [a, b][j]? = some u → (w.alloc (.cells #[a, b] t)).cell? ((⟨w.heap.size, 0, none⟩ : Addr).add j) = some u := by
  intro j u hj
  have h := heap_alloc_new w (.cells #[a, b] t)
  match j, hj with
  | 0, hj => rw [show ((⟨w.heap.size, 0, none⟩ : Addr).add 0) = ⟨w.heap.size, 0, none⟩ from by simp [Addr.add], cell_blk h]; simpa using hj
  | 1, hj => rw [show ((⟨w.heap.size, 0, none⟩ : Addr).add 1) = ⟨w.heap.size, 1, none⟩ from by simp [Addr.add], cell_blk h]; simpa using hj
theorem copies_any (w : World) (a : Option Addr) (cap : Nat) (l : List Pl) (n : Nat) (hn : n = l.length) (hn2 : n ≤ 1000000) (h : PlsAt w a l) :
    Calls Try.prog 41 #[.slice a n cap] w fun e w' => ∃ v, e = .returned v ∧ Hid (w'.ownsRow w.heap.size 46 2 v l.length (l.flatMap plC) ∧ Below w.heap.size w w') := by
  have HN := hide hn
  have HP := hide h
  obtain ⟨i0, hi0, hzz⟩ := Option.map_eq_some_iff.1 info40
  simp only [Prod.mk.injEq] at hzz
  obtain ⟨hz0, hz1, hz2⟩ := hzz
  clear hn h
  go_enter Try.func41, Try.ntmps41
  go_wp2_with fail
  go_loopw [3, 4] (fun v iv wr => ∃ i : Nat, iv = .int .i64 ((i : Nat) : Int) ∧ i ≤ n ∧ Hid (wr.ownsRow w.heap.size 46 2 v i ((l.take i).flatMap plC) ∧ Below w.heap.size w wr)) (fun _ iv _ => n - (intOf iv).toNat)
  case atStart => exact ⟨0, rfl, Nat.zero_le _, hide ⟨⟨by simp, .inl ⟨rfl, rfl⟩⟩, Below.refl _ _⟩⟩
  case round =>
    obtain ⟨i, rfl, hi, HO⟩ := hrel
    by_cases hin : i < n
    · have f1 : decide ((i : Int) < (n : Int)) = true := decide_eq_true (by omega)
      have g1 : (0 : Int) ≤ (i : Int) := by omega
      have g2 : (i : Int) < (n : Int) := by omega
      obtain ⟨x, hx⟩ : ∃ x, l[i]? = some x := ⟨_, List.getElem?_eq_getElem (by have := unhide HN; omega)⟩
      obtain ⟨b, off, rfl, y0, y1⟩ : ∃ b off, a = some ⟨b, off, none⟩ ∧ wr.cell? ⟨b, off + i * 2, none⟩ = some (.int .i64 x.1) ∧ wr.cell? ⟨b, off + i * 2 + 1, none⟩ = some (.string (bs x.2)) := by
        rcases (unhide HP).below (unhide HO).2 with h0 | ⟨pb, po, e, hlt, hc⟩
        · rw [h0] at hx; simp at hx
        · exact ⟨pb, po, e, hc i x hx⟩
      have HX := hide hx
      clear hx
      have hrw : (wr.alloc (.cells #[.int .i64 x.1, .string (bs x.2)] 46)).ownsRow w.heap.size 46 2 u3 i ((l.take i).flatMap plC) := World.ownsRow.alloc (unhide HO).1 _
      have hsz : w.heap.size ≤ wr.heap.size := (unhide HO).2.size
      go_wp2_with (first
        | (at_builtin; refine wpList_append_own _ rfl _ _ 38 rfl _ 46 i0 _ 2 24 Try.underlying38 hi0 hz0 hz1 hz2 rfl (by decide) _ _ _ rfl hrw ⟨wr.heap.size, 0, none⟩ 1 1 [.int .i64 x.1, .string (bs x.2)] rfl rfl (cell_two_new _ _ _ _) (by simp [Value.oneCell']) (by unfold maxLen; omega) (by omega) (Nat.le_trans hsz (by simp)) ?_; intro v' w7 hown' hg7 hnil7; have H7 := hide (And.intro hown' hg7); clear hown' hg7 hnil7; go_frame))
      refine ⟨⟨i + 1, congrArg (Value.int .i64) (by omega), by omega, hide ?_⟩, by simp [intOf]; omega⟩
      obtain ⟨k1, k2⟩ := unhide H7
      obtain ⟨k3, k4⟩ := unhide HO
      refine ⟨?_, below_grown (k4.alloc k4.size _) (Nat.le_refl _) k2 (own_ge k3)⟩
      rw [List.take_add_one, unhide HX, List.flatMap_append]
      simpa [plC] using k1
    · obtain rfl : i = n := by omega
      have f1 : decide ((i : Int) < (i : Int)) = false := decide_eq_false (by omega)
      go_wp2_with fail
      go_ret
      refine ⟨_, rfl, hide ?_⟩
      obtain ⟨k1, k2⟩ := unhide HO
      rw [unhide HN, List.take_length] at k1
      exact ⟨k1, k2⟩
end Go.Proofs.Ytfebiemfmiahhab
