/- Bytes of both sides. -/
import Derived.Test.YtdgdnpgjbphgaabSetRel
import Derived.Test.YtdgdnpgjbphgaabBytes2
namespace Go.Proofs.Ytdgdnpgjbphgaab
open Go.ChangeShapes Go.WideShapes Go.ChangeAt Go.RowKit
set_option linter.unusedVariables false
set_option maxRecDepth 100000
set_option maxHeartbeats 2000000

theorem raw_both {ws : List Nat} {hs : List Bool} {used : Nat} {R : RefSt} (h : Rel ws hs used R) (j q : Nat) (hj : j < R.L.length) (hq : q < 8 * (R.L.getD j (0, 0, 0)).2.2) : rawByte ws (place R.L j + 1 + (R.L.getD j (0, 0, 0)).2.1) q = (rbyN R j).getD q 0 := by
  have hfl : fldsOf R.L j = (R.L.getD j (0, 0, 0)).2.1 + (R.L.getD j (0, 0, 0)).2.2 := rfl
  rw [rawByte_at R j q hq]
  unfold rawByte rawsOf
  rw [getD_dropped, ← h.flds j _ hj (by omega), Nat.add_assoc (place R.L j + 1)]
def mapF (n : Nat) (F : Nat → Nat) : List Nat := (List.range n).map F
theorem mapF_length (n : Nat) (F : Nat → Nat) : (mapF n F).length = n := by simp [mapF]
theorem mapF_at (n : Nat) (F : Nat → Nat) (i : Nat) (h : i < n) : (mapF n F).getD i 0 = F i := by
  unfold mapF
  rw [List.getD_eq_getElem?_getD, List.getElem?_map, List.getElem?_range h]; rfl
theorem Span.bytes {w : World} {a : Option Addr} {n cap : Nat} {F : Nat → Nat} (h : Span w 5 (.slice a n cap) n (fun i => .int .u8 (F i : Nat))) : Bytes w a (mapF n F) := by
  by_cases h0 : n = 0
  · exact .inl (List.eq_nil_of_length_eq_zero (by rw [mapF_length]; exact h0))
  · obtain ⟨g, o, cp, hv, hb, hc⟩ := h.at (by omega)
    simp only [Value.slice.injEq] at hv
    exact .inr ⟨g, o, hv.1, h.lt g hb, fun i hi => by
      rw [mapF_length] at hi
      rw [(hc i hi).1, mapF_at _ _ _ hi]⟩
theorem same_span {w : World} {a a' : Option Addr} {n cap cap' : Nat} {F : Nat → Nat} (hF : ∀ i, F i < 256) (h : Span w 5 (.slice a n cap) n (fun i => .int .u8 (F i : Nat))) (h' : Span w 5 (.slice a' n cap') n (fun i => .int .u8 (F i : Nat))) :
    Calls Try.prog 31 #[.slice a n cap, .slice a' n cap'] w fun e w' => e = .returned (.bool true) ∧ w' = w := by
  have hs : Small (mapF n F) := fun i hi => by rw [mapF_length] at hi; rw [mapF_at _ _ _ hi]; exact hF i
  have := same_any a a' cap cap' w (mapF n F) (mapF n F) h.bytes h'.bytes hs hs
  rw [mapF_length, decide_eq_true rfl] at this
  exact this
/-- Bytes of both sides answer alike -/
theorem bytes_both {w : World} {i : Nat} {kt rt : Nat → Nat} {d : Dat} (hb : Blk w i kt rt d) (A B C : Int) (hf1 : B ≤ 9223372036854775807) (hf2 : -9223372036854775808 ≤ B) :
    ∃ (err n : Nat) (F : Nat → Nat), n ≤ 8388608 ∧ (∀ i, F i < 256) ∧
      (∀ wq, Below w.heap.size w wq → Calls Try.prog 29 #[.pointer (some ⟨d.p, 0, none⟩), .int .i64 A, .int .i64 B, .int .i64 C] wq fun e w' => ∃ a cap, e = .returned (.tuple #[.slice a n cap, .int .i64 (err : Nat)]) ∧ Span w' 5 (.slice a n cap) n (fun i => .int .u8 (F i : Nat)) ∧ (∀ g, Value.ownBlock (.slice a n cap) = some g → wq.heap.size ≤ g) ∧ Below wq.heap.size wq w') ∧
      (∀ wq, Below w.heap.size w wq → Calls Try.prog 30 #[.pointer (some ⟨d.pr, 0, none⟩), .int .i64 A, .int .i64 B, .int .i64 C] wq fun e w' => ∃ a cap, e = .returned (.tuple #[.slice a n cap, .int .i64 (err : Nat)]) ∧ Span w' 5 (.slice a n cap) n (fun i => .int .u8 (F i : Nat)) ∧ (∀ g, Value.ownBlock (.slice a n cap) = some g → wq.heap.size ≤ g) ∧ Below wq.heap.size wq w') := by
  have o := hb.ref.ok
  have hnil : ∀ (w' : World), Span w' 5 (.slice none 0 0) 0 (fun i => .int .u8 ((fun _ : Nat => 0) i : Nat)) := fun w' => .inl (.inl ⟨rfl, rfl⟩)
  have hno : ∀ (wq : World) (g : Nat), Value.ownBlock (.slice none 0 0) = some g → wq.heap.size ≤ g := fun wq g hg => by cases hg
  /- where it is refused -/
  have refused : ∀ f : Nat, spanErr d.ws d.hs d.used A B C = f → f ≠ 0 → (∀ wq, Below w.heap.size w wq → Calls Try.prog 30 #[.pointer (some ⟨d.pr, 0, none⟩), .int .i64 A, .int .i64 B, .int .i64 C] wq fun e w' => e = .returned (.tuple #[.slice none 0 0, .int .i64 (f : Nat)]) ∧ Below wq.heap.size wq w') → ∃ (err n : Nat) (F : Nat → Nat), n ≤ 8388608 ∧ (∀ i, F i < 256) ∧
      (∀ wq, Below w.heap.size w wq → Calls Try.prog 29 #[.pointer (some ⟨d.p, 0, none⟩), .int .i64 A, .int .i64 B, .int .i64 C] wq fun e w' => ∃ a cap, e = .returned (.tuple #[.slice a n cap, .int .i64 (err : Nat)]) ∧ Span w' 5 (.slice a n cap) n (fun i => .int .u8 (F i : Nat)) ∧ (∀ g, Value.ownBlock (.slice a n cap) = some g → wq.heap.size ≤ g) ∧ Below wq.heap.size wq w') ∧
      (∀ wq, Below w.heap.size w wq → Calls Try.prog 30 #[.pointer (some ⟨d.pr, 0, none⟩), .int .i64 A, .int .i64 B, .int .i64 C] wq fun e w' => ∃ a cap, e = .returned (.tuple #[.slice a n cap, .int .i64 (err : Nat)]) ∧ Span w' 5 (.slice a n cap) n (fun i => .int .u8 (F i : Nat)) ∧ (∀ g, Value.ownBlock (.slice a n cap) = some g → wq.heap.size ≤ g) ∧ Below wq.heap.size wq w') := fun f hf hne hq => by
    refine ⟨f, 0, fun _ => 0, by omega, fun _ => Nat.zero_lt_succ _, fun wq k => ?_, fun wq k => ?_⟩
    · refine (bytes_no A B C wq hf1 hf2 (hb.ar.below k) (hb.rel.sound o).heads f hf.symm hne).mono ?_
      rintro e w' ⟨rfl, hb'⟩
      exact ⟨none, 0, rfl, hnil w', hno wq, hb'⟩
    · refine (hq wq k).mono ?_
      rintro e w' ⟨rfl, hb'⟩
      exact ⟨none, 0, rfl, hnil w', hno wq, hb'⟩
  have hsp := hb.rel.span o A B C
  rcases at_cases d.R.L A with ⟨j, hj, rfl⟩ | hn
  · cases hg : d.R.Gn.getD j none with
    | some t =>
      have e0 := robj_some hj hg
      refine refused 26 (by rw [hsp]; unfold rspan; rw [e0, if_pos (by simp)]) (by decide) (fun wq k => ?_)
      refine (rbytes_gone (hb.ref.below k) j t hj hg B C).mono ?_
      rintro e w' ⟨rfl, hs⟩
      exact ⟨rfl, hs.below⟩
    | none =>
      have e0 := robj_none hj hg
      have hob := (hb.rel.obj o (place d.R.L j : Nat)).trans e0
      obtain ⟨f1, f2, f3⟩ := flds_le o j hj
      by_cases hin : 0 ≤ B ∧ 0 ≤ C ∧ B + C ≤ 8 * ((d.R.L.getD j (0, 0, 0)).2.2 : Nat)
      · obtain ⟨f, rfl⟩ := Int.eq_ofNat_of_zero_le hin.1
        obtain ⟨n, rfl⟩ := Int.eq_ofNat_of_zero_le hin.2.1
        have hfn : f + n ≤ 8 * (d.R.L.getD j (0, 0, 0)).2.2 := by omega
        refine ⟨0, n, fun i => (rbyN d.R j).getD (f + i) 0, by omega, fun i => ?_, fun wq k => ?_, fun wq k => ?_⟩
        · by_cases hi : f + i < (rbyN d.R j).length
          · exact Larder.unpackL_small _ _ _ hi
          · show (rbyN d.R j).getD (f + i) 0 < 256
            rw [List.getD_eq_getElem?_getD, List.getElem?_eq_none (by omega)]; decide
        · refine (bytes_span (place d.R.L j) f n wq (hb.ar.below k) (hb.rel.sound o).heads (by rw [hob]) (by rw [hob]; exact hfn)).mono ?_
          rintro e w' ⟨a, cap, rfl, h1, h2, h3⟩
          refine ⟨a, cap, rfl, h1.congr (fun i hi => ?_), h2, h3⟩
          rw [hob, raw_both hb.rel j (f + i) hj (by omega)]
        · refine (rbytes_yes (hb.ref.below k) j hj hg f n hfn).mono ?_
          rintro e w' ⟨v, rfl, h1, h2, h3⟩
          obtain ⟨a, cap, rfl⟩ := h1.shape
          exact ⟨a, cap, rfl, .inl h1, h2, h3⟩
      · refine refused 25 (by rw [hsp]; unfold rspan; rw [e0, if_neg (by simp), if_neg hin]) (by decide) (fun wq k => ?_)
        exact rbytes_span (hb.ref.below k) j hj hg B C (fun q => hin (by omega))
  · have e0 := robj_no hn
    refine refused 23 (by rw [hsp]; unfold rspan; rw [e0, if_pos (by simp)]) (by decide) (fun wq k => ?_)
    refine (rbytes_none (hb.ref.below k) A hn B C).mono ?_
    rintro e w' ⟨rfl, hs⟩
    exact ⟨rfl, hs.below⟩
end Go.Proofs.Ytdgdnpgjbphgaab
