/- Contracts of Pack and Unpack. -/
import Derived.Test.YtdgdnpgjbphgaabSame
import Derived.Test.YtdgdnpgjbphgaabGrow
import Derived.Test.YtdgdnpgjbphgaabPackMath
import Derived.Deep.RegionWith
namespace Go.Proofs.Ytdgdnpgjbphgaab
open Go.ChangeShapes Go.WideShapes Go.ChangeAt Go.RowKit
set_option linter.unusedVariables false

/-- words as cells -/
def wcells (l : List Nat) : List Value := l.map (fun c : Nat => Value.int .u64 (c : Int))
theorem wcells_at (l : List Nat) (j : Nat) (h : j < l.length) : (wcells l)[j]? = some (.int .u64 (l.getD j 0 : Nat)) := by
  unfold wcells
  rw [List.getElem?_map, List.getD_eq_getElem?_getD, List.getElem?_eq_getElem h]; rfl
theorem wcells_set (l : List Nat) (q v : Nat) : wcells (l.set q v) = (wcells l).set q (.int .u64 (v : Int)) := by
  unfold wcells; rw [List.map_set]
def OwnW (w : World) (base : Nat) (v : Value) (l : List Nat) : Prop := w.ownsRow base 24 1 v l.length (wcells l)

/-- the words l lie at the head of a slice with the address a -/
def Words (w : World) (a : Option Addr) (l : List Nat) : Prop :=
  l = [] ∨ ∃ b off, a = some ⟨b, off, none⟩ ∧ b < w.heap.size ∧ ∀ i, i < l.length → w.cell? ⟨b, off + i, none⟩ = some (.int .u64 (l.getD i 0 : Nat))
def WSmall (l : List Nat) : Prop := ∀ i, i < l.length → l.getD i 0 < 18446744073709551616

theorem Words.below {w w' : World} {a : Option Addr} {l : List Nat} (h : Words w a l) (hb : Below w.heap.size w w') : Words w' a l := by
  rcases h with h | ⟨b, off, rfl, hlt, hc⟩
  · exact .inl h
  · exact .inr ⟨b, off, rfl, Nat.lt_of_lt_of_le hlt hb.size, fun i hi => (hb.cell (p := ⟨b, off + i, none⟩) hlt).trans (hc i hi)⟩

theorem OwnW.shape {w : World} {base : Nat} {v : Value} {l : List Nat} (h : OwnW w base v l) :
    ∃ a cap, v = .slice a l.length cap ∧ Words w a l := by
  rcases h.2 with ⟨rfl, h0⟩ | ⟨g, cap, cur, rfl, hb, hg, hn, hm, hs, ht⟩
  · exact ⟨none, 0, by rw [h0], .inl (List.eq_nil_of_length_eq_zero h0)⟩
  · refine ⟨_, cap, rfl, .inr ⟨g, 0, rfl, (Array.getElem?_eq_some_iff.1 hg).1, fun i hi => ?_⟩⟩
    rw [Nat.zero_add, h.cellAt i (by omega), wcells_at l i hi]

theorem made_cells (z : Value) (n : Nat) : (madeCells #[z] n).toList = List.replicate n z := by
  unfold madeCells
  rw [Array.toList_map, Array.toList_range, List.eq_replicate_iff]
  refine ⟨by simp, ?_⟩
  intro b hb
  obtain ⟨j, _, rfl⟩ := List.mem_map.1 hb
  simp [Nat.mod_one]

theorem wrap_nat (q : Nat) (h : q < 9223372036854775808) : IntKind.i64.wrap (q : Int) = (q : Int) := by
  rw [IntKind.wrap_i64]; omega

theorem or_byte (o c sh : Nat) (ho : o < 2 ^ sh) (hsh : sh ≤ 56) (hc : c < 256) : bits BinOp.or IntKind.u64 (o : Int) (IntKind.u64.wrap ((c : Int) * 2 ^ sh)) = ((c * 2 ^ sh + o : Nat) : Int) := by
  have h1 : c * 2 ^ sh < 18446744073709551616 := by
    have h2 : 2 ^ sh ≤ 2 ^ 56 := Nat.pow_le_pow_right (by omega) hsh
    have h3 : c * 2 ^ sh ≤ 255 * 2 ^ 56 := Nat.mul_le_mul (by omega) h2
    omega
  have h4 : o < 18446744073709551616 := by
    have h2 : 2 ^ sh ≤ 2 ^ 56 := Nat.pow_le_pow_right (by omega) hsh
    omega
  have e : IntKind.u64.wrap ((c : Int) * 2 ^ sh) = (c : Int) * 2 ^ sh := by
    rw [IntKind.wrap_u64]
    have e2 : (c : Int) * 2 ^ sh = ((c * 2 ^ sh : Nat) : Int) := by simp
    rw [e2]; omega
  rw [e]; exact or_join o c sh ho h1 h4

theorem pack_store {w : World} {base g cap : Nat} {ws : List Nat} {q v : Nat} (h : OwnW w base (.slice (some ⟨g, 0, none⟩) ws.length cap) ws) :
    OwnW (w.setCell ⟨g, q, none⟩ (.int .u64 (v : Int))) base (.slice (some ⟨g, 0, none⟩) ws.length cap) (ws.set q v) := by
  unfold OwnW
  rw [List.length_set, wcells_set]
  exact (h.stored q _).1

set_option maxHeartbeats 1000000 in
theorem pack_any (a : Option Addr) (cap : Nat) (w : World) (l : List Nat) (hl : l.length ≤ 140737488355328) (hB : Bytes w a l) (hs : Small l) :
    Calls Try.prog 89 #[.slice a l.length cap] w fun e w' => ∃ v, e = .returned v ∧ OwnW w' w.heap.size v (Larder.packL l) ∧ Below w.heap.size w w' := by
  obtain ⟨i0, hi, hz0, hz1, hz2⟩ := info_parts Try.info24
  have hwn : wordsI (l.length : Int) = (Larder.wn l.length : Int) := by unfold wordsI Larder.wn; split <;> omega
  have hwb : Larder.wn l.length ≤ 17592186044417 := by unfold Larder.wn; omega
  go_enter Try.func89, Try.ntmps89
  go_wp2_with fail
  refine (words_any l.length w (by omega) (by omega)).mono ?_
  rintro e w' ⟨rfl, hw'⟩
  obtain rfl := hw'.symm
  rw [hwn]
  go_wp2_with (at_make; refine wpList_make_full _ rfl _ _ 62 rfl w.heap.size 24 i0 (.int .u64 0) 1 Try.underlying62 hi hz0 hz1 .i64 .i64 _ _ (Larder.wn l.length) rfl rfl rfl rfl (by rw [hz2]; omega) (by simp [maxLen]; omega) (Nat.le_refl _) ?_)
  intro w1 hown hgrow
  have hb1 : Below w.heap.size w w1 := (Below.refl _ _).grown hgrow (Nat.le_refl _) (fun k h => by cases h)
  have hown1 : OwnW w1 w.heap.size (.slice (some ⟨w.heap.size, 0, none⟩) (Larder.wn l.length) (Larder.wn l.length)) (Larder.packK l 0) := by
    rw [made_cells] at hown
    unfold OwnW
    rw [Larder.packK_length, Larder.packK_zero, wcells, List.map_replicate]
    exact hown
  have HL := hide (Larder.packK_all l)
  clear hown hgrow hwn
  rcases hB with rfl | ⟨b, off, rfl, hblt, hc⟩
  · go_wp2_with fail
    go_loopw [11] (fun i wr => i = .int .i64 0 ∧ wr = w1) (fun _ _ => 0)
    case atStart => exact ⟨rfl, rfl⟩
    case round =>
      obtain ⟨rfl, rfl⟩ := hrel
      go_wp2
      go_ret
      exact ⟨_, rfl, by rw [← unhide HL]; exact hown1, hb1⟩
  · go_wp2_with fail
    go_loopw [11] (fun i wr => ∃ k : Nat, k ≤ l.length ∧ i = .int .i64 k ∧ OwnW wr w.heap.size (.slice (some ⟨w.heap.size, 0, none⟩) (Larder.wn l.length) (Larder.wn l.length)) (Larder.packK l k) ∧ Below w.heap.size w wr) (fun i _ => l.length - (intOf i).toNat)
    case atStart => exact ⟨0, by omega, rfl, hown1, hb1⟩
    case round =>
      obtain ⟨k, hk, rfl, hwn, hbl⟩ := hrel
      by_cases hlt : k < l.length
      · obtain ⟨q, hq⟩ : ∃ q, q = k / 8 := ⟨_, rfl⟩
        obtain ⟨o, ho⟩ : ∃ o, o = (Larder.packK l k).getD q 0 := ⟨_, rfl⟩
        obtain ⟨c, hcc⟩ : ∃ c, c = l.getD k 0 := ⟨_, rfl⟩
        have hlen := Larder.packK_length l k
        have hqn : q < Larder.wn l.length := by unfold Larder.wn; omega
        have hcl : wr.cell? ⟨w.heap.size, q, none⟩ = some (.int .u64 (o : Int)) := by
          have h2 : wr.ownsRow w.heap.size 24 1 (.slice (some ⟨w.heap.size, 0, none⟩) (Larder.wn l.length) (Larder.wn l.length)) (Larder.wn l.length) (wcells (Larder.packK l k)) := by
            have := hwn; unfold OwnW at this; rw [hlen] at this; exact this
          rw [h2.cellAt _ (by omega), wcells_at _ _ (by omega), ho]
        have hfz : wr.frozen? ⟨w.heap.size, q, none⟩ = false := by
          have h2 : wr.ownsRow w.heap.size 24 1 (.slice (some ⟨w.heap.size, 0, none⟩) (Larder.wn l.length) (Larder.wn l.length)) (Larder.wn l.length) (wcells (Larder.packK l k)) := by
            have := hwn; unfold OwnW at this; rw [hlen] at this; exact this
          exact h2.frozenAt _
        have hcb : wr.cell? ⟨b, off + k, none⟩ = some (.int .u8 (c : Int)) := by
          rw [hbl.cell (p := ⟨b, off + k, none⟩) hblt, hc k hlt, hcc]
        have hc256 : c < 256 := by rw [hcc]; exact hs k hlt
        have ho64 : o < 18446744073709551616 := by rw [ho]; exact Larder.packK_lt hs k q
        have eq : (k : Int) / 8 = (q : Int) := by omega
        have eql : (q : Int) < (Larder.wn l.length : Int) := by omega
        obtain ⟨sh, hsh⟩ : ∃ sh, sh = 8 * (k % 8) := ⟨_, rfl⟩
        have hsh64 : sh < 64 := by omega
        have hcall : ∀ wx : World, Calls Try.prog 87 #[.int .i64 k] wx fun e w' => e = .returned (.int .i64 (sh : Int)) ∧ w' = wx := by
          intro wx; rw [hsh]; exact byteAt_any k wx (by omega)
        have hwq := wrap_nat q (by omega)
        have hold : o < 2 ^ sh := by rw [ho, hsh, hq]; exact Larder.packK_old hs k hlt
        obtain ⟨nv, hnv⟩ : ∃ nv, nv = c * 2 ^ sh + o := ⟨_, rfl⟩
        have hval : bits BinOp.or IntKind.u64 (o : Int) (IntKind.u64.wrap ((c : Int) * 2 ^ sh)) = (nv : Int) := by rw [hnv]; exact or_byte o c sh hold (by omega) hc256
        have hst : Larder.packK l (k + 1) = (Larder.packK l k).set q nv := by
          rw [Larder.packK_succ l k hlt, hnv, ho, hcc, hsh, hq]
        have HW : Hid (OwnW (wr.setCell ⟨w.heap.size, q, none⟩ (.int .u64 (bits BinOp.or IntKind.u64 (o : Int) (IntKind.u64.wrap ((c : Int) * 2 ^ sh))))) w.heap.size (.slice (some ⟨w.heap.size, 0, none⟩) (Larder.wn l.length) (Larder.wn l.length)) (Larder.packK l (k + 1))) := by
          rw [hst, hval]
          have := hwn
          rw [← hlen] at this ⊢
          exact pack_store this
        have HC := hide hcall
        clear hc ho hcc hq hs hcall hsh hold hnv hst hwn hlen hval
        go_wp2_with fail
        go_region_with (go_at_call 87; refine (unhide HC _).mono ?_; rintro e w' ⟨rfl, hw'⟩; obtain rfl := hw'.symm)
        all_goals go_wp2
        all_goals
          go_roundw
          case rel => exact ⟨k + 1, by omega, by go_num, unhide HW, (hbl.setCell (p := ⟨w.heap.size, q, none⟩) (Nat.le_refl _) _).drew⟩
          case measure => simp [intOf]; omega
      · have hkl : k = l.length := by omega
        subst hkl
        go_wp2
        go_ret
        exact ⟨_, rfl, by rw [← unhide HL]; exact hwn, hbl⟩
end Go.Proofs.Ytdgdnpgjbphgaab
