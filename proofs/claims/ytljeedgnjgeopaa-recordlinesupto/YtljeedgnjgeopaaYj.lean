/- record: bytes.HasPrefix, laid at this dump; the record with which bytes begin. -/
import Derived.Shelf.Bytes.Small
import Derived.Test.YtljeedgnjgeopaaYi
namespace Go.Proofs
open Go.Shelf
def Try.lays116_ren : Go.Shelf.Ren := ⟨fun | 116 => 59 | 115 => 70 | n => n, fun | 37 => 27 | 5 => 5 | 4 => 4 | 3 => 3 | 9 => 9 | n => n, fun | n => n⟩
theorem Try.lays116 : Go.Proofs.Lays.nb116 Try.prog Try.lays116_ren := {
  mixed := by kernel_rfl
  f115 := Try.func70.trans (congrArg some (by kernel_rfl))
  f116 := Try.func59.trans (congrArg some (by kernel_rfl))
  t3 := Try.underlying3
  a3 := Try.isAgg3
  z3 := Try.sizeOf3
  v3 := Try.zeroValue3
  t4 := Try.underlying4
  a4 := Try.isAgg4
  z4 := Try.sizeOf4
  v4 := Try.zeroValue4
  t5 := Try.underlying5
  a5 := Try.isAgg5
  z5 := Try.sizeOf5
  v5 := Try.zeroValue5
  t9 := Try.underlying9
  a9 := Try.isAgg9
  z9 := Try.sizeOf9
  v9 := Try.zeroValue9
  t37 := Try.underlying27
  a37 := Try.isAgg27
  z37 := Try.sizeOf27
  v37 := Try.zeroValue27 }
end Go.Proofs
namespace Larder
set_option linter.unusedVariables false
set_option linter.unusedSimpArgs false
def EntP.toI (wr : Int → Int) (e : EntP) : EntI := ⟨wr (e.seq : Int), e.now, e.group.map fun a => ((a.1 : Int), a.2)⟩
theorem toP_toI {wr : Int → Int} {e : EntP} (h : wr (e.seq : Int) = (e.seq : Int)) : (e.toI wr).toP = e := by
  obtain ⟨s, n, g⟩ := e
  unfold EntP.toI EntI.toP
  dsimp only at h ⊢
  rw [h, List.map_map]
  congr 1
  conv => rhs; rw [← List.map_id g]
  exact List.map_congr_left (fun a ha => rfl)
/-- the entry with whose record bytes begin -/
def fstR (wr : Int → Int) (b : List Nat) : Option EntP := match (tkS (some b) 17).bind rdE with
  | none => none
  | some (e, r) => if okE (e.toI wr) = true ∧ (recE e).isPrefixOf b = true then some e else none
theorem isPre_map (f : Nat → UInt8) (hf : ∀ x y, x < 256 → y < 256 → f x = f y → x = y) : ∀ (R B : List Nat), (∀ c ∈ R, c < 256) → (∀ c ∈ B, c < 256) → (R.map f).isPrefixOf (B.map f) = R.isPrefixOf B
  | [], B, _, _ => by simp [List.isPrefixOf]
  | r :: R, [], _, _ => rfl
  | r :: R, b :: B, h1, h2 => by
    have ih := isPre_map f hf R B (fun c hc => h1 c (List.mem_cons_of_mem _ hc)) (fun c hc => h2 c (List.mem_cons_of_mem _ hc))
    simp only [List.map_cons, List.isPrefixOf, ih]
    congr 1
    have hr := h1 r (by simp)
    have hb := h2 b (by simp)
    by_cases e : r = b
    · rw [e]; simp
    · have : f r ≠ f b := fun e2 => e (hf r b hr hb e2)
      rw [beq_eq_false_iff_ne.2 this, beq_eq_false_iff_ne.2 e]
end Larder
namespace Go.Proofs.Ytljeedgnjgeopaa
open Go.ChangeShapes Go.WideShapes Go.ChangeAt Go.RowKit
set_option linter.unusedVariables false
set_option linter.unusedSimpArgs false
set_option maxRecDepth 100000
set_option maxHeartbeats 4000000
theorem bytesOf_nat (l : List Nat) : Lib.bytesOf (l.map Int.ofNat) = l.map UInt8.ofNat := by
  unfold Lib.bytesOf
  rw [List.map_map]
  exact List.map_congr_left (fun a _ => rfl)
theorem prefix_any (w : World) (b1 o1 n c b2 o2 m d : Nat) (B R : List Nat) (hn : n = B.length) (hm : m = R.length) (hnc : n ≤ c) (h1 : ∀ i, i < n → w.cell? ⟨b1, o1 + i, none⟩ = some (.int .u8 (B.getD i 0 : Nat))) (h2 : ∀ i, i < m → w.cell? ⟨b2, o2 + i, none⟩ = some (.int .u8 (R.getD i 0 : Nat))) (hB : ∀ c ∈ B, c < 256) (hR : ∀ c ∈ R, c < 256) :
    Calls Try.prog 59 #[.slice (some ⟨b1, o1, none⟩) n c, .slice (some ⟨b2, o2, none⟩) m d] w fun e w' => e = .returned (.bool (R.isPrefixOf B)) ∧ w' = w := by
  have gm : ∀ (l : List Nat) (i : Nat), i < l.length → (l.map Int.ofNat).getD i 0 = ((l.getD i 0 : Nat) : Int) := fun l i hi => by
    simp [List.getD, hi]
  have := Any.bytes_HasPrefix Try.lays116 b1 o1 n c b2 o2 m d (B.map Int.ofNat) (R.map Int.ofNat) w (by rw [List.length_map, hn]) (by rw [List.length_map, hm]) hnc (fun i hi => by rw [h1 i hi, gm B i (by omega)]) (fun i hi => by rw [h2 i hi, gm R i (by omega)])
  rw [bytesOf_nat, bytesOf_nat] at this
  unfold Lib.hasPrefix at this
  rw [Larder.isPre_map UInt8.ofNat (fun x y hx hy e => by
    have := congrArg UInt8.toNat e
    simp only [UInt8.toNat_ofNat'] at this
    omega) R B hR hB] at this
  exact this
end Go.Proofs.Ytljeedgnjgeopaa
