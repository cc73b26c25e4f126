/- Eq, Is, bytes.Compare. -/
import Derived.Test.YtfgemcmiilbodaaDoorCpE
import Derived.Lib.ConvBytes
import Derived.Lib.SmallJoins
namespace Go.Proofs.YtfgemcmiilbodaaDoor
open Go.ChangeShapes Go.WideShapes Go.ChangeAt Go.RowKit
set_option linter.unusedVariables false
set_option maxRecDepth 100000
set_option maxHeartbeats 2000000

theorem eq_any {w : World} {a b : Option Addr} {c1 c2 : Nat} {la lb : List Nat} (hA : la.length ≤ 140737488355328) (hB : lb.length ≤ 140737488355328) (h1 : Bytes w a la) (h2 : Bytes w b lb) :
    Calls Tryd.prog 8 #[.slice a la.length c1, .slice b lb.length c2] w fun e w' => e = .returned (.bool (decide (la = lb))) ∧ Still w w' := by
  have H1 := hide (cmp_any (c1 := c1) (c2 := c2) hA hB h1 h2)
  have H2 : Hid ((Larder.cmpL la lb == 0) = decide (la = lb)) := hide (by
    by_cases h : la = lb
    · rw [decide_eq_true h, h, Larder.cmpL_self]; rfl
    · rw [decide_eq_false h, beq_eq_false_iff_ne]; exact fun z => h (Larder.cmpL_zero _ _ z))
  clear h1 h2 hA hB
  generalize Larder.cmpL la lb = R at *
  generalize la.length = n1 at *
  generalize lb.length = n2 at *
  generalize decide (la = lb) = D at *
  go_enter Tryd.func8, Tryd.ntmps8
  go_wp2_with fail
  refine (unhide H1).mono ?_
  rintro e w1 ⟨rfl, h1⟩
  go_wp2
  go_ret
  exact ⟨ret_bool (unhide H2), h1⟩

/-- a text's bytes in new memory -/
theorem text_conv (S : ByteArray) (w : World) :
    ∃ c w', (convert 9 22 (.string S)).run Tryd.prog w = .ok (.slice (some ⟨w.heap.size, 0, none⟩) S.size c) w' ∧ (∀ j, j < S.size → w'.cell? ⟨w.heap.size, j, none⟩ = some (.int .u8 (S.data.toList.getD j 0).toNat)) ∧ Below w.heap.size w w' ∧ w'.heap.size = w.heap.size + 1 := by
  have h := Lib.run_convert_string_bytes (P := Tryd.prog) w 9 22 5 S Tryd.underlying9 Tryd.underlying22 Tryd.underlying5
  exact ⟨_, _, h, fun j hj => Lib.bytesWorld_cell w 5 S j hj, Go.Joins.below_bytesWorld _ w 5 S (Nat.le_refl _), Lib.bytesWorld_size w 5 S⟩

/-- bytes as the model's own -/
def ints (l : List Nat) : List Int := l.map fun (c : Nat) => (c : Int)
def cmpI (a b : List Nat) : Int := Lib.compareBytes (Lib.bytesOf (ints a)) (Lib.bytesOf (ints b))
theorem cmpI_eq : ∀ (a b : List Nat), Small a → Small b → cmpI a b = Larder.cmpL a b
  | [], [], _, _ => rfl
  | [], _ :: _, _, _ => rfl
  | _ :: _, [], _, _ => rfl
  | x :: a, y :: b, ha, hb => by
    have ih := cmpI_eq a b (fun i hi => ha (i + 1) (by simpa using hi)) (fun i hi => hb (i + 1) (by simpa using hi))
    have hx : x < 256 := ha 0 (by simp)
    have hy : y < 256 := hb 0 (by simp)
    have lt : ∀ p q : Nat, p < 256 → q < 256 → ((UInt8.ofNat p < UInt8.ofNat q) ↔ p < q) := fun p q hp hq => by
      rw [UInt8.lt_iff_toNat_lt, UInt8.toNat_ofNat', UInt8.toNat_ofNat', Nat.mod_eq_of_lt hp, Nat.mod_eq_of_lt hq]
    have e : cmpI (x :: a) (y :: b) = if UInt8.ofNat x < UInt8.ofNat y then -1 else if UInt8.ofNat y < UInt8.ofNat x then 1 else cmpI a b := rfl
    have e2 : Larder.cmpL (x :: a) (y :: b) = if x < y then -1 else if y < x then 1 else Larder.cmpL a b := rfl
    rw [e, ih, e2]
    simp only [lt x y hx hy, lt y x hy hx]
theorem load_any {w : World} {a : Option Addr} {cap : Nat} {l : List Nat} (hB : Bytes w a l) : (Extern.Bytes.bytesOf (.slice a l.length cap)).run Tryd.prog w = .ok ⟨(Lib.bytesOf (ints l)).toArray⟩ w := by
  cases a with
  | none =>
    have : l = [] := by
      rcases hB with z | ⟨_, _, z, _⟩
      · exact z
      · cases z
    subst this
    rfl
  | some x =>
    have hc : ∀ j y, (ints l)[j]? = some y → w.cell? (x.add j) = some (.int .u8 y) := fun j y hj => by
      have hjl : j < l.length := by
        have := (List.getElem?_eq_some_iff.1 hj).1
        simpa [ints] using this
      rcases hB with z | ⟨b, off, e, hb, hcc⟩
      · rw [z] at hjl; cases hjl
      · cases e
        have e : (⟨b, off, none⟩ : Addr).add j = ⟨b, off + j, none⟩ := by unfold Addr.add; split <;> simp_all
        rw [e, hcc j hjl]
        unfold ints at hj
        rw [List.getElem?_map, List.getElem?_eq_getElem hjl] at hj
        cases hj
        rw [List.getD_eq_getElem?_getD, List.getElem?_eq_getElem hjl]
        rfl
    have := Lib.run_loadBytesX (P := Tryd.prog) w (ints l) x .empty hc
    rw [show (ints l).length = l.length from List.length_map ..] at this
    show (Extern.Bytes.loadBytes x l.length .empty).run Tryd.prog w = _
    rw [this]
    congr 1
    apply ByteArray.ext
    simp
end Go.Proofs.YtfgemcmiilbodaaDoor
