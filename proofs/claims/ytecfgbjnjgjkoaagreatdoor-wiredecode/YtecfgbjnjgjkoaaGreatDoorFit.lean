/- fit: may a reply be written? -/
import Derived.Test.YtecfgbjnjgjkoaaGreatDoorTre
namespace Go.Proofs.YtecfgbjnjgjkoaaGreatDoor
open Go.ChangeShapes Go.WideShapes Go.ChangeAt Go.RowKit
set_option linter.unusedVariables false
set_option linter.unusedSimpArgs false
set_option maxRecDepth 20000
set_option maxHeartbeats 4000000

def crlf (t : List Nat) : Bool := t.any (fun c => c == 13 || c == 10)
def fitK (K n : Int) (t : List Nat) (ln : Nat) (sub : Bool) : Bool :=
  if K = 1 ∨ K = 2 then decide (n = 0) && decide (ln = 0) && decide (t.length ≤ 1024) && !(crlf t)
  else if K = 3 then decide (t.length = 0) && decide (ln = 0)
  else if K = 4 then decide (n = 0) && decide (ln = 0) && decide (t.length ≤ 4096)
  else if K = 5 ∨ K = 7 then decide (n = 0) && decide (t.length = 0) && decide (ln = 0)
  else if K = 6 then decide (n = 0) && decide (t.length = 0) && sub
  else false
def fitB : (d : Nat) → Tr d → Nat → Bool
  | 0, _, _ => false
  | d + 1, x, i => fitK x.nd.k x.nd.n x.nd.t x.nd.l.length (decide (i + 1 ≤ 8) && decide (x.nd.l.length ≤ 65536) && x.nd.l.all (fun y => fitB d y (i + 1)))
/-- ContainsAny of a text, with the two bytes of a line's end -/
def CtaOk (U : World → Prop) : Prop := ∀ (w : World) (a : Option Addr) (c : Nat) (T : List Nat), U w → Bytes w a T → Small T → T.length ≤ 1024 → T.length ≤ c → Calls Tryz.prog 33 #[.slice a T.length c, .string ⟨#[13, 10]⟩] w fun e w' => e = .returned (.bool (crlf T)) ∧ Below w.heap.size w w'
def StaysB (U : World → Prop) : Prop := ∀ w w' : World, U w → Below w.heap.size w w' → U w'
/-- a list of replies in memory -/
def RlAt (w : World) (d : Nat) (a : Option Addr) (l : List (Tr d)) : Prop := l = [] ∨ ∃ b off, a = some ⟨b, off, none⟩ ∧ b < w.heap.size ∧ ∀ i y, l[i]? = some y → ∃ u0 u1 u2 u3, w.cell? ⟨b, off + i * 4, none⟩ = some u0 ∧ w.cell? ⟨b, off + i * 4 + 1, none⟩ = some u1 ∧ w.cell? ⟨b, off + i * 4 + 2, none⟩ = some u2 ∧ w.cell? ⟨b, off + i * 4 + 3, none⟩ = some u3 ∧ RpAt w d y u0 u1 u2 u3
theorem RlAt.below {w w' : World} {d : Nat} {a : Option Addr} {l : List (Tr d)} (h : RlAt w d a l) (hb : Below w.heap.size w w') : RlAt w' d a l := by
  rcases h with h | ⟨b, off, e, hlt, hc⟩
  · exact .inl h
  · refine .inr ⟨b, off, e, Nat.lt_of_lt_of_le hlt hb.size, fun i y hi => ?_⟩
    obtain ⟨u0, u1, u2, u3, c0, c1, c2, c3, r⟩ := hc i y hi
    exact ⟨u0, u1, u2, u3, by rw [hb.cell hlt]; exact c0, by rw [hb.cell hlt]; exact c1, by rw [hb.cell hlt]; exact c2, by rw [hb.cell hlt]; exact c3, r.below hb⟩
theorem all_take {α : Type} (p : α → Bool) {l : List α} {i : Nat} {y : α} (h : l[i]? = some y) (hy : p y = true) : (l.take i).all p = true → (l.take (i + 1)).all p = true := by
  intro ht
  rw [List.take_add_one, h]
  simp [ht, hy]
theorem all_false {α : Type} (p : α → Bool) {l : List α} {i : Nat} {y : α} (h : l[i]? = some y) (hy : p y = false) : l.all p = false := by
  rw [List.all_eq_false]
  exact ⟨y, List.mem_of_getElem? h, by simp [hy]⟩
theorem fitList_any (U : World → Prop) (UB : StaysB U) (d : Nat) (IH : ∀ (w : World) (x : Tr d) (v0 v1 v2 v3 : Value) (i : Nat), U w → RpAt w d x v0 v1 v2 v3 → i ≤ 8 → Calls Tryz.prog 10 #[.agg #[v0, v1, v2, v3], .int .i64 (i : Nat)] w fun e w' => e = .returned (.bool (fitB d x i)) ∧ Below w.heap.size w w')
    (w : World) (a : Option Addr) (c ln i : Nat) (l : List (Tr d)) (hU : U w) (hn : ln = l.length) (hl : ln ≤ 140737488351232) (hA : RlAt w d a l) (hi : i ≤ 9) :
    Calls Tryz.prog 34 #[.slice a ln c, .int .i64 (i : Nat)] w fun e w' => e = .returned (.bool (decide (i ≤ 8) && decide (ln ≤ 65536) && l.all (fun y => fitB d y i))) ∧ Below w.heap.size w w' := by
  by_cases h8 : i ≤ 8
  rotate_left
  · have f1 : decide ((i : Int) > 8) = true := decide_eq_true (by omega)
    have f1b : decide ((8 : Int) < (i : Int)) = true := decide_eq_true (by omega)
    have f1c : decide (8 < i) = true := decide_eq_true (by omega)
    have e1 : decide (i ≤ 8) = false := decide_eq_false h8
    rw [e1]
    clear hA
    go_enter Tryz.func34, Tryz.ntmps34
    go_wp2
    all_goals go_ret
    all_goals exact ⟨by simp, Below.refl _ _⟩
  have e1 : decide (i ≤ 8) = true := decide_eq_true h8
  have f1 : decide ((i : Int) > 8) = false := decide_eq_false (by omega)
  have f1b : decide ((8 : Int) < (i : Int)) = false := decide_eq_false (by omega)
  have f1c : decide (8 < i) = false := decide_eq_false (by omega)
  by_cases h6 : ln ≤ 65536
  rotate_left
  · have f2 : decide ((ln : Int) > 65536) = true := decide_eq_true (by omega)
    have f2b : decide ((65536 : Int) < (ln : Int)) = true := decide_eq_true (by omega)
    have f2c : decide (65536 < ln) = true := decide_eq_true (by omega)
    have e2 : decide (ln ≤ 65536) = false := decide_eq_false h6
    rw [e1, e2]
    clear hA e1
    go_enter Tryz.func34, Tryz.ntmps34
    go_wp2
    all_goals go_ret
    all_goals exact ⟨by simp, Below.refl _ _⟩
  have e2 : decide (ln ≤ 65536) = true := decide_eq_true h6
  have f2 : decide ((ln : Int) > 65536) = false := decide_eq_false (by omega)
  have f2b : decide ((65536 : Int) < (ln : Int)) = false := decide_eq_false (by omega)
  have f2c : decide (65536 < ln) = false := decide_eq_false (by omega)
  rw [e1, e2, Bool.true_and, Bool.true_and]
  obtain ⟨R, hR⟩ : ∃ R, R = l.all (fun y => fitB d y i) := ⟨_, rfl⟩
  rw [← hR]
  have HR := hide hR
  have HI := hide IH
  have HA := hide hA
  have HN := hide hn
  have HU := hide hU
  have HUB := hide UB
  clear hR IH hA hn hU UB e1 e2
  go_enter Tryz.func34, Tryz.ntmps34
  go_wp2
  go_loopw [16] (fun iv wr => ∃ j : Nat, iv = .int .i64 (j : Nat) ∧ j ≤ ln ∧ Hid ((l.take j).all (fun y => fitB d y i) = true) ∧ Hid (Below w.heap.size w wr)) (fun iv _ => ln - (intOf iv).toNat)
  case atStart => exact ⟨0, rfl, Nat.zero_le _, hide (by simp), hide (Below.refl _ _)⟩
  case round =>
    obtain ⟨j, rfl, hj, hall, p⟩ := hrel
    rcases Nat.lt_or_ge j ln with hlt | hge
    · have g0 : decide ((j : Int) < (ln : Int)) = true := decide_eq_true (by omega)
      have g1 : (0 : Int) ≤ (j : Int) := by omega
      have g2 : (j : Int) < (ln : Int) := by omega
      obtain ⟨b, off, rfl, hb, hc⟩ : ∃ b off, a = some ⟨b, off, none⟩ ∧ b < w.heap.size ∧ ∀ i y, l[i]? = some y → ∃ u0 u1 u2 u3, w.cell? ⟨b, off + i * 4, none⟩ = some u0 ∧ w.cell? ⟨b, off + i * 4 + 1, none⟩ = some u1 ∧ w.cell? ⟨b, off + i * 4 + 2, none⟩ = some u2 ∧ w.cell? ⟨b, off + i * 4 + 3, none⟩ = some u3 ∧ RpAt w d y u0 u1 u2 u3 := by
        rcases unhide HA with h | h
        · have := unhide HN; rw [h] at this; simp at this; omega
        · exact h
      obtain ⟨y, hy⟩ : ∃ y, l[j]? = some y := ⟨_, List.getElem?_eq_getElem (by have := unhide HN; omega)⟩
      obtain ⟨u0, u1, u2, u3, c0, c1, c2, c3, r⟩ := hc j y hy
      have d0 : wr.cell? ⟨b, off + j * 4, none⟩ = some u0 := by rw [(unhide p).cell hb]; exact c0
      have d1 : wr.cell? ⟨b, off + j * 4 + 1, none⟩ = some u1 := by rw [(unhide p).cell hb]; exact c1
      have d2 : wr.cell? ⟨b, off + j * 4 + 2, none⟩ = some u2 := by rw [(unhide p).cell hb]; exact c2
      have d3 : wr.cell? ⟨b, off + j * 4 + 3, none⟩ = some u3 := by rw [(unhide p).cell hb]; exact c3
      have hd : d ≠ 0 := tr_pos y
      obtain ⟨d, rfl⟩ : ∃ d', d = d' + 1 := ⟨d - 1, by omega⟩
      have CF : Hid (∀ W, Hid (Below w.heap.size w W) → Calls Tryz.prog 10 #[.agg #[u0, u1, u2, u3], .int .i64 (i : Nat)] W fun e w' => ∃ q, e = .returned (.bool q) ∧ Hid (Below w.heap.size w w') ∧ Hid (q = fitB (d + 1) y i)) := hide (fun W hW => (unhide HI W y u0 u1 u2 u3 i (unhide HUB w W (unhide HU) (unhide hW)) (r.below (unhide hW)) h8).mono (fun e w' ⟨h1, h2⟩ => ⟨_, h1, hide ((unhide hW).trans (h2.mono (unhide hW).size)), hide rfl⟩))
      obtain ⟨⟨rfl, -⟩, ⟨rfl, -⟩, ⟨ta, tc, rfl, -⟩, qa, qc, rfl, -⟩ := r
      have BA : Hid (∀ o, Below w.heap.size w (wr.alloc o)) := hide (fun o => (unhide p).alloc (unhide p).size o)
      have N1 : Hid (fitB (d + 1) y i = true → (l.take (j + 1)).all (fun y => fitB (d + 1) y i) = true) := hide (fun h => all_take (fun y => fitB (d + 1) y i) hy h (unhide hall))
      have N0 : Hid (fitB (d + 1) y i = false → l.all (fun y => fitB (d + 1) y i) = false) := hide (fun h => all_false (fun y => fitB (d + 1) y i) hy h)
      clear c0 c1 c2 c3 hc hy
      go_wp2_with (go_at_call 10; refine (unhide CF _ (hide (unhide BA _))).mono ?_; rintro e w5 ⟨q, rfl, k5, hq⟩; cases q)
      · go_ret
        refine ⟨?_, unhide k5⟩
        rw [unhide HR, unhide N0 (unhide hq).symm]
        rfl
      · go_roundw
        all_goals first | exact ⟨j + 1, by go_num, by omega, hide (unhide N1 (unhide hq).symm), k5⟩ | (simp [intOf]; omega)
    · obtain rfl : j = ln := by omega
      have g0 : decide ((j : Int) < (j : Int)) = false := decide_eq_false (by omega)
      go_wp2
      go_ret
      refine ⟨?_, unhide p⟩
      have := unhide hall
      rw [unhide HN, List.take_length] at this
      rw [unhide HR, this]
      rfl
end Go.Proofs.YtecfgbjnjgjkoaaGreatDoor
