/- lentMarked: its state: the book at N + 1, the budget at N + 2; Z: lists that the book has not been handed yet, X: blocks that hold still. -/
import Derived.Test.YtidfbelckdlbhabGreatBookHold
import Derived.Test.YtidfbelckdlbhabGreatBookGrowW
import Derived.Test.YtidfbelckdlbhabGreatLoc
import Derived.Test.YtidfbelckdlbhabGreatPlc
namespace Go.Proofs.YtidfbelckdlbhabGreat.Bk
open Go.ChangeShapes Go.WideShapes Go.ChangeAt Go.RowKit
set_option linter.unusedVariables false
set_option maxRecDepth 100000
set_option maxHeartbeats 8000000

/-- a field that is set to what it was -/
theorem BookAt.again {w : World} {pb o : Nat} {tag : Nat → Nat} {S : BookSt} (h : BookAt w pb o tag S) (i : Nat) (hi : i < 33) (v : Value) (hv : S.flds.set i v = S.flds) : BookAt (w.setCell ⟨pb, o + i, none⟩ v) pb o tag S ∧ Noted pb o tag tag w (w.setCell ⟨pb, o + i, none⟩ v) := by
  have hm := h.mid.set i hi v
  rw [hv] at hm
  exact ⟨⟨hm.fl, hm.hb, hm.hu, hm.un, hm.tp, h.eb, h.eu, h.nb, h.nu, h.cnt, h.us, h.tn⟩, hm.no⟩
theorem grow79_any {w : World} {pb o : Nat} {tag : Nat → Nat} {S : BookSt} (h : BookAt w pb o tag S) :
    Calls Tryz.prog 69 #[.pointer (some ⟨pb, o, none⟩)] w fun e w' => e = .returned (.tuple #[]) ∧ BookAt w' pb o tag S ∧ Noted pb o tag tag w w' := by
  have c0 : w.cell? ⟨pb, o + 3, none⟩ = some (.slice none 0 0) := h.fl.c 3 (by decide)
  have c2 : w.cell? ⟨pb, o + 5, none⟩ = some (.int .i64 0) := h.fl.c 5 (by decide)
  have f2 := h.fl.f 5 (by decide)
  have HEN := hide (h.again 5 (by decide) (.int .i64 0) rfl)
  clear h
  go_enter Tryz.func69, Tryz.ntmps69
  go_wp2_with fail
  go_loopw [3, 4] (fun i _ wz => i = .int .i64 0 ∧ wz = w) (fun _ _ _ => 0)
  case atStart => exact ⟨rfl, rfl⟩
  case round =>
    obtain ⟨rfl, hww⟩ := hrel
    obtain rfl := hww.symm
    go_wp2
    go_end0
    exact ⟨rfl, unhide HEN⟩
theorem grow81_any {w : World} {pb o : Nat} {tag : Nat → Nat} {S : BookSt} (h : BookAt w pb o tag S) :
    Calls Tryz.prog 71 #[.pointer (some ⟨pb, o, none⟩)] w fun e w' => e = .returned (.tuple #[]) ∧ BookAt w' pb o tag S ∧ Noted pb o tag tag w w' := by
  have c0 : w.cell? ⟨pb, o + 9, none⟩ = some (.slice none 0 0) := h.fl.c 9 (by decide)
  have c2 : w.cell? ⟨pb, o + 11, none⟩ = some (.int .i64 0) := h.fl.c 11 (by decide)
  have f2 := h.fl.f 11 (by decide)
  have HEN := hide (h.again 11 (by decide) (.int .i64 0) rfl)
  clear h
  go_enter Tryz.func71, Tryz.ntmps71
  go_wp2_with fail
  go_loopw [3, 4] (fun i _ wz => i = .int .i64 0 ∧ wz = w) (fun _ _ _ => 0)
  case atStart => exact ⟨rfl, rfl⟩
  case round =>
    obtain ⟨rfl, hww⟩ := hrel
    obtain rfl := hww.symm
    go_wp2
    go_end0
    exact ⟨rfl, unhide HEN⟩
theorem grow82_any {w : World} {pb o : Nat} {tag : Nat → Nat} {S : BookSt} (h : BookAt w pb o tag S) :
    Calls Tryz.prog 72 #[.pointer (some ⟨pb, o, none⟩)] w fun e w' => e = .returned (.tuple #[]) ∧ BookAt w' pb o tag S ∧ Noted pb o tag tag w w' := by
  have c0 : w.cell? ⟨pb, o + 12, none⟩ = some (.slice none 0 0) := h.fl.c 12 (by decide)
  have c2 : w.cell? ⟨pb, o + 14, none⟩ = some (.int .i64 0) := h.fl.c 14 (by decide)
  have f2 := h.fl.f 14 (by decide)
  have HEN := hide (h.again 14 (by decide) (.int .i64 0) rfl)
  clear h
  go_enter Tryz.func72, Tryz.ntmps72
  go_wp2_with fail
  go_loopw [3, 4] (fun i _ wz => i = .int .i64 0 ∧ wz = w) (fun _ _ _ => 0)
  case atStart => exact ⟨rfl, rfl⟩
  case round =>
    obtain ⟨rfl, hww⟩ := hrel
    obtain rfl := hww.symm
    go_wp2
    go_end0
    exact ⟨rfl, unhide HEN⟩
theorem grow83_any {w : World} {pb o : Nat} {tag : Nat → Nat} {S : BookSt} (h : BookAt w pb o tag S) :
    Calls Tryz.prog 73 #[.pointer (some ⟨pb, o, none⟩)] w fun e w' => e = .returned (.tuple #[]) ∧ BookAt w' pb o tag S ∧ Noted pb o tag tag w w' := by
  have c0 : w.cell? ⟨pb, o + 15, none⟩ = some (.slice none 0 0) := h.fl.c 15 (by decide)
  have c2 : w.cell? ⟨pb, o + 17, none⟩ = some (.int .i64 0) := h.fl.c 17 (by decide)
  have f2 := h.fl.f 17 (by decide)
  have HEN := hide (h.again 17 (by decide) (.int .i64 0) rfl)
  clear h
  go_enter Tryz.func73, Tryz.ntmps73
  go_wp2_with fail
  go_loopw [3, 4] (fun i _ wz => i = .int .i64 0 ∧ wz = w) (fun _ _ _ => 0)
  case atStart => exact ⟨rfl, rfl⟩
  case round =>
    obtain ⟨rfl, hww⟩ := hrel
    obtain rfl := hww.symm
    go_wp2
    go_end0
    exact ⟨rfl, unhide HEN⟩
theorem grow84_any {w : World} {pb o : Nat} {tag : Nat → Nat} {S : BookSt} (h : BookAt w pb o tag S) :
    Calls Tryz.prog 74 #[.pointer (some ⟨pb, o, none⟩)] w fun e w' => e = .returned (.tuple #[]) ∧ BookAt w' pb o tag S ∧ Noted pb o tag tag w w' := by
  have c0 : w.cell? ⟨pb, o + 18, none⟩ = some (.slice none 0 0) := h.fl.c 18 (by decide)
  have c2 : w.cell? ⟨pb, o + 20, none⟩ = some (.int .i64 0) := h.fl.c 20 (by decide)
  have f2 := h.fl.f 20 (by decide)
  have HEN := hide (h.again 20 (by decide) (.int .i64 0) rfl)
  clear h
  go_enter Tryz.func74, Tryz.ntmps74
  go_wp2_with fail
  go_loopw [3, 4] (fun i _ wz => i = .int .i64 0 ∧ wz = w) (fun _ _ _ => 0)
  case atStart => exact ⟨rfl, rfl⟩
  case round =>
    obtain ⟨rfl, hww⟩ := hrel
    obtain rfl := hww.symm
    go_wp2
    go_end0
    exact ⟨rfl, unhide HEN⟩
theorem grow85_any {w : World} {pb o : Nat} {tag : Nat → Nat} {S : BookSt} (h : BookAt w pb o tag S) :
    Calls Tryz.prog 75 #[.pointer (some ⟨pb, o, none⟩)] w fun e w' => e = .returned (.tuple #[]) ∧ BookAt w' pb o tag S ∧ Noted pb o tag tag w w' := by
  have c0 : w.cell? ⟨pb, o + 21, none⟩ = some (.slice none 0 0) := h.fl.c 21 (by decide)
  have c2 : w.cell? ⟨pb, o + 23, none⟩ = some (.int .i64 0) := h.fl.c 23 (by decide)
  have f2 := h.fl.f 23 (by decide)
  have HEN := hide (h.again 23 (by decide) (.int .i64 0) rfl)
  clear h
  go_enter Tryz.func75, Tryz.ntmps75
  go_wp2_with fail
  go_loopw [3, 4] (fun i _ wz => i = .int .i64 0 ∧ wz = w) (fun _ _ _ => 0)
  case atStart => exact ⟨rfl, rfl⟩
  case round =>
    obtain ⟨rfl, hww⟩ := hrel
    obtain rfl := hww.symm
    go_wp2
    go_end0
    exact ⟨rfl, unhide HEN⟩
theorem grow86_any {w : World} {pb o : Nat} {tag : Nat → Nat} {S : BookSt} (h : BookAt w pb o tag S) :
    Calls Tryz.prog 76 #[.pointer (some ⟨pb, o, none⟩)] w fun e w' => e = .returned (.tuple #[]) ∧ BookAt w' pb o tag S ∧ Noted pb o tag tag w w' := by
  have c0 : w.cell? ⟨pb, o + 24, none⟩ = some (.slice none 0 0) := h.fl.c 24 (by decide)
  have c2 : w.cell? ⟨pb, o + 26, none⟩ = some (.int .i64 0) := h.fl.c 26 (by decide)
  have f2 := h.fl.f 26 (by decide)
  have HEN := hide (h.again 26 (by decide) (.int .i64 0) rfl)
  clear h
  go_enter Tryz.func76, Tryz.ntmps76
  go_wp2_with fail
  go_loopw [3, 4] (fun i _ wz => i = .int .i64 0 ∧ wz = w) (fun _ _ _ => 0)
  case atStart => exact ⟨rfl, rfl⟩
  case round =>
    obtain ⟨rfl, hww⟩ := hrel
    obtain rfl := hww.symm
    go_wp2
    go_end0
    exact ⟨rfl, unhide HEN⟩
theorem grow87_any {w : World} {pb o : Nat} {tag : Nat → Nat} {S : BookSt} (h : BookAt w pb o tag S) :
    Calls Tryz.prog 77 #[.pointer (some ⟨pb, o, none⟩)] w fun e w' => e = .returned (.tuple #[]) ∧ BookAt w' pb o tag S ∧ Noted pb o tag tag w w' := by
  have c0 : w.cell? ⟨pb, o + 27, none⟩ = some (.slice none 0 0) := h.fl.c 27 (by decide)
  have c2 : w.cell? ⟨pb, o + 29, none⟩ = some (.int .i64 0) := h.fl.c 29 (by decide)
  have f2 := h.fl.f 29 (by decide)
  have HEN := hide (h.again 29 (by decide) (.int .i64 0) rfl)
  clear h
  go_enter Tryz.func77, Tryz.ntmps77
  go_wp2_with fail
  go_loopw [3, 4] (fun i _ wz => i = .int .i64 0 ∧ wz = w) (fun _ _ _ => 0)
  case atStart => exact ⟨rfl, rfl⟩
  case round =>
    obtain ⟨rfl, hww⟩ := hrel
    obtain rfl := hww.symm
    go_wp2
    go_end0
    exact ⟨rfl, unhide HEN⟩
theorem BookAt.done {w : World} {pb o : Nat} {tag : Nat → Nat} {S : BookSt} (h : BookAt w pb o tag S) : BookAt (w.setCell ⟨pb, o + 31, none⟩ (intV S.turn)) pb o tag { S with done := S.turn } ∧ Noted pb o tag tag w (w.setCell ⟨pb, o + 31, none⟩ (intV S.turn)) := by
  have hm := h.mid.set 31 (by decide) (intV S.turn)
  exact ⟨⟨hm.fl, hm.hb, hm.hu, hm.un, hm.tp, h.eb, h.eu, h.nb, h.nu, h.cnt, h.us, h.tn⟩, hm.no⟩
theorem grow_any {w : World} {pb o : Nat} {tag : Nat → Nat} {S : BookSt} (h : BookAt w pb o tag S) :
    Calls Tryz.prog 44 #[.pointer (some ⟨pb, o, none⟩)] w fun e w' => e = .returned (.tuple #[]) ∧ ∃ tag' S', BookAt w' pb o tag' S' ∧ S'.turn = S.turn ∧ Noted pb o tag tag' w w' := by
  have H0 := hide (growBytes_any h)
  clear h
  go_enter Tryz.func44, Tryz.ntmps44
  go_wp2_with fail
  refine (unhide H0).mono ?_
  rintro e w0 ⟨rfl, t0, S0, b0, q0, _, n0⟩
  have HQ := hide q0
  clear q0
  have H1 := hide (grow79_any b0)
  have HN1 := hide n0
  clear b0 n0
  go_wp2_with fail
  refine (unhide H1).mono ?_
  rintro e w1 ⟨rfl, b1, m1⟩
  have n1 := (unhide HN1).trans m1
  clear HN1 H1 m1
  have H2 := hide (growWords_any b1)
  have HN2 := hide n1
  clear b1 n1
  go_wp2_with fail
  refine (unhide H2).mono ?_
  rintro e w2 ⟨rfl, t2, S2, b2, q2, _, m2⟩
  have n2 := (unhide HN2).trans m2
  have HR := hide (q2.trans (unhide HQ))
  clear HN2 H2 m2 q2 HQ
  have H3 := hide (grow81_any b2)
  have HN3 := hide n2
  clear b2 n2
  go_wp2_with fail
  refine (unhide H3).mono ?_
  rintro e w3 ⟨rfl, b3, m3⟩
  have n3 := (unhide HN3).trans m3
  clear HN3 H3 m3
  have H4 := hide (grow82_any b3)
  have HN4 := hide n3
  clear b3 n3
  go_wp2_with fail
  refine (unhide H4).mono ?_
  rintro e w4 ⟨rfl, b4, m4⟩
  have n4 := (unhide HN4).trans m4
  clear HN4 H4 m4
  have H5 := hide (grow83_any b4)
  have HN5 := hide n4
  clear b4 n4
  go_wp2_with fail
  refine (unhide H5).mono ?_
  rintro e w5 ⟨rfl, b5, m5⟩
  have n5 := (unhide HN5).trans m5
  clear HN5 H5 m5
  have H6 := hide (grow84_any b5)
  have HN6 := hide n5
  clear b5 n5
  go_wp2_with fail
  refine (unhide H6).mono ?_
  rintro e w6 ⟨rfl, b6, m6⟩
  have n6 := (unhide HN6).trans m6
  clear HN6 H6 m6
  have H7 := hide (grow85_any b6)
  have HN7 := hide n6
  clear b6 n6
  go_wp2_with fail
  refine (unhide H7).mono ?_
  rintro e w7 ⟨rfl, b7, m7⟩
  have n7 := (unhide HN7).trans m7
  clear HN7 H7 m7
  have H8 := hide (grow86_any b7)
  have HN8 := hide n7
  clear b7 n7
  go_wp2_with fail
  refine (unhide H8).mono ?_
  rintro e w8 ⟨rfl, b8, m8⟩
  have n8 := (unhide HN8).trans m8
  clear HN8 H8 m8
  have H9 := hide (grow87_any b8)
  have HN9 := hide n8
  clear b8 n8
  go_wp2_with fail
  refine (unhide H9).mono ?_
  rintro e w9 ⟨rfl, b9, m9⟩
  have n9 := (unhide HN9).trans m9
  clear HN9 H9 m9
  have c30 : w9.cell? ⟨pb, o + 30, none⟩ = some (.int .i64 (S2.turn : Nat)) := b9.fl.c 30 (by decide)
  have c31 : w9.cell? ⟨pb, o + 31, none⟩ = some (.int .i64 (S2.done : Nat)) := b9.fl.c 31 (by decide)
  have f31 := b9.fl.f 31 (by decide)
  have HEN : Hid (∃ tag' S', BookAt (w9.setCell ⟨pb, o + 31, none⟩ (.int .i64 (S2.turn : Nat))) pb o tag' S' ∧ S'.turn = S.turn ∧ Noted pb o tag tag' w (w9.setCell ⟨pb, o + 31, none⟩ (.int .i64 (S2.turn : Nat)))) := hide ⟨_, _, b9.done.1, unhide HR, n9.trans b9.done.2⟩
  clear b9 n9
  go_wp2
  go_end0
  exact ⟨rfl, unhide HEN⟩
theorem look_any {w : World} {pb o : Nat} {tag : Nat → Nat} {S : BookSt} (h : BookAt w pb o tag S) :
    Calls Tryz.prog 21 #[.pointer (some ⟨pb, o, none⟩)] w fun e w' => e = .returned (.bool true) ∧ ∃ tag' S', BookAt w' pb o tag' S' ∧ S'.turn = S.turn ∧ Noted pb o tag tag' w w' := by
  have H1 := hide (bookholds_any h)
  have HB := hide (fun w' (k : Still w w') => h.still k)
  clear h
  go_enter Tryz.func21, Tryz.ntmps21
  go_wp2_with fail
  refine (unhide H1).mono ?_
  rintro e w1 ⟨rfl, k1⟩
  have b1 := unhide HB w1 k1
  have c30 : w1.cell? ⟨pb, o + 30, none⟩ = some (.int .i64 (S.turn : Nat)) := b1.fl.c 30 (by decide)
  have c31 : w1.cell? ⟨pb, o + 31, none⟩ = some (.int .i64 (S.done : Nat)) := b1.fl.c 31 (by decide)
  have HK1 := hide k1
  clear b1 k1 H1
  by_cases hd : S.done = S.turn
  · have d1 : ((S.done : Int) == (S.turn : Int)) = true := by rw [hd]; simp
    have d1' : (S.done == S.turn) = true := by rw [hd]; simp
    clear hd
    go_wp2_with fail
    go_quiet (fail)
    have k2 := (unhide HK1).drew nq
    have HE : Hid (∃ tag' S', BookAt (w1.drewN nq) pb o tag' S' ∧ S'.turn = S.turn ∧ Noted pb o tag tag' w (w1.drewN nq)) := hide ⟨tag, S, unhide HB _ k2, rfl, k2.noted pb o tag⟩
    clear k2 HK1 c30 c31
    generalize w1.drewN nq = w2 at *
    go_wp2
    go_ret
    exact ⟨rfl, unhide HE⟩
  · have d1 : ((S.done : Int) == (S.turn : Int)) = false := by rw [beq_eq_false_iff_ne]; omega
    have d1' : (S.done == S.turn) = false := by rw [beq_eq_false_iff_ne]; exact hd
    clear hd
    go_wp2_with fail
    go_quiet (fail)
    have k2 := (unhide HK1).drew nq
    have H2 := hide (grow_any (unhide HB _ k2))
    have HN1 := hide (k2.noted pb o tag)
    clear k2 HK1 c30 c31
    generalize w1.drewN nq = w8 at *
    go_wp2_with fail
    refine (unhide H2).mono ?_
    rintro e w2 ⟨rfl, t2, S2, b2, q2, n2⟩
    have n12 := (unhide HN1).trans n2
    have H3 := hide (bookholds_any b2)
    have HB2 := hide b2
    have HN2 := hide n12
    have HQ2 := hide q2
    clear b2 n2 n12 q2 HN1 H2
    go_wp2_with fail
    refine (unhide H3).mono ?_
    rintro e w3 ⟨rfl, k3⟩
    have b3 := (unhide HB2).still k3
    have n3 := (unhide HN2).trans (k3.noted pb o t2)
    have HE : Hid (∃ tag' S', BookAt w3 pb o tag' S' ∧ S'.turn = S.turn ∧ Noted pb o tag tag' w w3) := hide ⟨t2, S2, b3, unhide HQ2, n3⟩
    clear b3 n3 k3
    go_wp2
    go_ret
    exact ⟨rfl, unhide HE⟩
end Go.Proofs.YtidfbelckdlbhabGreat.Bk
namespace Go.Proofs.YtidfbelckdlbhabGreat
open Go.ChangeShapes Go.WideShapes Go.ChangeAt Go.RowKit
set_option linter.unusedVariables false
set_option linter.unusedSimpArgs false
set_option maxRecDepth 20000
set_option maxHeartbeats 4000000

theorem bookAt_keep {w w' : World} {pb o : Nat} {tag : Nat → Nat} {S : Bk.BookSt} (h : Bk.BookAt w pb o tag S) (hs : w.heap.size ≤ w'.heap.size) (hb : ∀ g, tag g ≠ 0 → w'.heap[g]? = w.heap[g]?) (hp : w'.heap[pb]? = w.heap[pb]?) : Bk.BookAt w' pb o tag S :=
  ⟨h.fl.same hp hs, h.hb.same hb (Nat.le_refl _), h.hu.same hb (Nat.le_refl _), fun g hg => Nat.lt_of_lt_of_le (h.un g hg) hs, h.tp, h.eb, h.eu, h.nb, h.nu, h.cnt, h.us, h.tn⟩
theorem Rws.line {w : World} {t : TypeId} {v : Value} {n : Nat} {f : Nat → Value} (h : Rws w t 1 v n f) : Bk.Line w t v n f := by
  rcases h with h | ⟨b, cap, cur, h1, h2, h3, h4, h5, h6⟩
  · exact .inl h
  · exact .inr ⟨b, cap, cur, h1, h2, h3, h4, by omega, fun j hj => h6 j (by omega)⟩
structure MsT (w1 W : World) (N : Nat) (tg : Nat → Nat) (S : Bk.BookSt) (m : Nat) (Z : List (Value × List Nat)) (X : List (Nat × Obj)) : Prop where
  bk : Bk.BookAt W (N + 1) 0 tg S
  bud : W.heap[N + 1 + 1]? = some (.cells #[.int .i64 (m : Nat)] 56 (0, 0))
  tb : tg (N + 1 + 1) = 0
  old : ∀ b, b ≤ N → tg b = 0
  pen : ∀ z ∈ Z, Rws W 5 1 z.1 z.2.length (byV z.2) ∧ ∀ g, z.1.ownBlock = some g → tg g = 0 ∧ N + 1 + 1 < g
  apart : Z.Pairwise (fun x y => ∀ g, x.1.ownBlock = some g → y.1.ownBlock ≠ some g)
  blk : ∀ x ∈ X, tg x.1 = 0 ∧ N + 1 + 1 < x.1 ∧ W.heap[x.1]? = some x.2 ∧ ∀ z ∈ Z, z.1.ownBlock ≠ some x.1
  kept : Kept (fun b => N < b) w1 W
  sz1 : N < w1.heap.size
def Ms (w1 W : World) (N t m : Nat) (Z : List (Value × List Nat)) (X : List (Nat × Obj)) : Prop := ∃ tg S, S.turn ≤ t ∧ MsT w1 W N tg S m Z X
theorem MsT.lt {w1 W : World} {N m : Nat} {tg : Nat → Nat} {S : Bk.BookSt} {Z : List (Value × List Nat)} {X : List (Nat × Obj)} (h : MsT w1 W N tg S m Z X) : N + 1 + 1 < W.heap.size := block_lt h.bud
theorem MsT.below {w1 W W' : World} {N m : Nat} {tg : Nat → Nat} {S : Bk.BookSt} {Z : List (Value × List Nat)} {X : List (Nat × Obj)} (h : MsT w1 W N tg S m Z X) (hb : Below W.heap.size W W') : MsT w1 W' N tg S m Z X := by
  have hN := h.lt
  refine ⟨bookAt_keep h.bk hb.size (fun g hg => hb.block g (h.bk.un g hg)) (hb.block _ (by omega)), (hb.block _ hN).trans h.bud, h.tb, h.old, fun z hz => ?_, h.apart, fun x hx => ?_, h.kept.trans (Kept.below hb), h.sz1⟩
  · obtain ⟨r1, r2⟩ := h.pen z hz
    exact ⟨r1.below hb, r2⟩
  · obtain ⟨r1, r2, r3, r4⟩ := h.blk x hx
    exact ⟨r1, r2, (hb.block _ (block_lt r3)).trans r3, r4⟩
theorem Ms.below {w1 W W' : World} {N t m : Nat} {Z : List (Value × List Nat)} {X : List (Nat × Obj)} (h : Ms w1 W N t m Z X) (hb : Below W.heap.size W W') : Ms w1 W' N t m Z X := by
  obtain ⟨tg, S, ht, h⟩ := h
  exact ⟨tg, S, ht, h.below hb⟩
theorem Ms.lt {w1 W : World} {N t m : Nat} {Z : List (Value × List Nat)} {X : List (Nat × Obj)} (h : Ms w1 W N t m Z X) : N + 1 + 1 < W.heap.size := by
  obtain ⟨tg, S, ht, h⟩ := h
  exact h.lt
/-- new lists and new blocks -/
theorem Ms.more {w1 W W' : World} {N t m : Nat} {X : List (Nat × Obj)} (h : Ms w1 W N t m [] X) (hb : Below W.heap.size W W') (Z : List (Value × List Nat)) (hZ : ∀ z ∈ Z, Rws W' 5 1 z.1 z.2.length (byV z.2) ∧ ∀ g, z.1.ownBlock = some g → W.heap.size ≤ g) (ap : Z.Pairwise (fun x y => ∀ g, x.1.ownBlock = some g → y.1.ownBlock ≠ some g)) (X' : List (Nat × Obj)) (hX : ∀ x ∈ X', W.heap.size ≤ x.1 ∧ W'.heap[x.1]? = some x.2 ∧ ∀ z ∈ Z, z.1.ownBlock ≠ some x.1) : Ms w1 W' N t m Z (X' ++ X) := by
  obtain ⟨tg, S, ht, h⟩ := h
  have q := h.below hb
  have hN := h.lt
  have t0 : ∀ g, W.heap.size ≤ g → tg g = 0 := fun g hg => Classical.byContradiction (fun e => by have := h.bk.un g e; omega)
  refine ⟨tg, S, ht, ⟨q.bk, q.bud, q.tb, q.old, fun z hz => ⟨(hZ z hz).1, fun g hg => ⟨t0 g ((hZ z hz).2 g hg), by have := (hZ z hz).2 g hg; omega⟩⟩, ap, fun x hx => ?_, q.kept, q.sz1⟩⟩
  rcases List.mem_append.1 hx with hx | hx
  · obtain ⟨r1, r2, r3⟩ := hX x hx
    exact ⟨t0 _ r1, by omega, r2, r3⟩
  · obtain ⟨r1, r2, r3, -⟩ := q.blk x hx
    refine ⟨r1, r2, r3, fun z hz e => ?_⟩
    have h1 := (hZ z hz).2 _ e
    have h2 := block_lt (h.blk x hx).2.2.1
    omega
theorem Ms.forget {w1 W : World} {N t m : Nat} {Z : List (Value × List Nat)} {X : List (Nat × Obj)} (h : Ms w1 W N t m Z X) : Ms w1 W N t m Z [] := by
  obtain ⟨tg, S, ht, h⟩ := h
  exact ⟨tg, S, ht, ⟨h.bk, h.bud, h.tb, h.old, h.pen, h.apart, fun x hx => (by cases hx), h.kept, h.sz1⟩⟩
theorem Ms.later {w1 W : World} {N t t' m : Nat} {Z : List (Value × List Nat)} {X : List (Nat × Obj)} (h : Ms w1 W N t m Z X) (ht : t ≤ t') : Ms w1 W N t' m Z X := by
  obtain ⟨tg, S, hS, h⟩ := h
  exact ⟨tg, S, Nat.le_trans hS ht, h⟩
/-- the budget's cell -/
theorem Ms.spend {w1 W : World} {N t m k : Nat} {Z : List (Value × List Nat)} {X : List (Nat × Obj)} (h : Ms w1 W N t m Z X) : Ms w1 (W.setCell ⟨N + 1 + 1, 0, none⟩ (.int .i64 (k : Nat))) N t k Z X := by
  obtain ⟨tg, S, ht, h⟩ := h
  have hN := h.lt
  have sz : (W.setCell ⟨N + 1 + 1, 0, none⟩ (.int .i64 (k : Nat))).heap.size = W.heap.size := by simp
  have oth : ∀ g, g ≠ N + 1 + 1 → (W.setCell ⟨N + 1 + 1, 0, none⟩ (.int .i64 (k : Nat))).heap[g]? = W.heap[g]? := fun g hg => Bk.setCell_else W _ _ g _ hg
  refine ⟨tg, S, ht, ⟨bookAt_keep h.bk (by omega) (fun g hg => oth g (fun e => hg (by rw [e]; exact h.tb))) (oth _ (by omega)), ?_, h.tb, h.old, fun z hz => ?_, h.apart, fun x hx => ?_, h.kept.trans ⟨rfl, rfl, rfl, by omega, fun b hb hS => oth b (by omega)⟩, h.sz1⟩⟩
  · rw [Bk.setCell_block W _ 0 _ _ _ _ h.bud]; rfl
  · obtain ⟨r1, r2⟩ := h.pen z hz
    exact ⟨r1.same (fun g hg => oth g (by have := (r2 g hg).2; omega)), r2⟩
  · obtain ⟨r1, r2, r3, r4⟩ := h.blk x hx
    exact ⟨r1, r2, (oth _ (by omega)).trans r3, r4⟩
theorem Ms.budget {w1 W : World} {N t m : Nat} {Z : List (Value × List Nat)} {X : List (Nat × Obj)} (h : Ms w1 W N t m Z X) : W.heap[N + 1 + 1]? = some (.cells #[.int .i64 (m : Nat)] 56 (0, 0)) := by
  obtain ⟨tg, S, ht, h⟩ := h
  exact h.bud
/-- Book.Bytes -/
theorem Ms.hand {w1 W0 W : World} {N t m : Nat} {Z : List (Value × List Nat)} {X : List (Nat × Obj)} {v : Value} {l : List Nat} (h : Ms w1 W0 N t m ((v, l) :: Z) X) (hb : Below W0.heap.size W0 W) (ht : t < 1000000) (hl : l.length ≤ 281474976710656) :
    Calls Tryz.prog 20 #[.pointer (some ⟨N + 1, 0, none⟩), v] W fun e w' => e = .returned (.tuple #[]) ∧ Hid (Ms w1 w' N (t + 1) m Z X) := by
  obtain ⟨tg, S, hS, h0⟩ := h
  have h := h0.below hb
  have hN := h.lt
  have hv := h.pen _ (List.mem_cons_self ..)
  refine (Bk.take_bytes h.bk (by omega) v l.length (byV l) hv.1.line (fun g hg => ⟨(hv.2 g hg).1, by have := (hv.2 g hg).2; omega⟩) hl).mono ?_
  rintro e w' ⟨rfl, tag', S', b1, b2, b3⟩
  have ap := List.pairwise_cons.1 h.apart
  have at0 : ∀ g, tg g = 0 → v.ownBlock ≠ some g → Bk.tagAt tg v (10 + 2 * (S.turn + 1)) g = 0 := fun g h1 h2 => by unfold Bk.tagAt; rw [if_neg h2]; exact h1
  have kp : ∀ g, g < W.heap.size → g ≠ N + 1 → tg g = 0 → v.ownBlock ≠ some g → w'.heap[g]? = W.heap[g]? ∧ tag' g = 0 := fun g h1 h2 h3 h4 => ⟨b3.blk g h1 (at0 g h3 h4) h2, (b3.tg g h1).trans (at0 g h3 h4)⟩
  have nv : ∀ g, g ≤ N + 1 + 1 → v.ownBlock ≠ some g := fun g hg e => by have := (hv.2 g e).2; omega
  refine ⟨rfl, hide ⟨tag', S', by omega, ⟨b1, ?_, ?_, fun b hb => ?_, fun z hz => ?_, ap.2, fun x hx => ?_, h.kept.trans ⟨b3.os, b3.tape, b3.output, b3.size, fun b hb hS => (kp b hb (by omega) (h.old b (by omega)) (nv b (by omega))).1⟩, h.sz1⟩⟩⟩
  · exact (kp _ hN (by omega) h.tb (nv _ (Nat.le_refl _))).1.trans h.bud
  · exact (kp _ hN (by omega) h.tb (nv _ (Nat.le_refl _))).2
  · exact (kp b (by omega) (by omega) (h.old b hb) (nv b (by omega))).2
  · obtain ⟨r1, r2⟩ := h.pen z (List.mem_cons_of_mem _ hz)
    have k := fun g hg => kp g (r1.lt g hg) (by have := (r2 g hg).2; omega) (r2 g hg).1 (fun e => ap.1 z hz g e hg)
    exact ⟨r1.same (fun g hg => (k g hg).1), fun g hg => ⟨(k g hg).2, (r2 g hg).2⟩⟩
  · obtain ⟨r1, r2, r3, r4⟩ := h.blk x hx
    have k := kp x.1 (block_lt r3) (by omega) r1 (r4 _ (List.mem_cons_self ..))
    exact ⟨k.2, r2, k.1.trans r3, fun z hz => r4 z (List.mem_cons_of_mem _ hz)⟩
/-- Book.Look -/
theorem Ms.look {w1 W : World} {N t m : Nat} {Z : List (Value × List Nat)} {X : List (Nat × Obj)} (h : Ms w1 W N t m Z X) :
    Calls Tryz.prog 21 #[.pointer (some ⟨N + 1, 0, none⟩)] W fun e w' => e = .returned (.bool true) ∧ Hid (Ms w1 w' N t m Z X) := by
  obtain ⟨tg, S, hS, h⟩ := h
  have hN := h.lt
  refine (Bk.look_any h.bk).mono ?_
  rintro e w' ⟨rfl, tag', S', b1, b2, b3⟩
  have kp : ∀ g, g < W.heap.size → g ≠ N + 1 → tg g = 0 → w'.heap[g]? = W.heap[g]? ∧ tag' g = 0 := fun g h1 h2 h3 => ⟨b3.blk g h1 h3 h2, (b3.tg g h1).trans h3⟩
  refine ⟨rfl, hide ⟨tag', S', by omega, ⟨b1, ?_, ?_, fun b hb => ?_, fun z hz => ?_, h.apart, fun x hx => ?_, h.kept.trans ⟨b3.os, b3.tape, b3.output, b3.size, fun b hb hS => (kp b hb (by omega) (h.old b (by omega))).1⟩, h.sz1⟩⟩⟩
  · exact (kp _ hN (by omega) h.tb).1.trans h.bud
  · exact (kp _ hN (by omega) h.tb).2
  · exact (kp b (by omega) (by omega) (h.old b hb)).2
  · obtain ⟨r1, r2⟩ := h.pen z hz
    have k := fun g hg => kp g (r1.lt g hg) (by have := (r2 g hg).2; omega) (r2 g hg).1
    exact ⟨r1.same (fun g hg => (k g hg).1), fun g hg => ⟨(k g hg).2, (r2 g hg).2⟩⟩
  · obtain ⟨r1, r2, r3, r4⟩ := h.blk x hx
    have k := kp x.1 (block_lt r3) (by omega) r1
    exact ⟨k.2, r2, k.1.trans r3, r4⟩
theorem Ms.bytes {w1 W : World} {N t m : Nat} {Z : List (Value × List Nat)} {X : List (Nat × Obj)} (h : Ms w1 W N t m Z X) {a : Option Addr} {l : List Nat} (hB : Bytes w1 a l) (h0 : ∀ b off, 0 < l.length → a = some ⟨b, off, none⟩ → b ≤ N) : Bytes W a l := by
  obtain ⟨tg, S, hS, h⟩ := h
  rcases hB with e | ⟨b, off, rfl, hb, hc⟩
  · exact .inl e
  · rcases Nat.eq_zero_or_pos l.length with q | q
    · exact .inl (List.eq_nil_of_length_eq_zero q)
    · have hbN := h0 b off q rfl
      have hblk := h.kept.blk b hb (by omega)
      refine .inr ⟨b, off, rfl, Nat.lt_of_lt_of_le hb h.kept.size, fun i hi => ?_⟩
      rw [← hc i hi]
      unfold World.cell?
      rw [hblk]
theorem Ms.cell {w1 W : World} {N t m : Nat} {Z : List (Value × List Nat)} {X : List (Nat × Obj)} (h : Ms w1 W N t m Z X) {b j : Nat} (hb : b ≤ N) : W.cell? ⟨b, j, none⟩ = w1.cell? ⟨b, j, none⟩ := by
  obtain ⟨tg, S, hS, h⟩ := h
  have hblk := h.kept.blk b (Nat.lt_of_le_of_lt hb h.sz1) (by omega)
  unfold World.cell?
  rw [hblk]
theorem Ms.at {w1 W : World} {N t m : Nat} {Z : List (Value × List Nat)} {X : List (Nat × Obj)} (h : Ms w1 W N t m Z X) (b : Nat) (o : Obj) (hx : (b, o) ∈ X) : W.heap[b]? = some o := by
  obtain ⟨tg, S, hS, h⟩ := h
  exact (h.blk _ hx).2.2.1
theorem Ms.kept {w1 W : World} {N t m : Nat} {Z : List (Value × List Nat)} {X : List (Nat × Obj)} (h : Ms w1 W N t m Z X) : Kept (fun b => N < b) w1 W := by
  obtain ⟨tg, S, hS, h⟩ := h
  exact h.kept
theorem Ms.start {W : World} (N : Nat) (h1 : W.heap[N + 1]? = some (.cells #[.slice none 0 0, .slice none 0 0, .int .i64 0, .slice none 0 0, .slice none 0 0, .int .i64 0, .slice none 0 0, .slice none 0 0, .int .i64 0, .slice none 0 0, .slice none 0 0, .int .i64 0, .slice none 0 0, .slice none 0 0, .int .i64 0, .slice none 0 0, .slice none 0 0, .int .i64 0, .slice none 0 0, .slice none 0 0, .int .i64 0, .slice none 0 0, .slice none 0 0, .int .i64 0, .slice none 0 0, .slice none 0 0, .int .i64 0, .slice none 0 0, .slice none 0 0, .int .i64 0, .int .i64 0, .int .i64 0, .int .i64 0] 53 (0, 0))) (h2 : W.heap[N + 1 + 1]? = some (.cells #[.int .i64 ((0 : Nat) : Int)] 56 (0, 0))) : Ms W W N 0 0 [] [] := by
  have half : ∀ (c : Nat) (te tl : TypeId) (mk : Nat → Nat → Value), Bk.Half c te tl mk W (fun _ => 0) 0 ⟨Bk.nilS, Bk.nilS, [], [], 0⟩ := fun c te tl mk => ⟨.inl ⟨rfl, rfl⟩, .inl ⟨rfl, rfl⟩, fun g hg => by simp [Bk.nilS, Value.ownBlock] at hg, fun g hg => by simp [Bk.nilS, Value.ownBlock] at hg, fun j hj => by simp at hj, fun j _ hj => by simp at hj, by simp⟩
  refine ⟨fun _ => 0, ⟨⟨Bk.nilS, Bk.nilS, [], [], 0⟩, ⟨Bk.nilS, Bk.nilS, [], [], 0⟩, 0, 0, 0⟩, Nat.le_refl _, ⟨⟨⟨fun i hi => ?_, fun i hi => ?_, block_lt h1⟩, half _ _ _ _, half _ _ _ _, fun g hg => absurd rfl hg, rfl, rfl, rfl, Nat.le_refl _, Nat.le_refl _, by decide, by decide, by decide⟩, h2, rfl, fun b hb => rfl, fun z hz => (by cases hz), List.Pairwise.nil, fun x hx => (by cases hx), Kept.refl _ _, by have := block_lt h1; omega⟩⟩
  · simp only [World.cell?, h1, Nat.zero_add]
    match i, hi with
    | 0, _ => rfl | 1, _ => rfl | 2, _ => rfl | 3, _ => rfl | 4, _ => rfl | 5, _ => rfl | 6, _ => rfl | 7, _ => rfl | 8, _ => rfl | 9, _ => rfl | 10, _ => rfl | 11, _ => rfl | 12, _ => rfl | 13, _ => rfl | 14, _ => rfl | 15, _ => rfl | 16, _ => rfl | 17, _ => rfl | 18, _ => rfl | 19, _ => rfl | 20, _ => rfl | 21, _ => rfl | 22, _ => rfl | 23, _ => rfl | 24, _ => rfl | 25, _ => rfl | 26, _ => rfl | 27, _ => rfl | 28, _ => rfl | 29, _ => rfl | 30, _ => rfl | 31, _ => rfl | 32, _ => rfl | k + 33, h => exact absurd h (by omega)
  · simp only [World.frozen?, h1]
    simp
theorem LoAt.row {w : World} {B px : Nat} {fv kv : Value} {n : Nat} {F K : Nat → Value} {D : Nat → List Nat} (h : LoAt w B px fv kv n F K D) (j : Nat) (hj : j < n) (a : Option Addr) (c : Nat) (l : List Nat) (hF : F j = .slice a (l.length + 8) c) (hD : D j = lo l 8) : Rws w 5 1 (.slice a l.length c) l.length (byV l) := by
  have r := h.fe j hj
  rw [hF, hD, lo_len] at r
  refine r.take (by omega) _ (fun k hk => ?_)
  unfold byV
  rw [lo_old _ _ _ (by omega)]
theorem LoAt.start {w : World} (B : Nat) (h : w.heap[B]? = some (.cells (loC (.slice none 0 0) (.slice none 0 0)) 63 (0, 0))) : LoAt w B B (.slice none 0 0) (.slice none 0 0) 0 (fun _ => undef) (fun _ => undef) (fun _ => []) :=
  ⟨h, .inl ⟨rfl, rfl⟩, .inl ⟨rfl, rfl⟩, fun j hj => absurd hj (Nat.not_lt_zero _), fun j hj => absurd hj (Nat.not_lt_zero _), fun g e => by simp [Value.ownBlock] at e, Nat.le_refl _, fun g e => by simp [Value.ownBlock] at e, fun g e => by simp [Value.ownBlock] at e, fun j hj => absurd hj (Nat.not_lt_zero _), by omega⟩
end Go.Proofs.YtidfbelckdlbhabGreat
