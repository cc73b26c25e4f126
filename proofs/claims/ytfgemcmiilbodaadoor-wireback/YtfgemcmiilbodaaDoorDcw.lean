/- Decode: an array is read, if replies are: its list. -/
import Derived.Test.YtfgemcmiilbodaaDoorDcv
import Derived.Test.YtfgemcmiilbodaaDoorPfb
namespace Go.Proofs.YtfgemcmiilbodaaDoor
open Go.ChangeShapes Go.WideShapes Go.ChangeAt Go.RowKit
set_option linter.unusedVariables false
set_option linter.unusedSimpArgs false
set_option maxRecDepth 20000
set_option maxHeartbeats 8000000

/-- replies inside so many arrays are read -/
def RepOk (pd d : Nat) (I : Int) : Prop := ∀ (W : World) (a : Option Addr) (n cp : Nat) (R : List Nat), DcAt W pd a n cp R → UOk W → n ≤ 140737488355328 → Calls Tryd.prog 13 #[.pointer (some ⟨pd, 0, none⟩), .int .i64 I] W (RpEnd W pd d (repP d R))
theorem listP_ok {α : Type} {f : List Nat → Larder8.St α} {k : Nat} {R r : List Nat} {x : α} (h : f R = .ok x r) : Larder8.listP f (k + 1) R = (Larder8.listP f k r).map (x :: ·) := by
  conv => lhs; unfold Larder8.listP; rw [h]
theorem listP_bad {α : Type} {f : List Nat → Larder8.St α} {k : Nat} {R : List Nat} {Q : Larder8.St α} (h : f R = Q) (hq : Q = .short ∨ Q = .wrong) : (Q = .short → Larder8.listP f (k + 1) R = .short) ∧ (Q = .wrong → Larder8.listP f (k + 1) R = .wrong) := by
  subst h
  exact ⟨fun e => by unfold Larder8.listP; rw [e], fun e => by unfold Larder8.listP; rw [e]⟩
theorem map_map {α β γ : Type} (f : α → β) (g : β → γ) (P : Larder8.St α) : (P.map f).map g = P.map (fun x => g (f x)) := by cases P <;> rfl
theorem ArrAt.start {w W : World} {pd d : Nat} {R : List Nat} (h : Bx w W pd) (hd : ∃ a n cp, DcAt W pd a n cp R) : ArrAt w W pd d (.slice none 0 0) [] R :=
  ⟨h, hd, fun _ => undef, .inl ⟨rfl, rfl⟩, fun g hg => (by simp [Value.ownBlock] at hg), fun i y hi => (by simp at hi)⟩
/-- the array's end -/
theorem ArrAt.told {w W : World} {pd d : Nat} {va : Option Addr} {vn vc : Nat} {l : List (Tr d)} {R : List Nat} (h : ArrAt w W pd d (.slice va vn vc) l R) :
    Told4 w pd (d + 1) (.ok (mkR 6 0 [] l) R) 6 0 none 0 0 va vn vc ((((W.setCell ⟨w.heap.size, 0, none⟩ (.int .i64 6)).setCell ⟨w.heap.size, 1, none⟩ (.int .i64 0)).setCell ⟨w.heap.size, 2, none⟩ (.slice none 0 0)).setCell ⟨w.heap.size, 3, none⟩ (.slice va vn vc)) := by
  have hb : ∀ k, k ≠ w.heap.size → ((((W.setCell ⟨w.heap.size, 0, none⟩ (.int .i64 6)).setCell ⟨w.heap.size, 1, none⟩ (.int .i64 0)).setCell ⟨w.heap.size, 2, none⟩ (.slice none 0 0)).setCell ⟨w.heap.size, 3, none⟩ (.slice va vn vc)).heap[k]? = W.heap[k]? := fun k hk => by
    rw [Bk.setCell_else _ _ _ _ _ hk, Bk.setCell_else _ _ _ _ _ hk, Bk.setCell_else _ _ _ _ _ hk, Bk.setCell_else _ _ _ _ _ hk]
  refine ⟨DcK.boxed h.bx _ _ _ _, fun x r e => ?_⟩
  cases e
  obtain ⟨F, h1, h2, h3⟩ := h.row
  obtain ⟨a, n, cp, hd⟩ := h.dc
  refine ⟨⟨rfl, rfl, ⟨OwnB.nil _ _, small_nil, fun g hg => (by simp [Value.ownBlock] at hg)⟩, F, h1.same (fun g hg => hb g (by have := h2 g hg; omega)), fun g hg => Nat.le_of_lt (h2 g hg), fun i y hi => ((h3 i y hi).same (fun b hb' hlt => hb b (by omega))).mono (fun b hb' => ⟨by omega, hb'.2⟩)⟩, a, n, cp, hd.boxed (by have := h.bx.lt; omega) (h.bx.apart hd) _ _ _ _⟩
theorem arr_list (w : World) (pd I d m : Nat) (a : Option Addr) (n cp : Nat) (T r : List Nat) (hI : I ≤ 7) (h : DcAt w pd a n cp T) (hU : UOk w) (hp : 2 < pd) (hl : n ≤ 140737488355328) (hQ : Larder8.numP (-1) 65536 T = .ok (m : Int) r) (RP : RepOk pd d ((I : Int) + 1)) :
    Part w pd (d + 1) 21 #[.pointer (some ⟨pd, 0, none⟩), .int .i64 (I : Int)] ((Larder8.listP (repP d) m r).map (fun l => (mkR 6 0 [] l))) := by
  have CN := hide (dnum_any _ pd a n cp T (-1) 65536 (h.below ((Below.refl _ _).alloc (Nat.le_refl _) (.cells #[.int .i64 0, .int .i64 0, .slice none 0 0, .slice none 0 0] 27))) hl ⟨by omega, by omega⟩ ⟨by omega, by omega⟩)
  have HB := hide (Bx.new w pd (block_lt h.box))
  have hm := (Larder8.numP_in hQ).2
  have hin : ((I : Int) == 8) = false := by rw [beq_eq_false_iff_ne]; omega
  have hm1 : ((m : Int) == -1) = false := by rw [beq_eq_false_iff_ne]; omega
  have HT : Hid (∀ R, (∃ k, R = T.drop k) → R.length ≤ 140737488355328) := hide (by
    rintro R ⟨k, rfl⟩
    have := h.rst.len
    rw [List.length_drop]
    omega)
  have HR : Hid (r.length ≤ 140737488355328) := hide (by
    have h1 := congrArg List.length (Larder8.numP_text hQ).1
    have := h.rst.len
    simp only [List.length_append] at h1
    omega)
  have HU := hide hU
  have HP := hide hp
  have HRP := hide RP
  obtain ⟨i27, hi27, hz27, hs27, hb27⟩ := info_parts4 Tryd.info27s
  rw [hQ] at CN
  clear h hQ hU hp RP HT
  unfold Part
  unfold NumEnd at CN
  go_enter Tryd.func21, Tryd.ntmps21
  go_wp2_with (first
    | (go_at_call 19; with_reducible refine (unhide CN).mono ?_; rintro e w5 ⟨v, rfl, h5⟩; obtain ⟨rfl, h7⟩ := (unhide h5).2 _ _ rfl; have B5 := hide ((unhide HB).next (unhide h5).1); have A5 := hide (ArrAt.start (d := d) (unhide B5) h7); clear h7; simp only [Larder8.St.err]))
  go_loopw [9, 29] (fun v iv wr => ∃ (i : Nat) (va : Option Addr) (vc : Nat) (l : List (Tr d)) (R : List Nat), v = .slice va i vc ∧ iv = .int .i64 (i : Nat) ∧ i ≤ m ∧ Hid (ArrAt w wr pd d (.slice va i vc) l R ∧ l.length = i ∧ R.length ≤ 140737488355328 ∧ Larder8.listP (repP d) m r = (Larder8.listP (repP d) (m - i) R).map (l ++ ·))) (fun _ iv _ => m - (intOf iv).toNat)
  case atStart => exact ⟨0, none, 0, [], r, rfl, rfl, Nat.zero_le _, hide ⟨unhide A5, rfl, unhide HR, by simp [Larder8.St.map]; cases Larder8.listP (repP d) m r <;> rfl⟩⟩
  case round =>
    obtain ⟨i, va, vc, l, R, rfl, rfl, hi, hS⟩ := hrel
    rename World => wr
    rcases Nat.lt_or_ge i m with hlt | hge
    · have f3 : decide ((i : Int) < (m : Int)) = true := decide_eq_true (by omega)
      have hL := (unhide hS).2.1
      obtain ⟨a5, n5, c5, D5⟩ := (unhide hS).1.dc
      have BR := hide (unhide hS).1.bx
      have CR := hide (unhide HRP wr a5 n5 c5 R D5 ((unhide HU).dck (unhide BR).k (unhide HP)) (by have := D5.rst.len; have := (unhide hS).2.2.1; omega))
      clear D5
      have hmi : m - i = (m - (i + 1)) + 1 := by omega
      cases hq : repP d R with
      | short =>
        rw [hq] at CR
        unfold RpEnd at CR
        have HE : Hid (Larder8.listP (repP d) m r = .short) := hide (by rw [(unhide hS).2.2.2, hmi, (listP_bad hq (.inl rfl)).1 rfl]; rfl)
        clear hmi hq
        go_wp2_with (first
          | (go_at_call 13; with_reducible refine (unhide CR).mono ?_; rintro e w3 ⟨k0, k1, ta, tn, tc, la, ln, lc, rfl, h3⟩; have B6 := hide (((unhide BR).next (unhide h3).1).next (DcK.below ((Below.refl _ _).alloc (Nat.le_refl _) (.cells #[.int .i64 k0, .int .i64 k1, .slice ta tn tc, .slice la ln lc] 27)))); have z0 := (unhide B6).cell 0 _ rfl; have z1 := (unhide B6).cell 1 _ rfl; have z2 := (unhide B6).cell 2 _ rfl; have z3 := (unhide B6).cell 3 _ rfl; have y0 := (unhide B6).froz 0; have y1 := (unhide B6).froz 1; have y2 := (unhide B6).froz 2; have y3 := (unhide B6).froz 3; simp only [Larder8.St.err]))
        refine bodyPost_ret (arr_end _ _ (store4 (unhide B6).box rfl _ _ _ _) rfl rfl) rfl ?_
        rw [unhide HE]
        exact ⟨0, 0, none, 0, 0, none, 0, 0, rfl, hide ⟨DcK.boxed (unhide B6) _ _ _ _, fun x r e => (by cases e)⟩⟩
      | wrong =>
        rw [hq] at CR
        unfold RpEnd at CR
        have HE : Hid (Larder8.listP (repP d) m r = .wrong) := hide (by rw [(unhide hS).2.2.2, hmi, (listP_bad hq (.inr rfl)).2 rfl]; rfl)
        clear hmi hq
        go_wp2_with (first
          | (go_at_call 13; with_reducible refine (unhide CR).mono ?_; rintro e w3 ⟨k0, k1, ta, tn, tc, la, ln, lc, rfl, h3⟩; have B6 := hide (((unhide BR).next (unhide h3).1).next (DcK.below ((Below.refl _ _).alloc (Nat.le_refl _) (.cells #[.int .i64 k0, .int .i64 k1, .slice ta tn tc, .slice la ln lc] 27)))); have z0 := (unhide B6).cell 0 _ rfl; have z1 := (unhide B6).cell 1 _ rfl; have z2 := (unhide B6).cell 2 _ rfl; have z3 := (unhide B6).cell 3 _ rfl; have y0 := (unhide B6).froz 0; have y1 := (unhide B6).froz 1; have y2 := (unhide B6).froz 2; have y3 := (unhide B6).froz 3; simp only [Larder8.St.err]))
        refine bodyPost_ret (arr_end _ _ (store4 (unhide B6).box rfl _ _ _ _) rfl rfl) rfl ?_
        rw [unhide HE]
        exact ⟨0, 0, none, 0, 0, none, 0, 0, rfl, hide ⟨DcK.boxed (unhide B6) _ _ _ _, fun x r e => (by cases e)⟩⟩
      | ok x r1 =>
        rw [hq] at CR
        unfold RpEnd at CR
        have HE : Hid (Larder8.listP (repP d) m r = (Larder8.listP (repP d) (m - (i + 1)) r1).map ((l ++ [x]) ++ ·)) := hide (by rw [(unhide hS).2.2.2, hmi, listP_ok hq, map_map]; congr 1; funext y; simp)
        have HR1 : Hid (r1.length ≤ 140737488355328) := hide (by
          have h1 := congrArg List.length (repP_text d R x r1 hq).1
          have := (unhide hS).2.2.1
          simp only [List.length_append] at h1
          omega)
        obtain ⟨F, hF, hO, hEl⟩ := (unhide hS).1.row
        have hwr : w.heap.size < wr.heap.size := block_lt (unhide BR).box
        have hpl := (unhide BR).lt
        have RW : Hid (∀ w3, DcK pd wr w3 → ∀ o1 o2, Rws ((w3.alloc o1).alloc o2) 27 4 (.slice va i vc) i F) := hide (fun w3 k o1 o2 => by
          rw [hL] at hF
          refine ((hF.same (w' := w3) (fun g hg => k.blk g (hF.lt g hg) (by have := hO g hg; omega))).below ((Below.refl _ _).alloc (Nat.le_refl _) o1)).below ((Below.refl _ _).alloc (Nat.le_refl _) o2))
        have ST : Hid (∀ w3 v1 w6 o1 o2 k0 k1 ta tn tc la ln lc, DcK pd wr w3 → (DrAt w3 d (fun b => wr.heap.size ≤ b) x (.int .i64 k0) (.int .i64 k1) (.slice ta tn tc) (.slice la ln lc) ∧ ∃ a n cp, DcAt w3 pd a n cp r1) → Rws w6 27 4 v1 (i + 1) (fun k => if k < i * 4 then F k else [Value.int .i64 k0, .int .i64 k1, .slice ta tn tc, .slice la ln lc].getD (k - i * 4) undef) → Gr 27 (i * 4) 4 ((w3.alloc o1).alloc o2) w6 (.slice va i vc) v1 → ArrAt w w6 pd d v1 (l ++ [x]) r1) := hide (fun w3 v1 w6 o1 o2 k0 k1 ta tn tc la ln lc k1' k2 k3 k4 => by
          have h0 := (unhide hS).1
          subst hL
          exact h0.step hF hO hEl k1' k2.1 k2.2 o1 o2 k3 k4)
        have MC : Hid (∀ (W : World) (o1 : Obj) (q : List Value), ∀ j y, q[j]? = some y → ((W.alloc o1).alloc (.cells q.toArray 27)).cell? ⟨W.heap.size + 1, j, none⟩ = some y) := hide (fun W o1 q j y hj => by
          have := made_cells (W.alloc o1) q 27 j y hj
          rw [World.size_alloc] at this
          exact this)
        clear hmi hq hF hO hEl hL hwr hpl
        go_wp2_with (first
          | (go_at_call 13; with_reducible refine (unhide CR).mono ?_; rintro e w3 ⟨k0, k1, ta, tn, tc, la, ln, lc, rfl, h3⟩; simp only [Larder8.St.err])
          | (at_builtin; refine append_rws rfl _ _ 25 rfl 27 i27 _ 4 64 Tryd.underlying25 hi27 hz27 hs27 hb27 rfl 27 (.slice va i vc) i F rfl (unhide RW w3 (unhide h3).1 _ _) (.inl rfl) (w3.heap.size + 1) 1 rfl [.int .i64 k0, .int .i64 k1, .slice ta tn tc, .slice la ln lc] (by decide) rfl (unhide MC w3 _ _) (by simp [Value.oneCell']) (by omega) (by omega) ?_; intro v1 w6 h1 g1; have HZ := hide (unhide ST w3 v1 w6 _ _ k0 k1 ta tn tc la ln lc (unhide h3).1 ((unhide h3).2 x r1 rfl) h1 g1); obtain ⟨a1, c1, rfl⟩ := h1.shape; clear h1 g1))
        go_roundw
        case rel => exact ⟨i + 1, a1, c1, l ++ [x], r1, rfl, rfl, by omega, hide ⟨unhide HZ, by simp [(unhide hS).2.1], unhide HR1, unhide HE⟩⟩
        case measure => simp [intOf]; omega
    · obtain rfl : i = m := by omega
      have f3 : decide ((i : Int) < (i : Int)) = false := decide_eq_false (by omega)
      have HE : Hid ((Larder8.listP (repP d) i r) = .ok l R) := hide (by rw [(unhide hS).2.2.2, Nat.sub_self]; show Larder8.St.ok (l ++ []) R = _; rw [List.append_nil])
      have B6 := hide (unhide hS).1.bx
      have z0 := (unhide B6).cell 0 _ rfl; have z1 := (unhide B6).cell 1 _ rfl; have z2 := (unhide B6).cell 2 _ rfl; have z3 := (unhide B6).cell 3 _ rfl; have y0 := (unhide B6).froz 0; have y1 := (unhide B6).froz 1; have y2 := (unhide B6).froz 2; have y3 := (unhide B6).froz 3
      go_wp2_with fail
      refine bodyPost_ret (arr_end _ _ (store4 (unhide B6).box rfl _ _ _ _) rfl rfl) rfl ?_
      rw [unhide HE]
      exact ⟨6, 0, none, 0, 0, va, i, vc, rfl, hide (unhide hS).1.told⟩
end Go.Proofs.YtfgemcmiilbodaaDoor
