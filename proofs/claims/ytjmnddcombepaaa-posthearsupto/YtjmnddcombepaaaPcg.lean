/- Names, unlike, Patterns. -/
import Derived.Test.YtjmnddcombepaaaPcf
namespace Go.Proofs.Ytjmnddcombepaaa
open Go.ChangeShapes Go.WideShapes Go.ChangeAt Go.RowKit Go.Maps Go.Sort
set_option linter.unusedVariables false
set_option linter.unusedSimpArgs false
set_option maxRecDepth 100000
set_option maxHeartbeats 4000000

theorem OwnS.mono {w : World} {base base' : Nat} {v : Value} {l : List (List UInt8)} (h : OwnS w base v l) (hb : base' ≤ base) : OwnS w base' v l := by
  refine ⟨h.1, ?_⟩
  rcases h.2 with e | ⟨g, cap, cur, e, k, r⟩
  · exact .inl e
  · exact .inr ⟨g, cap, cur, e, Nat.le_trans hb k, r⟩
theorem eg45 : ∀ args w, (callFunc 45 args).run Try.prog w = .ok (.enter 45 args) w := enters_of Try.func45 (by kernel_rfl) rfl
theorem eg60 : ∀ args w, (callFunc 60 args).run Try.prog w = .ok (.enter 60 args) w := enters_of Try.func60 (by kernel_rfl) rfl
theorem pred60 (w : World) (x : Nat) (q : Bool) (hx : w.heap[x]? = some (.cells #[.bool q] 4 (0, 0))) : PredK w 60 #[.pointer (some ⟨x, 0, none⟩)] (fun k => k.2.2 == q) := by
  intro W kc kt kp hb
  have hc : (W.alloc (.cells #[.int .i64 kc, .string (bs kt), .bool kp] 77)).cell? ⟨x, 0, none⟩ = some (.bool q) := by
    rw [cell_blk ((((Below.refl _ _).alloc (Nat.le_refl _) _).block x (Nat.lt_of_lt_of_le (blk_lt hx) hb.size)).trans ((hb.block x (blk_lt hx)).trans hx))]; rfl
  have K : Hid (Below W.heap.size W (W.alloc (.cells #[.int .i64 kc, .string (bs kt), .bool kp] 77))) := hide ((Below.refl _ _).alloc (Nat.le_refl _) _)
  have h4 := Try.underlying4
  show Calls Try.prog 60 #[.agg #[.int .i64 kc, .string (bs kt), .bool kp], .pointer (some ⟨x, 0, none⟩)] W _
  clear hx hb
  go_enter Try.func60, Try.ntmps60
  go_wp2
  go_ret
  exact ⟨rfl, K⟩
theorem pred45 (w : World) (x y : Nat) (c : Int) (q : Bool) (hx : w.heap[x]? = some (.cells #[.int .i64 c] 3 (0, 0))) (hy : w.heap[y]? = some (.cells #[.bool q] 4 (0, 0))) : PredK w 45 #[.pointer (some ⟨x, 0, none⟩), .pointer (some ⟨y, 0, none⟩)] (fun k => decide (k.1 = c) && (k.2.2 == q)) := by
  intro W kc kt kp hb
  have hc : (W.alloc (.cells #[.int .i64 kc, .string (bs kt), .bool kp] 77)).cell? ⟨x, 0, none⟩ = some (.int .i64 c) := by
    rw [cell_blk ((((Below.refl _ _).alloc (Nat.le_refl _) _).block x (Nat.lt_of_lt_of_le (blk_lt hx) hb.size)).trans ((hb.block x (blk_lt hx)).trans hx))]; rfl
  have hc2 : (W.alloc (.cells #[.int .i64 kc, .string (bs kt), .bool kp] 77)).cell? ⟨y, 0, none⟩ = some (.bool q) := by
    rw [cell_blk ((((Below.refl _ _).alloc (Nat.le_refl _) _).block y (Nat.lt_of_lt_of_le (blk_lt hy) hb.size)).trans ((hb.block y (blk_lt hy)).trans hy))]; rfl
  have K : Hid (Below W.heap.size W (W.alloc (.cells #[.int .i64 kc, .string (bs kt), .bool kp] 77))) := hide ((Below.refl _ _).alloc (Nat.le_refl _) _)
  have h4 := Try.underlying4
  show Calls Try.prog 45 #[.agg #[.int .i64 kc, .string (bs kt), .bool kp], .pointer (some ⟨x, 0, none⟩), .pointer (some ⟨y, 0, none⟩)] W _
  clear hx hb hy
  by_cases e : kc = c
  · have f1 : (kc == c) = true := by simp [e]
    have f2 : decide (kc = c) = true := decide_eq_true e
    dsimp only
    rw [f2, Bool.true_and]
    clear e
    go_enter Try.func45, Try.ntmps45
    go_wp2
    go_ret
    exact ⟨rfl, K⟩
  · have f1 : (kc == c) = false := by simp [e]
    have f2 : decide (kc = c) = false := decide_eq_false e
    dsimp only
    rw [f2, Bool.false_and]
    clear e
    go_enter Try.func45, Try.ntmps45
    go_wp2
    go_ret
    exact ⟨rfl, K⟩
/-- the names of a connection, of one kind -/
def namesL (S : List Key) (c : Int) (q : Bool) : List (List UInt8) := textsL S (fun k => decide (k.1 = c) && (k.2.2 == q))
/-- the channels, or the patterns -/
def unlikeL (S : List Key) (q : Bool) : List (List UInt8) := textsL S (fun k => k.2.2 == q)
/-- a list of texts is handed out -/
def SEnd (w : World) (l : List (List UInt8)) (e : Ending) (w' : World) : Prop := ∃ (a : Option Addr) (n cap : Nat), e = .returned (.slice a n cap) ∧ Hid (OwnS w' w.heap.size (.slice a n cap) l ∧ Below w.heap.size w w' ∧ n = l.length)
theorem unlike_any (w : World) (p b : Nat) (D : Dt) (S : List Key) (q : Bool) (h : PostAt w p b D S) (hS : S.length ≤ 1099511627776) (hl : ∀ k ∈ S, k.2.1.length ≤ 281474976710656) :
    Calls Try.prog 37 #[.pointer (some ⟨p, 0, none⟩), .bool q] w (SEnd w (unlikeL S q)) := by
  have b1 : Below w.heap.size w (w.alloc (.cells #[.bool q] 4)) := (Below.refl _ _).alloc (Nat.le_refl _) _
  have CT : Hid (Calls Try.prog 44 #[.pointer (some ⟨p, 0, none⟩), .func (.func 60) #[] #[.pointer (some ⟨w.heap.size, 0, none⟩)]] (w.alloc (.cells #[.bool q] 4)) (SEnd w (unlikeL S q))) := hide ((texts_any _ p b D S 60 _ _ (h.below b1) hS hl eg60 (pred60 _ w.heap.size q (heap_alloc_new _ _))).mono (fun e w' ⟨a, n, cap, h1, h2⟩ => ⟨a, n, cap, h1, hide ⟨(unhide h2).1.mono (by simp; omega), b1.trans ((unhide h2).2.1.mono b1.size), (unhide h2).2.2⟩⟩))
  unfold SEnd at CT
  clear h hl b1
  go_enter Try.func37, Try.ntmps37
  go_wp2_with (go_at_call 44; with_reducible refine (unhide CT).mono ?_; rintro e w2 ⟨a, n, cap, rfl, k2⟩)
  go_ret
  exact ⟨a, n, cap, rfl, k2⟩
theorem names_any (w : World) (p b : Nat) (D : Dt) (S : List Key) (c : Int) (q : Bool) (h : PostAt w p b D S) (hS : S.length ≤ 1099511627776) (hl : ∀ k ∈ S, k.2.1.length ≤ 281474976710656) :
    Calls Try.prog 25 #[.pointer (some ⟨p, 0, none⟩), .int .i64 c, .bool q] w (SEnd w (namesL S c q)) := by
  have b1 : Below w.heap.size w ((w.alloc (.cells #[.int .i64 c] 3)).alloc (.cells #[.bool q] 4)) := ((Below.refl _ _).alloc (Nat.le_refl _) _).alloc (by simp) _
  have e2 := heap_alloc_new (w.alloc (.cells #[.int .i64 c] 3)) (.cells #[.bool q] 4)
  rw [World.size_alloc] at e2
  have CT : Hid (Calls Try.prog 44 #[.pointer (some ⟨p, 0, none⟩), .func (.func 45) #[] #[.pointer (some ⟨w.heap.size, 0, none⟩), .pointer (some ⟨w.heap.size + 1, 0, none⟩)]] ((w.alloc (.cells #[.int .i64 c] 3)).alloc (.cells #[.bool q] 4)) (SEnd w (namesL S c q))) := hide ((texts_any _ p b D S 45 _ _ (h.below b1) hS hl eg45 (pred45 _ w.heap.size (w.heap.size + 1) c q ((heap_alloc_old _ _ (by simp)).trans (heap_alloc_new _ _)) e2)).mono (fun e w' ⟨a, n, cap, h1, h2⟩ => ⟨a, n, cap, h1, hide ⟨(unhide h2).1.mono (by simp; omega), b1.trans ((unhide h2).2.1.mono b1.size), (unhide h2).2.2⟩⟩))
  unfold SEnd at CT
  clear h hl b1 e2
  go_enter Try.func25, Try.ntmps25
  go_wp2_with (go_at_call 44; with_reducible refine (unhide CT).mono ?_; rintro e w2 ⟨a, n, cap, rfl, k2⟩)
  go_ret
  exact ⟨a, n, cap, rfl, k2⟩
theorem patterns_any (w : World) (p b : Nat) (D : Dt) (S : List Key) (h : PostAt w p b D S) (hS : S.length ≤ 1099511627776) (hl : ∀ k ∈ S, k.2.1.length ≤ 281474976710656) :
    Calls Try.prog 43 #[.pointer (some ⟨p, 0, none⟩)] w fun e w' => e = .returned (.int .i64 ((unlikeL S true).length : Nat)) ∧ Hid (Below w.heap.size w w') := by
  have CU := hide (unlike_any w p b D S true h hS hl)
  unfold SEnd at CU
  clear h hl
  go_enter Try.func43, Try.ntmps43
  go_wp2_with (go_at_call 37; with_reducible refine (unhide CU).mono ?_; rintro e w2 ⟨a, n, cap, rfl, k2⟩)
  go_ret
  exact ⟨by rw [← (unhide k2).2.2]; rfl, hide (unhide k2).2.1⟩
end Go.Proofs.Ytjmnddcombepaaa
