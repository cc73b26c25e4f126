/- Seats in memory: fit, same. -/
import Derived.Test.YtjmnddcombepaaaPal
import Derived.Test.YtjmnddcombepaaaPwn
namespace Go.Proofs.Ytjmnddcombepaaa
open Go.ChangeShapes Go.WideShapes Go.ChangeAt Go.RowKit Go.Maps Go.Sort
set_option linter.unusedVariables false
set_option linter.unusedSimpArgs false
set_option maxRecDepth 100000
set_option maxHeartbeats 8000000

/-- a seat and where its name lies -/
abbrev Sv := Key × Option Addr × Nat
def seatC (x : Sv) : List Value := [.int .i64 x.1.1, .slice x.2.1 x.1.2.1.length x.2.2, .bool x.1.2.2]
def Named (w : World) (x : Sv) : Prop := Bytes w x.2.1 (nb x.1.2.1)
def fitV (x : Sv) : Sv := ((x.1.1 % 8, x.1.2.1.take 64, x.1.2.2), x.2.1, x.2.2)
theorem fitV_short {x : Sv} (h : ¬ 64 < x.1.2.1.length) : fitV x = ((x.1.1 % 8, x.1.2.1, x.1.2.2), x.2.1, x.2.2) := by
  unfold fitV
  rw [List.take_of_length_le (by omega)]
theorem fit_res (w : World) (o : Obj) (v0 v1 v2 : Value) (tmps : Array Value) (ht : tmps.getD 2 undef = .pointer (some ⟨w.heap.size + 1, 0, none⟩)) :
    (results Try.f34 tmps).run Try.prog ((w.alloc o).alloc (.cells #[v0, v1, v2] 40)).drew = .ok (.agg #[v0, v1, v2]) ((w.alloc o).alloc (.cells #[v0, v1, v2] 40)).drew := by
  refine results_cell_row (p := 2) (ty := 40) rfl tmps _ (w.heap.size + 1) 40 _ (0, 0) _ ht ?_ Try.underlying40 rfl (by kernel_rfl)
  have h := heap_alloc_new (w.alloc o) (.cells #[v0, v1, v2] 40)
  have s1 : (w.alloc o).heap.size = w.heap.size + 1 := by simp
  rw [s1] at h
  exact h
theorem fit_any (w : World) (c : Int) (a : Option Addr) (n cap : Nat) (p : Bool) (hn : -9223372036854775808 ≤ c ∧ c ≤ 9223372036854775807) (hc : n ≤ cap) (hnn : n ≤ 9223372036854775807) :
    Calls Try.prog 34 #[.agg #[.int .i64 c, .slice a n cap, .bool p]] w fun e w' => e = .returned (.agg #[.int .i64 (c % 8), .slice a (min 64 n) cap, .bool p]) ∧ Hid (Below w.heap.size w w') := by
  have CW : Hid (∀ w', Calls Try.prog 9 #[.int .i64 c, .int .i64 8] w' fun e w2 => e = .returned (.int .i64 (c % 8)) ∧ w2 = w') := hide (fun w' => within8 w' c hn)
  clear hn
  by_cases h : 64 < n
  · have f1 : decide ((64 : Int) < (n : Int)) = true := decide_eq_true (by omega)
    rw [show min 64 n = 64 by omega]
    have f2 : (64 : Nat) ≤ cap := by omega
    go_enter Try.func34, Try.ntmps34
    go_wp2_with fail
    go_region_held3 (fun w' => w'.cell? ⟨w.heap.size, 0, none⟩ = some (.int .i64 c) ∧ w'.cell? ⟨w.heap.size, 2, none⟩ = some (.bool p)) (go_keep) (first | (go_at_call 9; with_reducible refine (unhide CW _).mono ?_; rintro e w55 ⟨rfl, h55⟩; obtain rfl := h55.symm))
    go_wp2
    refine bodyPost_ret (fit_res w _ _ _ _ _ rfl) rfl ?_
    exact ⟨rfl, hide (((Below.refl _ _).alloc (Nat.le_refl _) _).alloc (by simp) _).drew⟩
  · have f1 : decide ((64 : Int) < (n : Int)) = false := decide_eq_false (by omega)
    rw [show min 64 n = n by omega]
    go_enter Try.func34, Try.ntmps34
    go_wp2_with fail
    go_region_held3 (fun w' => w'.cell? ⟨w.heap.size, 0, none⟩ = some (.int .i64 c) ∧ w'.cell? ⟨w.heap.size, 2, none⟩ = some (.bool p)) (go_keep) (first | (go_at_call 9; with_reducible refine (unhide CW _).mono ?_; rintro e w55 ⟨rfl, h55⟩; obtain rfl := h55.symm))
    go_wp2
    refine bodyPost_ret (fit_res w _ _ _ _ _ rfl) rfl ?_
    exact ⟨rfl, hide (((Below.refl _ _).alloc (Nat.le_refl _) _).alloc (by simp) _).drew⟩
theorem key3 (c : Int) (T T' : List UInt8) (p : Bool) : ((bs T).toList == (bs T').toList) = decide (((c, T, p) : Key) = (c, T', p)) := by
  rw [ByteArray.toList_eq, ByteArray.toList_eq, bs_list, bs_list, Bool.eq_iff_iff]
  simp
theorem same_any (w : World) (x y : Sv) (hx : Named w x) (hy : Named w y) :
    Calls Try.prog 35 #[.agg #[.int .i64 x.1.1, .slice x.2.1 x.1.2.1.length x.2.2, .bool x.1.2.2], .agg #[.int .i64 y.1.1, .slice y.2.1 y.1.2.1.length y.2.2, .bool y.1.2.2]] w fun e w' => e = .returned (.bool (decide (x.1 = y.1))) ∧ Hid (Below w.heap.size w w') := by
  obtain ⟨⟨c, T, p⟩, a, cap⟩ := x
  obtain ⟨⟨c', T', p'⟩, a', cap'⟩ := y
  simp only [Named] at hx hy ⊢
  have hb : Below w.heap.size w ((w.alloc (.cells #[.int .i64 c, .slice a T.length cap, .bool p] 40)).alloc (.cells #[.int .i64 c', .slice a' T'.length cap', .bool p'] 40)) := ((Below.refl _ _).alloc (Nat.le_refl _) _).alloc (by simp) _
  have R1 := conv_back _ a cap T (hx.below hb)
  have R2 := conv_back _ a' cap' T' (hy.below hb)
  have HB := hide hb
  clear hx hy hb
  generalize hn : T.length = n at *
  generalize hn' : T'.length = n' at *
  clear hn hn'
  by_cases h1 : c = c'
  · subst h1
    by_cases h2 : p = p'
    · subst h2
      go_enter Try.func35, Try.ntmps35
      go_wp2_with fail
      go_ret
      exact ⟨by rw [key3 c T T' p]; rfl, HB⟩
    · have f1 : (p == p') = false := by simpa using h2
      go_enter Try.func35, Try.ntmps35
      go_wp2_with fail
      go_ret
      exact ⟨by rw [decide_eq_false (fun h => h2 (congrArg (fun k : Key => k.2.2) h))]; rfl, HB⟩
  · have f1 : (c == c') = false := by simpa using h1
    go_enter Try.func35, Try.ntmps35
    go_wp2_with fail
    go_ret
    exact ⟨by rw [decide_eq_false (fun h => h1 (congrArg (fun k : Key => k.1) h))]; rfl, HB⟩
end Go.Proofs.Ytjmnddcombepaaa
