/- A Post in memory: New, Count, listens, refusal. -/
import Derived.Test.YtjmnddcombepaaaKey
import Derived.Deep.Light
namespace Go.Proofs.Ytjmnddcombepaaa
open Go.ChangeShapes Go.WideShapes Go.ChangeAt Go.RowKit Go.Maps
set_option linter.unusedVariables false
set_option linter.unusedSimpArgs false
set_option maxRecDepth 100000
set_option maxHeartbeats 4000000

theorem cell_blk {w : World} {b : Nat} {C : Array Value} {t : TypeId} {f : Nat × Nat} (h : w.heap[b]? = some (.cells C t f)) (j : Nat) : w.cell? ⟨b, j, none⟩ = C[j]? := by
  simp [World.cell?, h]
theorem blk_lt {w : World} {b : Nat} {o : Obj} (h : w.heap[b]? = some o) : b < w.heap.size := (Array.getElem?_eq_some_iff.1 h).1
/-- a Post in memory that holds S -/
structure PostAt (w : World) (p b : Nat) (D : Dt) (S : List Key) : Prop where
  cell : w.heap[p]? = some (.cells #[.map (some b)] 71 (0, 0))
  map : MapAt w b D S
theorem PostAt.same {w w' : World} {p b : Nat} {D : Dt} {S : List Key} (h : PostAt w p b D S) (h1 : w'.heap[p]? = w.heap[p]?) (h2 : w'.heap[b]? = w.heap[b]?) : PostAt w' p b D S := ⟨h1.trans h.cell, h.map.same h2⟩
theorem PostAt.lt {w : World} {p b : Nat} {D : Dt} {S : List Key} (h : PostAt w p b D S) : p < w.heap.size ∧ b < w.heap.size := ⟨blk_lt h.cell, h.map.lt⟩
theorem PostAt.ne {w : World} {p b : Nat} {D : Dt} {S : List Key} (h : PostAt w p b D S) : p ≠ b := by
  intro e
  subst e
  obtain ⟨es, clock, h1, -⟩ := h.map.own
  rw [h.cell] at h1
  cases h1
theorem PostAt.below {w w' : World} {p b : Nat} {D : Dt} {S : List Key} (h : PostAt w p b D S) (hb : Below w.heap.size w w') : PostAt w' p b D S := h.same (hb.block _ h.lt.1) (hb.block _ h.lt.2)
theorem PostAt.m {w : World} {p b : Nat} {D : Dt} {S : List Key} (h : PostAt w p b D S) : w.cell? ⟨p, 0, none⟩ = some (.map (some b)) := by rw [cell_blk h.cell]; rfl
theorem new_any (w : World) : Calls Try.prog 8 #[] w fun e w' => e = .returned (.pointer (some ⟨w.heap.size + 1, 0, none⟩)) ∧ Hid (PostAt w' (w.heap.size + 1) w.heap.size (.map []) [] ∧ Below w.heap.size w w') := by
  have hmm := @run_makeMap Try.prog
  have k1 : PostAt ((w.alloc (.map #[] 0)).alloc (.cells #[.map (some w.heap.size)] 71)) (w.heap.size + 1) w.heap.size (.map []) [] := by
    refine ⟨?_, (MapAt.new w).same (Below.heap_alloc _ _ _ (by simp))⟩
    have := heap_alloc_new (w.alloc (.map #[] 0)) (.cells #[.map (some w.heap.size)] 71)
    rw [World.size_alloc] at this
    exact this
  have k2 : Below w.heap.size w ((w.alloc (.map #[] 0)).alloc (.cells #[.map (some w.heap.size)] 71)) := ((Below.refl _ _).alloc (Nat.le_refl _) _).alloc (by simp) _
  have K := hide (And.intro k1 k2)
  clear k1 k2
  go_enter Try.func8, Try.ntmps8
  go_wp2
  go_ret
  exact ⟨rfl, K⟩
/-- to how many names a connection listens -/
def cntC (S : List Key) (c : Int) : Nat := (S.filter (fun k => decide (k.1 = c))).length
theorem cntC_le (S : List Key) (c : Int) : cntC S c ≤ S.length := List.length_filter_le _ _
theorem cntC_snoc (S : List Key) (k : Key) (c : Int) : cntC (S ++ [k]) c = cntC S c + (if k.1 = c then 1 else 0) := by
  unfold cntC
  rw [List.filter_append, List.length_append]
  by_cases h : k.1 = c <;> simp [h]
theorem cntC_perm {S L : List Key} (h : L.Perm S) (c : Int) : cntC L c = cntC S c := (h.filter _).length_eq
theorem refuse_any (w : World) (c : Int) (T : List UInt8) (hc : -9223372036854775808 ≤ c ∧ c ≤ 9223372036854775807) :
    Calls Try.prog 30 #[.int .i64 c, .string (bs T)] w fun e w' => e = .returned (.int .i64 (if c < 0 ∨ 8 ≤ c then 170 else if 4096 < T.length then 171 else 0)) ∧ w' = w := by
  have hs := bs_size T
  by_cases h1 : c < 0
  · have f1 : decide (c < 0) = true := decide_eq_true h1
    rw [if_pos (.inl h1)]
    go_enter Try.func30, Try.ntmps30
    go_wp2
    go_ret
    exact ⟨rfl, rfl⟩
  · have f1 : decide (c < 0) = false := decide_eq_false h1
    by_cases h2 : 8 ≤ c
    · have f2 : decide (c ≥ 8) = true := decide_eq_true h2
      have f2' : decide (8 ≤ c) = true := decide_eq_true h2
      rw [if_pos (.inr h2)]
      go_enter Try.func30, Try.ntmps30
      go_wp2
      all_goals go_ret
      all_goals exact ⟨rfl, rfl⟩
    · have f2 : decide (c ≥ 8) = false := decide_eq_false h2
      have f2' : decide (8 ≤ c) = false := decide_eq_false h2
      rw [if_neg (by omega)]
      by_cases h3 : 4096 < T.length
      · have f3 : decide ((T.length : Int) > 4096) = true := decide_eq_true (by omega)
        have f3' : decide (4096 < (T.length : Int)) = true := decide_eq_true (by omega)
        have f3'' : decide (4096 < T.length) = true := decide_eq_true (by omega)
        rw [if_pos h3]
        go_enter Try.func30, Try.ntmps30
        go_wp2
        all_goals go_ret
        all_goals exact ⟨rfl, rfl⟩
      · have f3 : decide ((T.length : Int) > 4096) = false := decide_eq_false (by omega)
        have f3' : decide (4096 < (T.length : Int)) = false := decide_eq_false (by omega)
        have f3'' : decide (4096 < T.length) = false := decide_eq_false (by omega)
        rw [if_neg h3]
        go_enter Try.func30, Try.ntmps30
        go_wp2
        all_goals go_ret
        all_goals exact ⟨rfl, rfl⟩
theorem listens_any (w : World) (p b : Nat) (D : Dt) (S : List Key) (c : Int) (T : List UInt8) (q : Bool) (h : PostAt w p b D S) (hk : KOk (c, T, q)) :
    Calls Try.prog 31 #[.pointer (some ⟨p, 0, none⟩), .int .i64 c, .string (bs T), .bool q] w fun e w' => e = .returned (.bool (decide ((c, T, q) ∈ S))) ∧ Hid (Below w.heap.size w w') := by
  have hown := h.map.own
  have hm := h.m
  have hh := h.map.has _ hk
  have hkey := lit_of hk
  have zE : ∀ W, (zeroValue 74).run Try.prog W = .ok (.agg #[]) W := fun W => by kernel_rfl
  have HB : Hid (Below w.heap.size w (w.alloc (.cells #[] 74))) := hide ((Below.refl _ _).alloc (Nat.le_refl _) _)
  generalize hr : decide ((c, T, q) ∈ S) = r at hh ⊢
  clear hr h
  go_enter Try.func31, Try.ntmps31
  go_wp2_with (first
    | (at_lookup; refine wpList_lookup_own_unit _ rfl _ _ 69 rfl 77 74 lawK Try.underlying69 (zE _) b S.length D rfl hown _ _ rfl hkey ?_; rw [hh]))
  go_ret
  exact ⟨rfl, HB⟩
theorem count_any (w : World) (p b : Nat) (D : Dt) (S : List Key) (c : Int) (h : PostAt w p b D S) (hS : S.length ≤ 1099511627776) :
    Calls Try.prog 13 #[.pointer (some ⟨p, 0, none⟩), .int .i64 c] w fun e w' => e = .returned (.int .i64 (cntC S c : Nat)) ∧ Hid (Below w.heap.size w w') := by
  have hown := h.map.own
  have hm := h.m
  have ME := hide (Met.start h.map)
  have MA := hide h.map
  clear h
  go_enter Try.func13, Try.ntmps13
  go_wp2_with (first
    | (at_range; refine wpList_range_own _ rfl _ 69 rfl 77 74 lawK Try.underlying69 _ b S.length D rfl hown ?_; intro w0 hrg0 hg0 hs0))
  go_frame
  go_loopw [5] (fun v wr => ∃ (L : List Key) (left : Lit → Bool) (cnt : Nat), v = .int .i64 ((cntC L c : Nat) : Int) ∧ Hid (Met S left L) ∧ wr.ranges Try.prog 77 unitElem b w.heap.size S.length D left cnt ∧ Hid (Below w.heap.size w wr)) (fun _ wr => wr.rangeLeft b w.heap.size)
  case atStart => exact ⟨[], _, _, rfl, ME, hrg0, hide ((Below.refl _ _).grown hg0 (Nat.le_refl _) (fun j hj => by cases hj))⟩
  case round =>
    obtain ⟨L, left, cnt, rfl, HM, hrg, HB⟩ := hrel
    have hle := cntC_le L c
    have hLS := (unhide HM).len
    clear hs0 hrg0 hg0 hown
    go_wp2_with (first
      | (at_next; refine wpList_next_post _ rfl _ rfl b w.heap.size S.length _ _ _ rfl hrg ?_ ?_))
    · intro hl0
      have hpm := hide ((unhide HM).perm (unhide MA).nd (unhide MA).ok (unhide hl0))
      go_wp2
      go_ret
      exact ⟨by rw [cntC_perm (unhide hpm)]; rfl, HB⟩
    · intro kc kt kp w1 cnt1 hk hrg1 hlt hen
      have HS := hide ((unhide HM).step (unhide hk).1 (unhide hk).2.1)
      have HB1 := hide ((unhide HB).grown (unhide hk).2.2 (unhide HB).size (fun j hj => by cases hj; exact Nat.le_refl _))
      have hL1 := (unhide HS).1.len
      rw [List.length_append] at hL1
      simp only [List.length_cons, List.length_nil] at hL1
      have HC : Hid (cntC (L ++ [(kc, kt, kp.b)]) c = cntC L c + (if kc = c then 1 else 0)) := hide (cntC_snoc L (kc, kt, kp.b) c)
      by_cases e : kc = c
      · have f1 : (kc == c) = true := by simp [e]
        have f2 : decide (kc = c) = true := decide_eq_true e
        have He := hide e
        clear e
        go_wp2
        all_goals go_roundw
        case rel => exact ⟨L ++ [(kc, kt, kp.b)], _, cnt1, by rw [unhide HC, if_pos (unhide He)]; simp, hide (unhide HS).1, (unhide hrg1).alloc _, hide ((unhide HB1).alloc (unhide HB1).size _)⟩
        case measure => rw [((unhide hrg1).alloc _).left_eq, hrg.left_eq]; exact hlt
      · have f1 : (kc == c) = false := by simp [e]
        have f2 : decide (kc = c) = false := decide_eq_false e
        have He := hide e
        clear e
        go_wp2
        all_goals go_roundw
        case rel => exact ⟨L ++ [(kc, kt, kp.b)], _, cnt1, by rw [unhide HC, if_neg (unhide He)]; simp, hide (unhide HS).1, (unhide hrg1).alloc _, hide ((unhide HB1).alloc (unhide HB1).size _)⟩
        case measure => rw [((unhide hrg1).alloc _).left_eq, hrg.left_eq]; exact hlt
end Go.Proofs.Ytjmnddcombepaaa
