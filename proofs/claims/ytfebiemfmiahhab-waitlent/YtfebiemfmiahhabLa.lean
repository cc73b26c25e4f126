/- The statements' own functions: ints, twin, wakes. -/
import Derived.Test.YtfebiemfmiahhabKn
import Derived.Laws.CopyOwn
namespace Go.Proofs.Ytfebiemfmiahhab
open Go.ChangeShapes Go.WideShapes Go.ChangeAt Go.RowKit Go.Maps
set_option linter.unusedVariables false
set_option linter.unusedSimpArgs false
set_option maxRecDepth 100000
set_option maxHeartbeats 8000000
/-- two lists in one order that hold the same are the same -/
theorem perm_unique {α : Type} {R : α → α → Prop} : ∀ {l l' : List α}, l.Perm l' → l.Pairwise R → l'.Pairwise R → (∀ a ∈ l, ∀ b ∈ l, R a b → R b a → a = b) → l = l'
  | [], l', h, _, _, _ => (List.nil_perm.1 h).symm
  | x :: r, [], h, _, _, _ => absurd h.length_eq (by simp)
  | x :: r, y :: r', h, h1, h2, ha => by
    obtain ⟨a1, a2⟩ := List.pairwise_cons.1 h1
    obtain ⟨b1, b2⟩ := List.pairwise_cons.1 h2
    have hxy : x = y := by
      have hx : x ∈ y :: r' := h.mem_iff.1 (List.mem_cons_self ..)
      have hy : y ∈ x :: r := h.mem_iff.2 (List.mem_cons_self ..)
      rcases List.mem_cons.1 hx with e | hx'
      · exact e
      · rcases List.mem_cons.1 hy with e | hy'
        · exact e.symm
        · exact ha x (List.mem_cons_self ..) y (List.mem_cons_of_mem _ hy') (a1 y hy') (b1 x hx')
    subst hxy
    rw [perm_unique (List.Perm.cons_inv h) a2 b2 (fun a ha' b hb' => ha a (List.mem_cons_of_mem _ ha') b (List.mem_cons_of_mem _ hb'))]
theorem inj_turn {E : List En} (hi : E.Pairwise (fun a b => a.turn < b.turn)) {a b : En} (ha : a ∈ E) (hb : b ∈ E) (e : a.turn = b.turn) : a = b := by
  induction E with
  | nil => cases ha
  | cons x r ih =>
    obtain ⟨h1, h2⟩ := List.pairwise_cons.1 hi
    rcases List.mem_cons.1 ha with rfl | ha'
    · rcases List.mem_cons.1 hb with rfl | hb'
      · rfl
      · have := h1 b hb'; omega
    · rcases List.mem_cons.1 hb with rfl | hb'
      · have := h1 a ha'; omega
      · exact ih h2 ha' hb'
theorem waiting_any (O : Nat → Prop) (w : World) (p bw bl T : Nat) (E : List En) (h : WAt O w p bw bl T E) :
    Calls Try.prog 17 #[.pointer (some ⟨p, 0, none⟩)] w fun e w' => ∃ g n, e = .returned (.slice (some ⟨g, 0, none⟩) n n) ∧ Hid (RowI w' g (E.map (·.x.conn)) ∧ n = E.length ∧ w.heap.size ≤ g ∧ Below w.heap.size w w') := by
  have CT : Hid (Calls Try.prog 42 #[.pointer (some ⟨p, 0, none⟩), .func (.func 45) #[] #[], .func (.func 46) #[] #[]] w fun e w' => ∃ g n, e = .returned (.slice (some ⟨g, 0, none⟩) n n) ∧ Hid (RowI w' g (E.map (·.x.conn)) ∧ n = E.length ∧ w.heap.size ≤ g ∧ Below w.heap.size w w')) := hide ((told_any O w p bw bl T 45 46 #[] E (fun _ => true) cfTurn h swoTurn (enters_of Try.func45 (by kernel_rfl) rfl) (enters_of Try.func46 (by kernel_rfl) rfl) byTurn_any (fun W e _ _ => all25 W e)).mono (fun e w' ⟨g, n, e1, e2⟩ => by
    obtain ⟨F, h1, h2, h3, h4, h5, h6⟩ := unhide e2
    have h1' : F.Perm E := by rw [List.filter_eq_self.2 (fun _ _ => rfl)] at h1; exact h1
    have hF : F = E := by
      refine perm_unique (R := fun a b => ltOf cfTurn (w5 b) (w5 a) = false) h1' h2 (h.inc.imp (fun {a b} hab => ?_)) (fun a ha b hb r1 r2 => inj_turn h.inc (h1'.mem_iff.1 ha) (h1'.mem_iff.1 hb) ?_)
      · rw [ltTurn]
        simp [w5]
        omega
      · rw [ltTurn] at r1 r2
        simp [w5] at r1 r2
        omega
    subst hF
    exact ⟨g, n, e1, hide ⟨h3, h4, h5, h6⟩⟩))
  clear h
  go_enter Try.func17, Try.ntmps17
  go_wp2_with (first | (go_at_call 42; with_reducible refine (unhide CT).mono ?_; rintro e w1 ⟨g, n, rfl, k1⟩))
  go_ret
  exact ⟨g, n, rfl, k1⟩
/-- those whose time is over, in order -/
structure DueIs (E : List En) (now : Nat) (F : List En) : Prop where
  perm : F.Perm (E.filter (dueB now))
  sort : F.Pairwise (fun a b => a.x.till < b.x.till ∨ a.x.till = b.x.till ∧ a.turn ≤ b.turn)
theorem DueIs.one {E : List En} {now : Nat} {F F' : List En} (hi : E.Pairwise (fun a b => a.turn < b.turn)) (h : DueIs E now F) (h' : DueIs E now F') : F = F' :=
  perm_unique (h.perm.trans h'.perm.symm) h.sort h'.sort (fun a ha b hb r1 r2 => inj_turn hi (List.mem_filter.1 (h.perm.mem_iff.1 ha)).1 (List.mem_filter.1 (h.perm.mem_iff.1 hb)).1 (by omega))
theorem due_any (O : Nat → Prop) (w : World) (p bw bl T now : Nat) (E : List En) (h : WAt O w p bw bl T E) :
    Calls Try.prog 16 #[.pointer (some ⟨p, 0, none⟩), .int .u64 (now : Nat)] w fun e w' => ∃ g n, e = .returned (.slice (some ⟨g, 0, none⟩) n n) ∧ Hid (∃ F, DueIs E now F ∧ RowI w' g (F.map (·.x.conn)) ∧ n = F.length ∧ w.heap.size ≤ g ∧ Below w.heap.size w w') := by
  obtain ⟨w0, hw0⟩ : ∃ w0, w.alloc (.cells #[.int .u64 (now : Nat)] 39) = w0 := ⟨_, rfl⟩
  have hb0 : Below w.heap.size w w0 := by rw [← hw0]; exact (Below.refl _ _).alloc (Nat.le_refl _) _
  have hs0 : w0.heap.size = w.heap.size + 1 := by rw [← hw0]; simp
  have hc0 : w0.cell? ⟨w.heap.size, 0, none⟩ = some (.int .u64 (now : Nat)) := by rw [← hw0]; exact cell_blk (heap_alloc_new _ _) 0
  have CT : Hid (Calls Try.prog 42 #[.pointer (some ⟨p, 0, none⟩), .func (.func 43) #[] #[], .func (.func 44) #[] #[.pointer (some ⟨w.heap.size, 0, none⟩)]] w0 fun e w' => ∃ g n, e = .returned (.slice (some ⟨g, 0, none⟩) n n) ∧ Hid (∃ F, DueIs E now F ∧ RowI w' g (F.map (·.x.conn)) ∧ n = F.length ∧ w.heap.size ≤ g ∧ Below w.heap.size w w')) := hide ((told_any O w0 p bw bl T 43 44 #[.pointer (some ⟨w.heap.size, 0, none⟩)] E (dueB now) cfTime (h.below hb0) swoTime (enters_of Try.func43 (by kernel_rfl) rfl) (enters_of Try.func44 (by kernel_rfl) rfl) byTime_any (fun W e _ hb => due27 W w.heap.size now e ((hb.cell (p := ⟨w.heap.size, 0, none⟩) (by show w.heap.size < w0.heap.size; omega)).trans hc0) (by have := hb.size; omega))).mono (fun e w' ⟨g, n, e1, e2⟩ => by
    obtain ⟨F, h1, h2, h3, h4, h5, h6⟩ := unhide e2
    refine ⟨g, n, e1, hide ⟨F, ⟨h1, h2.imp (fun {a b} hab => ?_)⟩, h3, h4, by omega, hb0.trans (h6.mono hb0.size)⟩⟩
    rw [ltTime] at hab
    have hab' : ¬ (((b.x.till : Nat) : Int) < ((a.x.till : Nat) : Int) ∨ ((b.x.till : Nat) : Int) = ((a.x.till : Nat) : Int) ∧ ((b.turn : Nat) : Int) < ((a.turn : Nat) : Int)) := of_decide_eq_false hab
    omega))
  clear h hb0 hs0 hc0
  go_enter Try.func16, Try.ntmps16
  go_wp2_with (first | (go_at_call 42; with_reducible refine (unhide CT).mono ?_; rintro e w1 ⟨g, n, rfl, k1⟩))
  go_ret
  exact ⟨g, n, rfl, k1⟩
end Go.Proofs.Ytfebiemfmiahhab
namespace Go.Proofs.Ytfebiemfmiahhab
open Go.ChangeShapes Go.WideShapes Go.ChangeAt Go.RowKit Go.Maps
set_option linter.unusedVariables false
set_option linter.unusedSimpArgs false
set_option maxRecDepth 100000
set_option maxHeartbeats 8000000
/-- numbers in memory -/
def IsI (W : World) (a : Option Addr) (l : List Nat) : Prop := l = [] ∨ ∃ b off, a = some ⟨b, off, none⟩ ∧ b < W.heap.size ∧ ∀ (i x : Nat), l[i]? = some x → W.cell? ⟨b, off + i, none⟩ = some (.int .i64 (x : Nat))
theorem IsI.below {W W' : World} {a : Option Addr} {l : List Nat} (h : IsI W a l) (hb : Below W.heap.size W W') : IsI W' a l := by
  rcases h with h | ⟨b, off, e, hlt, hc⟩
  · exact .inl h
  · exact .inr ⟨b, off, e, Nat.lt_of_lt_of_le hlt hb.size, fun i x hx => (hb.cell (p := ⟨b, off + i, none⟩) hlt).trans (hc i x hx)⟩
theorem RowI.is {W : World} {g : Nat} {l : List Nat} (h : RowI W g l) : IsI W (some ⟨g, 0, none⟩) l :=
  .inr ⟨g, 0, rfl, blk_lt h, fun i x hx => by rw [cell_blk h, Nat.zero_add]; simp [hx]⟩
theorem ints_same (W : World) (a a' : Option Addr) (n c c' : Nat) (l : List Nat) (h : IsI W a l) (h' : IsI W a' l) (hn : n = l.length) (hn2 : n ≤ 1000000) :
    Calls Try.prog 19 #[.slice a n c, .slice a' n c'] W fun e w' => e = .returned (.bool true) ∧ Hid (Below W.heap.size W w') := by
  have HN := hide hn
  clear hn
  go_enter Try.func19, Try.ntmps19
  go_wp2_with fail
  go_loopw [5] (fun iv wr => ∃ i : Nat, iv = .int .i64 ((i : Nat) : Int) ∧ i ≤ n ∧ Hid (Below W.heap.size W wr)) (fun iv _ => n - (intOf iv).toNat)
  case atStart => exact ⟨0, rfl, Nat.zero_le _, hide (Below.refl _ _)⟩
  case round =>
    obtain ⟨i, rfl, hi, HB⟩ := hrel
    by_cases hin : i < n
    · have f1 : decide ((i : Int) < (n : Int)) = true := decide_eq_true (by omega)
      have g1 : (0 : Int) ≤ (i : Int) := by omega
      have g2 : (i : Int) < (n : Int) := by omega
      obtain ⟨x, hx⟩ : ∃ x, l[i]? = some x := ⟨_, List.getElem?_eq_getElem (by have := unhide HN; omega)⟩
      obtain ⟨b, off, rfl, hbl, hc⟩ : ∃ b off, a = some ⟨b, off, none⟩ ∧ b < W.heap.size ∧ ∀ (i x : Nat), l[i]? = some x → W.cell? ⟨b, off + i, none⟩ = some (.int .i64 (x : Nat)) := by
        rcases h with h | h
        · rw [h] at hx; simp at hx
        · exact h
      obtain ⟨b', off', rfl, hbl', hc'⟩ : ∃ b off, a' = some ⟨b, off, none⟩ ∧ b < W.heap.size ∧ ∀ (i x : Nat), l[i]? = some x → W.cell? ⟨b, off + i, none⟩ = some (.int .i64 (x : Nat)) := by
        rcases h' with h | h
        · rw [h] at hx; simp at hx
        · exact h
      have c0 : wr.cell? ⟨b, off + i, none⟩ = some (.int .i64 (x : Nat)) := ((unhide HB).cell (p := ⟨b, off + i, none⟩) hbl).trans (hc i x hx)
      have c1 : wr.cell? ⟨b', off' + i, none⟩ = some (.int .i64 (x : Nat)) := ((unhide HB).cell (p := ⟨b', off' + i, none⟩) hbl').trans (hc' i x hx)
      have f2 : ((x : Int) != (x : Int)) = false := by simp
      have HB2 := hide (unhide HB).drew
      clear hx h h' hc hc'
      go_wp2_with fail
      go_region
      all_goals (go_wp2_with fail)
      all_goals go_roundw
      case rel => exact ⟨i + 1, by go_num, by omega, HB2⟩
      case measure => simp [intOf]; omega
    · obtain rfl : i = n := by omega
      have f1 : decide ((i : Int) < (i : Int)) = false := decide_eq_false (by omega)
      clear h h'
      go_wp2_with fail
      go_ret
      exact ⟨rfl, HB⟩
theorem plC_one (l : List Pl) : ∀ v ∈ l.flatMap plC, v.oneCell' = true := by
  intro v hv
  obtain ⟨x, hx, hv⟩ := List.mem_flatMap.1 hv
  simp only [plC, List.mem_cons, List.not_mem_nil, or_false] at hv
  rcases hv with rfl | rfl <;> rfl
theorem PlsAt.cells {W : World} {b off : Nat} {l : List Pl} (hc : ∀ (i : Nat) (x : Pl), l[i]? = some x → W.cell? ⟨b, off + i * 2, none⟩ = some (.int .i64 x.1) ∧ W.cell? ⟨b, off + i * 2 + 1, none⟩ = some (.string (bs x.2))) (j : Nat) (v : Value) (hv : (l.flatMap plC)[j]? = some v) : W.cell? ((⟨b, off, none⟩ : Addr).add j) = some v := by
  have hadd : (⟨b, off, none⟩ : Addr).add j = ⟨b, off + j, none⟩ := by unfold Addr.add; split <;> simp_all
  rw [hadd]
  have hj : j < (l.flatMap plC).length := (List.getElem?_eq_some_iff.1 hv).1
  rw [flatP_len] at hj
  obtain ⟨x, hx⟩ : ∃ x, l[j / 2]? = some x := ⟨_, List.getElem?_eq_getElem (by omega)⟩
  obtain ⟨h0, h1⟩ := hc _ _ hx
  have e := flatP_get l (j / 2) x hx (j % 2) (by omega)
  rw [show j / 2 * 2 + j % 2 = j by omega, hv] at e
  rcases (show j % 2 = 0 ∨ j % 2 = 1 by omega) with q | q
  · rw [q] at e
    rw [show off + j = off + j / 2 * 2 by omega, h0, e]; rfl
  · rw [q] at e
    rw [show off + j = off + j / 2 * 2 + 1 by omega, h1, e]; rfl
theorem run_copy_places (w : World) (n c : Nat) (a : Option Addr) (cap : Nat) (l : List Pl) (hn : n = l.length) (h : PlsAt w a l) (cs : Array Value) (hcs : cs.size = n * 2) (ty : TypeId) :
    (Builtin.copy_ #[38, 38] ty #[.slice (some ⟨w.heap.size, 0, none⟩) n c, .slice a n cap]).run Try.prog (w.alloc (.cells cs 46)) = .ok (goInt n) (w.alloc (.cells (l.flatMap plC).toArray 46)) := by
  obtain ⟨i, hi, hzz⟩ := Option.map_eq_some_iff.1 info40
  simp only [Prod.mk.injEq] at hzz
  obtain ⟨hz, hs, hb⟩ := hzz
  have hlast : (w.alloc (.cells cs 46)).heap[w.heap.size]? = some (.cells cs 46 (0, 0)) := heap_alloc_new _ _
  have hst := run_storeCells_at Try.prog w.heap.size 0 46 (l.flatMap plC) 0 cs (w.alloc (.cells cs 46)) hlast (by rw [flatP_len]; omega) (plC_one l)
  have hrow : (cs.toList.take (0 + 0) ++ l.flatMap plC ++ cs.toList.drop (0 + 0 + (l.flatMap plC).length)).toArray = (l.flatMap plC).toArray := by
    rw [flatP_len, List.drop_of_length_le (by simp; omega)]; simp
  rw [hrow] at hst
  have hal : (w.alloc (.cells cs 46)).setRow w.heap.size (l.flatMap plC).toArray = w.alloc (.cells (l.flatMap plC).toArray 46) := by
    show ({ w with heap := (w.heap.push (.cells cs 46)).modify w.heap.size _ } : World) = { w with heap := w.heap.push _ }
    congr 1
    refine Array.ext (by simp) fun k h1 h2 => ?_
    simp only [Array.getElem_modify, Array.getElem_push]
    simp only [Array.size_push] at h2
    by_cases e : w.heap.size = k
    · subst e; simp
    · have : k < w.heap.size := by omega
      simp [e, this]
  rw [hal] at hst
  have hld : (Builtin.firstCells 2 n (.slice a n cap)).run Try.prog (w.alloc (.cells cs 46)) = .ok (l.flatMap plC).toArray (w.alloc (.cells cs 46)) := by
    rcases h with rfl | ⟨b, off, rfl, hbl, hc⟩
    · cases a with
      | none => simp [Builtin.firstCells]
      | some ad =>
        have := run_firstCells_some (P := Try.prog) (w.alloc (.cells cs 46)) 2 n ad n cap [] (by simp [hn]) (by simp)
        simpa using this
    · refine run_firstCells_some (P := Try.prog) (w.alloc (.cells cs 46)) 2 n ⟨b, off, none⟩ n cap _ (by rw [flatP_len, hn]) (PlsAt.cells fun i x hx => ?_)
      obtain ⟨h0, h1⟩ := hc i x hx
      have bl := (Below.refl w.heap.size w).alloc (Nat.le_refl _) (.cells cs 46)
      exact ⟨(bl.cell (p := ⟨b, off + i * 2, none⟩) hbl).trans h0, (bl.cell (p := ⟨b, off + i * 2 + 1, none⟩) hbl).trans h1⟩
  simp [Builtin.copy_, run_underlying Try.underlying38, Builtin.lenOf, sizeOf, typeInfo, hi, hs, hld, hst]
theorem eql_nil_some (ad : Addr) (n cap : Nat) (W : World) : (binOp .eql 38 (.slice (some ad) n cap) (.slice none 0 0)).run Try.prog W = .ok (.bool false) W := by kernel_rfl
theorem eql_nil_none (W : World) : (binOp .eql 38 (.slice none 0 0) (.slice none 0 0)).run Try.prog W = .ok (.bool true) W := by kernel_rfl
theorem twin_any (W : World) (a : Option Addr) (cap : Nat) (l : List Pl) (h : PlsAt W a l) (hnil : a = none → cap = 0 ∧ l = []) (hn : l.length ≤ 5864062014805) :
    Calls Try.prog 29 #[.slice a l.length cap] W fun e w' => ∃ a' cap', e = .returned (.slice a' l.length cap') ∧ (a' = none → cap' = 0 ∧ l = []) ∧ Hid (PlsAt w' a' l ∧ Below W.heap.size W w') := by
  cases a with
  | none =>
    obtain ⟨rfl, rfl⟩ := hnil rfl
    clear h hnil
    have e1 := eql_nil_none
    go_enter Try.func29, Try.ntmps29
    go_wp2
    go_ret
    exact ⟨none, 0, rfl, by simp, hide ⟨.inl rfl, Below.refl _ _⟩⟩
  | some ad =>
    have m1 := makeP l.length hn
    have e1 := eql_nil_some ad l.length cap
    obtain ⟨n, hnl⟩ : ∃ n, n = l.length := ⟨_, rfl⟩
    have k1 := fun ty => run_copy_places W n n (some ad) cap l hnl h (madeCells #[.int .i64 0, .string (bs [])] (n * 2)) (by simp [madeCells]) ty
    rw [← hnl] at m1 e1 ⊢
    have HN := hide hnl
    have HP := hide h
    clear h hnil hnl hn
    go_enter Try.func29, Try.ntmps29
    go_wp2_with fail
    go_ret
    refine ⟨_, n, rfl, by simp, hide ⟨RowP.at (heap_alloc_new _ _), (Below.refl _ _).alloc (Nat.le_refl _) _⟩⟩
end Go.Proofs.Ytfebiemfmiahhab
