/- beyond, beyondInts: the walks. -/
import Derived.Test.YtfebiemfmiahhabRc
import Derived.Test.YtfebiemfmiahhabKe
import Derived.Deep.RegionHeld3
namespace Go.Proofs.Ytfebiemfmiahhab
open Go.ChangeShapes Go.WideShapes Go.ChangeAt Go.RowKit
set_option linter.unusedVariables false
set_option linter.unusedSimpArgs false
set_option maxRecDepth 100000
set_option maxHeartbeats 16000000
theorem mk2 (a b : Value) : ∀ j, j < 6 → ([a, b, a, b, a, b] : List Value).getD j undef = mkF [a, b] j := by
  intro j hj
  have : j = 0 ∨ j = 1 ∨ j = 2 ∨ j = 3 ∨ j = 4 ∨ j = 5 := by omega
  rcases this with rfl | rfl | rfl | rfl | rfl | rfl <;> (first | rfl | simp [mkF])
theorem mk1 (a : Value) : ∀ j, j < 3 → ([a, a, a] : List Value).getD j undef = mkF [a] j := by
  intro j hj
  have : j = 0 ∨ j = 1 ∨ j = 2 := by omega
  rcases this with rfl | rfl | rfl <;> (first | rfl | simp [mkF])
theorem mk2b (a b : Value) : ∀ j, j < 4 → ([a, b, a, b] : List Value).getD j undef = mkF [a, b] j := by
  intro j hj
  have : j = 0 ∨ j = 1 ∨ j = 2 ∨ j = 3 := by omega
  rcases this with rfl | rfl | rfl | rfl <;> (first | rfl | simp [mkF])
theorem mk2a (a b : Value) : ∀ j, j < 2 → ([a, b] : List Value).getD j undef = mkF [a, b] j := by
  intro j hj
  have : j = 0 ∨ j = 1 := by omega
  rcases this with rfl | rfl <;> (first | rfl | simp [mkF])
theorem mk1b (a : Value) : ∀ j, j < 2 → ([a, a] : List Value).getD j undef = mkF [a] j := by
  intro j hj
  have : j = 0 ∨ j = 1 := by omega
  rcases this with rfl | rfl <;> (first | rfl | simp [mkF])
theorem mk1a (a : Value) : ∀ j, j < 1 → ([a] : List Value).getD j undef = mkF [a] j := by
  intro j hj
  have : j = 0 := by omega
  subst this; first | rfl | simp [mkF]
/-- what beyond leaves: five lists in a row, the first of them the one that was handed in -/
def ByEnd (w0 : World) (e le : TypeId) (s B : Nat) (L : List Ent) (c : List Value) (v : Value) (n : Nat) (r : Ending) (w' : World) : Prop := ∃ g, r = .returned (.slice (some ⟨g, 0, none⟩) 5 5) ∧ Hid (∃ x2 x3 x4 x5 : Ent, w'.heap[g]? = some (.cells #[v, x2.v, x3.v, x4.v, x5.v] le (0, 0)) ∧ w0.heap.size ≤ g ∧ KL w' e s B (L ++ [x2, x3, x4, x5]) ∧ Fl L w0 w' ∧ (∀ y ∈ [x2, x3, x4, x5], y.c = c ∧ y.n ≤ n + 80 ∧ y.v.ownBlock ≠ some g ∧ (∃ a cap, y.v = .slice a y.n cap) ∧ ∀ g, y.v.ownBlock = some g → w0.heap.size ≤ g ∨ ∃ x ∈ L, x.v.ownBlock = some g) ∧ (∀ y ∈ L, y.v.ownBlock ≠ some g))
theorem beyondInts_any (w : World) (B : Nat) (L : List Ent) (a : Option Addr) (n cap : Nat) (m : Int) (hB : B ≤ w.heap.size) (h : KL w 3 1 B L) (hx : (⟨.slice a n cap, n, [.int .i64 m]⟩ : Ent) ∈ L) (hn : n ≤ 100000) :
    Calls Try.prog 28 #[.slice a n cap, .int .i64 m] w fun e w' => ByEnd w 3 51 1 B L [.int .i64 m] (.slice a n cap) n e w' := by
  obtain ⟨i0, hi0, hz0, hz1, hz2⟩ := info_parts4 info3
  have S0 : Hid (BeS w 3 1 B L 0 none [.int .i64 m] w []) := hide (BeS.start0 h hB [.int .i64 m] 0)
  have F1 := hide ((unhide S0).step (by simpa using hx) 1 [.int .i64 m] rfl (mk1a _))
  have HX := hide hx
  have HW := hide h
  clear hx h
  go_enter Try.func28, Try.ntmps28
  go_wp2_with (first
    | (at_builtin; refine append_rws rfl _ _ 51 rfl 3 i0 _ 1 8 Try.underlying51 hi0 hz0 hz1 hz2 rfl 3 (.slice a n cap) n (mkF [.int .i64 m]) rfl (unhide F1).1 (.inl rfl) w.heap.size 1 rfl [.int .i64 m] (by decide) rfl (made_cells w [.int .i64 m] 3) (by simp [Value.oneCell']) (by omega) (by omega) ?_; intro v1 w2 h1 g1; obtain ⟨a1, c1, rfl, s1, m1, k1⟩ := (unhide F1).2 _ _ h1 g1; have S1 := hide s1; have F2 := hide (s1.step (List.mem_append_left _ (unhide HX)) 2 [.int .i64 m, .int .i64 m] rfl (mk1b _)); have M1 := hide m1; have K1 := hide k1; clear h1 g1 s1 m1 k1; go_frame)
    | (at_builtin; refine append_rws rfl _ _ 51 rfl 3 i0 _ 1 8 Try.underlying51 hi0 hz0 hz1 hz2 rfl 3 (.slice a n cap) n (mkF [.int .i64 m]) rfl (unhide F2).1 (.inl rfl) w2.heap.size 2 rfl [.int .i64 m, .int .i64 m] (by decide) rfl (made_cells w2 [.int .i64 m, .int .i64 m] 3) (by simp [Value.oneCell']) (by omega) (by omega) ?_; intro v2 w3 h2 g2; obtain ⟨a2, c2, rfl, s2, m2, k2⟩ := (unhide F2).2 _ _ h2 g2; have S2 := hide s2; have F3 := hide (s2.step (List.mem_append_left _ (unhide HX)) 3 [.int .i64 m, .int .i64 m, .int .i64 m] rfl (mk1 _)); have M2 := hide m2; have K2 := hide k2; clear h2 g2 s2 m2 k2; go_frame)
    | (at_builtin; refine append_rws rfl _ _ 51 rfl 3 i0 _ 1 8 Try.underlying51 hi0 hz0 hz1 hz2 rfl 3 (.slice a n cap) n (mkF [.int .i64 m]) rfl (unhide F3).1 (.inl rfl) w3.heap.size 3 rfl [.int .i64 m, .int .i64 m, .int .i64 m] (by decide) rfl (made_cells w3 [.int .i64 m, .int .i64 m, .int .i64 m] 3) (by simp [Value.oneCell']) (by omega) (by omega) ?_; intro v3 w4 h3 g3; obtain ⟨a3, c3, rfl, s3, m3, k3⟩ := (unhide F3).2 _ _ h3 g3; have S3 := hide s3; have M3 := hide m3; have K3 := hide k3; clear h3 g3 s3 m3 k3; go_frame))
  obtain ⟨M3, hM3⟩ : ∃ M3 : List Ent, M3 = [] ++ [⟨.slice a1 (n + 1) c1, n + 1, [.int .i64 m]⟩] ++ [⟨.slice a2 (n + 2) c2, n + 2, [.int .i64 m]⟩] ++ [⟨.slice a3 (n + 3) c3, n + 3, [.int .i64 m]⟩] := ⟨_, rfl⟩
  rw [← hM3] at S3
  have HM3 := hide hM3
  have HM : Hid ((⟨.slice a n cap, n, [.int .i64 m]⟩ : Ent) ∈ L ++ (M3 ++ [])) := hide (List.mem_append_left _ (unhide HX))
  have HS3 : Hid (∃ M', BeS w 3 1 B L 0 none [.int .i64 m] w4 (M3 ++ M') ∧ (⟨.slice a n cap, n, [.int .i64 m]⟩ : Ent) ∈ L ++ (M3 ++ M')) := hide ⟨[], by rw [List.append_nil]; exact unhide S3, unhide HM⟩
  clear hM3 F1 F2 F3 M1 M2 K1 K2 K3 S0 S1 S2
  go_loopw [8, 9] (fun fv iv wr => ∃ (a' : Option Addr) (n' c' i : Nat), fv = .slice a' n' c' ∧ iv = .int .i64 ((i : Nat) : Int) ∧ i ≤ 80 ∧ n' ≤ n + i ∧ Hid (∃ M', BeS w 3 1 B L 0 none [.int .i64 m] wr (M3 ++ M') ∧ (⟨.slice a' n' c', n', [.int .i64 m]⟩ : Ent) ∈ L ++ (M3 ++ M'))) (fun _ iv _ => 80 - (intOf iv).toNat)
  case atStart => exact ⟨a, n, cap, 0, rfl, rfl, by omega, by omega, HS3⟩
  case round =>
    obtain ⟨a', n', c', i, rfl, rfl, hi, hni, HO⟩ := hrel
    clear HS3
    by_cases hin : i < 80
    · have f1 : decide ((i : Int) < 80) = true := decide_eq_true (by omega)
      have f2 : decide (i < 80) = true := decide_eq_true (by omega)
      obtain ⟨M', q1, q2⟩ := unhide HO
      have F5 := hide (q1.step q2 1 [.int .i64 m] rfl (mk1a _))
      clear q1 q2 HO
      go_wp2_with (first
        | (at_builtin; refine append_rws rfl _ _ 51 rfl 3 i0 _ 1 8 Try.underlying51 hi0 hz0 hz1 hz2 rfl 3 (.slice a' n' c') n' (mkF [.int .i64 m]) rfl (unhide F5).1 (.inl rfl) wr.heap.size 1 rfl [.int .i64 m] (by decide) rfl (made_cells wr [.int .i64 m] 3) (by simp [Value.oneCell']) (by omega) (by omega) ?_; intro v5 w5 h5 g5; obtain ⟨a5, c5, rfl, s5, m5, -⟩ := (unhide F5).2 _ _ h5 g5; have S5 := hide (And.intro s5 m5); clear h5 g5 s5 m5 F5; go_frame))
      refine ⟨⟨a5, n' + 1, c5, i + 1, rfl, congrArg (Value.int .i64) (by omega), by omega, by omega, hide ⟨M' ++ [⟨.slice a5 (n' + 1) c5, n' + 1, [.int .i64 m]⟩], ?_, ?_⟩⟩, by simp [intOf]; omega⟩
      · have := (unhide S5).1
        rwa [List.append_assoc M3 M'] at this
      · have := (unhide S5).2
        rwa [List.append_assoc M3 M'] at this
    · obtain rfl : i = 80 := by omega
      have f1 : decide (((80 : Nat) : Int) < 80) = false := by decide
      go_wp2_with fail
      go_ret
      obtain ⟨M', q1, q2⟩ := unhide HO
      have hal : Below wr.heap.size wr (wr.alloc (.cells #[.slice a n cap, .slice a1 (n + 1) c1, .slice a2 (n + 2) c2, .slice a3 (n + 3) c3, .slice a' n' c'] 51)) := (Below.refl _ _).alloc (Nat.le_refl _) _
      have hq := q1.below hal
      have hin : ∀ y ∈ L ++ [⟨.slice a1 (n + 1) c1, n + 1, [.int .i64 m]⟩, ⟨.slice a2 (n + 2) c2, n + 2, [.int .i64 m]⟩, ⟨.slice a3 (n + 3) c3, n + 3, [.int .i64 m]⟩, ⟨.slice a' n' c', n', [.int .i64 m]⟩], y ∈ L ++ (M3 ++ M') := fun y hy => by
        rcases List.mem_append.1 hy with hy | hy
        · exact List.mem_append_left _ hy
        · have h3 : ∀ z ∈ M3, z ∈ L ++ (M3 ++ M') := fun z hz => List.mem_append_right _ (List.mem_append_left _ hz)
          rw [unhide HM3] at h3
          simp only [List.mem_cons, List.not_mem_nil, or_false] at hy
          rcases hy with rfl | rfl | rfl | rfl
          · rw [unhide HM3]; exact h3 _ (by simp)
          · rw [unhide HM3]; exact h3 _ (by simp)
          · rw [unhide HM3]; exact h3 _ (by simp)
          · exact q2
      have hlt : ∀ y ∈ L ++ (M3 ++ M'), y.v.ownBlock ≠ some wr.heap.size := fun y hy e => by
        have := q1.kl.lt hy _ e
        omega
      have hown : ∀ y ∈ L ++ (M3 ++ M'), ∀ g, y.v.ownBlock = some g → w.heap.size ≤ g ∨ ∃ x ∈ L, x.v.ownBlock = some g := fun y hy g hg => by
        rcases List.mem_append.1 hy with hy | hy
        · exact .inr ⟨y, hy, hg⟩
        · exact (q1.hM y hy).2 g hg
      refine ⟨wr.heap.size, rfl, hide ⟨⟨.slice a1 (n + 1) c1, n + 1, [.int .i64 m]⟩, ⟨.slice a2 (n + 2) c2, n + 2, [.int .i64 m]⟩, ⟨.slice a3 (n + 3) c3, n + 3, [.int .i64 m]⟩, ⟨.slice a' n' c', n', [.int .i64 m]⟩, heap_alloc_new _ _, q1.fl.size, hq.kl.sub hin, q1.fl.trans (Fl.of (L := L) hal) (fun x hx => .inl hx), fun y hy => ?_, fun y hy => hlt y (List.mem_append_left _ hy)⟩⟩
      have hy2 := hin y (List.mem_append_right _ hy)
      have hsh : y.c = [.int .i64 m] ∧ y.n ≤ n + 80 ∧ ∃ a cap, y.v = .slice a y.n cap := by
        simp only [List.mem_cons, List.not_mem_nil, or_false] at hy
        rcases hy with rfl | rfl | rfl | rfl
        · exact ⟨rfl, by show n + 1 ≤ _; omega, _, _, rfl⟩
        · exact ⟨rfl, by show n + 2 ≤ _; omega, _, _, rfl⟩
        · exact ⟨rfl, by show n + 3 ≤ _; omega, _, _, rfl⟩
        · exact ⟨rfl, hni, _, _, rfl⟩
      exact ⟨hsh.1, hsh.2.1, hlt y hy2, hsh.2.2, hown y hy2⟩
theorem beyond_any (w : World) (B : Nat) (L : List Ent) (a : Option Addr) (n cap : Nat) (m : Pl) (hB : B ≤ w.heap.size) (h : KL w 46 2 B L) (hx : (⟨.slice a n cap, n, [.int .i64 m.1, .string (bs m.2)]⟩ : Ent) ∈ L) (hn : n ≤ 100000) :
    Calls Try.prog 27 #[.slice a n cap, .agg #[.int .i64 m.1, .string (bs m.2)]] w fun e w' => ByEnd w 46 38 2 B L [.int .i64 m.1, .string (bs m.2)] (.slice a n cap) n e w' := by
  obtain ⟨i0, hi0, hz0, hz1, hz2⟩ := info_parts4 info46
  obtain ⟨bx, hbx⟩ : ∃ bx, bx = w.heap.size := ⟨_, rfl⟩
  obtain ⟨bo, hbo⟩ : ∃ bo : Option Obj, bo = some (.cells #[.int .i64 m.1, .string (bs m.2)] 46 (0, 0)) := ⟨_, rfl⟩
  have S0 : Hid (BeS w 46 2 B L bx bo [.int .i64 m.1, .string (bs m.2)] (w.alloc (.cells #[.int .i64 m.1, .string (bs m.2)] 46)) []) := hide (by rw [hbx, hbo]; exact BeS.start h hB [.int .i64 m.1, .string (bs m.2)] _ _)
  have HC : Hid (∀ W M, BeS w 46 2 B L bx bo [.int .i64 m.1, .string (bs m.2)] W M → W.cell? ⟨w.heap.size, 0, none⟩ = some (.int .i64 m.1) ∧ W.cell? ⟨w.heap.size, 1, none⟩ = some (.string (bs m.2))) := hide fun W M q => by
    have := q.box _ hbo
    rw [hbx] at this
    exact ⟨cell_blk this 0, cell_blk this 1⟩
  obtain ⟨x0, x1⟩ := unhide HC _ _ (unhide S0)
  clear hbo
  have F1 := hide ((unhide S0).step (by simpa using hx) 1 [.int .i64 m.1, .string (bs m.2)] rfl (mk2a _ _))
  obtain ⟨w1, hw1⟩ : ∃ w1, w.alloc (.cells #[.int .i64 m.1, .string (bs m.2)] 46) = w1 := ⟨_, rfl⟩
  rw [hw1] at S0 F1 x0 x1
  have HX := hide hx
  have HW := hide h
  clear hx h
  go_enter Try.func27, Try.ntmps27
  go_wp2_with (first
    | (at_builtin; refine append_rws rfl _ _ 38 rfl 46 i0 _ 2 24 Try.underlying38 hi0 hz0 hz1 hz2 rfl 46 (.slice a n cap) n (mkF [.int .i64 m.1, .string (bs m.2)]) rfl (unhide F1).1 (.inl rfl) w1.heap.size 1 rfl [.int .i64 m.1, .string (bs m.2)] (by decide) rfl (made_cells w1 [.int .i64 m.1, .string (bs m.2)] 46) (by simp [Value.oneCell']) (by omega) (by omega) ?_; intro v1 w2 h1 g1; obtain ⟨a1, c1, rfl, s1, m1, k1⟩ := (unhide F1).2 _ _ h1 g1; have S1 := hide s1; obtain ⟨y1, z1⟩ := unhide HC _ _ s1; have F2 := hide (s1.step (List.mem_append_left _ (unhide HX)) 2 [.int .i64 m.1, .string (bs m.2), .int .i64 m.1, .string (bs m.2)] rfl (mk2b _ _)); have M1 := hide m1; have K1 := hide k1; clear h1 g1 s1 m1 k1; go_frame)
    | (at_builtin; refine append_rws rfl _ _ 38 rfl 46 i0 _ 2 24 Try.underlying38 hi0 hz0 hz1 hz2 rfl 46 (.slice a n cap) n (mkF [.int .i64 m.1, .string (bs m.2)]) rfl (unhide F2).1 (.inl rfl) w2.heap.size 2 rfl [.int .i64 m.1, .string (bs m.2), .int .i64 m.1, .string (bs m.2)] (by decide) rfl (made_cells w2 [.int .i64 m.1, .string (bs m.2), .int .i64 m.1, .string (bs m.2)] 46) (by simp [Value.oneCell']) (by omega) (by omega) ?_; intro v2 w3 h2 g2; obtain ⟨a2, c2, rfl, s2, m2, k2⟩ := (unhide F2).2 _ _ h2 g2; have S2 := hide s2; obtain ⟨y2, z2⟩ := unhide HC _ _ s2; have F3 := hide (s2.step (List.mem_append_left _ (unhide HX)) 3 [.int .i64 m.1, .string (bs m.2), .int .i64 m.1, .string (bs m.2), .int .i64 m.1, .string (bs m.2)] rfl (mk2 _ _)); have M2 := hide m2; have K2 := hide k2; clear h2 g2 s2 m2 k2; go_frame)
    | (at_builtin; refine append_rws rfl _ _ 38 rfl 46 i0 _ 2 24 Try.underlying38 hi0 hz0 hz1 hz2 rfl 46 (.slice a n cap) n (mkF [.int .i64 m.1, .string (bs m.2)]) rfl (unhide F3).1 (.inl rfl) w3.heap.size 3 rfl [.int .i64 m.1, .string (bs m.2), .int .i64 m.1, .string (bs m.2), .int .i64 m.1, .string (bs m.2)] (by decide) rfl (made_cells w3 [.int .i64 m.1, .string (bs m.2), .int .i64 m.1, .string (bs m.2), .int .i64 m.1, .string (bs m.2)] 46) (by simp [Value.oneCell']) (by omega) (by omega) ?_; intro v3 w4 h3 g3; obtain ⟨a3, c3, rfl, s3, m3, k3⟩ := (unhide F3).2 _ _ h3 g3; have S3 := hide s3; obtain ⟨y3, z3⟩ := unhide HC _ _ s3; have M3 := hide m3; have K3 := hide k3; clear h3 g3 s3 m3 k3; go_frame))
  obtain ⟨M3, hM3⟩ : ∃ M3 : List Ent, M3 = [] ++ [⟨.slice a1 (n + 1) c1, n + 1, [.int .i64 m.1, .string (bs m.2)]⟩] ++ [⟨.slice a2 (n + 2) c2, n + 2, [.int .i64 m.1, .string (bs m.2)]⟩] ++ [⟨.slice a3 (n + 3) c3, n + 3, [.int .i64 m.1, .string (bs m.2)]⟩] := ⟨_, rfl⟩
  rw [← hM3] at S3
  have HM3 := hide hM3
  have HM : Hid ((⟨.slice a n cap, n, [.int .i64 m.1, .string (bs m.2)]⟩ : Ent) ∈ L ++ (M3 ++ [])) := hide (List.mem_append_left _ (unhide HX))
  have HS3 : Hid (∃ M', BeS w 46 2 B L bx bo [.int .i64 m.1, .string (bs m.2)] w4 (M3 ++ M') ∧ (⟨.slice a n cap, n, [.int .i64 m.1, .string (bs m.2)]⟩ : Ent) ∈ L ++ (M3 ++ M')) := hide ⟨[], by rw [List.append_nil]; exact unhide S3, unhide HM⟩
  clear hM3 F1 F2 F3 M1 M2 K1 K2 K3 S0 S1 S2
  go_loopw [8, 9] (fun fv iv wr => ∃ (a' : Option Addr) (n' c' i : Nat), fv = .slice a' n' c' ∧ iv = .int .i64 ((i : Nat) : Int) ∧ i ≤ 80 ∧ n' ≤ n + i ∧ Hid (∃ M', BeS w 46 2 B L bx bo [.int .i64 m.1, .string (bs m.2)] wr (M3 ++ M') ∧ (⟨.slice a' n' c', n', [.int .i64 m.1, .string (bs m.2)]⟩ : Ent) ∈ L ++ (M3 ++ M'))) (fun _ iv _ => 80 - (intOf iv).toNat)
  case atStart => exact ⟨a, n, cap, 0, rfl, rfl, by omega, by omega, HS3⟩
  case round =>
    obtain ⟨a', n', c', i, rfl, rfl, hi, hni, HO⟩ := hrel
    clear HS3
    by_cases hin : i < 80
    · have f1 : decide ((i : Int) < 80) = true := decide_eq_true (by omega)
      have f2 : decide (i < 80) = true := decide_eq_true (by omega)
      obtain ⟨M', q1, q2⟩ := unhide HO
      obtain ⟨y5, z5⟩ := unhide HC _ _ q1
      have F5 := hide (q1.step q2 1 [.int .i64 m.1, .string (bs m.2)] rfl (mk2a _ _))
      clear q1 q2 HO
      go_wp2_with (first
        | (at_builtin; refine append_rws rfl _ _ 38 rfl 46 i0 _ 2 24 Try.underlying38 hi0 hz0 hz1 hz2 rfl 46 (.slice a' n' c') n' (mkF [.int .i64 m.1, .string (bs m.2)]) rfl (unhide F5).1 (.inl rfl) wr.heap.size 1 rfl [.int .i64 m.1, .string (bs m.2)] (by decide) rfl (made_cells wr [.int .i64 m.1, .string (bs m.2)] 46) (by simp [Value.oneCell']) (by omega) (by omega) ?_; intro v5 w5 h5 g5; obtain ⟨a5, c5, rfl, s5, m5, -⟩ := (unhide F5).2 _ _ h5 g5; have S5 := hide (And.intro s5 m5); clear h5 g5 s5 m5 F5; go_frame))
      refine ⟨⟨a5, n' + 1, c5, i + 1, rfl, congrArg (Value.int .i64) (by omega), by omega, by omega, hide ⟨M' ++ [⟨.slice a5 (n' + 1) c5, n' + 1, [.int .i64 m.1, .string (bs m.2)]⟩], ?_, ?_⟩⟩, by simp [intOf]; omega⟩
      · have := (unhide S5).1
        rwa [List.append_assoc M3 M'] at this
      · have := (unhide S5).2
        rwa [List.append_assoc M3 M'] at this
    · obtain rfl : i = 80 := by omega
      have f1 : decide (((80 : Nat) : Int) < 80) = false := by decide
      go_wp2_with fail
      go_ret
      obtain ⟨M', q1, q2⟩ := unhide HO
      have hal : Below wr.heap.size wr (wr.alloc (.cells #[.slice a n cap, .slice a1 (n + 1) c1, .slice a2 (n + 2) c2, .slice a3 (n + 3) c3, .slice a' n' c'] 38)) := (Below.refl _ _).alloc (Nat.le_refl _) _
      have hq := q1.below hal
      have hin : ∀ y ∈ L ++ [⟨.slice a1 (n + 1) c1, n + 1, [.int .i64 m.1, .string (bs m.2)]⟩, ⟨.slice a2 (n + 2) c2, n + 2, [.int .i64 m.1, .string (bs m.2)]⟩, ⟨.slice a3 (n + 3) c3, n + 3, [.int .i64 m.1, .string (bs m.2)]⟩, ⟨.slice a' n' c', n', [.int .i64 m.1, .string (bs m.2)]⟩], y ∈ L ++ (M3 ++ M') := fun y hy => by
        rcases List.mem_append.1 hy with hy | hy
        · exact List.mem_append_left _ hy
        · have h3 : ∀ z ∈ M3, z ∈ L ++ (M3 ++ M') := fun z hz => List.mem_append_right _ (List.mem_append_left _ hz)
          rw [unhide HM3] at h3
          simp only [List.mem_cons, List.not_mem_nil, or_false] at hy
          rcases hy with rfl | rfl | rfl | rfl
          · rw [unhide HM3]; exact h3 _ (by simp)
          · rw [unhide HM3]; exact h3 _ (by simp)
          · rw [unhide HM3]; exact h3 _ (by simp)
          · exact q2
      have hlt : ∀ y ∈ L ++ (M3 ++ M'), y.v.ownBlock ≠ some wr.heap.size := fun y hy e => by
        have := q1.kl.lt hy _ e
        omega
      have hown : ∀ y ∈ L ++ (M3 ++ M'), ∀ g, y.v.ownBlock = some g → w.heap.size ≤ g ∨ ∃ x ∈ L, x.v.ownBlock = some g := fun y hy g hg => by
        rcases List.mem_append.1 hy with hy | hy
        · exact .inr ⟨y, hy, hg⟩
        · exact (q1.hM y hy).2 g hg
      refine ⟨wr.heap.size, rfl, hide ⟨⟨.slice a1 (n + 1) c1, n + 1, [.int .i64 m.1, .string (bs m.2)]⟩, ⟨.slice a2 (n + 2) c2, n + 2, [.int .i64 m.1, .string (bs m.2)]⟩, ⟨.slice a3 (n + 3) c3, n + 3, [.int .i64 m.1, .string (bs m.2)]⟩, ⟨.slice a' n' c', n', [.int .i64 m.1, .string (bs m.2)]⟩, heap_alloc_new _ _, q1.fl.size, hq.kl.sub hin, q1.fl.trans (Fl.of (L := L) hal) (fun x hx => .inl hx), fun y hy => ?_, fun y hy => hlt y (List.mem_append_left _ hy)⟩⟩
      have hy2 := hin y (List.mem_append_right _ hy)
      have hsh : y.c = [.int .i64 m.1, .string (bs m.2)] ∧ y.n ≤ n + 80 ∧ ∃ a cap, y.v = .slice a y.n cap := by
        simp only [List.mem_cons, List.not_mem_nil, or_false] at hy
        rcases hy with rfl | rfl | rfl | rfl
        · exact ⟨rfl, by show n + 1 ≤ _; omega, _, _, rfl⟩
        · exact ⟨rfl, by show n + 2 ≤ _; omega, _, _, rfl⟩
        · exact ⟨rfl, by show n + 3 ≤ _; omega, _, _, rfl⟩
        · exact ⟨rfl, hni, _, _, rfl⟩
      exact ⟨hsh.1, hsh.2.1, hlt y hy2, hsh.2.2, hown y hy2⟩
end Go.Proofs.Ytfebiemfmiahhab
