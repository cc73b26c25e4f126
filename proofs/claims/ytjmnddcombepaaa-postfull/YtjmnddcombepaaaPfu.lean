/- PostFull. -/
import Derived.Test.YtjmnddcombepaaaPwn
import Derived.Laws.Pointers
namespace Go.Proofs.Ytjmnddcombepaaa
open Go.ChangeShapes Go.WideShapes Go.ChangeAt Go.RowKit Go.Maps Go.Sort
set_option linter.unusedVariables false
set_option linter.unusedSimpArgs false
set_option maxRecDepth 100000
set_option maxHeartbeats 8000000

/-- the law's walk: the argument's box stays, the Post holds S -/
structure FSt (W1 wr : World) (p b : Nat) (S : List Key) : Prop where
  bel : Below W1.heap.size W1 wr
  st : ∃ D, PostAt wr p b D S
  hb : W1.heap.size ≤ b
theorem FSt.below {W1 wr w' : World} {p b : Nat} {S : List Key} (h : FSt W1 wr p b S) (k : Below wr.heap.size wr w') : FSt W1 w' p b S := by
  obtain ⟨D, hd⟩ := h.st
  exact ⟨h.bel.trans (k.mono h.bel.size), ⟨D, hd.below k⟩, h.hb⟩
theorem FSt.keep {W1 wr w' : World} {p b : Nat} {S S' : List Key} (h : FSt W1 wr p b S) (k : ∃ D', PostAt w' p b D' S' ∧ KeptB b wr w') : FSt W1 w' p b S' := by
  obtain ⟨D', h1, h2⟩ := k
  have hb := h.hb
  exact ⟨⟨h2.os.trans h.bel.os, h2.tape.trans h.bel.tape, h2.output.trans h.bel.output, Nat.le_trans h.bel.size h2.size, fun i hi => (h2.blk i (Nat.lt_of_lt_of_le hi h.bel.size) (by omega)).trans (h.bel.block i hi)⟩, ⟨D', h1⟩, h.hb⟩
theorem FSt.drew {W1 wr : World} {p b : Nat} {S : List Key} (h : FSt W1 wr p b S) : FSt W1 wr.drew p b S := h.below ⟨rfl, rfl, rfl, Nat.le_refl _, fun _ _ => rfl⟩
theorem FSt.cell {W1 wr : World} {p b : Nat} {S : List Key} (h : FSt W1 wr p b S) {x j : Nat} {v : Value} (hx : x < W1.heap.size) (hv : W1.cell? ⟨x, j, none⟩ = some v) : wr.cell? ⟨x, j, none⟩ = some v := (h.bel.cell (p := ⟨x, j, none⟩) hx).trans hv
theorem full_small (c : Int) : ∀ k, k ≤ 64 → (fullS c k).length ≤ 64
  | 0, _ => by simp [fullS]
  | k + 1, h => by
    have := full_len c k
    simp only [fullS, List.length_cons]
    omega
where
  full_len (c : Int) : ∀ k, (fullS c k).length = k
    | 0 => rfl
    | k + 1 => by simp [fullS, full_len c k]
theorem nameL_len (i : Nat) : (nameL i).length = 3 := rfl
/-- Join, at any point of the law -/
theorem FSt.join {W1 W : World} {p b : Nat} {S : List Key} (h : FSt W1 W p b S) (c i : Nat) (q : Bool) (hc : c < 8) (hS : S.length ≤ 100) (S' : List Key) (n : Nat) (ok : Bool) (er : Int) (hj : joinR S (((c : Nat) : Int), nameL i, q) = (S', n, ok, er)) :
    Calls Try.prog 10 #[.pointer (some ⟨p, 0, none⟩), .int .i64 (c : Nat), .string (bs (nameL i)), .bool q] W fun e w' => e = .returned (.tuple #[.int .i64 (n : Nat), .bool ok, .int .i64 er]) ∧ Hid (FSt W1 w' p b S') := by
  obtain ⟨D, hd⟩ := h.st
  have := join_any W p b D S (c : Nat) (nameL i) q hd (by omega) (by rw [nameL_len]; omega) (by omega)
  rw [hj] at this
  exact this.mono (fun e w' ⟨h1, h2⟩ => ⟨h1, hide (h.keep (unhide h2))⟩)
theorem FSt.name {W1 W : World} {p b : Nat} {S : List Key} (h : FSt W1 W p b S) (i : Nat) (hi : i ≤ 1000) : Calls Try.prog 11 #[.int .i64 (i : Nat)] W fun e w' => e = .returned (.string (bs (nameL i))) ∧ Hid (FSt W1 w' p b S) :=
  (name_any W i hi).mono (fun e w' ⟨h1, h2⟩ => ⟨h1, hide (h.below (unhide h2))⟩)
theorem full_law (w : World) (v0 v1 : Value) (I N : Int) (hI : -9223372036854775808 ≤ I ∧ I ≤ 9223372036854775807) (hN : -9223372036854775808 ≤ N ∧ N ≤ 9223372036854775807) :
    Calls Try.prog 3 #[.agg #[v0, v1, .int .i64 I, .int .i64 N]] w fun e w' => e = .returned (.bool true) ∧ Below w.heap.size w w' := by
  obtain ⟨W1, hW1⟩ : ∃ W1, W1 = w.alloc (.cells #[v0, v1, .int .i64 I, .int .i64 N] 25) := ⟨_, rfl⟩
  have hb1 : Below w.heap.size w W1 := by rw [hW1]; exact (Below.refl _ _).alloc (Nat.le_refl _) _
  have hbox : W1.heap[w.heap.size]? = some (.cells #[v0, v1, .int .i64 I, .int .i64 N] 25 (0, 0)) := by rw [hW1]; exact heap_alloc_new _ _
  have hlt := blk_lt hbox
  have x2 : W1.cell? ⟨w.heap.size, 2, none⟩ = some (.int .i64 I) := by rw [cell_blk hbox]; rfl
  have x3 : W1.cell? ⟨w.heap.size, 3, none⟩ = some (.int .i64 N) := by rw [cell_blk hbox]; rfl
  obtain ⟨c, hc⟩ : ∃ c : Nat, ((c : Nat) : Int) = N % 8 := ⟨(N % 8).toNat, by omega⟩
  obtain ⟨j, hj⟩ : ∃ j : Nat, ((j : Nat) : Int) = I % 32 := ⟨(I % 32).toNat, by omega⟩
  have hc8 : c < 8 := by omega
  have hj32 : j < 32 := by omega
  obtain ⟨G, hG⟩ := glob_is
  obtain ⟨p, hp⟩ : ∃ p, p = W1.heap.size + 1 := ⟨_, rfl⟩
  obtain ⟨b, hbb⟩ : ∃ b, b = W1.heap.size := ⟨_, rfl⟩
  have CNew : Hid (Calls Try.prog 8 #[] (w.alloc (.cells #[v0, v1, .int .i64 I, .int .i64 N] 25)) fun e w' => e = .returned (.pointer (some ⟨p, 0, none⟩)) ∧ Hid (FSt W1 w' p b (fullS (c : Nat) 0)) ∧ w'.cell? ⟨w.heap.size, 3, none⟩ = some (.int .i64 N)) := hide (by
    rw [← hW1, hp, hbb]
    exact (new_any W1).mono (fun e w' ⟨h1, h2⟩ => by
      have hf : FSt W1 w' (W1.heap.size + 1) W1.heap.size (fullS (c : Nat) 0) := ⟨(unhide h2).2, ⟨_, (unhide h2).1⟩, Nat.le_refl _⟩
      exact ⟨h1, hide hf, hf.cell hlt x3⟩))
  have CW8 : Hid (∀ W, Calls Try.prog 9 #[.int .i64 N, .int .i64 8] W fun e w' => e = .returned (.int .i64 (c : Nat)) ∧ w' = W) := hide (fun W => by rw [hc]; exact within8 W N hN)
  have CW32 : Hid (∀ W, Calls Try.prog 9 #[.int .i64 I, .int .i64 32] W fun e w' => e = .returned (.int .i64 (j : Nat)) ∧ w' = W) := hide (fun W => by rw [hj]; exact within32 W I hI)
  have HX2 := hide x2
  have HB1 := hide hb1
  have CJK : Hid (∀ W (k : Nat), k < 64 → Hid (FSt W1 W p b (fullS (c : Nat) k)) → Calls Try.prog 10 #[.pointer (some ⟨p, 0, none⟩), .int .i64 (c : Nat), .string (bs (nameL (k / 2))), .bool ((k : Int) % 2 == 0)] W fun e w' => e = .returned (.tuple #[.int .i64 ((k + 1 : Nat) : Int), .bool true, .int .i64 0]) ∧ Hid (FSt W1 w' p b (fullS (c : Nat) (k + 1)))) := hide (fun W (k : Nat) hk hW => by
    have e1 : ((k : Int) % 2 == 0) = decide (k % 2 = 0) := by
      rw [Bool.eq_iff_iff, beq_iff_eq, decide_eq_true_iff]
      omega
    rw [e1]
    exact (unhide hW).join c (k / 2) _ hc8 (by have := full_small (c : Nat) k (by omega); omega) _ _ _ _ (full_join c hc8 k hk))
  have CNM : Hid (∀ W S (k : Nat), k < 64 → Hid (FSt W1 W p b S) → Calls Try.prog 11 #[.int .i64 ((k : Int) / 2)] W fun e w' => e = .returned (.string (bs (nameL (k / 2)))) ∧ Hid (FSt W1 w' p b S)) := hide (fun W S k hk hW => by
    have e1 : (k : Int) / 2 = ((k / 2 : Nat) : Int) := by omega
    rw [e1]
    exact (unhide hW).name (k / 2) (by omega))
  have h64 := full_small (c : Nat) 64 (Nat.le_refl _)
  have yC : ∀ {W S}, FSt W1 W p b S → W.cell? ⟨w.heap.size, 2, none⟩ = some (.int .i64 I) := fun h => h.cell hlt x2
  have CN90 : Hid (∀ W S, Hid (FSt W1 W p b S) → Calls Try.prog 11 #[.int .i64 90] W fun e w' => e = .returned (.string (bs (nameL 90))) ∧ Hid (FSt W1 w' p b S) ∧ w'.cell? ⟨w.heap.size, 2, none⟩ = some (.int .i64 I)) := hide (fun W S hW => ((unhide hW).name 90 (by omega)).mono (fun e w' ⟨h1, h2⟩ => ⟨h1, h2, yC (unhide h2)⟩))
  have CNJ : Hid (∀ W S, Hid (FSt W1 W p b S) → Calls Try.prog 11 #[.int .i64 (j : Nat)] W fun e w' => e = .returned (.string (bs (nameL j))) ∧ Hid (FSt W1 w' p b S) ∧ w'.cell? ⟨w.heap.size, 2, none⟩ = some (.int .i64 I)) := hide (fun W S hW => ((unhide hW).name j (by omega)).mono (fun e w' ⟨h1, h2⟩ => ⟨h1, h2, yC (unhide h2)⟩))
  have CJM : Hid (∀ W q, Hid (FSt W1 W p b (fullS (c : Nat) 64)) → Calls Try.prog 10 #[.pointer (some ⟨p, 0, none⟩), .int .i64 (c : Nat), .string (bs (nameL 90)), .bool q] W fun e w' => e = .returned (.tuple #[.int .i64 0, .bool false, .int .i64 172]) ∧ Hid (FSt W1 w' p b (fullS (c : Nat) 64)) ∧ w'.cell? ⟨w.heap.size, 2, none⟩ = some (.int .i64 I)) := hide (fun W q hW => ((unhide hW).join c 90 q hc8 (by omega) _ _ _ _ (full_many c hc8 q)).mono (fun e w' ⟨h1, h2⟩ => ⟨h1, h2, yC (unhide h2)⟩))
  have CJO : Hid (∀ W q, Hid (FSt W1 W p b (fullS (c : Nat) 64)) → Calls Try.prog 10 #[.pointer (some ⟨p, 0, none⟩), .int .i64 (c : Nat), .string (bs (nameL j)), .bool q] W fun e w' => e = .returned (.tuple #[.int .i64 64, .bool false, .int .i64 0]) ∧ Hid (FSt W1 w' p b (fullS (c : Nat) 64)) ∧ w'.cell? ⟨w.heap.size, 2, none⟩ = some (.int .i64 I)) := hide (fun W q hW => ((unhide hW).join c j q hc8 (by omega) _ _ _ _ (full_old c hc8 j hj32 q)).mono (fun e w' ⟨h1, h2⟩ => ⟨h1, h2, yC (unhide h2)⟩))
  obtain ⟨-, -, -, hx65, hx3⟩ := full_hear c hc8
  have CJX : Hid (∀ W, Hid (FSt W1 W p b (fullS (c : Nat) 64)) → Calls Try.prog 10 #[.pointer (some ⟨p, 0, none⟩), .int .i64 (((c : Int) + 1) % 8), .string (bs (nameL 90)), .bool true] W fun e w' => e = .returned (.tuple #[.int .i64 1, .bool true, .int .i64 0]) ∧ Hid (FSt W1 w' p b (fullX c)) ∧ w'.cell? ⟨w.heap.size, 2, none⟩ = some (.int .i64 I)) := hide (fun W hW => by
    have e1 : ((c : Int) + 1) % 8 = (((c + 1) % 8 : Nat) : Int) := by omega
    rw [e1]
    exact ((unhide hW).join ((c + 1) % 8) 90 true (by omega) (by omega) _ _ _ _ (full_next c hc8)).mono (fun e w' ⟨h1, h2⟩ => ⟨h1, h2, yC (unhide h2)⟩))
  have CCX : Hid (∀ W, Hid (FSt W1 W p b (fullX c)) → Calls Try.prog 13 #[.pointer (some ⟨p, 0, none⟩), .int .i64 (c : Nat)] W fun e w' => e = .returned (.int .i64 64) ∧ Hid (FSt W1 w' p b (fullX c)) ∧ w'.cell? ⟨w.heap.size, 2, none⟩ = some (.int .i64 I)) := hide (fun W hW => by
    obtain ⟨D, hd⟩ := (unhide hW).st
    have := count_any W p b D (fullX c) (c : Nat) hd (by omega)
    rw [full_cnt c hc8] at this
    exact this.mono (fun e w' ⟨h1, h2⟩ => ⟨h1, hide ((unhide hW).below (unhide h2)), yC ((unhide hW).below (unhide h2))⟩))
  have CHX : Hid (∀ W, Hid (FSt W1 W p b (fullX c)) → Calls Try.prog 14 #[.pointer (some ⟨p, 0, none⟩), .string (bs (nameL 90))] W fun e w' => ∃ (a : Option Addr) (cap : Nat), e = .returned (.slice a 1 cap) ∧ Hid (FSt W1 w' p b (fullX c)) ∧ w'.cell? ⟨w.heap.size, 2, none⟩ = some (.int .i64 I)) := hide (fun W hW => by
    obtain ⟨D, hd⟩ := (unhide hW).st
    refine (heard_any G hG W p b D (fullX c) (nameL 90) hd (by omega) (fun k hk => by rw [hx3 k hk]; decide) (by rw [nameL_len]; decide)).mono ?_
    rintro e w' ⟨a, n, cap, rfl, h2⟩
    obtain ⟨q1, q2, q3⟩ := unhide h2
    rw [full_heard hG c hc8] at q3
    subst q3
    exact ⟨a, cap, rfl, hide ((unhide hW).below q2), yC ((unhide hW).below q2)⟩)
  obtain ⟨S2, hS2⟩ : ∃ S2, S2 = (fullX c).erase (((c : Nat) : Int), nameL j, true) := ⟨_, rfl⟩
  have hS2l : S2.length ≤ 65 := by rw [hS2, ← hx65]; exact List.length_erase_le
  have CLV : Hid (∀ W, Hid (FSt W1 W p b (fullX c)) → Calls Try.prog 15 #[.pointer (some ⟨p, 0, none⟩), .int .i64 (c : Nat), .string (bs (nameL j)), .bool true] W fun e w' => ∃ (n : Nat) (ok : Bool), e = .returned (.tuple #[.int .i64 (n : Nat), .bool ok, .int .i64 0]) ∧ Hid (FSt W1 w' p b S2) ∧ w'.cell? ⟨w.heap.size, 2, none⟩ = some (.int .i64 I)) := hide (fun W hW => by
    obtain ⟨D, hd⟩ := (unhide hW).st
    refine (leave_any W p b D (fullX c) (c : Nat) (nameL j) true hd (by omega) (by rw [nameL_len]; decide) (by omega)).mono ?_
    rintro e w' ⟨rfl, h2⟩
    rw [← hS2] at h2
    exact ⟨_, _, rfl, hide ((unhide hW).keep (unhide h2)), yC ((unhide hW).keep (unhide h2))⟩)
  have CJL : Hid (∀ W, Hid (FSt W1 W p b S2) → Calls Try.prog 10 #[.pointer (some ⟨p, 0, none⟩), .int .i64 (c : Nat), .string (bs (nameL 90)), .bool false] W fun e w' => e = .returned (.tuple #[.int .i64 64, .bool true, .int .i64 0]) ∧ Hid (FSt W1 w' p b ((((c : Nat) : Int), nameL 90, false) :: S2)) ∧ w'.cell? ⟨w.heap.size, 2, none⟩ = some (.int .i64 I)) := hide (fun W hW => ((unhide hW).join c 90 false hc8 (by omega) _ _ _ _ (by rw [hS2]; exact full_last c hc8 j hj32)).mono (fun e w' ⟨h1, h2⟩ => ⟨h1, h2, yC (unhide h2)⟩))
  have CLS : Hid (∀ W, Hid (FSt W1 W p b ((((c : Nat) : Int), nameL 90, false) :: S2)) → Calls Try.prog 16 #[.pointer (some ⟨p, 0, none⟩), .string (bs (nameL 90))] W fun e w' => e = .returned (.int .i64 1) ∧ Hid (Below w.heap.size w w')) := hide (fun W hW => by
    obtain ⟨D, hd⟩ := (unhide hW).st
    have := listeners_any W p b D _ (nameL 90) hd (by simp only [List.length_cons]; omega) (by rw [nameL_len]; decide)
    rw [hS2, full_lis c hc8 j hj32] at this
    exact this.mono (fun e w' ⟨h1, h2⟩ => ⟨h1, hide (hb1.trans (((unhide hW).bel.trans ((unhide h2).mono (unhide hW).bel.size)).mono hb1.size))⟩))
  have HLT := hide hlt
  clear hb1 hbox hc hj hW1 hp hbb x2 x3 hlt yC hx65 hx3 hS2 hS2l
  go_enter Try.func3, Try.ntmps3
  go_wp2_with (first
    | (go_at_call 8; with_reducible refine (unhide CNew).mono ?_; rintro e w2 ⟨rfl, k2, y2⟩)
    | (go_at_call 9; with_reducible refine (unhide CW8 _).mono ?_; rintro e w3 ⟨rfl, h3⟩; obtain rfl := h3.symm))
  go_loopw [5] (fun iv wr => ∃ k : Nat, iv = .int .i64 (k : Nat) ∧ k ≤ 64 ∧ Hid (FSt W1 wr p b (fullS (c : Nat) k))) (fun iv _ => 64 - (intOf iv).toNat)
  case atStart => exact ⟨0, rfl, by omega, k2⟩
  case round =>
    obtain ⟨k, rfl, hk, HK⟩ := hrel
    by_cases hk64 : k < 64
    · have f1 : decide ((k : Int) < 64) = true := decide_eq_true (by omega)
      have f2 : (((k + 1 : Nat) : Int) != (k : Int) + 1) = false := by simp
      have CN1 := hide (unhide CNM wr _ k hk64 HK)
      go_wp2_with (first
        | (go_at_call 11; with_reducible refine (unhide CN1).mono ?_; rintro e w4 ⟨rfl, k4⟩)
        | (go_at_call 10; with_reducible refine (unhide CJK w4 k hk64 k4).mono ?_; rintro e w5 ⟨rfl, k5⟩)
        | (go_at_call 12; with_reducible refine (num_any _ _).mono ?_; rintro e w6 ⟨rfl, h6⟩; obtain rfl := h6.symm))
      all_goals go_roundw
      case rel => exact ⟨k + 1, by go_num, by omega, k5⟩
      case measure => simp [intOf]; omega
    · obtain rfl : k = 64 := by omega
      have f1 : decide (((64 : Nat) : Int) < 64) = false := decide_eq_false (by omega)
      have f1' : decide ((64 : Int) < 64) = false := by decide
      have yI := (unhide HK).cell (unhide HLT) (unhide HX2)
      have HKd := hide (unhide HK).drew
      go_wp2_with fail
      go_region_held3 (fun W => W.cell? ⟨w.heap.size, 2, none⟩ = some (.int .i64 I)) (first | exact x4 | exact x5 | exact yI | go_keep) (first
        | (go_at_call 11; with_reducible refine (unhide CN90 _ _ HKd).mono ?_; rintro e w4 ⟨rfl, k4, x4⟩)
        | (go_at_call 10; with_reducible refine (unhide CJM w4 _ k4).mono ?_; rintro e w5 ⟨rfl, k5, x5⟩))
      have HKe := hide (unhide k5).drew
      go_wp2_with fail
      go_region_held3 (fun W => W.cell? ⟨w.heap.size, 2, none⟩ = some (.int .i64 I)) (first | exact x6 | exact x7 | exact x5 | go_keep) (first
        | (go_at_call 9; with_reducible refine (unhide CW32 _).mono ?_; rintro e w55 ⟨rfl, h55⟩; obtain rfl := h55.symm)
        | (go_at_call 11; with_reducible refine (unhide CNJ _ _ HKe).mono ?_; rintro e w6 ⟨rfl, k6, x6⟩)
        | (go_at_call 10; with_reducible refine (unhide CJO w6 _ k6).mono ?_; rintro e w7 ⟨rfl, k7, x7⟩))
      go_wp2_with (first
        | (go_at_call 12; with_reducible refine (num_any _ _).mono ?_; rintro e wn ⟨rfl, hn⟩; obtain rfl := hn.symm)
        | (go_at_call 11; with_reducible refine (unhide CN90 _ _ k16).mono ?_; rintro e w17 ⟨rfl, k17, x17⟩)
        | (go_at_call 11; with_reducible refine (unhide CN90 _ _ k14).mono ?_; rintro e w15 ⟨rfl, k15, x15⟩)
        | (go_at_call 11; with_reducible refine (unhide CNJ _ _ k12).mono ?_; rintro e w13 ⟨rfl, k13, x13⟩)
        | (go_at_call 11; with_reducible refine (unhide CN90 _ _ k10).mono ?_; rintro e w11 ⟨rfl, k11, x11⟩)
        | (go_at_call 11; with_reducible refine (unhide CN90 _ _ k7).mono ?_; rintro e w8 ⟨rfl, k8, x8⟩)
        | (go_at_call 10; with_reducible refine (unhide CJL _ k15).mono ?_; rintro e w16 ⟨rfl, k16, x16⟩)
        | (go_at_call 10; with_reducible refine (unhide CJX _ k8).mono ?_; rintro e w9 ⟨rfl, k9, x9⟩)
        | (go_at_call 13; with_reducible refine (unhide CCX _ k9).mono ?_; rintro e w10 ⟨rfl, k10, x10⟩)
        | (go_at_call 14; with_reducible refine (unhide CHX _ k11).mono ?_; rintro e w12 ⟨ha, hcap, rfl, k12, x12⟩)
        | (go_at_call 9; with_reducible refine (unhide CW32 _).mono ?_; rintro e w55 ⟨rfl, h55⟩; obtain rfl := h55.symm)
        | (go_at_call 15; with_reducible refine (unhide CLV _ k13).mono ?_; rintro e w14 ⟨ln, lok, rfl, k14, x14⟩)
        | (go_at_call 16; with_reducible refine (unhide CLS _ k17).mono ?_; rintro e w18 ⟨rfl, k18⟩))
      all_goals go_ret
      all_goals exact ⟨rfl, unhide k18⟩
end Go.Proofs.Ytjmnddcombepaaa
