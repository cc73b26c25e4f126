/- PostExact: each call over a step's state. -/
import Derived.Test.YtjmnddcombepaaaDu
import Derived.Test.YtjmnddcombepaaaPsv
import Derived.Test.YtjmnddcombepaaaPal
namespace Go.Proofs.Ytjmnddcombepaaa
open Go.ChangeShapes Go.WideShapes Go.ChangeAt Go.RowKit Go.Maps
set_option linter.unusedVariables false
set_option linter.unusedSimpArgs false
set_option maxRecDepth 100000
set_option maxHeartbeats 8000000
/-- the program's Post and the document's hold the same names -/
structure PlOk (S L : List Key) (N : Nat) : Prop where
  perm : S.Perm L
  nd : L.Nodup
  ok : ∀ k ∈ L, (0 ≤ k.1 ∧ k.1 < 8) ∧ k.2.1.length ≤ 4096
  len : L.length ≤ N
def joinA (S : List Key) (k : Key) : List Key × Nat × Bool × Int := if wrongD k.1 k.2.1 ≠ 0 then (S, 0, false, wrongD k.1 k.2.1) else joinR S k
def leaveA (S : List Key) (k : Key) : List Key × Nat × Bool × Int := if wrongD k.1 k.2.1 ≠ 0 then (S, 0, false, wrongD k.1 k.2.1) else (S.erase k, cntC (S.erase k) k.1, decide (k ∈ S), 0)
theorem wrongD_zero {c : Int} {T : List UInt8} (h : wrongD c T = 0) : (0 ≤ c ∧ c < 8) ∧ T.length ≤ 4096 := by
  unfold wrongD at h
  split at h
  · omega
  · split at h <;> omega
theorem join_all (w : World) (p b : Nat) (D : Dt) (S : List Key) (c : Int) (T : List UInt8) (q : Bool) (h : PostAt w p b D S) (hc : -9223372036854775808 ≤ c ∧ c ≤ 9223372036854775807) (hS : S.length ≤ 1099511627776) :
    Calls Try.prog 10 #[.pointer (some ⟨p, 0, none⟩), .int .i64 c, .string (bs T), .bool q] w fun e w' => e = .returned (.tuple #[.int .i64 ((joinA S (c, T, q)).2.1 : Nat), .bool (joinA S (c, T, q)).2.2.1, .int .i64 (joinA S (c, T, q)).2.2.2]) ∧ Hid (∃ D', PostAt w' p b D' (joinA S (c, T, q)).1 ∧ KeptB b w w') := by
  unfold joinA
  by_cases hw : wrongD c T ≠ 0
  · rw [if_pos hw]
    have CR : Hid (Calls Try.prog 30 #[.int .i64 c, .string (bs T)] w fun e w' => e = .returned (.int .i64 (wrongD c T)) ∧ w' = w) := hide (refuse_any w c T hc)
    dsimp only at hw ⊢
    generalize wrongD c T = wd at CR hw ⊢
    have f1 : (wd != 0) = true := by simpa using hw
    have f2 : (wd == 0) = false := by simpa using hw
    have HP := hide h
    clear h hw
    go_enter Try.func10, Try.ntmps10
    go_wp2_with (first
      | (go_at_call 30; with_reducible refine (unhide CR).mono ?_; rintro e w1 ⟨rfl, h1⟩; obtain rfl := h1.symm))
    all_goals go_ret3
    all_goals exact ⟨rfl, hide ⟨D, unhide HP, KeptB.of (Below.refl _ _)⟩⟩
  · rw [if_neg hw]
    obtain ⟨h1, h2⟩ := wrongD_zero (c := c) (T := T) (by simpa using hw)
    exact join_any w p b D S c T q h h1 h2 hS
theorem leave_all (w : World) (p b : Nat) (D : Dt) (S : List Key) (c : Int) (T : List UInt8) (q : Bool) (h : PostAt w p b D S) (hc : -9223372036854775808 ≤ c ∧ c ≤ 9223372036854775807) (hS : S.length ≤ 1099511627776) :
    Calls Try.prog 15 #[.pointer (some ⟨p, 0, none⟩), .int .i64 c, .string (bs T), .bool q] w fun e w' => e = .returned (.tuple #[.int .i64 ((leaveA S (c, T, q)).2.1 : Nat), .bool (leaveA S (c, T, q)).2.2.1, .int .i64 (leaveA S (c, T, q)).2.2.2]) ∧ Hid (∃ D', PostAt w' p b D' (leaveA S (c, T, q)).1 ∧ KeptB b w w') := by
  unfold leaveA
  by_cases hw : wrongD c T ≠ 0
  · rw [if_pos hw]
    have CR : Hid (Calls Try.prog 30 #[.int .i64 c, .string (bs T)] w fun e w' => e = .returned (.int .i64 (wrongD c T)) ∧ w' = w) := hide (refuse_any w c T hc)
    dsimp only at hw ⊢
    generalize wrongD c T = wd at CR hw ⊢
    have f1 : (wd != 0) = true := by simpa using hw
    have f2 : (wd == 0) = false := by simpa using hw
    have HP := hide h
    clear h hw
    go_enter Try.func15, Try.ntmps15
    go_wp2_with (first
      | (go_at_call 30; with_reducible refine (unhide CR).mono ?_; rintro e w1 ⟨rfl, h1⟩; obtain rfl := h1.symm))
    all_goals go_ret3
    all_goals exact ⟨rfl, hide ⟨D, unhide HP, KeptB.of (Below.refl _ _)⟩⟩
  · rw [if_neg hw]
    obtain ⟨h1, h2⟩ := wrongD_zero (c := c) (T := T) (by simpa using hw)
    exact leave_any w p b D S c T q h h1 h2 hS
theorem PlOk.mem {S L : List Key} {N : Nat} (h : PlOk S L N) (k : Key) : k ∈ S ↔ k ∈ L := h.perm.mem_iff
theorem PlOk.cnt {S L : List Key} {N : Nat} (h : PlOk S L N) (c : Int) : cntC S c = cntC L c := cntC_perm h.perm c
theorem plok_join {S L : List Key} {N : Nat} (h : PlOk S L N) (k : Key) : (joinA S k).2 = (djoinR L k).2 ∧ PlOk (joinA S k).1 (djoinR L k).1 (N + 1) := by
  have hN : PlOk S L (N + 1) := ⟨h.perm, h.nd, h.ok, Nat.le_succ_of_le h.len⟩
  unfold joinA djoinR joinR
  by_cases hw : wrongD k.1 k.2.1 ≠ 0
  · rw [if_pos hw, if_pos hw]; exact ⟨rfl, hN⟩
  · rw [if_neg hw, if_neg hw, h.cnt]
    by_cases hk : k ∈ L
    · rw [if_pos ((h.mem k).2 hk), if_pos hk]; exact ⟨rfl, hN⟩
    · rw [if_neg (fun z => hk ((h.mem k).1 z)), if_neg hk]
      by_cases h6 : 64 ≤ cntC L k.1
      · rw [if_pos h6, if_pos h6]; exact ⟨rfl, hN⟩
      · rw [if_neg h6, if_neg h6]
        refine ⟨rfl, (h.perm.cons k).trans (List.perm_append_singleton k L).symm, ?_, fun x hx => ?_, by rw [List.length_append]; have := h.len; simp; omega⟩
        · rw [List.nodup_append]
          exact ⟨h.nd, List.pairwise_singleton _ _, fun x hx y hy e => hk (by rw [← List.mem_singleton.1 hy, ← e]; exact hx)⟩
        · rcases List.mem_append.1 hx with hx | hx
          · exact h.ok x hx
          · rw [List.mem_singleton.1 hx]; exact wrongD_zero (by simpa using hw)
theorem erase_find {L : List Key} {k : Key} (hk : k ∈ L) : L.eraseIdx (findDI L k).toNat = L.erase k := by
  have h0 := findDI_ge.2 hk
  obtain ⟨i, hi⟩ : ∃ i : Nat, findDI L k = (i : Int) := ⟨(findDI L k).toNat, by omega⟩
  rw [hi]
  show L.eraseIdx i = _
  rw [List.erase_eq_eraseIdx]
  have hf : L.idxOf? k = some i := by
    unfold findDI findD at hi
    rw [List.idxOf?, show (fun x => x == k) = (fun y => decide (y = k)) from funext fun y => by by_cases e : y = k <;> simp [e]]
    cases hff : L.findIdx? (fun y => decide (y = k)) with
    | none => rw [hff] at hi; simp at hi
    | some j => rw [hff] at hi; simp at hi; exact congrArg some (by omega)
  rw [hf]
theorem plok_leave {S L : List Key} {N : Nat} (h : PlOk S L N) (k : Key) : (leaveA S k).2 = (dleaveR L k).2 ∧ PlOk (leaveA S k).1 (dleaveR L k).1 N := by
  unfold leaveA dleaveR
  by_cases hw : wrongD k.1 k.2.1 ≠ 0
  · rw [if_pos hw, if_pos hw]; exact ⟨rfl, h⟩
  · rw [if_neg hw, if_neg hw]
    have hpe := h.perm.erase k
    by_cases hk : k ∈ L
    · rw [if_pos hk, erase_find hk, cntC_perm hpe]
      refine ⟨by rw [decide_eq_true ((h.mem k).2 hk)], hpe, h.nd.erase k, fun x hx => h.ok x (List.mem_of_mem_erase hx), Nat.le_trans List.length_erase_le h.len⟩
    · have hk' : k ∉ S := fun z => hk ((h.mem k).1 z)
      rw [if_neg hk, List.erase_of_not_mem hk', h.cnt, decide_eq_false hk']
      exact ⟨rfl, h⟩
theorem plok_drop {S L S' : List Key} {N : Nat} (h : PlOk S L N) (c : Int) (hs : S'.Perm (restC S c)) : PlOk S' (restC L c) N :=
  ⟨hs.trans (h.perm.filter _), h.nd.sublist List.filter_sublist, fun x hx => h.ok x (List.mem_filter.1 hx).1, Nat.le_trans (List.length_filter_le _ _) h.len⟩
end Go.Proofs.Ytjmnddcombepaaa
namespace Go.Proofs.Ytjmnddcombepaaa
open Go.ChangeShapes Go.WideShapes Go.ChangeAt Go.RowKit Go.Maps
set_option linter.unusedVariables false
set_option linter.unusedSimpArgs false
set_option maxRecDepth 100000
set_option maxHeartbeats 8000000
section
variable {w0 W W' : World} {X0 X : Nat → Nat} {κ B0 bp p b q : Nat} {S L : List Key} {N : Nat}
theorem Z1.z0 {v : Value} {l : List (List UInt8)} (h : Z1 w0 X0 κ B0 bp p b q S L W v l) : Z0 w0 X0 κ B0 bp p b q S L W := by obtain ⟨X, D, h, -⟩ := h; exact ⟨X, D, h⟩
theorem Z2.z0 {v v' : Value} {l : List (List UInt8)} (h : Z2 w0 X0 κ B0 bp p b q S L W v v' l) : Z0 w0 X0 κ B0 bp p b q S L W := by obtain ⟨X, D, h, -⟩ := h; exact ⟨X, D, h⟩
theorem Z4.z0 {v : Value} {l : List (List UInt8)} (h : Z4 w0 X0 κ B0 bp p b q S L W v l) : Z0 w0 X0 κ B0 bp p b q S L W := by obtain ⟨X, D, h, -⟩ := h; exact ⟨X, D, h⟩
theorem Y1.z0 {v : Value} {l : List Hit} (h : Y1 w0 X0 κ B0 bp p b q S L W v l) : Z0 w0 X0 κ B0 bp p b q S L W := by obtain ⟨X, D, h, -⟩ := h; exact ⟨X, D, h⟩
theorem Y2.z0 {v v' : Value} {l : List Hit} (h : Y2 w0 X0 κ B0 bp p b q S L W v v' l) : Z0 w0 X0 κ B0 bp p b q S L W := by obtain ⟨X, D, h, -⟩ := h; exact ⟨X, D, h⟩
theorem Y4.z0 {v : Value} {l : List Hit} (h : Y4 w0 X0 κ B0 bp p b q S L W v l) : Z0 w0 X0 κ B0 bp p b q S L W := by obtain ⟨X, D, h, -⟩ := h; exact ⟨X, D, h⟩
/-- a block of colour 0 stays -/
theorem Z0.old (h : Z0 w0 X0 κ B0 bp p b q S L W) {g : Nat} (hg : g < w0.heap.size) (hx : X0 g = 0) : W.heap[g]? = w0.heap[g]? := by
  obtain ⟨X, D, h⟩ := h
  have k9 := h.k9
  exact (h.cx.block g hg (fun z => by unfold CK at z; omega)).1
theorem z_join (h : Z0 w0 X0 κ B0 bp p b q S L W) (hp : PlOk S L N) (hN : N ≤ 10000) (c : Int) (T : List UInt8) (r : Bool) (hc : -9223372036854775808 ≤ c ∧ c ≤ 9223372036854775807) :
    Calls Try.prog 10 #[.pointer (some ⟨p, 0, none⟩), .int .i64 c, .string (bs T), .bool r] W fun e w' => e = .returned (.tuple #[.int .i64 ((joinA S (c, T, r)).2.1 : Nat), .bool (joinA S (c, T, r)).2.2.1, .int .i64 (joinA S (c, T, r)).2.2.2]) ∧ Hid (Z0 w0 X0 κ B0 bp p b q (joinA S (c, T, r)).1 L w') := by
  obtain ⟨X, D, h⟩ := h
  obtain ⟨Dt, h1⟩ := h.post
  refine (join_all W p b Dt S c T r h1 hc (by have := hp.perm.length_eq; have := hp.len; omega)).mono ?_
  rintro e w' ⟨rfl, H⟩
  obtain ⟨D', z1, z2⟩ := unhide H
  exact ⟨rfl, hide ⟨X, D, h.post' z1 z2⟩⟩
theorem z_leave (h : Z0 w0 X0 κ B0 bp p b q S L W) (hp : PlOk S L N) (hN : N ≤ 10000) (c : Int) (T : List UInt8) (r : Bool) (hc : -9223372036854775808 ≤ c ∧ c ≤ 9223372036854775807) :
    Calls Try.prog 15 #[.pointer (some ⟨p, 0, none⟩), .int .i64 c, .string (bs T), .bool r] W fun e w' => e = .returned (.tuple #[.int .i64 ((leaveA S (c, T, r)).2.1 : Nat), .bool (leaveA S (c, T, r)).2.2.1, .int .i64 (leaveA S (c, T, r)).2.2.2]) ∧ Hid (Z0 w0 X0 κ B0 bp p b q (leaveA S (c, T, r)).1 L w') := by
  obtain ⟨X, D, h⟩ := h
  obtain ⟨Dt, h1⟩ := h.post
  refine (leave_all W p b Dt S c T r h1 hc (by have := hp.perm.length_eq; have := hp.len; omega)).mono ?_
  rintro e w' ⟨rfl, H⟩
  obtain ⟨D', z1, z2⟩ := unhide H
  exact ⟨rfl, hide ⟨X, D, h.post' z1 z2⟩⟩
theorem z_drop (h : Z0 w0 X0 κ B0 bp p b q S L W) (hp : PlOk S L N) (hN : N ≤ 10000) (c : Int) :
    Calls Try.prog 24 #[.pointer (some ⟨p, 0, none⟩), .int .i64 c] W fun e w' => e = .returned (.tuple #[]) ∧ Hid (∃ S', S'.Perm (restC S c) ∧ Z0 w0 X0 κ B0 bp p b q S' L w') := by
  obtain ⟨X, D, h⟩ := h
  obtain ⟨Dt, h1⟩ := h.post
  refine (drop_any W p b Dt S c h1 (by have := hp.perm.length_eq; have := hp.len; omega)).mono ?_
  rintro e w' ⟨rfl, H⟩
  obtain ⟨D', S', z1, z2, z3⟩ := unhide H
  exact ⟨rfl, hide ⟨S', z2, X, D, h.post' z1 z3⟩⟩
theorem z_djoin (h : Z0 w0 X0 κ B0 bp p b q S L W) (hL : L.length ≤ 500000) (c : Int) (T : List UInt8) (r : Bool) (hT : T.length ≤ 140737488355328) :
    Calls Try.prog 46 #[.pointer (some ⟨q, 0, none⟩), .int .i64 c, .string (bs T), .bool r] W fun e w' => e = .returned (.tuple #[.int .i64 ((djoinR L (c, T, r)).2.1 : Nat), .bool (djoinR L (c, T, r)).2.2.1, .int .i64 (djoinR L (c, T, r)).2.2.2]) ∧ Hid (Z0 w0 X0 κ B0 bp p b q S (djoinR L (c, T, r)).1 w') := by
  obtain ⟨X, D, h⟩ := h
  obtain ⟨v, h1, h2⟩ := h.doc
  refine (djoin_any W q v L c T r h1 hL hT).mono ?_
  rintro e w' ⟨rfl, H⟩
  obtain ⟨v', z1, z2⟩ := unhide H
  obtain ⟨X', k⟩ := h.doc' h2 h1 z1 z2
  exact ⟨rfl, hide ⟨X', D, k⟩⟩
theorem z_dleave (h : Z0 w0 X0 κ B0 bp p b q S L W) (hL : L.length ≤ 500000) (c : Int) (T : List UInt8) (r : Bool) (hT : T.length ≤ 140737488355328) :
    Calls Try.prog 47 #[.pointer (some ⟨q, 0, none⟩), .int .i64 c, .string (bs T), .bool r] W fun e w' => e = .returned (.tuple #[.int .i64 ((dleaveR L (c, T, r)).2.1 : Nat), .bool (dleaveR L (c, T, r)).2.2.1, .int .i64 (dleaveR L (c, T, r)).2.2.2]) ∧ Hid (Z0 w0 X0 κ B0 bp p b q S (dleaveR L (c, T, r)).1 w') := by
  obtain ⟨X, D, h⟩ := h
  obtain ⟨v, h1, h2⟩ := h.doc
  refine (dleave_any W q v L c T r h1 hL hT).mono ?_
  rintro e w' ⟨rfl, H⟩
  obtain ⟨v', z1, z2⟩ := unhide H
  obtain ⟨X', k⟩ := h.doc' h2 h1 z1 z2
  exact ⟨rfl, hide ⟨X', D, k⟩⟩
theorem z_ddrop (h : Z0 w0 X0 κ B0 bp p b q S L W) (hL : L.length ≤ 500000) (c : Int) :
    Calls Try.prog 48 #[.pointer (some ⟨q, 0, none⟩), .int .i64 c] W fun e w' => e = .returned (.tuple #[]) ∧ Hid (Z0 w0 X0 κ B0 bp p b q S (restC L c) w') := by
  obtain ⟨X, D, h⟩ := h
  obtain ⟨v, h1, h2⟩ := h.doc
  refine (ddrop_any W q v L c h1 hL).mono ?_
  rintro e w' ⟨rfl, H⟩
  obtain ⟨v', z1, z2⟩ := unhide H
  obtain ⟨X', k⟩ := h.doc' h2 h1 z1 z2
  exact ⟨rfl, hide ⟨X', D, k⟩⟩
theorem PlOk.sl (hp : PlOk S L N) (hN : N ≤ 10000) : S.length ≤ 10000 := by have := hp.perm.length_eq; have := hp.len; omega
theorem PlOk.txt (hp : PlOk S L N) : (∀ k ∈ S, k.2.1.length ≤ 4096) ∧ ∀ k ∈ L, k.2.1.length ≤ 4096 := ⟨fun k hk => (hp.ok k ((hp.mem k).1 hk)).2, fun k hk => (hp.ok k hk).2⟩
theorem Z0.rp (h : Z0 w0 X0 κ B0 bp p b q S L W) : RP W q L := by
  obtain ⟨X, D, h⟩ := h
  obtain ⟨v, h1, h2⟩ := h.doc
  exact ⟨v, h1⟩
theorem Z0.pa (h : Z0 w0 X0 κ B0 bp p b q S L W) : ∃ Dt, PostAt W p b Dt S := by
  obtain ⟨X, D, h⟩ := h
  exact h.post
theorem z_names (hp : PlOk S L N) (hN : N ≤ 10000) (c : Int) (r : Bool) (h : Z0 w0 X0 κ B0 bp p b q S L W) : Calls Try.prog 25 #[.pointer (some ⟨p, 0, none⟩), .int .i64 c, .bool r] W (SEnd W (namesL L c r)) := by
  obtain ⟨Dt, h1⟩ := h.pa
  rw [← namesL_perm hp.perm]
  exact names_any W p b Dt S c r h1 (by have := hp.sl hN; omega) (fun k hk => Nat.le_trans (hp.txt.1 k hk) (by decide))
theorem z_dnames (hp : PlOk S L N) (hN : N ≤ 10000) (c : Int) (r : Bool) (h : Z0 w0 X0 κ B0 bp p b q S L W) : Calls Try.prog 51 #[.pointer (some ⟨q, 0, none⟩), .int .i64 c, .bool r] W (SEnd W (namesL L c r)) :=
  dnames_any W q L c r h.rp (by have := hp.len; omega) hp.txt.2
theorem z_chan {G : List UInt8 → List UInt8 → Bool} (hG : GlobIs G) (hp : PlOk S L N) (hN : N ≤ 10000) (T : List UInt8) (hT : T.length ≤ 1073741824) (h : Z0 w0 X0 κ B0 bp p b q S L W) : Calls Try.prog 21 #[.pointer (some ⟨p, 0, none⟩), .string (bs T)] W (SEnd W (chanL G L T)) := by
  obtain ⟨Dt, h1⟩ := h.pa
  rw [← chanL_perm hp.perm]
  exact channels_any G hG W p b Dt S T h1 (by have := hp.sl hN; omega) hp.txt.1 hT
theorem z_dchan {G : List UInt8 → List UInt8 → Bool} (hG : GlobIs G) (hp : PlOk S L N) (hN : N ≤ 10000) (T : List UInt8) (hT : T.length ≤ 1073741824) (h : Z0 w0 X0 κ B0 bp p b q S L W) : Calls Try.prog 54 #[.pointer (some ⟨q, 0, none⟩), .string (bs T)] W (SEnd W (chanL G L T)) :=
  dchannels_any G hG W q L T hT h.rp (by have := hp.len; omega) hp.txt.2
theorem z_heard {G : List UInt8 → List UInt8 → Bool} (hG : GlobIs G) (hp : PlOk S L N) (hN : N ≤ 10000) (T : List UInt8) (hT : T.length ≤ 1073741824) (h : Z0 w0 X0 κ B0 bp p b q S L W) : Calls Try.prog 14 #[.pointer (some ⟨p, 0, none⟩), .string (bs T)] W (HEnd W (hearL G L T)) := by
  obtain ⟨Dt, h1⟩ := h.pa
  rw [← hearL_perm hp.perm]
  exact heard_any G hG W p b Dt S T h1 (by have := hp.sl hN; omega) hp.txt.1 (by omega)
theorem z_dheard {G : List UInt8 → List UInt8 → Bool} (hG : GlobIs G) (hp : PlOk S L N) (hN : N ≤ 10000) (T : List UInt8) (hT : T.length ≤ 1073741824) (h : Z0 w0 X0 κ B0 bp p b q S L W) : Calls Try.prog 49 #[.pointer (some ⟨q, 0, none⟩), .string (bs T)] W (HEnd W (hearL G L T)) :=
  dheard_any G hG W q L T h.rp (by have := hp.len; omega) hp.txt.2 hT
theorem z_count (hp : PlOk S L N) (hN : N ≤ 10000) (c : Int) (h : Z0 w0 X0 κ B0 bp p b q S L W) : Calls Try.prog 13 #[.pointer (some ⟨p, 0, none⟩), .int .i64 c] W fun e w' => e = .returned (.int .i64 (cntC L c : Nat)) ∧ Hid (Z0 w0 X0 κ B0 bp p b q S L w') := by
  obtain ⟨Dt, h1⟩ := h.pa
  rw [← cntC_perm hp.perm]
  exact (count_any W p b Dt S c h1 (by have := hp.sl hN; omega)).mono (fun e w' ⟨z1, z2⟩ => ⟨z1, hide (h.below (unhide z2))⟩)
theorem z_dcount (hp : PlOk S L N) (hN : N ≤ 10000) (c : Int) (h : Z0 w0 X0 κ B0 bp p b q S L W) : Calls Try.prog 53 #[.pointer (some ⟨q, 0, none⟩), .int .i64 c] W fun e w' => e = .returned (.int .i64 (cntC L c : Nat)) ∧ Hid (Z0 w0 X0 κ B0 bp p b q S L w') :=
  (dcount_any W q L c h.rp (by have := hp.len; omega)).mono (fun e w' ⟨z1, z2⟩ => ⟨z1, by subst z2; exact hide h⟩)
theorem z_lis (hp : PlOk S L N) (hN : N ≤ 10000) (T : List UInt8) (hT : T.length ≤ 1073741824) (h : Z0 w0 X0 κ B0 bp p b q S L W) : Calls Try.prog 16 #[.pointer (some ⟨p, 0, none⟩), .string (bs T)] W fun e w' => e = .returned (.int .i64 (cntT L T : Nat)) ∧ Hid (Z0 w0 X0 κ B0 bp p b q S L w') := by
  obtain ⟨Dt, h1⟩ := h.pa
  rw [← cntT_perm hp.perm]
  exact (listeners_any W p b Dt S T h1 (by have := hp.sl hN; omega) (by omega)).mono (fun e w' ⟨z1, z2⟩ => ⟨z1, hide (h.below (unhide z2))⟩)
theorem z_dlis (hp : PlOk S L N) (hN : N ≤ 10000) (T : List UInt8) (h : Z0 w0 X0 κ B0 bp p b q S L W) : Calls Try.prog 55 #[.pointer (some ⟨q, 0, none⟩), .string (bs T)] W fun e w' => e = .returned (.int .i64 (cntT L T : Nat)) ∧ Hid (Z0 w0 X0 κ B0 bp p b q S L w') := by
  rw [← lis_cnt hp.nd (fun k hk => (hp.ok k hk).1)]
  exact (dlisteners_any W q L T h.rp (by have := hp.len; omega)).mono (fun e w' ⟨z1, z2⟩ => ⟨z1, hide (h.below (unhide z2))⟩)
theorem z_pat (hp : PlOk S L N) (hN : N ≤ 10000) (h : Z0 w0 X0 κ B0 bp p b q S L W) : Calls Try.prog 43 #[.pointer (some ⟨p, 0, none⟩)] W fun e w' => e = .returned (.int .i64 ((unlikeL L true).length : Nat)) ∧ Hid (Z0 w0 X0 κ B0 bp p b q S L w') := by
  obtain ⟨Dt, h1⟩ := h.pa
  rw [← unlikeL_perm hp.perm]
  exact (patterns_any W p b Dt S h1 (by have := hp.sl hN; omega) (fun k hk => Nat.le_trans (hp.txt.1 k hk) (by decide))).mono (fun e w' ⟨z1, z2⟩ => ⟨z1, hide (h.below (unhide z2))⟩)
theorem z_dpat (hp : PlOk S L N) (hN : N ≤ 10000) (h : Z0 w0 X0 κ B0 bp p b q S L W) : Calls Try.prog 56 #[.pointer (some ⟨q, 0, none⟩)] W fun e w' => e = .returned (.int .i64 ((unlikeL L true).length : Nat)) ∧ Hid (Z0 w0 X0 κ B0 bp p b q S L w') :=
  (dpatterns_any W q L h.rp (by have := hp.len; omega) hp.txt.2).mono (fun e w' ⟨z1, z2⟩ => ⟨z1, hide (h.below (unhide z2))⟩)
theorem names_len (hp : PlOk S L N) (hN : N ≤ 10000) (c : Int) (r : Bool) : (namesL L c r).length ≤ 800000 := by
  have : (namesL L c r).length ≤ L.length := textsL_len L _
  have := hp.len
  omega
theorem chan_len (G : List UInt8 → List UInt8 → Bool) (hp : PlOk S L N) (hN : N ≤ 10000) (T : List UInt8) : (chanL G L T).length ≤ 800000 := by
  have : (chanL G L T).length ≤ (unlikeL L false).length := List.length_filter_le _ _
  have : (unlikeL L false).length ≤ L.length := textsL_len L _
  have := hp.len
  omega
theorem hear_len (G : List UInt8 → List UInt8 → Bool) (hp : PlOk S L N) (hN : N ≤ 10000) (T : List UInt8) : (hearL G L T).length ≤ 800000 := by
  have := hearL_len G L T
  have := hp.len
  omega
end
end Go.Proofs.Ytjmnddcombepaaa
