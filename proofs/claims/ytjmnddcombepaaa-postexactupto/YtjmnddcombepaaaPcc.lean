/- Leave, Drop. -/
import Derived.Shelf.LaysM
import Derived.Shelf.Strconv.Clone
import Derived.Shelf.Sort.Plain
import Derived.Shelf.Slices.CompactS
import Derived.Shelf.Slices.In.SortNone
import Derived.Test.YtjmnddcombepaaaProg
import Derived.Test.YtjmnddcombepaaaPca
import Derived.Deep.RegionHeld3
namespace Go.Proofs
open Go.Shelf
def Try.laysM316_ren : Go.Shelf.Ren := ⟨fun | 316 => 57 | n => n, fun | 9 => 9 | 3 => 3 | 4 => 4 | 37 => 23 | 0 => 0 | 127 => 117 | 5 => 5 | n => n, fun | n => n⟩
theorem Try.laysM316 : Go.Proofs.LaysM.n316 Try.prog Try.laysM316_ren := {
  mixed := by kernel_rfl
  f316 := Try.func57.trans (congrArg some (by kernel_rfl))
  t0 := Try.underlying0
  a0 := Try.isAgg0
  z0 := Try.sizeOf0
  v0 := Try.zeroValue0
  t3 := Try.underlying3
  a3 := Try.isAgg3
  z3 := Try.sizeOf3
  v3 := Try.zeroValue3
  t4 := Try.underlying4
  a4 := Try.isAgg4
  z4 := Try.sizeOf4
  v4 := Try.zeroValue4
  t9 := Try.underlying9
  a9 := Try.isAgg9
  z9 := Try.sizeOf9
  v9 := Try.zeroValue9
  t37 := Try.underlying23
  a37 := Try.isAgg23
  z37 := Try.sizeOf23
  v37 := Try.zeroValue23
  t127 := Try.underlying117
  a127 := Try.isAgg117
  z127 := Try.sizeOf117
  v127 := Try.zeroValue117
  t5 := Try.underlying5
  a5 := Try.isAgg5
  z5 := Try.sizeOf5
  v5 := Try.zeroValue5
  i0 := by kernel_rfl
  i3 := by kernel_rfl
  i4 := by kernel_rfl
  i5 := by kernel_rfl
  i9 := by kernel_rfl
  i37 := by kernel_rfl
  i127 := by kernel_rfl }
open Go.RowKit in
theorem Try.stringslite_Clone (s : ByteArray) (w : World) (hlim : s.size ≤ 281474976710656) :
    Calls Try.prog 57 #[.string s] w fun e w' => e = .returned (.string s) ∧ Below w.heap.size w w' := Any.stringslite_Clone Try.laysM316 s w hlim
def Try.lays190_ren : Go.Shelf.Ren := ⟨fun | 190 => 64 | 125 => 73 | 258 => 72 | 128 => 87 | 129 => 88 | 302 => 78 | 303 => 79 | 304 => 80 | 305 => 81 | 306 => 82 | 307 => 83 | 308 => 84 | 309 => 85 | 310 => 86 | 333 => 92 | 329 => 93 | 330 => 94 | 334 => 95 | 335 => 96 | 336 => 97 | 344 => 99 | n => n, fun | 31 => 47 | 9 => 9 | 3 => 3 | 46 => 122 | 0 => 0 | 51 => 143 | 53 => 86 | 4 => 4 | 183 => 135 | 182 => 134 | 131 => 140 | 5 => 5 | 218 => 149 | 222 => 153 | 228 => 156 | 229 => 147 | n => n, fun | n => n⟩
theorem Try.lays190 : Go.Proofs.Lays.n190 Try.prog Try.lays190_ren := {
  mixed := by kernel_rfl
  f125 := Try.func73.trans (congrArg some (by kernel_rfl))
  f128 := Try.func87.trans (congrArg some (by kernel_rfl))
  f129 := Try.func88.trans (congrArg some (by kernel_rfl))
  f190 := Try.func64.trans (congrArg some (by kernel_rfl))
  f258 := Try.func72.trans (congrArg some (by kernel_rfl))
  f302 := Try.func78.trans (congrArg some (by kernel_rfl))
  f303 := Try.func79.trans (congrArg some (by kernel_rfl))
  f304 := Try.func80.trans (congrArg some (by kernel_rfl))
  f305 := Try.func81.trans (congrArg some (by kernel_rfl))
  f306 := Try.func82.trans (congrArg some (by kernel_rfl))
  f307 := Try.func83.trans (congrArg some (by kernel_rfl))
  f308 := Try.func84.trans (congrArg some (by kernel_rfl))
  f309 := Try.func85.trans (congrArg some (by kernel_rfl))
  f310 := Try.func86.trans (congrArg some (by kernel_rfl))
  f329 := Try.func93.trans (congrArg some (by kernel_rfl))
  f330 := Try.func94.trans (congrArg some (by kernel_rfl))
  f333 := Try.func92.trans (congrArg some (by kernel_rfl))
  f334 := Try.func95.trans (congrArg some (by kernel_rfl))
  f335 := Try.func96.trans (congrArg some (by kernel_rfl))
  f336 := Try.func97.trans (congrArg some (by kernel_rfl))
  f344 := Try.func99.trans (congrArg some (by kernel_rfl))
  t0 := Try.underlying0
  a0 := Try.isAgg0
  z0 := Try.sizeOf0
  v0 := Try.zeroValue0
  t3 := Try.underlying3
  a3 := Try.isAgg3
  z3 := Try.sizeOf3
  v3 := Try.zeroValue3
  t4 := Try.underlying4
  a4 := Try.isAgg4
  z4 := Try.sizeOf4
  v4 := Try.zeroValue4
  t5 := Try.underlying5
  a5 := Try.isAgg5
  z5 := Try.sizeOf5
  v5 := Try.zeroValue5
  t9 := Try.underlying9
  a9 := Try.isAgg9
  z9 := Try.sizeOf9
  v9 := Try.zeroValue9
  t31 := Try.underlying47
  a31 := Try.isAgg47
  z31 := Try.sizeOf47
  v31 := Try.zeroValue47
  t46 := Try.underlying122
  a46 := Try.isAgg122
  z46 := Try.sizeOf122
  v46 := Try.zeroValue122
  t51 := Try.underlying143
  a51 := Try.isAgg143
  z51 := Try.sizeOf143
  v51 := Try.zeroValue143
  t53 := Try.underlying86
  a53 := Try.isAgg86
  z53 := Try.sizeOf86
  v53 := Try.zeroValue86
  t131 := Try.underlying140
  a131 := Try.isAgg140
  z131 := Try.sizeOf140
  v131 := Try.zeroValue140
  t182 := Try.underlying134
  a182 := Try.isAgg134
  z182 := Try.sizeOf134
  v182 := Try.zeroValue134
  t183 := Try.underlying135
  a183 := Try.isAgg135
  z183 := Try.sizeOf135
  v183 := Try.zeroValue135
  t218 := Try.underlying149
  a218 := Try.isAgg149
  z218 := Try.sizeOf149
  v218 := Try.zeroValue149
  t222 := Try.underlying153
  a222 := Try.isAgg153
  z222 := Try.sizeOf153
  v222 := Try.zeroValue153
  t228 := Try.underlying156
  a228 := Try.isAgg156
  z228 := Try.sizeOf156
  v228 := Try.zeroValue156
  t229 := Try.underlying147
  a229 := Try.isAgg147
  z229 := Try.sizeOf147
  v229 := Try.zeroValue147 }
open Go.Sort Go.RowKit in
theorem Try.slices_Sort_string (blk off cap : Nat) (ss : List (List UInt8)) (w : World) (hH : Holds encStr w blk off ss.toArray) (hblk : blk < w.heap.size) (hsz : ss.length < 4611686018427387904) :
    Calls Try.prog 64 #[.slice (some ⟨blk, off, none⟩) ss.length cap] w fun e w' =>
      e = .returned (.tuple #[]) ∧ ∃ n os, w' = grow (putRow encStr (Sort.ahead w n) blk off (ss.mergeSort fun x y => decide (x ≤ y)).toArray) os := Any.slices_Sort_string Try.lays190 blk off cap ss w hH hblk hsz
def Try.lays194_ren : Go.Shelf.Ren := ⟨fun | 194 => 65 | n => n, fun | 31 => 47 | 9 => 9 | 3 => 3 | 4 => 4 | 0 => 0 | n => n, fun | n => n⟩
theorem Try.lays194 : Go.Proofs.Lays.n194 Try.prog Try.lays194_ren := {
  mixed := by kernel_rfl
  f194 := Try.func65.trans (congrArg some (by kernel_rfl))
  t0 := Try.underlying0
  a0 := Try.isAgg0
  z0 := Try.sizeOf0
  v0 := Try.zeroValue0
  t3 := Try.underlying3
  a3 := Try.isAgg3
  z3 := Try.sizeOf3
  v3 := Try.zeroValue3
  t4 := Try.underlying4
  a4 := Try.isAgg4
  z4 := Try.sizeOf4
  v4 := Try.zeroValue4
  t9 := Try.underlying9
  a9 := Try.isAgg9
  z9 := Try.sizeOf9
  v9 := Try.zeroValue9
  t31 := Try.underlying47
  a31 := Try.isAgg47
  z31 := Try.sizeOf47
  v31 := Try.zeroValue47 }
open Go.RowKit Go.Lib Go.Sort in
theorem Try.slices_Compact_string (blk off cap : Nat) (zs : List (List UInt8)) (w : World) (hH : Holds encStr w blk off zs.toArray) (hsz : zs.length ≤ 9223372036854775807) (hcap : zs.length ≤ cap) :
    Calls Try.prog 65 #[.slice (some ⟨blk, off, none⟩) zs.length cap] w fun e w' => e = .returned (.slice (some ⟨blk, off, none⟩) (Lib.compact zs).length cap) ∧ ∃ q, w' = putRow encStr (Sort.ahead w q) blk off (Lib.compact zs ++ List.replicate (zs.length - (Lib.compact zs).length) []).toArray := Any.slices_Compact_string Try.lays194 blk off cap zs w hH hsz hcap
open Go.RowKit Go.Lib Go.Sort in
theorem Try.slices_Compact_string_empty (a : Option Addr) (cap : Nat) (w : World) :
    Calls Try.prog 65 #[.slice a 0 cap] w fun e w' => e = .returned (.slice a 0 cap) ∧ w' = w := Any.slices_Compact_string_empty Try.lays194 a cap w
open Go.RowKit Go.Sort in
theorem Try.slices_Sort_string_none (p : Option Addr) (cap : Nat) (w : World) :
    Calls Try.prog 64 #[.slice p 0 cap] w fun e w' => e = .returned (.tuple #[]) ∧ w' = w := Any.slices_Sort_string_none Try.lays190 p cap w
end Go.Proofs
namespace Go.Proofs.Ytjmnddcombepaaa
open Go.ChangeShapes Go.WideShapes Go.ChangeAt Go.RowKit Go.Maps
set_option linter.unusedVariables false
set_option linter.unusedSimpArgs false
set_option maxRecDepth 100000
set_option maxHeartbeats 4000000

theorem clone_any (w : World) (T : List UInt8) (hT : T.length ≤ 281474976710656) : Calls Try.prog 32 #[.string (bs T)] w fun e w' => e = .returned (.string (bs T)) ∧ Hid (Below w.heap.size w w') := by
  have CC : Hid (Calls Try.prog 57 #[.string (bs T)] w fun e w' => e = .returned (.string (bs T)) ∧ Below w.heap.size w w') := hide (Try.stringslite_Clone (bs T) w (by rw [bs_size]; exact hT))
  go_enter Try.func32, Try.ntmps32
  go_wp2_with (go_at_call 57; refine (unhide CC).mono ?_; rintro e w2 ⟨rfl, k2⟩)
  go_ret
  exact ⟨rfl, k2⟩
/-- nothing but block b has turned -/
structure KeptB (b : Nat) (w w' : World) : Prop where
  os : w'.os = w.os
  tape : w'.tape = w.tape
  output : w'.output = w.output
  size : w.heap.size ≤ w'.heap.size
  blk : ∀ i, i < w.heap.size → i ≠ b → w'.heap[i]? = w.heap[i]?
theorem KeptB.trans {b : Nat} {w w' w'' : World} (h : KeptB b w w') (k : KeptB b w' w'') : KeptB b w w'' :=
  ⟨k.os.trans h.os, k.tape.trans h.tape, k.output.trans h.output, Nat.le_trans h.size k.size, fun i hi hb => (k.blk i (Nat.lt_of_lt_of_le hi h.size) hb).trans (h.blk i hi hb)⟩
theorem KeptB.of {b : Nat} {w w' : World} (h : Below w.heap.size w w') : KeptB b w w' := ⟨h.os, h.tape, h.output, h.size, fun i hi _ => h.block i hi⟩
theorem KeptB.turned {b : Nat} {w w' : World} (h : w.mapTurned w' b) : KeptB b w w' := by
  have g := h.grown
  exact ⟨g.os, g.tape, g.output, g.size, fun i hi hb => g.block i hi (fun e => hb (by cases e; rfl))⟩
theorem PostAt.keep {w w' : World} {p b b' : Nat} {D : Dt} {S : List Key} (h : PostAt w p b D S) (k : KeptB b' w w') (h1 : p ≠ b') (h2 : b ≠ b') : PostAt w' p b D S := h.same (k.blk _ h.lt.1 h1) (k.blk _ h.lt.2 h2)
theorem PostAt.put {w w1 w' : World} {p b : Nat} {D : Dt} {S : List Key} {k : Key} (h : PostAt w p b D S) (hk : KOk k) (hn : k ∉ S) (ho : w'.ownsMap Try.prog 77 unitElem b (S.length + 1) (D.put (lit k) (.agg []))) (ht : w.mapTurned w' b) : PostAt w' p b (D.put (lit k) (.agg [])) (k :: S) :=
  ⟨((KeptB.turned ht).blk _ h.lt.1 h.ne).trans h.cell, h.map.put hk hn ho⟩
theorem PostAt.del {w w' : World} {p b : Nat} {D : Dt} {S : List Key} {k : Key} (h : PostAt w p b D S) (hk : KOk k) (ho : w'.ownsMap Try.prog 77 unitElem b S.length (D.del (lit k))) (ht : w.mapTurned w' b) : PostAt w' p b (D.del (lit k)) (S.erase k) :=
  ⟨((KeptB.turned ht).blk _ h.lt.1 h.ne).trans h.cell, h.map.del hk ho⟩
theorem kok {c : Int} {T : List UInt8} {q : Bool} (hc : 0 ≤ c ∧ c < 8) (hT : T.length ≤ 4096) : KOk (c, T, q) := by
  refine ⟨?_, ?_⟩
  · have : -9223372036854775808 ≤ c ∧ c ≤ 9223372036854775807 := by omega
    exact WalkArith.wf_i64 this
  · show T.length ≤ maxLen
    unfold maxLen
    omega
/-- what comes of a Join: the set, the number, whether it is new, the error -/
def joinR (S : List Key) (k : Key) : List Key × Nat × Bool × Int := if k ∈ S then (S, cntC S k.1, false, 0) else if 64 ≤ cntC S k.1 then (S, 0, false, 172) else (k :: S, cntC S k.1 + 1, true, 0)
theorem join_any (w : World) (p b : Nat) (D : Dt) (S : List Key) (c : Int) (T : List UInt8) (q : Bool) (h : PostAt w p b D S) (hc : 0 ≤ c ∧ c < 8) (hT : T.length ≤ 4096) (hS : S.length ≤ 1099511627776) :
    Calls Try.prog 10 #[.pointer (some ⟨p, 0, none⟩), .int .i64 c, .string (bs T), .bool q] w fun e w' => e = .returned (.tuple #[.int .i64 ((joinR S (c, T, q)).2.1 : Nat), .bool (joinR S (c, T, q)).2.2.1, .int .i64 (joinR S (c, T, q)).2.2.2]) ∧ Hid (∃ D', PostAt w' p b D' (joinR S (c, T, q)).1 ∧ KeptB b w w') := by
  have hk : KOk (c, T, q) := kok hc hT
  have CR : Hid (Calls Try.prog 30 #[.int .i64 c, .string (bs T)] w fun e w' => e = .returned (.int .i64 0) ∧ w' = w) := hide (by
    have := refuse_any w c T (by omega)
    rw [if_neg (by omega), if_neg (by omega)] at this
    exact this)
  have hcl := cntC_le S c
  obtain ⟨n, hn⟩ : ∃ n, n = cntC S c := ⟨_, rfl⟩
  have HN := hide hn
  have hnl : n ≤ 1099511627776 := by omega
  have CC : Hid (Calls Try.prog 13 #[.pointer (some ⟨p, 0, none⟩), .int .i64 c] w fun e w' => e = .returned (.int .i64 (n : Nat)) ∧ Hid (Below w.heap.size w w')) := hide (by rw [hn]; exact count_any w p b D S c h hS)
  have CL : Hid (∀ W, Hid (Below w.heap.size w W) → Calls Try.prog 31 #[.pointer (some ⟨p, 0, none⟩), .int .i64 c, .string (bs T), .bool q] W fun e w' => e = .returned (.bool (decide ((c, T, q) ∈ S))) ∧ Hid (PostAt w' p b D S ∧ Below w.heap.size w w')) := hide (fun W hb => (listens_any W p b D S c T q (h.below (unhide hb)) hk).mono (fun e w' ⟨h1, h2⟩ => ⟨h1, hide ⟨(h.below (unhide hb)).below (unhide h2), (unhide hb).trans ((unhide h2).mono (unhide hb).size)⟩⟩))
  have CN : Hid (∀ W, Hid (PostAt W p b D S ∧ Below w.heap.size w W) → Calls Try.prog 32 #[.string (bs T)] W.drew fun e w' => e = .returned (.string (bs T)) ∧ Hid (PostAt w' p b D S ∧ Below w.heap.size w w') ∧ w'.cell? ⟨p, 0, none⟩ = some (.map (some b))) := hide (fun W hb => (clone_any W.drew T (by omega)).mono (fun e w' ⟨h1, h2⟩ => by
    have b1 : Below W.heap.size W W.drew := ⟨rfl, rfl, rfl, Nat.le_refl _, fun _ _ => rfl⟩
    have p1 := ((unhide hb).1.below b1).below (unhide h2)
    exact ⟨h1, hide ⟨p1, ((unhide hb).2.trans (b1.mono (unhide hb).2.size)).trans ((unhide h2).mono (by exact (unhide hb).2.size))⟩, p1.m⟩))
  by_cases e : (c, T, q) ∈ S
  · have hj : joinR S (c, T, q) = (S, n, false, 0) := by unfold joinR; rw [if_pos e, hn]
    have fd : decide ((c, T, q) ∈ S) = true := decide_eq_true e
    rw [hj]
    rw [fd] at CL
    clear h hn hj e fd
    dsimp only
    go_enter Try.func10, Try.ntmps10
    go_wp2_with (first
      | (go_at_call 30; with_reducible refine (unhide CR).mono ?_; rintro e w1 ⟨rfl, h1⟩; obtain rfl := h1.symm)
      | (go_at_call 13; with_reducible refine (unhide CC).mono ?_; rintro e w2 ⟨rfl, k2⟩)
      | (go_at_call 31; with_reducible refine (unhide CL w2 k2).mono ?_; rintro e w3 ⟨rfl, k3⟩))
    all_goals go_ret3
    all_goals exact ⟨rfl, hide ⟨D, (unhide k3).1, KeptB.of (unhide k3).2⟩⟩
  · have fd : decide ((c, T, q) ∈ S) = false := decide_eq_false e
    rw [fd] at CL
    by_cases e2 : 64 ≤ n
    · have hj : joinR S (c, T, q) = (S, 0, false, 172) := by unfold joinR; rw [if_neg e, if_pos (by rw [← hn]; exact e2)]
      have f2 : decide ((n : Int) ≥ 64) = true := decide_eq_true (by omega)
      have f2' : decide (64 ≤ (n : Int)) = true := decide_eq_true (by omega)
      have f2'' : decide (64 ≤ n) = true := decide_eq_true (by omega)
      rw [hj]
      clear h hn hj e fd
      dsimp only
      go_enter Try.func10, Try.ntmps10
      go_wp2_with (first
        | (go_at_call 30; with_reducible refine (unhide CR).mono ?_; rintro e w1 ⟨rfl, h1⟩; obtain rfl := h1.symm)
        | (go_at_call 13; with_reducible refine (unhide CC).mono ?_; rintro e w2 ⟨rfl, k2⟩)
        | (go_at_call 31; with_reducible refine (unhide CL w2 k2).mono ?_; rintro e w3 ⟨rfl, k3⟩))
      all_goals go_ret3
      all_goals exact ⟨rfl, hide ⟨D, (unhide k3).1, KeptB.of (unhide k3).2⟩⟩
    · have hj : joinR S (c, T, q) = ((c, T, q) :: S, n + 1, true, 0) := by unfold joinR; rw [if_neg e, if_neg (by rw [← hn]; exact e2), hn]
      have f2 : decide ((n : Int) ≥ 64) = false := decide_eq_false (by omega)
      have f2' : decide (64 ≤ (n : Int)) = false := decide_eq_false (by omega)
      have f2'' : decide (64 ≤ n) = false := decide_eq_false (by omega)
      have f1n : Hid (((n : Int) + 1) = ((n + 1 : Nat) : Int)) := hide (by omega)
      have ST : Hid (∀ W, Hid (PostAt W p b D S ∧ Below w.heap.size w W) → ∃ w', (Instr.mapUpdate 69 (.map (some b)) (.agg #[.int .i64 c, .string (bs T), .bool q]) (.agg #[])).run Try.prog W = .ok () w' ∧ Hid (∃ D', PostAt w' p b D' ((c, T, q) :: S) ∧ KeptB b w w')) := hide (fun W hb => by
        obtain ⟨w', r1, r2, r3⟩ := (unhide hb).1.map.own.store lawK Try.underlying69 (by unfold maxLen; omega) (lit_of hk) (unitElem_mk (H := Unit))
        exact ⟨w', r1, hide ⟨_, (unhide hb).1.put (w1 := W) hk e r2 r3, (KeptB.of (unhide hb).2).trans (KeptB.turned r3)⟩⟩)
      rw [hj]
      have HE := hide e
      clear h hn hj e fd e2
      dsimp only
      go_enter Try.func10, Try.ntmps10
      go_wp2_with (first
        | (go_at_call 30; with_reducible refine (unhide CR).mono ?_; rintro e w1 ⟨rfl, h1⟩; obtain rfl := h1.symm)
        | (go_at_call 13; with_reducible refine (unhide CC).mono ?_; rintro e w2 ⟨rfl, k2⟩)
        | (go_at_call 31; with_reducible refine (unhide CL w2 k2).mono ?_; rintro e w3 ⟨rfl, k3⟩; have x3 := (unhide k3).1.m))
      go_region_with (go_at_call 32; with_reducible refine (unhide CN w3 k3).mono ?_; rintro e w4 ⟨rfl, k4, x4⟩; obtain ⟨w5, r5, k5⟩ := unhide ST w4 k4)
      all_goals go_wp2
      all_goals go_ret3
      all_goals exact ⟨by rw [← unhide f1n]; rfl, k5⟩
end Go.Proofs.Ytjmnddcombepaaa
namespace Go.Proofs.Ytjmnddcombepaaa
open Go.ChangeShapes Go.WideShapes Go.ChangeAt Go.RowKit Go.Maps
set_option linter.unusedVariables false
set_option linter.unusedSimpArgs false
set_option maxRecDepth 100000
set_option maxHeartbeats 4000000

theorem leave_any (w : World) (p b : Nat) (D : Dt) (S : List Key) (c : Int) (T : List UInt8) (q : Bool) (h : PostAt w p b D S) (hc : 0 ≤ c ∧ c < 8) (hT : T.length ≤ 4096) (hS : S.length ≤ 1099511627776) :
    Calls Try.prog 15 #[.pointer (some ⟨p, 0, none⟩), .int .i64 c, .string (bs T), .bool q] w fun e w' => e = .returned (.tuple #[.int .i64 (cntC (S.erase (c, T, q)) c : Nat), .bool (decide ((c, T, q) ∈ S)), .int .i64 0]) ∧ Hid (∃ D', PostAt w' p b D' (S.erase (c, T, q)) ∧ KeptB b w w') := by
  have hk : KOk (c, T, q) := kok hc hT
  have hse : (S.erase (c, T, q)).length ≤ S.length := List.length_erase_le
  have CR : Hid (Calls Try.prog 30 #[.int .i64 c, .string (bs T)] w fun e w' => e = .returned (.int .i64 0) ∧ w' = w) := hide (by
    have := refuse_any w c T (by omega)
    rw [if_neg (by omega), if_neg (by omega)] at this
    exact this)
  have CL : Hid (Calls Try.prog 31 #[.pointer (some ⟨p, 0, none⟩), .int .i64 c, .string (bs T), .bool q] w fun e w' => e = .returned (.bool (decide ((c, T, q) ∈ S))) ∧ Hid (PostAt w' p b D S ∧ Below w.heap.size w w')) := hide ((listens_any w p b D S c T q h hk).mono (fun e w' ⟨h1, h2⟩ => ⟨h1, hide ⟨h.below (unhide h2), unhide h2⟩⟩))
  have CD : Hid (∀ W, Hid (PostAt W p b D S ∧ Below w.heap.size w W) → ∀ ty, ∃ w', (Builtin.delete_ #[69, 77] ty #[.map (some b), .agg #[.int .i64 c, .string (bs T), .bool q]]).run Try.prog W = .ok (.tuple #[]) w' ∧ Hid (PostAt w' p b (D.del (lit (c, T, q))) (S.erase (c, T, q)) ∧ KeptB b w w')) := hide (fun W hb ty => by
    obtain ⟨w', r1, r2, r3⟩ := (unhide hb).1.map.own.drop lawK Try.underlying69 (lit_of hk) ty
    exact ⟨w', r1, hide ⟨(unhide hb).1.del hk r2 r3, (KeptB.of (unhide hb).2).trans (KeptB.turned r3)⟩⟩)
  have CC : Hid (∀ W, Hid (PostAt W p b (D.del (lit (c, T, q))) (S.erase (c, T, q)) ∧ KeptB b w W) → Calls Try.prog 13 #[.pointer (some ⟨p, 0, none⟩), .int .i64 c] W fun e w' => e = .returned (.int .i64 (cntC (S.erase (c, T, q)) c : Nat)) ∧ Hid (∃ D', PostAt w' p b D' (S.erase (c, T, q)) ∧ KeptB b w w')) := hide (fun W hb => (count_any W p b _ _ c (unhide hb).1 (by omega)).mono (fun e w' ⟨h1, h2⟩ => ⟨h1, hide ⟨_, (unhide hb).1.below (unhide h2), (unhide hb).2.trans (KeptB.of (unhide h2))⟩⟩))
  generalize decide ((c, T, q) ∈ S) = r at CL ⊢
  generalize cntC (S.erase (c, T, q)) c = n at CC ⊢
  clear h hk hse
  go_enter Try.func15, Try.ntmps15
  go_wp2_with (first
    | (go_at_call 30; with_reducible refine (unhide CR).mono ?_; rintro e w1 ⟨rfl, h1⟩; obtain rfl := h1.symm)
    | (go_at_call 31; with_reducible refine (unhide CL).mono ?_; rintro e w3 ⟨rfl, k3⟩; have x3 := (unhide k3).1.m; obtain ⟨w4, r4, k4⟩ := unhide CD w3 k3 0)
    | (go_at_call 13; with_reducible refine (unhide CC w4 k4).mono ?_; rintro e w5 ⟨rfl, k5⟩))
  all_goals go_ret3
  all_goals exact ⟨rfl, k5⟩
end Go.Proofs.Ytjmnddcombepaaa
