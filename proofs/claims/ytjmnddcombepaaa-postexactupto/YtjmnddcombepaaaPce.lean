/- Listeners. -/
import Derived.Test.YtjmnddcombepaaaPcc
import Derived.Laws.StructEq
namespace Go.Proofs.Ytjmnddcombepaaa
open Go.ChangeShapes Go.WideShapes Go.ChangeAt Go.RowKit Go.Maps
set_option linter.unusedVariables false
set_option linter.unusedSimpArgs false
set_option maxRecDepth 100000
set_option maxHeartbeats 4000000

theorem PostAt.len {w : World} {p b : Nat} {D : Dt} {S : List Key} (h : PostAt w p b D S) (ty : TypeId) : (Builtin.len_ #[69] ty #[.map (some b)]).run Try.prog w = .ok (.int .i64 (S.length : Nat)) w := by
  have := h.map.own.len Try.underlying69 ty
  rw [h.map.sz] at this
  exact this
theorem KeptB.iter {b r : Nat} {w wr w1 : World} (h : KeptB b w wr) (hg : wr.grownBy w1 (some r)) (hr : w.heap.size ≤ r) : KeptB b w w1 :=
  ⟨hg.os.trans h.os, hg.tape.trans h.tape, hg.output.trans h.output, Nat.le_trans h.size hg.size, fun i hi hb => (hg.block i (Nat.lt_of_lt_of_le hi h.size) (fun e => by cases e; omega)).trans (h.blk i hi hb)⟩
theorem KeptB.alloc {b : Nat} {w wr : World} (h : KeptB b w wr) (o : Obj) : KeptB b w (wr.alloc o) := h.trans (KeptB.of ((Below.refl _ _).alloc (Nat.le_refl _) o))
/-- the range of Drop: what has come, what is left in the map -/
structure DropAt (w wr : World) (p b : Nat) (S : List Key) (c : Int) (D' : Dt) (left : Lit → Bool) (L : List Key) : Prop where
  met : Met S left L
  kb : KeptB b w wr
  st : ∃ S', PostAt wr p b D' S' ∧ ∀ k, k ∈ S' ↔ k ∈ S ∧ ¬ (k ∈ L ∧ k.1 = c)
theorem DropAt.m {w wr : World} {p b : Nat} {S L : List Key} {c : Int} {D' : Dt} {left : Lit → Bool} (h : DropAt w wr p b S c D' left L) : wr.cell? ⟨p, 0, none⟩ = some (.map (some b)) := by
  obtain ⟨S', h1, -⟩ := h.st
  exact h1.m
theorem DropAt.alloc {w wr : World} {p b : Nat} {S L : List Key} {c : Int} {D' : Dt} {left : Lit → Bool} (h : DropAt w wr p b S c D' left L) (o : Obj) : DropAt w (wr.alloc o) p b S c D' left L := by
  obtain ⟨S', h1, h2⟩ := h.st
  exact ⟨h.met, h.kb.alloc o, S', h1.below ((Below.refl _ _).alloc (Nat.le_refl _) o), h2⟩
theorem DropAt.stay {w wr w1 : World} {p b r : Nat} {S L : List Key} {c : Int} {D' : Dt} {left : Lit → Bool} {k : Key} (h : DropAt w wr p b S c D' left L) (hk : KOk k) (hl : left (lit k) = true) (hg : wr.grownBy w1 (some r)) (hr : w.heap.size ≤ r) (hpb : p < w.heap.size ∧ b < w.heap.size) (hc : k.1 ≠ c) : DropAt w w1 p b S c D' (fun z => left z && !z.sameKey (lit k)) (L ++ [k]) := by
  obtain ⟨S', h1, h2⟩ := h.st
  have hs := h.met.step hk hl
  refine ⟨hs.1, h.kb.iter hg hr, S', h1.same (hg.block _ h1.lt.1 (fun e => by cases e; omega)) (hg.block _ h1.lt.2 (fun e => by cases e; omega)), fun x => ?_⟩
  rw [h2 x]
  constructor
  · rintro ⟨a, q⟩
    refine ⟨a, fun ⟨e1, e2⟩ => ?_⟩
    rcases List.mem_append.1 e1 with e | e
    · exact q ⟨e, e2⟩
    · simp at e
      exact hc (e ▸ e2)
  · rintro ⟨a, q⟩
    exact ⟨a, fun ⟨e1, e2⟩ => q ⟨List.mem_append_left _ e1, e2⟩⟩
/-- a key has come, and was not yet struck -/
structure DropMid (w w1 : World) (p b : Nat) (S : List Key) (c : Int) (D' : Dt) (left : Lit → Bool) (L : List Key) (k : Key) : Prop where
  ok : KOk k
  met : Met S (fun z => left z && !z.sameKey (lit k)) (L ++ [k])
  kb : KeptB b w w1
  st : ∃ S', PostAt w1 p b D' S' ∧ ∀ k, k ∈ S' ↔ k ∈ S ∧ ¬ (k ∈ L ∧ k.1 = c)
theorem DropAt.mid {w wr w1 : World} {p b r : Nat} {S L : List Key} {c : Int} {D' : Dt} {left : Lit → Bool} {k : Key} (h : DropAt w wr p b S c D' left L) (hk : KOk k) (hl : left (lit k) = true) (hg : wr.grownBy w1 (some r)) (hr : w.heap.size ≤ r) (hpb : p < w.heap.size ∧ b < w.heap.size) : DropMid w w1 p b S c D' left L k := by
  obtain ⟨S', h1, h2⟩ := h.st
  have hs := h.met.step hk hl
  exact ⟨hk, hs.1, h.kb.iter hg hr, S', h1.same (hg.block _ h1.lt.1 (fun e => by cases e; omega)) (hg.block _ h1.lt.2 (fun e => by cases e; omega)), h2⟩
theorem DropMid.alloc {w w1 : World} {p b : Nat} {S L : List Key} {c : Int} {D' : Dt} {left : Lit → Bool} {k : Key} (h : DropMid w w1 p b S c D' left L k) (o : Obj) : DropMid w (w1.alloc o) p b S c D' left L k := by
  obtain ⟨S', h1, h2⟩ := h.st
  exact ⟨h.ok, h.met, h.kb.alloc o, S', h1.below ((Below.refl _ _).alloc (Nat.le_refl _) o), h2⟩
theorem DropMid.drew {w w1 : World} {p b : Nat} {S L : List Key} {c : Int} {D' : Dt} {left : Lit → Bool} {k : Key} (h : DropMid w w1 p b S c D' left L k) : DropMid w w1.drew p b S c D' left L k := by
  obtain ⟨S', h1, h2⟩ := h.st
  have b1 : Below w1.heap.size w1 w1.drew := ⟨rfl, rfl, rfl, Nat.le_refl _, fun _ _ => rfl⟩
  exact ⟨h.ok, h.met, h.kb.trans (KeptB.of b1), S', h1.below b1, h2⟩
theorem DropMid.strike {w w1 w2 : World} {p b n : Nat} {S L : List Key} {c : Int} {D' : Dt} {left : Lit → Bool} {k : Key} (h : DropMid w w1 p b S c D' left L k) (ho : w2.ownsMap Try.prog 77 unitElem b n (D'.del (lit k))) (ht : w1.mapTurned w2 b) (hc : k.1 = c) : DropAt w w2 p b S c (D'.del (lit k)) (fun z => left z && !z.sameKey (lit k)) (L ++ [k]) := by
  obtain ⟨S', h1, h2⟩ := h.st
  refine ⟨h.met, h.kb.trans (KeptB.turned ht), S'.erase k, ⟨((KeptB.turned ht).blk _ h1.lt.1 h1.ne).trans h1.cell, h1.map.del2 h.ok ho⟩, fun x => ?_⟩
  rw [h1.map.nd.mem_erase_iff, h2 x]
  constructor
  · rintro ⟨ne, a, q⟩
    refine ⟨a, fun ⟨e1, e2⟩ => ?_⟩
    rcases List.mem_append.1 e1 with e | e
    · exact q ⟨e, e2⟩
    · simp at e
      exact ne e
  · rintro ⟨a, q⟩
    exact ⟨fun e => q ⟨by rw [e]; simp, by rw [e]; exact hc⟩, a, fun ⟨e1, e2⟩ => q ⟨List.mem_append_left _ e1, e2⟩⟩
/-- who is left behind a Drop -/
def restC (S : List Key) (c : Int) : List Key := S.filter (fun k => !decide (k.1 = c))
theorem DropAt.done {w wr : World} {p b : Nat} {S L : List Key} {c : Int} {D' : Dt} {left : Lit → Bool} (h : DropAt w wr p b S c D' left L) (hn : S.Nodup) (hok : ∀ k ∈ S, KOk k) (hl : ∀ kl, left kl = false) : ∃ D' S', PostAt wr p b D' S' ∧ S'.Perm (restC S c) ∧ KeptB b w wr := by
  obtain ⟨S', h1, h2⟩ := h.st
  have hp := h.met.perm hn hok hl
  refine ⟨D', S', h1, (List.perm_ext_iff_of_nodup h1.map.nd (hn.filter _)).2 (fun k => ?_), h.kb⟩
  rw [h2 k]
  simp only [restC, List.mem_filter, Bool.not_eq_true', decide_eq_false_iff_not]
  constructor
  · rintro ⟨a, q⟩
    exact ⟨a, fun e => q ⟨hp.mem_iff.2 a, e⟩⟩
  · rintro ⟨a, q⟩
    exact ⟨a, fun e => q e.2⟩
theorem drop_any (w : World) (p b : Nat) (D : Dt) (S : List Key) (c : Int) (h : PostAt w p b D S) (hS : S.length ≤ 1099511627776) :
    Calls Try.prog 24 #[.pointer (some ⟨p, 0, none⟩), .int .i64 c] w fun e w' => e = .returned (.tuple #[]) ∧ Hid (∃ D' S', PostAt w' p b D' S' ∧ S'.Perm (restC S c) ∧ KeptB b w w') := by
  have hpb := h.lt
  have CC : Hid (Calls Try.prog 13 #[.pointer (some ⟨p, 0, none⟩), .int .i64 c] w.drew fun e w' => e = .returned (.int .i64 (cntC S c : Nat)) ∧ Hid (PostAt w' p b D S ∧ Below w.heap.size w w') ∧ (w'.cell? ⟨p, 0, none⟩ = some (.map (some b)) ∧ ∀ ty, (Builtin.len_ #[69] ty #[.map (some b)]).run Try.prog w' = .ok (.int .i64 (S.length : Nat)) w')) := hide (by
    have b1 : Below w.heap.size w w.drew := ⟨rfl, rfl, rfl, Nat.le_refl _, fun _ _ => rfl⟩
    refine (count_any w.drew p b D S c (h.below b1) hS).mono ?_
    rintro e w' ⟨rfl, h2⟩
    have p2 := (h.below b1).below (unhide h2)
    exact ⟨rfl, hide ⟨p2, b1.trans ((unhide h2).mono (Nat.le_refl _))⟩, p2.m, fun ty => p2.len ty⟩)
  have hm := h.m
  have hln : ∀ ty, (Builtin.len_ #[69] ty #[.map (some b)]).run Try.prog w.drew = .ok (.int .i64 (S.length : Nat)) w.drew := fun ty => (h.below (w' := w.drew) ⟨rfl, rfl, rfl, Nat.le_refl _, fun _ _ => rfl⟩).len ty
  have hmd : w.drew.cell? ⟨p, 0, none⟩ = some (.map (some b)) := h.m
  have hcl := cntC_le S c
  obtain ⟨n, hn⟩ : ∃ n, n = cntC S c := ⟨_, rfl⟩
  obtain ⟨m, hmm⟩ : ∃ m, m = S.length := ⟨_, rfl⟩
  rw [← hn, ← hmm] at CC
  rw [← hmm] at hln
  have HN := hide hn
  have HM := hide hmm
  have NO : Hid (S.Nodup ∧ ∀ k ∈ S, KOk k) := hide ⟨h.map.nd, h.map.ok⟩
  have CLR : Hid (∀ W, Hid (PostAt W p b D S ∧ Below w.heap.size w W) → n = m → ∀ ty, ∃ w', (Builtin.clear_ #[69] ty #[.map (some b)]).run Try.prog W = .ok (.tuple #[]) w' ∧ Hid (∃ D' S', PostAt w' p b D' S' ∧ S'.Perm (restC S c) ∧ KeptB b w w')) := hide (fun W hb e ty => by
    obtain ⟨w', r1, r2, r3⟩ := (unhide hb).1.map.clear ty
    refine ⟨w', r1, hide ⟨_, [], ⟨((KeptB.turned r3).blk _ (unhide hb).1.lt.1 (unhide hb).1.ne).trans (unhide hb).1.cell, r2⟩, ?_, (KeptB.of (unhide hb).2).trans (KeptB.turned r3)⟩⟩
    have e2 : (S.filter (fun k => decide (k.1 = c))).length = S.length := by
      have e1 : cntC S c = S.length := by rw [← unhide HN, e, unhide HM]
      exact e1
    have e3 := List.length_filter_eq_length_iff.1 e2
    have : restC S c = [] := by
      unfold restC
      rw [List.filter_eq_nil_iff]
      intro k hk
      simp [of_decide_eq_true (e3 k hk)]
    rw [this])
  have ST : Hid (∀ W, Hid (PostAt W p b D S ∧ Below w.heap.size w W) → W.ownsMap Try.prog 77 unitElem b S.length D) := hide (fun W hb => (unhide hb).1.map.own)
  clear h hn hmm hcl
  go_enter Try.func24, Try.ntmps24
  go_wp2_with fail
  go_region_held3 (fun w' => w'.cell? ⟨p, 0, none⟩ = some (.map (some b)) ∧ ∀ ty, (Builtin.len_ #[69] ty #[.map (some b)]).run Try.prog w' = .ok (.int .i64 (m : Nat)) w') (first | exact ⟨hmd, hln⟩ | exact s7 | go_keep) (first
    | (go_at_call 13; with_reducible refine (unhide CC).mono ?_; rintro e w2 ⟨rfl, k2, s7⟩))
  by_cases e : n = m
  · have f1 : ((n : Int) == (m : Int)) = true := by simp [e]
    have f2 : decide ((n : Int) = (m : Int)) = true := decide_eq_true (by omega)
    have f3 : decide (n = m) = true := decide_eq_true e
    have f4 : (n == m) = true := by simp [e]
    obtain ⟨w3, r3, k3⟩ := unhide CLR w2 k2 e 0
    have x2 := s7.1
    clear s7 e
    go_wp2
    all_goals (try simp only [Exit.inBlock, Exit.then])
    all_goals refine bodyPost_ret (results_none rfl _ _ _) rfl ?_
    all_goals exact ⟨rfl, k3⟩
  · have f1 : ((n : Int) == (m : Int)) = false := by simp; omega
    have f2 : decide ((n : Int) = (m : Int)) = false := decide_eq_false (by omega)
    have f3 : decide (n = m) = false := decide_eq_false e
    have f4 : (n == m) = false := by simp [e]
    have x2 := s7.1
    have hown := unhide ST w2 k2
    have hsz : w.heap.size ≤ w2.heap.size := (unhide k2).2.size
    clear s7 e
    rw [f1]
    go_wp2_with (first
      | (at_range; refine wpList_range_own _ rfl _ 69 rfl 77 74 lawK Try.underlying69 _ b S.length D rfl hown ?_; intro w0 hrg0 hg0 hs0))
    go_frame
    go_loopw [4] (fun _ wr => ∃ (L : List Key) (left : Lit → Bool) (cnt : Nat) (D' : Dt), Hid (DropAt w wr p b S c D' left L) ∧ wr.ranges Try.prog 77 unitElem b w2.heap.size S.length D' left cnt) (fun _ wr => wr.rangeLeft b w2.heap.size)
    case atStart =>
      have p0 : PostAt w0 p b D S := (unhide k2).1.same (hg0.block _ (unhide k2).1.lt.1 (by simp)) (hg0.block _ (unhide k2).1.lt.2 (by simp))
      exact ⟨[], _, _, D, hide ⟨Met.start (unhide k2).1.map, (KeptB.of (unhide k2).2).trans ⟨hg0.os, hg0.tape, hg0.output, hg0.size, fun i hi _ => hg0.block i hi (by simp)⟩, S, p0, fun k => by simp⟩, hrg0⟩
    case round =>
      obtain ⟨L, left, cnt, D', HD, hrg⟩ := hrel
      clear hs0 hrg0 hg0 hown x2
      have xr := (unhide HD).m
      go_wp2_with (first
        | (at_next; refine wpList_next_post _ rfl _ rfl b w2.heap.size S.length _ _ _ rfl hrg ?_ ?_))
      · intro hl0
        have KD := hide ((unhide HD).done (unhide NO).1 (unhide NO).2 (unhide hl0))
        go_wp2
        go_end0
        exact ⟨rfl, KD⟩
      · intro kc kt kp w3 cnt3 hk hrg1 hlt hen
        by_cases e : kc = c
        · have f5 : (kc == c) = true := by simp [e]
          have f6 : decide (kc = c) = true := decide_eq_true e
          have HM1 := hide (((unhide HD).mid (unhide hk).1 (unhide hk).2.1 (unhide hk).2.2 hsz hpb).alloc (.cells #[.int .i64 kc, .string (bs kt), .bool kp.b] 77)).drew
          have hrd : World.ranges (w3.alloc (.cells #[.int .i64 kc, .string (bs kt), .bool kp.b] 77)).drew Try.prog 77 unitElem b w2.heap.size S.length D' (fun z => left z && !z.sameKey (lit (kc, kt, kp.b))) cnt3 := (unhide hrg1).alloc (.cells #[.int .i64 kc, .string (bs kt), .bool kp.b] 77)
          obtain ⟨w5, cnt5, r5, hr5, hle5, ht5⟩ := hrd.drop lawK Try.underlying69 (lit_of (unhide hk).1) 0
          rw [strike_twice] at hr5
          have KD := hide ((unhide HM1).strike hr5.owns ht5 e)
          have HR5 := hide hr5
          have x5 : (w3.alloc (.cells #[.int .i64 kc, .string (bs kt), .bool kp.b] 77)).cell? ⟨p, 0, none⟩ = some (.map (some b)) := by
            obtain ⟨S', h1, -⟩ := (unhide HM1).st
            exact h1.m
          unfold keyV at r5
          dsimp only at r5
          clear hr5 ht5 e hrd
          go_wp2_with fail
          go_region
          all_goals go_roundw
          case rel => exact ⟨_, _, _, _, _, _, _, _, _, _, _, _, _, _, ⟨_, _, cnt5, _, KD, unhide HR5⟩, rfl⟩
          case measure => rw [(unhide HR5).left_eq, hrg.left_eq]; omega
        · have f5 : (kc == c) = false := by simp [e]
          have f6 : decide (kc = c) = false := decide_eq_false e
          have HM1 := hide (((unhide HD).stay (unhide hk).1 (unhide hk).2.1 (unhide hk).2.2 hsz hpb e).alloc (.cells #[.int .i64 kc, .string (bs kt), .bool kp.b] 77))
          clear e
          go_wp2
          all_goals go_roundw
          case rel => exact ⟨_, _, cnt3, _, HM1, (unhide hrg1).alloc _⟩
          case measure => rw [((unhide hrg1).alloc _).left_eq, hrg.left_eq]; exact hlt
end Go.Proofs.Ytjmnddcombepaaa
namespace Go.Proofs.Ytjmnddcombepaaa
open Go.ChangeShapes Go.WideShapes Go.ChangeAt Go.RowKit Go.Maps
set_option linter.unusedVariables false
set_option linter.unusedSimpArgs false
set_option maxRecDepth 100000
set_option maxHeartbeats 4000000

/-- how many connections listen to a channel -/
def cntT (S : List Key) (T : List UInt8) : Nat := (S.filter (fun k => decide (k.2 = (T, false)))).length
theorem cntT_le (S : List Key) (T : List UInt8) : cntT S T ≤ S.length := List.length_filter_le _ _
theorem cntT_snoc (S : List Key) (k : Key) (T : List UInt8) : cntT (S ++ [k]) T = cntT S T + (if k.2 = (T, false) then 1 else 0) := by
  unfold cntT
  rw [List.filter_append, List.length_append]
  by_cases h : k.2 = (T, false) <;> simp [h]
theorem cntT_perm {S L : List Key} (h : L.Perm S) (T : List UInt8) : cntT L T = cntT S T := (h.filter _).length_eq
theorem listeners_any (w : World) (p b : Nat) (D : Dt) (S : List Key) (T : List UInt8) (h : PostAt w p b D S) (hS : S.length ≤ 1099511627776) (hT : T.length ≤ 1125899906842624) :
    Calls Try.prog 16 #[.pointer (some ⟨p, 0, none⟩), .string (bs T)] w fun e w' => e = .returned (.int .i64 (cntT S T : Nat)) ∧ Hid (Below w.heap.size w w') := by
  have hown := h.map.own
  have hm := h.m
  have ME := hide (Met.start h.map)
  have MA := hide h.map
  clear h
  go_enter Try.func16, Try.ntmps16
  go_wp2_with (first
    | (at_range; refine wpList_range_own _ rfl _ 69 rfl 77 74 lawK Try.underlying69 _ b S.length D rfl hown ?_; intro w0 hrg0 hg0 hs0))
  go_frame
  go_loopw [5] (fun v wr => ∃ (L : List Key) (left : Lit → Bool) (cnt : Nat), v = .int .i64 ((cntT L T : Nat) : Int) ∧ Hid (Met S left L) ∧ wr.ranges Try.prog 77 unitElem b w.heap.size S.length D left cnt ∧ Hid (Below w.heap.size w wr)) (fun _ wr => wr.rangeLeft b w.heap.size)
  case atStart => exact ⟨[], _, _, rfl, ME, hrg0, hide ((Below.refl _ _).grown hg0 (Nat.le_refl _) (fun j hj => by cases hj))⟩
  case round =>
    obtain ⟨L, left, cnt, rfl, HM, hrg, HB⟩ := hrel
    have hle := cntT_le L T
    have hLS := (unhide HM).len
    clear hs0 hrg0 hg0 hown
    go_wp2_with (first
      | (at_next; refine wpList_next_post _ rfl _ rfl b w.heap.size S.length _ _ _ rfl hrg ?_ ?_))
    · intro hl0
      have hpm := hide ((unhide HM).perm (unhide MA).nd (unhide MA).ok (unhide hl0))
      go_wp2
      go_ret
      exact ⟨by rw [cntT_perm (unhide hpm)]; rfl, HB⟩
    · intro kc kt kp w1 cnt1 hk hrg1 hlt hen
      have HS := hide ((unhide HM).step (unhide hk).1 (unhide hk).2.1)
      have HB1 := hide ((unhide HB).grown (unhide hk).2.2 (unhide HB).size (fun j hj => by cases hj; exact Nat.le_refl _))
      have hL1 := (unhide HS).1.len
      rw [List.length_append] at hL1
      simp only [List.length_cons, List.length_nil] at hL1
      have HC : Hid (cntT (L ++ [(kc, kt, kp.b)]) T = cntT L T + (if (kt, kp.b) = (T, false) then 1 else 0)) := hide (cntT_snoc L (kc, kt, kp.b) T)
      have hk2 : KOk (kc, T, false) := ⟨(unhide hk).1.1, by show T.length ≤ maxLen; unfold maxLen; omega⟩
      have heq : ∀ W, (Op.equalIn 10000 77 (.agg #[.int .i64 kc, .string (bs kt), .bool kp.b]) (.agg #[.int .i64 kc, .string (bs T), .bool false])).run Try.prog W = .ok (decide ((kc, kt, kp.b) = (kc, T, false))) W := fun W => key_eq (unhide hk).1 hk2 W
      clear hk2
      by_cases e : (kt, kp.b) = (T, false)
      · have f1 : decide ((kc, kt, kp.b) = (kc, T, false)) = true := decide_eq_true (by rw [e])
        rw [f1] at heq
        have He := hide e
        clear e f1
        go_wp2
        all_goals go_roundw
        case rel => exact ⟨L ++ [(kc, kt, kp.b)], _, cnt1, by rw [unhide HC, if_pos (unhide He)]; simp, hide (unhide HS).1, (unhide hrg1).alloc _, hide ((unhide HB1).alloc (unhide HB1).size _)⟩
        case measure => rw [((unhide hrg1).alloc _).left_eq, hrg.left_eq]; exact hlt
      · have f1 : decide ((kc, kt, kp.b) = (kc, T, false)) = false := decide_eq_false (fun e2 => e (Prod.mk.inj e2).2)
        rw [f1] at heq
        have He := hide e
        clear e f1
        go_wp2
        all_goals go_roundw
        case rel => exact ⟨L ++ [(kc, kt, kp.b)], _, cnt1, by rw [unhide HC, if_neg (unhide He)]; simp, hide (unhide HS).1, (unhide hrg1).alloc _, hide ((unhide HB1).alloc (unhide HB1).size _)⟩
        case measure => rw [((unhide hrg1).alloc _).left_eq, hrg.left_eq]; exact hlt
end Go.Proofs.Ytjmnddcombepaaa
