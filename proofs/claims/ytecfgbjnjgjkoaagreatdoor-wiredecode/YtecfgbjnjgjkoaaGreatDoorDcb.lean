/- Decode: texts of any bytes. -/
import Derived.Shelf.LaysM
import Derived.Shelf.Bytes.IndexByte
import Derived.Shelf.Bytes.SlIndexAt
import Derived.Test.YtecfgbjnjgjkoaaGreatDoorDce
import Derived.Test.YtecfgbjnjgjkoaaGreatDoorCpE
import Derived.Laws.ResultCell
namespace Go.Proofs
open Go.Shelf
def Tryz.lays187_ren : Go.Shelf.Ren := ⟨fun | 187 => 90 | 255 => 117 | n => n, fun | 37 => 25 | 5 => 5 | 3 => 3 | n => n, fun | n => n⟩
theorem Tryz.lays187 : Go.Proofs.Lays.n187 Tryz.prog Tryz.lays187_ren := {
  mixed := by kernel_rfl
  f187 := Tryz.func90.trans (congrArg some (by kernel_rfl))
  f255 := Tryz.func117.trans (congrArg some (by kernel_rfl))
  t3 := Tryz.underlying3
  a3 := Tryz.isAgg3
  z3 := Tryz.sizeOf3
  v3 := Tryz.zeroValue3
  t5 := Tryz.underlying5
  a5 := Tryz.isAgg5
  z5 := Tryz.sizeOf5
  v5 := Tryz.zeroValue5
  t37 := Tryz.underlying25
  a37 := Tryz.isAgg25
  z37 := Tryz.sizeOf25
  v37 := Tryz.zeroValue25 }
end Go.Proofs
namespace Go.Proofs.YtecfgbjnjgjkoaaGreatDoor
open Go.ChangeShapes Go.WideShapes Go.ChangeAt Go.RowKit
set_option linter.unusedVariables false
theorem Tryz.bytes_IndexByte_at (a : Addr) (n c : Nat) (xs : List Int) (cv : Int) (w : World) (hx : xs.length = n) (hc : ∀ i, i < n → w.cell? (a.add i) = some (.int .u8 (xs.getD i 0))) :
    Calls Tryz.prog 90 #[.slice (some a) n c, .int .u8 cv] w fun e w' => e = .returned (.int .i64 (Lib.indexByte (Lib.bytesOf xs) cv.toNat.toUInt8)) ∧ w' = w := Any.bytes_IndexByte_at Tryz.lays187 a n c xs cv w hx hc
set_option linter.unusedSimpArgs false
set_option maxRecDepth 20000
set_option maxHeartbeats 4000000
def crV : Option Nat → Int
  | some k => (k : Nat)
  | none => -1
theorem index_cr : ∀ T : List Nat, (∀ c ∈ T, c < 256) → Lib.indexByte (Lib.bytesOf (T.map Int.ofNat)) 13 = crV (Larder8.crAt T)
  | [], _ => rfl
  | c :: r, h => by
    have IH := index_cr r (fun x hx => h x (List.mem_cons_of_mem _ hx))
    have hc := h c (List.mem_cons_self ..)
    have e1 : Lib.bytesOf ((c :: r).map Int.ofNat) = UInt8.ofNat c :: Lib.bytesOf (r.map Int.ofNat) := by simp [Lib.bytesOf]
    rw [e1, Lib.indexByte, IH, Larder8.crAt]
    by_cases h13 : c = 13
    · subst h13
      rfl
    · have : (UInt8.ofNat c == 13) = false := by
        rw [beq_eq_false_iff_ne]
        intro e
        have e2 := congrArg UInt8.toNat e
        simp only [UInt8.toNat_ofNat'] at e2
        have e3 : (13 : UInt8).toNat = 13 := rfl
        rw [e3] at e2
        omega
      rw [this, if_neg h13]
      cases hk : Larder8.crAt r with
      | none => simp [crV]
      | some k =>
        have h9 : (crV (some k) == -1) = false := by rw [beq_eq_false_iff_ne]; show (k : Int) ≠ -1; omega
        rw [h9]
        simp [crV]
theorem indexcr_any (w : World) (b off n cp : Nat) (T : List Nat) (hn : n = T.length) (hB : Bytes w (some ⟨b, off, none⟩) T) (hs : Small T) : Calls Tryz.prog 90 #[.slice (some ⟨b, off, none⟩) n cp, .int .u8 13] w fun e w' => e = .returned (.int .i64 (crV (Larder8.crAt T))) ∧ w' = w := by
  have hs' : ∀ c ∈ T, c < 256 := fun c hc => by
    obtain ⟨i, hi, rfl⟩ := List.mem_iff_getElem.1 hc
    have := hs i hi
    rwa [List.getD_eq_getElem?_getD, List.getElem?_eq_getElem hi] at this
  have := Tryz.bytes_IndexByte_at ⟨b, off, none⟩ n cp (T.map Int.ofNat) 13 w (by simp [hn]) (fun i hi => by
    rw [add_plain]
    rcases hB with e | ⟨b', off', e, h1, h2⟩
    · rw [e] at hn; simp at hn; omega
    · cases e
      rw [h2 i (by omega)]
      have hi' : i < T.length := by omega
      simp [List.getD, hi'])
  rw [show (13 : Int).toNat.toUInt8 = 13 from rfl, index_cr T hs'] at this
  exact this
def NumEnd (w : World) (pd : Nat) (P : Larder8.St Int) (e : Ending) (w' : World) : Prop := ∃ v : Int, e = .returned (.tuple #[.int .i64 v, .int .i64 P.err]) ∧ Hid (DcK pd w w' ∧ ∀ v' r, P = .ok v' r → v = v' ∧ ∃ a' n' cp', DcAt w' pd a' n' cp' r)
/-- the decoder's number -/
theorem dnum_any (w : World) (pd : Nat) (a : Option Addr) (n cp : Nat) (T : List Nat) (lo hi : Int) (h : DcAt w pd a n cp T) (hl : n ≤ 140737488355328) (hlo : -9223372036854775808 ≤ lo ∧ lo ≤ 9223372036854775807) (hhi : -9223372036854775808 ≤ hi ∧ hi ≤ 9223372036854775807) :
    Calls Tryz.prog 67 #[.pointer (some ⟨pd, 0, none⟩), .int .i64 lo, .int .i64 hi] w (NumEnd w pd (Larder8.numP lo hi T)) := by
  obtain ⟨b, off, rfl, -⟩ := h.so
  have c0 : w.cell? ⟨pd, 0, none⟩ = some (.slice (some ⟨b, off, none⟩) n cp) := by rw [cell_of_row _ _ _ _ _ _ h.box]; rfl
  have f0 : w.frozen? ⟨pd, 0, none⟩ = false := by simp only [World.frozen?, h.box]; simp
  have CI := hide ((indexcr_any w b off n cp T h.rst.len h.rst.bytes h.sm).mono (fun e w' k => (⟨k.1, k.2.symm⟩ : e = _ ∧ w = w')))
  have hle := h.rst.le
  have htop := h.rst.top
  have hlen := h.rst.len
  cases hcr : Larder8.crAt T with
  | none =>
    have E : Larder8.numP lo hi T = if Larder8.begunP lo hi T then .short else .wrong := by unfold Larder8.numP; rw [hcr]
    have CB := hide ((dbegun_any w _ n cp T lo hi hlen h.rst.bytes h.sm ⟨hle, htop⟩ hl hlo hhi).mono (fun e w' k => (⟨k.1, k.2.symm⟩ : e = _ ∧ w = w')))
    rw [hcr] at CI
    rw [E]
    obtain ⟨q, hq⟩ : ∃ q, q = Larder8.begunP lo hi T := ⟨_, rfl⟩
    rw [← hq] at CB ⊢
    clear hq E hcr h hlen
    cases q with
    | true =>
      go_enter Tryz.func67, Tryz.ntmps67
      go_wp2_with (first
        | (go_at_call 90; with_reducible refine (unhide CI).mono ?_; rintro e w5 ⟨rfl, h5⟩; subst h5; simp only [crV])
        | (go_at_call 91; with_reducible refine (unhide CB).mono ?_; rintro e w5 ⟨rfl, h5⟩; subst h5))
      go_ret2
      exact ⟨0, rfl, hide ⟨DcK.refl _ _, fun v' r e => (by cases e)⟩⟩
    | false =>
      go_enter Tryz.func67, Tryz.ntmps67
      go_wp2_with (first
        | (go_at_call 90; with_reducible refine (unhide CI).mono ?_; rintro e w5 ⟨rfl, h5⟩; subst h5; simp only [crV])
        | (go_at_call 91; with_reducible refine (unhide CB).mono ?_; rintro e w5 ⟨rfl, h5⟩; subst h5))
      go_ret2
      exact ⟨0, rfl, hide ⟨DcK.refl _ _, fun v' r e => (by cases e)⟩⟩
  | some i =>
    obtain ⟨hi1, -, -⟩ := Larder8.crAt_lt T i hcr
    have E : Larder8.numP lo hi T = (match Larder8.numV lo hi (T.take i) with | none => .wrong | some v => (Larder8.endP (T.drop i)).map (fun _ => v)) := by
      unfold Larder8.numP
      rw [hcr]
      show (match Larder8.numV lo hi (T.take i) with | none => _ | some n => _) = _
      cases Larder8.numV lo hi (T.take i) <;> rfl
    have CN := hide ((dnumber_any w (some ⟨b, off, none⟩) i cp (T.take i) lo hi (by simp; omega) (Bytes.first h.rst.bytes i) (h.sm.take i) ⟨by omega, htop⟩ (by omega) hlo hhi).mono (fun e w' k => (⟨k.1, k.2.symm⟩ : e = _ ∧ w = w')))
    have g0 : (0 : Int) ≤ (i : Int) := by omega
    have g1 : (i : Int) ≤ (cp : Int) := by omega
    have g2 : (i : Int) ≤ (n : Int) := by omega
    have gd : decide ((i : Int) < 0) = false := decide_eq_false (by omega)
    have hin : i < n := by omega
    rw [hcr] at CI
    rw [E]
    cases hv : Larder8.numV lo hi (T.take i) with
    | none =>
      rw [hv] at CN
      clear E hcr h hlen hv
      go_enter Tryz.func67, Tryz.ntmps67
      go_wp2_with (first
        | (go_at_call 90; with_reducible refine (unhide CI).mono ?_; rintro e w5 ⟨rfl, h5⟩; subst h5; simp only [crV])
        | (go_at_call 92; with_reducible refine (unhide CN).mono ?_; rintro e w5 ⟨rfl, h5⟩; subst h5))
      go_ret2
      exact ⟨0, rfl, hide ⟨DcK.refl _ _, fun v' r e => (by cases e)⟩⟩
    | some v =>
      rw [hv] at CN
      have hne : (cp = i) = False := eq_false (by omega)
      have HM := hide (h.move (Below.refl _ _) i (some ⟨b, off + i, none⟩) (by omega) (.inl rfl))
      have CE := hide (end_any _ pd _ _ _ _ (unhide HM))
      obtain ⟨P, hP⟩ : ∃ P, P = Larder8.endP (T.drop i) := ⟨_, rfl⟩
      rw [← hP] at CE ⊢
      have f1 : (w.setCell ⟨pd, 0, none⟩ (.slice (some ⟨b, off + i, none⟩) (n - i) (cp - i))).frozen? ⟨pd, 0, none⟩ = false := by rw [World.frozen?_setCell]; exact f0
      clear E hcr h hlen hv hP
      go_enter Tryz.func67, Tryz.ntmps67
      go_wp2_with (first
        | (go_at_call 90; with_reducible refine (unhide CI).mono ?_; rintro e w5 ⟨rfl, h5⟩; subst h5; simp only [crV])
        | (go_at_call 92; with_reducible refine (unhide CN).mono ?_; rintro e w5 ⟨rfl, h5⟩; subst h5)
        | (go_at_call 89; with_reducible refine (unhide CE).mono ?_; rintro e w6 ⟨rfl, h6⟩))
      go_ret2
      refine ⟨v, by cases P <;> rfl, hide ⟨DcK.put.trans (unhide h6).1, fun v' r e => ?_⟩⟩
      cases P with
      | ok u r0 =>
        cases e
        exact ⟨rfl, (unhide h6).2 _ rfl⟩
      | short => cases e
      | wrong => cases e
end Go.Proofs.YtecfgbjnjgjkoaaGreatDoor
namespace Go.Proofs.YtecfgbjnjgjkoaaGreatDoor
open Go.ChangeShapes Go.WideShapes Go.ChangeAt Go.RowKit
set_option linter.unusedVariables false
set_option linter.unusedSimpArgs false
set_option maxRecDepth 20000
set_option maxHeartbeats 4000000

theorem results_box {P : Program} {fn : Func} {p q : Tmp} {ty : TypeId} (h : fn.results = #[.cell p ty, .tmp q]) (tmps : Array Value) (w : World) (g : Nat) (t : TypeId) (cs : Array Value) (fr : Nat × Nat) (d : TypeDesc)
    (hp : tmps.getD p undef = .pointer (some ⟨g, 0, none⟩)) (hg : w.heap[g]? = some (.cells cs t fr))
    (hu : P.underlying ty = some d) (hd : (match d with | .struct _ | .array _ _ => true | _ => false) = true) (hi : (P.info? ty).map (·.size) = some cs.size) (v : Value) (hv : tmps.getD q undef = v) :
    (results fn tmps).run P w = .ok (.tuple #[.agg cs, v]) w := by
  have hp' : tmps[p]?.getD undef = .pointer (some ⟨g, 0, none⟩) := by simpa using hp
  have hv' : tmps[q]?.getD undef = v := by simpa using hv
  simp [results, h, hp', hv', asAddr, run_loadVar_row w g t ty cs fr d hg hu hd hi]
/-- four cells of a reply are stored -/
theorem store4 {W : World} {g : Nat} {C : Array Value} (h : W.heap[g]? = some (.cells C 31 (0, 0))) (hC : C.size = 4) (v0 v1 v2 v3 : Value) : ((((W.setCell ⟨g, 0, none⟩ v0).setCell ⟨g, 1, none⟩ v1).setCell ⟨g, 2, none⟩ v2).setCell ⟨g, 3, none⟩ v3).heap[g]? = some (.cells #[v0, v1, v2, v3] 31 (0, 0)) := by
  have e1 := Bk.setCell_block W g 0 v0 _ _ _ h
  have e2 := Bk.setCell_block _ g 1 v1 _ _ _ e1
  have e3 := Bk.setCell_block _ g 2 v2 _ _ _ e2
  have e4 := Bk.setCell_block _ g 3 v3 _ _ _ e3
  rw [e4]
  match C, hC with
  | ⟨[c0, c1, c2, c3]⟩, _ => rfl
def BlkEnd (w : World) (pd : Nat) (P : Larder8.St (Option (List Nat))) (e : Ending) (w' : World) : Prop := ∃ (k : Int) (ta : Option Addr) (tn tc : Nat), e = .returned (.tuple #[.agg #[.int .i64 k, .int .i64 0, .slice ta tn tc, .slice none 0 0], .int .i64 P.err]) ∧ Hid (DcK pd w w' ∧ ∀ o r, P = .ok o r → ((o = none → k = 5 ∧ ta = none ∧ tn = 0 ∧ tc = 0) ∧ (∀ t, o = some t → k = 4 ∧ OwnB w' w.heap.size (.slice ta tn tc) t)) ∧ ∃ a' n' cp', DcAt w' pd a' n' cp' r)
/-- the box of the answer -/
structure Bx (w W : World) (pd : Nat) : Prop where
  lt : pd < w.heap.size
  k : DcK pd w W
  box : W.heap[w.heap.size]? = some (.cells #[.int .i64 0, .int .i64 0, .slice none 0 0, .slice none 0 0] 31 (0, 0))
theorem Bx.cell {w W : World} {pd : Nat} (h : Bx w W pd) (j : Nat) (v : Value) (hv : (#[.int .i64 0, .int .i64 0, .slice none 0 0, .slice none 0 0] : Array Value)[j]? = some v) : W.cell? ⟨w.heap.size, j, none⟩ = some v := by rw [cell_of_row _ _ _ _ _ _ h.box]; exact hv
theorem Bx.froz {w W : World} {pd : Nat} (h : Bx w W pd) (j : Nat) : W.frozen? ⟨w.heap.size, j, none⟩ = false := by simp only [World.frozen?, h.box]; simp
theorem Bx.next {w W W' : World} {pd : Nat} (h : Bx w W pd) (k : DcK pd W W') : Bx w W' pd := ⟨h.lt, h.k.trans k, (k.blk _ (block_lt h.box) (by have := h.lt; omega)).trans h.box⟩
/-- what the answer's stores leave -/
theorem DcK.boxed {w W : World} {pd : Nat} (h : Bx w W pd) (v0 v1 v2 v3 : Value) : DcK pd w ((((W.setCell ⟨w.heap.size, 0, none⟩ v0).setCell ⟨w.heap.size, 1, none⟩ v1).setCell ⟨w.heap.size, 2, none⟩ v2).setCell ⟨w.heap.size, 3, none⟩ v3) := by
  refine ⟨h.k.os, h.k.tape, h.k.output, by simpa using h.k.size, fun k hk hn => ?_⟩
  rw [Bk.setCell_else _ _ _ _ _ (by omega), Bk.setCell_else _ _ _ _ _ (by omega), Bk.setCell_else _ _ _ _ _ (by omega), Bk.setCell_else _ _ _ _ _ (by omega)]
  exact h.k.blk k hk hn
theorem DcAt.boxed {W : World} {pd g : Nat} {a : Option Addr} {n cp : Nat} {T : List Nat} (h : DcAt W pd a n cp T) (hg : g ≠ pd) (hb : ∀ b off, a = some ⟨b, off, none⟩ → 0 < n → b ≠ g) (v0 v1 v2 v3 : Value) : DcAt ((((W.setCell ⟨g, 0, none⟩ v0).setCell ⟨g, 1, none⟩ v1).setCell ⟨g, 2, none⟩ v2).setCell ⟨g, 3, none⟩ v3) pd a n cp T := by
  have hbl : ∀ k, k ≠ g → ((((W.setCell ⟨g, 0, none⟩ v0).setCell ⟨g, 1, none⟩ v1).setCell ⟨g, 2, none⟩ v2).setCell ⟨g, 3, none⟩ v3).heap[k]? = W.heap[k]? := fun k hk => by
    rw [Bk.setCell_else _ _ _ _ _ hk, Bk.setCell_else _ _ _ _ _ hk, Bk.setCell_else _ _ _ _ _ hk, Bk.setCell_else _ _ _ _ _ hk]
  refine ⟨(hbl pd (fun e => hg e.symm)).trans h.box, ⟨?_, h.rst.len, h.rst.le, h.rst.top⟩, h.ap, h.sm, h.so⟩
  rcases h.rst.bytes with e | ⟨b, off, e, h1, h2⟩
  · exact .inl e
  · rcases Nat.eq_zero_or_pos n with q | q
    · exact .inl (List.eq_nil_of_length_eq_zero (by have := h.rst.len; omega))
    · refine .inr ⟨b, off, e, by simpa using h1, fun i hi => ?_⟩
      rw [← h2 i hi]
      unfold World.cell?
      rw [hbl b (hb b off e q)]
theorem DcAt.below {w W : World} {pd : Nat} {a : Option Addr} {n cp : Nat} {T : List Nat} (h : DcAt w pd a n cp T) (hb : Below w.heap.size w W) : DcAt W pd a n cp T := ⟨(hb.block pd (block_lt h.box)).trans h.box, h.rst.below hb, h.ap, h.sm, h.so⟩
theorem Bx.new (w : World) (pd : Nat) (h : pd < w.heap.size) : Bx w (w.alloc (.cells #[.int .i64 0, .int .i64 0, .slice none 0 0, .slice none 0 0] 31)) pd := ⟨h, DcK.below ((Below.refl _ _).alloc (Nat.le_refl _) _), heap_alloc_new _ _⟩
/-- the rest does not lie in the box: its cells are bytes -/
theorem Bx.apart {w W : World} {pd : Nat} {a : Option Addr} {n cp : Nat} {T : List Nat} (h : Bx w W pd) (d : DcAt W pd a n cp T) : ∀ b off, a = some ⟨b, off, none⟩ → 0 < n → b ≠ w.heap.size := by
  intro b off ha h0 hb
  obtain ⟨b', off', e, h1, h2⟩ := d.rst.at h0
  rw [ha] at e
  cases e
  have := h2 0 h0
  subst hb
  rw [cell_of_row _ _ _ _ _ _ h.box] at this
  rcases (show off + 0 = 0 ∨ off + 0 = 1 ∨ off + 0 = 2 ∨ off + 0 = 3 ∨ 4 ≤ off + 0 by omega) with q | q | q | q | q
  · rw [q] at this; simp at this
  · rw [q] at this; simp at this
  · rw [q] at this; simp at this
  · rw [q] at this; simp at this
  · rw [Array.getElem?_eq_none (by simpa using q)] at this; cases this
theorem DcAt.cell0 {W : World} {pd : Nat} {a : Option Addr} {n cp : Nat} {T : List Nat} (h : DcAt W pd a n cp T) : W.cell? ⟨pd, 0, none⟩ = some (.slice a n cp) := by rw [cell_of_row _ _ _ _ _ _ h.box]; rfl
theorem DcAt.froz0 {W : World} {pd : Nat} {a : Option Addr} {n cp : Nat} {T : List Nat} (h : DcAt W pd a n cp T) : W.frozen? ⟨pd, 0, none⟩ = false := by simp only [World.frozen?, h.box]; simp
theorem OwnB.dck {w w' : World} {pd base : Nat} {v : Value} {l : List Nat} (h : OwnB w base v l) (k : DcK pd w w') (hp : pd < base) : OwnB w' base v l := by
  refine ⟨h.1, ?_⟩
  rcases h.2 with hn | ⟨g', cap, cur, rfl, hbb, hg', rest⟩
  · exact .inl hn
  · exact .inr ⟨g', cap, cur, rfl, hbb, (k.blk g' (block_lt hg') (by omega)).trans hg', rest⟩
end Go.Proofs.YtecfgbjnjgjkoaaGreatDoor
namespace Larder8
theorem numP_in {lo hi : Int} {b : List Nat} {v : Int} {r : List Nat} (h : numP lo hi b = .ok v r) : lo ≤ v ∧ v ≤ hi := by
  unfold numP at h
  split at h
  · split at h <;> cases h
  · split at h
    · cases h
    · rename_i m hm
      unfold numV at hm
      split at hm
      · rename_i hc
        cases hm
        revert h
        cases endP (b.drop _) with
        | ok u r' => intro h; cases h; exact hc.2
        | short => intro h; cases h
        | wrong => intro h; cases h
      · cases hm
end Larder8
