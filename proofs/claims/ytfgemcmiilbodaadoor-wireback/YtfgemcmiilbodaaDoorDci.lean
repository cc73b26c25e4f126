/- bytes.IndexByte, laid at this dump in plain words. -/
import Derived.Shelf.LaysM
import Derived.Shelf.Bytes.IndexByte
import Derived.Shelf.Bytes.SlIndexAt
import Derived.Test.YtfgemcmiilbodaaDoorDce
namespace Go.Proofs
open Go.Shelf
def Tryd.lays187_ren : Go.Shelf.Ren := ⟨fun | 187 => 30 | 255 => 41 | n => n, fun | 37 => 22 | 5 => 5 | 3 => 3 | n => n, fun | n => n⟩
theorem Tryd.lays187 : Go.Proofs.Lays.n187 Tryd.prog Tryd.lays187_ren := {
  mixed := by kernel_rfl
  f187 := Tryd.func30.trans (congrArg some (by kernel_rfl))
  f255 := Tryd.func41.trans (congrArg some (by kernel_rfl))
  t3 := Tryd.underlying3
  a3 := Tryd.isAgg3
  z3 := Tryd.sizeOf3
  v3 := Tryd.zeroValue3
  t5 := Tryd.underlying5
  a5 := Tryd.isAgg5
  z5 := Tryd.sizeOf5
  v5 := Tryd.zeroValue5
  t37 := Tryd.underlying22
  a37 := Tryd.isAgg22
  z37 := Tryd.sizeOf22
  v37 := Tryd.zeroValue22 }
end Go.Proofs
namespace Go.Proofs.YtfgemcmiilbodaaDoor
open Go.ChangeShapes Go.WideShapes Go.ChangeAt Go.RowKit
set_option linter.unusedVariables false
theorem Tryd.bytes_IndexByte_at (a : Addr) (n c : Nat) (xs : List Int) (cv : Int) (w : World) (hx : xs.length = n) (hc : ∀ i, i < n → w.cell? (a.add i) = some (.int .u8 (xs.getD i 0))) :
    Calls Tryd.prog 30 #[.slice (some a) n c, .int .u8 cv] w fun e w' => e = .returned (.int .i64 (Lib.indexByte (Lib.bytesOf xs) cv.toNat.toUInt8)) ∧ w' = w := Any.bytes_IndexByte_at Tryd.lays187 a n c xs cv w hx hc
set_option linter.unusedSimpArgs false
set_option maxRecDepth 20000
set_option maxHeartbeats 4000000
def crV : Option Nat → Int
  | some k => (k : Nat)
  | none => -1
theorem index_cr : ∀ T : List Nat, (∀ c ∈ T, c < 256) → Lib.indexByte (Lib.bytesOf (T.map Int.ofNat)) 13 = crV (Larder8.crAt T)
  | [], _ => rfl
  | c :: r, h => by
    have IH := index_cr r (fun x hx => h x (List.mem_cons_of_mem _ hx))
    have hc := h c (List.mem_cons_self ..)
    have e1 : Lib.bytesOf ((c :: r).map Int.ofNat) = UInt8.ofNat c :: Lib.bytesOf (r.map Int.ofNat) := by simp [Lib.bytesOf]
    rw [e1, Lib.indexByte, IH, Larder8.crAt]
    by_cases h13 : c = 13
    · subst h13
      rfl
    · have : (UInt8.ofNat c == 13) = false := by
        rw [beq_eq_false_iff_ne]
        intro e
        have e2 := congrArg UInt8.toNat e
        simp only [UInt8.toNat_ofNat'] at e2
        have e3 : (13 : UInt8).toNat = 13 := rfl
        rw [e3] at e2
        omega
      rw [this, if_neg h13]
      cases hk : Larder8.crAt r with
      | none => simp [crV]
      | some k =>
        have h9 : (crV (some k) == -1) = false := by rw [beq_eq_false_iff_ne]; show (k : Int) ≠ -1; omega
        rw [h9]
        simp [crV]
theorem indexcr_any (w : World) (b off n cp : Nat) (T : List Nat) (hn : n = T.length) (hB : Bytes w (some ⟨b, off, none⟩) T) (hs : Small T) : Calls Tryd.prog 30 #[.slice (some ⟨b, off, none⟩) n cp, .int .u8 13] w fun e w' => e = .returned (.int .i64 (crV (Larder8.crAt T))) ∧ w' = w := by
  have hs' : ∀ c ∈ T, c < 256 := fun c hc => by
    obtain ⟨i, hi, rfl⟩ := List.mem_iff_getElem.1 hc
    have := hs i hi
    rwa [List.getD_eq_getElem?_getD, List.getElem?_eq_getElem hi] at this
  have := Tryd.bytes_IndexByte_at ⟨b, off, none⟩ n cp (T.map Int.ofNat) 13 w (by simp [hn]) (fun i hi => by
    rw [add_plain]
    rcases hB with e | ⟨b', off', e, h1, h2⟩
    · rw [e] at hn; simp at hn; omega
    · cases e
      rw [h2 i (by omega)]
      have hi' : i < T.length := by omega
      simp [List.getD, hi'])
  rw [show (13 : Int).toNat.toUInt8 = 13 from rfl, index_cr T hs'] at this
  exact this
def NumEnd (w : World) (pd : Nat) (P : Larder8.St Int) (e : Ending) (w' : World) : Prop := ∃ v : Int, e = .returned (.tuple #[.int .i64 v, .int .i64 P.err]) ∧ Hid (DcK pd w w' ∧ ∀ v' r, P = .ok v' r → v = v' ∧ ∃ a' n' cp', DcAt w' pd a' n' cp' r)
/-- the decoder's number -/
theorem dnum_any (w : World) (pd : Nat) (a : Option Addr) (n cp : Nat) (T : List Nat) (lo hi : Int) (h : DcAt w pd a n cp T) (hl : n ≤ 140737488355328) (hlo : -9223372036854775808 ≤ lo ∧ lo ≤ 9223372036854775807) (hhi : -9223372036854775808 ≤ hi ∧ hi ≤ 9223372036854775807) :
    Calls Tryd.prog 19 #[.pointer (some ⟨pd, 0, none⟩), .int .i64 lo, .int .i64 hi] w (NumEnd w pd (Larder8.numP lo hi T)) := by
  obtain ⟨b, off, rfl, -⟩ := h.so
  have c0 : w.cell? ⟨pd, 0, none⟩ = some (.slice (some ⟨b, off, none⟩) n cp) := by rw [cell_of_row _ _ _ _ _ _ h.box]; rfl
  have f0 : w.frozen? ⟨pd, 0, none⟩ = false := by simp only [World.frozen?, h.box]; simp
  have CI := hide ((indexcr_any w b off n cp T h.rst.len h.rst.bytes h.sm).mono (fun e w' k => (⟨k.1, k.2.symm⟩ : e = _ ∧ w = w')))
  have hle := h.rst.le
  have htop := h.rst.top
  have hlen := h.rst.len
  cases hcr : Larder8.crAt T with
  | none =>
    have E : Larder8.numP lo hi T = if Larder8.begunP lo hi T then .short else .wrong := by unfold Larder8.numP; rw [hcr]
    have CB := hide ((dbegun_any w _ n cp T lo hi hlen h.rst.bytes h.sm ⟨hle, htop⟩ hl hlo hhi).mono (fun e w' k => (⟨k.1, k.2.symm⟩ : e = _ ∧ w = w')))
    rw [hcr] at CI
    rw [E]
    obtain ⟨q, hq⟩ : ∃ q, q = Larder8.begunP lo hi T := ⟨_, rfl⟩
    rw [← hq] at CB ⊢
    clear hq E hcr h hlen
    cases q with
    | true =>
      go_enter Tryd.func19, Tryd.ntmps19
      go_wp2_with (first
        | (go_at_call 30; with_reducible refine (unhide CI).mono ?_; rintro e w5 ⟨rfl, h5⟩; subst h5; simp only [crV])
        | (go_at_call 31; with_reducible refine (unhide CB).mono ?_; rintro e w5 ⟨rfl, h5⟩; subst h5))
      go_ret2
      exact ⟨0, rfl, hide ⟨DcK.refl _ _, fun v' r e => (by cases e)⟩⟩
    | false =>
      go_enter Tryd.func19, Tryd.ntmps19
      go_wp2_with (first
        | (go_at_call 30; with_reducible refine (unhide CI).mono ?_; rintro e w5 ⟨rfl, h5⟩; subst h5; simp only [crV])
        | (go_at_call 31; with_reducible refine (unhide CB).mono ?_; rintro e w5 ⟨rfl, h5⟩; subst h5))
      go_ret2
      exact ⟨0, rfl, hide ⟨DcK.refl _ _, fun v' r e => (by cases e)⟩⟩
  | some i =>
    obtain ⟨hi1, -, -⟩ := Larder8.crAt_lt T i hcr
    have E : Larder8.numP lo hi T = (match Larder8.numV lo hi (T.take i) with | none => .wrong | some v => (Larder8.endP (T.drop i)).map (fun _ => v)) := by
      unfold Larder8.numP
      rw [hcr]
      show (match Larder8.numV lo hi (T.take i) with | none => _ | some n => _) = _
      cases Larder8.numV lo hi (T.take i) <;> rfl
    have CN := hide ((dnumber_any w (some ⟨b, off, none⟩) i cp (T.take i) lo hi (by simp; omega) (Bytes.first h.rst.bytes i) (h.sm.take i) ⟨by omega, htop⟩ (by omega) hlo hhi).mono (fun e w' k => (⟨k.1, k.2.symm⟩ : e = _ ∧ w = w')))
    have g0 : (0 : Int) ≤ (i : Int) := by omega
    have g1 : (i : Int) ≤ (cp : Int) := by omega
    have g2 : (i : Int) ≤ (n : Int) := by omega
    have gd : decide ((i : Int) < 0) = false := decide_eq_false (by omega)
    have hin : i < n := by omega
    rw [hcr] at CI
    rw [E]
    cases hv : Larder8.numV lo hi (T.take i) with
    | none =>
      rw [hv] at CN
      clear E hcr h hlen hv
      go_enter Tryd.func19, Tryd.ntmps19
      go_wp2_with (first
        | (go_at_call 30; with_reducible refine (unhide CI).mono ?_; rintro e w5 ⟨rfl, h5⟩; subst h5; simp only [crV])
        | (go_at_call 32; with_reducible refine (unhide CN).mono ?_; rintro e w5 ⟨rfl, h5⟩; subst h5))
      go_ret2
      exact ⟨0, rfl, hide ⟨DcK.refl _ _, fun v' r e => (by cases e)⟩⟩
    | some v =>
      rw [hv] at CN
      have hne : (cp = i) = False := eq_false (by omega)
      have HM := hide (h.move (Below.refl _ _) i (some ⟨b, off + i, none⟩) (by omega) (.inl rfl))
      have CE := hide (end_any _ pd _ _ _ _ (unhide HM))
      obtain ⟨P, hP⟩ : ∃ P, P = Larder8.endP (T.drop i) := ⟨_, rfl⟩
      rw [← hP] at CE ⊢
      have f1 : (w.setCell ⟨pd, 0, none⟩ (.slice (some ⟨b, off + i, none⟩) (n - i) (cp - i))).frozen? ⟨pd, 0, none⟩ = false := by rw [World.frozen?_setCell]; exact f0
      clear E hcr h hlen hv hP
      go_enter Tryd.func19, Tryd.ntmps19
      go_wp2_with (first
        | (go_at_call 30; with_reducible refine (unhide CI).mono ?_; rintro e w5 ⟨rfl, h5⟩; subst h5; simp only [crV])
        | (go_at_call 32; with_reducible refine (unhide CN).mono ?_; rintro e w5 ⟨rfl, h5⟩; subst h5)
        | (go_at_call 29; with_reducible refine (unhide CE).mono ?_; rintro e w6 ⟨rfl, h6⟩))
      go_ret2
      refine ⟨v, by cases P <;> rfl, hide ⟨DcK.put.trans (unhide h6).1, fun v' r e => ?_⟩⟩
      cases P with
      | ok u r0 =>
        cases e
        exact ⟨rfl, (unhide h6).2 _ rfl⟩
      | short => cases e
      | wrong => cases e
end Go.Proofs.YtfgemcmiilbodaaDoor
