/- Decode: replies, in plain words; a reply that owns its memory. -/
import Derived.Test.YtecfgbjnjgjkoaaGreatDoorDcl
namespace Go.Proofs.YtecfgbjnjgjkoaaGreatDoor
open Go.ChangeShapes Go.WideShapes Go.ChangeAt Go.RowKit
set_option linter.unusedVariables false
set_option linter.unusedSimpArgs false
set_option maxRecDepth 20000
set_option maxHeartbeats 4000000
theorem cell_dck {w w' : World} {pd g j : Nat} (k : DcK pd w w') (hg : g < w.heap.size) (hn : g ≠ pd) : w'.cell? ⟨g, j, none⟩ = w.cell? ⟨g, j, none⟩ := World.cell?_of_block (k.blk g hg hn)
theorem UOk.dck {w w' : World} {pd : Nat} (h : UOk w) (k : DcK pd w w') (hp : 2 < pd) : UOk w' := by
  obtain ⟨⟨h1, h2⟩, ⟨M, hM⟩, hs⟩ := h
  exact ⟨⟨fun c hc => by rw [cell_dck k (by omega) (by omega)]; exact h1 c hc, fun i hi => ⟨by rw [cell_dck k (by omega) (by omega)]; exact (h2 i hi).1, by rw [cell_dck k (by omega) (by omega)]; exact (h2 i hi).2⟩⟩, ⟨M, by rw [cell_dck k (by omega) (by omega)]; exact hM⟩, Nat.lt_of_lt_of_le hs k.size⟩
def LnEnd (w : World) (pd : Nat) (K : Int) (P : Larder8.St (List Nat)) (e : Ending) (w' : World) : Prop := ∃ (ta : Option Addr) (tn tc : Nat), e = .returned (.tuple #[.agg #[.int .i64 K, .int .i64 0, .slice ta tn tc, .slice none 0 0], .int .i64 P.err]) ∧ Hid (DcK pd w w' ∧ ∀ t r, P = .ok t r → OwnB w' w.heap.size (.slice ta tn tc) t ∧ ∃ a' n' cp', DcAt w' pd a' n' cp' r)
theorem dline_end {W : World} {g : Nat} {v0 v1 v2 v3 : Value} (er : Int) (tmps : Array Value) (hg : W.heap[g]? = some (.cells #[v0, v1, v2, v3] 31 (0, 0))) (h2 : tmps.getD 4 undef = .pointer (some ⟨g, 0, none⟩)) (h3 : tmps.getD 5 undef = .int .i64 er) :
    (results Tryz.f66 tmps).run Tryz.prog W = .ok (.tuple #[.agg #[v0, v1, v2, v3], .int .i64 er]) W := by
  refine results_box (p := 4) (q := 5) (ty := 31) rfl tmps _ g 31 _ (0, 0) _ h2 hg Tryz.underlying31 rfl (by kernel_rfl) _ h3
theorem ln_out {w w5 w7 : World} {pd : Nat} {K : Int} {a6 : Option Addr} {n6 c6 : Nat} {t : List Nat} {P : Larder8.St Unit} (B5 : Bx w w5 pd) (B7 : Bx w w7 pd) (o7 : OwnB w7 w5.heap.size (.slice a6 n6 c6) t) (h7 : ∀ r, P = .ok () r → ∃ a' n' cp', DcAt w7 pd a' n' cp' r) :
    LnEnd w pd K (P.map (fun _ => t)) (.returned (.tuple #[.agg #[.int .i64 K, .int .i64 0, .slice a6 n6 c6, .slice none 0 0], .int .i64 P.err])) ((((w7.setCell ⟨w.heap.size, 0, none⟩ (.int .i64 K)).setCell ⟨w.heap.size, 1, none⟩ (.int .i64 0)).setCell ⟨w.heap.size, 2, none⟩ (.slice a6 n6 c6)).setCell ⟨w.heap.size, 3, none⟩ (.slice none 0 0)) := by
  have h5 : w.heap.size < w5.heap.size := block_lt B5.box
  refine ⟨a6, n6, c6, by cases P <;> rfl, hide ⟨DcK.boxed B7 _ _ _ _, fun t' r e => ?_⟩⟩
  cases P with
  | short => cases e
  | wrong => cases e
  | ok u r0 =>
    cases e
    obtain ⟨a', n', cp', h8⟩ := h7 _ rfl
    exact ⟨((((o7.set h5).set h5).set h5).set h5).mono (Nat.le_of_lt h5), a', n', cp', h8.boxed (by have := B7.lt; omega) (B7.apart h8) _ _ _ _⟩
/-- the text, after the decoder has gone behind it -/
theorem DcAt.text {w : World} {pd : Nat} {a : Option Addr} {n cp : Nat} {T : List Nat} (h : DcAt w pd a n cp T) (k : Nat) (v : Value) : Bytes (w.setCell ⟨pd, 0, none⟩ v) a (T.take k) := by
  rcases Bytes.first h.rst.bytes k with e | ⟨b, off, e, h1, h2⟩
  · exact .inl e
  · rcases Nat.eq_zero_or_pos n with q | q
    · have := h.rst.len
      exact .inl (by rw [List.eq_nil_of_length_eq_zero (l := T) (by omega)]; simp)
    · have hne := h.ap b off e q
      exact .inr ⟨b, off, e, by simpa using h1, fun i hi => by rw [← h2 i hi]; exact World.cell?_of_block (Bk.setCell_else w pd 0 b v hne)⟩
theorem ln_clone {w w3 : World} {pd b off n cp k : Nat} {T : List Nat} (B3 : Bx w w3 pd) (H3 : DcAt w3 pd (some ⟨b, off, none⟩) n cp T) (hk : k ≤ n) (hs : k ≤ 1024) (a' : Option Addr) (ha : a' = some ⟨b, off + k, none⟩ ∨ cp = k ∧ a' = some ⟨b, off, none⟩) :
    Calls Tryz.prog 88 #[.slice (some ⟨b, off, none⟩) k cp] (w3.setCell ⟨pd, 0, none⟩ (.slice a' (n - k) (cp - k))) fun e w' => ∃ a6 n6 c6, e = .returned (.slice a6 n6 c6) ∧ Hid (OwnB w' w3.heap.size (.slice a6 n6 c6) (T.take k) ∧ Bx w w' pd ∧ DcAt w' pd a' (n - k) (cp - k) (T.drop k)) := by
  have hl := H3.rst.len
  have hlen : (T.take k).length = k := by simp; omega
  have CL := clone_any (some ⟨b, off, none⟩) cp _ (T.take k) (by omega) (H3.text k (.slice a' (n - k) (cp - k)))
  rw [hlen] at CL
  refine CL.mono ?_
  rintro e w' ⟨v, rfl, o, kk⟩
  obtain ⟨a6, c6, rfl, -⟩ := o.shape
  exact ⟨a6, _, c6, rfl, hide ⟨by simpa using o, (B3.next DcK.put).next (DcK.below kk), (H3.move (Below.refl _ _) k a' hk ha).below kk⟩⟩
theorem ln_plain {T : List Nat} {k : Nat} (h : Larder8.lineT T = T.take k) (hk : k ≤ T.length) : Larder8.lineP T = (Larder8.endP (T.drop k)).map (fun _ => T.take k) := by
  unfold Larder8.lineP
  rw [h, List.length_take, Nat.min_eq_left hk]
theorem dline_any (w : World) (pd : Nat) (a : Option Addr) (n cp : Nat) (T : List Nat) (K : Int) (h : DcAt w pd a n cp T) (hU : UOk w) (hp : 2 < pd) :
    Calls Tryz.prog 66 #[.pointer (some ⟨pd, 0, none⟩), .int .i64 K] w (LnEnd w pd K (Larder8.lineP T)) := by
  obtain ⟨b, off, rfl, -⟩ := h.so
  have b1 := Bx.new w pd (block_lt h.box)
  have k1 : Below w.heap.size w (w.alloc (.cells #[.int .i64 0, .int .i64 0, .slice none 0 0, .slice none 0 0] 31)) := (Below.refl _ _).alloc (Nat.le_refl _) _
  have h1 := h.below k1
  have u1 := UOk.below _ _ hU k1
  obtain ⟨k0, hk0⟩ : ∃ k0, k0 = min n 1024 := ⟨_, rfl⟩
  have hlen := h.rst.len
  have hle := h.rst.le
  have hmn : min (n : Int) 1024 = (k0 : Int) := by omega
  have g0 : (0 : Int) ≤ (k0 : Int) := by omega
  have g1 : (k0 : Int) ≤ (cp : Int) := by omega
  have h20 : (T.take 1024).length = k0 := by simp; omega
  have hk1 : k0 ≤ n := by omega
  have hk2 : k0 ≤ 1024 := by omega
  have HN : Hid (n = T.length ∧ (T.take 1024).length = k0) := hide ⟨hlen, h20⟩
  clear k1 hlen h20 hk0
  go_enter Tryz.func66, Tryz.ntmps66
  go_wp2_with fail
  have B1 := hide b1
  have H1 := hide h1
  have U1 := hide u1
  have c1 := h1.cell0
  clear b1 h1 u1 hU h
  generalize w.alloc (.cells #[.int .i64 0, .int .i64 0, .slice none 0 0, .slice none 0 0] 31) = w1 at *
  go_region_held3 (fun w' => w'.cell? ⟨pd, 0, none⟩ = some (.slice (some ⟨b, off, none⟩) n cp)) (go_keep) (fail)
  go_wp2_with fail
  have D1 : Below w1.heap.size w1 w1.drew := (Below.refl _ _).drew
  have B2 := hide ((unhide B1).next (DcK.below D1))
  have H2 := hide ((unhide H1).below D1)
  have U2 := hide (UOk.below _ _ (unhide U1) D1)
  clear D1 B1 H1 U1 c1
  generalize w1.drew = w2 at *
  refine (indexeol_any w2 (some ⟨b, off, none⟩) cp k0 (T.take 1024) (unhide HN).2.symm (unhide U2) (Bytes.first (unhide H2).rst.bytes 1024) ((unhide H2).sm.take 1024) (by omega) (by omega)).mono ?_
  rintro e w3 ⟨r, rfl, hr, k3⟩
  have B3 := hide ((unhide B2).next (DcK.below k3))
  have H3 := hide ((unhide H2).below k3)
  clear B2 H2 k3
  have c3 := (unhide H3).cell0
  have f3 := (unhide H3).froz0
  have KEY : (r = -1 ∧ Hid (Larder8.lineT T = T.take k0)) ∨ ∃ i : Nat, r = (i : Int) ∧ i ≤ k0 ∧ Hid (Larder8.lineT T = T.take i) := by
    have hh := unhide hr
    rcases unhide hr with ⟨h1, h2⟩ | ⟨i, h1, h2, h3, h4⟩
    · refine .inl ⟨h2, hide ?_⟩
      subst h2
      rw [hh.no_line]
      have := (unhide HN).2
      rw [List.length_take] at this
      rw [← this, List.take_eq_take_iff]
      simp
    · refine .inr ⟨i, h1, ?_, hide ?_⟩
      · rw [(unhide HN).2] at h2; omega
      · subst h1
        have := hh.at_line
        rw [this.2, List.take_take]
        rw [(unhide HN).2] at h2
        rw [Nat.min_eq_left (by omega)]
  clear hr
  rcases KEY with ⟨rfl, HK⟩ | ⟨i, rfl, hi, HK⟩
  · have q2 : (k0 : Int) ≤ (n : Int) := by omega
    by_cases hcp : cp = k0
    · obtain rfl : n = cp := by omega
      subst hcp
      have CL := hide (ln_clone (unhide B3) (unhide H3) (k := n) (by omega) (by omega) (some ⟨b, off, none⟩) (.inr ⟨rfl, rfl⟩)); rw [Nat.sub_self] at CL
      have f4 : ∀ v, (w3.setCell ⟨pd, 0, none⟩ v).frozen? ⟨pd, 0, none⟩ = false := fun v => by rw [World.frozen?_setCell]; exact f3
      have EP := ln_plain (unhide HK) (by have := (unhide HN).1; omega)
      obtain ⟨P, hPP⟩ : ∃ P, P = Larder8.endP (T.drop n) := ⟨_, rfl⟩
      rw [← hPP] at EP
      have HPP := hide hPP
      have HE := hide EP
      clear hPP EP
      go_wp2_with (first
        | (go_at_call 88; with_reducible refine (unhide CL).mono ?_; rintro e w4 ⟨a6, n6, c6, rfl, o4⟩; have CE := hide (end_any _ pd _ _ _ _ (unhide o4).2.2); rw [← unhide HPP] at CE)
        | (go_at_call 89; with_reducible refine (unhide CE).mono ?_; rintro e w7 ⟨rfl, h7⟩; have B7 := hide ((unhide o4).2.1.next (unhide h7).1); have z0 := (unhide B7).cell 0 _ rfl; have z1 := (unhide B7).cell 1 _ rfl; have z2 := (unhide B7).cell 2 _ rfl; have z3 := (unhide B7).cell 3 _ rfl; have y0 := (unhide B7).froz 0; have y1 := (unhide B7).froz 1; have y2 := (unhide B7).froz 2; have y3 := (unhide B7).froz 3))
      refine bodyPost_ret (dline_end _ _ (store4 (unhide B7).box rfl _ _ _ _) rfl rfl) rfl ?_
      rw [unhide HE]
      exact ln_out (unhide B3) (unhide B7) ((unhide o4).1.dck (unhide h7).1 (by have := (unhide B3).lt; have := block_lt (unhide B3).box; omega)) (unhide h7).2
    · have hne : (cp = k0) = False := eq_false hcp
      clear hcp
      have CL := hide (ln_clone (unhide B3) (unhide H3) (k := k0) (by omega) (by omega) (some ⟨b, off + k0, none⟩) (.inl rfl))
      have f4 : ∀ v, (w3.setCell ⟨pd, 0, none⟩ v).frozen? ⟨pd, 0, none⟩ = false := fun v => by rw [World.frozen?_setCell]; exact f3
      have EP := ln_plain (unhide HK) (by have := (unhide HN).1; omega)
      obtain ⟨P, hPP⟩ : ∃ P, P = Larder8.endP (T.drop k0) := ⟨_, rfl⟩
      rw [← hPP] at EP
      have HPP := hide hPP
      have HE := hide EP
      clear hPP EP
      go_wp2_with (first
        | (go_at_call 88; with_reducible refine (unhide CL).mono ?_; rintro e w4 ⟨a6, n6, c6, rfl, o4⟩; have CE := hide (end_any _ pd _ _ _ _ (unhide o4).2.2); rw [← unhide HPP] at CE)
        | (go_at_call 89; with_reducible refine (unhide CE).mono ?_; rintro e w7 ⟨rfl, h7⟩; have B7 := hide ((unhide o4).2.1.next (unhide h7).1); have z0 := (unhide B7).cell 0 _ rfl; have z1 := (unhide B7).cell 1 _ rfl; have z2 := (unhide B7).cell 2 _ rfl; have z3 := (unhide B7).cell 3 _ rfl; have y0 := (unhide B7).froz 0; have y1 := (unhide B7).froz 1; have y2 := (unhide B7).froz 2; have y3 := (unhide B7).froz 3))
      refine bodyPost_ret (dline_end _ _ (store4 (unhide B7).box rfl _ _ _ _) rfl rfl) rfl ?_
      rw [unhide HE]
      exact ln_out (unhide B3) (unhide B7) ((unhide o4).1.dck (unhide h7).1 (by have := (unhide B3).lt; have := block_lt (unhide B3).box; omega)) (unhide h7).2
  · have q0 : (0 : Int) ≤ (i : Int) := by omega
    have q1 : (i : Int) ≤ (cp : Int) := by omega
    have q2 : (i : Int) ≤ (n : Int) := by omega
    by_cases hcp : cp = i
    · obtain rfl : n = cp := by omega
      subst hcp
      have CL := hide (ln_clone (unhide B3) (unhide H3) (k := n) (by omega) (by omega) (some ⟨b, off, none⟩) (.inr ⟨rfl, rfl⟩)); rw [Nat.sub_self] at CL
      have f4 : ∀ v, (w3.setCell ⟨pd, 0, none⟩ v).frozen? ⟨pd, 0, none⟩ = false := fun v => by rw [World.frozen?_setCell]; exact f3
      have EP := ln_plain (unhide HK) (by have := (unhide HN).1; omega)
      obtain ⟨P, hPP⟩ : ∃ P, P = Larder8.endP (T.drop n) := ⟨_, rfl⟩
      rw [← hPP] at EP
      have HPP := hide hPP
      have HE := hide EP
      clear hPP EP
      go_wp2_with (first
        | (go_at_call 88; with_reducible refine (unhide CL).mono ?_; rintro e w4 ⟨a6, n6, c6, rfl, o4⟩; have CE := hide (end_any _ pd _ _ _ _ (unhide o4).2.2); rw [← unhide HPP] at CE)
        | (go_at_call 89; with_reducible refine (unhide CE).mono ?_; rintro e w7 ⟨rfl, h7⟩; have B7 := hide ((unhide o4).2.1.next (unhide h7).1); have z0 := (unhide B7).cell 0 _ rfl; have z1 := (unhide B7).cell 1 _ rfl; have z2 := (unhide B7).cell 2 _ rfl; have z3 := (unhide B7).cell 3 _ rfl; have y0 := (unhide B7).froz 0; have y1 := (unhide B7).froz 1; have y2 := (unhide B7).froz 2; have y3 := (unhide B7).froz 3))
      refine bodyPost_ret (dline_end _ _ (store4 (unhide B7).box rfl _ _ _ _) rfl rfl) rfl ?_
      rw [unhide HE]
      exact ln_out (unhide B3) (unhide B7) ((unhide o4).1.dck (unhide h7).1 (by have := (unhide B3).lt; have := block_lt (unhide B3).box; omega)) (unhide h7).2
    · have hne : (cp = i) = False := eq_false hcp
      clear hcp
      have CL := hide (ln_clone (unhide B3) (unhide H3) (k := i) (by omega) (by omega) (some ⟨b, off + i, none⟩) (.inl rfl))
      have f4 : ∀ v, (w3.setCell ⟨pd, 0, none⟩ v).frozen? ⟨pd, 0, none⟩ = false := fun v => by rw [World.frozen?_setCell]; exact f3
      have EP := ln_plain (unhide HK) (by have := (unhide HN).1; omega)
      obtain ⟨P, hPP⟩ : ∃ P, P = Larder8.endP (T.drop i) := ⟨_, rfl⟩
      rw [← hPP] at EP
      have HPP := hide hPP
      have HE := hide EP
      clear hPP EP
      go_wp2_with (first
        | (go_at_call 88; with_reducible refine (unhide CL).mono ?_; rintro e w4 ⟨a6, n6, c6, rfl, o4⟩; have CE := hide (end_any _ pd _ _ _ _ (unhide o4).2.2); rw [← unhide HPP] at CE)
        | (go_at_call 89; with_reducible refine (unhide CE).mono ?_; rintro e w7 ⟨rfl, h7⟩; have B7 := hide ((unhide o4).2.1.next (unhide h7).1); have z0 := (unhide B7).cell 0 _ rfl; have z1 := (unhide B7).cell 1 _ rfl; have z2 := (unhide B7).cell 2 _ rfl; have z3 := (unhide B7).cell 3 _ rfl; have y0 := (unhide B7).froz 0; have y1 := (unhide B7).froz 1; have y2 := (unhide B7).froz 2; have y3 := (unhide B7).froz 3))
      refine bodyPost_ret (dline_end _ _ (store4 (unhide B7).box rfl _ _ _ _) rfl rfl) rfl ?_
      rw [unhide HE]
      exact ln_out (unhide B3) (unhide B7) ((unhide o4).1.dck (unhide h7).1 (by have := (unhide B3).lt; have := block_lt (unhide B3).box; omega)) (unhide h7).2
end Go.Proofs.YtecfgbjnjgjkoaaGreatDoor
namespace Go.Proofs.YtecfgbjnjgjkoaaGreatDoor
open Go.ChangeShapes Go.WideShapes Go.ChangeAt Go.RowKit
set_option linter.unusedVariables false
set_option linter.unusedSimpArgs false
set_option maxRecDepth 20000
set_option maxHeartbeats 4000000

def mkR {d : Nat} (k n : Int) (t : List Nat) (l : List (Tr d)) : Tr (d + 1) := (⟨k, n, t, l⟩ : Nd (Tr d))
/-- an array's number and what is in it; d: how deep the replies in it may be -/
def arrP {d : Nat} (f : List Nat → Larder8.St (Tr d)) (r : List Nat) : Larder8.St (Tr (d + 1)) :=
  match Larder8.numP (-1) (if d = 0 then -1 else 65536) r with
  | .short => .short
  | .wrong => .wrong
  | .ok n r' => if n = -1 then .ok (mkR 7 0 [] []) r' else (Larder8.listP f n.toNat r').map (fun l => (mkR 6 0 [] l))
/-- a reply of a depth below d; at the top d is 9 -/
def repP : (d : Nat) → List Nat → Larder8.St (Tr d)
  | 0, _ => .wrong
  | d + 1, [] => .short
  | d + 1, c :: r =>
    if c = 43 then (Larder8.lineP r).map (fun t => (mkR 1 0 t []))
    else if c = 45 then (Larder8.lineP r).map (fun t => (mkR 2 0 t []))
    else if c = 58 then (Larder8.numP (-9223372036854775808) 9223372036854775807 r).map (fun n => (mkR 3 n [] []))
    else if c = 36 then (Larder8.bulkP r).map (fun o => match o with | none => (mkR 5 0 [] []) | some t => (mkR 4 0 t []))
    else if c = 42 then arrP (repP d) r
    else .wrong
/-- a reply that lies in blocks of its own: those of S -/
def DrAt (w : World) : (d : Nat) → (Nat → Prop) → Tr d → Value → Value → Value → Value → Prop
  | 0, _, _, _, _, _, _ => False
  | d + 1, S, x, v0, v1, v2, v3 => v0 = .int .i64 x.nd.k ∧ v1 = .int .i64 x.nd.n ∧
      (OwnB w 0 v2 x.nd.t ∧ Small x.nd.t ∧ ∀ g, v2.ownBlock = some g → S g) ∧
      ∃ f : Nat → Value, Rws w 31 4 v3 x.nd.l.length f ∧ (∀ g, v3.ownBlock = some g → S g) ∧
      ∃ Q : Nat → Nat → Prop, (∀ i j b, Q i b → Q j b → i = j) ∧ (∀ i b, Q i b → S b ∧ v3.ownBlock ≠ some b ∧ v2.ownBlock ≠ some b) ∧
      ∀ i y, x.nd.l[i]? = some y → DrAt w d (Q i) y (f (i * 4)) (f (i * 4 + 1)) (f (i * 4 + 2)) (f (i * 4 + 3))
theorem DrAt.mono {w : World} : ∀ {d : Nat} {S S' : Nat → Prop} {x : Tr d} {v0 v1 v2 v3 : Value}, DrAt w d S x v0 v1 v2 v3 → (∀ b, S b → S' b) → DrAt w d S' x v0 v1 v2 v3
  | 0, _, _, _, _, _, _, _, h, _ => h
  | d + 1, S, S', x, v0, v1, v2, v3, ⟨h0, h1, ⟨h2, h3, h4⟩, f, h5, h6, Q, h8, h9, h7⟩, hs =>
    ⟨h0, h1, ⟨h2, h3, fun g hg => hs g (h4 g hg)⟩, f, h5, fun g hg => hs g (h6 g hg), Q, h8, fun i b hb => ⟨hs b (h9 i b hb).1, (h9 i b hb).2⟩, h7⟩
theorem OwnB.same {w w' : World} {base : Nat} {v : Value} {l : List Nat} (h : OwnB w base v l) (hs : ∀ g, v.ownBlock = some g → w'.heap[g]? = w.heap[g]?) : OwnB w' base v l := by
  refine ⟨h.1, ?_⟩
  rcases h.2 with hn | ⟨g', cap, cur, rfl, hbb, hg', rest⟩
  · exact .inl hn
  · exact .inr ⟨g', cap, cur, rfl, hbb, (hs g' (by simp [Value.ownBlock])).trans hg', rest⟩
theorem DrAt.same {w w' : World} : ∀ {d : Nat} {S : Nat → Prop} {x : Tr d} {v0 v1 v2 v3 : Value}, DrAt w d S x v0 v1 v2 v3 → (∀ b, S b → b < w.heap.size → w'.heap[b]? = w.heap[b]?) → DrAt w' d S x v0 v1 v2 v3
  | 0, _, _, _, _, _, _, h, _ => h
  | d + 1, S, x, v0, v1, v2, v3, ⟨h0, h1, ⟨h2, h3, h4⟩, f, h5, h6, Q, h8, h9, h7⟩, hs => by
    refine ⟨h0, h1, ⟨h2.same (fun g hg => hs g (h4 g hg) ?_), h3, h4⟩, f, h5.same (fun g hg => hs g (h6 g hg) ?_), h6, Q, h8, h9, fun i y hi => (h7 i y hi).same (fun b hb hlt => hs b (h9 i b hb).1 hlt)⟩
    · rcases h2.2 with ⟨rfl, -⟩ | ⟨g', cap, cur, rfl, hbb, hg', rest⟩
      · simp [Value.ownBlock] at hg
      · simp [Value.ownBlock] at hg
        subst hg
        exact block_lt hg'
    · rcases h5 with ⟨rfl, -⟩ | ⟨g', cap, cur, rfl, hg', rest⟩
      · simp [Value.ownBlock] at hg
      · simp [Value.ownBlock] at hg
        subst hg
        exact block_lt hg'
/-- the replies of a list, each in blocks of its own -/
def Els (w : World) (d : Nat) (S : Nat → Prop) (l : List (Tr d)) (f : Nat → Value) : Prop := ∃ Q : Nat → Nat → Prop, (∀ i j b, Q i b → Q j b → i = j) ∧ (∀ i b, Q i b → S b) ∧ ∀ i y, l[i]? = some y → DrAt w d (Q i) y (f (i * 4)) (f (i * 4 + 1)) (f (i * 4 + 2)) (f (i * 4 + 3))
theorem Els.nil (w : World) (d : Nat) (S : Nat → Prop) (f : Nat → Value) : Els w d S [] f := ⟨fun _ _ => False, fun _ _ _ h => h.elim, fun _ _ h => h.elim, fun i y hi => (by simp at hi)⟩
/-- one more, behind them -/
theorem Els.push {w w' : World} {d : Nat} {S S' : Nat → Prop} {l : List (Tr d)} {f f' : Nat → Value} {x : Tr d} (h : Els w d S l f) (B : Nat)
    (hl : ∀ i y (Q : Nat → Prop), l[i]? = some y → (∀ b, Q b → S b) → DrAt w d Q y (f (i * 4)) (f (i * 4 + 1)) (f (i * 4 + 2)) (f (i * 4 + 3)) → DrAt w' d (fun b => Q b ∧ b < B) y (f' (i * 4)) (f' (i * 4 + 1)) (f' (i * 4 + 2)) (f' (i * 4 + 3)))
    (hS : ∀ b, S b → b < B → S' b) (hx : DrAt w' d (fun b => B ≤ b ∧ S' b) x (f' (l.length * 4)) (f' (l.length * 4 + 1)) (f' (l.length * 4 + 2)) (f' (l.length * 4 + 3))) : Els w' d S' (l ++ [x]) f' := by
  obtain ⟨Q, h1, h2, h3⟩ := h
  refine ⟨fun i b => (i < l.length ∧ Q i b ∧ b < B) ∨ (i = l.length ∧ B ≤ b ∧ S' b), fun i j b hi hj => ?_, fun i b hi => ?_, fun i y hi => ?_⟩
  · rcases hi with ⟨p1, p2, p3⟩ | ⟨p1, p2, p3⟩ <;> rcases hj with ⟨q1, q2, q3⟩ | ⟨q1, q2, q3⟩
    · exact h1 i j b p2 q2
    · omega
    · omega
    · omega
  · rcases hi with ⟨p1, p2, p3⟩ | ⟨p1, p2, p3⟩
    · exact hS b (h2 i b p2) p3
    · exact p3
  · by_cases q : i < l.length
    · rw [List.getElem?_append_left q] at hi
      exact (hl i y (Q i) hi (h2 i) (h3 i y hi)).mono (fun b hb => .inl ⟨q, hb⟩)
    · have hi2 : i = l.length := by
        have := (List.getElem?_eq_some_iff.1 hi).1
        simp at this
        omega
      subst hi2
      rw [List.getElem?_append_right (Nat.le_refl _)] at hi
      simp at hi
      subst hi
      exact hx.mono (fun b hb => .inr ⟨rfl, hb⟩)
end Go.Proofs.YtecfgbjnjgjkoaaGreatDoor
