/- The document's Release. -/
import Derived.Test.YtfebiemfmiahhabMj
namespace Go.Proofs.Ytfebiemfmiahhab
open Go.ChangeShapes Go.WideShapes Go.ChangeAt Go.RowKit Go.Maps
set_option linter.unusedVariables false
set_option linter.unusedSimpArgs false
set_option maxRecDepth 100000
set_option maxHeartbeats 8000000
theorem ownsRow_zero {w : World} {base : Nat} {e : TypeId} {size : Nat} {v : Value} {n : Nat} {xs : List Value} (h : w.ownsRow base e size v n xs) : w.ownsRow 0 e size v n xs := by
  obtain ⟨h0, h1⟩ := h
  refine ⟨h0, h1.imp id ?_⟩
  rintro ⟨g, cap, cur, r1, hb, r⟩
  exact ⟨g, cap, cur, r1, Nat.zero_le _, r⟩
/-- what a call of the document's leaves -/
structure RStep (Q : Nat → Prop) (w w' : World) (p : Nat) (L' : List Wt) : Prop where
  ex : ∃ Q', RAt Q' w' p L' ∧ (∀ b, Q b → Q' b) ∧ ∀ b, Q' b → Q b ∨ w.heap.size ≤ b
  fr : Fr Q w w'
theorem rblock_any (Q : Nat → Prop) (w : World) (p : Nat) (L : List Wt) (c k : Int) (a : Option Addr) (n cap : Nat) (l : List Pl) (t : Nat) (h : RAt Q w p L) (hl : PlsAt w a l) (hn : n = l.length) (hll : n ≤ 9223372036854775807) (hok : ∀ x ∈ l, POk x)
    (hx : refW L c k l t = 0 → ∃ cn : Nat, c = (cn : Nat) ∧ WOk ⟨cn, k, l, t⟩ ∧ L.length < 8) :
    Calls Try.prog 13 #[.pointer (some ⟨p, 0, none⟩), .int .i64 c, .int .i64 k, .slice a n cap, .int .u64 (t : Nat)] w fun e w' => e = .returned (.int .i64 (refW L c k l t)) ∧ Hid (∃ L', RStep Q w w' p L' ∧ (refW L c k l t ≠ 0 → L' = L) ∧ ∀ cn : Nat, refW L c k l t = 0 → c = (cn : Nat) → L' = L ++ [⟨cn, k, l, t⟩]) := by
  by_cases hr : refW L c k l t = 0
  rotate_left
  · refine (rblock_no Q w p L c k a n cap l t h hl hn hll hok hr).mono ?_
    rintro e w' ⟨rfl, rfl⟩
    exact ⟨rfl, hide ⟨L, ⟨⟨Q, h, fun b hb => hb, fun b hb => .inl hb⟩, Fr.of (Below.refl _ _)⟩, fun _ => rfl, fun cn h0 => absurd h0 hr⟩⟩
  obtain ⟨cn, rfl, hw, h8⟩ := hx hr
  rw [hr]
  have C1 := find_any Q w p L (cn : Nat) h
  have C2 := bad_any w a cap l n hn hll hl hok
  obtain ⟨fi, hfi⟩ : ∃ fi, fi = findI L (cn : Nat) := ⟨_, rfl⟩
  have hf := (find_lt (L := L) (c := (cn : Nat))).2
  rw [← hfi] at C1 hf
  have hr' := hr
  unfold refW at hr'
  have hc8 := hw.conn
  simp only at hc8
  rw [if_neg (by omega)] at hr'
  cases hs : (lookW L (cn : Nat)).isSome with
  | true => rw [hs, if_pos rfl] at hr'; cases hr'
  | false =>
  rw [hs] at hf
  rw [hs, if_neg (by simp)] at hr'
  have hkk := hw.kind
  simp only at hkk
  rw [if_neg (by omega)] at hr'
  cases hB : badB l with
  | true => rw [hB, if_pos rfl] at hr'; cases hr'
  | false =>
  rw [hB] at C2
  have ht := hw.till
  simp only at ht
  have hm := hw.many
  simp only at hm
  obtain ⟨lv, D, hRA, hD⟩ := h
  obtain ⟨la, lc, rfl, -⟩ := own_shape hRA.own
  have few := hRA.few
  have hDL : D.length = L.length := by rw [← hD, List.length_map]
  have hpn : some p ≠ Value.ownBlock (.slice la D.length lc) := fun e => by
    obtain ⟨cur, hc⟩ := own_type hRA.own e.symm
    rw [hRA.cell] at hc
    injection hc with hc
    injection hc with _ ht
    exact absurd ht (by decide)
  refine (rblock_walk w p (cn : Nat) k a n cap t la D.length lc (D.flatMap dwC) fi (fun w' => ∃ Q', RAt Q' w' p (L ++ [⟨cn, k, l, t⟩]) ∧ (∀ b, Q b → Q' b) ∧ (∀ b, Q' b → Q b ∨ w.heap.size ≤ b) ∧ Fr Q w w') (decide_eq_false (by omega)) (decide_eq_false (by omega)) hf hkk (decide_eq_false (by omega)) few C1 C2 (hide ?_) (hide (cell_blk hRA.cell 0))).mono ?_
  · refine (copies_any w.drew a cap l n hn (by omega) (hl.below (Below.refl _ _).drew)).mono ?_
    rintro e w2 ⟨v, rfl, H⟩
    obtain ⟨ho, hb⟩ := unhide H
    obtain ⟨va, vc, rfl, -⟩ := own_shape ho
    have hb2 : Below w.heap.size w w2 := (Below.refl w.heap.size w).drew.trans hb
    have hpl : p < w.heap.size := blk_lt hRA.cell
    refine ⟨va, _, vc, rfl, hide ⟨(hb2.cell (p := ⟨p, 0, none⟩) hpl).trans (cell_blk hRA.cell 0), ownsRow_same hRA.own (fun g hg => hb2.block g (hRA.lt g (hRA.lq g hg))), Nat.lt_of_lt_of_le hpl hb2.size, hpn, ?_, fun v' w4 ho4 hg4 ha4 => ?_⟩⟩
    · rw [hb2.frozen (p := ⟨p, 0, none⟩) hpl]
      simp [World.frozen?, hRA.cell]
    · obtain ⟨w3, hw3⟩ : ∃ w3, w2.alloc (.cells #[.int .i64 ((cn : Nat) : Int), .int .i64 k, .slice va l.length vc, .int .u64 (t : Nat)] 78) = w3 := ⟨_, rfl⟩
      rw [hw3] at hg4
      have hb3 : Below w.heap.size w w3 := by rw [← hw3]; exact hb2.alloc hb2.size _
      have s3 : w3.heap.size = w2.heap.size + 1 := by rw [← hw3]; simp
      have hpv : w3.ownsRow 0 46 2 (.slice va l.length vc) l.length (l.flatMap plC) := by rw [← hw3]; exact World.ownsRow.alloc (ownsRow_zero ho) _
      have hge : ∀ g, Value.ownBlock (.slice va l.length vc) = some g → w.heap.size ≤ g := fun g hg => own_ge ho g hg
      have hL := RA.lay (D' := D ++ [⟨⟨cn, k, l, t⟩, .slice va l.length vc⟩]) (w4 := w4) (v' := v') hRA (fun b hb' hne => (hg4.block b (Nat.lt_of_lt_of_le hb' hb3.size) hne).trans (hb3.block b hb')) (hg4.os.trans hb3.os) (hg4.tape.trans hb3.tape) (hg4.output.trans hb3.output) (Nat.le_trans hb3.size hg4.size)
        (by rw [List.length_append, List.flatMap_append]; simpa [dwC] using ho4)
        (fun g hg => by
          rcases ha4 with h1 | h1
          · exact .inl (h1 ▸ hg)
          · rw [h1] at hg
            cases hg
            exact .inr (by have := hb2.size; omega))
        (fun d hd => by
          rcases List.mem_append.1 hd with hd | hd
          · exact .inl hd
          · obtain rfl := List.mem_singleton.1 hd
            refine .inr ⟨hpv.kept hg4 ?_, hge⟩
            by_cases hnn : Value.ownBlock (.slice va l.length vc) = none
            · exact .inl hnn
            · refine .inr fun e => ?_
              obtain ⟨g, hg⟩ := Option.ne_none_iff_exists'.1 hnn
              have h1 := hge g hg
              have h2 := hRA.lt g (hRA.lq g (by rw [← e]; exact hg))
              omega)
        (fun d hd => by
          rcases List.mem_append.1 hd with hd | hd
          · exact hRA.ok d hd
          · obtain rfl := List.mem_singleton.1 hd
            exact hw)
        (by rw [List.length_append]; simp; omega)
      refine ⟨_, ⟨v', _, hL.1, by rw [List.map_append, hD]; rfl⟩, fun b hb => .inl hb, fun b hb => hb.imp id (·.1), hL.2⟩
  · rintro e w' ⟨rfl, H⟩
    obtain ⟨Q', k1, k2, k3, k4⟩ := unhide H
    refine ⟨rfl, hide ⟨_, ⟨⟨Q', k1, k2, k3⟩, k4⟩, fun h0 => absurd rfl h0, fun cn' _ e => ?_⟩⟩
    obtain rfl : cn = cn' := by omega
    rfl
end Go.Proofs.Ytfebiemfmiahhab
namespace Go.Proofs.Ytfebiemfmiahhab
open Go.ChangeShapes Go.WideShapes Go.ChangeAt Go.RowKit Go.Maps
set_option linter.unusedVariables false
set_option linter.unusedSimpArgs false
set_option maxRecDepth 100000
set_option maxHeartbeats 8000000
def goneW (L : List Wt) (c : Int) : List Wt := L.filter (fun x => !decide ((x.conn : Int) = c))
theorem goneE_map (E : List En) (c : Int) : (goneE E c).map (·.x) = goneW (E.map (·.x)) c := by
  unfold goneE goneW
  rw [List.filter_map]
  rfl
theorem gone_erase : ∀ {L : List Wt} {c : Int} {i : Nat}, (L.map (·.conn)).Nodup → findW L c = some i → goneW L c = L.eraseIdx i
  | [], c, i, _, h => by simp [findW] at h
  | x :: r, c, i, hn, h => by
    rw [List.map_cons, List.nodup_cons] at hn
    unfold findW at h
    rw [List.findIdx?_cons] at h
    by_cases hc : (x.conn : Int) = c
    · rw [if_pos (decide_eq_true hc)] at h
      cases h
      unfold goneW
      rw [List.filter_cons, if_neg (by simp [hc]), List.eraseIdx_zero, List.tail_cons]
      refine List.filter_eq_self.2 fun y hy => ?_
      have : (y.conn : Int) ≠ c := fun e => hn.1 (List.mem_map.2 ⟨y, hy, by omega⟩)
      simp [this]
    · rw [if_neg (by simpa using hc)] at h
      obtain ⟨j, hj, rfl⟩ := Option.map_eq_some_iff.1 h
      have ih := gone_erase hn.2 hj
      unfold goneW at ih ⊢
      rw [List.filter_cons, if_pos (by simp [hc]), List.eraseIdx_cons_succ, ih]
theorem gone_self {L : List Wt} {c : Int} (h : findW L c = none) : goneW L c = L := by
  unfold goneW
  refine List.filter_eq_self.2 fun x hx => ?_
  have := List.findIdx?_eq_none_iff.1 h x hx
  simpa using this
theorem erase_step {α : Type} (D : List α) (at' i : Nat) (d : α) (hd : D[i]? = some d) : (D.take (i + 1)).eraseIdx at' = if i = at' then (D.take i).eraseIdx at' else (D.take i).eraseIdx at' ++ [d] := by
  have hi : i < D.length := (List.getElem?_eq_some_iff.1 hd).1
  have hl : (D.take i).length = i := by rw [List.length_take]; omega
  rw [List.take_add_one, hd]
  show (D.take i ++ [d]).eraseIdx at' = _
  by_cases h1 : i = at'
  · subst h1
    have e1 : (D.take i).eraseIdx i = D.take i := List.eraseIdx_of_length_le (by omega)
    rw [if_pos rfl, e1, List.eraseIdx_append_of_length_le (by omega), hl, Nat.sub_self]
    simp
  · rw [if_neg h1]
    by_cases h2 : at' < i
    · rw [List.eraseIdx_append_of_lt_length (by omega)]
    · have e1 : (D.take i).eraseIdx at' = D.take i := List.eraseIdx_of_length_le (by omega)
      rw [e1, List.eraseIdx_append_of_length_le (by omega), hl, List.eraseIdx_of_length_le (by simp; omega)]
theorem map_erase {α β : Type} (f : α → β) : ∀ (l : List α) (i : Nat), (l.eraseIdx i).map f = (l.map f).eraseIdx i
  | [], i => by simp
  | x :: r, 0 => by simp
  | x :: r, i + 1 => by simp [map_erase f r i]
theorem rrelease_any (Q : Nat → Prop) (w : World) (p : Nat) (L : List Wt) (c : Int) (h : RAt Q w p L) (hnd : (L.map (·.conn)).Nodup) :
    Calls Try.prog 31 #[.pointer (some ⟨p, 0, none⟩), .int .i64 c] w fun e w' => e = .returned (.bool (lookW L c).isSome) ∧ Hid (RStep Q w w' p (goneW L c)) := by
  have C := find_any Q w p L c h
  cases hf : findW L c with
  | none =>
    rw [find_nolook hf, gone_self hf]
    unfold findI at C
    rw [hf] at C
    have HH := hide h
    clear h hnd
    go_enter Try.func31, Try.ntmps31
    go_wp2_with (go_at_call 39; refine C.mono ?_; clear C; rintro e w1 ⟨rfl, rfl⟩)
    go_ret
    exact ⟨rfl, hide ⟨⟨Q, unhide HH, fun b hb => hb, fun b hb => .inl hb⟩, Fr.of (Below.refl _ _)⟩⟩
  | some at' =>
    obtain ⟨x, hx, hl, -⟩ := find_look hf
    rw [hl, gone_erase hnd hf]
    unfold findI at C
    rw [hf] at C
    obtain ⟨lv, D, h, hD⟩ := h
    obtain ⟨a, cap, rfl, -⟩ := own_shape h.own
    have few := h.few
    obtain ⟨n, hn⟩ : ∃ n, n = D.length := ⟨_, rfl⟩
    have hp := h.cell
    have HR : Hid (∀ i d, D[i]? = some d → ∃ b va vn vc, d.v = .slice va vn vc ∧ a = some ⟨b, 0, none⟩ ∧ ∀ wr, Below w.heap.size w wr → wr.cell? ⟨b, i * 4, none⟩ = some (.int .i64 (d.x.conn : Nat)) ∧ wr.cell? ⟨b, i * 4 + 1, none⟩ = some (.int .i64 d.x.kind) ∧ wr.cell? ⟨b, i * 4 + 2, none⟩ = some (.slice va vn vc) ∧ wr.cell? ⟨b, i * 4 + 3, none⟩ = some (.int .u64 (d.x.till : Nat))) := hide fun i d hd => by
      obtain ⟨b, cp, e, c0, c1, c2, c3⟩ := h.at hd
      cases e
      obtain ⟨va, vc, ev, -⟩ := own_shape (h.pl d (List.mem_of_getElem? hd)).own
      rw [ev] at c2
      have hbl : b < w.heap.size := h.lt b (h.lq b rfl)
      exact ⟨b, va, _, vc, ev, rfl, fun wr hb => ⟨(hb.cell (p := ⟨b, i * 4, none⟩) hbl).trans c0, (hb.cell (p := ⟨b, i * 4 + 1, none⟩) hbl).trans c1, (hb.cell (p := ⟨b, i * 4 + 2, none⟩) hbl).trans c2, (hb.cell (p := ⟨b, i * 4 + 3, none⟩) hbl).trans c3⟩⟩
    have HFR : Hid (∀ wr v', Below w.heap.size w wr → wr.ownsRow w.heap.size 78 4 v' (D.eraseIdx at').length ((D.eraseIdx at').flatMap dwC) → RStep Q w (wr.setCell ⟨p, 0, none⟩ v') p (L.eraseIdx at')) := hide fun wr v' hb ho => by
      have hL := RA.lay (D' := D.eraseIdx at') (w4 := wr) (v' := v') h (fun b hb' _ => hb.block b hb') hb.os hb.tape hb.output hb.size (ownsRow_zero ho) (fun g hg => .inr (own_ge ho g hg)) (fun d hd => .inl (List.mem_of_mem_eraseIdx hd)) (fun d hd => h.ok d (List.mem_of_mem_eraseIdx hd)) (Nat.le_trans (List.length_eraseIdx_le ..) h.few)
      exact ⟨⟨_, ⟨v', _, hL.1, by rw [← hD, map_erase]⟩, fun b hb => .inl hb, fun b hb => hb.imp id (·.1)⟩, hL.2⟩
    have HF : Hid (∀ wr, Below w.heap.size w wr → wr.cell? ⟨p, 0, none⟩ = some (.slice a n cap) ∧ wr.frozen? ⟨p, 0, none⟩ = false) := hide fun wr hb => by
      refine ⟨(hb.cell (p := ⟨p, 0, none⟩) (blk_lt hp)).trans ((cell_blk hp 0).trans (by rw [hn]; rfl)), ?_⟩
      rw [hb.frozen (p := ⟨p, 0, none⟩) (blk_lt hp)]
      simp [World.frozen?, hp]
    have hat8 : at' < 8 := by
      have := (List.getElem?_eq_some_iff.1 hx).1
      rw [← hD, List.length_map] at this
      omega
    rw [← hn] at few
    have HN := hide hn
    obtain ⟨i0, hi0, hzz⟩ := Option.map_eq_some_iff.1 info106
    simp only [Prod.mk.injEq] at hzz
    obtain ⟨hz0, hz1, hz2⟩ := hzz
    have c0 : w.cell? ⟨p, 0, none⟩ = some (.slice a n cap) := (unhide HF w (Below.refl _ _)).1
    have f0 : decide ((at' : Int) < 0) = false := decide_eq_false (by omega)
    clear hn hp h hD hx hl hf hnd
    go_enter Try.func31, Try.ntmps31
    go_wp2_with (go_at_call 39; refine C.mono ?_; clear C; rintro e w1 ⟨rfl, hww⟩; obtain rfl := hww.symm; clear hww)
    go_loopw [6, 7] (fun v iv wr => ∃ (i m : Nat), iv = .int .i64 ((i : Nat) : Int) ∧ i ≤ n ∧ m ≤ i ∧ Hid (m = ((D.take i).eraseIdx at').length ∧ wr.ownsRow w.heap.size 78 4 v m (((D.take i).eraseIdx at').flatMap dwC) ∧ Below w.heap.size w wr)) (fun _ iv _ => n - (intOf iv).toNat)
    case atStart => exact ⟨0, 0, rfl, Nat.zero_le _, Nat.zero_le _, hide ⟨by simp, ⟨by simp, .inl ⟨rfl, rfl⟩⟩, Below.refl _ _⟩⟩
    case round =>
      obtain ⟨i, m, rfl, hi, hmi, HO⟩ := hrel
      obtain ⟨cr, fr⟩ := unhide HF wr (unhide HO).2.2
      by_cases hin : i < n
      · have f1 : decide ((i : Int) < (n : Int)) = true := decide_eq_true (by omega)
        have g1 : (0 : Int) ≤ (i : Int) := by omega
        have g2 : (i : Int) < (n : Int) := by omega
        obtain ⟨d, hd⟩ : ∃ d, D[i]? = some d := ⟨_, List.getElem?_eq_getElem (by have := unhide HN; omega)⟩
        obtain ⟨b, va, vn, vc, ev, rfl, hcs⟩ := unhide HR i d hd
        obtain ⟨y0, y1, y2, y3⟩ := hcs wr (unhide HO).2.2
        have HST := hide (erase_step D at' i d hd)
        have HEV := hide ev
        clear hd hcs ev
        by_cases hia : i = at'
        · have f2 : ((i : Int) != (at' : Int)) = false := by rw [hia]; simp
          have HIA := hide hia
          clear hia
          go_wp2_with fail
          refine ⟨⟨i + 1, m, congrArg (Value.int .i64) (by omega), by omega, by omega, hide ?_⟩, by simp [intOf]; omega⟩
          rw [unhide HST, if_pos (unhide HIA)]
          exact unhide HO
        · have f2 : ((i : Int) != (at' : Int)) = true := by simp; omega
          have HIA := hide hia
          clear hia
          have hrw : (wr.alloc (.cells #[.int .i64 (d.x.conn : Nat), .int .i64 d.x.kind, .slice va vn vc, .int .u64 (d.x.till : Nat)] 78)).ownsRow w.heap.size 78 4 u6 m (((D.take i).eraseIdx at').flatMap dwC) := World.ownsRow.alloc (unhide HO).2.1 _
          have hsz : w.heap.size ≤ wr.heap.size := (unhide HO).2.2.size
          go_wp2_with (first
            | (at_builtin; refine wpList_append_own _ rfl _ _ 33 rfl _ 78 i0 _ 4 48 Try.underlying33 hi0 hz0 hz1 hz2 rfl (by decide) _ _ _ rfl hrw ⟨wr.heap.size, 0, none⟩ 1 1 [.int .i64 (d.x.conn : Nat), .int .i64 d.x.kind, .slice va vn vc, .int .u64 (d.x.till : Nat)] rfl rfl (cell_four_new _ _ _ _ _ _) (by simp [Value.oneCell']) (by unfold maxLen; omega) (by omega) (Nat.le_trans hsz (by simp)) ?_; intro v' w7 hown' hg7 hnil7; have H7 := hide (And.intro hown' hg7); clear hown' hg7 hnil7; go_frame))
          refine ⟨⟨i + 1, m + 1, congrArg (Value.int .i64) (by omega), by omega, by omega, hide ?_⟩, by simp [intOf]; omega⟩
          obtain ⟨k1, k2⟩ := unhide H7
          obtain ⟨k0, k3, k4⟩ := unhide HO
          rw [unhide HST, if_neg (unhide HIA)]
          refine ⟨by rw [List.length_append, ← k0]; rfl, ?_, below_grown (k4.alloc k4.size _) (Nat.le_refl _) k2 (own_ge k3)⟩
          rw [List.flatMap_append]
          simpa [dwC, unhide HEV] using k1
      · obtain rfl : i = n := by omega
        have f1 : decide ((i : Int) < (i : Int)) = false := decide_eq_false (by omega)
        obtain ⟨k0, k1, k2⟩ := unhide HO
        rw [unhide HN, List.take_length] at k0 k1
        obtain ⟨a', c', e', -⟩ := own_shape k1
        subst e'
        rw [k0] at k1
        have HE := hide (unhide HFR wr _ k2 (by rw [← k0]; rw [← k0] at k1; exact k1))
        clear k0 k1 k2 HFR
        go_wp2_with fail
        go_ret
        exact ⟨rfl, HE⟩
end Go.Proofs.Ytfebiemfmiahhab
