/- PostHears: what the loops stand on. -/
import Derived.Test.YtjmnddcombepaaaHpc
namespace Go.Proofs.Ytjmnddcombepaaa
open Go.ChangeShapes Go.WideShapes Go.ChangeAt Go.RowKit Go.Maps Go.Sort
set_option linter.unusedVariables false
set_option linter.unusedSimpArgs false
set_option maxRecDepth 100000
set_option maxHeartbeats 8000000
/-- the keys of a list of seats, as a Post holds them -/
def keysR (U : List Sv) : List Key := (U.map (·.1)).reverse
theorem OwnH.below' {w w' : World} {base : Nat} {v : Value} {l : List Hit} (h : OwnH w base v l) (hb : Below w.heap.size w w') : OwnH w' base v l := h.below hb
/-- the seats, the Post, the hits, the channel -/
structure Env (w W : World) (bx : Nat) (C : List UInt8) (ca : Option Addr) (ccap : Nat) (G : List UInt8 → List UInt8 → Bool) (va : Option Addr) (vn vc : Nat) (U : List Sv) (p : Nat) (ha : Option Addr) (hn hc : Nat) (H : List Hit) : Prop where
  bel : Below w.heap.size w W
  bxl : bx < W.heap.size
  c1 : W.cell? ⟨bx, 1, none⟩ = some (.slice ca C.length ccap)
  own : ∃ base, OwnV W base (.slice va vn vc) U
  vlen : vn = U.length
  nam : ∀ x ∈ U, Named W x
  unl : Unl U
  few : U.length ≤ 1000
  post : ∃ b D, PostAt W p b D (keysR U)
  hits : ∃ base, OwnH W base (.slice ha hn hc) H
  hH : H = hearL G (keysR U) C
  hlen : hn = H.length
  cC : Bytes W ca (nb C)
  c20 : C.length ≤ 1048576
section
variable {w W : World} {bx : Nat} {C : List UInt8} {ca : Option Addr} {ccap : Nat} {G : List UInt8 → List UInt8 → Bool} {va : Option Addr} {vn vc : Nat} {U : List Sv} {p : Nat} {ha : Option Addr} {hn hc : Nat} {H : List Hit}
theorem Env.below {W' : World} (h : Env w W bx C ca ccap G va vn vc U p ha hn hc H) (hb : Below W.heap.size W W') : Env w W' bx C ca ccap G va vn vc U p ha hn hc H := by
  obtain ⟨base, ho⟩ := h.own
  obtain ⟨b, D, hp⟩ := h.post
  obtain ⟨base2, hh⟩ := h.hits
  exact ⟨h.bel.trans (hb.mono h.bel.size), Nat.lt_of_lt_of_le h.bxl hb.size, (hb.cell (p := ⟨bx, 1, none⟩) h.bxl).trans h.c1, ⟨base, ho.below hb⟩, h.vlen, fun x hx => (h.nam x hx).below hb, h.unl, h.few, ⟨b, D, hp.below hb⟩, ⟨base2, hh.below hb⟩, h.hH, h.hlen, h.cC.below hb, h.c20⟩
theorem Env.draw (h : Env w W bx C ca ccap G va vn vc U p ha hn hc H) (m : Nat) : Env w (W.drewN m) bx C ca ccap G va vn vc U p ha hn hc H := h.below ⟨rfl, rfl, rfl, Nat.le_refl _, fun _ _ => rfl⟩
theorem Env.draw1 (h : Env w W bx C ca ccap G va vn vc U p ha hn hc H) : Env w W.drew bx C ca ccap G va vn vc U p ha hn hc H := h.below ⟨rfl, rfl, rfl, Nat.le_refl _, fun _ _ => rfl⟩
theorem Env.seat (h : Env w W bx C ca ccap G va vn vc U p ha hn hc H) {i : Nat} {x : Sv} (hx : U[i]? = some x) : ∃ g, va = some ⟨g, 0, none⟩ ∧ W.cell? ⟨g, i * 3, none⟩ = some (.int .i64 x.1.1) ∧ W.cell? ⟨g, i * 3 + 1, none⟩ = some (.slice x.2.1 x.1.2.1.length x.2.2) ∧ W.cell? ⟨g, i * 3 + 2, none⟩ = some (.bool x.1.2.2) := by
  obtain ⟨base, ho⟩ := h.own
  obtain ⟨g, e, -, -, c0, c1, c2⟩ := ho.cell hx
  exact ⟨g, e, c0, c1, c2⟩
theorem Env.hit (h : Env w W bx C ca ccap G va vn vc U p ha hn hc H) {i : Nat} {x : Hit} (hx : H[i]? = some x) : ∃ g, ha = some ⟨g, 0, none⟩ ∧ W.cell? ⟨g, i * 3, none⟩ = some (.int .i64 x.1) ∧ W.cell? ⟨g, i * 3 + 1, none⟩ = some (.bool x.2.1) ∧ W.cell? ⟨g, i * 3 + 2, none⟩ = some (.string (bs x.2.2)) := by
  obtain ⟨base, ho⟩ := h.hits
  obtain ⟨hi, hxe⟩ := List.getElem?_eq_some_iff.1 hx
  obtain ⟨g, e, -, c0, c1, c2⟩ := ho.cell hi
  have e2 : H.getD i (0, false, []) = x := by rw [List.getD_eq_getElem?_getD, hx]; rfl
  rw [e2] at c0 c1 c2
  exact ⟨g, e, c0, c1, c2⟩
theorem Env.ok (h : Env w W bx C ca ccap G va vn vc U p ha hn hc H) {x : Sv} (hx : x ∈ U) : (0 ≤ x.1.1 ∧ x.1.1 < 8) ∧ x.1.2.1.length ≤ 64 := h.unl.ok x hx
theorem Env.keys (h : Env w W bx C ca ccap G va vn vc U p ha hn hc H) : ∀ k ∈ keysR U, 0 ≤ k.1 ∧ k.1 < 8 := fun k hk => by
  unfold keysR at hk
  obtain ⟨x, hx, rfl⟩ := List.mem_map.1 (List.mem_reverse.1 hk)
  exact (h.ok hx).1
theorem Env.keyl (h : Env w W bx C ca ccap G va vn vc U p ha hn hc H) : ∀ k ∈ keysR U, k.2.1.length ≤ 4096 := fun k hk => by
  unfold keysR at hk
  obtain ⟨x, hx, rfl⟩ := List.mem_map.1 (List.mem_reverse.1 hk)
  have := (h.ok hx).2
  omega
theorem mem_keysR {U : List Sv} {k : Key} : k ∈ keysR U ↔ k ∈ U.map (·.1) := by unfold keysR; exact List.mem_reverse
/-- as many are heard as hits are told -/
theorem Env.count (h : Env w W bx C ca ccap G va vn vc U p ha hn hc H) : (U.filter (fun x => heardB G C x.1)).length = hn := by
  rw [h.hlen, h.hH, hearL_cnt h.keys h.unl.nodup (fun k => mem_keysR), List.filter_map, List.length_map]
  rfl
/-- what is heard is told -/
theorem Env.told (h : Env w W bx C ca ccap G va vn vc U p ha hn hc H) {x : Sv} (hx : x ∈ U) (hb : heardB G C x.1 = true) : H.any (fun y => decide (y = hitK x.1)) = true := by
  rw [List.any_eq_true]
  refine ⟨hitK x.1, ?_, decide_eq_true rfl⟩
  rw [h.hH]
  exact (mem_hearL h.keys).2 ⟨mem_keysR.2 (List.mem_map_of_mem hx), hb⟩
theorem Env.inc (h : Env w W bx C ca ccap G va vn vc U p ha hn hc H) {i : Nat} {x y : Hit} (hx : H[i]? = some x) (hy : H[i + 1]? = some y) : ltH x y := by
  have := hearL_inc G (keysR U) C
  rw [← h.hH] at this
  obtain ⟨a1, b1⟩ := List.getElem?_eq_some_iff.1 hx
  obtain ⟨a2, b2⟩ := List.getElem?_eq_some_iff.1 hy
  have := List.pairwise_iff_getElem.1 this i (i + 1) a1 a2 (by omega)
  rw [b1, b2] at this
  exact this
theorem Env.hears (hG : GlobIs G) (h : Env w W bx C ca ccap G va vn vc U p ha hn hc H) {x : Sv} (hx : x ∈ U) :
    Calls Try.prog 19 #[.agg #[.int .i64 x.1.1, .slice x.2.1 x.1.2.1.length x.2.2, .bool x.1.2.2], .string (bs C)] W fun e w' => e = .returned (.bool (heardB G C x.1)) ∧ Hid (Env w w' bx C ca ccap G va vn vc U p ha hn hc H) := by
  refine (hears_any G hG W x C (h.nam x hx) (by have := (h.ok hx).2; omega) (by have := h.c20; omega)).mono ?_
  rintro e w' ⟨rfl, H⟩
  exact ⟨rfl, hide (h.below (unhide H))⟩
/-- texts in memory -/
def TlAt (W : World) (ta : Option Addr) (tn tc : Nat) (L : List (List UInt8)) : Prop := (∃ base, OwnS W base (.slice ta tn tc) L) ∧ tn = L.length
theorem TlAt.below {W W' : World} {ta : Option Addr} {tn tc : Nat} {L : List (List UInt8)} (h : TlAt W ta tn tc L) (hb : Below W.heap.size W W') : TlAt W' ta tn tc L := by
  obtain ⟨⟨base, h1⟩, h2⟩ := h
  exact ⟨⟨base, h1.below hb⟩, h2⟩
theorem TlAt.at {W : World} {ta : Option Addr} {tn tc : Nat} {L : List (List UInt8)} (h : TlAt W ta tn tc L) {i : Nat} {T : List UInt8} (hT : L[i]? = some T) : ∃ g, ta = some ⟨g, 0, none⟩ ∧ W.cell? ⟨g, i, none⟩ = some (.string (bs T)) := by
  obtain ⟨⟨base, h1⟩, h2⟩ := h
  obtain ⟨hi, he⟩ := List.getElem?_eq_some_iff.1 hT
  obtain ⟨g, e, -, -, c⟩ := h1.cell hi
  have e2 : L.getD i [] = T := by rw [List.getD_eq_getElem?_getD, hT]; rfl
  rw [e2] at c
  exact ⟨g, e, c⟩
theorem Env.channels (hG : GlobIs G) (h : Env w W bx C ca ccap G va vn vc U p ha hn hc H) :
    Calls Try.prog 21 #[.pointer (some ⟨p, 0, none⟩), .string (bs C)] W fun e w' => ∃ ta tn tc, e = .returned (.slice ta tn tc) ∧ Hid (Env w w' bx C ca ccap G va vn vc U p ha hn hc H ∧ TlAt w' ta tn tc (chanL G (keysR U) C)) := by
  obtain ⟨b, D, hp⟩ := h.post
  have hfew : (keysR U).length ≤ 1099511627776 := by
    have := h.few
    unfold keysR
    rw [List.length_reverse, List.length_map]
    omega
  refine (channels_any G hG W p b D (keysR U) C hp hfew h.keyl (by have := h.c20; omega)).mono ?_
  rintro e w' ⟨ta, tn, tc, rfl, k⟩
  obtain ⟨k1, k2, k3⟩ := unhide k
  exact ⟨ta, tn, tc, rfl, hide ⟨h.below k2, ⟨_, k1⟩, k3⟩⟩
theorem Env.listeners (h : Env w W bx C ca ccap G va vn vc U p ha hn hc H) {T : List UInt8} (hT : T ∈ chanL G (keysR U) C) :
    Calls Try.prog 16 #[.pointer (some ⟨p, 0, none⟩), .string (bs T)] W fun e w' => ∃ q : Nat, e = .returned (.int .i64 (q : Nat)) ∧ 1 ≤ q ∧ q ≤ 1000 ∧ Hid (Below W.heap.size W w') := by
  obtain ⟨b, D, hp⟩ := h.post
  have hfew : (keysR U).length ≤ 1000 := by
    have := h.few
    unfold keysR
    rw [List.length_reverse, List.length_map]
    exact this
  obtain ⟨⟨c, hc⟩, -⟩ := mem_chanL.1 hT
  have hTl : T.length ≤ 4096 := h.keyl _ hc
  refine (listeners_any W p b D (keysR U) T hp (by omega) (by omega)).mono ?_
  rintro e w' ⟨rfl, k⟩
  refine ⟨_, rfl, ?_, Nat.le_trans (cntT_le _ _) hfew, k⟩
  unfold cntT
  exact List.length_pos_iff.2 (List.ne_nil_of_mem (List.mem_filter.2 ⟨hc, decide_eq_true rfl⟩))
theorem Env.chan_few (h : Env w W bx C ca ccap G va vn vc U p ha hn hc H) : (chanL G (keysR U) C).length ≤ 1000 := by
  have h1 : (chanL G (keysR U) C).length ≤ (keysR U).length := Nat.le_trans (List.length_filter_le _ _) (textsL_len _ _)
  have h2 : (keysR U).length ≤ 1000 := by
    have := h.few
    unfold keysR
    rw [List.length_reverse, List.length_map]
    exact this
  omega
theorem Env.chan_len (h : Env w W bx C ca ccap G va vn vc U p ha hn hc H) {T : List UInt8} (hT : T ∈ chanL G (keysR U) C) : T.length ≤ 4096 := by
  obtain ⟨⟨c, hc⟩, -⟩ := mem_chanL.1 hT
  exact h.keyl _ hc
theorem chan_less {G : List UInt8 → List UInt8 → Bool} {S : List Key} {P : List UInt8} {i : Nat} {x y : List UInt8} (hx : (chanL G S P)[i]? = some x) (hy : (chanL G S P)[i + 1]? = some y) : Op.bytesLess x y = true := by
  obtain ⟨a1, b1⟩ := List.getElem?_eq_some_iff.1 hx
  obtain ⟨a2, b2⟩ := List.getElem?_eq_some_iff.1 hy
  have := List.pairwise_iff_getElem.1 (chanL_inc G S P) i (i + 1) a1 a2 (by omega)
  rw [b1, b2] at this
  rw [bytesLess_eq]
  exact decide_eq_true this
theorem Env.chan_in (h : Env w W bx C ca ccap G va vn vc U p ha hn hc H) {x : Sv} (hx : x ∈ U) (hp : x.1.2.2 = false) (hg : G C x.1.2.1 = true) : (chanL G (keysR U) C).any (fun T => decide (T = x.1.2.1)) = true := by
  rw [List.any_eq_true]
  refine ⟨x.1.2.1, mem_chanL.2 ⟨⟨x.1.1, mem_keysR.2 ?_⟩, hg⟩, decide_eq_true rfl⟩
  have e : ((x.1.1, x.1.2.1, false) : Key) = x.1 := by rw [← hp]
  rw [e]
  exact List.mem_map_of_mem hx
end
end Go.Proofs.Ytjmnddcombepaaa
