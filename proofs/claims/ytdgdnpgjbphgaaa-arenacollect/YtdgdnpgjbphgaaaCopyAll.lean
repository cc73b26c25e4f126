/- copyAll. -/
import Derived.Test.YtdgdnpgjbphgaaaCopyStep
import Derived.Test.YtdgdnpgjbphgaaaReached
namespace Go.Proofs.Ytdgdnpgjbphgaaa
open Go.ChangeShapes Go.WideShapes Go.ChangeAt Go.RowKit
set_option linter.unusedVariables false
set_option maxRecDepth 100000
set_option maxHeartbeats 8000000

theorem copyAll_any (aS aE aR : Option Addr) (nS cS nE cE cR : Nat) (E : List (List Int)) (R0 : List Int) (aL : Option Addr) (cL ga ca : Nat) (L : List (Nat × Nat × Nat)) (p bw bh p' bw' bh' N : Nat) (wsa wsb : List Nat) (hsa hsb : List Bool) (sn : List Bool) (w : World) (hg : Good L) (hpos : 0 < L.length) (hl : L.length ≤ 4000) (hR : ∀ w', But [bw, p', bw', bh'] w w' → Nums w' aR R0) (hRl : R0.length ≤ 9223372036854775807) (hat : ∀ j, j < L.length → w.cell? ⟨ga, j, none⟩ = some (.int .i64 (place L j : Nat))) (hga : ga ∉ [bw, p', bw', bh']) (hgal : ga < w.heap.size)
    (h1 : p ∉ [p', bh', bw']) (h2 : bw ∉ [p', bh', bw']) (h3 : bh ∉ [p', bh', bw']) (hsn : ∀ j, sn.getD j false = true ↔ Live L E (rootsOf R0 L.length) j)
    (hc : Cop w w p bw bh p' bw' bh' L E (rootsOf R0 L.length) N hsa [] 0 0 wsa wsb hsb) :
    Calls Try.prog 29 #[.agg #[.slice aS nS cS, .slice aE nE cE, .slice aR R0.length cR], .slice aL L.length cL, .pointer (some ⟨p, 0, none⟩), .slice (some ⟨ga, 0, none⟩) L.length ca, .pointer (some ⟨p', 0, none⟩)] w fun e w' =>
      (∃ Q wsa' wsb' hsb', e = .returned (.int .i64 0) ∧ Cop w w' p bw bh p' bw' bh' L E (rootsOf R0 L.length) N hsa Q Q.length 0 wsa' wsb' hsb' ∧ ∀ j ∈ rootsOf R0 L.length, j ∈ Q) ∨
      (e = .returned (.int .i64 22) ∧ N < 1 + wsum L sn L.length ∧ But [bw, p', bw', bh'] w w') := by
  obtain ⟨W, hW⟩ : ∃ W, W = w.alloc (.cells #[.slice aS nS cS, .slice aE nE cE, .slice aR R0.length cR] 78) := ⟨_, rfl⟩
  have hWb : W.heap[w.heap.size]? = some (.cells #[.slice aS nS cS, .slice aE nE cE, .slice aR R0.length cR] 78 (0, 0)) := by rw [hW]; exact heap_alloc_new w _
  have hWs : W.heap.size = w.heap.size + 1 := by rw [hW]; simp
  have hb0 : Below w.heap.size w W := by rw [hW]; exact (Below.refl w.heap.size w).alloc (Nat.le_refl _) _
  have hcW := hc.below hb0
  have lw := hc.a.lw
  have lp' := hc.b.lp
  have lw' := hc.b.lw
  have lh' := hc.b.lh
  have HFC : Hid (∀ w', But [bw, p', bw', bh'] W w' → (w'.cell? ⟨w.heap.size, 0, none⟩ = some (.slice aS nS cS) ∧ w'.cell? ⟨w.heap.size, 1, none⟩ = some (.slice aE nE cE) ∧ w'.cell? ⟨w.heap.size, 2, none⟩ = some (.slice aR R0.length cR)) ∧ (∀ j, j < L.length → w'.cell? ⟨ga, j, none⟩ = some (.int .i64 (place L j : Nat))) ∧ Nums w' aR R0 ∧ But [bw, p', bw', bh'] w w') := hide (fun w' h => by
    have hbb : But [bw, p', bw', bh'] w w' := (But.of_below hb0).trans h
    have hn : w.heap.size ∉ [bw, p', bw', bh'] := by simp; omega
    have hh := (h.block w.heap.size (by omega) hn).trans hWb
    exact ⟨⟨by simp [World.cell?, hh], by simp [World.cell?, hh], by simp [World.cell?, hh]⟩, fun j hj => (hbb.cell (q := ⟨ga, j, none⟩) hgal hga).trans (hat j hj), hR w' hbb, hbb⟩)
  have HC0 : Hid (Cop W W p bw bh p' bw' bh' L E (rootsOf R0 L.length) N hsa [] 0 0 wsa wsb hsb) := hide ⟨hcW.a, hcW.alen, hcW.fr, hcW.b, hcW.blen, hcW.into, hcW.shut, hcW.mem, hcW.nd, hcW.sc1, hcW.sc2, But.refl _ _⟩
  have HWE := hide hW
  have HG := hide hg
  have HSN := hide hsn
  have H1 := hide h1
  have H2 := hide h2
  have H3 := hide h3
  clear hW hWb hb0 hcW hc hR hat hga hg hsn h1 h2 h3 lw lp' lw' lh' hWs
  go_enter Try.func29, Try.ntmps29
  go_upto_region 1 with fail
  rw [← unhide HWE]
  clear HWE
  go_wp2_with fail
  go_loopw [11] (fun i wq => ∃ (k : Nat) (Q : List Nat) (wsa wsb : List Nat) (hsb : List Bool), k ≤ R0.length ∧ i = .int .i64 k ∧ Cop W wq p bw bh p' bw' bh' L E (rootsOf R0 L.length) N hsa Q 0 0 wsa wsb hsb ∧ ∀ j ∈ (rootsOf R0 L.length).take k, j ∈ Q) (fun i _ => R0.length - (intOf i).toNat)
  case atStart => exact ⟨0, [], wsa, wsb, hsb, by omega, rfl, unhide HC0, by simp⟩
  case round =>
    obtain ⟨k, Q, wsa1, wsb1, hsb1, hk, rfl, hcop, hroots⟩ := hrel
    rename World => wq
    obtain ⟨⟨g0, g1, g2⟩, hat, hnum, _⟩ := unhide HFC wq hcop.but
    by_cases hlt : k < R0.length
    · rcases hnum with h | ⟨b, off, rfl, hb, hcc⟩
      · rw [h] at hlt; simp at hlt
      have ck := hcc k hlt
      have hnx := rootsOf_next R0 L.length k hlt
      obtain ⟨q, hq⟩ : ∃ q, q = (R0.getD k 0 % (L.length : Int)).toNat := ⟨_, rfl⟩
      rw [← hq] at hnx
      have hqr : q ∈ rootsOf R0 L.length := by
        have : q ∈ (rootsOf R0 L.length).take (k + 1) := by rw [hnx]; simp
        exact List.mem_of_mem_take this
      have hql := rootsOf_lt R0 L.length hpos q hqr
      have HWI := hide (within_any (R0.getD k 0) L.length hpos (by omega) wq)
      rw [← hq] at HWI
      have HNX := hide hnx
      generalize R0.getD k 0 = z at *
      have f1 : decide ((k : Int) < (R0.length : Int)) = true := decide_eq_true (by omega)
      have f1' : decide (k < R0.length) = true := decide_eq_true hlt
      have y0 : (0 : Int) ≤ (k : Int) := by omega
      have y1 : (k : Int) < (R0.length : Int) := by omega
      have y2 : (0 : Int) ≤ (q : Int) := by omega
      have y3 : (q : Int) < (L.length : Int) := by omega
      have cq := hat q hql
      have HTK := hide (cop_take hcop (unhide HG) (unhide H1) (unhide H2) (unhide H3) q hql (Live.root hqr))
      have HCP := hide hcop
      have HRT := hide hroots
      clear hcc hnx hq hcop hat hroots
      go_wp2_with fail
      refine (unhide HWI).mono ?_
      rintro e w' ⟨rfl, hw'⟩
      obtain rfl := hw'.symm
      go_wp2_with fail
      refine (unhide HTK).mono ?_
      rintro e w7 (⟨Q', wsa', wsb', hsb', rfl, hc7, hq7, hQ⟩ | ⟨hnq, hfull, rfl, hb7⟩)
      · have HEN : Hid (Cop W w7 p bw bh p' bw' bh' L E (rootsOf R0 L.length) N hsa Q' 0 0 wsa' wsb' hsb' ∧ ∀ j ∈ (rootsOf R0 L.length).take (k + 1), j ∈ Q') := hide ⟨hc7, fun j hj => by
          rw [unhide HNX] at hj
          have hsub : ∀ j ∈ Q, j ∈ Q' := by
            rcases hQ with rfl | rfl
            · exact fun j h => h
            · exact fun j h => List.mem_append_left _ h
          rcases List.mem_append.1 hj with h | h
          · exact hsub j (unhide HRT j h)
          · rw [List.mem_singleton] at h; subst h; exact hq7⟩
        clear hc7 hQ
        go_wp2_with (go_at_call 13; refine (num_any _ _).mono ?_; rintro e w' ⟨rfl, hw'⟩; obtain rfl := hw'.symm)
        go_roundw
        case rel => exact ⟨k + 1, Q', wsa', wsb', hsb', by omega, by go_num, (unhide HEN).1, (unhide HEN).2⟩
        case measure => simp [intOf]; omega
      · have HEN : Hid (N < 1 + wsum L sn L.length ∧ But [bw, p', bw', bh'] w w7) := hide ⟨Cop.full (unhide HCP) sn (unhide HSN) q hql (Live.root hqr) hnq hfull, ((unhide HFC _ (unhide HCP).but).2.2.2).trans (But.of_below hb7)⟩
        clear hfull hb7
        go_wp2_with (go_at_call 13; refine (num_any _ _).mono ?_; rintro e w' ⟨rfl, hw'⟩; obtain rfl := hw'.symm)
        go_ret
        exact .inr ⟨rfl, unhide HEN⟩
    · have f1 : decide ((k : Int) < (R0.length : Int)) = false := decide_eq_false (by omega)
      have f1' : decide (k < R0.length) = false := decide_eq_false hlt
      have hke : k = R0.length := by omega
      subst hke
      have hrl := rootsOf_length R0 L.length
      rw [List.take_of_length_le (by omega)] at hroots
      have HC1 := hide hcop
      have HRT := hide hroots
      clear hcop hroots hat hnum
      go_wp2_with fail
      go_loopw [14] (fun s wq => ∃ (sc : Nat) (Q : List Nat) (wsa wsb : List Nat) (hsb : List Bool), s = .int .i64 (spot L Q sc : Nat) ∧ Cop W wq p bw bh p' bw' bh' L E (rootsOf R0 L.length) N hsa Q sc 0 wsa wsb hsb ∧ ∀ j ∈ rootsOf R0 L.length, j ∈ Q) (fun s _ => N - (intOf s).toNat)
      case atStart => exact ⟨0, Q, wsa1, wsb1, hsb1, rfl, unhide HC1, unhide HRT⟩
      case round =>
        clear HC1 HRT
        obtain ⟨sc, Q2, wsa2, wsb2, hsb2, rfl, hcop, hroots⟩ := hrel
        rename World => wz
        have HUS := hide (used_any wz hcop.b)
        have hu2 := hcop.b.u2
        have hbl := hcop.blen
        have hsz := hcop.b.sz
        have HC2 := hide hcop
        have HR2 := hide hroots
        have hsc2 := hcop.sc2
        by_cases hsc : sc < Q2.length
        · obtain ⟨hxl, hxv⟩ := hcop.mem _ (getD_mem Q2 sc hsc)
          have hsl := spot_le L Q2 hsc hsc
          have hgx := unhide HG _ hxl
          have HOB := hide (fun w' (hb : Below wz.heap.size wz w') => (hcop.below hb).object (unhide HG) sc hsc)
          have HX : Hid (Q2.getD sc 0 = Q2.getD sc 0) := hide rfl
          obtain ⟨x, hx⟩ : ∃ x, x = Q2.getD sc 0 := ⟨_, rfl⟩
          rw [← hx] at hxl hxv hsl hgx HOB
          obtain ⟨S, hS⟩ : ∃ S, S = spot L Q2 sc := ⟨_, rfl⟩
          rw [← hS] at hsl HOB ⊢
          have hrf : refsOf L x ≤ 24 := hgx.2.2.1
          have hrw : (L.getD x (0, 0, 0)).2.2 ≤ 24 := hgx.2.2.2
          have hfl : fldsOf L x = refsOf L x + (L.getD x (0, 0, 0)).2.2 := rfl
          rw [hfl] at hsl
          have HFL := hide hfl
          have HXE := hide hx.symm
          have HSE := hide hS.symm
          rw [show (L.getD x (0, 0, 0)).2.1 = refsOf L x from rfl] at HOB
          generalize hsr : (L.getD x (0, 0, 0)).2.2 = sr at *
          generalize hkd : (L.getD x (0, 0, 0)).1 = kd at *
          generalize hus : spot L Q2 Q2.length = us at *
          have f1 : decide ((S : Int) < (us : Int)) = true := decide_eq_true (by omega)
          have f1' : decide (S < us) = true := decide_eq_true (by omega)
          clear hcop hroots hgx hx hS hsr hkd hus HX hfl
          go_wp2_with fail
          refine (unhide HUS).mono ?_
          rintro e w' ⟨rfl, hw'⟩
          obtain rfl := hw'.symm
          go_wp2_with fail
          refine (unhide HOB _ (Below.refl _ _)).mono ?_
          rintro e w8 ⟨rfl, hb8⟩
          have HC8 := hide ((unhide HC2).below hb8)
          clear hb8 HUS HOB HC2
          go_wp2_with (go_at_call 13; refine (num_any _ _).mono ?_; rintro e w' ⟨rfl, hw'⟩; obtain rfl := hw'.symm)
          go_loopw [19] (fun k wy => ∃ (c : Nat) (Q : List Nat) (wsa wsb : List Nat) (hsb : List Bool), k = .int .i64 c ∧ c ≤ refsOf L x ∧ Cop W wy p bw bh p' bw' bh' L E (rootsOf R0 L.length) N hsa Q sc c wsa wsb hsb ∧ sc < Q.length ∧ Q.getD sc 0 = x ∧ spot L Q sc = S ∧ ∀ j ∈ rootsOf R0 L.length, j ∈ Q) (fun k _ => refsOf L x - (intOf k).toNat)
          case atStart => exact ⟨0, Q2, wsa2, wsb2, hsb2, rfl, by omega, unhide HC8, hsc, unhide HXE, unhide HSE, unhide HR2⟩
          case round =>
            clear HC8 HXE HSE HR2
            obtain ⟨c, Q3, wsa3, wsb3, hsb3, rfl, hcr, hc3, hsc3, hx3, hS3, hr3⟩ := hrel
            rename World => wy
            have HC3 := hide hc3
            have HX3 := hide hx3
            have HS3 := hide hS3
            have HR3 := hide hr3
            have hu3 := hc3.b.u2
            have hbl3 := hc3.blen
            have hsz3 := hc3.b.sz
            by_cases hlt : c < refsOf L x
            · have f2 : decide ((c : Int) < (refsOf L x : Int)) = true := decide_eq_true (by omega)
              have f2' : decide (c < refsOf L x) = true := decide_eq_true hlt
              have HGT := hc3.get (unhide HG) sc c hsc3 (by rw [hx3, unhide HFL]; omega)
              have hval : copyField L E Q3 sc c sc c = refTo L (edgeN E L.length x c) := by
                unfold copyField
                rw [hx3, if_pos hlt, if_neg (by omega)]
              rw [hval, hS3] at HGT
              cases hen : edgeN E L.length x c with
              | none =>
                rw [hen] at HGT
                rw [show refTo L none = 0 from rfl] at HGT
                have HG3 := hide HGT
                have HEN := hide (fun w' hb => Cop.skip (w' := w') (unhide HC3) hb hsc3 (by rw [unhide HX3]; exact hen))
                clear hc3 hx3 hS3 hr3 hval HGT hen
                go_wp2_with fail
                refine (unhide HG3).mono ?_
                rintro e w9 ⟨rfl, hb9⟩
                have HE9 := hide (unhide HEN _ hb9)
                clear hb9 HEN HG3
                go_wp2_with (go_at_call 13; refine (num_any _ _).mono ?_; rintro e w' ⟨rfl, hw'⟩; obtain rfl := hw'.symm)
                go_roundw
                case rel => exact ⟨c + 1, Q3, wsa3, wsb3, hsb3, by go_num, by omega, unhide HE9, hsc3, unhide HX3, unhide HS3, unhide HR3⟩
                case measure => simp [intOf]; omega
              | some t =>
                rw [hen] at HGT
                rw [show refTo L (some t) = place L t from rfl] at HGT
                have ht := edgeN_lt hen
                have hlv : Live L E (rootsOf R0 L.length) t := Live.step hxv ⟨c, hlt, hen⟩
                have hpt := place_bound (unhide HG) t (by omega)
                have hpp := place_pos L t
                have HTK := hide (fun w' hb => cop_take (w := w') ((unhide HC3).below hb) (unhide HG) (unhide H1) (unhide H2) (unhide H3) t ht hlv)
                have HFU := hide (fun hnq hfull => Cop.full (unhide HC3) sn (unhide HSN) t ht hlv hnq hfull)
                have HBU := hide ((unhide HFC _ (unhide HC3).but).2.2.2)
                have HEG := hide hen
                have HG3 := hide HGT
                generalize place L t = pt at *
                have f3 : ((pt : Int) == 0) = false := by rw [beq_eq_false_iff_ne]; omega
                have f3' : (pt == 0) = false := by rw [beq_eq_false_iff_ne]; omega
                clear hc3 hx3 hS3 hr3 hval HGT hen HC3
                go_wp2_with fail
                refine (unhide HG3).mono ?_
                rintro e w9 ⟨rfl, hb9⟩
                have HT9 := hide (unhide HTK _ hb9)
                have HB9 := hide ((unhide HBU).trans (But.of_below hb9))
                clear hb9 HTK HG3
                go_wp2_with (go_at_call 13; refine (num_any _ _).mono ?_; rintro e w' ⟨rfl, hw'⟩; obtain rfl := hw'.symm)
                refine (unhide HT9).mono ?_
                rintro e w7 (⟨Q', wsa', wsb', hsb', rfl, hc7, ht7, hQ⟩ | ⟨hnq, hfull, rfl, hb7⟩)
                · have hsub : sc < Q'.length ∧ Q'.getD sc 0 = x ∧ spot L Q' sc = S ∧ ∀ j ∈ rootsOf R0 L.length, j ∈ Q' := by
                    rcases hQ with rfl | rfl
                    · exact ⟨hsc3, unhide HX3, unhide HS3, unhide HR3⟩
                    · exact ⟨by simp; omega, by rw [getD_append_left' Q3 t sc hsc3]; exact unhide HX3, by rw [spot_prefix L Q3 t sc (by omega)]; exact unhide HS3, fun j hj => List.mem_append_left _ (unhide HR3 j hj)⟩
                  have HSET := hc7.set (unhide HG) hsub.1 (by rw [hsub.2.1]; exact hlt) t (by rw [hsub.2.1]; exact unhide HEG) ht7 (fun e => unhide H1 (by simp [e])) (fun e => unhide H2 (by simp [e])) (fun e => unhide H3 (by simp [e]))
                  rw [hsub.2.2.1] at HSET
                  have hix := List.idxOf_lt_length_of_mem ht7
                  have hsp := spot_le L Q' hix hix
                  have hu7 := hc7.b.u2
                  have hz7 := hc7.b.sz
                  have hto : spot L Q' (Q'.idxOf t) ≤ 1048576 := by omega
                  have HS7 := hide HSET
                  have HSUB := hide hsub
                  generalize spot L Q' (Q'.idxOf t) = tv at *
                  clear hc7 hQ hsub HSET hix hsp hu7 hz7 HT9 ht7 hsc3
                  go_wp2_with (go_at_call 13; refine (num_any _ _).mono ?_; rintro e w' ⟨rfl, hw'⟩; obtain rfl := hw'.symm)
                  refine (unhide HS7).mono ?_
                  rintro e w6 ⟨rfl, wsb6, hc6⟩
                  have HE6 := hide hc6
                  clear hc6 HS7
                  go_wp2_with fail
                  go_roundw
                  case rel => exact ⟨c + 1, Q', wsa', wsb6, hsb', by go_num, by omega, unhide HE6, (unhide HSUB).1, (unhide HSUB).2.1, (unhide HSUB).2.2.1, (unhide HSUB).2.2.2⟩
                  case measure => simp [intOf]; omega
                · have HE7 : Hid (N < 1 + wsum L sn L.length ∧ But [bw, p', bw', bh'] w w7) := hide ⟨unhide HFU hnq hfull, (unhide HB9).trans (But.of_below hb7)⟩
                  clear hnq hfull hb7 HT9 HFU
                  go_wp2_with (go_at_call 13; refine (num_any _ _).mono ?_; rintro e w' ⟨rfl, hw'⟩; obtain rfl := hw'.symm)
                  go_ret
                  exact .inr ⟨rfl, unhide HE7⟩
            · have f2 : decide ((c : Int) < (refsOf L x : Int)) = false := decide_eq_false (by omega)
              have f2' : decide (c < refsOf L x) = false := decide_eq_false hlt
              have hce : c = refsOf L x := by omega
              have HEN := hide (hc3.turn hsc3 (by rw [hx3]; exact hce))
              have hnx : spot L Q3 (sc + 1) = S + 1 + refsOf L x + sr := by
                have h1 : spot L Q3 (sc + 1) = spot L Q3 sc + wd ((shapesOf L Q3).getD sc (0, 0, 0)) := rfl
                rw [h1, shapesOf_at L Q3 sc hsc3, hx3, hS3]
                have := unhide HFL
                unfold fldsOf at this
                unfold wd
                omega
              have hle : spot L Q3 (sc + 1) ≤ spot L Q3 Q3.length := place_le _ hsc3
              have HNX := hide hnx
              have hN : S + 1 + refsOf L x + sr ≤ N := by omega
              clear hc3 hx3 hS3 hr3 hnx hle hce
              go_wp2_with fail
              go_roundw
              case rel => exact ⟨sc + 1, Q3, wsa3, wsb3, hsb3, by rw [unhide HNX]; go_num, unhide HEN, unhide HR3⟩
              case measure => simp [intOf]; omega
        · have hse : sc = Q2.length := by omega
          subst hse
          have f1 : decide ((spot L Q2 Q2.length : Int) < (spot L Q2 Q2.length : Int)) = false := decide_eq_false (by omega)
          have f1' : decide (spot L Q2 Q2.length < spot L Q2 Q2.length) = false := decide_eq_false (by omega)
          have HEN : Hid (Cop w wz p bw bh p' bw' bh' L E (rootsOf R0 L.length) N hsa Q2 Q2.length 0 wsa2 wsb2 hsb2) := hide ⟨hcop.a, hcop.alen, hcop.fr, hcop.b, hcop.blen, hcop.into, hcop.shut, hcop.mem, hcop.nd, hcop.sc1, hcop.sc2, (unhide HFC wz hcop.but).2.2.2⟩
          clear hcop hroots HC2
          generalize spot L Q2 Q2.length = us at *
          go_wp2_with fail
          refine (unhide HUS).mono ?_
          rintro e w' ⟨rfl, hw'⟩
          obtain rfl := hw'.symm
          go_wp2_with fail
          go_ret
          exact .inl ⟨Q2, wsa2, wsb2, hsb2, rfl, unhide HEN, unhide HR2⟩
end Go.Proofs.Ytdgdnpgjbphgaaa
