/- WaitLent: lentHeld: empty lists that are made ahead, in whatever order. -/
import Derived.Test.YtfebiemfmiahhabSd
namespace Go.Proofs.Ytfebiemfmiahhab
open Go.ChangeShapes Go.WideShapes Go.ChangeAt Go.RowKit Go.Maps
set_option linter.unusedVariables false
set_option linter.unusedSimpArgs false
set_option maxRecDepth 100000
set_option maxHeartbeats 8000000
/-- an answer of the document's that is at hand -/
def AnsO : World → List En → List En → Prop := fun _ _ _ => True
def AnsP (o : Ol) (a : Option Addr) (n : Nat) (l : List Pl) : World → List En → List En → Prop := fun W E F => plOf E o.conn = l ∧ PlsAt W a l ∧ n = l.length ∧ n ≤ 64
def AnsN (k : Nat) (a : Option Addr) (n : Nat) (l : List Nat) : World → List En → List En → Prop := fun W E F => (k = 3 → F.map (·.x.conn) = l) ∧ (k = 4 → E.map (·.x.conn) = l) ∧ IsI W a l ∧ n = l.length ∧ n ≤ 64
def AnsB (A : World → List En → List En → Prop) : Prop := ∀ W W' E F, Below W.heap.size W W' → A W E F → A W' E F
theorem ansO : AnsB AnsO := fun _ _ _ _ _ _ => trivial
theorem ansP {o : Ol} {a : Option Addr} {n : Nat} {l : List Pl} : AnsB (AnsP o a n l) := fun W W' E F hb h => ⟨h.1, h.2.1.below hb, h.2.2⟩
theorem ansN {k : Nat} {a : Option Addr} {n : Nat} {l : List Nat} : AnsB (AnsN k a n l) := fun W W' E F hb h => ⟨h.1, h.2.1, h.2.2.1.below hb, h.2.2.2⟩
/-- the state, empty lists G (those of U are used up), an answer at hand -/
structure HEq (e : TypeId) (A : World → List En → List En → Prop) (G U : List Nat) (k : Nat) (w0 W : World) (X : Nat → Nat) (ps p r T : Nat) (E F : List En) (C : HC) (t bo : Nat) (o : Ol) : Prop where
  q : Hq k w0 W X ps p r T E F C t bo o
  nd : G.Nodup
  lt : ∀ g ∈ G, g < W.heap.size
  em : ∀ g ∈ G, g ∉ U → X g = 15 ∧ W.heap[g]? = some (.cells #[] e (0, 0))
  ab : AnsB A
  an : A W E F
def HE (e : TypeId) (A : World → List En → List En → Prop) (G U : List Nat) (k : Nat) (w0 W : World) (ps p r : Nat) (C : HC) (t bo : Nat) (o : Ol) : Prop := ∃ X T E F, HEq e A G U k w0 W X ps p r T E F C t bo o
section
variable {w0 W W' : World} {X : Nat → Nat} {ps p r T : Nat} {E F : List En} {D : LD} {C : HC} {g k c bo t j : Nat} {o : Ol} {e : TypeId} {A : World → List En → List En → Prop} {G U : List Nat}
theorem Hx.he (h : Hx k w0 W ps p r C t bo o) : HE e AnsO [] [] k w0 W ps p r C t bo o := by
  obtain ⟨X, T, E, F, a⟩ := h
  exact ⟨X, T, E, F, a, List.nodup_nil, fun g hg => (by cases hg), fun g hg => (by cases hg), ansO, trivial⟩
theorem HE.hx (h : HE e A G U k w0 W ps p r C t bo o) : Hx k w0 W ps p r C t bo o := by
  obtain ⟨X, T, E, F, a⟩ := h
  exact ⟨X, T, E, F, a.q⟩
theorem HEq.below (h : HEq e A G U k w0 W X ps p r T E F C t bo o) (hb : Below W.heap.size W W') : HEq e A G U k w0 W' X ps p r T E F C t bo o :=
  ⟨h.q.below hb, h.nd, fun g hg => Nat.lt_of_lt_of_le (h.lt g hg) hb.size, fun g hg hu => ⟨(h.em g hg hu).1, (hb.block g (h.lt g hg)).trans (h.em g hg hu).2⟩, h.ab, h.ab _ _ _ _ hb h.an⟩
theorem HE.below (h : HE e A G U k w0 W ps p r C t bo o) (hb : Below W.heap.size W W') : HE e A G U k w0 W' ps p r C t bo o := by
  obtain ⟨X, T, E, F, a⟩ := h
  exact ⟨X, T, E, F, a.below hb⟩
theorem HE.drew (h : HE e A G U k w0 W ps p r C t bo o) : HE e A G U k w0 W.drew ps p r C t bo o := h.below (below_drew1 W)
/-- one empty list more -/
theorem HE.alloc (h : HE e A G U k w0 W ps p r C t bo o) : HE e A (W.heap.size :: G) U k w0 (W.alloc (.cells #[] e)) ps p r C t bo o := by
  obtain ⟨X, T, E, F, a⟩ := h
  have hb : Below W.heap.size W (W.alloc (.cells #[] e)) := (Below.refl _ _).alloc (Nat.le_refl _) _
  have a' := a.below hb
  have h0 := col0 a.q.lt (Nat.le_refl W.heap.size)
  have hs := a.q.lt.ls.bel.size
  have hn := heap_alloc_new W (.cells #[] e)
  refine ⟨_, T, E, F, ⟨a'.q.lt.pn (k := 15) (.inl h0) ⟨blk_lt'' hn, hs⟩, a'.q.hs.pn (by omega), a'.q.tt, a'.q.rp, a'.q.rn, a'.q.du⟩, ?_, fun g hg => ?_, fun g hg hu => ?_, a'.ab, a'.an⟩
  · refine List.nodup_cons.2 ⟨fun hm => ?_, a.nd⟩
    have := a.lt _ hm
    omega
  · rcases List.mem_cons.1 hg with rfl | hg
    · exact blk_lt'' hn
    · exact a'.lt g hg
  · rcases List.mem_cons.1 hg with rfl | hg
    · exact ⟨pnt_self, hn⟩
    · have := a.lt g hg
      rw [pnt_else (by omega)]
      exact a'.em g hg hu
theorem HE.cs (h : HE e A G U k w0 W ps p r C t bo o) (hj : Hid (j = o.pl.length)) : Cs W ps p r bo j o := h.hx.cs hj
theorem he_rplaces (hj : Hid (j = o.pl.length)) (h : Hid (HE 46 AnsO G U 1 w0 W ps p r C t bo o)) :
    Calls Try.prog 18 #[.pointer (some ⟨r, 0, none⟩), .int .i64 o.conn] W fun e w' => ∃ a n cap l, e = .returned (.slice a n cap) ∧ Cs w' ps p r bo j o ∧ Hid (HE 46 (AnsP o a n l) G U 1 w0 w' ps p r C t bo o) := by
  obtain ⟨X, T, E, F, a⟩ := unhide h
  refine (lt_rplaces a.q.lt).mono ?_
  rintro e' w' ⟨a2, n, cap, rfl, H⟩
  obtain ⟨k1, k2, k3, k4⟩ := unhide H
  have h6 : n ≤ 64 := by rw [k2]; exact plOf_len a.q.lt o.conn
  have b := a.below k3
  exact ⟨a2, n, cap, _, rfl, b.q.cs hj, hide ⟨X, T, E, F, b.q, b.nd, b.lt, b.em, ansP, rfl, k1, k2, h6⟩⟩
theorem he_rdue (hj : Hid (j = o.pl.length)) (h : Hid (HE 3 AnsO G U 3 w0 W ps p r C t bo o)) :
    Calls Try.prog 20 #[.pointer (some ⟨r, 0, none⟩), .int .u64 (o.time : Nat)] W fun e w' => ∃ a n cap l, e = .returned (.slice a n cap) ∧ Cs w' ps p r bo j o ∧ Hid (HE 3 (AnsN 3 a n l) G U 3 w0 w' ps p r C t bo o) := by
  obtain ⟨X, T, E, F, a⟩ := unhide h
  have hF := a.q.du (.inr rfl)
  refine (lt_rdue a.q.lt hF).mono ?_
  rintro e' w' ⟨a2, n, cap, rfl, H⟩
  obtain ⟨k1, k2, k3, k4⟩ := unhide H
  have hle : F.length ≤ E.length := by rw [hF.perm.length_eq]; exact List.length_filter_le _ _
  have h8 := a.q.lt.two.2.2.1
  have b := a.below k3
  exact ⟨a2, n, cap, _, rfl, b.q.cs hj, hide ⟨X, T, E, F, b.q, b.nd, b.lt, b.em, ansN, fun _ => rfl, fun z => by omega, k1, by rw [List.length_map]; exact k2, by omega⟩⟩
theorem he_rwaiting (hj : Hid (j = o.pl.length)) (h : Hid (HE 3 AnsO G U 4 w0 W ps p r C t bo o)) :
    Calls Try.prog 21 #[.pointer (some ⟨r, 0, none⟩)] W fun e w' => ∃ a n cap l, e = .returned (.slice a n cap) ∧ Cs w' ps p r bo j o ∧ Hid (HE 3 (AnsN 4 a n l) G U 4 w0 w' ps p r C t bo o) := by
  obtain ⟨X, T, E, F, a⟩ := unhide h
  refine (lt_rwaiting a.q.lt).mono ?_
  rintro e' w' ⟨a2, n, cap, rfl, H⟩
  obtain ⟨k1, k2, k3, k4⟩ := unhide H
  have h8 := a.q.lt.two.2.2.1
  have b := a.below k3
  exact ⟨a2, n, cap, _, rfl, b.q.cs hj, hide ⟨X, T, E, F, b.q, b.nd, b.lt, b.em, ansN, fun z => by omega, fun _ => rfl, k1, by rw [List.length_map]; exact k2, by omega⟩⟩
theorem HE.rws {s : Nat} (h : HE e A G U k w0 W ps p r C t bo o) (hg : g ∈ G) (hu : g ∉ U) : Rws W e s (.slice (some ⟨g, 0, none⟩) 0 0) 0 (fun _ => undef) := by
  obtain ⟨X, T, E, F, a⟩ := h
  exact .inr ⟨g, 0, _, rfl, (a.em g hg hu).2, Nat.le_refl _, by simp only [maxLen]; omega, by simp, fun j hj => by omega⟩
theorem HE.srcP {a : Option Addr} {n : Nat} {l : List Pl} (h : HE e (AnsP o a n l) G U k w0 W ps p r C t bo o) : (cP l).length = n * 2 ∧ (a = none → n = 0) ∧ (∀ ad, a = some ad → ∀ (j : Nat) (x : Value), (cP l)[j]? = some x → W.cell? (ad.add j) = some x) ∧ n ≤ 64 := by
  obtain ⟨X, T, E, F, q⟩ := h
  obtain ⟨d, e, f, f2⟩ := q.an
  refine ⟨by rw [flatP_len, f], fun ha => ?_, fun ad ha j x hj => ?_, f2⟩
  · rcases e with e | ⟨b, off, e, -⟩
    · rw [f, e]; rfl
    · rw [ha] at e; cases e
  · rcases e with e | ⟨b, off, e, hlt, hc⟩
    · rw [e] at hj; simp at hj
    · rw [ha] at e; cases e
      exact PlsAt.cells hc j x hj
theorem HE.srcN {a : Option Addr} {n q : Nat} {l : List Nat} (h : HE e (AnsN q a n l) G U k w0 W ps p r C t bo o) : (cI l).length = n * 1 ∧ (a = none → n = 0) ∧ (∀ ad, a = some ad → ∀ (j : Nat) (x : Value), (cI l)[j]? = some x → W.cell? (ad.add j) = some x) ∧ n ≤ 64 := by
  obtain ⟨X, T, E, F, q⟩ := h
  obtain ⟨d, d2, e, f, f2⟩ := q.an
  refine ⟨by rw [List.length_map, f, Nat.mul_one], fun ha => ?_, fun ad ha j x hj => ?_, f2⟩
  · rcases e with e | ⟨b, off, e, -⟩
    · rw [f, e]; rfl
    · rw [ha] at e; cases e
  · rcases e with e | ⟨b, off, e, hlt, hc⟩
    · rw [e] at hj; simp at hj
    · rw [ha] at e; cases e
      have hadd : (⟨b, off, none⟩ : Addr).add j = ⟨b, off + j, none⟩ := by unfold Addr.add; split <;> simp_all
      rw [hadd]
      rw [List.getElem?_map] at hj
      cases hq : l[j]? with
      | none => rw [hq] at hj; cases hj
      | some y =>
        rw [hq] at hj
        cases hj
        exact hc j y hq
/-- an append to a list of colour 15: what else is as it was -/
theorem Hq.into2 (h : Hq k w0 W X ps p r T E F C t bo o) {s m n : Nat} {f : Nat → Value} {v : Value} (hx : X g = 15) (hl : g < W.heap.size) (hr : Rws W' e s v (0 + n) f) (hg : Ga e (0 * s) m W W' (.slice (some ⟨g, 0, none⟩) 0 0) v) : ∃ X' g' c', v = .slice (some ⟨g', 0, none⟩) n c' ∧ Hq k w0 W' X' ps p r T E F C t bo o ∧ X' g' = 15 ∧ g' < W'.heap.size ∧ W.heap.size ≤ W'.heap.size ∧ (g' = g ∨ W.heap.size ≤ g') ∧ ∀ b, b < W.heap.size → b ≠ g → X' b = X b ∧ W'.heap[b]? = W.heap[b]? := by
  rw [Nat.zero_add] at hr
  rcases hg with ⟨rfl, rfl⟩ | hg
  · obtain ⟨a', c', e⟩ := hr.shape
    simp only [Value.slice.injEq] at e
    obtain ⟨e1, e2, e3⟩ := e
    exact ⟨X, g, 0, by rw [← e2], h, hx, hl, Nat.le_refl _, .inl rfl, fun b _ _ => ⟨rfl, rfl⟩⟩
  · have hc : Ch X 15 W W' := gr_ch hg (fun b hb => by cases hb; exact hx)
    have hown := gr_own (k := 15) h.lt.ls (by omega) hg (fun b hb => by cases hb; exact hx)
    have hoth : ∀ b, b < W.heap.size → b ≠ g → W'.heap[b]? = W.heap[b]? := fun b hb hn => hg.other b hb (fun z => hn (by cases z; rfl))
    rcases hr with ⟨e, e0⟩ | ⟨b, cap, cur, e, hb, hn, hm, hs, hf⟩
    · rw [e] at hg
      rcases hg.how with ⟨g', cur, cur', k1, k2, -⟩ | ⟨k2, k3, -⟩
      · cases k2
      · cases k2
    · subst e
      refine ⟨_, b, cap, rfl, h.ch15 hc, hown b rfl, blk_lt'' hb, hg.size, ?_, fun b hb hn => ⟨upc_old hb, hoth b hb hn⟩⟩
      rcases hg.how with ⟨g', cur, cur', k1, k2, -⟩ | ⟨k2, k3, -⟩
      · cases k1; cases k2; exact .inl rfl
      · cases k2; exact .inr (Nat.le_refl _)
theorem HEq.done {C' : HC} {k' : Nat} {X' : Nat → Nat} {g' : Nat} (h : HEq e A G U k w0 W X ps p r T E F C t bo o) (hq : Hq k' w0 W' (pnt X' g' 9) ps p r T E F C' t bo o) (hs : W.heap.size ≤ W'.heap.size) (hg' : g' = g ∨ W.heap.size ≤ g') (hk : ∀ b, b < W.heap.size → b ≠ g → X' b = X b ∧ W'.heap[b]? = W.heap[b]?) : HE e AnsO G (g :: U) k' w0 W' ps p r C' t bo o := by
  refine ⟨_, T, E, F, hq, h.nd, fun b hb => Nat.lt_of_lt_of_le (h.lt b hb) hs, fun b hb hu => ?_, ansO, trivial⟩
  have hl := h.lt b hb
  have hne : b ≠ g := fun z => hu (by rw [z]; exact List.mem_cons_self ..)
  obtain ⟨q1, q2⟩ := hk b hl hne
  obtain ⟨q3, q4⟩ := h.em b hb (fun z => hu (List.mem_cons_of_mem _ z))
  have hne2 : b ≠ g' := by omega
  rw [pnt_else hne2]
  exact ⟨q1.trans q3, q2.trans q4⟩
theorem HE.copied {a : Option Addr} {n : Nat} {l : List Pl} (h : HE 46 (AnsP o a n l) G U 1 w0 W ps p r C t bo o) (hg : g ∈ G) (hu : g ∉ U) {v : Value} (hr : Rws W' 46 2 v (0 + n) (fun k => if k < 0 * 2 then undef else (cP l).getD (k - 0 * 2) undef)) (hga : Ga 46 (0 * 2) (cP l).length W W' (.slice (some ⟨g, 0, none⟩) 0 0) v) : ∃ g' c', v = .slice (some ⟨g', 0, none⟩) n c' ∧ HE 46 AnsO G (g :: U) 0 w0 W' ps p r { C with Wd := C.Wd ++ [⟨.slice (some ⟨g', 0, none⟩) n c', n, cP l⟩] } t bo o := by
  obtain ⟨X, T, E, F, q⟩ := h
  obtain ⟨d, e, f, f2⟩ := q.an
  obtain ⟨X', g', c', rfl, q', x', l', s', i', o'⟩ := q.q.into2 (q.em g hg hu).1 (q.lt g hg) hr hga
  have hr' : Rws W' 46 2 (.slice (some ⟨g', 0, none⟩) n c') n (fun k => (cP l).getD k undef) := by
    rw [Nat.zero_add] at hr
    exact hr.congr fun j hj => by simp
  have hge := (q'.lt.ls.lt g' (by omega)).2
  refine ⟨g', c', rfl, q.done ⟨q'.lt.pn (k := 9) (.inr (by omega)) ⟨l', hge⟩, q'.hs.addW (by omega) hr' f f2, q'.tt, ?_, ?_, fun z => by omega⟩ s' i' o'⟩
  · have := q'.rp
    simp [RelP] at this
    simp [RelP, this, d]
  · have := q'.rn
    simp [RelN] at this
    simp [RelN, this]
theorem HE.copied3 {a : Option Addr} {n : Nat} {l : List Nat} (h : HE 3 (AnsN 3 a n l) G U 3 w0 W ps p r C t bo o) (hg : g ∈ G) (hu : g ∉ U) {v : Value} (hr : Rws W' 3 1 v (0 + n) (fun k => if k < 0 * 1 then undef else (cI l).getD (k - 0 * 1) undef)) (hga : Ga 3 (0 * 1) (cI l).length W W' (.slice (some ⟨g, 0, none⟩) 0 0) v) : ∃ g' c', v = .slice (some ⟨g', 0, none⟩) n c' ∧ HE 3 AnsO G (g :: U) 4 w0 W' ps p r { C with Dd := C.Dd ++ [⟨.slice (some ⟨g', 0, none⟩) n c', n, cI l⟩] } t bo o := by
  obtain ⟨X, T, E, F, q⟩ := h
  obtain ⟨d, d2, e, f, f2⟩ := q.an
  obtain ⟨X', g', c', rfl, q', x', l', s', i', o'⟩ := q.q.into2 (q.em g hg hu).1 (q.lt g hg) hr hga
  have hr' : Rws W' 3 1 (.slice (some ⟨g', 0, none⟩) n c') n (fun k => (cI l).getD k undef) := by
    rw [Nat.zero_add] at hr
    exact hr.congr fun j hj => by simp
  have hge := (q'.lt.ls.lt g' (by omega)).2
  have hd := d rfl
  refine ⟨g', c', rfl, q.done ⟨q'.lt.pn (k := 9) (.inr (by omega)) ⟨l', hge⟩, q'.hs.addD (by omega) hr' f f2, q'.tt, ?_, ?_, fun z => by omega⟩ s' i' o'⟩
  · have := q'.rp
    simp [RelP] at this
    simp [RelP, this]
  · have := q'.rn
    simp [RelN] at this
    simp [RelN, this, ← hd]
theorem HE.copied4 {a : Option Addr} {n : Nat} {l : List Nat} (h : HE 3 (AnsN 4 a n l) G U 4 w0 W ps p r C t bo o) (hg : g ∈ G) (hu : g ∉ U) {v : Value} (hr : Rws W' 3 1 v (0 + n) (fun k => if k < 0 * 1 then undef else (cI l).getD (k - 0 * 1) undef)) (hga : Ga 3 (0 * 1) (cI l).length W W' (.slice (some ⟨g, 0, none⟩) 0 0) v) : ∃ g' c', v = .slice (some ⟨g', 0, none⟩) n c' ∧ HE 3 AnsO G (g :: U) 0 w0 W' ps p r { C with Dd := C.Dd ++ [⟨.slice (some ⟨g', 0, none⟩) n c', n, cI l⟩] } t bo o := by
  obtain ⟨X, T, E, F, q⟩ := h
  obtain ⟨d, d2, e, f, f2⟩ := q.an
  obtain ⟨X', g', c', rfl, q', x', l', s', i', o'⟩ := q.q.into2 (q.em g hg hu).1 (q.lt g hg) hr hga
  have hr' : Rws W' 3 1 (.slice (some ⟨g', 0, none⟩) n c') n (fun k => (cI l).getD k undef) := by
    rw [Nat.zero_add] at hr
    exact hr.congr fun j hj => by simp
  have hge := (q'.lt.ls.lt g' (by omega)).2
  have hd := d2 rfl
  refine ⟨g', c', rfl, q.done ⟨q'.lt.pn (k := 9) (.inr (by omega)) ⟨l', hge⟩, q'.hs.addD (by omega) hr' f f2, q'.tt, ?_, ?_, fun z => by omega⟩ s' i' o'⟩
  · have := q'.rp
    simp [RelP] at this
    simp [RelP, this]
  · have := q'.rn
    simp [RelN] at this
    simp [RelN, this, ← hd]
/-- of two empty lists, one used, the other is not it -/
theorem HE.nd2 {a b : Nat} (h : HE e A [a, b] U k w0 W ps p r C t bo o) : a ≠ b := by
  obtain ⟨X, T, E, F, q⟩ := h
  have := q.nd
  simp at this
  exact this
end
end Go.Proofs.Ytfebiemfmiahhab
