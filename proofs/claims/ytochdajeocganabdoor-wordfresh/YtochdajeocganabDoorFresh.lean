/- WordFresh: the law. -/
import Derived.Test.YtochdajeocganabDoorWSettle
import Derived.Test.YtochdajeocganabDoorTexts
import Derived.Test.YtochdajeocganabDoorRPack
import Derived.Test.YtochdajeocganabDoorUpto
namespace Go.Proofs.YtochdajeocganabDoor
open Go.ChangeShapes Go.WideShapes Go.ChangeAt Go.RowKit
set_option linter.unusedVariables false
set_option maxRecDepth 100000
set_option maxHeartbeats 8000000

def S0 : BookSt := ⟨⟨nilS, nilS, [], [], 0⟩, ⟨nilS, nilS, [], [], 0⟩, 0, 0, 0⟩
/-- the book, the two pairs of rows: all empty, all new -/
theorem st_start (w : World) : St w.heap.size w (((w.alloc (.cells #[.slice none 0 0, .slice none 0 0, .int .i64 0, .slice none 0 0, .slice none 0 0, .int .i64 0, .slice none 0 0, .slice none 0 0, .int .i64 0, .slice none 0 0, .slice none 0 0, .int .i64 0, .slice none 0 0, .slice none 0 0, .int .i64 0, .slice none 0 0, .slice none 0 0, .int .i64 0, .slice none 0 0, .slice none 0 0, .int .i64 0, .slice none 0 0, .slice none 0 0, .int .i64 0, .slice none 0 0, .slice none 0 0, .int .i64 0, .slice none 0 0, .slice none 0 0, .int .i64 0, .int .i64 0, .int .i64 0, .int .i64 0] 38)).alloc (.cells #[.slice none 0 0, .slice none 0 0] 41)).alloc (.cells #[.slice none 0 0, .slice none 0 0] 44)) w.heap.size (w.heap.size + 1) (w.heap.size + 1 + 1) (fun _ => 0) (fun g => if g = w.heap.size + 1 then 2 else if g = w.heap.size + 1 + 1 then 3 else 0) S0 TwoSt.none TwoSt.none := by
  generalize hA : (Obj.cells #[.slice none 0 0, .slice none 0 0, .int .i64 0, .slice none 0 0, .slice none 0 0, .int .i64 0, .slice none 0 0, .slice none 0 0, .int .i64 0, .slice none 0 0, .slice none 0 0, .int .i64 0, .slice none 0 0, .slice none 0 0, .int .i64 0, .slice none 0 0, .slice none 0 0, .int .i64 0, .slice none 0 0, .slice none 0 0, .int .i64 0, .slice none 0 0, .slice none 0 0, .int .i64 0, .slice none 0 0, .slice none 0 0, .int .i64 0, .slice none 0 0, .slice none 0 0, .int .i64 0, .int .i64 0, .int .i64 0, .int .i64 0] 38 : Obj) = A
  have s1 : (w.alloc A).heap.size = w.heap.size + 1 := by simp
  have s2 : ((w.alloc A).alloc (.cells #[.slice none 0 0, .slice none 0 0] 41)).heap.size = w.heap.size + 1 + 1 := by simp
  have s3 : (((w.alloc A).alloc (.cells #[.slice none 0 0, .slice none 0 0] 41)).alloc (.cells #[.slice none 0 0, .slice none 0 0] 44)).heap.size = w.heap.size + 1 + 1 + 1 := by simp
  have b0 : (((w.alloc A).alloc (.cells #[.slice none 0 0, .slice none 0 0] 41)).alloc (.cells #[.slice none 0 0, .slice none 0 0] 44)).heap[w.heap.size]? = some A := by
    rw [heap_alloc_old _ _ (by rw [s2]; omega), heap_alloc_old _ _ (by rw [s1]; omega)]
    exact heap_alloc_new w A
  have b1 : (((w.alloc A).alloc (.cells #[.slice none 0 0, .slice none 0 0] 41)).alloc (.cells #[.slice none 0 0, .slice none 0 0] 44)).heap[w.heap.size + 1]? = some (.cells #[.slice none 0 0, .slice none 0 0] 41 (0, 0)) := by
    rw [heap_alloc_old _ _ (by rw [s2]; omega)]
    have := heap_alloc_new (w.alloc A) (.cells #[.slice none 0 0, .slice none 0 0] 41)
    rw [s1] at this
    exact this
  have b2 : (((w.alloc A).alloc (.cells #[.slice none 0 0, .slice none 0 0] 41)).alloc (.cells #[.slice none 0 0, .slice none 0 0] 44)).heap[w.heap.size + 1 + 1]? = some (.cells #[.slice none 0 0, .slice none 0 0] 44 (0, 0)) := by
    have := heap_alloc_new ((w.alloc A).alloc (.cells #[.slice none 0 0, .slice none 0 0] 41)) (.cells #[.slice none 0 0, .slice none 0 0] 44)
    rw [s2] at this
    exact this
  have bel : Below w.heap.size w (((w.alloc A).alloc (.cells #[.slice none 0 0, .slice none 0 0] 41)).alloc (.cells #[.slice none 0 0, .slice none 0 0] 44)) := (((Below.refl w.heap.size w).alloc (Nat.le_refl _) A).alloc (by rw [s1]; omega) _).alloc (by rw [s2]; omega) _
  generalize (((w.alloc A).alloc (.cells #[.slice none 0 0, .slice none 0 0] 41)).alloc (.cells #[.slice none 0 0, .slice none 0 0] 44)) = W at *
  have key : ∀ g, (if g = w.heap.size + 1 then 2 else if g = w.heap.size + 1 + 1 then 3 else 0) ≠ 0 → g = w.heap.size + 1 ∨ g = w.heap.size + 1 + 1 := fun g hg => by
    by_cases e1 : g = w.heap.size + 1
    · exact .inl e1
    · rw [if_neg e1] at hg
      by_cases e2 : g = w.heap.size + 1 + 1
      · exact .inr e2
      · rw [if_neg e2] at hg; exact absurd rfl hg
  have half : ∀ (c : Nat) (te tl : TypeId) (mk : Nat → Nat → Value), Half c te tl mk W (fun _ => 0) 0 ⟨nilS, nilS, [], [], 0⟩ := fun c te tl mk => ⟨.inl ⟨rfl, rfl⟩, .inl ⟨rfl, rfl⟩, fun g hg => by simp [nilS, Value.ownBlock] at hg, fun g hg => by simp [nilS, Value.ownBlock] at hg, fun j hj => by simp at hj, fun j _ hj => by simp at hj, by simp⟩
  refine ⟨⟨⟨fun i hi => ?_, fun i hi => ?_, by omega⟩, half _ _ _ _, half _ _ _ _, fun g hg => absurd rfl hg, rfl, rfl, rfl, Nat.le_refl _, Nat.le_refl _, by decide, by decide, by decide⟩, ?_, ?_, fun g hg => ?_, fun g hg => ⟨rfl, ?_⟩, fun g hg => absurd rfl hg, fun g hg => ?_, Nat.le_refl _, bel, ⟨rfl, rfl⟩, ⟨rfl, rfl⟩⟩
  · simp only [World.cell?, b0, ← hA, Nat.zero_add]
    match i, hi with
    | 0, _ => rfl | 1, _ => rfl | 2, _ => rfl | 3, _ => rfl | 4, _ => rfl | 5, _ => rfl | 6, _ => rfl | 7, _ => rfl | 8, _ => rfl | 9, _ => rfl | 10, _ => rfl | 11, _ => rfl | 12, _ => rfl | 13, _ => rfl | 14, _ => rfl | 15, _ => rfl | 16, _ => rfl | 17, _ => rfl | 18, _ => rfl | 19, _ => rfl | 20, _ => rfl | 21, _ => rfl | 22, _ => rfl | 23, _ => rfl | 24, _ => rfl | 25, _ => rfl | 26, _ => rfl | 27, _ => rfl | 28, _ => rfl | 29, _ => rfl | 30, _ => rfl | 31, _ => rfl | 32, _ => rfl | k + 33, h => exact absurd h (by omega)
  · simp only [World.frozen?, b0, ← hA]
    simp
  · exact ⟨by simp only [World.cell?, b1]; rfl, by simp only [World.cell?, b1]; rfl, by simp only [World.frozen?, b1]; rfl, by simp only [World.frozen?, b1]; rfl, by omega, by simp, .inl ⟨rfl, rfl⟩, .inl ⟨rfl, rfl⟩, fun g hg => by simp [TwoSt.none, Value.ownBlock] at hg, fun g hg => by simp [TwoSt.none, Value.ownBlock] at hg, fun j hj => by simp [TwoSt.none] at hj, fun j hj => by simp [TwoSt.none] at hj⟩
  · exact ⟨by simp only [World.cell?, b2]; rfl, by simp only [World.cell?, b2]; rfl, by simp only [World.frozen?, b2]; rfl, by simp only [World.frozen?, b2]; rfl, by omega, by simp, .inl ⟨rfl, rfl⟩, .inl ⟨rfl, rfl⟩, fun g hg => by simp [TwoSt.none, Value.ownBlock] at hg, fun g hg => by simp [TwoSt.none, Value.ownBlock] at hg, fun j hj => by simp [TwoSt.none] at hj, fun j hj => by simp [TwoSt.none] at hj⟩
  · rcases key g hg with e | e <;> omega
  · rcases key g hg with e | e <;> omega
  · rcases key g hg with e | e <;> omega
/-- what is known of a call: its numbers, its lists, the table -/
def Known (w : World) (_ A _ _ N M : Int) (_ : Nat) (aT : Option Addr) (nT cT : Nat) (aW : Option Addr) (nW cW : Nat) : Prop :=
  Tab w ∧ (-9223372036854775808 ≤ A ∧ A ≤ 9223372036854775807) ∧ (-9223372036854775808 ≤ N ∧ N ≤ 9223372036854775807) ∧ (-9223372036854775808 ≤ M ∧ M ≤ 9223372036854775807) ∧
  (∃ l : List Nat, nT = l.length ∧ Bytes w aT l ∧ Small l ∧ (aT = none → cT = 0) ∧ l.length ≤ 140737488351232) ∧
  ∃ l : List Nat, nW = l.length ∧ Words w aW l ∧ WSmall l ∧ (aW = none → cW = 0) ∧ 8 * l.length ≤ 140737488351232
theorem Known.below {w w' : World} {K A B C N M : Int} {x : Nat} {aT : Option Addr} {nT cT : Nat} {aW : Option Addr} {nW cW : Nat} (h : Known w K A B C N M x aT nT cT aW nW cW) (hb : Below w.heap.size w w') : Known w' K A B C N M x aT nT cT aW nW cW := by
  obtain ⟨ht, hA, hN, hM, ⟨l, h1, h2, h3, h4, h5⟩, ⟨m, k1, k2, k3, k4, k5⟩⟩ := h
  exact ⟨ht.below hb, hA, hN, hM, ⟨l, h1, h2.below hb, h3, h4, h5⟩, ⟨m, k1, k2.below hb, k3, k4, k5⟩⟩
theorem texts_any (K A B C N M : Int) (x : Nat) (aT : Option Addr) (nT cT : Nat) (aW : Option Addr) (nW cW : Nat) (w : World) (hK : K = 5 ∨ K = 7 ∨ K = 10) (hx : x < 18446744073709551616) (h : Known w K A B C N M x aT nT cT aW nW cW) :
    Calls Tryd.prog 13 #[.agg #[.int .i64 K, .int .i64 A, .int .i64 B, .int .i64 C, .int .i64 N, .int .i64 M, .int .u64 x, .slice aT nT cT, .slice aW nW cW]] w fun e w' => TextsOut w w' e := by
  obtain ⟨ht, ⟨hA1, hA2⟩, ⟨hN1, hN2⟩, _, _, ⟨m, rfl, hW, hws, _, hm⟩⟩ := h
  rcases hK with rfl | rfl | rfl
  · exact texts_unpack A B C N M hA1 hA2 x _ aW cW w m hm hW hws
  · exact texts_text A B C N M hN1 hN2 x _ _ w ht
  · exact texts_digits A B C N M x hx _ _ w ht
/-- in the midst of a call of the script -/
structure Turn (B0 : Nat) (w wx : World) (pb pl pw ob : Nat) (C : Array Value) (tag lt : Nat → Nat) (S : BookSt) (L M : TwoSt) (n : Nat) : Prop where
  st : St B0 w wx pb pl pw tag lt S L M
  cnt : S.turn + L.G.length + M.G.length ≤ n
  fl : Fine L
  fm : WFine M
  oc : wx.heap[ob]? = some (.cells C 49 (0, 0))
  lo : lt ob = 0
  to : tag ob = 0
  po : ob ≠ pb
  sz : B0 ≤ wx.heap.size
theorem Turn.lt {B0 : Nat} {w wx : World} {pb pl pw ob : Nat} {C : Array Value} {tag lt : Nat → Nat} {S : BookSt} {L M : TwoSt} {n : Nat} (h : Turn B0 w wx pb pl pw ob C tag lt S L M n) : ob < wx.heap.size := (Array.getElem?_eq_some_iff.1 h.oc).1
theorem Turn.below {B0 : Nat} {w wx wy : World} {pb pl pw ob : Nat} {C : Array Value} {tag lt : Nat → Nat} {S : BookSt} {L M : TwoSt} {n : Nat} (h : Turn B0 w wx pb pl pw ob C tag lt S L M n) (hb : Below wx.heap.size wx wy) : Turn B0 w wy pb pl pw ob C tag lt S L M n :=
  ⟨h.st.below hb h.sz, h.cnt, h.fl, h.fm, (hb.block ob h.lt).trans h.oc, h.lo, h.to, h.po, by have := hb.size; have := h.sz; omega⟩
theorem Turn.mono {B0 : Nat} {w wx : World} {pb pl pw ob : Nat} {C : Array Value} {tag lt : Nat → Nat} {S : BookSt} {L M : TwoSt} {n n' : Nat} (h : Turn B0 w wx pb pl pw ob C tag lt S L M n) (hn : n ≤ n') : Turn B0 w wx pb pl pw ob C tag lt S L M n' :=
  ⟨h.st, Nat.le_trans h.cnt hn, h.fl, h.fm, h.oc, h.lo, h.to, h.po, h.sz⟩
/-- what was made anew is free -/
theorem Turn.fresh {B0 : Nat} {w wx : World} {pb pl pw ob : Nat} {C : Array Value} {tag lt : Nat → Nat} {S : BookSt} {L M : TwoSt} {n : Nat} (h : Turn B0 w wx pb pl pw ob C tag lt S L M n) (g : Nat) (hg : wx.heap.size ≤ g) : lt g = 0 ∧ tag g = 0 ∧ g ≠ pb ∧ B0 ≤ g ∧ g ≠ ob := by
  refine ⟨?_, ?_, ?_, by have := h.sz; omega, by have := h.lt; omega⟩
  · by_cases e : lt g = 0
    · exact e
    · have := h.st.un g e; omega
  · by_cases e : tag g = 0
    · exact e
    · have := h.st.book.un g e; omega
  · have := h.st.book.fl.lt; omega
theorem fine_add {L L' : TwoSt} {l : List Nat} (h : Fine L) (hx : L.X.length = L.G.length) (hg : L'.G.length = L.G.length + 1) (hX : L'.X = L.X ++ [l]) (hs : Small l) (hl : l.length ≤ 140737488355328) : Fine L' := fun j hj => by
  rw [hX]
  by_cases e : j < L.G.length
  · rw [getD_old _ _ _ _ (by omega)]; exact h j e
  · rw [getD_last _ _ _ _ (by omega)]; exact ⟨hs, hl⟩
theorem fine_none : Fine TwoSt.none := fun j hj => by simp [TwoSt.none] at hj
theorem wfine_none : WFine TwoSt.none := fun j hj => by simp [TwoSt.none] at hj
theorem Turn.add {B0 : Nat} {w wx wy : World} {pb pl pw ob : Nat} {C : Array Value} {tag lt lt' : Nat → Nat} {S : BookSt} {L M L' : TwoSt} {n : Nat} {v : Value} {l : List Nat} (h : Turn B0 w wx pb pl pw ob C tag lt S L M n) (hst : St B0 w wy pb pl pw tag lt' S L' M) (hg : L'.G.length = L.G.length + 1) (hX : L'.X = L.X ++ [l]) (hs : Small l) (hl : l.length ≤ 140737488355328) (hsz : wx.heap.size ≤ wy.heap.size) (hk : ∀ g, g < wx.heap.size → lt g = 0 → v.ownBlock ≠ some g → wy.heap[g]? = wx.heap[g]? ∧ lt' g = 0) (hv : v.ownBlock ≠ some ob) : Turn B0 w wy pb pl pw ob C tag lt' S L' M (n + 1) := by
  obtain ⟨k1, k2⟩ := hk ob h.lt h.lo hv
  exact ⟨hst, by have := h.cnt; omega, fine_add h.fl h.st.e1.2 hg hX hs hl, h.fm, k1.trans h.oc, k2, h.to, h.po, by have := h.sz; omega⟩
/-- a pair of lists of words is put behind the others -/
theorem St.tags2 {B0 : Nat} {w0 w : World} {pb pl pw : Nat} {tag lt : Nat → Nat} {S : BookSt} {L M : TwoSt} (h : St B0 w0 w pb pl pw tag lt S L M) (x y : Value) (k1 k2 : Nat) (hx : ∀ g, x.ownBlock = some g → lt g = 0 ∧ tag g = 0 ∧ g ≠ pb ∧ B0 ≤ g ∧ g < w.heap.size) (hy : ∀ g, y.ownBlock = some g → lt g = 0 ∧ tag g = 0 ∧ g ≠ pb ∧ B0 ≤ g ∧ g < w.heap.size) (hxy : ∀ g, x.ownBlock = some g → y.ownBlock ≠ some g) :
    ∃ lt2, St B0 w0 w pb pl pw tag lt2 S L M ∧ (∀ g, x.ownBlock = some g → lt2 g = k1) ∧ (∀ g, y.ownBlock = some g → lt2 g = k2) ∧ ∀ g, lt g = 0 → x.ownBlock ≠ some g → y.ownBlock ≠ some g → lt2 g = 0 := by
  have h1 := h.free x k1 hx
  have h2 := h1.free y k2 (fun g hg => by
    obtain ⟨q1, q2⟩ := hy g hg
    refine ⟨?_, q2⟩
    unfold tagAt
    rw [if_neg (fun e => hxy g e hg)]
    exact q1)
  refine ⟨_, h2, fun g hg => ?_, fun g hg => tagAt_self _ y k2 g hg, fun g h0 hgx hgy => ?_⟩
  · unfold tagAt
    rw [if_neg (hxy g hg), if_pos hg]
  · unfold tagAt
    rw [if_neg hgy, if_neg hgx]
    exact h0
theorem lineW_of_own {w : World} {base : Nat} {v : Value} {l : List Nat} (h : OwnW w base v l) : Line w 45 v l.length (fun k => u64V (l.getD k 0)) ∧ ∀ g, v.ownBlock = some g → base ≤ g := by
  obtain ⟨h1, h2⟩ := line_of_own h
  refine ⟨h1.congr (fun j hj => ?_), h2⟩
  rw [List.getD_eq_getElem?_getD, wcells_at l j hj]
  rfl
theorem lineB_of_own {w : World} {base : Nat} {v : Value} {l : List Nat} (h : OwnB w base v l) : Line w 5 v l.length (fun k => u8V (l.getD k 0)) ∧ ∀ g, v.ownBlock = some g → base ≤ g := by
  obtain ⟨h1, h2⟩ := line_of_own h
  refine ⟨h1.congr (fun j hj => ?_), h2⟩
  rw [List.getD_eq_getElem?_getD, cellsOf_at l j hj]
  rfl
theorem wfine_add {M : TwoSt} {vg vw x y : Value} {l : List Nat} (h : WFine M) (hx : M.X.length = M.G.length) (hl : l.length ≤ 17592186044417) : WFine ⟨vg, vw, M.G ++ [x], M.W ++ [y], M.X ++ [l]⟩ := fun j hj => by
  show ((M.X ++ [l]).getD j []).length ≤ _
  have hj' : j < M.G.length + 1 := by simpa using hj
  by_cases e : j < M.G.length
  · rw [getD_old _ _ _ _ (by omega)]; exact h j e
  · rw [getD_last _ _ _ _ (by omega)]; exact hl
theorem wordFresh_law (a : Option Addr) (n cap : Nat) (w : World) (hn : n ≤ 140737488355328)
    (h : n = 0 ∨ ∃ b off, a = some ⟨b, off, none⟩ ∧ b < w.heap.size ∧
        ∀ k, k < n → ∃ (K A B C N M : Int) (x : Nat) (aT : Option Addr) (nT cT : Nat) (aW : Option Addr) (nW cW : Nat), x < 18446744073709551616 ∧ OpAt w b (off + k * 9) K A B C N M x aT nT cT aW nW cW ∧ Known w K A B C N M x aT nT cT aW nW cW) :
    Calls Tryd.prog 8 #[.slice a n cap] w fun e w' => e = .returned (.bool true) ∧ Below w.heap.size w w' := by
  obtain ⟨i0, hi, hy0, hy1, hy2⟩ := info_parts Tryd.info47
  obtain ⟨W0, hW0⟩ : ∃ W0, W0 = (((w.alloc (.cells #[.slice none 0 0, .slice none 0 0, .int .i64 0, .slice none 0 0, .slice none 0 0, .int .i64 0, .slice none 0 0, .slice none 0 0, .int .i64 0, .slice none 0 0, .slice none 0 0, .int .i64 0, .slice none 0 0, .slice none 0 0, .int .i64 0, .slice none 0 0, .slice none 0 0, .int .i64 0, .slice none 0 0, .slice none 0 0, .int .i64 0, .slice none 0 0, .slice none 0 0, .int .i64 0, .slice none 0 0, .slice none 0 0, .int .i64 0, .slice none 0 0, .slice none 0 0, .int .i64 0, .int .i64 0, .int .i64 0, .int .i64 0] 38)).alloc (.cells #[.slice none 0 0, .slice none 0 0] 41)).alloc (.cells #[.slice none 0 0, .slice none 0 0] 44)) := ⟨_, rfl⟩
  have hs0 := st_start w
  rw [← hW0] at hs0
  have hz0 : w.heap.size ≤ W0.heap.size := by rw [hW0]; simp; omega
  have HS0 := hide hs0
  have HW0 := hide hW0
  have HH := hide h
  clear h hs0 hW0
  go_enter Tryd.func8, Tryd.ntmps8
  go_wp2_with fail
  rw [← unhide HW0]
  clear HW0
  have HPB : Hid (w.heap.size = w.heap.size) := hide rfl
  obtain ⟨B0, hB0⟩ : ∃ B0, B0 = w.heap.size := ⟨_, rfl⟩
  obtain ⟨pb, hpb⟩ : ∃ pb, pb = w.heap.size := ⟨_, rfl⟩
  obtain ⟨pl, hpl⟩ : ∃ pl, pl = w.heap.size + 1 := ⟨_, rfl⟩
  obtain ⟨pw, hpw⟩ : ∃ pw, pw = w.heap.size + 1 + 1 := ⟨_, rfl⟩
  have HS1 : Hid (St B0 w W0 pb pl pw (fun _ => 0) (fun g => if g = w.heap.size + 1 then 2 else if g = w.heap.size + 1 + 1 then 3 else 0) S0 TwoSt.none TwoSt.none) := hide (by rw [hB0, hpb, hpl, hpw]; exact unhide HS0)
  have hz1 : B0 ≤ W0.heap.size := by rw [hB0]; exact hz0
  have HB0 := hide hB0
  rw [← hpw, ← hpl, ← hpb]
  clear HS0 hz0 HPB hB0 hpb hpl hpw
  go_loopw [6, 8, 11] (fun i _ _ wq => ∃ (k : Nat) (tag lt : Nat → Nat) (S : BookSt) (L M : TwoSt), k ≤ n ∧ k ≤ 400 ∧ i = .int .i64 k ∧ St B0 w wq pb pl pw tag lt S L M ∧ S.turn + L.G.length + M.G.length ≤ 2 * k ∧ Fine L ∧ WFine M ∧ B0 ≤ wq.heap.size) (fun i _ _ _ => 400 - (intOf i).toNat)
  case atStart => exact ⟨0, _, _, S0, TwoSt.none, TwoSt.none, by omega, by omega, rfl, unhide HS1, by decide, fine_none, wfine_none, hz1⟩
  case round =>
    obtain ⟨k, tag, lt, S, L, M, hk1, hk2, rfl, hst, hcnt, hfl, hfm, hsz⟩ := hrel
    rename World => wq
    by_cases hlt : k < n ∧ k < 400
    · obtain ⟨hlt1, hlt2⟩ := hlt
      have d1 : decide ((k : Int) < (n : Int)) = true := decide_eq_true (by omega)
      have d1' : decide (k < n) = true := decide_eq_true hlt1
      have d2 : decide ((k : Int) < 400) = true := decide_eq_true (by omega)
      have d2' : decide (k < 400) = true := decide_eq_true hlt2
      have y0 : (0 : Int) ≤ (k : Int) := by omega
      have y1 : (k : Int) < (n : Int) := by omega
      rcases unhide HH with h0 | ⟨b, off, rfl, hb, hE⟩
      · omega
      obtain ⟨K, A, B, C, N, M', x, aT, nT, cT, aW, nW, cW, hx, hop, hkn⟩ := hE k hlt1
      have hbel : Below w.heap.size w wq := by rw [← unhide HB0]; exact hst.bel
      obtain ⟨c0, c1, c2, c3, c4, c5, c6, c7, c8⟩ := hop.below hb hbel
      obtain ⟨ob, hob⟩ : ∃ ob, ob = wq.heap.size := ⟨_, rfl⟩
      obtain ⟨Cs, hCs⟩ : ∃ Cs, Cs = (#[.int .i64 K, .int .i64 A, .int .i64 B, .int .i64 C, .int .i64 N, .int .i64 M', .int .u64 (x : Nat), .slice aT nT cT, .slice aW nW cW] : Array Value) := ⟨_, rfl⟩
      obtain ⟨wa, hwa⟩ : ∃ wa, wa = wq.alloc (.cells #[.int .i64 K, .int .i64 A, .int .i64 B, .int .i64 C, .int .i64 N, .int .i64 M', .int .u64 (x : Nat), .slice aT nT cT, .slice aW nW cW] 49) := ⟨_, rfl⟩
      have hba : Below wq.heap.size wq wa := by rw [hwa]; exact (Below.refl _ _).alloc (Nat.le_refl _) _
      have hta : Turn B0 w wa pb pl pw ob Cs tag lt S L M (2 * k) := by
        refine ⟨hst.below hba hsz, hcnt, hfl, hfm, by rw [hwa, hob, hCs]; exact heap_alloc_new wq _, ?_, ?_, ?_, by have := hba.size; omega⟩
        · by_cases e : lt ob = 0
          · exact e
          · have := hst.un ob e; omega
        · by_cases e : tag ob = 0
          · exact e
          · have := hst.book.un ob e; omega
        · have := hst.book.fl.lt; omega
      have HTA := hide hta
      have HKN : Hid (∀ wx, Below B0 w wx → Known wx K A B C N M' x aT nT cT aW nW cW) := hide (fun wx hbx => hkn.below (by rw [← unhide HB0]; exact hbx))
      have HOC : Hid (∀ wx tag lt S L M c, Turn B0 w wx pb pl pw ob Cs tag lt S L M c → ∀ j, wx.cell? ⟨ob, j, none⟩ = Cs[j]?) := hide (fun wx tag lt S L M c ht j => by simp only [World.cell?, ht.oc]; rfl)
      have HCS := hide hCs
      have HWA := hide hwa
      have HOB := hide hob
      clear hst hfl hfm hop hkn hbel hta hba hE hCs hwa
      go_wp2_with fail
      rw [← unhide HWA, ← hob]
      clear HWA c0 c1 c2 c3 c4 c5 c6 c7 c8 hob
      go_loopw [8] (fun kk wx => ∃ (j : Nat) (tag lt : Nat → Nat) (S : BookSt) (L M : TwoSt), j ≤ 2 ∧ kk = .int .i64 j ∧ Turn B0 w wx pb pl pw ob Cs tag lt S L M (2 * k + if K = 4 then j else 0) ∧ (K = 4 ∨ j = 0)) (fun kk _ => 2 - (intOf kk).toNat)
      case atStart => exact ⟨0, tag, lt, S, L, M, by omega, rfl, by simpa using unhide HTA, .inr rfl⟩
      case round =>
        clear HTA
        obtain ⟨j, tag, lt, S, L, M, hj, rfl, htn, hjk⟩ := hrel
        rename World => wx
        have o0 : wx.cell? ⟨ob, 0, none⟩ = some (.int .i64 K) := by rw [unhide HOC wx _ _ _ _ _ _ htn 0, unhide HCS]; rfl
        have o7 : wx.cell? ⟨ob, 7, none⟩ = some (.slice aT nT cT) := by rw [unhide HOC wx _ _ _ _ _ _ htn 7, unhide HCS]; rfl
        by_cases hgo : j < 2 ∧ K = 4
        · obtain ⟨hj2, hK4⟩ := hgo
          have e1 : decide ((j : Int) < 2) = true := decide_eq_true (by omega)
          have e1' : decide (j < 2) = true := decide_eq_true hj2
          have e2 : (K == 4) = true := by rw [hK4]; rfl
          rw [if_pos hK4] at htn
          obtain ⟨_, _, _, _, ⟨l, hnT, hBT, hsT, _, hlT⟩, _⟩ := unhide HKN wx htn.st.bel
          have HP := hide (pack_any aT cT wx l (by omega) hBT hsT)
          have HR : Hid (∀ w1, Below wx.heap.size wx w1 → Calls Tryd.prog 11 #[.slice aT l.length cT] w1 fun e w' => ∃ v, e = .returned v ∧ OwnW w' w1.heap.size v (Larder.packL l) ∧ Below w1.heap.size w1 w') := hide (fun w1 hb1 => rpack_any aT cT w1 l (by omega) (hBT.below hb1) hsT)
          have hpl : (Larder.packL l).length ≤ 17592186044417 := by rw [Larder.packL_length]; unfold Larder.wn; omega
          generalize Larder.packL l = p at *
          subst hnT
          have HTN := hide htn
          have HK4 := hide hK4
          clear htn hBT hsT hlT hK4
          go_wp2_with fail
          refine (unhide HP).mono ?_
          rintro e w1 ⟨v1, rfl, ho1, hb1⟩
          have t1 := (unhide HTN).below hb1
          have o71 : w1.cell? ⟨ob, 7, none⟩ = some (.slice aT l.length cT) := by rw [unhide HOC w1 _ _ _ _ _ _ t1 7, unhide HCS]; rfl
          have HR1 := hide (unhide HR w1 hb1)
          obtain ⟨a1, cp1, hv1, _⟩ := ho1.shape
          have HO1 := hide ho1
          have HB1 := hide hb1
          have HT1 := hide t1
          clear ho1 hb1 t1 HP HR
          subst hv1
          go_wp2_with fail
          refine (unhide HR1).mono ?_
          rintro e w2 ⟨v2, rfl, ho2, hb2⟩
          obtain ⟨a2, cp2, hv2, hw2⟩ := ho2.shape
          have hx2 := (lineW_of_own (unhide HO1)).1.same (w' := w2) (fun g hg => hb2.block g ((lineW_of_own (unhide HO1)).1.lt g hg))
          obtain ⟨_, _, hxs, hxw⟩ := hx2.rd.wordsOf
          simp only [Value.slice.injEq] at hxs
          obtain ⟨rfl, _, rfl⟩ := hxs
          have HSM := hide (samew_yes a1 a2 cp1 cp2 w2 p (by omega) hxw hw2)
          have HO2 := hide ho2
          have HB2 := hide hb2
          clear ho2 hb2 hw2 hx2 hxw HR1 o71
          subst hv2
          go_wp2_with fail
          refine (unhide HSM).mono ?_
          rintro e w3 ⟨rfl, hb3⟩
          have hs1 := (unhide HB1).size
          have hs2 := (unhide HB2).size
          have hs3 := hb3.size
          have t3 := (((unhide HT1).below (unhide HB2)).below hb3)
          obtain ⟨lx1, bx1⟩ := lineW_of_own (unhide HO1)
          obtain ⟨ly2, by2⟩ := lineW_of_own (unhide HO2)
          have hx3 : Line w3 45 (.slice a1 p.length cp1) p.length (fun k => u64V (p.getD k 0)) := lx1.same (fun g hg => by
            have := lx1.lt g hg
            exact (hb3.block g (by omega)).trans ((unhide HB2).block g this))
          have hy3 : Line w3 45 (.slice a2 p.length cp2) p.length (fun k => u64V (p.getD k 0)) := ly2.same (fun g hg => hb3.block g (ly2.lt g hg))
          obtain ⟨lt2, hst2, tx, ty, tz⟩ := t3.st.tags2 (.slice a1 p.length cp1) (.slice a2 p.length cp2) (30 + 2 * M.G.length + 1) (8 + 1)
            (fun g hg => by
              obtain ⟨q1, q2, q3, q4, _⟩ := (unhide HTN).fresh g (bx1 g hg)
              exact ⟨q1, q2, q3, q4, hx3.lt g hg⟩)
            (fun g hg => by
              obtain ⟨q1, q2, q3, q4, _⟩ := (unhide HT1).fresh g (by2 g hg)
              exact ⟨q1, q2, q3, q4, hy3.lt g hg⟩)
            (fun g hg e => by have h1 := lx1.lt g hg; have h2 := by2 g e; omega)
          have hob2 : lt2 ob = 0 := tz ob t3.lo (fun e => by have h1 := bx1 ob e; have := (unhide HTN).lt; omega) (fun e => by have h1 := by2 ob e; have := (unhide HT1).lt; omega)
          obtain ⟨he1, he2⟩ := hst2.e2
          have c30 : w3.cell? ⟨pw, 0, none⟩ = some M.vg := hst2.words.c0
          have hMg : M.G.length ≤ 1000 := by have := t3.cnt; omega
          have HT3 := hide t3
          have HST2 := hide hst2
          have HX3 := hide hx3
          have HY3 := hide hy3
          have HTX := hide tx
          have HTY := hide ty
          have HE1 := hide he1
          have HE2 := hide he2
          clear t3 hst2 hx3 hy3 tx ty tz he1 he2 lx1 bx1 ly2 by2 hb3 HSM
          go_wp2_with (at_builtin; refine append_line rfl _ _ 29 rfl 47 i0 (.slice none 0 0) 24 Tryd.underlying29 hi hy0 hy1 hy2 rfl _ _ _ rfl ((unhide HST2).words.below ((Below.refl _ _).alloc (Nat.le_refl _) _)).rg w3.heap.size rfl (.slice a1 p.length cp1) ?c1 rfl ?c2 ?c3 ?_)
          case c1 => exact cell_made rfl _ _
          case c2 => omega
          case c3 => omega
          intro v4 w4 hl4 hg4
          obtain ⟨a4, cp4, rfl⟩ := hl4.shape
          have hbA : Below w3.heap.size w3 (w3.alloc (.cells #[.slice a1 p.length cp1] 47)) := (Below.refl _ _).alloc (Nat.le_refl _) _
          have hTA := (unhide HST2).words.below hbA
          have hxA := (unhide HX3).same (w' := w3.alloc (.cells #[.slice a1 p.length cp1] 47)) (fun g hg => hbA.block g ((unhide HX3).lt g hg))
          have hyA := (unhide HY3).same (w' := w3.alloc (.cells #[.slice a1 p.length cp1] 47)) (fun g hg => hbA.block g ((unhide HY3).lt g hg))
          have hT4 := hTA.addG (by decide) (unhide HE2) (by rw [unhide HE1]; exact Nat.le_refl _) hg4 hl4 hxA (unhide HTX)
          have hK4 := (Chg.below (c := 1) (unhide HST2).un hbA).trans (Chg.grew (c := 1) (fun g hg => Nat.lt_of_lt_of_le ((unhide HST2).un g hg) hbA.size) hg4 hTA.rg hTA.tg (by decide) (by decide))
          have hy4 := hg4.apart hyA hTA.tg (unhide HTY) (by decide)
          have ty4 : ∀ g, Value.ownBlock (.slice a2 p.length cp2) = some g → tagAt lt2 (.slice a4 (M.G.length + 1) cp4) (4 + 1) g = 8 + 1 := fun g hg => (tagAt_old hg4 hTA.tg g (hyA.lt g hg)).trans (unhide HTY g hg)
          have hT5 := hT4.setG (by decide) (.slice a4 (M.G.length + 1) cp4)
          have hK5 := hK4.trans (Chg.set (c := 1) hK4.un pw 0 (.slice a4 (M.G.length + 1) cp4) (by rw [hT4.tp]; decide) (by rw [hT4.tp]))
          have hy5 : Line (w4.setCell ⟨pw, 0, none⟩ (.slice a4 (M.G.length + 1) cp4)) 45 (.slice a2 p.length cp2) p.length (fun k => u64V (p.getD k 0)) := hy4.same (fun g hg => setCell_else w4 pw 0 g _ (fun e => by
            have h1 := unhide HTY g hg
            rw [e, (unhide HST2).words.tp] at h1
            omega))
          have c40 := hT4.c0
          have f40 := hT4.f0
          have c41 := hT4.c1
          have f41 := hT4.f1
          obtain ⟨lt4, hlt4⟩ : ∃ lt4, lt4 = tagAt lt2 (.slice a4 (M.G.length + 1) cp4) (4 + 1) := ⟨_, rfl⟩
          rw [← hlt4] at hT5 hK5 ty4
          have HT5 := hide hT5
          have HK5 := hide hK5
          have HY5 := hide hy5
          have HTY4 := hide ty4
          have hWl : M.W.length ≤ 1000 := by have := unhide HE1; omega
          clear hT4 hK4 hT5 hK5 hTA hxA hyA hbA hl4 hg4 hy4 hy5 ty4 hlt4 c30
          go_wp2_with (at_builtin; refine append_line rfl _ _ 29 rfl 47 i0 (.slice none 0 0) 24 Tryd.underlying29 hi hy0 hy1 hy2 rfl _ _ _ rfl ((unhide HT5).below ((Below.refl _ _).alloc (Nat.le_refl _) _)).rw w4.heap.size rfl (.slice a2 p.length cp2) ?c4 rfl ?c5 ?c6 ?_)
          case c4 => exact cell_made (by simp) _ _
          case c5 => show (M.W.length + 1) * 24 ≤ _; omega
          case c6 => omega
          intro v7 w7 hl7 hg7
          obtain ⟨a7, cp7, rfl⟩ := hl7.shape
          have hbB : Below (w4.setCell ⟨pw, 0, none⟩ (.slice a4 (M.G.length + 1) cp4)).heap.size (w4.setCell ⟨pw, 0, none⟩ (.slice a4 (M.G.length + 1) cp4)) ((w4.setCell ⟨pw, 0, none⟩ (.slice a4 (M.G.length + 1) cp4)).alloc (.cells #[.slice a2 p.length cp2] 47)) := (Below.refl _ _).alloc (Nat.le_refl _) _
          have hTB := (unhide HT5).below hbB
          have hyB := (unhide HY5).same (w' := (w4.setCell ⟨pw, 0, none⟩ (.slice a4 (M.G.length + 1) cp4)).alloc (.cells #[.slice a2 p.length cp2] 47)) (fun g hg => hbB.block g ((unhide HY5).lt g hg))
          have hXl : (M.X ++ [p]).getD M.W.length [] = p := getD_last _ _ _ _ ((unhide HE2).trans (unhide HE1).symm)
          have hT8 := hTB.addW (by decide) (l := p) hXl hg7 hl7 hyB.rd (unhide HTY4)
          have hK8 := ((unhide HK5).trans (Chg.below (c := 1) (unhide HK5).un hbB)).trans (Chg.grew (c := 1) (fun g hg => Nat.lt_of_lt_of_le ((unhide HK5).un g hg) hbB.size) hg7 hTB.rw hTB.tw (by decide) (by decide))
          have hT9 := hT8.setW (by decide) (.slice a7 (M.W.length + 1) cp7)
          have hK9 := hK8.trans (Chg.set (c := 1) hK8.un pw 1 (.slice a7 (M.W.length + 1) cp7) (by rw [hT8.tp]; decide) (by rw [hT8.tp]))
          have c71 := hT8.c1
          have f71 := hT8.f1
          have HEN : Hid (∃ lt' M', Turn B0 w (w7.setCell ⟨pw, 1, none⟩ (.slice a7 (M.W.length + 1) cp7)) pb pl pw ob Cs tag lt' S L M' (2 * k + (j + 1))) := hide (by
            have h3 := unhide HT3
            refine ⟨_, ⟨.slice a4 (M.G.length + 1) cp4, .slice a7 (M.W.length + 1) cp7, M.G ++ [.slice a1 p.length cp1], M.W ++ [.slice a2 p.length cp2], M.X ++ [p]⟩, ⟨(unhide HST2).second h3.sz hK9 hT9 ⟨?_, ?_⟩, ?_, h3.fl, wfine_add h3.fm (unhide HE2) hpl, (hK9.blk ob h3.lt (.inl hob2)).trans h3.oc, (hK9.tg ob h3.lt).trans hob2, h3.to, h3.po, by have := hK9.size; have := h3.sz; omega⟩⟩
            · have := unhide HE1; simp; omega
            · have := unhide HE2; simp; omega
            · have := h3.cnt; simp; omega)
          clear hTB hyB hXl hT8 hK8 hT9 hK9 hbB hl7 hg7 HT5 HK5 HY5 HTY4
          go_wp2_with fail
          obtain ⟨lt', M9, ht9⟩ := unhide HEN
          go_roundw
          case rel => exact ⟨j + 1, tag, lt', S, L, M9, by omega, by go_num, by rw [if_pos (unhide HK4)]; exact ht9, .inl (unhide HK4)⟩
          case measure => simp [intOf]; omega
        · by_cases hK4 : K = 4
          · have e1 : decide ((j : Int) < 2) = false := decide_eq_false (by omega)
            have e1' : decide (j < 2) = false := decide_eq_false (by omega)
            rw [if_pos hK4] at htn
            have htz := htn.mono (show 2 * k + j ≤ 2 * k + 2 by omega)
            have e4 : (K == 5) = false := by rw [hK4]; rfl
            have e5 : (K == 7) = false := by rw [hK4]; rfl
            have e6 : (K == 10) = false := by rw [hK4]; rfl
            clear htn hK4
            have HTY := hide htz
            clear htz
            go_wp2_with fail
            go_loopw [11] (fun kk wz => kk = .int .i64 0 ∧ wz = wx) (fun _ _ => 0)
            case atStart => exact ⟨rfl, rfl⟩
            case round =>
              obtain ⟨rfl, hww⟩ := hrel
              obtain rfl := hww.symm
              have htz := unhide HTY
              clear HTY
              have H1 := hide (settle_any htz.st htz.sz 5 (by decide) (by have := htz.cnt; omega) htz.fl)
              have HTZ := hide htz
              clear htz
              have e3 : (k : Int).tmod 3 = ((k % 3 : Nat) : Int) := rfl
              go_wp2_with fail
              refine (unhide H1).mono ?_
              rintro e w8 ⟨rfl, t8, l8, S8, L8, st8, q8, r8, z8⟩
              have hc8 : S8.turn + L8.G.length + M.G.length ≤ 2 * (k + 1) := by have := (unhide HTZ).cnt; omega
              have hf8 : Hid (Fine L8) := hide (by
                rcases r8 with e | e
                · rw [e]; exact (unhide HTZ).fl
                · rw [e]; exact fine_none)
              have hz8 : B0 ≤ w8.heap.size := by have := (unhide HTZ).sz; omega
              have HST8 := hide st8
              clear st8 H1 r8 q8 z8
              by_cases hm : k % 3 = 2
              · rw [hm] at e3
                have e3' : (k : Int).tmod 3 = 2 := e3
                have H2 := hide (wsettle_any (unhide HST8) hz8 (by omega) (unhide HTZ).fm)
                clear e3 hm
                go_wp2_with fail
                refine (unhide H2).mono ?_
                rintro e w9 ⟨rfl, t9, l9, S9, st9, q9, z9⟩
                have HEN : Hid (St B0 w w9 pb pl pw t9 l9 S9 L8 TwoSt.none ∧ S9.turn + L8.G.length + TwoSt.none.G.length ≤ 2 * (k + 1) ∧ B0 ≤ w9.heap.size) := hide ⟨st9, by show S9.turn + L8.G.length + 0 ≤ _; omega, by omega⟩
                clear st9 q9 z9 H2
                go_wp2_with fail
                go_roundw
                case rel => exact ⟨k + 1, t9, l9, S9, L8, TwoSt.none, by omega, by omega, by go_num, (unhide HEN).1, (unhide HEN).2.1, unhide hf8, wfine_none, (unhide HEN).2.2⟩
                case measure => simp [intOf]; omega
              · generalize k % 3 = r3 at *
                have d5 : ((r3 : Int) == 2) = false := by rw [beq_eq_false_iff_ne]; omega
                have d5' : (r3 == 2) = false := by rw [beq_eq_false_iff_ne]; exact hm
                have HFM := hide (unhide HTZ).fm
                go_wp2_with fail
                go_roundw
                case rel => exact ⟨k + 1, t8, l8, S8, L8, M, by omega, by omega, by go_num, unhide HST8, hc8, unhide hf8, unhide HFM, hz8⟩
                case measure => simp [intOf]; omega
          · rw [if_neg hK4] at htn
            have htn := htn
            have e2 : (K == 4) = false := by rw [beq_eq_false_iff_ne]; exact hK4
            have HTN := hide htn
            clear htn
            have hj0 : j = 0 := by
              rcases hjk with e | e
              · exact absurd e hK4
              · exact e
            have e0 : decide ((j : Int) < 2) = true := decide_eq_true (by omega)
            have e0' : decide (j < 2) = true := decide_eq_true (by omega)
            clear hj0
            by_cases hK3 : K = 5 ∨ K = 7 ∨ K = 10
            · have HK3 := hide hK3
              clear hK3 hK4 hjk
              go_wp2_with fail
              go_loopw [11] (fun kk wy => ∃ (j : Nat) (tag lt : Nat → Nat) (S : BookSt) (L M : TwoSt), j ≤ 2 ∧ kk = .int .i64 j ∧ Turn B0 w wy pb pl pw ob Cs tag lt S L M (2 * k + j)) (fun kk _ => 2 - (intOf kk).toNat)
              case atStart => exact ⟨0, tag, lt, S, L, M, by omega, rfl, unhide HTN⟩
              case round =>
                clear HTN o0 o7
                obtain ⟨j2, tag2, lt2, S2, L2, M2, hj2, rfl, htn2⟩ := hrel
                rename World => wy
                have o0 : wy.cell? ⟨ob, 0, none⟩ = some (.int .i64 K) := by rw [unhide HOC wy _ _ _ _ _ _ htn2 0, unhide HCS]; rfl
                have o1 : wy.cell? ⟨ob, 1, none⟩ = some (.int .i64 A) := by rw [unhide HOC wy _ _ _ _ _ _ htn2 1, unhide HCS]; rfl
                have o2 : wy.cell? ⟨ob, 2, none⟩ = some (.int .i64 B) := by rw [unhide HOC wy _ _ _ _ _ _ htn2 2, unhide HCS]; rfl
                have o3 : wy.cell? ⟨ob, 3, none⟩ = some (.int .i64 C) := by rw [unhide HOC wy _ _ _ _ _ _ htn2 3, unhide HCS]; rfl
                have o4 : wy.cell? ⟨ob, 4, none⟩ = some (.int .i64 N) := by rw [unhide HOC wy _ _ _ _ _ _ htn2 4, unhide HCS]; rfl
                have o5 : wy.cell? ⟨ob, 5, none⟩ = some (.int .i64 M') := by rw [unhide HOC wy _ _ _ _ _ _ htn2 5, unhide HCS]; rfl
                have o6 : wy.cell? ⟨ob, 6, none⟩ = some (.int .u64 (x : Nat)) := by rw [unhide HOC wy _ _ _ _ _ _ htn2 6, unhide HCS]; rfl
                have o7 : wy.cell? ⟨ob, 7, none⟩ = some (.slice aT nT cT) := by rw [unhide HOC wy _ _ _ _ _ _ htn2 7, unhide HCS]; rfl
                have o8 : wy.cell? ⟨ob, 8, none⟩ = some (.slice aW nW cW) := by rw [unhide HOC wy _ _ _ _ _ _ htn2 8, unhide HCS]; rfl
                by_cases hjj : j2 < 2
                · have e1 : decide ((j2 : Int) < 2) = true := decide_eq_true (by omega)
                  have e1' : decide (j2 < 2) = true := decide_eq_true hjj
                  have HTXT := hide (texts_any K A B C N M' x aT nT cT aW nW cW wy (unhide HK3) hx (unhide HKN wy htn2.st.bel))
                  have HTN2 := hide htn2
                  clear htn2
                  by_cases h5 : K = 5
                  · have e4 : (K == 5) = true := by rw [h5]; rfl
                    clear h5
                    have HAD := hide (fun (v : Value) (w1 : World) (a' : Option Addr) (cap' : Nat) (l : List Nat) (hown : OwnB w1 wy.heap.size v l) (hB : Bytes w1 a' l) (hs : Small l) (hl : l.length ≤ 140737488355328) (hf : ∀ b off, a' = some ⟨b, off, none⟩ → wy.heap.size ≤ b ∧ v.ownBlock ≠ some b) (hb1 : Below wy.heap.size wy w1) => add_any ((unhide HTN2).below hb1).st ((unhide HTN2).below hb1).sz v l (lineB_of_own hown).1 (fun g hg => by
                        obtain ⟨q1, q2, q3, q4, _⟩ := (unhide HTN2).fresh g ((lineB_of_own hown).2 g hg)
                        exact ⟨q1, q2, q3, q4⟩) a' cap' hB hs (fun b off e => ⟨((unhide HTN2).fresh b (hf b off e).1).1, (hf b off e).2⟩) hl (by have := (unhide HTN2).cnt; omega))
                    go_wp2_with fail
                    refine (unhide HTXT).mono ?_
                    rintro e w1 ⟨v, a', cap', l, rfl, hown, hB, hs, hl, hf, hb1⟩
                    obtain ⟨av, cv, hv, hBv, _⟩ := hown.shape
                    have HSM := hide (same_any av a' cv cap' w1 l l hBv hB hs hs)
                    have HA1 := hide (unhide HAD v w1 a' cap' l hown hB hs hl hf hb1)
                    have HVO : Hid (v.ownBlock ≠ some ob) := hide (fun e => by have h1 := (lineB_of_own hown).2 ob e; have h2 := (unhide HTN2).lt; omega)
                    have HSS := hide (And.intro hs hl)
                    have HB1 := hide hb1
                    rw [decide_eq_true (rfl : l = l)] at HSM
                    clear hown hB hs hl hf hb1 hBv HTXT HAD
                    subst hv
                    go_wp2_with fail
                    refine (unhide HSM).mono ?_
                    rintro e w' ⟨rfl, hw'⟩
                    obtain rfl := hw'.symm
                    go_wp2_with fail
                    refine (unhide HA1).mono ?_
                    rintro e w3 ⟨rfl, lt3, L3, st3, g3, x3, z3, k3⟩
                    have HT3 := hide (((unhide HTN2).below (unhide HB1)).add st3 g3 x3 (unhide HSS).1 (unhide HSS).2 z3 k3 (unhide HVO))
                    clear st3 g3 x3 z3 k3 HA1 HSM
                    go_wp2_with fail
                    go_roundw
                    case rel => exact ⟨j2 + 1, tag2, lt3, S2, L3, M2, by omega, by go_num, unhide HT3⟩
                    case measure => simp [intOf]; omega
                  by_cases h7 : K = 7
                  · have e4 : (K == 5) = false := by rw [beq_eq_false_iff_ne]; exact h5
                    have e5 : (K == 7) = true := by rw [h7]; rfl
                    clear h7 h5
                    have HAD := hide (fun (v : Value) (w1 : World) (a' : Option Addr) (cap' : Nat) (l : List Nat) (hown : OwnB w1 wy.heap.size v l) (hB : Bytes w1 a' l) (hs : Small l) (hl : l.length ≤ 140737488355328) (hf : ∀ b off, a' = some ⟨b, off, none⟩ → wy.heap.size ≤ b ∧ v.ownBlock ≠ some b) (hb1 : Below wy.heap.size wy w1) => add_any ((unhide HTN2).below hb1).st ((unhide HTN2).below hb1).sz v l (lineB_of_own hown).1 (fun g hg => by
                        obtain ⟨q1, q2, q3, q4, _⟩ := (unhide HTN2).fresh g ((lineB_of_own hown).2 g hg)
                        exact ⟨q1, q2, q3, q4⟩) a' cap' hB hs (fun b off e => ⟨((unhide HTN2).fresh b (hf b off e).1).1, (hf b off e).2⟩) hl (by have := (unhide HTN2).cnt; omega))
                    go_wp2_with fail
                    refine (unhide HTXT).mono ?_
                    rintro e w1 ⟨v, a', cap', l, rfl, hown, hB, hs, hl, hf, hb1⟩
                    obtain ⟨av, cv, hv, hBv, _⟩ := hown.shape
                    have HSM := hide (same_any av a' cv cap' w1 l l hBv hB hs hs)
                    have HA1 := hide (unhide HAD v w1 a' cap' l hown hB hs hl hf hb1)
                    have HVO : Hid (v.ownBlock ≠ some ob) := hide (fun e => by have h1 := (lineB_of_own hown).2 ob e; have h2 := (unhide HTN2).lt; omega)
                    have HSS := hide (And.intro hs hl)
                    have HB1 := hide hb1
                    rw [decide_eq_true (rfl : l = l)] at HSM
                    clear hown hB hs hl hf hb1 hBv HTXT HAD
                    subst hv
                    go_wp2_with fail
                    refine (unhide HSM).mono ?_
                    rintro e w' ⟨rfl, hw'⟩
                    obtain rfl := hw'.symm
                    go_wp2_with fail
                    refine (unhide HA1).mono ?_
                    rintro e w3 ⟨rfl, lt3, L3, st3, g3, x3, z3, k3⟩
                    have HT3 := hide (((unhide HTN2).below (unhide HB1)).add st3 g3 x3 (unhide HSS).1 (unhide HSS).2 z3 k3 (unhide HVO))
                    clear st3 g3 x3 z3 k3 HA1 HSM
                    go_wp2_with fail
                    go_roundw
                    case rel => exact ⟨j2 + 1, tag2, lt3, S2, L3, M2, by omega, by go_num, unhide HT3⟩
                    case measure => simp [intOf]; omega
                  have h10 : K = 10 := by
                    rcases unhide HK3 with e | e | e
                    · exact absurd e h5
                    · exact absurd e h7
                    · exact e
                  have e4 : (K == 5) = false := by rw [beq_eq_false_iff_ne]; exact h5
                  have e5 : (K == 7) = false := by rw [beq_eq_false_iff_ne]; exact h7
                  have e6 : (K == 10) = true := by rw [h10]; rfl
                  clear h5 h7 h10
                  have HAD := hide (fun (v : Value) (w1 : World) (a' : Option Addr) (cap' : Nat) (l : List Nat) (hown : OwnB w1 wy.heap.size v l) (hB : Bytes w1 a' l) (hs : Small l) (hl : l.length ≤ 140737488355328) (hf : ∀ b off, a' = some ⟨b, off, none⟩ → wy.heap.size ≤ b ∧ v.ownBlock ≠ some b) (hb1 : Below wy.heap.size wy w1) => add_any ((unhide HTN2).below hb1).st ((unhide HTN2).below hb1).sz v l (lineB_of_own hown).1 (fun g hg => by
                      obtain ⟨q1, q2, q3, q4, _⟩ := (unhide HTN2).fresh g ((lineB_of_own hown).2 g hg)
                      exact ⟨q1, q2, q3, q4⟩) a' cap' hB hs (fun b off e => ⟨((unhide HTN2).fresh b (hf b off e).1).1, (hf b off e).2⟩) hl (by have := (unhide HTN2).cnt; omega))
                  go_wp2_with fail
                  refine (unhide HTXT).mono ?_
                  rintro e w1 ⟨v, a', cap', l, rfl, hown, hB, hs, hl, hf, hb1⟩
                  obtain ⟨av, cv, hv, hBv, _⟩ := hown.shape
                  have HSM := hide (same_any av a' cv cap' w1 l l hBv hB hs hs)
                  have HA1 := hide (unhide HAD v w1 a' cap' l hown hB hs hl hf hb1)
                  have HVO : Hid (v.ownBlock ≠ some ob) := hide (fun e => by have h1 := (lineB_of_own hown).2 ob e; have h2 := (unhide HTN2).lt; omega)
                  have HSS := hide (And.intro hs hl)
                  have HB1 := hide hb1
                  rw [decide_eq_true (rfl : l = l)] at HSM
                  clear hown hB hs hl hf hb1 hBv HTXT HAD
                  subst hv
                  go_wp2_with fail
                  refine (unhide HSM).mono ?_
                  rintro e w' ⟨rfl, hw'⟩
                  obtain rfl := hw'.symm
                  go_wp2_with fail
                  refine (unhide HA1).mono ?_
                  rintro e w3 ⟨rfl, lt3, L3, st3, g3, x3, z3, k3⟩
                  have HT3 := hide (((unhide HTN2).below (unhide HB1)).add st3 g3 x3 (unhide HSS).1 (unhide HSS).2 z3 k3 (unhide HVO))
                  clear st3 g3 x3 z3 k3 HA1 HSM
                  go_wp2_with fail
                  go_roundw
                  case rel => exact ⟨j2 + 1, tag2, lt3, S2, L3, M2, by omega, by go_num, unhide HT3⟩
                  case measure => simp [intOf]; omega
                · have e1 : decide ((j2 : Int) < 2) = false := decide_eq_false (by omega)
                  have e1' : decide (j2 < 2) = false := decide_eq_false hjj
                  have htz := htn2.mono (show 2 * k + j2 ≤ 2 * k + 2 by omega)
                  clear htn2 o0 o1 o2 o3 o4 o5 o6 o7 o8
                  have H1 := hide (settle_any htz.st htz.sz 5 (by decide) (by have := htz.cnt; omega) htz.fl)
                  have HTZ := hide htz
                  clear htz
                  have e3 : (k : Int).tmod 3 = ((k % 3 : Nat) : Int) := rfl
                  go_wp2_with fail
                  refine (unhide H1).mono ?_
                  rintro e w8 ⟨rfl, t8, l8, S8, L8, st8, q8, r8, z8⟩
                  have hc8 : S8.turn + L8.G.length + M2.G.length ≤ 2 * (k + 1) := by have := (unhide HTZ).cnt; omega
                  have hf8 : Hid (Fine L8) := hide (by
                    rcases r8 with e | e
                    · rw [e]; exact (unhide HTZ).fl
                    · rw [e]; exact fine_none)
                  have hz8 : B0 ≤ w8.heap.size := by have := (unhide HTZ).sz; omega
                  have HST8 := hide st8
                  clear st8 H1 r8 q8 z8
                  by_cases hm : k % 3 = 2
                  · rw [hm] at e3
                    have e3' : (k : Int).tmod 3 = 2 := e3
                    have H2 := hide (wsettle_any (unhide HST8) hz8 (by omega) (unhide HTZ).fm)
                    clear e3 hm
                    go_wp2_with fail
                    refine (unhide H2).mono ?_
                    rintro e w9 ⟨rfl, t9, l9, S9, st9, q9, z9⟩
                    have HEN : Hid (St B0 w w9 pb pl pw t9 l9 S9 L8 TwoSt.none ∧ S9.turn + L8.G.length + TwoSt.none.G.length ≤ 2 * (k + 1) ∧ B0 ≤ w9.heap.size) := hide ⟨st9, by show S9.turn + L8.G.length + 0 ≤ _; omega, by omega⟩
                    clear st9 q9 z9 H2
                    go_wp2_with fail
                    go_roundw
                    case rel => exact ⟨k + 1, t9, l9, S9, L8, TwoSt.none, by omega, by omega, by go_num, (unhide HEN).1, (unhide HEN).2.1, unhide hf8, wfine_none, (unhide HEN).2.2⟩
                    case measure => simp [intOf]; omega
                  · generalize k % 3 = r3 at *
                    have d5 : ((r3 : Int) == 2) = false := by rw [beq_eq_false_iff_ne]; omega
                    have d5' : (r3 == 2) = false := by rw [beq_eq_false_iff_ne]; exact hm
                    have HFM := hide (unhide HTZ).fm
                    go_wp2_with fail
                    go_roundw
                    case rel => exact ⟨k + 1, t8, l8, S8, L8, M2, by omega, by omega, by go_num, unhide HST8, hc8, unhide hf8, unhide HFM, hz8⟩
                    case measure => simp [intOf]; omega
            · have e4 : (K == 5) = false := by rw [beq_eq_false_iff_ne]; exact fun e => hK3 (.inl e)
              have e5 : (K == 7) = false := by rw [beq_eq_false_iff_ne]; exact fun e => hK3 (.inr (.inl e))
              have e6 : (K == 10) = false := by rw [beq_eq_false_iff_ne]; exact fun e => hK3 (.inr (.inr e))
              clear hK3 hK4 hjk
              go_wp2_with fail
              go_loopw [11] (fun kk wz => kk = .int .i64 0 ∧ wz = wx) (fun _ _ => 0)
              case atStart => exact ⟨rfl, rfl⟩
              case round =>
                obtain ⟨rfl, hww⟩ := hrel
                obtain rfl := hww.symm
                have htz := (unhide HTN).mono (show 2 * k + 0 ≤ 2 * k + 2 by omega)
                clear HTN
                have H1 := hide (settle_any htz.st htz.sz 5 (by decide) (by have := htz.cnt; omega) htz.fl)
                have HTZ := hide htz
                clear htz
                have e3 : (k : Int).tmod 3 = ((k % 3 : Nat) : Int) := rfl
                go_wp2_with fail
                refine (unhide H1).mono ?_
                rintro e w8 ⟨rfl, t8, l8, S8, L8, st8, q8, r8, z8⟩
                have hc8 : S8.turn + L8.G.length + M.G.length ≤ 2 * (k + 1) := by have := (unhide HTZ).cnt; omega
                have hf8 : Hid (Fine L8) := hide (by
                  rcases r8 with e | e
                  · rw [e]; exact (unhide HTZ).fl
                  · rw [e]; exact fine_none)
                have hz8 : B0 ≤ w8.heap.size := by have := (unhide HTZ).sz; omega
                have HST8 := hide st8
                clear st8 H1 r8 q8 z8
                by_cases hm : k % 3 = 2
                · rw [hm] at e3
                  have e3' : (k : Int).tmod 3 = 2 := e3
                  have H2 := hide (wsettle_any (unhide HST8) hz8 (by omega) (unhide HTZ).fm)
                  clear e3 hm
                  go_wp2_with fail
                  refine (unhide H2).mono ?_
                  rintro e w9 ⟨rfl, t9, l9, S9, st9, q9, z9⟩
                  have HEN : Hid (St B0 w w9 pb pl pw t9 l9 S9 L8 TwoSt.none ∧ S9.turn + L8.G.length + TwoSt.none.G.length ≤ 2 * (k + 1) ∧ B0 ≤ w9.heap.size) := hide ⟨st9, by show S9.turn + L8.G.length + 0 ≤ _; omega, by omega⟩
                  clear st9 q9 z9 H2
                  go_wp2_with fail
                  go_roundw
                  case rel => exact ⟨k + 1, t9, l9, S9, L8, TwoSt.none, by omega, by omega, by go_num, (unhide HEN).1, (unhide HEN).2.1, unhide hf8, wfine_none, (unhide HEN).2.2⟩
                  case measure => simp [intOf]; omega
                · generalize k % 3 = r3 at *
                  have d5 : ((r3 : Int) == 2) = false := by rw [beq_eq_false_iff_ne]; omega
                  have d5' : (r3 == 2) = false := by rw [beq_eq_false_iff_ne]; exact hm
                  have HFM := hide (unhide HTZ).fm
                  go_wp2_with fail
                  go_roundw
                  case rel => exact ⟨k + 1, t8, l8, S8, L8, M, by omega, by omega, by go_num, unhide HST8, hc8, unhide hf8, unhide HFM, hz8⟩
                  case measure => simp [intOf]; omega
    · by_cases hkn : k < n
      · have d1 : decide ((k : Int) < (n : Int)) = true := decide_eq_true (by omega)
        have d1' : decide (k < n) = true := decide_eq_true hkn
        have d2 : decide ((k : Int) < 400) = false := decide_eq_false (by omega)
        have d2' : decide (k < 400) = false := decide_eq_false (by omega)
        have H1 := hide (settle_any hst hsz 0 (by decide) (by omega) hfl)
        have HFM := hide hfm
        clear hst hfl hfm
        go_wp2_with fail
        refine (unhide H1).mono ?_
        rintro e w1 ⟨rfl, t1, l1, S1, L1, st1, q1, _, z1⟩
        have H2 := hide (wsettle_any st1 (by omega) (by omega) (unhide HFM))
        clear st1 H1
        go_wp2_with fail
        refine (unhide H2).mono ?_
        rintro e w2 ⟨rfl, t2, l2, S2, st2, _, _⟩
        have HBL : Hid (Below w.heap.size w w2) := hide (by have := st2.bel; rw [unhide HB0] at this; exact this)
        clear st2 H2
        go_wp2
        go_ret
        exact ⟨rfl, unhide HBL⟩
      · have d1 : decide ((k : Int) < (n : Int)) = false := decide_eq_false (by omega)
        have d1' : decide (k < n) = false := decide_eq_false hkn
        have H1 := hide (settle_any hst hsz 0 (by decide) (by omega) hfl)
        have HFM := hide hfm
        clear hst hfl hfm
        go_wp2_with fail
        refine (unhide H1).mono ?_
        rintro e w1 ⟨rfl, t1, l1, S1, L1, st1, q1, _, z1⟩
        have H2 := hide (wsettle_any st1 (by omega) (by omega) (unhide HFM))
        clear st1 H1
        go_wp2_with fail
        refine (unhide H2).mono ?_
        rintro e w2 ⟨rfl, t2, l2, S2, st2, _, _⟩
        have HBL : Hid (Below w.heap.size w w2) := hide (by have := st2.bel; rw [unhide HB0] at this; exact this)
        clear st2 H2
        go_wp2
        go_ret
        exact ⟨rfl, unhide HBL⟩
end Go.Proofs.YtochdajeocganabDoor
