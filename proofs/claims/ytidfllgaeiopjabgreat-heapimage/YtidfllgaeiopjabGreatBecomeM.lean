import Derived.Test.YtidfllgaeiopjabGreatBecome
namespace Go.Proofs.YtidfllgaeiopjabGreat
open Go.ChangeShapes Go.WideShapes Go.ChangeAt Go.RowKit
set_option linter.unusedVariables false
set_option maxRecDepth 100000
set_option maxHeartbeats 1000000
theorem midA_used (M:Hp) (ok:HpOk M) (cop:List Nat):(midA M cop).used=M.used:=by
 rw[ok.us]
 show place (shapes M M.small) (shapes M M.small).length=_
 rw[shapes_length]
theorem become_any {w:World}{ph:Nat}{tag:Nat→Nat}{M:Hp}{H:HC} (h:HAt w ph tag M H) (n:Nat) (h1:64≤n) (h2:M.used≤n) (h3:2*n+M.large≤M.limit) (hr:M.resz≤1000000000000):
  Calls Tryz.prog 113 #[.pointer (some ⟨ph,0,none⟩),.int .i64 (n:Nat)] w fun e w'=>e=.returned (.tuple #[])∧∃ tag' H',HAt w' ph tag' (becM M n) H'∧Fr tag tag' w w':=by
 have wf:=h.wf
 have ok:=wf.ok
 have hA:=h.raw.hA
 rw[h.A] at hA
 have hsz:(midA M []).size=M.half:=rfl
 by_cases hne:n=M.half
 ·have e1:becM M n=M:=by unfold becM;rw[if_pos hne]
  rw[e1,hne]
  refine (become_same h.raw.n1 (r_size hA)).mono ?_
  rintro e w' ⟨rfl,rfl⟩
  exact ⟨rfl,tag,H,h,Fr.refl _⟩
 ·have hl2:=wf.l2
  have hph:ph<w.heap.size:=h.raw.un ph (by rw[h.raw.t1];decide)
  have hal:=hA.lt
  have eM:becM M n = { M with half:=n,resz:=M.resz+1 }:=by unfold becM;rw[if_neg hne]
  refine become_walk (R:=fun w'=>∃ tag' H',HAt w' ph tag' (becM M n) H'∧Fr tag tag' w w') (sz:=M.half) (rz:=H.resz) (I1:=fun a W=>ArR W a (RefSt.new n)∧(w.heap.size≤a.1∧w.heap.size≤a.2.1∧w.heap.size≤a.2.2)∧Below w.heap.size w W)
   (I2:=fun a W=>ArR W a ⟨(midA M []).L,(midA M []).X,(midA M []).L.map (fun _=>none),[],.slice none 0 0,n⟩∧(w.heap.size≤a.1∧w.heap.size≤a.2.1∧w.heap.size≤a.2.2)∧∃ W1,Below w.heap.size w W1∧But [a.1,a.2.2,a.2.1,H.a.2.1] W1 W)
   hne (by rw[h.nR];exact hr) h.raw.n1 (r_size hA) ((r_new n (by omega) (by omega) w).mono ?_) (fun a W hI=>?_) (fun a W hI=>?_) (fun a W hI=>?_)
  ·rintro e w' ⟨a,rfl,q1,q2,q3⟩
   exact ⟨a,rfl,q1,q2,q3⟩
  ·exact (hI.2.2.cell (p:=⟨ph,1,none⟩) hph).trans h.raw.n1
  ·obtain ⟨q1,q2,q3⟩:=hI
   have hA':=hA.conf q3.size (q3.block _ hal.1) (q3.block _ hal.2.1) (q3.block _ hal.2.2)
   refine (takeAll_any hA' q1 (fun j hj=>?_) (fun x hx hy=>?_) (by rw[midA_used M ok];exact h2)).mono ?_
   ·show (M.small.map _).getD j none=none
    have hj':j<M.small.length:=by have:j<(shapes M M.small).length:=hj;rw[shapes_length] at this;exact this
    rw[getD_map_in _ _ _ 0 none hj',if_neg (by simp)]
   ·simp only[List.mem_cons,List.not_mem_nil,or_false] at hx hy
    rcases hx with rfl|rfl|rfl <;> rcases hy with e|e|e <;> omega
   ·rintro e w' ⟨rfl,g1,g2⟩
    exact ⟨rfl,g1,q2,W,q3,g2⟩
  ·obtain ⟨q1,q2,W1,q3,q4⟩:=hI
   have hW:w.heap.size≤W.heap.size:=Nat.le_trans q3.size q4.size
   have hWg:∀ g,g<w.heap.size→tag g≠2→W.heap[g]?=w.heap[g]?:=fun g hg ht=>by
    rw[q4.block g (Nat.lt_of_lt_of_le hg q3.size) (fun hm=>by
     simp only[List.mem_cons,List.not_mem_nil,or_false] at hm
     rcases hm with e|e|e|e
     ·omega
     ·omega
     ·omega
     ·exact ht (by rw[e];exact h.raw.tA.2.1)),q3.block g hg]
   refine (r_new n (by omega) (by omega) W).mono ?_
   rintro e w' ⟨s,rfl,s1,s2,s3⟩
   have hg':∀ g,g<w.heap.size→tag g≠2→w'.heap[g]?=w.heap[g]?:=fun g hg ht=>(s3.block g (by omega)).trans (hWg g hg ht)
   have hphb:=hg' ph hph (by rw[h.raw.t1];decide)
   have hc:=cell_like hphb
   have hf:=froz_like hphb
   refine ⟨s,rfl,⟨(hc 1).trans h.raw.n1,⟨_,(hc 2).trans h.raw.n2⟩,(hc 13).trans h.raw.n13,(hf 1).trans (h.raw.fz 1 (by decide)),(hf 2).trans (h.raw.fz 2 (by decide)),(hf 13).trans (h.raw.fz 13 (by decide))⟩,?_⟩
   obtain ⟨W9,hW9⟩:∃ W9,((w'.setCell ⟨ph,1,none⟩ (.pointer (some ⟨a.1,0,none⟩))).setCell ⟨ph,2,none⟩ (.pointer (some ⟨s.1,0,none⟩))).setCell ⟨ph,13,none⟩ (.int .i64 ((H.resz:Int)+1))=W9:=⟨_,rfl⟩
   rw[hW9]
   have h9:∀ g,g≠ph→W9.heap[g]?=w'.heap[g]?:=fun g hg=>by rw[← hW9,setCell_else _ _ _ _ _ hg,setCell_else _ _ _ _ _ hg,setCell_else _ _ _ _ _ hg]
   have z9:W9.heap.size=w'.heap.size:=by rw[← hW9,World.size_setCell,World.size_setCell,World.size_setCell]
   have c9:∀ q,q≠1→q≠2→q≠13→W9.cell? ⟨ph,q,none⟩=w.cell? ⟨ph,q,none⟩:=fun q k1 k2 k3=>by
    rw[← hW9,World.cell?_setCell_other _ _ _ _ (by intro e;cases e;exact k3 rfl),World.cell?_setCell_other _ _ _ _ (by intro e;cases e;exact k2 rfl),World.cell?_setCell_other _ _ _ _ (by intro e;cases e;exact k1 rfl)]
    exact hc q
   have f9:∀ q,W9.frozen? ⟨ph,q,none⟩=w.frozen? ⟨ph,q,none⟩:=fun q=>by
    rw[← hW9,World.frozen?_setCell,World.frozen?_setCell,World.frozen?_setCell];exact hf q
   have k1:W9.cell? ⟨ph,1,none⟩=some (.pointer (some ⟨a.1,0,none⟩)):=by
    rw[← hW9,World.cell?_setCell_other _ _ _ _ (by simp),World.cell?_setCell_other _ _ _ _ (by simp)]
    exact World.cell?_setCell_same' _ _ _ (by rw[hc 1,h.raw.n1];rfl)
   have k2:W9.cell? ⟨ph,2,none⟩=some (.pointer (some ⟨s.1,0,none⟩)):=by
    rw[← hW9,World.cell?_setCell_other _ _ _ _ (by simp)]
    exact World.cell?_setCell_same' _ _ _ (by rw[World.cell?_setCell_other _ _ _ _ (by simp),hc 2,h.raw.n2];rfl)
   have k13:W9.cell? ⟨ph,13,none⟩=some (.int .i64 ((H.resz+1:Nat):Int)):=by
    rw[← hW9]
    exact World.cell?_setCell_same' _ _ _ (by rw[World.cell?_setCell_other _ _ _ _ (by simp),World.cell?_setCell_other _ _ _ _ (by simp),hc 13,h.raw.n13];rfl)
   have la:=q1.lt
   have ls:=s1.lt
   have aA:ArR W9 a ⟨(midA M []).L,(midA M []).X,(midA M []).L.map (fun _=>none),[],.slice none 0 0,n⟩:=q1.conf (by rw[z9];exact s3.size) ((h9 _ (by omega)).trans (s3.block _ la.1)) ((h9 _ (by omega)).trans (s3.block _ la.2.1)) ((h9 _ (by omega)).trans (s3.block _ la.2.2))
   have aS:ArR W9 s (RefSt.new n):=s1.conf (by rw[z9];exact Nat.le_refl _) (h9 _ (by omega)) (h9 _ (by omega)) (h9 _ (by omega))
   have aA':ArR W9 a (midA { M with half:=n,resz:=M.resz+1 } []):=aA.like rfl rfl (by
    show M.small.map _=(shapes M M.small).map _
    unfold shapes
    rw[List.map_map]
    exact List.map_congr_left (fun i _=>by rw[if_neg (by simp)];rfl)) rfl
   obtain ⟨r1,r2⟩:=h.raw.halves a s _ _ (H.resz+1) (by rw[z9];exact Nat.le_trans hW s3.size) ⟨by rw[← hW9];exact s3.os.trans (q4.os.trans q3.os),by rw[← hW9];exact s3.tape.trans (q4.tape.trans q3.tape),by rw[← hW9];exact s3.output.trans (q4.output.trans q3.output)⟩ (fun g hg k1 k2=>(h9 g k2).trans (hg' g hg k1)) c9 f9 k1 k2 k13 aA' aS q2 ⟨by omega,by omega,by omega⟩ (fun x hx hy=>by
    simp only[List.mem_cons,List.not_mem_nil,or_false] at hx hy
    rcases hx with rfl|rfl|rfl <;> rcases hy with e|e|e <;> omega)
   rw[eM]
   refine ⟨_,_,⟨r1,?_,h.nL,h.nG,h.nK,h.nM,h.nC,?_,rfl,rfl,h.cB,h.bk,h.re,h.cH,h.lB,h.lH⟩,r2⟩
   ·have:=becM_wf wf n h1 h2 h3;rw[eM] at this;exact this
   ·show H.resz+1=M.resz+1;rw[h.nR]
end Go.Proofs.YtidfllgaeiopjabGreat
