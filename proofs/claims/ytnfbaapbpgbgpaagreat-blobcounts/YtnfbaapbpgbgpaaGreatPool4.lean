import Derived.Test.YtnfbaapbpgbgpaaGreatByteM
import Derived.Test.YtnfbaapbpgbgpaaGreatStep
import Derived.Deep.RegionWith
import Derived.Deep.RegionHeld3
namespace Go.Proofs.YtnfbaapbpgbgpaaGreat
open Go.ChangeShapes Go.WideShapes Go.ChangeAt Go.RowKit
set_option linter.unusedVariables false
set_option maxRecDepth 100000
set_option maxHeartbeats 2000000
structure NChg (b o:Nat) (v:Value) (w w':World):Prop where
 but:But (b :: gB v) w w'
 cell:∀ k,k≠o→w'.cell? ⟨b,k,none⟩=w.cell? ⟨b,k,none⟩
 froz:∀ k,w'.frozen? ⟨b,k,none⟩=w.frozen? ⟨b,k,none⟩
theorem Tryz.info3:(Tryz.prog.info? 3).map (fun i=>(i.zero,i.size,i.bytes))=some (some (.int .i64 0),1,8):=by kernel_rfl
theorem cell_made {w:World}{b:Nat} (hb:w.heap.size=b) (x:Value) (t:TypeId):(w.alloc (.cells #[x] t)).cell? ⟨b,0,none⟩=some x:=by
 subst hb
 have h:=heap_alloc_new w (.cells #[x] t)
 simp only[World.cell?,h]
 rfl
theorem mem_gB {v:Value}{k:Nat}:k∈gB v↔v.ownBlock=some k:=by
 unfold gB;cases v.ownBlock <;> simp [eq_comm]
theorem Grew.nchg {b o:Nat}{v v':Value}{n:Nat}{u:Value}{w w1 w2:World} (hb:b<w.heap.size) (hap:v.ownBlock≠some b) (h1:Below w.heap.size w w1) (hg:Grew 3 n u w1 w2 v v'):
  NChg b o v w w2∧v'.ownBlock≠some b∧(∀ g,v'.ownBlock=some g→v.ownBlock=some g∨w.heap.size≤g)∧w2.heap[b]?=w.heap[b]?:=by
 have hbb:w2.heap[b]?=w.heap[b]?:=(hg.other b (Nat.lt_of_lt_of_le hb h1.size) hap).trans (h1.block b hb)
 refine ⟨⟨⟨hg.os.trans h1.os,hg.tape.trans h1.tape,hg.output.trans h1.output,Nat.le_trans h1.size hg.size,fun j hj hn=>?_⟩,fun k _=>by simp only[World.cell?,hbb],fun k=>by simp only[World.frozen?,hbb]⟩,?_,?_,hbb⟩
 ·simp only[List.mem_cons,not_or,mem_gB] at hn
  exact (hg.other j (Nat.lt_of_lt_of_le hj h1.size) hn.2).trans (h1.block j hj)
 ·rcases hg.how with ⟨g,cur,e1,e2,_⟩|⟨e,_⟩
  ·rw[e2,← e1];exact hap
  ·rw[e];intro h;cases h;have:=h1.size;omega
 ·intro g hv
  rcases hg.how with ⟨g',cur,e1,e2,_⟩|⟨e,_⟩
  ·left;rw[e1,← e2];exact hv
  ·right;rw[e] at hv;cases hv;exact h1.size
theorem NChg.set {b o:Nat}{v:Value}{w w':World} (h:NChg b o v w w') (u:Value):NChg b o v w (w'.setCell ⟨b,o,none⟩ u):=
 ⟨h.but.set ⟨b,o,none⟩ (by simp) u,fun k hk=>(World.cell?_setCell_other _ _ _ _ (by intro e;cases e;exact hk rfl)).trans (h.cell k hk),fun k=>by rw[World.frozen?_setCell];exact h.froz k⟩
theorem npush_any {b o:Nat}{v:Value}{l:List Nat} (w:World) (hcell:w.cell? ⟨b,o,none⟩=some v) (hfr:w.frozen? ⟨b,o,none⟩=false) (hL:Line w 3 v l.length (nv l)) (hap:v.ownBlock≠some b) (hlen:l.length≤1099511627776) (x:Nat):
  Calls Tryz.prog 206 #[.pointer (some ⟨b,o,none⟩),.iface 3 (.int .i64 (x:Nat))] w fun e w'=>e=.returned (.tuple #[])∧∃ v',w'.cell? ⟨b,o,none⟩=some v'∧Line w' 3 v' (l.length+1) (nv (l ++ [x]))∧v'.ownBlock≠some b∧(∀ g,v'.ownBlock=some g→v.ownBlock=some g∨w.heap.size≤g)∧NChg b o v w w':=by
 obtain ⟨i0,hi,hy0,hy1,hy2⟩:=info_parts Tryz.info3
 have hbw:b<w.heap.size:=by have:=block_lt_of_cell hcell;simpa using this
 have hbA:Below w.heap.size w (w.drew.alloc (.cells #[.int .i64 (x:Nat)] 3)):=(Below.refl _ _).drew.alloc (Nat.le_refl _) _
 have hta:∀ W:World,(Instr.typeAssert (.iface 3 (.int .i64 (x:Nat))) 20 3 false).run Tryz.prog W=.ok (.int .i64 (x:Nat)) W:=fun _=>by kernel_rfl
 have HROW:Hid (Line (w.drew.alloc (.cells #[.int .i64 (x:Nat)] 3)) 3 v l.length (nv l)):=hide (hL.same (fun g hg=>hbA.block g (hL.lt g hg)))
 have C1:Hid ((w.drew.alloc (.cells #[.int .i64 (x:Nat)] 3)).cell? ⟨w.heap.size,0,none⟩=some (.int .i64 (x:Nat))):=hide (cell_made rfl _ _)
 have HFIN:Hid (∀ v' w',Line w' 3 v' (l.length+1) (fun j=>if j<l.length then nv l j else .int .i64 (x:Nat))→Grew 3 l.length (.int .i64 (x:Nat)) (w.drew.alloc (.cells #[.int .i64 (x:Nat)] 3)) w' v v'→w'.cell? ⟨b,o,none⟩=some v∧w'.frozen? ⟨b,o,none⟩=false∧(∃ a cap,v'=.slice a (l.length+1) cap)∧
   ∀ W,W.heap=(w'.setCell ⟨b,o,none⟩ v').heap→W.os=w'.os→W.tape=w'.tape→W.output=w'.output→∃ v',W.cell? ⟨b,o,none⟩=some v'∧Line W 3 v' (l.length+1) (nv (l ++ [x]))∧v'.ownBlock≠some b∧(∀ g,v'.ownBlock=some g→v.ownBlock=some g∨w.heap.size≤g)∧NChg b o v w W):=hide (fun v' w' h1 h2=>by
  obtain ⟨n1,n2,n3,n4⟩:=h2.nchg (o:=o) hbw hap hbA
  have hcc:w'.cell? ⟨b,o,none⟩=some v:=by rw[← hcell];simp only[World.cell?,n4]
  refine ⟨hcc,by rw[← hfr];simp only[World.frozen?,n4],h1.shape,fun W eh e1 e2 e3=>?_⟩
  have k1:=n1.set v'
  refine ⟨v',?_,?_,n2,n3,⟨⟨e1.trans k1.but.os,e2.trans k1.but.tape,e3.trans k1.but.output,by rw[eh];exact k1.but.size,fun j hj hn=>by rw[eh];exact k1.but.block j hj hn⟩,fun k hk=>?_,fun k=>?_⟩⟩
  ·have:=World.cell?_setCell_same' w' ⟨b,o,none⟩ v' (by rw[hcc];rfl)
   rw[← this];simp only[World.cell?,eh]
  ·refine (h1.same (w':=W) (fun g hg=>?_)).congr (fun j hj=>?_)
   ·rw[eh,setCell_else _ _ _ _ _ (by rintro rfl;exact n2 hg)]
   ·unfold nv
    by_cases e:j<l.length
    ·rw[if_pos e,List.getD_eq_getElem?_getD,List.getD_eq_getElem?_getD,List.getElem?_append_left e]
    ·rw[if_neg e,List.getD_eq_getElem?_getD,List.getElem?_append_right (by omega),show j-l.length=0 by omega];rfl
  ·rw[← k1.cell k hk];simp only[World.cell?,eh]
  ·rw[← k1.froz k];simp only[World.frozen?,eh])
 obtain ⟨a,cap,hv⟩:=hL.shape
 subst hv
 have cA:(w.alloc (.cells #[.int .i64 (x:Nat)] 3)).cell? ⟨b,o,none⟩=some (.slice a l.length cap):=by
  have:=hbA.cell (p:=⟨b,o,none⟩) hbw
  exact this.trans hcell
 clear hL hap hbw hbA
 go_enter Tryz.func206,Tryz.ntmps206
 go_wp2_with fail
 go_region_law (refine step_append_line rfl (.tmp 7) (.tmp 10) 88 rfl 3 i0 (.int .i64 0) 8 Tryz.underlying88 hi hy0 hy1 hy2 rfl (.slice a l.length cap) l.length _ (by simp [Act.eval]) (unhide HROW) w.heap.size (by simp [Act.eval]) (.int .i64 (x:Nat)) (unhide C1) rfl (by omega) (by omega) ?_;intro v9 w9 hl9 hg9;obtain ⟨k1,k2,⟨a9,cp9,rfl⟩,hst⟩:=unhide HFIN _ _ hl9 hg9;clear hl9 hg9)
 all_goals (go_end0;exact ⟨rfl,hst _ rfl rfl rfl rfl⟩)
theorem NChg.more {b o:Nat}{v v1:Value}{w w1 w2:World} (h:NChg b o v w w1) (hb:b<w.heap.size) (hf:∀ g,v1.ownBlock=some g→v.ownBlock=some g∨w.heap.size≤g) (hap:v1.ownBlock≠some b) (k:But (gB v1) w1 w2):NChg b o v w w2:=by
 have hb1:b<w1.heap.size:=Nat.lt_of_lt_of_le hb h.but.size
 have hng:=not_gB hap
 refine ⟨⟨k.os.trans h.but.os,k.tape.trans h.but.tape,k.output.trans h.but.output,Nat.le_trans h.but.size k.size,fun j hj hn=>?_⟩,fun q hq=>(k.cell (q:=⟨b,q,none⟩) hb1 hng).trans (h.cell q hq),fun q=>(k.frozen (q:=⟨b,q,none⟩) hb1 hng).trans (h.froz q)⟩
 refine (k.block j (Nat.lt_of_lt_of_le hj h.but.size) (fun hm=>?_)).trans (h.but.block j hj hn)
 simp only[List.mem_cons,not_or,mem_gB] at hn
 rcases hf j (mem_gB.1 hm) with e|e
 ·exact hn.2 e
 ·omega
theorem NChg.trans {b o:Nat}{v:Value}{w w1 w2:World} (h:NChg b o v w w1) (k:NChg b o v w1 w2):NChg b o v w w2:=
 ⟨h.but.trans k.but,fun q hq=>(k.cell q hq).trans (h.cell q hq),fun q=>(k.froz q).trans (h.froz q)⟩
theorem push_any {b o:Nat}{v:Value}{l:List Nat} (w:World) (hcell:w.cell? ⟨b,o,none⟩=some v) (hfr:w.frozen? ⟨b,o,none⟩=false) (hL:Line w 3 v l.length (nv l)) (hap:v.ownBlock≠some b) (hlen:l.length≤1000000000) (hO:HO l.length (fun k=>l.getD k 0)) (x:Nat):
  Calls Tryz.prog 126 #[.iface 191 (.pointer (some ⟨b,o,none⟩)),.iface 3 (.int .i64 (x:Nat))] w fun e w'=>e=.returned (.tuple #[])∧∃ v' l',l'.Perm (x :: l)∧HO l'.length (fun k=>l'.getD k 0)∧w'.cell? ⟨b,o,none⟩=some v'∧Line w' 3 v' l'.length (nv l')∧v'.ownBlock≠some b∧(∀ g,v'.ownBlock=some g→v.ownBlock=some g∨w.heap.size≤g)∧NChg b o v w w':=by
 have hbw:b<w.heap.size:=by have:=block_lt_of_cell hcell;simpa using this
 have HP:=hide (npush_any w hcell hfr hL hap (by omega) x)
 have hl1:(l ++ [x]).length=l.length+1:=by simp
 have HU0:Hid (UpI (l.length+1) (fun k=>(l ++ [x]).getD k 0) l.length):=hide (UpI.start (fun i h1 h2=>by
  have e:∀ k,k<l.length→(l ++ [x]).getD k 0=l.getD k 0:=fun k hk=>by rw[List.getD_eq_getElem?_getD,List.getD_eq_getElem?_getD,List.getElem?_append_left hk]
  show (l ++ [x]).getD ((i-1) / 2) 0≤(l ++ [x]).getD i 0
  rw[e _ (by omega),e _ h2];exact hO i h1 h2))
 have hm:=m_push w b o
 clear hL hcell hfr hO
 go_enter Tryz.func126,Tryz.ntmps126
 go_wp2_with fail
 refine (unhide HP).mono ?_
 clear HP hm
 rintro e w1 ⟨rfl,v1,hc1,hl1',hap1,hf1,hn1⟩
 obtain ⟨a1,cp1,hv1⟩:=hl1'.shape
 have hm:=m_len w1 b o v1 hc1
 have HU:=hide (up_any (l:=l ++ [x]) w1 hc1 (by rw[hl1];exact hl1') hap1 (by omega) l.length (by omega) (by rw[hl1];exact unhide HU0))
 rw[hl1] at HU
 have HQ:=hide (And.intro hap1 (And.intro hf1 hn1))
 have HC1:=hide hc1
 have HLN:=hide (len_any w1 a1 (l.length+1) cp1)
 subst hv1
 clear hc1 hl1' hap1 hf1 hn1 hl1 HU0
 go_wp2_with fail
 refine (unhide HLN).mono ?_
 clear HLN hm
 rintro e w2 ⟨rfl,rfl⟩
 go_wp2_with fail
 refine (unhide HU).mono ?_
 clear HU
 rintro e w3 ⟨rfl,l',hp,ho,hl3,hb3⟩
 obtain ⟨hap1,hf1,hn1⟩:=unhide HQ
 have hb1:b<w2.heap.size:=Nat.lt_of_lt_of_le hbw hn1.but.size
 have hll:l'.length=l.length+1:=by rw[hp.length_eq];simp
 have HF:=hide (show ∃ v' l',l'.Perm (x :: l)∧HO l'.length (fun k=>l'.getD k 0)∧w3.cell? ⟨b,o,none⟩=some v'∧Line w3 3 v' l'.length (nv l')∧v'.ownBlock≠some b∧(∀ g,v'.ownBlock=some g→v.ownBlock=some g∨w.heap.size≤g)∧NChg b o v w w3 from
  ⟨_,l',hp.trans (by simp),by rw[hll];exact ho,(hb3.cell (q:=⟨b,o,none⟩) hb1 (not_gB hap1)).trans (unhide HC1),by rw[hll];exact hl3,hap1,hf1,hn1.more hbw hf1 hap1 hb3⟩)
 clear hp ho hl3 hb3 hap1 hf1 hn1 HQ HC1 hll hb1 hbw
 go_wp2
 go_end0
 exact ⟨rfl,unhide HF⟩
theorem Line.cut {w:World}{e:TypeId}{g cap n m:Nat}{f:Nat→Value} (h:Line w e (.slice (some ⟨g,0,none⟩) n cap) n f) (hm:m≤n):Line w e (.slice (some ⟨g,0,none⟩) m cap) m f:=by
 rcases h with ⟨h1,_⟩|⟨g',cap',cur,h1,h2,h3,h4,h5,h6⟩
 ·cases h1
 ·cases h1
  exact .inr ⟨g,cap,cur,rfl,h2,by omega,h4,h5,fun j hj=>h6 j (by omega)⟩
theorem npop_any {b o:Nat}{v:Value}{l:List Nat} (w:World) (hcell:w.cell? ⟨b,o,none⟩=some v) (hfr:w.frozen? ⟨b,o,none⟩=false) (hL:Line w 3 v l.length (nv l)) (hap:v.ownBlock≠some b) (n:Nat) (hn:l.length=n+1) (hlen:n≤1099511627776):
  Calls Tryz.prog 205 #[.pointer (some ⟨b,o,none⟩)] w fun e w'=>e=.returned (.iface 3 (.int .i64 (l.getD n 0:Nat)))∧∃ v',w'.cell? ⟨b,o,none⟩=some v'∧Line w' 3 v' n (nv (l.take n))∧v'.ownBlock=v.ownBlock∧NChg b o v w w':=by
 have hbw:b<w.heap.size:=by have:=block_lt_of_cell hcell;simpa using this
 obtain ⟨g,cap,rfl,hg,hc⟩:=hL.at (by omega)
 rw[hn] at hL hc hcell
 have c1:=(hc n (by omega)).1
 unfold nv at c1
 have hcap:n+1≤cap:=by
  rcases hL with ⟨h1,_⟩|⟨g',cap',cur,h1,h2,h3,h4,h5,h6⟩
  ·cases h1
  ·cases h1;exact h3
 have HFIN:Hid (∀ W,W.heap=(w.setCell ⟨b,o,none⟩ (.slice (some ⟨g,0,none⟩) n cap)).heap→W.os=w.os→W.tape=w.tape→W.output=w.output→∃ v',W.cell? ⟨b,o,none⟩=some v'∧Line W 3 v' n (nv (l.take n))∧v'.ownBlock=some g∧NChg b o (.slice (some ⟨g,0,none⟩) (n+1) cap) w W):=hide (fun W eh e1 e2 e3=>by
  have k1:NChg b o (.slice (some ⟨g,0,none⟩) (n+1) cap) w (w.setCell ⟨b,o,none⟩ (.slice (some ⟨g,0,none⟩) n cap)):=(NChg.set ⟨But.refl _ _,fun _ _=>rfl,fun _=>rfl⟩ _)
  refine ⟨.slice (some ⟨g,0,none⟩) n cap,?_,?_,rfl,⟨⟨e1.trans k1.but.os,e2.trans k1.but.tape,e3.trans k1.but.output,by rw[eh];exact k1.but.size,fun j hj hn=>by rw[eh];exact k1.but.block j hj hn⟩,fun k hk=>?_,fun k=>?_⟩⟩
  ·have:=World.cell?_setCell_same' w ⟨b,o,none⟩ (.slice (some ⟨g,0,none⟩) n cap) (by rw[hcell];rfl)
   rw[← this];simp only[World.cell?,eh]
  ·refine ((hL.cut (m:=n) (by omega)).same (w':=W) (fun q hq=>?_)).congr (fun j hj=>?_)
   ·rw[eh,setCell_else _ _ _ _ _ (by rintro rfl;exact hap hq)]
   ·unfold nv
    rw[List.getD_eq_getElem?_getD,List.getD_eq_getElem?_getD,List.getElem?_take,if_pos hj]
  ·rw[← k1.cell k hk];simp only[World.cell?,eh]
  ·rw[← k1.froz k];simp only[World.frozen?,eh])
 rw[hn]
 have hgo:(Value.slice (some ⟨g,0,none⟩) (n+1) cap).ownBlock=some g:=rfl
 rw[hgo]
 clear hL hc hg hap
 generalize l.getD n 0=x at *
 go_enter Tryz.func205,Tryz.ntmps205
 go_wp2
 go_ret
 exact ⟨rfl,unhide HFIN _ rfl rfl rfl rfl⟩
theorem pop_any {b o:Nat}{v:Value}{l:List Nat} (w:World) (hcell:w.cell? ⟨b,o,none⟩=some v) (hfr:w.frozen? ⟨b,o,none⟩=false) (hL:Line w 3 v l.length (nv l)) (hap:v.ownBlock≠some b) (n:Nat) (hn:l.length=n+1) (hlen:n≤1000000000) (hO:HO l.length (fun k=>l.getD k 0)) (x:Nat) (hx0:l.getD 0 0=x):
  Calls Tryz.prog 121 #[.iface 191 (.pointer (some ⟨b,o,none⟩))] w fun e w'=>e=.returned (.iface 3 (.int .i64 (x:Nat)))∧∃ v' l',(x :: l').Perm l∧HO l'.length (fun k=>l'.getD k 0)∧w'.cell? ⟨b,o,none⟩=some v'∧Line w' 3 v' l'.length (nv l')∧v'.ownBlock=v.ownBlock∧NChg b o v w w':=by
 have hbw:b<w.heap.size:=by have:=block_lt_of_cell hcell;simpa using this
 have hng:=not_gB hap
 have HX0:=hide hx0
 clear hx0
 obtain ⟨a,cap,hv⟩:=hL.shape
 have HV:=hide hv
 have HSW:=hide (swap_any hL 0 n (by omega) (by omega))
 have HFR:=hide hfr
 have HLN:=hide (len_any w a l.length cap)
 rw[← hv] at HLN
 have hm:=m_len w b o v hcell
 have hms:=m_swap w b o v hcell
 have HO':=hide hO
 have HC:=hide hcell
 clear hL hO hfr hcell hv
 have hnl:((l.length:Nat):Int)-1=(n:Nat):=by omega
 rw[hn] at HLN
 go_enter Tryz.func121,Tryz.ntmps121
 go_wp2_with fail
 refine (unhide HLN).mono ?_
 clear HLN hm
 rintro e w0 ⟨rfl,rfl⟩
 go_wp2_with fail
 refine (unhide HSW).mono ?_
 clear HSW hms
 rintro e w1 ⟨rfl,hl1,hb1⟩
 have hc1:w1.cell? ⟨b,o,none⟩=some v:=(hb1.cell (q:=⟨b,o,none⟩) hbw hng).trans (unhide HC)
 have hf1:w1.frozen? ⟨b,o,none⟩=false:=(hb1.frozen (q:=⟨b,o,none⟩) hbw hng).trans (unhide HFR)
 have hbw1:b<w1.heap.size:=Nat.lt_of_lt_of_le hbw hb1.size
 have hsl:(swp l 0 n).length=l.length:=swp_length _ _ _
 have HD:=hide (down_any (l:=swp l 0 n) w1 hc1 (by rw[hsl];exact hl1) hap (by omega) 0 n (by omega) (by omega) (by
  rw[swp_get l 0 n (by omega) (by omega)]
  have:=unhide HO'
  rw[hn] at this
  exact DnI.start this))
 have HB1:=hide hb1
 have HP1:Hid ((swp l 0 n).Perm l):=hide (swp_perm l 0 n (by omega) (by omega))
 have HN1:Hid ((swp l 0 n).getD n 0=l.getD 0 0):=hide (by
  have:=congrFun (swp_get l 0 n (by omega) (by omega)) n
  rw[swf_j] at this;exact this)
 have HC1:=hide hc1
 have HF1:=hide hf1
 have HSL:=hide hsl
 clear hl1 hb1 hc1 hf1 hsl HO'
 go_wp2_with fail
 refine (unhide HD).mono ?_
 clear HD
 rintro e w2 ⟨⟨u,rfl⟩,l2,hp2,hs2,ho2,hl2,hb2⟩
 have hc2:w2.cell? ⟨b,o,none⟩=some v:=(hb2.cell (q:=⟨b,o,none⟩) hbw1 hng).trans (unhide HC1)
 have hf2:w2.frozen? ⟨b,o,none⟩=false:=(hb2.frozen (q:=⟨b,o,none⟩) hbw1 hng).trans (unhide HF1)
 have hll:l2.length=n+1:=by rw[hp2.length_eq,unhide HSL,hn]
 have hm:=m_pop w2 b o
 have HNP:=hide (npop_any (l:=l2) w2 hc2 hf2 (by rw[hp2.length_eq];exact hl2) hap n hll (by omega))
 have hx:l2.getD n 0=x:=((hs2 n (Nat.le_refl _)).trans (unhide HN1)).trans (unhide HX0)
 have HX:=hide (show (x :: l2.take n).Perm l∧HO (l2.take n).length (fun k=>(l2.take n).getD k 0)∧(l2.take n).length=n from by
  have htl:(l2.take n).length=n:=by simp;omega
  refine ⟨?_,?_,htl⟩
  ·refine List.Perm.trans ?_ (hp2.trans (unhide HP1))
   have e:l2=l2.take n ++ [x]:=by
    apply List.ext_getElem?
    intro k
    by_cases h1:k<n
    ·rw[List.getElem?_append_left (by omega),List.getElem?_take,if_pos h1]
    ·by_cases h2:k=n
     ·subst h2
      rw[List.getElem?_append_right (by omega),htl,Nat.sub_self,← hx,nv_int _ _ (by omega),List.getElem?_eq_getElem (by omega)]
      rfl
     ·rw[List.getElem?_eq_none (by omega),List.getElem?_eq_none (by simp;omega)]
   conv=>rhs;rw[e]
   exact (List.perm_append_singleton _ _).symm
  ·rw[htl]
   intro i h1 h2
   have e:∀ k,k<n→(l2.take n).getD k 0=l2.getD k 0:=fun k hk=>by rw[List.getD_eq_getElem?_getD,List.getD_eq_getElem?_getD,List.getElem?_take,if_pos hk]
   show (l2.take n).getD ((i-1) / 2) 0≤(l2.take n).getD i 0
   rw[e _ (by omega),e _ h2];exact ho2 i h1 h2)
 have HB2:Hid (NChg b o v w0 w2):=hide (((⟨But.refl _ _,fun _ _=>rfl,fun _=>rfl⟩:NChg b o v w0 w0).more hbw (fun g hg=>.inl hg) hap (unhide HB1)).more hbw (fun g hg=>.inl hg) hap hb2)
 rw[hx] at HNP
 clear hp2 hs2 ho2 hl2 hb2 hc2 hf2 hll hx HN1 HP1 HB1 HC1 HF1 HSL HC HFR HV
 go_wp2_with fail
 refine (unhide HNP).mono ?_
 clear HNP hm
 rintro e w3 ⟨rfl,v3,hc3,hl3,hv3,hn3⟩
 obtain ⟨x1,x2,x3⟩:=unhide HX
 have HF:=hide (show ∃ v' l',(x :: l').Perm l∧HO l'.length (fun k=>l'.getD k 0)∧w3.cell? ⟨b,o,none⟩=some v'∧Line w3 3 v' l'.length (nv l')∧v'.ownBlock=v.ownBlock∧NChg b o v w0 w3 from
  ⟨v3,l2.take n,x1,x2,hc3,by rw[x3];exact hl3,hv3,(unhide HB2).trans hn3⟩)
 clear x1 x2 x3 hc3 hl3 hv3 hn3 HB2 HX
 go_wp2
 go_ret
 exact ⟨rfl,unhide HF⟩
def pc (enc:Nat→Value) (z:Value) (c:List (Option Nat)) (j:Nat):Value:=
 match c.getD (j / 2) none with
 | some x=>if j%2=0 then enc x else .bool true
 | none=>if j%2=0 then z else .bool false
def thing (enc:Nat→Value) (z:Value):Option Nat→Value
 | some x=>enc x
 | none=>z
theorem pc_thing (enc:Nat→Value) (z:Value) (c:List (Option Nat)) (n:Nat):pc enc z c (n*2)=thing enc z (c.getD n none):=by
 unfold pc
 rw[show n*2 / 2=n by omega,show n*2%2=0 by omega]
 cases c.getD n none <;> rfl
theorem pc_used (enc:Nat→Value) (z:Value) (c:List (Option Nat)) (n:Nat):pc enc z c (n*2+1)=.bool (c.getD n none).isSome:=by
 unfold pc
 rw[show (n*2+1) / 2=n by omega,show (n*2+1)%2=1 by omega]
 cases c.getD n none <;> rfl
def countOf (c:List (Option Nat)):Nat:=(c.filter Option.isSome).length
structure PoolAt (w:World) (b o:Nat) (E:TypeId) (enc:Nat→Value) (z:Value) (c:List (Option Nat)) (fr:List Nat) (vc vf:Value):Prop where
 c0:w.cell? ⟨b,o,none⟩=some vc
 c1:w.cell? ⟨b,o+1,none⟩=some vf
 c2:w.cell? ⟨b,o+2,none⟩=some (.int .i64 (countOf c:Nat))
 f0:w.frozen? ⟨b,o,none⟩=false
 f1:w.frozen? ⟨b,o+1,none⟩=false
 f2:w.frozen? ⟨b,o+2,none⟩=false
 row:Wide w E 2 vc c.length (pc enc z c)
 frl:Line w 3 vf fr.length (nv fr)
 a0:vc.ownBlock≠some b
 a1:vf.ownBlock≠some b
 a2:∀ g,vc.ownBlock=some g→vf.ownBlock≠some g
 ok:PoolOk c fr
 lc:c.length≤1000000
 lf:fr.length≤1000000
def poolHas (c:List (Option Nat)) (n:Int):Bool:=decide (0≤n) && (c.getD n.toNat none).isSome
theorem PoolAt.still {w w':World}{b o:Nat}{E:TypeId}{enc:Nat→Value}{z:Value}{c:List (Option Nat)}{fr:List Nat}{vc vf:Value} (h:PoolAt w b o E enc z c fr vc vf) (k:Still w w'):PoolAt w' b o E enc z c fr vc vf:=
 ⟨(k.cell _).trans h.c0,(k.cell _).trans h.c1,(k.cell _).trans h.c2,by rw[← h.f0];simp only[World.frozen?,k.heap],by rw[← h.f1];simp only[World.frozen?,k.heap],by rw[← h.f2];simp only[World.frozen?,k.heap],h.row.same (fun g _=>by rw[k.heap]),h.frl.same (fun g _=>by rw[k.heap]),h.a0,h.a1,h.a2,h.ok,h.lc,h.lf⟩
theorem has_any {w:World}{b o:Nat}{enc:Nat→Value}{z:Value}{c:List (Option Nat)}{fr:List Nat}{vc vf:Value} (h:PoolAt w b o 148 enc z c fr vc vf) (n:Int):
  Calls Tryz.prog 88 #[.pointer (some ⟨b,o,none⟩),.int .i64 n] w fun e w'=>e=.returned (.bool (poolHas c n))∧w'=w:=by
 obtain ⟨a,cap,hv⟩:=h.row.shape
 have c0:=h.c0
 have hlc:=h.lc
 by_cases h0:0≤n
 ·obtain ⟨m,rfl⟩:=Int.eq_ofNat_of_zero_le h0
  by_cases h1:m<c.length
  ·obtain ⟨g,cap',hv',hg,hc⟩:=h.row.at (by omega)
   rw[hv] at hv'
   cases hv'
   have c1:=(hc (m*2+1) (by omega)).1
   rw[pc_used] at c1
   have hr:poolHas c (m:Nat)=(c.getD m none).isSome:=by simp [poolHas]
   rw[hr]
   subst hv
   generalize (c.getD m none).isSome=u at *
   clear h hc hr
   go_enter Tryz.func88,Tryz.ntmps88
   go_wp2
   go_ret
   exact ⟨rfl,rfl⟩
  ·have hr:poolHas c (m:Nat)=false:=by
    simp only[poolHas,Int.toNat_natCast]
    rw[List.getD_eq_getElem?_getD,List.getElem?_eq_none (by omega)];simp
   rw[hr]
   subst hv
   clear h hr
   go_enter Tryz.func88,Tryz.ntmps88
   go_wp2
   go_ret
   exact ⟨rfl,rfl⟩
 ·have hr:poolHas c n=false:=by simp [poolHas,h0]
  rw[hr]
  subst hv
  clear h hr
  go_enter Tryz.func88,Tryz.ntmps88
  go_wp2
  go_ret
  exact ⟨rfl,rfl⟩
def poolGet (c:List (Option Nat)) (n:Int):Option Nat:=if 0≤n then c.getD n.toNat none else none
theorem has_get (c:List (Option Nat)) (n:Int):poolHas c n=(poolGet c n).isSome:=by
 unfold poolHas poolGet
 by_cases h:0≤n <;> simp [h]
def encU (x:Nat):Value:=.int .u64 (x:Nat)
theorem get_any {w:World}{b o:Nat}{c:List (Option Nat)}{fr:List Nat}{vc vf:Value} (h:PoolAt w b o 148 encU (.int .u64 0) c fr vc vf) (n:Int):
  Calls Tryz.prog 82 #[.pointer (some ⟨b,o,none⟩),.int .i64 n] w fun e w'=>e=.returned (.tuple #[thing encU (.int .u64 0) (poolGet c n),.bool (poolGet c n).isSome])∧w'=w:=by
 have HH:=hide (has_any h n)
 rw[has_get] at HH
 cases hg:poolGet c n with
 | none=>
  rw[hg] at HH
  clear hg h
  go_enter Tryz.func82,Tryz.ntmps82
  go_wp2_with fail
  refine (unhide HH).mono ?_
  clear HH
  rintro e w1 ⟨rfl,rfl⟩
  go_wp2
  go_ret2
  exact ⟨rfl,rfl⟩
 | some x=>
  rw[hg] at HH
  have hn0:0≤n:=by
   by_cases h0:0≤n
   ·exact h0
   ·simp [poolGet,h0] at hg
  obtain ⟨m,rfl⟩:=Int.eq_ofNat_of_zero_le hn0
  have hm:c.getD m none=some x:=by simpa [poolGet] using hg
  have hlt:m<c.length:=by
   by_cases h1:m<c.length
   ·exact h1
   ·rw[List.getD_eq_getElem?_getD,List.getElem?_eq_none (by omega)] at hm;cases hm
  obtain ⟨g,cap,hv,_,hc⟩:=h.row.at (by omega)
  have c0:=h.c0
  have c1:=(hc (m*2) (by omega)).1
  rw[pc_thing,hm] at c1
  change w.cell? ⟨g,m*2,none⟩=some (.int .u64 (x:Nat)) at c1
  show Calls Tryz.prog 82 #[.pointer (some ⟨b,o,none⟩),.int .i64 (m:Nat)] w fun e w'=>e=.returned (.tuple #[.int .u64 (x:Nat),.bool true])∧w'=w
  subst hv
  have hlc:=h.lc
  clear hg h hc hm
  go_enter Tryz.func82,Tryz.ntmps82
  go_wp2_with fail
  refine (unhide HH).mono ?_
  clear HH
  rintro e w1 ⟨rfl,rfl⟩
  go_wp2
  go_ret2
  exact ⟨rfl,rfl⟩
theorem countOf_set_some (c:List (Option Nat)) (n x:Nat) (h:c.getD n none≠none):countOf (c.set n (some x))=countOf c:=by
 unfold countOf
 induction c generalizing n with
 | nil=>rfl
 | cons y c ih=>
  cases n with
  | zero=>
   cases y with
   | none=>simp at h
   | some y=>simp
  | succ n=>
   have:=ih n (by simpa using h)
   cases y <;> simp [this]
theorem pc_set (enc:Nat→Value) (z:Value) (c:List (Option Nat)) (n:Nat) (x:Option Nat) (hn:n<c.length) (j:Nat):pc enc z (c.set n x) j=if j=n*2+1 then .bool x.isSome else if j=n*2 then thing enc z x else pc enc z c j:=by
 unfold pc
 rw[getD_set_opt _ _ _ _ hn]
 by_cases e1:j=n*2+1
 ·subst e1
  rw[show (n*2+1) / 2=n by omega,if_pos rfl,if_pos rfl,show (n*2+1)%2=1 by omega]
  cases x <;> rfl
 ·rw[if_neg e1]
  by_cases e2:j=n*2
  ·subst e2
   rw[show n*2 / 2=n by omega,if_pos rfl,if_pos rfl,show n*2%2=0 by omega]
   cases x <;> rfl
  ·rw[if_neg e2,if_neg (by omega)]
theorem PoolOk.setUsed {c:List (Option Nat)}{fr:List Nat} (h:PoolOk c fr) (n x:Nat) (hu:c.getD n none≠none):PoolOk (c.set n (some x)) fr:=by
 have hn:n<c.length:=by
  by_cases h1:n<c.length
  ·exact h1
  ·exact absurd (by rw[List.getD_eq_getElem?_getD,List.getElem?_eq_none (by omega)];rfl) hu
 refine ⟨h.ho,h.nd,fun k hk=>?_,?_⟩
 ·rw[List.length_set] at hk
  rw[getD_set_opt _ _ _ _ hn,h.free k hk]
  by_cases e:k=n
  ·subst e;rw[if_pos rfl];exact ⟨fun q=>absurd q hu,fun q=>by cases q⟩
  ·rw[if_neg e]
 ·rw[List.length_set,getD_set_opt _ _ _ _ hn]
  by_cases e:c.length-1=n
  ·rw[if_pos e];exact .inr (by simp)
  ·rw[if_neg e];exact h.last
theorem set_any {w:World}{b o:Nat}{c:List (Option Nat)}{fr:List Nat}{vc vf:Value} (h:PoolAt w b o 148 encU (.int .u64 0) c fr vc vf) (n x:Nat) (hu:c.getD n none≠none):
  Calls Tryz.prog 109 #[.pointer (some ⟨b,o,none⟩),.int .i64 (n:Nat),.int .u64 (x:Nat)] w fun e w'=>e=.returned (.tuple #[])∧PoolAt w' b o 148 encU (.int .u64 0) (c.set n (some x)) fr vc vf∧But (gB vc) w w':=by
 have hn:n<c.length:=by
  by_cases h1:n<c.length
  ·exact h1
  ·exact absurd (by rw[List.getD_eq_getElem?_getD,List.getElem?_eq_none (by omega)];rfl) hu
 obtain ⟨g,cap,hv,hg,hc⟩:=h.row.at (by omega)
 have hgb:g≠b:=fun e=>h.a0 (by rw[hg,e])
 have hlt:b<w.heap.size:=by have:=block_lt_of_cell h.c0;simpa using this
 have HB:But (gB vc) w (w.setCell ⟨g,n*2,none⟩ (.int .u64 (x:Nat))):=(But.refl _ _).set ⟨g,n*2,none⟩ (by rw[mem_gB];exact hg) _
 have hnb:b ∉ gB vc:=not_gB h.a0
 have HF:Hid (PoolAt (w.setCell ⟨g,n*2,none⟩ (.int .u64 (x:Nat))) b o 148 encU (.int .u64 0) (c.set n (some x)) fr vc vf∧But (gB vc) w (w.setCell ⟨g,n*2,none⟩ (.int .u64 (x:Nat)))):=hide ⟨⟨(HB.cell (q:=⟨b,o,none⟩) hlt hnb).trans h.c0,(HB.cell (q:=⟨b,o+1,none⟩) hlt hnb).trans h.c1,by rw[countOf_set_some _ _ _ hu];exact (HB.cell (q:=⟨b,o+2,none⟩) hlt hnb).trans h.c2,(HB.frozen (q:=⟨b,o,none⟩) hlt hnb).trans h.f0,(HB.frozen (q:=⟨b,o+1,none⟩) hlt hnb).trans h.f1,(HB.frozen (q:=⟨b,o+2,none⟩) hlt hnb).trans h.f2,by
   rw[List.length_set]
   refine (h.row.put hg (n*2) (.int .u64 (x:Nat)) (by omega)).congr (fun j hj=>?_)
   rw[pc_set _ _ _ _ _ hn]
   by_cases e1:j=n*2+1
   ·subst e1
    rw[if_neg (by omega),if_pos rfl,pc_used]
    cases hx:c.getD n none with
    | none=>exact absurd hx hu
    | some y=>rfl
   ·rw[if_neg e1]
    rfl,h.frl.same (fun q hq=>setCell_else _ _ _ _ _ (by rintro rfl;exact h.a2 _ hg hq)),h.a0,h.a1,h.a2,h.ok.setUsed n x hu,by rw[List.length_set];exact h.lc,h.lf⟩,HB⟩
 have c0:=h.c0
 have f1:=(hc (n*2) (by omega)).2
 have c1:=(hc (n*2) (by omega)).1
 have hlc:=h.lc
 subst hv
 clear h hc HB hg
 go_enter Tryz.func109,Tryz.ntmps109
 go_wp2
 go_end0
 exact ⟨rfl,unhide HF⟩
theorem Tryz.info148:(Tryz.prog.info? 148).map (fun i=>(i.zero,i.size,i.bytes))=some (some (.agg #[.int .u64 0,.bool false]),2,16):=by kernel_rfl
structure PoolRaw (w:World) (b o:Nat) (E:TypeId) (enc:Nat→Value) (z:Value) (c:List (Option Nat)) (fr:List Nat) (k:Nat) (vc vf:Value):Prop where
 c0:w.cell? ⟨b,o,none⟩=some vc
 c1:w.cell? ⟨b,o+1,none⟩=some vf
 c2:w.cell? ⟨b,o+2,none⟩=some (.int .i64 (k:Nat))
 f0:w.frozen? ⟨b,o,none⟩=false
 f1:w.frozen? ⟨b,o+1,none⟩=false
 f2:w.frozen? ⟨b,o+2,none⟩=false
 row:Wide w E 2 vc c.length (pc enc z c)
 frl:Line w 3 vf fr.length (nv fr)
 a0:vc.ownBlock≠some b
 a1:vf.ownBlock≠some b
 a2:∀ g,vc.ownBlock=some g→vf.ownBlock≠some g
theorem PoolAt.raw {w:World}{b o:Nat}{E:TypeId}{enc:Nat→Value}{z:Value}{c:List (Option Nat)}{fr:List Nat}{vc vf:Value} (h:PoolAt w b o E enc z c fr vc vf):PoolRaw w b o E enc z c fr (countOf c) vc vf:=⟨h.c0,h.c1,h.c2,h.f0,h.f1,h.f2,h.row,h.frl,h.a0,h.a1,h.a2⟩
theorem PoolRaw.at {w:World}{b o:Nat}{E:TypeId}{enc:Nat→Value}{z:Value}{c:List (Option Nat)}{fr:List Nat}{vc vf:Value} (h:PoolRaw w b o E enc z c fr (countOf c) vc vf) (ok:PoolOk c fr) (lc:c.length≤1000000) (lf:fr.length≤1000000):PoolAt w b o E enc z c fr vc vf:=⟨h.c0,h.c1,h.c2,h.f0,h.f1,h.f2,h.row,h.frl,h.a0,h.a1,h.a2,ok,lc,lf⟩
structure PChg (b o:Nat) (vc vf:Value) (w w':World):Prop where
 but:But (b :: (gB vc++gB vf)) w w'
 cell:∀ k,k≠o→k≠o+1→k≠o+2→w'.cell? ⟨b,k,none⟩=w.cell? ⟨b,k,none⟩
 froz:∀ k,w'.frozen? ⟨b,k,none⟩=w.frozen? ⟨b,k,none⟩
theorem PoolRaw.still {w w':World}{b o:Nat}{E:TypeId}{enc:Nat→Value}{z:Value}{c:List (Option Nat)}{fr:List Nat}{n:Nat}{vc vf:Value} (h:PoolRaw w b o E enc z c fr n vc vf) (k:Still w w'):PoolRaw w' b o E enc z c fr n vc vf:=
 ⟨(k.cell _).trans h.c0,(k.cell _).trans h.c1,(k.cell _).trans h.c2,by rw[← h.f0];simp only[World.frozen?,k.heap],by rw[← h.f1];simp only[World.frozen?,k.heap],by rw[← h.f2];simp only[World.frozen?,k.heap],h.row.same (fun g _=>by rw[k.heap]),h.frl.same (fun g _=>by rw[k.heap]),h.a0,h.a1,h.a2⟩
theorem NChg.of_still {b o:Nat}{v:Value}{w w1 w2:World} (k:Still w w1) (h:NChg b o v w1 w2):NChg b o v w w2:=
 ⟨(But.of_below k.below).trans h.but,fun q hq=>(h.cell q hq).trans (k.cell _),fun q=>(h.froz q).trans (by simp only[World.frozen?,k.heap])⟩
def Own2 (w:World) (v v':Value):Prop:=∀ g,v'.ownBlock=some g→v.ownBlock=some g∨w.heap.size≤g
theorem lowest_pop {w:World}{b o:Nat}{enc:Nat→Value}{z:Value}{c:List (Option Nat)}{fr:List Nat}{k:Nat}{vc vf:Value} (h:PoolRaw w b o 148 enc z c fr k vc vf) (ho:HO fr.length (fun q=>fr.getD q 0)) (lf:fr.length≤1000000) (lc:c.length≤1000000) (h0:0<fr.length) (n:Nat) (hn:fr.getD 0 0=n) (hnc:n<c.length):
  Calls Tryz.prog 83 #[.pointer (some ⟨b,o,none⟩)] w fun e w'=>e=.returned (.int .i64 (n:Nat))∧∃ fr' vf',(n :: fr').Perm fr∧HO fr'.length (fun q=>fr'.getD q 0)∧PoolRaw w' b o 148 enc z c fr' k vc vf'∧vf'.ownBlock=vf.ownBlock∧NChg b (o+1) vf w w':=by
 obtain ⟨m,hm⟩:∃ m,fr.length=m+1:=⟨fr.length-1,by omega⟩
 have HP:Hid (∀ nq,Calls Tryz.prog 121 #[.iface 191 (.pointer (some ⟨b,o+1,none⟩))] (w.drewN nq) fun e w'=>e=.returned (.iface 3 (.int .i64 (n:Nat)))∧∃ v' l',(n :: l').Perm fr∧HO l'.length (fun k=>l'.getD k 0)∧w'.cell? ⟨b,o+1,none⟩=some v'∧Line w' 3 v' l'.length (nv l')∧v'.ownBlock=vf.ownBlock∧NChg b (o+1) vf w w'):=hide (fun nq=>by
  have k:Still w (w.drewN nq):=(Still.refl w).drew nq
  have h':=h.still k
  refine (pop_any _ h'.c1 h'.f1 h'.frl h'.a1 m hm (by omega) ho n hn).mono (fun e w' hh=>?_)
  obtain ⟨e1,v',l',p1,p2,p3,p4,p5,p6⟩:=hh
  exact ⟨e1,v',l',p1,p2,p3,p4,p5,p6.of_still k⟩)
 obtain ⟨g,cap,hv,hg,hc⟩:=h.frl.at (by omega)
 obtain ⟨ac,capc,hvc⟩:=h.row.shape
 have c0:=h.c0
 have c1:=h.c1
 have cf:=(hc 0 (by omega)).1
 unfold nv at cf
 rw[hn] at cf
 have hbw:b<w.heap.size:=by have:=block_lt_of_cell h.c0;simpa using this
 have HFIN:Hid (∀ w' v' l',(n :: l').Perm fr→HO l'.length (fun k=>l'.getD k 0)→w'.cell? ⟨b,o+1,none⟩=some v'→Line w' 3 v' l'.length (nv l')→v'.ownBlock=vf.ownBlock→NChg b (o+1) vf w w'→∃ fr' vf',(n :: fr').Perm fr∧HO fr'.length (fun q=>fr'.getD q 0)∧PoolRaw w' b o 148 enc z c fr' k vc vf'∧vf'.ownBlock=vf.ownBlock∧NChg b (o+1) vf w w'):=hide (fun w' v' l' p1 p2 p3 p4 p5 p6=>
  ⟨l',v',p1,p2,⟨(p6.cell o (by omega)).trans h.c0,p3,(p6.cell (o+2) (by omega)).trans h.c2,(p6.froz o).trans h.f0,(p6.froz (o+1)).trans h.f1,(p6.froz (o+2)).trans h.f2,h.row.same (fun q hq=>p6.but.block q (h.row.lt q hq) (by
   simp only[List.mem_cons,not_or,mem_gB]
   exact ⟨fun e=>h.a0 (by rw[hq,e]),h.a2 q hq⟩)),p4,h.a0,by rw[p5];exact h.a1,fun q hq=>by rw[p5];exact h.a2 q hq⟩,p5,p6⟩)
 have hta:∀ W:World,(Instr.typeAssert (.iface 3 (.int .i64 (n:Nat))) 20 3 false).run Tryz.prog W=.ok (.int .i64 (n:Nat)) W:=fun _=>by kernel_rfl
 have HV:=hide hv
 subst hvc
 rw[hv] at c1
 have d1:decide ((0:Int)<(fr.length:Nat))=true:=decide_eq_true (by omega)
 have d2:decide (((n:Nat):Int)<(c.length:Nat))=true:=decide_eq_true (by omega)
 clear h ho hc hg
 go_enter Tryz.func83,Tryz.ntmps83
 go_wp2_with fail
 go_quiet (fail)
 go_wp2_with fail
 refine (unhide HP _).mono ?_
 rintro e w1 ⟨rfl,v1,l1,p1,p2,p3,p4,p5,p6⟩
 have HF:=hide (unhide HFIN w1 v1 l1 p1 p2 p3 p4 p5 p6)
 clear HFIN HP p1 p2 p3 p4 p5 p6
 go_wp2
 go_ret
 exact ⟨rfl,unhide HF⟩
theorem lowest_grow {w:World}{b o:Nat}{c:List (Option Nat)}{fr:List Nat}{k:Nat}{vc vf:Value} (h:PoolRaw w b o 148 encU (.int .u64 0) c fr k vc vf) (lf:fr.length≤1000000) (lc:c.length≤1000000) (hx:fr.length=0∨c.length≤fr.getD 0 0) (hbig:∀ j,j<fr.length→fr.getD j 0≤1099511627776):
  Calls Tryz.prog 83 #[.pointer (some ⟨b,o,none⟩)] w fun e w'=>e=.returned (.int .i64 (c.length:Nat))∧∃ vc' vf',PoolRaw w' b o 148 encU (.int .u64 0) (c ++ [none]) [] k vc' vf'∧Own2 w vc vc'∧(∀ g,vf'.ownBlock=some g→vf.ownBlock=some g)∧PChg b o vc vf w w':=by
 obtain ⟨i0,hi,hy0,hy1,hy2⟩:=info_parts Tryz.info148
 have hbw:b<w.heap.size:=by have:=block_lt_of_cell h.c0;simpa using this
 obtain ⟨af,capf,hvf⟩:=h.frl.shape
 obtain ⟨ac,capc,hvc⟩:=h.row.shape
 have c0:=h.c0
 have c1:=h.c1
 have f0:=h.f0
 have f1:=h.f1
 have hbr:∀ nq g,g≠b→g<w.heap.size→(((w.drewN nq).setCell ⟨b,o+1,none⟩ (.slice af 0 capf)).alloc (.cells #[.int .u64 0,.bool false] 148)).heap[g]?=w.heap[g]?:=fun nq g hg hl=>by
  rw[heap_alloc_old _ _ (by simpa using hl),setCell_else _ _ _ _ _ hg];rfl
 have HROW:Hid (∀ nq,Wide (((w.drewN nq).setCell ⟨b,o+1,none⟩ (.slice af 0 capf)).alloc (.cells #[.int .u64 0,.bool false] 148)) 148 2 vc c.length (pc encU (.int .u64 0) c)):=hide (fun nq=>h.row.same (fun g hg=>hbr nq g (by rintro rfl;exact h.a0 hg) (h.row.lt g hg)))
 have HC2:Hid (∀ nq,∀ (j:Nat) (x:Value),([.int .u64 0,.bool false]:List Value)[j]?=some x→(((w.drewN nq).setCell ⟨b,o+1,none⟩ (.slice af 0 capf)).alloc (.cells #[.int .u64 0,.bool false] 148)).cell? ⟨w.heap.size,j,none⟩=some x):=hide (fun nq j x hj=>by
  have hn:=heap_alloc_new ((w.drewN nq).setCell ⟨b,o+1,none⟩ (.slice af 0 capf)) (.cells #[.int .u64 0,.bool false] 148)
  have hs:((w.drewN nq).setCell ⟨b,o+1,none⟩ (.slice af 0 capf)).heap.size=w.heap.size:=by simp
  rw[hs] at hn
  simp only[World.cell?,hn]
  rw[← hj];simp)
 have HFIN:Hid (∀ nq v' w',Wide w' 148 2 v' (c.length+1) (fun j=>if j<c.length*2 then pc encU (.int .u64 0) c j else ([.int .u64 0,.bool false]:List Value).getD (j-c.length*2) undef)→
   w'.os=(((w.drewN nq).setCell ⟨b,o+1,none⟩ (.slice af 0 capf)).alloc (.cells #[.int .u64 0,.bool false] 148)).os∧w'.tape=(((w.drewN nq).setCell ⟨b,o+1,none⟩ (.slice af 0 capf)).alloc (.cells #[.int .u64 0,.bool false] 148)).tape∧w'.output=(((w.drewN nq).setCell ⟨b,o+1,none⟩ (.slice af 0 capf)).alloc (.cells #[.int .u64 0,.bool false] 148)).output→
   ((∃ g,vc.ownBlock=some g∧v'.ownBlock=some g∧w'.heap.size=w.heap.size+1∧∀ k,k≠g→w'.heap[k]?=(((w.drewN nq).setCell ⟨b,o+1,none⟩ (.slice af 0 capf)).alloc (.cells #[.int .u64 0,.bool false] 148)).heap[k]?)∨(v'.ownBlock=some (w.heap.size+1)∧w'.heap.size=w.heap.size+1+1∧∀ k,k<w.heap.size+1→w'.heap[k]?=(((w.drewN nq).setCell ⟨b,o+1,none⟩ (.slice af 0 capf)).alloc (.cells #[.int .u64 0,.bool false] 148)).heap[k]?))→
   w'.cell? ⟨b,o,none⟩=some vc∧w'.frozen? ⟨b,o,none⟩=false∧(∃ a cap,v'=.slice a (c.length+1) cap)∧∃ vc' vf',PoolRaw (w'.setCell ⟨b,o,none⟩ v') b o 148 encU (.int .u64 0) (c ++ [none]) [] k vc' vf'∧Own2 w vc vc'∧(∀ g,vf'.ownBlock=some g→vf.ownBlock=some g)∧PChg b o vc vf w (w'.setCell ⟨b,o,none⟩ v')):=hide (fun nq v' w' hw hos hg=>by
  have hold:∀ q,q<w.heap.size→vc.ownBlock≠some q→w'.heap[q]?=(((w.drewN nq).setCell ⟨b,o+1,none⟩ (.slice af 0 capf)).alloc (.cells #[.int .u64 0,.bool false] 148)).heap[q]?:=fun q hq hne=>by
   rcases hg with ⟨g,e1,e2,e3,e4⟩|⟨e1,e2,e3⟩
   ·exact e4 q (fun e=>hne (by rw[e1,e]))
   ·exact e3 q (by omega)
  have hbb:w'.heap[b]?=((w.drewN nq).setCell ⟨b,o+1,none⟩ (.slice af 0 capf)).heap[b]?:=by
   rw[hold b hbw h.a0,heap_alloc_old _ _ (by simpa using hbw)]
  have hcell:∀ q,w'.cell? ⟨b,q,none⟩=((w.drewN nq).setCell ⟨b,o+1,none⟩ (.slice af 0 capf)).cell? ⟨b,q,none⟩:=fun q=>by simp only[World.cell?,hbb]
  have hfroz:∀ q,w'.frozen? ⟨b,q,none⟩=w.frozen? ⟨b,q,none⟩:=fun q=>by
   have:w'.frozen? ⟨b,q,none⟩=((w.drewN nq).setCell ⟨b,o+1,none⟩ (.slice af 0 capf)).frozen? ⟨b,q,none⟩:=by simp only[World.frozen?,hbb]
   rw[this,World.frozen?_setCell];rfl
  have hsize:w.heap.size≤w'.heap.size:=by rcases hg with ⟨g,e1,e2,e3,e4⟩|⟨e1,e2,e3⟩ <;> omega
  have hco:∀ q,q≠o+1→w'.cell? ⟨b,q,none⟩=w.cell? ⟨b,q,none⟩:=fun q hq=>by
   rw[hcell q,World.cell?_setCell_other _ _ _ _ (by intro e;cases e;exact hq rfl)];rfl
  have hv':v'.ownBlock≠some b:=by
   rcases hg with ⟨g,e1,e2,e3,e4⟩|⟨e1,e2,e3⟩
   ·rw[e2,← e1];exact h.a0
   ·rw[e1];intro e;cases e;omega
  have hown:Own2 w vc v':=fun g hv=>by
   rcases hg with ⟨g',e1,e2,e3,e4⟩|⟨e1,e2,e3⟩
   ·left;rw[e1,← e2];exact hv
   ·right;rw[e1] at hv;cases hv;omega
  have hfo:∀ g,(Value.slice af 0 capf).ownBlock=some g→vf.ownBlock=some g:=fun g hg=>by rw[hvf];cases af <;> exact hg
  have hc1:w'.cell? ⟨b,o+1,none⟩=some (.slice af 0 capf):=by
   rw[hcell (o+1)]
   exact World.cell?_setCell_same' _ _ _ (by show (w.cell? ⟨b,o+1,none⟩).isSome=true;rw[h.c1];rfl)
  have hfl:Line (w'.setCell ⟨b,o,none⟩ v') 3 (.slice af 0 capf) 0 (nv []):=by
   rcases h.frl with ⟨e1,e2⟩|⟨g,cap,cur,e1,e2,e3,e4,e5,e6⟩
   ·rw[hvf] at e1
    injection e1 with e11 e12 e13
    subst e11
    subst e13
    exact .inl ⟨rfl,rfl⟩
   ·rw[hvf] at e1;cases e1
    have hgl:=(Array.getElem?_eq_some_iff.1 e2).1
    have hgb:g≠b:=fun e=>h.a1 (by rw[hvf,← e];rfl)
    have hgc:vc.ownBlock≠some g:=fun e=>h.a2 g e (by rw[hvf];rfl)
    exact .inr ⟨g,capf,cur,rfl,by rw[setCell_else _ _ _ _ _ hgb,hold g hgl hgc,hbr nq g hgb hgl];exact e2,by omega,e4,e5,fun j hj=>absurd hj (Nat.not_lt_zero _)⟩
  refine ⟨(hco o (by omega)).trans h.c0,(hfroz o).trans h.f0,hw.shape,v',.slice af 0 capf,⟨?_,?_,?_,?_,?_,?_,?_,hfl,hv',fun e=>h.a1 (hfo _ e),?_⟩,hown,hfo,⟨⟨?_,?_,?_,?_,?_⟩,?_,?_⟩⟩
  ·exact World.cell?_setCell_same' _ _ _ (by rw[hco o (by omega),h.c0];rfl)
  ·rw[World.cell?_setCell_other _ _ _ _ (by intro e;cases e)];exact hc1
  ·rw[World.cell?_setCell_other _ _ _ _ (by intro e;cases e),hco (o+2) (by omega)];exact h.c2
  ·rw[World.frozen?_setCell,hfroz];exact h.f0
  ·rw[World.frozen?_setCell,hfroz];exact h.f1
  ·rw[World.frozen?_setCell,hfroz];exact h.f2
  ·rw[List.length_append,List.length_singleton]
   refine (hw.same (fun q hq=>setCell_else _ _ _ _ _ (fun e=>hv' (by rw[hq,e])))).congr (fun j hj=>?_)
   by_cases e:j<c.length*2
   ·rw[if_pos e]
    unfold pc
    rw[List.getD_eq_getElem?_getD,List.getD_eq_getElem?_getD,List.getElem?_append_left (by omega)]
   ·rw[if_neg e]
    unfold pc
    rw[List.getD_eq_getElem?_getD (l:=c ++ [none]),List.getElem?_append_right (by omega)]
    rcases (by omega:j=c.length*2∨j=c.length*2+1) with e1|e1
    ·rw[e1,show c.length*2 / 2-c.length=0 by omega,show c.length*2-c.length*2=0 by omega]
     simp
    ·rw[e1,show (c.length*2+1) / 2-c.length=0 by omega,show c.length*2+1-c.length*2=1 by omega]
     have:(c.length*2+1)%2=1:=by omega
     simp [this]
  ·intro g hv e
   have hfg:=hfo g e
   rcases hown g hv with q|q
   ·exact h.a2 g q hfg
   ·have:=h.frl.lt g hfg;omega
  ·exact hos.1
  ·exact hos.2.1
  ·exact hos.2.2
  ·simpa using hsize
  ·intro j hj hn
   simp only[List.mem_cons,List.mem_append,not_or,mem_gB] at hn
   rw[setCell_else _ _ _ _ _ hn.1,hold j hj hn.2.1,hbr nq j hn.1 hj]
  ·intro q q1 q2 q3
   rw[World.cell?_setCell_other _ _ _ _ (by intro e;cases e;exact q1 rfl)];exact hco q q2
  ·intro q
   rw[World.frozen?_setCell,hfroz])
 by_cases hz:fr.length=0
 ·have d1:decide ((0:Int)<(fr.length:Nat))=false:=decide_eq_false (by omega)
  have hvc2:=hvc
  rw[hvc] at c0 HROW HFIN ⊢
  rw[hvf] at c1 HFIN ⊢
  clear h hx hbig hbr hvc hvf hvc2
  go_enter Tryz.func83,Tryz.ntmps83
  go_wp2_with fail
  go_quiet (fail)
  go_wp2_with (at_builtin;refine append_wide rfl _ _ 91 rfl 148 i0 (.agg #[.int .u64 0,.bool false]) 2 16 Tryz.underlying91 hi hy0 hy1 hy2 rfl _ _ _ rfl (unhide HROW nq) w.heap.size rfl [.int .u64 0,.bool false] rfl (unhide HC2 nq) (by intro x hx';simp only[List.mem_cons,List.not_mem_nil,or_false] at hx';rcases hx' with rfl|rfl <;> rfl) (by omega) (by omega) ?_)
  intro v9 w9 hw9 hq1 hq2 hq3 hg9
  obtain ⟨k1,k2,hs9,hst⟩:=unhide HFIN nq v9 w9 hw9 ⟨hq1,hq2,hq3⟩ hg9
  obtain ⟨a9,cp9,rfl⟩:=hs9
  clear hw9 hq1 hq2 hq3 hg9 HFIN HROW HC2
  go_wp2
  go_ret
  exact ⟨rfl,hst⟩
 ·obtain ⟨n,hn⟩:∃ n,fr.getD 0 0=n:=⟨_,rfl⟩
  have hxn:c.length≤n:=by rcases hx with e|e <;> omega
  have hbn:n≤1099511627776:=by rw[← hn];exact hbig 0 (by omega)
  have d1:decide ((0:Int)<(fr.length:Nat))=true:=decide_eq_true (by omega)
  have d2:decide (((n:Nat):Int)<(c.length:Nat))=false:=decide_eq_false (by omega)
  have hpos:0<fr.length:=by omega
  obtain ⟨m,hm⟩:∃ m,fr.length=m+1:=⟨fr.length-1,by omega⟩
  obtain ⟨g,cap,hv,hg,hc⟩:=h.frl.at (by omega)
  have cf:=(hc 0 (by omega)).1
  unfold nv at cf
  rw[hn] at cf
  rw[hvf] at hv
  cases hv
  rw[hvc] at c0 HROW HFIN ⊢
  rw[hvf] at c1 HFIN ⊢
  clear h hx hbig hbr hvc hvf hc hg
  go_enter Tryz.func83,Tryz.ntmps83
  go_wp2_with fail
  go_quiet (fail)
  go_wp2_with (at_builtin;refine append_wide rfl _ _ 91 rfl 148 i0 (.agg #[.int .u64 0,.bool false]) 2 16 Tryz.underlying91 hi hy0 hy1 hy2 rfl _ _ _ rfl (unhide HROW nq) w.heap.size rfl [.int .u64 0,.bool false] rfl (unhide HC2 nq) (by intro x hx';simp only[List.mem_cons,List.not_mem_nil,or_false] at hx';rcases hx' with rfl|rfl <;> rfl) (by omega) (by omega) ?_)
  intro v9 w9 hw9 hq1 hq2 hq3 hg9
  obtain ⟨k1,k2,hs9,hst⟩:=unhide HFIN nq v9 w9 hw9 ⟨hq1,hq2,hq3⟩ hg9
  obtain ⟨a9,cp9,rfl⟩:=hs9
  clear hw9 hq1 hq2 hq3 hg9 HFIN HROW HC2
  go_wp2
  go_ret
  exact ⟨rfl,hst⟩
end Go.Proofs.YtnfbaapbpgbgpaaGreat
namespace Go.Proofs.YtnfbaapbpgbgpaaGreat
open Go
set_option linter.unusedVariables false
section
variable {P:Program}{ops:Array Oper}{Q:Exit→Act→World→Prop}{md:Region.Mode}{S:World→Prop}{k:Nat}
end
end Go.Proofs.YtnfbaapbpgbgpaaGreat
namespace Go.Proofs.YtnfbaapbpgbgpaaGreat
open Go.ChangeShapes Go.WideShapes Go.ChangeAt Go.RowKit
set_option linter.unusedVariables false
set_option maxRecDepth 100000
set_option maxHeartbeats 1000000
structure Boxed (w:World) (b:Nat) (dd A B C hh gg:Int) (v:Nat) (dv:Value):Prop where
 m0:w.cell? ⟨b,0,none⟩=some (.int .i64 dd)
 m1:w.cell? ⟨b,1,none⟩=some (.int .i64 A)
 m2:w.cell? ⟨b,2,none⟩=some (.int .i64 B)
 m3:w.cell? ⟨b,3,none⟩=some (.int .i64 C)
 m4:w.cell? ⟨b,4,none⟩=some (.int .i64 hh)
 m5:w.cell? ⟨b,5,none⟩=some (.int .i64 gg)
 m6:w.cell? ⟨b,6,none⟩=some (.int .u64 (v:Nat))
 m7:w.cell? ⟨b,7,none⟩=some dv
set_option linter.unusedSimpArgs false
set_option maxHeartbeats 2000000
theorem add_core {w:World}{b o n x k:Nat}{c':List (Option Nat)} (hn:n<c'.length) (hl:c'.length≤1000001) (hk:k≤1000000) {G:World→Value→Value→List Nat→Prop}
  (HLow:Calls Tryz.prog 83 #[.pointer (some ⟨b,o,none⟩)] w fun e w'=>e=.returned (.int .i64 (n:Nat))∧∃ vc' vf' fr',G w' vc' vf' fr'∧PoolRaw w' b o 148 encU (.int .u64 0) c' fr' k vc' vf'):
  Calls Tryz.prog 42 #[.pointer (some ⟨b,o,none⟩),.int .u64 (x:Nat)] w fun e w'=>e=.returned (.int .i64 (n:Nat))∧∃ vc' vf' fr' w1,G w1 vc' vf' fr'∧PoolRaw w' b o 148 encU (.int .u64 0) (c'.set n (some x)) fr' (k+1) vc' vf'∧PChg b o vc' vf' w1 w':=by
 have HL:=hide HLow
 clear HLow
 go_enter Tryz.func42,Tryz.ntmps42
 go_wp2_with fail
 refine (unhide HL).mono ?_
 clear HL
 rintro e w1 ⟨rfl,vc,vf,fr,hG,h⟩
 have hbw:b<w1.heap.size:=by have:=block_lt_of_cell h.c0;simpa using this
 obtain ⟨g,cap,hv,hg,hc⟩:=h.row.at (by omega)
 have c0:=h.c0
 have c2:=h.c2
 have f2:=h.f2
 have e1:=(hc (n*2) (by omega)).1
 have e2:=(hc (n*2) (by omega)).2
 have e3:=(hc (n*2+1) (by omega)).1
 have e4:=(hc (n*2+1) (by omega)).2
 have HH:=hide h
 have HGG:=hide hG
 have hgb:g≠b:=fun e=>h.a0 (by rw[hg,e])
 have hbg:b≠g:=Ne.symm hgb
 obtain ⟨W,hW⟩:∃ W,W=((w1.setCell ⟨g,n*2,none⟩ (.int .u64 (x:Nat))).setCell ⟨g,n*2+1,none⟩ (.bool true)).setCell ⟨b,o+2,none⟩ (.int .i64 ((k:Int)+1)):=⟨_,rfl⟩
 have hbl:∀ q,q≠g→q≠b→W.heap[q]?=w1.heap[q]?:=fun q h1 h2=>by rw[hW,setCell_else _ _ _ _ _ h2,setCell_else _ _ _ _ _ h1,setCell_else _ _ _ _ _ h1]
 have hcb:∀ q,q≠o+2→W.cell? ⟨b,q,none⟩=w1.cell? ⟨b,q,none⟩:=fun q hq=>by
  rw[hW,World.cell?_setCell_other _ _ _ _ (by intro e;cases e;exact hq rfl),World.cell?_setCell_other _ _ _ _ (by intro e;cases e;exact hgb rfl),World.cell?_setCell_other _ _ _ _ (by intro e;cases e;exact hgb rfl)]
 have hfb:∀ q,W.frozen? ⟨b,q,none⟩=w1.frozen? ⟨b,q,none⟩:=fun q=>by rw[hW,World.frozen?_setCell,World.frozen?_setCell,World.frozen?_setCell]
 have hrow:Wide W 148 2 vc (c'.set n (some x)).length (pc encU (.int .u64 0) (c'.set n (some x))):=by
  rw[List.length_set]
  have q1:=((h.row.put hg (n*2) (.int .u64 (x:Nat)) (by omega)).put hg (n*2+1) (.bool true) (by omega)).same (w':=W) (fun q hq=>by rw[hW,setCell_else _ _ _ _ _ (fun e=>h.a0 (by rw[hq,e]))])
  refine q1.congr (fun j hj=>?_)
  rw[pc_set _ _ _ _ _ hn]
  rfl
 have HF:=hide (show ∃ vc' vf' fr' w1,G w1 vc' vf' fr'∧PoolRaw W b o 148 encU (.int .u64 0) (c'.set n (some x)) fr' (k+1) vc' vf'∧PChg b o vc' vf' w1 W from
  ⟨vc,vf,fr,w1,hG,⟨(hcb o (by omega)).trans h.c0,(hcb (o+1) (by omega)).trans h.c1,by rw[hW];exact World.cell?_setCell_same' _ _ _ (by rw[World.cell?_setCell_other _ _ _ _ (by intro e;exact hgb (congrArg Addr.block e)),World.cell?_setCell_other _ _ _ _ (by intro e;exact hgb (congrArg Addr.block e)),h.c2];rfl),(hfb _).trans h.f0,(hfb _).trans h.f1,(hfb _).trans h.f2,hrow,h.frl.same (fun q hq=>hbl q (fun e=>h.a2 g hg (by rw[← e];exact hq)) (fun e=>h.a1 (by rw[← e];exact hq))),h.a0,h.a1,h.a2⟩,
   ⟨by rw[hW];exact (((But.refl _ _).set ⟨g,n*2,none⟩ (by simp [mem_gB,hg]) _).set ⟨g,n*2+1,none⟩ (by simp [mem_gB,hg]) _).set ⟨b,o+2,none⟩ (by simp) _,fun q _ _ q3=>hcb q q3,hfb⟩⟩)
 rw[hv] at c0
 clear h hG hc hbl hcb hfb hrow HH HGG
 rw[hW] at HF
 clear hW
 go_wp2
 go_ret
 exact ⟨rfl,unhide HF⟩
theorem countOf_add (c:List (Option Nat)) (n x:Nat) (hn:n<c.length) (h:c.getD n none=none):countOf (c.set n (some x))=countOf c+1:=by
 unfold countOf
 induction c generalizing n with
 | nil=>simp at hn
 | cons y c ih=>
  cases n with
  | zero=>
   cases y with
   | none=>simp
   | some y=>simp at h
  | succ n=>
   have:=ih n (by simpa using hn) (by simpa using h)
   cases y <;> simp [this]
theorem countOf_le (c:List (Option Nat)):countOf c≤c.length:=List.length_filter_le _ _
def poolPut (c:List (Option Nat)) (n x:Nat):List (Option Nat):=if n<c.length then c.set n (some x) else c ++ [some x]
theorem add_any {w:World}{b o:Nat}{c:List (Option Nat)}{fr:List Nat}{vc vf:Value} (h:PoolAt w b o 148 encU (.int .u64 0) c fr vc vf) (hlc:c.length<1000000) (hbig:∀ q∈fr,q≤1099511627776) (x:Nat):
  Calls Tryz.prog 42 #[.pointer (some ⟨b,o,none⟩),.int .u64 (x:Nat)] w fun e w'=>∃ n,e=.returned (.int .i64 (n:Nat))∧c.getD n none=none∧(∀ q,q<n→c.getD q none≠none)∧n≤c.length∧∃ fr' vc' vf',PoolAt w' b o 148 encU (.int .u64 0) (poolPut c n x) fr' vc' vf'∧(∀ q∈fr',q∈fr)∧fr'.length≤fr.length∧Own2 w vc vc'∧(∀ g,vf'.ownBlock=some g→vf.ownBlock=some g)∧∃ w1,PChg b o vc vf w w1∧PChg b o vc' vf' w1 w':=by
 have hcc:=countOf_le c
 by_cases hp:0<fr.length∧fr.getD 0 0<c.length
 ·obtain ⟨q1,q2⟩:=h.ok.first hp.1 hp.2
  refine (add_core (n:=fr.getD 0 0) (c':=c) (k:=countOf c) hp.2 (by omega) (by omega) (x:=x) (G:=fun w1 vc' vf' fr'=>vc'=vc∧vf'.ownBlock=vf.ownBlock∧(fr.getD 0 0 :: fr').Perm fr∧HO fr'.length (fun q=>fr'.getD q 0)∧NChg b (o+1) vf w w1) ((lowest_pop h.raw h.ok.ho h.lf h.lc hp.1 _ rfl hp.2).mono (fun e w' hh=>?_))).mono (fun e w' hh=>?_)
  ·obtain ⟨e1,fr',vf',p1,p2,p3,p4,p5⟩:=hh
   exact ⟨e1,vc,vf',fr',⟨rfl,p4,p1,p2,p5⟩,p3⟩
  ·obtain ⟨e1,vc',vf',fr',w1,⟨rfl,p4,p1,p2,p5⟩,p3,p6⟩:=hh
   have hl':fr'.length+1=fr.length:=by have:=p1.length_eq;simpa using this
   have hlf:=h.lf
   refine ⟨_,e1,q1,q2,by omega,fr',vc',vf',?_,fun q hq=>p1.mem_iff.1 (List.mem_cons_of_mem _ hq),by omega,fun g hg=>.inl hg,fun g hg=>by rw[← p4];exact hg,w1,⟨p5.but.over (fun q hq=>?_),fun q _ q2 _=>p5.cell q q2,p5.froz⟩,p6⟩
   ·unfold poolPut
    rw[if_pos hp.2]
    rw[← countOf_add c _ x hp.2 q1] at p3
    exact p3.at (h.ok.takeFree hp.2 p1 p2) (by rw[List.length_set];exact h.lc) (by omega)
   ·simp only[List.mem_cons,List.mem_append] at hq ⊢
    rcases hq with e|e
    ·exact .inl e
    ·exact .inr (.inr e)
 ·have hfull:=h.ok.full hp
  have hx:fr.length=0∨c.length≤fr.getD 0 0:=by
   by_cases e:fr.length=0
   ·exact .inl e
   ·exact .inr (by by_cases e2:c.length≤fr.getD 0 0;exact e2;exact absurd ⟨by omega,by omega⟩ hp)
  refine (add_core (n:=c.length) (c':=c ++ [none]) (k:=countOf c) (by simp) (by simp;omega) (by omega) (x:=x) (G:=fun w1 vc' vf' fr'=>fr'=[]∧Own2 w vc vc'∧(∀ g,vf'.ownBlock=some g→vf.ownBlock=some g)∧PChg b o vc vf w w1) ((lowest_grow h.raw h.lf h.lc hx (fun j hj=>hbig _ (at_mem hj))).mono (fun e w' hh=>?_))).mono (fun e w' hh=>?_)
  ·obtain ⟨e1,vc',vf',p1,p2,p3,p4⟩:=hh
   exact ⟨e1,vc',vf',[],⟨rfl,p2,p3,p4⟩,p1⟩
  ·obtain ⟨e1,vc',vf',fr',w1,⟨rfl,p2,p3,p4⟩,p5,p6⟩:=hh
   have hset:(c ++ [none]).set c.length (some x)=c ++ [some x]:=by
    rw[List.set_append_right _ _ (Nat.le_refl _),Nat.sub_self];rfl
   refine ⟨_,e1,by rw[List.getD_eq_getElem?_getD,List.getElem?_eq_none (Nat.le_refl _)];rfl,hfull,Nat.le_refl _,[],vc',vf',?_,fun q hq=>by simp at hq,Nat.zero_le _,p2,p3,w1,p4,p6⟩
   unfold poolPut
   rw[if_neg (Nat.lt_irrefl _)]
   have hct:countOf (c ++ [some x])=countOf c+1:=by unfold countOf;simp
   rw[hset,← hct] at p5
   exact p5.at (PoolOk.grow x hfull) (by simp;omega) (by simp)
theorem Wide.cut {w:World}{e:TypeId}{sz n m:Nat}{a:Option Addr}{cap:Nat}{f:Nat→Value} (h:Wide w e sz (.slice a n cap) n f) (hm:m≤n):Wide w e sz (.slice a m cap) m f:=by
 rcases h with ⟨h1,h2⟩|⟨g',cap',cur,h1,h2,h3,h4,h5,h6⟩
 ·injection h1 with e1 e2 e3
  subst e1
  subst e3
  have:m=0:=by omega
  subst this
  exact .inl ⟨rfl,rfl⟩
 ·injection h1 with e1 e2 e3
  subst e1
  subst e3
  exact .inr ⟨g',cap,cur,rfl,h2,by omega,h4,h5,fun j hj=>h6 j (Nat.lt_of_lt_of_le hj (Nat.mul_le_mul_right _ hm))⟩
theorem own_cut (a:Option Addr) (n m cap:Nat):(Value.slice a n cap).ownBlock=(Value.slice a m cap).ownBlock:=by cases a <;> rfl
end Go.Proofs.YtnfbaapbpgbgpaaGreat
