import Derived.Test.YtidfllgaeiopjabGreatLkF
import Derived.Test.YtidfllgaeiopjabGreatDcD
import Derived.Test.YtidfllgaeiopjabGreatByteM
import Derived.Deep.RegionHeld3
import Derived.Test.YtidfllgaeiopjabGreatPool3
namespace Go.Proofs.YtidfllgaeiopjabGreat
open Go.ChangeShapes Go.WideShapes Go.ChangeAt Go.RowKit
set_option linter.unusedVariables false
set_option linter.unusedSimpArgs false
set_option maxRecDepth 100000
set_option maxHeartbeats 1000000
structure Fresh (w:World) (e:TypeId) (n:Nat) (f:Nat→Value) (v:Value) (W:World):Prop where
 ln:Line W e v n f
 ow:∀ g,v.ownBlock=some g→w.heap.size≤g
 be:Below w.heap.size w W
theorem Fresh.nil {w W:World} (e:TypeId) (f:Nat→Value) (k:Below w.heap.size w W):Fresh w e 0 f (.slice none 0 0) W:=⟨.inl ⟨rfl,rfl⟩,fun g hg=>(by cases hg),k⟩
theorem Fresh.still {w W W':World}{e:TypeId}{n:Nat}{f:Nat→Value}{v:Value} (h:Fresh w e n f v W) (k:Still W W'):Fresh w e n f v W':=⟨h.ln.same fun g _=>by rw[k.heap],h.ow,h.be.trans (k.below.mono h.be.size)⟩
theorem Fresh.made {w W:World}{e:TypeId}{n:Nat}{f:Nat→Value}{v:Value} (h:Fresh w e n f v W) (x:Obj):Fresh w e n f v (W.alloc x):=by
 have hb:Below W.heap.size W (W.alloc x):=(Below.refl _ _).alloc (Nat.le_refl _) _
 exact ⟨h.ln.same fun g hg=>hb.block g (h.ln.lt g hg),h.ow,h.be.trans (hb.mono h.be.size)⟩
theorem Fresh.more {w W w':World}{e:TypeId}{n:Nat}{f:Nat→Value}{v v' u:Value} (h:Fresh w e n f v W) (hl:Line w' e v' (n+1) (fun j=>if j<n then f j else u)) (hg:Grew e n u W w' v v') (hu:f n=u):Fresh w e (n+1) f v' w':=by
 refine ⟨hl.congr fun j hj=>?_,fun g q=>?_,⟨hg.os.trans h.be.os,hg.tape.trans h.be.tape,hg.output.trans h.be.output,Nat.le_trans h.be.size hg.size,fun j hj=>?_⟩⟩
 ·by_cases e1:j<n
  ·exact if_pos e1
  ·rw[if_neg e1,show j=n by omega,hu]
 ·rcases hg.own g q with z|z
  ·exact h.ow g z
  ·exact Nat.le_trans h.be.size z
 ·rw[hg.other j (Nat.lt_of_lt_of_le hj h.be.size) (fun q=>by have:=h.ow j q;omega)]
  exact h.be.block j hj
theorem dbytes_no {w:World}{pd sn:Nat}{dt:Nat→Nat}{M:Hp}{C:DC} (h:DAt w pd dt M sn C) (wf:HpWf M) (hn:M.objs.length≤1000000) (h1:1≤M.objs.length) {x:Nat} (hx:x<18446744073709551616) (from' n:Int) (hf1:from'≤9223372036854775807) (hf2:-9223372036854775808≤from') (he:spanM M x from' n≠0):
  Calls Tryz.prog 106 #[.pointer (some ⟨pd,0,none⟩),.int .u64 (x:Nat),.int .i64 from',.int .i64 n] w fun e w'=>e=.returned (.tuple #[.slice none 0 0,.int .i64 (spanM M x from' n:Nat)])∧Still w w':=by
 have H141:=hide (did_any h wf hn h1 hx)
 by_cases h0:numOf M x=0
 ·have e:spanM M x from' n=32:=by unfold spanM;rw[if_pos h0]
  rw[e]
  rw[h0] at H141
  clear h wf h0 e he
  go_enter Tryz.func106,Tryz.ntmps106
  go_wp2_with fail
  refine (unhide H141).mono ?_
  rintro e w2 ⟨rfl,hS⟩
  have HS:=hide hS
  clear hS H141
  go_wp2_with fail
  all_goals go_ret2
  all_goals exact ⟨rfl,unhide HS⟩
 ·have hI:=num_is h0
  have hl:=wf.ln _ hI
  obtain ⟨gO,cO,ar,aw,cr,cw,⟨s0,y0,y1,y2,y3,y4,y5,_,hrf,hrw⟩,_⟩:=h.obj hl
  have f:M.objs.getD (numOf M x) ob0=ob M (numOf M x):=rfl
  rw[f] at y2
  obtain ⟨b1,b2⟩:=raws_le wf hI
  have hc:¬ (0≤from'∧0≤n∧from'+n≤8*((ob M (numOf M x)).raws.length:Nat)):=fun q=>he (by unfold spanM;rw[if_neg h0,if_pos q])
  have e:spanM M x from' n=33:=by unfold spanM;rw[if_neg h0,if_neg hc]
  rw[e]
  have H142:Hid (∀ W,Calls Tryz.prog 159 #[.int .i64 from',.int .i64 n,.int .i64 ((ob M (numOf M x)).raws.length:Nat)] W fun e w'=>e=.returned (.bool false)∧Still W w'):=hide (fun W=>(dspan_any (w:=W) from' n _ b2 hf1 hf2).mono fun e w' ⟨q1,q2⟩=>⟨by rw[q1,decide_eq_false hc],q2⟩)
  obtain ⟨i,hi⟩:∃ i,numOf M x=i:=⟨_,rfl⟩
  rw[hi] at H141 H142 y2 hl h0
  generalize (ob M i).raws.length=wl at *
  generalize M.objs.length=N at *
  have i1:(0:Int)≤(i:Nat):=by omega
  have i2:(i:Int)<(N:Nat):=by omega
  have d0:((i:Int) == 0)=false:=by simp;omega
  have d0':((i:Int)=0)=False:=by simp;omega
  clear h wf e he hI y0 y1 y3 y4 y5 f hi hrf hrw hc
  go_enter Tryz.func106,Tryz.ntmps106
  go_wp2_with fail
  refine (unhide H141).mono ?_
  rintro e w2 ⟨rfl,hS⟩
  have s0:=(hS.cell _).trans s0
  have y2:=(hS.cell _).trans y2
  have HS:=hide hS
  clear hS H141
  go_wp2_with fail
  refine (unhide H142 _).mono ?_
  rintro e w3 ⟨rfl,hS3⟩
  have HS3:=hide ((unhide HS).trans hS3)
  clear hS3 H142 HS
  go_wp2_with fail
  all_goals go_ret2
  all_goals exact ⟨rfl,unhide HS3⟩
theorem dbytes_yes {w:World}{pd sn:Nat}{dt:Nat→Nat}{M:Hp}{C:DC} (h:DAt w pd dt M sn C) (wf:HpWf M) (hn:M.objs.length≤1000000) (h1:1≤M.objs.length) {x:Nat} (hx:x<18446744073709551616) (from' n:Nat) (he:spanM M x (from':Nat) (n:Nat)=0) (hw:∀ j,(ob M (numOf M x)).raws.getD j 0<18446744073709551616):
  Calls Tryz.prog 106 #[.pointer (some ⟨pd,0,none⟩),.int .u64 (x:Nat),.int .i64 (from':Nat),.int .i64 (n:Nat)] w fun e w'=>∃ a cap,e=.returned (.tuple #[.slice a n cap,.int .i64 0])∧Fresh w 5 n (fun i=>.int .u8 ((bytM M (numOf M x)).getD (from'+i) 0:Nat)) (.slice a n cap) w':=by
 have H141:=hide (did_any h wf hn h1 hx)
 have h0:numOf M x≠0:=fun q=>by unfold spanM at he;rw[if_pos q] at he;cases he
 have hI:=num_is h0
 have hl:=wf.ln _ hI
 obtain ⟨gO,cO,ar,aw,cr,cw,⟨s0,y0,y1,y2,y3,y4,y5,_,hrf,hrw⟩,_⟩:=h.obj hl
 have f:M.objs.getD (numOf M x) ob0=ob M (numOf M x):=rfl
 rw[f] at y2 hrw
 obtain ⟨b1,b2⟩:=raws_le wf hI
 have hc:0≤(from':Int)∧0≤(n:Int)∧(from':Int)+(n:Nat)≤8*((ob M (numOf M x)).raws.length:Nat):=by
  by_cases q:0≤(from':Int)∧0≤(n:Int)∧(from':Int)+(n:Nat)≤8*((ob M (numOf M x)).raws.length:Nat)
  ·exact q
  ·unfold spanM at he;rw[if_neg h0,if_neg q] at he;cases he
 have H142:Hid (∀ W,Calls Tryz.prog 159 #[.int .i64 (from':Nat),.int .i64 (n:Nat),.int .i64 ((ob M (numOf M x)).raws.length:Nat)] W fun e w'=>e=.returned (.bool true)∧Still W w'):=hide (fun W=>(dspan_any (w:=W) from' n _ b2 (by omega) (by omega)).mono fun e w' ⟨q1,q2⟩=>⟨by rw[q1,decide_eq_true hc],q2⟩)
 have HBY:Hid (∀ j,j<n→(bytM M (numOf M x)).getD (from'+j) 0=(ob M (numOf M x)).raws.getD ((from'+j) / 8) 0 / 2 ^ (8*((from'+j)%8))%256):=hide (fun j hj=>by
  unfold bytM
  exact Larder.unpackL_get _ _ _ (by omega))
 have HWD:Hid (∀ W j,Below w.heap.size w W→j<(ob M (numOf M x)).raws.length→∃ g,aw=some ⟨g,0,none⟩∧W.cell? ⟨g,j,none⟩=some (.int .u64 ((ob M (numOf M x)).raws.getD j 0:Nat))):=hide (fun W j k hj=>by
  obtain ⟨g,q1,q2,q3⟩:=hrw j hj
  exact ⟨g,q1,(k.cell (p:=⟨g,j,none⟩) (block_lt_of_cell q2)).trans q2⟩)
 have HW:=hide hw
 have hc3:from'+n≤8*(ob M (numOf M x)).raws.length:=by omega
 obtain ⟨i,hi⟩:∃ i,numOf M x=i:=⟨_,rfl⟩
 rw[hi] at H141 H142 HBY HWD HW y2 hl h0 hc3 b2 ⊢
 obtain ⟨B,hB⟩:∃ B,bytM M i=B:=⟨_,rfl⟩
 rw[hB] at HBY ⊢
 generalize (ob M i).raws=wl at *
 generalize M.objs.length=N at *
 have i1:(0:Int)≤(i:Nat):=by omega
 have i2:(i:Int)<(N:Nat):=by omega
 have d0:((i:Int) == 0)=false:=by simp;omega
 have d0':((i:Int)=0)=False:=by simp;omega
 obtain ⟨i0,hiI,hy0,hy1,hy2⟩:=info_parts Tryz.info5
 have w0:IntKind.i64.wrap ((from':Int)+(n:Int))=(from':Int)+(n:Int):=wrap_small _ (by omega) (by omega)
 clear h wf he hI y0 y1 y3 y4 y5 f hi hrf hrw hc hB hw
 go_enter Tryz.func106,Tryz.ntmps106
 go_wp2_with fail
 refine (unhide H141).mono ?_
 rintro e w2 ⟨rfl,hS⟩
 have s0:=(hS.cell _).trans s0
 have y2:=(hS.cell _).trans y2
 have HS:=hide hS
 clear hS H141
 go_wp2_with fail
 refine (unhide H142 _).mono ?_
 rintro e w3 ⟨rfl,hS3⟩
 have HF:=hide (Fresh.nil 5 (fun i=>.int .u8 (B.getD (from'+i) 0:Nat)) ((unhide HS).trans hS3).below)
 clear hS3 H142 HS s0 y2
 go_wp2_with fail
 go_loopw [12,13] (fun sv iv wr=>∃ (k:Nat) (v:Value),sv=v∧iv=.int .i64 ((from'+k:Nat):Int)∧k≤n∧Hid (Fresh w 5 k (fun i=>.int .u8 (B.getD (from'+i) 0:Nat)) v wr)) (fun _ iv _=>from'+n-(intOf iv).toNat)
 case atStart=>exact ⟨0,_,rfl,rfl,Nat.zero_le _,HF⟩
 case round=>
  clear HF
  obtain ⟨k,v,rfl,rfl,hk,hF⟩:=hrel
  obtain ⟨a,cap,rfl⟩:=(unhide hF).ln.shape
  by_cases hlt:k<n
  ·obtain ⟨J,hJ⟩:∃ J,J=from'+k:=⟨_,rfl⟩
   obtain ⟨sh,hsh⟩:∃ sh,sh=8*(J%8):=⟨_,rfl⟩
   have hqn:J / 8<wl.length:=by omega
   obtain ⟨g,rfl,e0⟩:=unhide HWD wr (J / 8) (unhide hF).be hqn
   have hc64:=unhide HW (J / 8)
   have hby:=unhide HBY k hlt
   rw[← hJ,← hsh] at hby
   rw[← hJ]
   obtain ⟨c,hcc⟩:∃ c,c=wl.getD (J / 8) 0:=⟨_,rfl⟩
   rw[← hcc] at e0 hc64 hby
   have dl:decide ((J:Int)<(from':Int)+(n:Int))=true:=decide_eq_true (by omega)
   have q1:(0:Int)≤(J:Int) / 8:=by omega
   have q2:(J:Int) / 8<(wl.length:Nat):=by omega
   have hwq:IntKind.i64.wrap ((J:Int) / 8)=(J:Int) / 8:=wrap_small _ (by omega) (by omega)
   have hwm:IntKind.i64.wrap ((J:Int)%8)=(J:Int)%8:=wrap_small _ (by omega) (by omega)
   have hws:IntKind.i64.wrap (8*((J:Int)%8))=(sh:Int):=by rw[wrap_small _ (by omega) (by omega)];omega
   have hsh64:sh<64:=by omega
   have w1:IntKind.i64.wrap ((J:Int)+1)=(J:Int)+1:=wrap_small _ (by omega) (by omega)
   have HJ:=hide hJ
   have HSH:=hide hsh
   have HCC:=hide hcc
   clear HWD HW HBY hJ hsh hcc
   have HFM:=hide (Fresh.made (unhide hF) (.cells #[.int .u8 ((c:Int) / 2 ^ sh%256)] 5))
   have HCM:Hid ((wr.alloc (.cells #[.int .u8 ((c:Int) / 2 ^ sh%256)] 5)).cell? ⟨wr.heap.size,0,none⟩=some (.int .u8 ((c:Int) / 2 ^ sh%256))):=hide (cell_made rfl _ _)
   have HU:Hid (Value.int .u8 (B.getD J 0:Nat)=.int .u8 ((c:Int) / 2 ^ sh%256)):=hide (by rw[hby];simp)
   clear hF
   clear hby
   go_wp2_with (refine append_line rfl (.tmp 41) (.tmp 53) 42 rfl 5 i0 (.int .u8 0) 1 Tryz.underlying42 hiI hy0 hy1 hy2 rfl (.slice a k cap) k _ (by simp [Act.eval]) (unhide HFM).ln wr.heap.size (by simp [Act.eval]) (.int .u8 ((c:Int) / 2 ^ sh%256)) (unhide HCM) rfl (by omega) (by omega) ?_)
   intro v9 w9 hl9 hg9
   have HF9:=hide ((unhide HFM).more hl9 hg9 (by rw[← unhide HU,unhide HJ]))
   obtain ⟨a9,c9,rfl⟩:=hl9.shape
   clear hl9 hg9 HFM HCM
   go_wp2_with fail
   all_goals go_roundw
   all_goals first|exact ⟨k+1,_,rfl,by rw[unhide HJ];simp;omega,by omega,HF9⟩|(have:=unhide HJ;simp [intOf];omega)
  ·have:k=n:=by omega
   subst this
   have dl:decide (((from'+k:Nat):Int)<(from':Int)+(k:Int))=false:=decide_eq_false (by omega)
   go_wp2
   go_ret2
   exact ⟨_,_,rfl,unhide hF⟩
theorem dhead_any {w:World} (k r s:Nat) (hk:k≤1000000) (hr:r≤10000000) (hs:s≤10000000):
  Calls Tryz.prog 115 #[.int .i64 (k:Nat),.int .i64 (r:Nat),.int .i64 (s:Nat)] w fun e w'=>e=.returned (.int .u64 ((k+256*r+4294967296*s:Nat):Int))∧Still w w':=by
 have a1:IntKind.u64.wrap (k:Int)=(k:Int):=by rw[IntKind.wrap_u64];omega
 have a2:IntKind.u64.wrap (r:Int)=(r:Int):=by rw[IntKind.wrap_u64];omega
 have a3:IntKind.u64.wrap (s:Int)=(s:Int):=by rw[IntKind.wrap_u64];omega
 have b1:IntKind.u64.wrap ((r:Int)*256)=(r:Int)*256:=by rw[IntKind.wrap_u64];omega
 have b2:IntKind.u64.wrap ((s:Int)*4294967296)=(s:Int)*4294967296:=by rw[IntKind.wrap_u64];omega
 have c1:IntKind.u64.wrap ((k:Int)+(r:Int)*256)=(k:Int)+(r:Int)*256:=by rw[IntKind.wrap_u64];omega
 have c2:IntKind.u64.wrap ((k:Int)+(r:Int)*256+(s:Int)*4294967296)=(k:Int)+(r:Int)*256+(s:Int)*4294967296:=by rw[IntKind.wrap_u64];omega
 go_enter Tryz.func115,Tryz.ntmps115
 go_wp2_with fail
 go_ret
 refine ⟨ret_int ?_,Still.refl _⟩
 omega
structure ImgI (w:World) (wl:List Nat) (v:Value) (b:Nat) (o:Obj) (W:World):Prop where
 f:Fresh w 41 wl.length (wordV wl) v W
 bx:W.heap[b]?=some o
 nb:v.ownBlock≠some b
theorem ImgI.still {w W W':World}{wl:List Nat}{v:Value}{b:Nat}{o:Obj} (h:ImgI w wl v b o W) (s:Still W W'):ImgI w wl v b o W':=⟨h.f.still s,by rw[s.heap];exact h.bx,h.nb⟩
theorem ImgI.made {w W:World}{wl:List Nat}{v:Value}{b:Nat}{o:Obj} (h:ImgI w wl v b o W) (x:Obj):ImgI w wl v b o (W.alloc x):=by
 refine ⟨h.f.made x,?_,h.nb⟩
 have hb:b<W.heap.size:=by
  have:=h.bx
  rcases Nat.lt_or_ge b W.heap.size with q|q
  ·exact q
  ·rw[Array.getElem?_eq_none q] at this;cases this
 rw[heap_alloc_old _ _ hb];exact h.bx
theorem Fresh.word {w W w':World}{wl:List Nat}{v v':Value}{x:Nat} (h:Fresh w 41 wl.length (wordV wl) v W) (hl:Line w' 41 v' (wl.length+1) (fun j=>if j<wl.length then wordV wl j else .int .u64 (x:Nat))) (hg:Grew 41 wl.length (.int .u64 (x:Nat)) W w' v v'):Fresh w 41 (wl ++ [x]).length (wordV (wl ++ [x])) v' w':=by
 have e:∀ j,j<wl.length→wordV (wl ++ [x]) j=wordV wl j:=fun j hj=>by
  unfold wordV
  rw[List.getD_eq_getElem?_getD,List.getElem?_append_left hj,List.getD_eq_getElem?_getD]
 have e2:wordV (wl ++ [x]) wl.length=.int .u64 (x:Nat):=by
  unfold wordV
  rw[List.getD_eq_getElem?_getD,List.getElem?_append_right (Nat.le_refl _)]
  simp
 have h2:Fresh w 41 wl.length (wordV (wl ++ [x])) v W:=⟨h.ln.congr fun j hj=>(e j hj).symm,h.ow,h.be⟩
 rw[List.length_append]
 refine h2.more (hl.congr fun j hj=>?_) hg e2
 by_cases q:j<wl.length
 ·rw[if_pos q,if_pos q,e j q]
 ·rw[if_neg q,if_neg q]
theorem ImgI.more {w W w':World}{wl:List Nat}{v v':Value}{x b:Nat}{o:Obj} (h:ImgI w wl v b o W) (hl:Line w' 41 v' (wl.length+1) (fun j=>if j<wl.length then wordV wl j else .int .u64 (x:Nat))) (hg:Grew 41 wl.length (.int .u64 (x:Nat)) W w' v v'):ImgI w (wl ++ [x]) v' b o w':=by
 have hb:b<W.heap.size:=by
  have:=h.bx
  rcases Nat.lt_or_ge b W.heap.size with q|q
  ·exact q
  ·rw[Array.getElem?_eq_none q] at this;cases this
 refine ⟨h.f.word hl hg,by rw[hg.other b hb h.nb];exact h.bx,fun q=>?_⟩
 rcases hg.own b q with z|z
 ·exact h.nb z
 ·omega
set_option maxHeartbeats 2000000
structure ImgO (pd nM gM cM gO nO cO j i:Nat) (o:Ob) (ar aw:Option Addr) (cr cw:Nat) (W:World):Prop where
 c7:W.cell? ⟨pd,7,none⟩=some (.slice (some ⟨gM,0,none⟩) nM cM)
 s:W.cell? ⟨gM,j,none⟩=some (.int .i64 (i:Nat))
 c6:W.cell? ⟨pd,6,none⟩=some (.slice (some ⟨gO,0,none⟩) nO cO)
 y0:W.cell? ⟨gO,i*6,none⟩=some (.int .i64 (o.kind:Nat))
 y1:W.cell? ⟨gO,i*6+1,none⟩=some (.slice ar o.refs.length cr)
 y2:W.cell? ⟨gO,i*6+2,none⟩=some (.slice aw o.raws.length cw)
 y3:W.cell? ⟨gO,i*6+3,none⟩=some (.bool o.there)
 y4:W.cell? ⟨gO,i*6+4,none⟩=some (.bool o.big)
 y5:W.cell? ⟨gO,i*6+5,none⟩=some (.int .i64 (o.at':Nat))
theorem dimage_walk {w:World}{pd nM cM nO:Nat}{aM:Option Addr}{sm:Nat→Nat}{oo:Nat→Ob}{rw':Nat→Nat→Nat}{img:Nat→List Nat}
  (c7:w.cell? ⟨pd,7,none⟩=some (.slice aM nM cM)) (hM:nM≤1000000) (hO:nO≤1000000)
  (HO:∀ W j,Below w.heap.size w W→j<nM→sm j<nO∧∃ gM gO cO ar aw cr cw,aM=some ⟨gM,0,none⟩∧ImgO pd nM gM cM gO nO cO j (sm j) (oo j) ar aw cr cw W∧(∀ W' k,Below w.heap.size w W'→k<(oo j).refs.length→∃ g,ar=some ⟨g,0,none⟩∧W'.cell? ⟨g,k,none⟩=some (.int .i64 ((oo j).refs.getD k 0:Nat)))∧(∀ W' k,Below w.heap.size w W'→k<(oo j).raws.length→∃ g,aw=some ⟨g,0,none⟩∧W'.cell? ⟨g,k,none⟩=some (.int .u64 ((oo j).raws.getD k 0:Nat))))
  (hb:∀ j,j<nM→(oo j).kind≤1000000∧(oo j).refs.length≤10000000∧(oo j).raws.length≤10000000)
  (HR:∀ W j k,Below w.heap.size w W→j<nM→k<(oo j).refs.length→Calls Tryz.prog 116 #[.pointer (some ⟨pd,0,none⟩),.int .i64 ((oo j).refs.getD k 0:Nat)] W fun e w'=>e=.returned (.int .u64 (rw' j k:Nat))∧Still W w')
  (i0:img 0=[0]) (i1:∀ j,j<nM→img (j+1)=img j ++ [(oo j).kind+256*(oo j).refs.length+4294967296*(oo j).raws.length]++(List.range (oo j).refs.length).map (rw' j)++(oo j).raws) (il:∀ j,j≤nM→(img j).length≤100000000):
  Calls Tryz.prog 54 #[.pointer (some ⟨pd,0,none⟩)] w fun e w'=>∃ v,e=.returned v∧Fresh w 41 (img nM).length (wordV (img nM)) v w':=by
 have HO':=hide HO
 have HB:=hide hb
 have HR':=hide HR
 have HI1:=hide i1
 have HIL:=hide il
 have hpd:pd<w.heap.size:=block_lt_of_cell c7
 have HC7:Hid (∀ W,Below w.heap.size w W→W.cell? ⟨pd,7,none⟩=some (.slice aM nM cM)):=hide (fun W k=>(k.cell (p:=⟨pd,7,none⟩) hpd).trans c7)
 have HF0:Hid (Fresh w 41 (img 0).length (wordV (img 0)) (.slice (some ⟨w.heap.size,0,none⟩) 1 1) (w.alloc (.cells #[.int .u64 0] 41))):=hide (by
  rw[i0]
  refine ⟨.inr ⟨w.heap.size,1,#[.int .u64 0],rfl,heap_alloc_new _ _,Nat.le_refl _,by decide,rfl,fun j hj=>?_⟩,fun g e=>by cases e;exact Nat.le_refl _,(Below.refl _ _).alloc (Nat.le_refl _) _⟩
  have:j=0:=by simp at hj;omega
  subst this
  rfl)
 obtain ⟨t0,hti,hy0,hy1,hy2⟩:=info_parts Tryz.info41
 clear HO hb HR i0 i1 il
 go_enter Tryz.func54,Tryz.ntmps54
 go_wp2_with fail
 go_loopw [3,4] (fun sv iv wr=>∃ (j:Nat),iv=.int .i64 (j:Nat)∧j≤nM∧Hid (Fresh w 41 (img j).length (wordV (img j)) sv wr)) (fun _ iv _=>nM-(intOf iv).toNat)
 case atStart=>exact ⟨0,rfl,Nat.zero_le _,HF0⟩
 case round=>
  clear HF0 c7
  obtain ⟨j,rfl,hj,hF⟩:=hrel
  have c7:=unhide HC7 _ (unhide hF).be
  have w1:IntKind.i64.wrap ((j:Int)+1)=(j:Int)+1:=wrap_small _ (by omega) (by omega)
  by_cases hlt:j<nM
  ·have dl:decide ((j:Int)<(nM:Nat))=true:=decide_eq_true (by omega)
   obtain ⟨hs,gM,gO,cO,ar,aw,cr,cw,rfl,⟨_,x7,x6,y0,y1,y2,y3,y4,y5⟩,HRf,HRw⟩:=unhide HO' _ j (unhide hF).be hlt
   obtain ⟨b1,b2,b3⟩:=unhide HB j hlt
   have HRf:=hide HRf
   have HRw:=hide HRw
   have HRC:=hide (fun W k h1 h2=>unhide HR' W j k h1 hlt h2)
   have HNX:=hide (unhide HI1 j hlt)
   have hil:=unhide HIL (j+1) (by omega)
   clear HO' HB HR' HI1 HIL
   have j1:(0:Int)≤(j:Nat):=by omega
   have j2:(j:Int)<(nM:Nat):=by omega
   have s1:(0:Int)≤(sm j:Nat):=by omega
   have s2:(sm j:Int)<(nO:Nat):=by omega
   generalize sm j=i at *
   generalize oo j=o at *
   generalize hrw:rw' j=rw'' at *
   clear hrw
   have l1:pd<wr.heap.size:=block_lt_of_cell c7
   have l2:gM<wr.heap.size:=block_lt_of_cell x7
   have l3:gO<wr.heap.size:=block_lt_of_cell y0
   have n1:pd≠wr.heap.size:=by omega
   have n2:gM≠wr.heap.size:=by omega
   have n3:gO≠wr.heap.size:=by omega
   have HA:Hid (Below wr.heap.size wr (wr.alloc (.cells #[.int .i64 0,.slice none 0 0,.slice none 0 0,.bool false,.bool false,.int .i64 0] 168))):=hide ((Below.refl _ _).alloc (Nat.le_refl _) _)
   have z7:=((unhide HA).cell (p:=⟨pd,7,none⟩) l1).trans c7
   have z8:=((unhide HA).cell (p:=⟨gM,j,none⟩) l2).trans x7
   have z6:=((unhide HA).cell (p:=⟨pd,6,none⟩) l1).trans x6
   have z0:=((unhide HA).cell (p:=⟨gO,i*6,none⟩) l3).trans y0
   have z1:=((unhide HA).cell (p:=⟨gO,i*6+1,none⟩) l3).trans y1
   have z2:=((unhide HA).cell (p:=⟨gO,i*6+2,none⟩) l3).trans y2
   have z3:=((unhide HA).cell (p:=⟨gO,i*6+3,none⟩) l3).trans y3
   have z4:=((unhide HA).cell (p:=⟨gO,i*6+4,none⟩) l3).trans y4
   have z5:=((unhide HA).cell (p:=⟨gO,i*6+5,none⟩) l3).trans y5
   go_wp2_with fail
   go_region
   all_goals go_wp2_with fail
   all_goals refine (dhead_any _ _ _ b1 b2 b3).mono ?_
   all_goals rintro e w2 ⟨rfl,hS2⟩
   obtain ⟨a0,cap0,rfl⟩:=(unhide hF).ln.shape
   have HIM:Hid (ImgI w (img j) (.slice a0 (img j).length cap0) wr.heap.size (.cells #[.int .i64 (o.kind:Nat),.slice ar o.refs.length cr,.slice aw o.raws.length cw,.bool o.there,.bool o.big,.int .i64 (o.at':Nat)] 168) w2):=hide (by
    refine ImgI.still (ImgI.still (W:=wr.alloc (.cells #[.int .i64 (o.kind:Nat),.slice ar o.refs.length cr,.slice aw o.raws.length cw,.bool o.there,.bool o.big,.int .i64 (o.at':Nat)] 168)) ⟨(unhide hF).made _,heap_alloc_new _ _,fun q=>?_⟩ ((Still.refl _).drew 1)) hS2
    exact Nat.lt_irrefl _ ((unhide hF).ln.lt _ q))
   generalize wr.heap.size=b at *
   clear hS2 hF l1 l2 l3 n1 n2 n3 HA z7 z8 z6 z0 z1 z2 z3 z4 z5 c7 x7 x6 y0 y1 y2 y3 y4 y5
   obtain ⟨hd,hhd⟩:∃ hd,hd=o.kind+256*o.refs.length+4294967296*o.raws.length:=⟨_,rfl⟩
   rw[← hhd] at HNX ⊢
   clear hhd
   have HNL:Hid ((img (j+1)).length=(img j).length+1+o.refs.length+o.raws.length):=hide (by rw[unhide HNX];simp;omega)
   have hnl:=unhide HNL
   have HMB:Hid (∀ L v W,ImgI w L v b (.cells #[.int .i64 (o.kind:Nat),.slice ar o.refs.length cr,.slice aw o.raws.length cw,.bool o.there,.bool o.big,.int .i64 (o.at':Nat)] 168) W→W.cell? ⟨b,1,none⟩=some (.slice ar o.refs.length cr)∧W.cell? ⟨b,2,none⟩=some (.slice aw o.raws.length cw)):=hide (fun L v W h=>by
    have:=h.bx
    constructor <;> (simp only[World.cell?,this];rfl))
   generalize hOB:Obj.cells #[.int .i64 (o.kind:Nat),.slice ar o.refs.length cr,.slice aw o.raws.length cw,.bool o.there,.bool o.big,.int .i64 (o.at':Nat)] 168=OB at *
   clear hOB
   have HA1:=hide ((unhide HIM).made (.cells #[.int .u64 (hd:Nat)] 41))
   have HC1:Hid ((w2.alloc (.cells #[.int .u64 (hd:Nat)] 41)).cell? ⟨w2.heap.size,0,none⟩=some (.int .u64 (hd:Nat))):=hide (cell_made rfl _ _)
   clear HIM
   go_wp2_with (refine append_line rfl (.tmp 31) (.tmp 41) 36 rfl 41 t0 (.int .u64 0) 8 Tryz.underlying36 hti hy0 hy1 hy2 rfl (.slice a0 (img j).length cap0) (img j).length _ (by simp [Act.eval]) (unhide HA1).f.ln w2.heap.size (by simp [Act.eval]) (.int .u64 (hd:Nat)) (unhide HC1) rfl (by omega) (by omega) ?_)
   intro v9 w9 hl9 hg9
   have HI9:=hide ((unhide HA1).more hl9 hg9)
   obtain ⟨a9,c9,rfl⟩:=hl9.shape
   clear hl9 hg9 HA1 HC1
   go_wp2_with fail
   go_loopw [3,6] (fun sv kv wr2=>∃ (k:Nat),kv=.int .i64 (k:Nat)∧k≤o.refs.length∧Hid (ImgI w (img j ++ [hd]++(List.range k).map rw'') sv b OB wr2)) (fun _ kv _=>o.refs.length-(intOf kv).toNat)
   case atStart=>exact ⟨0,rfl,Nat.zero_le _,by simpa using HI9⟩
   case round=>
    clear HI9
    obtain ⟨k,rfl,hk,hI⟩:=hrel
    obtain ⟨m1,m2⟩:=unhide HMB _ _ _ (unhide hI)
    have w3:IntKind.i64.wrap ((k:Int)+1)=(k:Int)+1:=wrap_small _ (by omega) (by omega)
    by_cases hlk:k<o.refs.length
    ·have dk:decide ((k:Int)<(o.refs.length:Nat))=true:=decide_eq_true (by omega)
     obtain ⟨g,rfl,e0⟩:=unhide HRf _ k (unhide hI).f.be hlk
     have HCL:=hide (unhide HRC _ k (unhide hI).f.be hlk)
     obtain ⟨rr,hrr⟩:∃ rr,rr=o.refs.getD k 0:=⟨_,rfl⟩
     rw[← hrr] at e0 HCL
     clear hrr
     have k1:(0:Int)≤(k:Nat):=by omega
     have k2:(k:Int)<(o.refs.length:Nat):=by omega
     obtain ⟨L,hL⟩:∃ L,L=img j ++ [hd]++(List.range k).map rw'':=⟨_,rfl⟩
     have hLl:L.length≤100000000:=by rw[hL];simp;omega
     have HNL2:Hid (img j ++ [hd]++(List.range (k+1)).map rw''=L ++ [rw'' k]):=hide (by rw[hL,List.range_succ];simp)
     rw[← hL] at hI
     clear hL
     obtain ⟨a1,cap1,rfl⟩:=(unhide hI).f.ln.shape
     go_wp2_with fail
     refine (unhide HCL).mono ?_
     rintro e w4 ⟨rfl,hS4⟩
     have HA1:=hide (((unhide hI).still hS4).made (.cells #[.int .u64 (rw'' k:Nat)] 41))
     have HC1:Hid ((w4.alloc (.cells #[.int .u64 (rw'' k:Nat)] 41)).cell? ⟨w4.heap.size,0,none⟩=some (.int .u64 (rw'' k:Nat))):=hide (cell_made rfl _ _)
     clear hI hS4 HCL m1 m2 e0
     go_wp2_with (refine append_line rfl (.tmp 50) (.tmp 58) 36 rfl 41 t0 (.int .u64 0) 8 Tryz.underlying36 hti hy0 hy1 hy2 rfl (.slice a1 L.length cap1) L.length _ (by simp [Act.eval]) (unhide HA1).f.ln w4.heap.size (by simp [Act.eval]) (.int .u64 (rw'' k:Nat)) (unhide HC1) rfl (by omega) (by omega) ?_)
     intro v8 w8 hl8 hg8
     have HI8:=hide ((unhide HA1).more hl8 hg8)
     obtain ⟨a8,c8,rfl⟩:=hl8.shape
     clear hl8 hg8 HA1 HC1
     go_wp2_with fail
     all_goals go_roundw
     all_goals first|exact ⟨k+1,by simp,by omega,by rw[unhide HNL2];exact HI8⟩|(simp [intOf];omega)
    ·have hkn:k=o.refs.length:=by omega
     have dk:decide ((k:Int)<(o.refs.length:Nat))=false:=decide_eq_false (by omega)
     subst hkn
     clear HRf HRC
     obtain ⟨L1,hL1⟩:∃ L1,L1=img j ++ [hd]++(List.range o.refs.length).map rw'':=⟨_,rfl⟩
     have hL1l:Hid (L1.length=(img j).length+1+o.refs.length):=hide (by rw[hL1];simp;omega)
     rw[← hL1] at hI HNX
     clear hL1
     obtain ⟨a1,cap1,rfl⟩:=(unhide hI).f.ln.shape
     go_wp2_with fail
     go_loopw [3,7] (fun sv kv wr3=>∃ (q:Nat),kv=.int .i64 (q:Nat)∧q≤o.raws.length∧Hid (ImgI w (L1++o.raws.take q) sv b OB wr3)) (fun _ kv _=>o.raws.length-(intOf kv).toNat)
     case atStart=>exact ⟨0,rfl,Nat.zero_le _,by simpa using hI⟩
     case round=>
      clear hI m1 m2
      obtain ⟨q,rfl,hq,hI⟩:=hrel
      obtain ⟨m1,m2⟩:=unhide HMB _ _ _ (unhide hI)
      have w4:IntKind.i64.wrap ((q:Int)+1)=(q:Int)+1:=wrap_small _ (by omega) (by omega)
      by_cases hlq:q<o.raws.length
      ·have dq:decide ((q:Int)<(o.raws.length:Nat))=true:=decide_eq_true (by omega)
       obtain ⟨g,rfl,e0⟩:=unhide HRw _ q (unhide hI).f.be hlq
       have k1:(0:Int)≤(q:Nat):=by omega
       have k2:(q:Int)<(o.raws.length:Nat):=by omega
       obtain ⟨L,hL⟩:∃ L,L=L1++o.raws.take q:=⟨_,rfl⟩
       have hLl:L.length≤100000000:=by have:=unhide hL1l;rw[hL];simp;omega
       have HNL2:Hid (L1++o.raws.take (q+1)=L ++ [o.raws.getD q 0]):=hide (by
        rw[hL,List.take_add_one,List.getElem?_eq_getElem hlq,List.getD_eq_getElem?_getD,List.getElem?_eq_getElem hlq]
        simp)
       rw[← hL] at hI
       clear hL
       obtain ⟨x,hx⟩:∃ x,x=o.raws.getD q 0:=⟨_,rfl⟩
       rw[← hx] at e0 HNL2
       clear hx
       obtain ⟨a2,cap2,rfl⟩:=(unhide hI).f.ln.shape
       have HA1:=hide ((unhide hI).made (.cells #[.int .u64 (x:Nat)] 41))
       have HC1:Hid ((wr.alloc (.cells #[.int .u64 (x:Nat)] 41)).cell? ⟨wr.heap.size,0,none⟩=some (.int .u64 (x:Nat))):=hide (cell_made rfl _ _)
       clear hI
       go_wp2_with (refine append_line rfl (.tmp 67) (.tmp 73) 36 rfl 41 t0 (.int .u64 0) 8 Tryz.underlying36 hti hy0 hy1 hy2 rfl (.slice a2 L.length cap2) L.length _ (by simp [Act.eval]) (unhide HA1).f.ln wr.heap.size (by simp [Act.eval]) (.int .u64 (x:Nat)) (unhide HC1) rfl (by omega) (by omega) ?_)
       intro v8 w8 hl8 hg8
       have HI8:=hide ((unhide HA1).more hl8 hg8)
       obtain ⟨a8,c8,rfl⟩:=hl8.shape
       clear hl8 hg8 HA1 HC1 e0 m1 m2
       go_wp2_with fail
       all_goals go_roundw
       all_goals first|exact ⟨q+1,by simp,by omega,by rw[unhide HNL2];exact HI8⟩|(simp [intOf];omega)
      ·have hqn:q=o.raws.length:=by omega
       have dq:decide ((q:Int)<(o.raws.length:Nat))=false:=decide_eq_false (by omega)
       subst hqn
       rw[List.take_length,← unhide HNX] at hI
       have HFN:=hide (unhide hI).f
       obtain ⟨a2,cap2,rfl⟩:=(unhide hI).f.ln.shape
       clear hI
       go_wp2_with fail
       all_goals go_roundw
       all_goals first|exact ⟨j+1,by simp,by omega,HFN⟩|(simp [intOf];omega)
  ·have hjn:j=nM:=by omega
   subst hjn
   have dl:decide ((j:Int)<(j:Nat))=false:=decide_eq_false (by omega)
   obtain ⟨a,cap,rfl⟩:=(unhide hF).ln.shape
   clear HO' HB HR' HI1 HIL HC7
   go_wp2_with fail
   go_ret
   exact ⟨_,rfl,unhide hF⟩
set_option maxHeartbeats 1000000
set_option maxHeartbeats 4000000 in
theorem updN_sum (x q c:Nat) (hq:q<8) (hx:x<2 ^ 64) (hc:c<256):updN x q c=x-byteN x q*2 ^ (8*q)+c*2 ^ (8*q):=by
 have hy:x-byteN x q*2 ^ (8*q)+c*2 ^ (8*q)<2 ^ 64:=by
  unfold byteN
  have:q=0∨q=1∨q=2∨q=3∨q=4∨q=5∨q=6∨q=7:=by omega
  rcases this with rfl|rfl|rfl|rfl|rfl|rfl|rfl|rfl <;> simp only[Nat.reduceMul,Nat.reducePow] at * <;> omega
 refine word_ext _ _ (updN_lt x q c hq hx hc) hy fun p hp=>?_
 rw[updN_byte x q c p hq hx hc]
 unfold byteN
 have:q=0∨q=1∨q=2∨q=3∨q=4∨q=5∨q=6∨q=7:=by omega
 have:p=0∨p=1∨p=2∨p=3∨p=4∨p=5∨p=6∨p=7:=by omega
 clear hy hq hp
 rcases ‹q=0∨_› with rfl|rfl|rfl|rfl|rfl|rfl|rfl|rfl <;> rcases ‹p=0∨_› with rfl|rfl|rfl|rfl|rfl|rfl|rfl|rfl <;> simp only[Nat.reduceMul,Nat.reducePow,Nat.reduceEqDiff,if_true,if_false] at * <;> omega
theorem shift_le (x q:Nat):byteN x q*2 ^ (8*q)≤x:=by
 unfold byteN
 refine Nat.le_trans (Nat.mul_le_mul_right _ (Nat.mod_le _ _)) (Nat.div_mul_le_self _ _)
theorem c_shift (c q:Nat) (hq:q<8) (hc:c<256):c*2 ^ (8*q)<2 ^ 64:=by
 have h2:2 ^ (8*q)≤2 ^ 56:=Nat.pow_le_pow_right (by decide) (by omega)
 exact Nat.lt_of_le_of_lt (Nat.mul_le_mul (Nat.le_of_lt_succ hc) h2) (by decide)
theorem wrapU (n:Nat) (h:n<2 ^ 64):IntKind.u64.wrap (n:Int)=(n:Int):=by
 rw[IntKind.wrap_u64];omega
structure LayI (w:World) (ga:Nat) (v:Value) (L:List Nat) (wr:World):Prop where
 os:wr.os=w.os
 tape:wr.tape=w.tape
 output:wr.output=w.output
 size:wr.heap.size=w.heap.size
 blk:∀ g,g≠ga→wr.heap[g]?=w.heap[g]?
 ln:Line wr 41 v L.length (wordV L)
theorem LayI.still {w wr W:World}{ga:Nat}{v:Value}{L:List Nat} (h:LayI w ga v L wr) (s:Still wr W):LayI w ga v L W:=
 ⟨s.os.trans h.os,s.tape.trans h.tape,s.output.trans h.output,by rw[s.heap];exact h.size,fun g hg=>by rw[s.heap];exact h.blk g hg,h.ln.same fun g _=>by rw[s.heap]⟩
theorem LayI.set {w wr:World}{ga:Nat}{v:Value}{L:List Nat} (h:LayI w ga v L wr) (hv:v.ownBlock=some ga) {q:Nat} (hq:q<L.length) (x:Nat):LayI w ga v (L.set q x) (wr.setCell ⟨ga,q,none⟩ (.int .u64 (x:Nat))):=by
 refine ⟨h.os,h.tape,h.output,by rw[World.size_setCell];exact h.size,fun g hg=>by rw[setCell_else _ _ _ _ _ hg];exact h.blk g hg,?_⟩
 rw[List.length_set]
 refine (h.ln.put hv q _ hq).congr fun j hj=>?_
 unfold wordV
 rw[getD_setN _ _ _ _ hq]
 by_cases e:j=q
 ·rw[if_pos e,if_pos e]
 ·rw[if_neg e,if_neg e]
theorem dsetbytes_any {w:World}{pd sn:Nat}{dt:Nat→Nat}{M:Hp}{C:DC} (h:DAt w pd dt M sn C) (wf:HpWf M) (hn:M.objs.length≤1000000) (h1:1≤M.objs.length) {x:Nat} (hx:x<18446744073709551616) (from':Int) (hf1:from'≤9223372036854775807) (hf2:-9223372036854775808≤from') (l:List Nat) (a:Option Addr) (cap:Nat) (hB:Bytes w a l) (hsl:Small l) (hfr:l≠[]→∀ b off,a=some ⟨b,off,none⟩→dt b=0) (hw:W64 (ob M (numOf M x)).raws):
  Calls Tryz.prog 108 #[.pointer (some ⟨pd,0,none⟩),.int .u64 (x:Nat),.int .i64 from',.slice a l.length cap] w fun e w'=>e=.returned (.int .i64 (spanM M x from' l.length:Nat))∧(∃ C',DAt w' pd dt (setbM M x from' l) sn C')∧Fr dt dt w w':=by
 have H141:=hide (did_any h wf hn h1 hx)
 have HST:Hid (∀ W,Still w W→(∃ C',DAt W pd dt M sn C')∧Fr dt dt w W):=hide (fun W s=>⟨⟨C,h.still s.below⟩,Fr.still s⟩)
 by_cases h0:numOf M x=0
 ·have e:spanM M x from' l.length=32:=by unfold spanM;rw[if_pos h0]
  have em:setbM M x from' l=M:=by unfold setbM;rw[e];rfl
  rw[e,em]
  rw[h0] at H141
  clear h wf h0 e em hB hfr hw
  go_enter Tryz.func108,Tryz.ntmps108
  go_wp2_with fail
  refine (unhide H141).mono ?_
  rintro e w2 ⟨rfl,hS⟩
  have HS:=hide hS
  clear hS H141
  go_wp2_with fail
  all_goals go_ret
  all_goals exact ⟨rfl,unhide HST _ (unhide HS)⟩
 ·have hI:=num_is h0
  have hl:=wf.ln _ hI
  obtain ⟨gO,cO,ar,aw,cr,cw,⟨s0,y0,y1,y2,y3,y4,y5,_,hrf,hrw⟩,_,_,_,ew⟩:=h.obj hl
  have f:M.objs.getD (numOf M x) ob0=ob M (numOf M x):=rfl
  rw[f] at y2 ew
  obtain ⟨b1,b2⟩:=raws_le wf hI
  have H142:Hid (∀ W,Calls Tryz.prog 159 #[.int .i64 from',.int .i64 (l.length:Nat),.int .i64 ((ob M (numOf M x)).raws.length:Nat)] W fun e w'=>e=.returned (.bool (decide (0≤from'∧0≤(l.length:Int)∧from'+(l.length:Nat)≤8*((ob M (numOf M x)).raws.length:Nat))))∧Still W w'):=hide (fun W=>(dspan_any (w:=W) from' l.length _ b2 hf1 hf2))
  by_cases hc:0≤from'∧0≤(l.length:Int)∧from'+(l.length:Nat)≤8*((ob M (numOf M x)).raws.length:Nat)
  ·have e:spanM M x from' l.length=0:=by unfold spanM;rw[if_neg h0,if_pos hc]
   rw[decide_eq_true hc] at H142
   obtain ⟨m,rfl⟩:=Int.eq_ofNat_of_zero_le hc.1
   have hc3:m+l.length≤8*(ob M (numOf M x)).raws.length:=by omega
   have em:setbM M x (m:Nat) l=putO M (numOf M x) { ob M (numOf M x) with raws:=layN (ob M (numOf M x)).raws m l l.length }:=by
    unfold setbM
    rw[if_pos e]
    unfold layO bytM
    rw[layN_pack _ _ _ hw hsl hc3]
    rfl
   rw[e,em]
   have hlay:=layN_length (ob M (numOf M x)).raws m l
   have HEND:Hid (∀ W ga,(C.rw (numOf M x)).ownBlock=some ga→LayI w ga (C.rw (numOf M x)) (layN (ob M (numOf M x)).raws m l l.length) W→(∃ C',DAt W pd dt (putO M (numOf M x) { ob M (numOf M x) with raws:=layN (ob M (numOf M x)).raws m l l.length }) sn C')∧Fr dt dt w W):=hide (fun W ga hg I=>by
    have hgt:=h.t7 _ ga hl hg
    refine ⟨DRaw.fields h hl { ob M (numOf M x) with raws:=layN (ob M (numOf M x)).raws m l l.length } ⟨rfl,rfl,hlay _,rfl,rfl⟩ rfl (by rw[I.size];exact Nat.le_refl _) (fun q h1 h2 h3=>I.blk q (by rintro rfl;exact h3 hgt)) ((h.rf _ hl).same fun q e=>I.blk q (by rintro rfl;have:=h.t6 _ _ hl e;omega)) I.ln,⟨I.os,I.tape,I.output,by rw[I.size];exact Nat.le_refl _,fun q hq e=>⟨I.blk q (by rintro rfl;omega),e⟩⟩⟩)
   have HNIL:Hid (l=[]→∀ W,Still w W→(∃ C',DAt W pd dt (putO M (numOf M x) { ob M (numOf M x) with raws:=layN (ob M (numOf M x)).raws m l l.length }) sn C')∧Fr dt dt w W):=hide (fun q W s=>by
    subst q
    have e2:putO M (numOf M x) { ob M (numOf M x) with raws:=layN (ob M (numOf M x)).raws m [] ([]:List Nat).length } = M:=by
     show putO M (numOf M x) (ob M (numOf M x))=M
     have e3:M.objs.set (numOf M x) (ob M (numOf M x))=M.objs:=by
      apply List.ext_getElem?
      intro j
      rw[List.getElem?_set]
      by_cases q:numOf M x=j
      ·subst q
       rw[if_pos rfl,if_pos hl,List.getElem?_eq_getElem hl]
       unfold ob
       rw[List.getD_eq_getElem?_getD,List.getElem?_eq_getElem hl]
       rfl
      ·rw[if_neg q]
     show ({ M with objs:=M.objs.set (numOf M x) (ob M (numOf M x)) }:Hp)=M
     rw[e3]
    rw[e2]
    exact ⟨⟨C,h.still s.below⟩,Fr.still s⟩)
   by_cases hl0:l=[]
   ·have HN:=hide (unhide HNIL hl0)
    obtain ⟨i,hi⟩:∃ i,numOf M x=i:=⟨_,rfl⟩
    rw[hi] at H141 H142 HN y2 hl h0 hc3 b2 ⊢
    subst hl0
    obtain ⟨MM,hMM⟩:∃ MM,putO M i { ob M i with raws:=layN (ob M i).raws m [] ([]:List Nat).length } = MM:=⟨_,rfl⟩
    rw[hMM] at HN ⊢
    generalize (ob M i).raws=wl at *
    generalize M.objs.length=N at *
    have i1:(0:Int)≤(i:Nat):=by omega
    have i2:(i:Int)<(N:Nat):=by omega
    have d0:((i:Int) == 0)=false:=by simp;omega
    have d0':((i:Int)=0)=False:=by simp;omega
    clear h wf hI y0 y1 y3 y4 y5 f hi hrf hrw hc hB hw HST em e hMM HEND HNIL hlay hfr
    go_enter Tryz.func108,Tryz.ntmps108
    go_wp2_with fail
    refine (unhide H141).mono ?_
    rintro e w2 ⟨rfl,hS⟩
    have s0:=(hS.cell _).trans s0
    have y2:=(hS.cell _).trans y2
    have HS:=hide hS
    clear hS H141
    go_wp2_with fail
    refine (unhide H142 _).mono ?_
    rintro e w3 ⟨rfl,hS3⟩
    have HS3:=hide ((unhide HS).trans hS3)
    clear hS3 H142 HS s0 y2
    go_wp2_with fail
    go_loopw [11] (fun kv wr=>kv=.int .i64 0∧wr=w3) (fun _ _=>0)
    case atStart=>exact ⟨rfl,rfl⟩
    case round=>
     obtain ⟨rfl,rfl⟩:=hrel
     go_wp2
     go_ret
     exact ⟨rfl,unhide HN _ (unhide HS3)⟩
   ·have hlp:0<l.length:=by cases l with|nil=>exact absurd rfl hl0|cons _ _=>simp
    obtain ⟨bb,off,ea,hbl,hbc⟩:∃ b off,a=some ⟨b,off,none⟩∧b<w.heap.size∧∀ i,i<l.length→w.cell? ⟨b,off+i,none⟩=some (.int .u8 (l.getD i 0:Nat)):=by
     rcases hB with q|q
     ·exact absurd q hl0
     ·exact q
    have hdt:=hfr hl0 bb off ea
    obtain ⟨ga,capw,z1,z2,z3⟩:=(h.rw _ hl).at (show 0<(M.objs.getD (numOf M x) ob0).raws.length by rw[f];omega)
    have hgt:=h.t7 _ ga hl z2
    have hne:bb≠ga:=by rintro rfl;omega
    have ea2:aw=some ⟨ga,0,none⟩:=by rw[ew] at z1;cases z1;rfl
    have HI0:Hid (∀ W,Still w W→LayI w ga (C.rw (numOf M x)) (layN (ob M (numOf M x)).raws m l 0) W):=hide (fun W s=>⟨s.os,s.tape,s.output,by rw[s.heap],fun g _=>by rw[s.heap],(h.rw _ hl).same fun g _=>by rw[s.heap]⟩)
    have HE:=hide (fun W I=>unhide HEND W ga z2 I)
    have HOW:=hide z2
    have HLW:=hide (fun k hk=>(layN_is (ob M (numOf M x)).raws m l hw hsl hc3 k hk).1)
    have HLL:=hide hlay
    have HBC:=hide hbc
    have HSL:=hide hsl
    obtain ⟨i,hi⟩:∃ i,numOf M x=i:=⟨_,rfl⟩
    rw[hi] at H141 H142 HE HI0 HOW HLW HLL y2 hl h0 hc3 b2 ⊢
    obtain ⟨MM,hMM⟩:∃ MM,putO M i { ob M i with raws:=layN (ob M i).raws m l l.length } = MM:=⟨_,rfl⟩
    rw[hMM] at HE ⊢
    subst ea ea2
    generalize (ob M i).raws=wl at *
    generalize M.objs.length=N at *
    generalize C.rw i=vw at *
    generalize hdl:l.length=dl at *
    have i1:(0:Int)≤(i:Nat):=by omega
    have i2:(i:Int)<(N:Nat):=by omega
    have d0:((i:Int) == 0)=false:=by simp;omega
    have d0':((i:Int)=0)=False:=by simp;omega
    clear h wf hI y0 y1 y3 y4 y5 f hi hrf hrw hc hB hw HST em e hMM HEND HNIL hlay hfr hbc hsl z1 z2 z3 ew hgt hdt hl0
    go_enter Tryz.func108,Tryz.ntmps108
    go_wp2_with fail
    refine (unhide H141).mono ?_
    rintro e w2 ⟨rfl,hS⟩
    have s0:=(hS.cell _).trans s0
    have y2:=(hS.cell _).trans y2
    have HS:=hide hS
    clear hS H141
    go_wp2_with fail
    refine (unhide H142 _).mono ?_
    rintro e w3 ⟨rfl,hS3⟩
    have HI:=hide (unhide HI0 _ ((unhide HS).trans hS3))
    clear hS3 H142 HS s0 y2 HI0
    go_wp2_with fail
    go_loopw [11] (fun kv wr=>∃ k:Nat,k≤dl∧kv=.int .i64 (k:Nat)∧Hid (LayI w ga vw (layN wl m l k) wr)) (fun kv _=>dl-(intOf kv).toNat)
    case atStart=>exact ⟨0,by omega,rfl,HI⟩
    case round=>
     clear HI
     obtain ⟨k,hk,rfl,hI⟩:=hrel
     by_cases hlt:k<dl
     ·have I:=unhide hI
      obtain ⟨J,hJ⟩:∃ J,J=m+k:=⟨_,rfl⟩
      obtain ⟨t,ht⟩:∃ t,t=J%8:=⟨_,rfl⟩
      obtain ⟨q,hq⟩:∃ q,q=J / 8:=⟨_,rfl⟩
      obtain ⟨sh,hsh⟩:∃ sh,sh=8*t:=⟨_,rfl⟩
      obtain ⟨o,ho⟩:∃ o,o=(layN wl m l k).getD q 0:=⟨_,rfl⟩
      obtain ⟨c,hc⟩:∃ c,c=l.getD k 0:=⟨_,rfl⟩
      have hql:q<wl.length:=by omega
      have hLK:=unhide HLL k
      obtain ⟨g',cp',x1,x2,x3⟩:=I.ln.at (by omega)
      have eg:g'=ga:=by rw[unhide HOW] at x2;cases x2;rfl
      subst eg
      obtain ⟨ca0,fa⟩:=x3 q (by omega)
      have ca:wr.cell? ⟨g',q,none⟩=some (.int .u64 (o:Nat)):=by rw[ca0,ho];rfl
      clear ca0
      have cd:wr.cell? ⟨bb,off+k,none⟩=some (.int .u8 (c:Nat)):=by
       rw[hc,← unhide HBC k (by omega)];simp only[World.cell?,I.blk bb hne]
      have hc256:c<256:=by rw[hc];exact unhide HSL k (by omega)
      have ho64:o<2 ^ 64:=by rw[ho];exact unhide HLW k (by omega) q
      have ht8:t<8:=by omega
      have e1:IntKind.i64.wrap ((m:Int)+(k:Nat))=(J:Int):=by rw[show (m:Int)+(k:Nat)=(J:Int) by omega];exact wrap_nat _ (by omega)
      have e2':(J:Int) / 8=(q:Int):=by omega
      have e3':(J:Int)%8=(t:Int):=by omega
      have e4:IntKind.i64.wrap (8*(t:Int))=(sh:Int):=by rw[show 8*(t:Int)=(sh:Int) by omega];exact wrap_nat _ (by omega)
      have wq:=wrap_nat q (by omega)
      have wt:=wrap_nat t (by omega)
      have hsh64:sh<64:=by omega
      have i3:(0:Int)≤(q:Nat):=by omega
      have i4:(q:Int)<(wl.length:Nat):=by omega
      have i5:(0:Int)≤(k:Nat):=by omega
      have i6:(k:Int)<(dl:Nat):=by omega
      have w1:IntKind.i64.wrap ((k:Int)+1)=(k:Int)+1:=wrap_small _ (by omega) (by omega)
      have dlt:decide ((k:Int)<(dl:Nat))=true:=decide_eq_true (by omega)
      have HNX:Hid (LayI w g' vw (layN wl m l (k+1)) (wr.setCell ⟨g',q,none⟩ (.int .u64 (updN o t c:Nat)))):=hide (by
       have:=I.set (unhide HOW) (q:=q) (by omega) (updN o t c)
       unfold layN
       rw[← hJ,← hq,← ht,← ho,← hc]
       exact this)
      have s1':(((byteN o t)*2 ^ sh:Nat):Int)=(o:Int) / 2 ^ sh%256*2 ^ sh:=by
       unfold byteN
       rw[← hsh]
       simp
      have s1:IntKind.u64.wrap ((o:Int) / 2 ^ sh%256*2 ^ sh)=((byteN o t*2 ^ sh:Nat):Int):=by
       rw[← s1',wrapU]
       rw[hsh]
       exact c_shift _ _ ht8 (Nat.mod_lt _ (by decide))
      have s2:IntKind.u64.wrap ((o:Int)-((byteN o t*2 ^ sh:Nat):Int))=((o-byteN o t*2 ^ sh:Nat):Int):=by
       have hle:byteN o t*2 ^ sh≤o:=by rw[hsh];exact shift_le o t
       rw[show (o:Int)-((byteN o t*2 ^ sh:Nat):Int)=((o-byteN o t*2 ^ sh:Nat):Int) by omega,wrapU]
       omega
      have s3:IntKind.u64.wrap ((c:Int)*2 ^ sh)=((c*2 ^ sh:Nat):Int):=by
       rw[show (c:Int)*2 ^ sh=((c*2 ^ sh:Nat):Int) by simp,wrapU]
       rw[hsh];exact c_shift _ _ ht8 hc256
      have s4:IntKind.u64.wrap (((o-byteN o t*2 ^ sh:Nat):Int)+((c*2 ^ sh:Nat):Int))=((updN o t c:Nat):Int):=by
       have e5:=updN_sum o t c ht8 ho64 hc256
       rw[← hsh] at e5
       have e6:=updN_lt o t c ht8 ho64 hc256
       rw[show ((o-byteN o t*2 ^ sh:Nat):Int)+((c*2 ^ sh:Nat):Int)=((updN o t c:Nat):Int) by omega,wrapU _ e6]
      generalize byteN o t*2 ^ sh=BS at *
      generalize updN o t c=NV at *
      generalize c*2 ^ sh=CS at *
      generalize o-BS=KP at *
      clear I hI hLK ho hc hq ht hJ HBC HLW HSL s1' x1 x2 x3 hsh
      go_wp2_with fail
      go_region_held3 (fun W=>W.cell? ⟨g',q,none⟩=some (.int .u64 (o:Nat))) (go_keep) (fail)
      go_wp2_with fail
      all_goals go_roundw
      all_goals first|exact ⟨k+1,by omega,by simp,hide ((unhide HNX).still ((Still.refl _).drew _))⟩|(simp [intOf];omega)
     ·have hkl:k=dl:=by omega
      subst hkl
      have dlt:decide ((k:Int)<(k:Nat))=false:=decide_eq_false (by omega)
      go_wp2
      go_ret
      exact ⟨rfl,unhide HE _ (unhide hI)⟩
  ·have e:spanM M x from' l.length=33:=by unfold spanM;rw[if_neg h0,if_neg hc]
   have em:setbM M x from' l=M:=by unfold setbM;rw[e];rfl
   rw[e,em]
   rw[decide_eq_false hc] at H142
   obtain ⟨i,hi⟩:∃ i,numOf M x=i:=⟨_,rfl⟩
   rw[hi] at H141 H142 y2 hl h0
   generalize (ob M i).raws.length=wl at *
   generalize M.objs.length=N at *
   have i1:(0:Int)≤(i:Nat):=by omega
   have i2:(i:Int)<(N:Nat):=by omega
   have d0:((i:Int) == 0)=false:=by simp;omega
   have d0':((i:Int)=0)=False:=by simp;omega
   clear h wf e em hI y0 y1 y3 y4 y5 f hi hrf hrw hc hB hw
   go_enter Tryz.func108,Tryz.ntmps108
   go_wp2_with fail
   refine (unhide H141).mono ?_
   rintro e w2 ⟨rfl,hS⟩
   have s0:=(hS.cell _).trans s0
   have y2:=(hS.cell _).trans y2
   have HS:=hide hS
   clear hS H141
   go_wp2_with fail
   refine (unhide H142 _).mono ?_
   rintro e w3 ⟨rfl,hS3⟩
   have HS3:=hide ((unhide HS).trans hS3)
   clear hS3 H142 HS
   go_wp2_with fail
   all_goals go_ret
   all_goals exact ⟨rfl,unhide HST _ (unhide HS3)⟩
theorem take_more {l:List Nat} (i:Nat) (h:i<l.length):l.take (i+1)=l.take i ++ [l.getD i 0]:=by
 rw[List.take_succ_eq_append_getElem h,List.getD_eq_getElem?_getD,List.getElem?_eq_getElem h];rfl
theorem lg_app (M:Hp) (l:List Nat) (x:Nat):lgOf M (l ++ [x])=lgOf M l+if x=0 then 0 else 1+osz (ob M x):=by
 unfold lgOf;simp
set_option maxHeartbeats 2000000
structure ImgP (M:Hp):Prop where
 z:0<M.used∧(imgM M).getD 0 0=0
 h:∀ j,j<M.small.length→(imgM M).getD (place (shapes M M.small) j) 0=(ob M (M.small.getD j 0)).kind+256*(ob M (M.small.getD j 0)).refs.length+4294967296*(ob M (M.small.getD j 0)).raws.length
 f:∀ j k,j<M.small.length→k<(fldM M (M.small.getD j 0)).length→(imgM M).getD (place (shapes M M.small) j+1+k) 0=(fldM M (M.small.getD j 0)).getD k 0
theorem small_get {M:Hp} (ok:HpOk M) {j:Nat} (hj:j<M.small.length):M.small.getD j 0∈M.small∧M.small.getD j 0≠0:=by
 have:M.small.getD j 0∈M.small:=by rw[List.getD_eq_getElem?_getD,List.getElem?_eq_getElem hj];exact List.getElem_mem hj
 exact ⟨this,(ok.s1 _ this).1⟩
theorem place_next {M:Hp}{j:Nat} (hj:j<M.small.length):place (shapes M M.small) (j+1)=place (shapes M M.small) j+1+(ob M (M.small.getD j 0)).refs.length+(ob M (M.small.getD j 0)).raws.length:=by
 have hsh:(shapes M M.small).getD j (0,0,0)=shp (ob M (M.small.getD j 0)):=shapes_at M M.small j hj
 show place (shapes M M.small) j+wd ((shapes M M.small).getD j (0,0,0))=_
 rw[hsh]
 show place (shapes M M.small) j+(1+(ob M (M.small.getD j 0)).refs.length+(ob M (M.small.getD j 0)).raws.length)=_
 omega
set_option maxHeartbeats 1000000
theorem foldl_more (M:Hp) (k:Wk) (l:List Nat) (j:Nat) (hj:j<l.length):(l.take (j+1)).foldl (reachW M) k=reachW M ((l.take j).foldl (reachW M) k) (l.getD j 0):=by
 rw[take_more j hj,List.foldl_append]
 rfl
set_option maxHeartbeats 2000000
theorem small_len {M:Hp} (wf:HpWf M):M.small.length≤1000000:=by
 have ok:=wf.ok
 have h1:=ok.us
 have h2:=place_all M M.small
 have h3:=ok.u2;have h4:=wf.lm;have h5:=wf.l2;have h7:=ok.h2
 have h6:M.small.length≤(M.small.map fun i=>osz (ob M i)).sum:=by
  have:∀ l:List Nat,l.length≤(l.map fun i=>osz (ob M i)).sum:=fun l=>by
   induction l with
   | nil=>simp
   | cons a l ih=>simp only[List.map_cons,List.sum_cons,List.length_cons];have:=(show 1≤osz (ob M a) by unfold osz;omega);omega
  exact this _
 omega
theorem getD_mem0 {l:List Nat}{j:Nat} (h:j<l.length):l.getD j 0∈l:=by
 rw[List.getD_eq_getElem?_getD,List.getElem?_eq_getElem h]
 exact List.getElem_mem h
set_option maxHeartbeats 1000000
theorem map_range_getD (l:List Nat) (f:Nat→Nat):(List.range l.length).map (fun k=>f (l.getD k 0))=l.map f:=by
 apply List.ext_getElem
 ·simp
 ·intro i h1 h2
  rw[List.getElem_map,List.getElem_map,List.getElem_range]
  have hi:i<l.length:=by rw[List.length_map] at h2;exact h2
  rw[List.getD_eq_getElem?_getD,List.getElem?_eq_getElem hi]
  rfl
theorem getD_in {l:List Nat}{k:Nat} (h:k<l.length):l.getD k 0∈l:=by
 rw[List.getD_eq_getElem?_getD,List.getElem?_eq_getElem h];exact List.getElem_mem h
theorem img_next (M:Hp) {j:Nat} (hj:j<M.small.length):rimg (midA M []) (j+1)=rimg (midA M []) j ++ [(ob M (M.small.getD j 0)).kind+256*(ob M (M.small.getD j 0)).refs.length+4294967296*(ob M (M.small.getD j 0)).raws.length]++(List.range (ob M (M.small.getD j 0)).refs.length).map (fun k=>refW M ((ob M (M.small.getD j 0)).refs.getD k 0))++(ob M (M.small.getD j 0)).raws:=by
 have hx:(midA M []).X.getD j []=(ob M (M.small.getD j 0)).refs.map (refW M)++(ob M (M.small.getD j 0)).raws:=by
  show (M.small.map (fun i=>mix M [] 0 i)).getD j []=_
  rw[List.getD_eq_getElem?_getD,List.getElem?_map,List.getD_eq_getElem?_getD,List.getElem?_eq_getElem hj]
  exact mix_zero M [] _
 have hg:(midA M []).Gn.getD j none=none:=by
  show (M.small.map (fun i=>if i∈([]:List Nat) then some (addr M [] i) else none)).getD j none=none
  rw[List.getD_eq_getElem?_getD,List.getElem?_map,List.getElem?_eq_getElem hj]
  simp
 have hsh:(midA M []).L.getD j (0,0,0)=shp (ob M (M.small.getD j 0)):=shapes_at M M.small j hj
 rw[rimg_succ,hx]
 have hr:rword (midA M []) j=(ob M (M.small.getD j 0)).kind+256*(ob M (M.small.getD j 0)).refs.length+4294967296*(ob M (M.small.getD j 0)).raws.length:=by
  unfold rword
  rw[hg,hsh]
  rfl
 rw[hr,map_range_getD _ (refW M)]
 simp only[List.append_assoc]
theorem img_len (M:Hp):∀ j,j≤M.small.length→(rimg (midA M []) j).length=place (shapes M M.small) j
 | 0,_=>rfl
 | j+1,h=>by
  rw[img_next M (by omega),place_next (by omega)]
  simp only[List.length_append,List.length_map,List.length_range,List.length_singleton]
  rw[img_len M j (by omega)]
theorem dimage_any {w:World}{pd sn:Nat}{dt:Nat→Nat}{M:Hp}{C:DC} (h:DAt w pd dt M sn C) (wf:HpWf M) (hn:M.objs.length≤1000000) (h1:1≤M.objs.length) (hk:∀ i,(ob M i).kind≤1000000):
  Calls Tryz.prog 54 #[.pointer (some ⟨pd,0,none⟩)] w fun e w'=>∃ v,e=.returned v∧Fresh w 41 (imgM M).length (wordV (imgM M)) v w':=by
 obtain ⟨aS,cS,eS,hS⟩:=line_list h.sm
 have c7:=h.c7
 rw[eS] at c7
 have hms:M.small.length≤1000000:=by
  have:=wf.ok.us
  have:=wf.ok.u2
  have:=wf.lm
  have:=wf.l2
  have h3:∀ j,j≤M.small.length→j≤place (shapes M M.small) j:=fun j=>by
   induction j with
   | zero=>exact fun _=>Nat.zero_le _
   | succ j ih=>exact fun q=>by rw[place_next (by omega)];have:=ih (by omega);omega
  have:=h3 M.small.length (Nat.le_refl _)
  omega
 have hI:∀ j,j<M.small.length→Is M (M.small.getD j 0):=fun j hj=>.inl (small_get wf.ok hj).1
 refine dimage_walk (sm:=fun j=>M.small.getD j 0) (oo:=fun j=>ob M (M.small.getD j 0)) (rw':=fun j k=>refW M ((ob M (M.small.getD j 0)).refs.getD k 0)) (img:=rimg (midA M [])) (nO:=M.objs.length) c7 hms hn (fun W j k hj=>?_) (fun j hj=>?_) (fun W j k b hj hk'=>?_) rfl (fun j hj=>img_next M hj) (fun j hj=>?_)
 ·have hl:=wf.ln _ (hI j hj)
  obtain ⟨gO,cO,ar,aw,cr,cw,⟨s0,y0,y1,y2,y3,y4,y5,_,hrf,hrw⟩,_⟩:=DRaw.obj (DRaw.still h k) hl
  obtain ⟨gM,q1,q2,_⟩:=hS j hj
  have hlt:gM<w.heap.size:=block_lt_of_cell q2
  obtain ⟨gO',cO',ar',aw',cr',cw',⟨s0',y0',y1',y2',y3',y4',y5',_,hrf',hrw'⟩,_⟩:=DRaw.obj h hl
  have hgl:gO'<w.heap.size:=block_lt_of_cell y0'
  have c6:=k.cell (p:=⟨pd,6,none⟩) (DRaw.lt h)
  rw[s0,s0'] at c6
  cases c6
  have e1:=k.cell (p:=⟨gO,M.small.getD j 0*6+1,none⟩) hgl
  rw[y1,y1'] at e1
  have e2:=k.cell (p:=⟨gO,M.small.getD j 0*6+2,none⟩) hgl
  rw[y2,y2'] at e2
  simp only[Option.some.injEq,Value.slice.injEq] at e1 e2
  refine ⟨hl,gM,gO,cO,ar,aw,cr,cw,q1,⟨?_,(k.cell (p:=⟨gM,j,none⟩) hlt).trans q2,s0,y0,y1,y2,y3,y4,y5⟩,fun W' q b hq=>?_,fun W' q b hq=>?_⟩
  ·rw[← q1];exact (k.cell (p:=⟨pd,7,none⟩) (DRaw.lt h)).trans c7
  ·obtain ⟨g,z1,z2,_⟩:=hrf' q hq
   exact ⟨g,by rw[e1.1];exact z1,(b.cell (p:=⟨g,q,none⟩) (block_lt_of_cell z2)).trans z2⟩
  ·obtain ⟨g,z1,z2,_⟩:=hrw' q hq
   exact ⟨g,by rw[e2.1];exact z1,(b.cell (p:=⟨g,q,none⟩) (block_lt_of_cell z2)).trans z2⟩
 ·obtain ⟨b1,b2⟩:=raws_le wf (hI j hj)
  exact ⟨hk _,b1,b2⟩
 ·exact drefM (DRaw.still h b) wf hn h1 (wf.ok.rf _ (hI j hj) _ (getD_in hk'))
 ·rw[img_len M j hj]
  have:=place_le (shapes M M.small) hj
  have:=wf.ok.us
  have:=wf.ok.u2
  have:=wf.ok.h2
  omega
end Go.Proofs.YtidfllgaeiopjabGreat
