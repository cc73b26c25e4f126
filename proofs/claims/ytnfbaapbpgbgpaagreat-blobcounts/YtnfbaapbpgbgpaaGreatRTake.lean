import Derived.Test.YtnfbaapbpgbgpaaGreatHObj
import Derived.Test.YtnfbaapbpgbgpaaGreatBlQ
namespace Go.Proofs.YtnfbaapbpgbgpaaGreat
open Go.ChangeShapes Go.WideShapes Go.ChangeAt Go.RowKit
set_option linter.unusedVariables false
set_option maxRecDepth 100000
set_option maxHeartbeats 2000000
theorem hget_core {w:World}{ph t q p x:Nat}{at' i:Int}{bw bh:Nat}{ws:List Nat}{hs:List Bool}{used:Nat}{R:RefSt}
  (HF:Calls Tryz.prog 84 #[.pointer (some ⟨ph,0,none⟩),.int .u64 (x:Nat)] w fun e w'=>e=.returned (.tuple #[.iface t (.pointer (some ⟨q,0,none⟩)),.int .i64 at',.int .i64 0])∧Still w w')
  (hm:∀ W,Still w W→(method 378 t (.pointer (some ⟨q,0,none⟩)) "Get").run Tryz.prog W=.ok (194,.pointer (some ⟨p,0,none⟩)) W) (hA:Ar w p bw bh ws hs used) (r:Rel ws hs used R) (o:RefOk R):
  Calls Tryz.prog 45 #[.pointer (some ⟨ph,0,none⟩),.int .u64 (x:Nat),.int .i64 i] w fun e w'=>e=.returned (.tuple #[.int .u64 ((rget R at' i).1:Nat),.int .i64 (heapErr (rget R at' i).2:Nat)])∧Below w.heap.size w w':=by
 have H1:=hide HF
 have H2:Hid (∀ W,Still w W→Calls Tryz.prog 194 #[.pointer (some ⟨p,0,none⟩),.int .i64 at',.int .i64 i] W fun e w'=>e=.returned (.tuple #[.int .u64 ((rget R at' i).1:Nat),.int .i64 ((rget R at' i).2:Nat)])∧Below w.heap.size w w'):=hide (fun W k=>(p_get (hA.below k.below) r o at' i).mono (fun e w' hh=>⟨hh.1,k.below.trans (by have h2:=hh.2;rw[k.heap] at h2;exact h2)⟩))
 have HM:=hide hm
 have H3:Hid (∀ W,Calls Tryz.prog 85 #[.int .i64 ((rget R at' i).2:Nat)] W fun e w'=>e=.returned (.int .i64 (heapErr (rget R at' i).2:Nat))∧w'=W):=hide (fun W=>asHeap_any _ W)
 clear HF hm hA r o
 generalize heapErr (rget R at' i).2=f' at *
 generalize (rget R at' i).2=f at *
 generalize (rget R at' i).1=y1 at *
 go_enter Tryz.func45,Tryz.ntmps45
 go_wp2_with fail
 refine (unhide H1).mono ?_
 clear H1
 rintro e w1 ⟨rfl,hst⟩
 have hm1:=unhide HM w1 hst
 have H2':=hide (unhide H2 w1 hst)
 clear H2 HM hst
 go_wp2_with fail
 refine (unhide H2').mono ?_
 clear H2' hm1
 rintro e w2 ⟨rfl,hb2⟩
 have HB:=hide hb2
 clear hb2
 go_wp2_with fail
 refine (unhide H3 _).mono ?_
 rintro e w3 ⟨rfl,rfl⟩
 go_wp2
 go_ret2
 exact ⟨rfl,unhide HB⟩
theorem mayHold_nil (w:World) (ph:Nat):Calls Tryz.prog 41 #[.pointer (some ⟨ph,0,none⟩),.int .u64 0] w fun e w'=>e=.returned (.bool true)∧w'=w:=by
 go_enter Tryz.func41,Tryz.ntmps41
 go_wp2
 go_ret
 exact ⟨rfl,rfl⟩
theorem mayHold_core {w:World}{ph x k1 k2 k3 f:Nat} (hx:x≠0)
  (HO:Calls Tryz.prog 44 #[.pointer (some ⟨ph,0,none⟩),.int .u64 (x:Nat)] w fun e w'=>e=.returned (.tuple #[.int .i64 (k1:Nat),.int .i64 (k2:Nat),.int .i64 (k3:Nat),.int .i64 (f:Nat)])∧Below w.heap.size w w'):
  Calls Tryz.prog 41 #[.pointer (some ⟨ph,0,none⟩),.int .u64 (x:Nat)] w fun e w'=>e=.returned (.bool (decide (f=0)))∧Below w.heap.size w w':=by
 have H1:=hide HO
 clear HO
 have e1:((x:Int) == 0)=false:=by rw[beq_eq_false_iff_ne];omega
 have e2:((f:Int) == 0)=decide (f=0):=by
  by_cases h:f=0
  ·subst h;rfl
  ·rw[decide_eq_false h,beq_eq_false_iff_ne];omega
 go_enter Tryz.func41,Tryz.ntmps41
 go_wp2_with fail
 refine (unhide H1).mono ?_
 clear H1
 rintro e w1 ⟨rfl,hb⟩
 have HB:=hide hb
 clear hb
 go_wp2
 go_ret
 refine ⟨?_,unhide HB⟩
 first|rfl|(rw[← e2];rfl)|(congr 2)
theorem hobject_none {w:World}{ph x:Nat} (HF:Calls Tryz.prog 84 #[.pointer (some ⟨ph,0,none⟩),.int .u64 (x:Nat)] w fun e w'=>e=.returned (.tuple #[.nilIface,.int .i64 0,.int .i64 32])∧Still w w'):
  Calls Tryz.prog 44 #[.pointer (some ⟨ph,0,none⟩),.int .u64 (x:Nat)] w fun e w'=>e=.returned (.tuple #[.int .i64 ((0:Nat):Int),.int .i64 ((0:Nat):Int),.int .i64 ((0:Nat):Int),.int .i64 ((32:Nat):Int)])∧Below w.heap.size w w':=by
 have H1:=hide HF
 clear HF
 go_enter Tryz.func44,Tryz.ntmps44
 go_wp2_with fail
 refine (unhide H1).mono ?_
 clear H1
 rintro e w1 ⟨rfl,hst⟩
 have HB:=hide hst.below
 clear hst
 go_wp2
 exact bodyPost_ret (v:=.tuple #[.int .i64 0,.int .i64 0,.int .i64 0,.int .i64 32]) (by simp [results,Tryz.results44,go_sem]) rfl ⟨rfl,unhide HB⟩
theorem hget_none {w:World}{ph x:Nat}{i:Int} (HF:Calls Tryz.prog 84 #[.pointer (some ⟨ph,0,none⟩),.int .u64 (x:Nat)] w fun e w'=>e=.returned (.tuple #[.nilIface,.int .i64 0,.int .i64 32])∧Still w w'):
  Calls Tryz.prog 45 #[.pointer (some ⟨ph,0,none⟩),.int .u64 (x:Nat),.int .i64 i] w fun e w'=>e=.returned (.tuple #[.int .u64 0,.int .i64 32])∧Below w.heap.size w w':=by
 have H1:=hide HF
 clear HF
 go_enter Tryz.func45,Tryz.ntmps45
 go_wp2_with fail
 refine (unhide H1).mono ?_
 clear H1
 rintro e w1 ⟨rfl,hst⟩
 have HB:=hide hst.below
 clear hst
 go_wp2
 go_ret2
 exact ⟨rfl,unhide HB⟩
def handGet (c:List (Option Nat)) (n:Int):Option Nat:=poolGet c (n-1)
theorem hand_wrap {c:List (Option Nat)} (hl:c.length≤1000000) (n:Int) (h1:-9223372036854775808≤n) (h2:n≤9223372036854775807):poolGet c (wrap64 (n-1))=handGet c n:=by
 unfold handGet
 by_cases e:n = -9223372036854775808
 ·subst e
  have:wrap64 (-9223372036854775808-1)=9223372036854775807:=by unfold wrap64;omega
  rw[this]
  unfold poolGet
  rw[if_pos (by decide),if_neg (by decide),List.getD_eq_getElem?_getD,List.getElem?_eq_none (by omega)];rfl
 ·have:wrap64 (n-1)=n-1:=by unfold wrap64;omega
  rw[this]
theorem hat_any {w:World}{ph:Nat}{c:List (Option Nat)}{fr:List Nat}{vc vf:Value} (h:PoolAt w ph 6 148 encU (.int .u64 0) c fr vc vf) (n:Int) (h1:-9223372036854775808≤n) (h2:n≤9223372036854775807):
  Calls Tryz.prog 37 #[.pointer (some ⟨ph,0,none⟩),.int .i64 n] w fun e w'=>e=.returned (.tuple #[.int .u64 ((handGet c n).getD 0:Nat),.int .i64 (if (handGet c n).isSome then (0:Int) else 35)])∧Still w w':=by
 have HG:Hid (∀ W,Still w W→Calls Tryz.prog 82 #[.pointer (some ⟨ph,6,none⟩),.int .i64 (wrap64 (n-1))] W fun e w'=>e=.returned (.tuple #[.int .u64 ((handGet c n).getD 0:Nat),.bool (handGet c n).isSome])∧w'=W):=hide (fun W k=>by
  have:=get_any (h.still k) (wrap64 (n-1))
  rw[hand_wrap h.lc n h1 h2] at this
  cases hh:handGet c n with
  | none=>rw[hh] at this;exact this
  | some y=>rw[hh] at this;exact this)
 clear h
 cases hh:handGet c n with
 | none=>
  rw[hh] at HG
  clear hh
  obtain ⟨m,hm⟩:∃ m,wrap64 (n-1)=m:=⟨_,rfl⟩
  rw[hm] at HG
  go_enter Tryz.func37,Tryz.ntmps37
  go_wp2_with fail
  refine (unhide HG w (Still.refl _)).mono ?_
  clear HG
  rintro e w1 ⟨rfl,rfl⟩
  go_wp2
  go_ret2
  exact ⟨rfl,⟨rfl,rfl,rfl,rfl⟩⟩
 | some y=>
  rw[hh] at HG
  clear hh
  obtain ⟨m,hm⟩:∃ m,wrap64 (n-1)=m:=⟨_,rfl⟩
  rw[hm] at HG
  go_enter Tryz.func37,Tryz.ntmps37
  go_wp2_with fail
  refine (unhide HG w (Still.refl _)).mono ?_
  clear HG
  rintro e w1 ⟨rfl,rfl⟩
  go_wp2
  go_ret2
  exact ⟨rfl,⟨rfl,rfl,rfl,rfl⟩⟩
theorem PoolAt.below {w w':World}{b o:Nat}{E:TypeId}{enc:Nat→Value}{z:Value}{c:List (Option Nat)}{fr:List Nat}{vc vf:Value} (h:PoolAt w b o E enc z c fr vc vf) (k:Below w.heap.size w w'):PoolAt w' b o E enc z c fr vc vf:=by
 have hbw:b<w.heap.size:=by have:=block_lt_of_cell h.c0;simpa using this
 have hb:=k.block b hbw
 have hc:∀ q,w'.cell? ⟨b,q,none⟩=w.cell? ⟨b,q,none⟩:=fun q=>by simp only[World.cell?,hb]
 have hf:∀ q,w'.frozen? ⟨b,q,none⟩=w.frozen? ⟨b,q,none⟩:=fun q=>by simp only[World.frozen?,hb]
 exact ⟨(hc _).trans h.c0,(hc _).trans h.c1,(hc _).trans h.c2,(hf _).trans h.f0,(hf _).trans h.f1,(hf _).trans h.f2,h.row.same (fun g hg=>k.block g (h.row.lt g hg)),h.frl.same (fun g hg=>k.block g (h.frl.lt g hg)),h.a0,h.a1,h.a2,h.ok,h.lc,h.lf⟩
theorem hroot_yes {w:World}{ph x:Nat}{c:List (Option Nat)}{fr:List Nat}{vc vf:Value} (h:PoolAt w ph 6 148 encU (.int .u64 0) c fr vc vf) (hlc:c.length<1000000) (hbig:∀ q∈fr,q≤1099511627776)
  (HM:Calls Tryz.prog 41 #[.pointer (some ⟨ph,0,none⟩),.int .u64 (x:Nat)] w fun e w'=>e=.returned (.bool true)∧Below w.heap.size w w'):
  Calls Tryz.prog 15 #[.pointer (some ⟨ph,0,none⟩),.int .u64 (x:Nat)] w fun e w'=>∃ n:Nat,e=.returned (.tuple #[.int .i64 (1+(n:Int)),.int .i64 0])∧c.getD n none=none∧(∀ q,q<n→c.getD q none≠none)∧n≤c.length∧∃ fr' vc' vf' w0,Below w.heap.size w w0∧PoolAt w' ph 6 148 encU (.int .u64 0) (poolPut c n x) fr' vc' vf'∧(∀ q∈fr',q∈fr)∧fr'.length≤fr.length∧Own2 w0 vc vc'∧(∀ g,vf'.ownBlock=some g→vf.ownBlock=some g)∧∃ w1,PChg ph 6 vc vf w0 w1∧PChg ph 6 vc' vf' w1 w':=by
 have H1:=hide HM
 have H2:Hid (∀ w0,Below w.heap.size w w0→Calls Tryz.prog 42 #[.pointer (some ⟨ph,6,none⟩),.int .u64 (x:Nat)] w0 fun e w'=>∃ n,e=.returned (.int .i64 (n:Nat))∧c.getD n none=none∧(∀ q,q<n→c.getD q none≠none)∧n≤c.length∧∃ fr' vc' vf',PoolAt w' ph 6 148 encU (.int .u64 0) (poolPut c n x) fr' vc' vf'∧(∀ q∈fr',q∈fr)∧fr'.length≤fr.length∧Own2 w0 vc vc'∧(∀ g,vf'.ownBlock=some g→vf.ownBlock=some g)∧∃ w1,PChg ph 6 vc vf w0 w1∧PChg ph 6 vc' vf' w1 w'):=hide (fun w0 k=>add_any (h.below k) hlc hbig x)
 clear HM h hbig
 go_enter Tryz.func15,Tryz.ntmps15
 go_wp2_with fail
 refine (unhide H1).mono ?_
 clear H1
 rintro e w0 ⟨rfl,hb⟩
 have H2':=hide (unhide H2 w0 hb)
 have HB:=hide hb
 clear hb H2
 go_wp2_with fail
 refine (unhide H2').mono ?_
 clear H2'
 rintro e w2 ⟨n,rfl,q1,q2,q3,fr',vc',vf',q4,q5,q6,q7,q8,q9⟩
 have HF:=hide (show c.getD n none=none∧(∀ q,q<n→c.getD q none≠none)∧n≤c.length∧∃ fr' vc' vf' w0,Below w.heap.size w w0∧PoolAt w2 ph 6 148 encU (.int .u64 0) (poolPut c n x) fr' vc' vf'∧(∀ q∈fr',q∈fr)∧fr'.length≤fr.length∧Own2 w0 vc vc'∧(∀ g,vf'.ownBlock=some g→vf.ownBlock=some g)∧∃ w1,PChg ph 6 vc vf w0 w1∧PChg ph 6 vc' vf' w1 w2 from ⟨q1,q2,q3,fr',vc',vf',w0,unhide HB,q4,q5,q6,q7,q8,q9⟩)
 have hnb:n≤1000000:=by omega
 clear q1 q2 q3 q4 q5 q6 q7 q8 q9 HB
 go_wp2
 go_ret2
 exact ⟨n,rfl,unhide HF⟩
structure Holds (w:World) (ph t q p x:Nat) (at':Int):Prop where
 find:Calls Tryz.prog 84 #[.pointer (some ⟨ph,0,none⟩),.int .u64 (x:Nat)] w fun e w'=>e=.returned (.tuple #[.iface t (.pointer (some ⟨q,0,none⟩)),.int .i64 at',.int .i64 0])∧Still w w'
 obj:∀ W,Below w.heap.size w W→(method 378 t (.pointer (some ⟨q,0,none⟩)) "Object").run Tryz.prog W=.ok (157,.pointer (some ⟨p,0,none⟩)) W
 get:∀ W,Below w.heap.size w W→(method 378 t (.pointer (some ⟨q,0,none⟩)) "Get").run Tryz.prog W=.ok (194,.pointer (some ⟨p,0,none⟩)) W
 set:∀ W,Below w.heap.size w W→(method 378 t (.pointer (some ⟨q,0,none⟩)) "Set").run Tryz.prog W=.ok (195,.pointer (some ⟨p,0,none⟩)) W
 byt:∀ W,Below w.heap.size w W→(method 378 t (.pointer (some ⟨q,0,none⟩)) "Bytes").run Tryz.prog W=.ok (193,.pointer (some ⟨p,0,none⟩)) W
 setb:∀ W,Below w.heap.size w W→(method 378 t (.pointer (some ⟨q,0,none⟩)) "SetBytes").run Tryz.prog W=.ok (196,.pointer (some ⟨p,0,none⟩)) W
theorem holds_small {w:World}{ph p:Nat} (h:w.cell? ⟨ph,1,none⟩=some (.pointer (some ⟨p,0,none⟩))) (x:Nat) (hx:x<9223372036854775808):Holds w ph 85 p p x (x:Nat):=
 ⟨find_small h x hx,fun W _=>by kernel_rfl,fun W _=>by kernel_rfl,fun W _=>by kernel_rfl,fun W _=>by kernel_rfl,fun W _=>by kernel_rfl⟩
theorem m_get_b0 (W:World) (p:Nat):(method 378 187 (.pointer (some ⟨p,0,none⟩)) "Get").run Tryz.prog W=((load ⟨p,0,none⟩) >>= fun v=>pure (194,v)).run Tryz.prog W:=by kernel_rfl
theorem m_set_b0 (W:World) (p:Nat):(method 378 187 (.pointer (some ⟨p,0,none⟩)) "Set").run Tryz.prog W=((load ⟨p,0,none⟩) >>= fun v=>pure (195,v)).run Tryz.prog W:=by kernel_rfl
theorem m_byt_b0 (W:World) (p:Nat):(method 378 187 (.pointer (some ⟨p,0,none⟩)) "Bytes").run Tryz.prog W=((load ⟨p,0,none⟩) >>= fun v=>pure (193,v)).run Tryz.prog W:=by kernel_rfl
theorem m_setb_b0 (W:World) (p:Nat):(method 378 187 (.pointer (some ⟨p,0,none⟩)) "SetBytes").run Tryz.prog W=((load ⟨p,0,none⟩) >>= fun v=>pure (196,v)).run Tryz.prog W:=by kernel_rfl
theorem holds_large {w:World}{ph:Nat}{c:List (Option Nat)}{fr:List Nat}{vc vf:Value} (h:PoolAt w ph 3 208 encP (.pointer none) c fr vc vf) (s:Nat) (hs:s<9223372036854775808) (bp p:Nat) (hg:c.getD s none=some bp) (hp:w.cell? ⟨bp,0,none⟩=some (.pointer (some ⟨p,0,none⟩))):Holds w ph 187 bp p (9223372036854775808+s) 1:=by
 have hb:bp<w.heap.size:=by have:=block_lt_of_cell hp;simpa using this
 have hc:∀ W,Below w.heap.size w W→W.cell? ⟨bp,0,none⟩=some (.pointer (some ⟨p,0,none⟩)):=fun W k=>(k.cell (p:=⟨bp,0,none⟩) hb).trans hp
 exact ⟨find_large h s hs bp hg,fun W k=>by rw[m_obj_b0,Sem.run_bind,run_load,hc W k];rfl,fun W k=>by rw[m_get_b0,Sem.run_bind,run_load,hc W k];rfl,fun W k=>by rw[m_set_b0,Sem.run_bind,run_load,hc W k];rfl,fun W k=>by rw[m_byt_b0,Sem.run_bind,run_load,hc W k];rfl,fun W k=>by rw[m_setb_b0,Sem.run_bind,run_load,hc W k];rfl⟩
theorem hset_noobj {w:World}{ph t q p x v:Nat}{at' i:Int}{bw bh:Nat}{ws:List Nat}{hs:List Bool}{used:Nat}{R:RefSt} (H:Holds w ph t q p x at') (hA:Ar w p bw bh ws hs used) (r:Rel ws hs used R) (o:RefOk R) (he:(robj R at').2.2.2≠0):
  Calls Tryz.prog 61 #[.pointer (some ⟨ph,0,none⟩),.int .u64 (x:Nat),.int .i64 i,.int .u64 (v:Nat)] w fun e w'=>e=.returned (.int .i64 (heapErr (robj R at').2.2.2:Nat))∧Below w.heap.size w w':=by
 have H1:=hide H.find
 have HM:=hide H.obj
 have H2:Hid (∀ W,Still w W→Calls Tryz.prog 157 #[.pointer (some ⟨p,0,none⟩),.int .i64 at'] W fun e w'=>e=.returned (.tuple #[.int .i64 ((robj R at').1:Nat),.int .i64 ((robj R at').2.1:Nat),.int .i64 ((robj R at').2.2.1:Nat),.int .i64 ((robj R at').2.2.2:Nat)])∧Below w.heap.size w w'):=hide (fun W k=>(p_object (hA.below k.below) r o at').mono (fun e w' hh=>⟨hh.1,k.below.trans (by have h2:=hh.2;rw[k.heap] at h2;exact h2)⟩))
 have H3:Hid (∀ W,Calls Tryz.prog 85 #[.int .i64 ((robj R at').2.2.2:Nat)] W fun e w'=>e=.returned (.int .i64 (heapErr (robj R at').2.2.2:Nat))∧w'=W):=hide (fun W=>asHeap_any _ W)
 clear H hA r o
 generalize heapErr (robj R at').2.2.2=f' at *
 generalize (robj R at').2.2.2=f at *
 generalize (robj R at').1=y1 at *
 generalize (robj R at').2.1=y2 at *
 generalize (robj R at').2.2.1=y3 at *
 have e1:((f:Int) == 0)=false:=by rw[beq_eq_false_iff_ne];omega
 go_enter Tryz.func61,Tryz.ntmps61
 go_wp2_with fail
 refine (unhide H1).mono ?_
 clear H1
 rintro e w1 ⟨rfl,hst⟩
 have hm1:=unhide HM w1 hst.below
 have H2':=hide (unhide H2 w1 hst)
 clear H2 HM hst
 go_wp2_with fail
 refine (unhide H2').mono ?_
 clear H2' hm1
 rintro e w2 ⟨rfl,hb2⟩
 have HB:=hide hb2
 clear hb2
 go_wp2_with fail
 refine (unhide H3 _).mono ?_
 rintro e w3 ⟨rfl,rfl⟩
 go_wp2
 go_ret
 exact ⟨rfl,unhide HB⟩
theorem hset_noref {w:World}{ph t q p x v:Nat}{at' i:Int}{bw bh:Nat}{ws:List Nat}{hs:List Bool}{used:Nat}{R:RefSt} (H:Holds w ph t q p x at') (hA:Ar w p bw bh ws hs used) (r:Rel ws hs used R) (o:RefOk R) (he:(robj R at').2.2.2=0) (hi0:0≤i) (hi1:i<((robj R at').2.1:Nat))
  (HMay:∀ W,Below w.heap.size w W→Calls Tryz.prog 41 #[.pointer (some ⟨ph,0,none⟩),.int .u64 (v:Nat)] W fun e w'=>e=.returned (.bool false)∧Below W.heap.size W w'):
  Calls Tryz.prog 61 #[.pointer (some ⟨ph,0,none⟩),.int .u64 (x:Nat),.int .i64 i,.int .u64 (v:Nat)] w fun e w'=>e=.returned (.int .i64 32)∧Below w.heap.size w w':=by
 have H1:=hide H.find
 have HM:=hide H.obj
 have H2:Hid (∀ W,Still w W→Calls Tryz.prog 157 #[.pointer (some ⟨p,0,none⟩),.int .i64 at'] W fun e w'=>e=.returned (.tuple #[.int .i64 ((robj R at').1:Nat),.int .i64 ((robj R at').2.1:Nat),.int .i64 ((robj R at').2.2.1:Nat),.int .i64 0])∧Below w.heap.size w w'):=hide (fun W k=>(p_object (hA.below k.below) r o at').mono (fun e w' hh=>⟨by rw[he] at hh;exact hh.1,k.below.trans (by have h2:=hh.2;rw[k.heap] at h2;exact h2)⟩))
 have H3:Hid (∀ W,Below w.heap.size w W→Calls Tryz.prog 41 #[.pointer (some ⟨ph,0,none⟩),.int .u64 (v:Nat)] W fun e w'=>e=.returned (.bool false)∧Below w.heap.size w w'):=hide (fun W k=>(HMay W k).mono (fun e w' hh=>⟨hh.1,k.trans (hh.2.mono k.size)⟩))
 clear H hA r o he HMay
 generalize (robj R at').1=y1 at *
 generalize (robj R at').2.1=y2 at *
 generalize (robj R at').2.2.1=y3 at *
 have d1:decide (0≤i)=true:=decide_eq_true hi0
 have d2:decide (i<(y2:Nat))=true:=decide_eq_true hi1
 go_enter Tryz.func61,Tryz.ntmps61
 go_wp2_with fail
 refine (unhide H1).mono ?_
 clear H1
 rintro e w1 ⟨rfl,hst⟩
 have hm1:=unhide HM w1 hst.below
 have H2':=hide (unhide H2 w1 hst)
 clear H2 HM hst
 go_wp2_with fail
 refine (unhide H2').mono ?_
 clear H2' hm1
 rintro e w2 ⟨rfl,hb2⟩
 have H3':=hide (unhide H3 w2 hb2)
 clear hb2 H3
 go_wp2_with fail
 refine (unhide H3').mono ?_
 clear H3'
 rintro e w3 ⟨rfl,hb3⟩
 have HB:=hide hb3
 clear hb3
 go_wp2
 go_ret
 exact ⟨rfl,unhide HB⟩
theorem hset_yes {w:World}{ph t q p x v:Nat}{at' i:Int}{bw bh:Nat}{ws:List Nat}{hs:List Bool}{used:Nat}{R:RefSt} (H:Holds w ph t q p x at') (hA:Ar w p bw bh ws hs used) (r:Rel ws hs used R) (o:RefOk R) (hv:v<18446744073709551616) (he:(robj R at').2.2.2=0)
  (hor:¬ (0≤i∧i<((robj R at').2.1:Nat))∨∀ W,Below w.heap.size w W→Calls Tryz.prog 41 #[.pointer (some ⟨ph,0,none⟩),.int .u64 (v:Nat)] W fun e w'=>e=.returned (.bool true)∧Below W.heap.size W w'):
  Calls Tryz.prog 61 #[.pointer (some ⟨ph,0,none⟩),.int .u64 (x:Nat),.int .i64 i,.int .u64 (v:Nat)] w fun e w'=>e=.returned (.int .i64 (heapErr (rsetErr R at' i):Nat))∧∃ w0,Below w.heap.size w w0∧But [p,bw,bh] w0 w'∧∃ ws',Ar w' p bw bh ws' hs used∧(rsetErr R at' i≠0→ws'=ws)∧(rsetErr R at' i=0→∀ j m:Nat,j<R.L.length→at'=(place R.L j:Nat)→i=m→m<fldsOf R.L j→Rel ws' hs used (R.put j m v)):=by
 have H1:=hide H.find
 have HM:=hide H.obj
 have HMS:=hide H.set
 have H2:Hid (∀ W,Still w W→Calls Tryz.prog 157 #[.pointer (some ⟨p,0,none⟩),.int .i64 at'] W fun e w'=>e=.returned (.tuple #[.int .i64 ((robj R at').1:Nat),.int .i64 ((robj R at').2.1:Nat),.int .i64 ((robj R at').2.2.1:Nat),.int .i64 0])∧Below w.heap.size w w'):=hide (fun W k=>(p_object (hA.below k.below) r o at').mono (fun e w' hh=>⟨by rw[he] at hh;exact hh.1,k.below.trans (by have h2:=hh.2;rw[k.heap] at h2;exact h2)⟩))
 have H4:Hid (∀ W,Below w.heap.size w W→Calls Tryz.prog 195 #[.pointer (some ⟨p,0,none⟩),.int .i64 at',.int .i64 i,.int .u64 (v:Nat)] W fun e w'=>e=.returned (.int .i64 (rsetErr R at' i:Nat))∧∃ w0,Below w.heap.size w w0∧But [p,bw,bh] w0 w'∧∃ ws',Ar w' p bw bh ws' hs used∧(rsetErr R at' i≠0→ws'=ws)∧(rsetErr R at' i=0→∀ j m:Nat,j<R.L.length→at'=(place R.L j:Nat)→i=m→m<fldsOf R.L j→Rel ws' hs used (R.put j m v))):=hide (fun W k=>(p_set (hA.below k) r o at' i v hv).mono (fun e w' hh=>⟨hh.1,W,k,hh.2⟩))
 have H5:Hid (∀ W,Calls Tryz.prog 85 #[.int .i64 (rsetErr R at' i:Nat)] W fun e w'=>e=.returned (.int .i64 (heapErr (rsetErr R at' i):Nat))∧w'=W):=hide (fun W=>asHeap_any _ W)
 obtain ⟨G,hG⟩:∃ G:World→Prop,G=fun w'=>∃ w0,Below w.heap.size w w0∧But [p,bw,bh] w0 w'∧∃ ws',Ar w' p bw bh ws' hs used∧(rsetErr R at' i≠0→ws'=ws)∧(rsetErr R at' i=0→∀ j m:Nat,j<R.L.length→at'=(place R.L j:Nat)→i=m→m<fldsOf R.L j→Rel ws' hs used (R.put j m v)):=⟨_,rfl⟩
 have H4:=hide (show ∀ W,Below w.heap.size w W→Calls Tryz.prog 195 #[.pointer (some ⟨p,0,none⟩),.int .i64 at',.int .i64 i,.int .u64 (v:Nat)] W fun e w'=>e=.returned (.int .i64 (rsetErr R at' i:Nat))∧G w' from by rw[hG];exact unhide H4)
 suffices hs:Calls Tryz.prog 61 #[.pointer (some ⟨ph,0,none⟩),.int .u64 (x:Nat),.int .i64 i,.int .u64 (v:Nat)] w fun e w'=>e=.returned (.int .i64 (heapErr (rsetErr R at' i):Nat))∧G w' by rw[hG] at hs;exact hs
 clear hG
 have hor2:(¬ (0≤i∧i<((robj R at').2.1:Nat)))∨(0≤i∧i<((robj R at').2.1:Nat)∧∀ W,Below w.heap.size w W→Calls Tryz.prog 41 #[.pointer (some ⟨ph,0,none⟩),.int .u64 (v:Nat)] W fun e w'=>e=.returned (.bool true)∧Below W.heap.size W w'):=by
  by_cases hc:0≤i∧i<((robj R at').2.1:Nat)
  ·rcases hor with hx|hx
   ·exact absurd hc hx
   ·exact .inr ⟨hc.1,hc.2,hx⟩
  ·exact .inl hc
 clear H hA r o he hor hv
 generalize (robj R at').1=y1 at *
 generalize (robj R at').2.1=y2 at *
 generalize (robj R at').2.2.1=y3 at *
 generalize heapErr (rsetErr R at' i)=f' at *
 generalize rsetErr R at' i=f at *
 rcases hor2 with hno|⟨hi0,hi1,HMay⟩
 ·have d1:(decide (0≤i) && decide (i<(y2:Nat)))=false:=by
   by_cases e:0≤i
   ·rw[decide_eq_true e,decide_eq_false (fun h=>hno ⟨e,h⟩)];rfl
   ·rw[decide_eq_false e];rfl
  by_cases e:0≤i
  ·have d2:decide (0≤i)=true:=decide_eq_true e
   have d3:decide (i<(y2:Nat))=false:=decide_eq_false (fun h=>hno ⟨e,h⟩)
   clear hno d1
   go_enter Tryz.func61,Tryz.ntmps61
   go_wp2_with fail
   refine (unhide H1).mono ?_
   clear H1
   rintro e w1 ⟨rfl,hst⟩
   have hm1:=unhide HM w1 hst.below
   have H2':=hide (unhide H2 w1 hst)
   clear H2 HM hst
   go_wp2_with fail
   refine (unhide H2').mono ?_
   clear H2' hm1
   rintro e w2 ⟨rfl,hb2⟩
   have hm2:=unhide HMS w2 hb2
   have H4':=hide (unhide H4 w2 hb2)
   clear hb2 H4 HMS
   go_wp2_with fail
   refine (unhide H4').mono ?_
   clear H4' hm2
   rintro e w3 ⟨rfl,hg3⟩
   go_wp2_with fail
   refine (unhide H5 _).mono ?_
   rintro e w4 ⟨rfl,rfl⟩
   go_wp2
   go_ret
   exact ⟨rfl,hg3⟩
  ·have d2:decide (0≤i)=false:=decide_eq_false e
   clear hno d1
   go_enter Tryz.func61,Tryz.ntmps61
   go_wp2_with fail
   refine (unhide H1).mono ?_
   clear H1
   rintro e w1 ⟨rfl,hst⟩
   have hm1:=unhide HM w1 hst.below
   have H2':=hide (unhide H2 w1 hst)
   clear H2 HM hst
   go_wp2_with fail
   refine (unhide H2').mono ?_
   clear H2' hm1
   rintro e w2 ⟨rfl,hb2⟩
   have hm2:=unhide HMS w2 hb2
   have H4':=hide (unhide H4 w2 hb2)
   clear hb2 H4 HMS
   go_wp2_with fail
   refine (unhide H4').mono ?_
   clear H4' hm2
   rintro e w3 ⟨rfl,hg3⟩
   go_wp2_with fail
   refine (unhide H5 _).mono ?_
   rintro e w4 ⟨rfl,rfl⟩
   go_wp2
   go_ret
   exact ⟨rfl,hg3⟩
 ·have d2:decide (0≤i)=true:=decide_eq_true hi0
  have d3:decide (i<(y2:Nat))=true:=decide_eq_true hi1
  have H3:Hid (∀ W,Below w.heap.size w W→Calls Tryz.prog 41 #[.pointer (some ⟨ph,0,none⟩),.int .u64 (v:Nat)] W fun e w'=>e=.returned (.bool true)∧Below w.heap.size w w'):=hide (fun W k=>(HMay W k).mono (fun e w' hh=>⟨hh.1,k.trans (hh.2.mono k.size)⟩))
  clear HMay
  go_enter Tryz.func61,Tryz.ntmps61
  go_wp2_with fail
  refine (unhide H1).mono ?_
  clear H1
  rintro e w1 ⟨rfl,hst⟩
  have hm1:=unhide HM w1 hst.below
  have H2':=hide (unhide H2 w1 hst)
  clear H2 HM hst
  go_wp2_with fail
  refine (unhide H2').mono ?_
  clear H2' hm1
  rintro e w2 ⟨rfl,hb2⟩
  have H3':=hide (unhide H3 w2 hb2)
  clear hb2 H3
  go_wp2_with fail
  refine (unhide H3').mono ?_
  clear H3'
  rintro e w3 ⟨rfl,hb3⟩
  have hm2:=unhide HMS w3 hb3
  have H4':=hide (unhide H4 w3 hb3)
  clear hb3 H4 HMS
  go_wp2_with fail
  refine (unhide H4').mono ?_
  clear H4' hm2
  rintro e w4 ⟨rfl,hg4⟩
  go_wp2_with fail
  refine (unhide H5 _).mono ?_
  rintro e w5 ⟨rfl,rfl⟩
  go_wp2
  go_ret
  exact ⟨rfl,hg4⟩
theorem hset_none {w:World}{ph x v:Nat}{i:Int} (HF:Calls Tryz.prog 84 #[.pointer (some ⟨ph,0,none⟩),.int .u64 (x:Nat)] w fun e w'=>e=.returned (.tuple #[.nilIface,.int .i64 0,.int .i64 32])∧Still w w'):
  Calls Tryz.prog 61 #[.pointer (some ⟨ph,0,none⟩),.int .u64 (x:Nat),.int .i64 i,.int .u64 (v:Nat)] w fun e w'=>e=.returned (.int .i64 32)∧Still w w':=by
 have H1:=hide HF
 clear HF
 go_enter Tryz.func61,Tryz.ntmps61
 go_wp2_with fail
 refine (unhide H1).mono ?_
 clear H1
 rintro e w1 ⟨rfl,hst⟩
 have HB:=hide hst
 clear hst
 go_wp2
 go_ret
 exact ⟨rfl,unhide HB⟩
theorem hsetbytes_none {w:World}{ph x:Nat}{from':Int}{a:Option Addr}{n cap:Nat} (HF:Calls Tryz.prog 84 #[.pointer (some ⟨ph,0,none⟩),.int .u64 (x:Nat)] w fun e w'=>e=.returned (.tuple #[.nilIface,.int .i64 0,.int .i64 32])∧Still w w'):
  Calls Tryz.prog 62 #[.pointer (some ⟨ph,0,none⟩),.int .u64 (x:Nat),.int .i64 from',.slice a n cap] w fun e w'=>e=.returned (.int .i64 32)∧Still w w':=by
 have H1:=hide HF
 clear HF
 go_enter Tryz.func62,Tryz.ntmps62
 go_wp2_with fail
 refine (unhide H1).mono ?_
 clear H1
 rintro e w1 ⟨rfl,hst⟩
 have HB:=hide hst
 clear hst
 go_wp2
 go_ret
 exact ⟨rfl,unhide HB⟩
theorem hsetbytes_any {w:World}{ph t q p x:Nat}{at' from':Int}{bw bh:Nat}{ws:List Nat}{hs:List Bool}{used:Nat}{R:RefSt} (H:Holds w ph t q p x at') (hA:Ar w p bw bh ws hs used) (r:Rel ws hs used R) (o:RefOk R) (l:List Nat) (a:Option Addr) (cap:Nat) (hf1:from'≤9223372036854775807) (hf2:-9223372036854775808≤from') (hB:Bytes w a l) (hsl:Small l):
  Calls Tryz.prog 62 #[.pointer (some ⟨ph,0,none⟩),.int .u64 (x:Nat),.int .i64 from',.slice a l.length cap] w fun e w'=>e=.returned (.int .i64 (heapErr (rspan R at' from' l.length):Nat))∧∃ w0,Still w w0∧But [p,bw,bh] w0 w'∧∃ ws',Ar w' p bw bh ws' hs used∧(rspan R at' from' l.length≠0→ws'=ws)∧(rspan R at' from' l.length=0→∀ j f:Nat,j<R.L.length→at'=(place R.L j:Nat)→from'=f→Written ws ws' (place R.L j+1+(R.L.getD j (0,0,0)).2.1) (R.L.getD j (0,0,0)).2.2 f l):=by
 have H1:=hide H.find
 have HM:=hide H.setb
 obtain ⟨G,hG⟩:∃ G:World→Prop,G=fun w'=>∃ w0,Still w w0∧But [p,bw,bh] w0 w'∧∃ ws',Ar w' p bw bh ws' hs used∧(rspan R at' from' l.length≠0→ws'=ws)∧(rspan R at' from' l.length=0→∀ j f:Nat,j<R.L.length→at'=(place R.L j:Nat)→from'=f→Written ws ws' (place R.L j+1+(R.L.getD j (0,0,0)).2.1) (R.L.getD j (0,0,0)).2.2 f l):=⟨_,rfl⟩
 have H4:Hid (∀ W,Still w W→Calls Tryz.prog 196 #[.pointer (some ⟨p,0,none⟩),.int .i64 at',.int .i64 from',.slice a l.length cap] W fun e w'=>e=.returned (.int .i64 (rspan R at' from' l.length:Nat))∧G w'):=hide (fun W k=>(p_setbytes (hA.below k.below) r o at' from' l a cap hf1 hf2 (hB.below k.below) hsl).mono (fun e w' hh=>⟨hh.1,by rw[hG];exact ⟨W,k,hh.2⟩⟩))
 have H5:Hid (∀ W,Calls Tryz.prog 85 #[.int .i64 (rspan R at' from' l.length:Nat)] W fun e w'=>e=.returned (.int .i64 (heapErr (rspan R at' from' l.length):Nat))∧w'=W):=hide (fun W=>asHeap_any _ W)
 suffices hs:Calls Tryz.prog 62 #[.pointer (some ⟨ph,0,none⟩),.int .u64 (x:Nat),.int .i64 from',.slice a l.length cap] w fun e w'=>e=.returned (.int .i64 (heapErr (rspan R at' from' l.length):Nat))∧G w' by rw[hG] at hs;exact hs
 clear hG H hA r o hB hsl hf1 hf2
 generalize heapErr (rspan R at' from' l.length)=f' at *
 generalize rspan R at' from' l.length=f at *
 go_enter Tryz.func62,Tryz.ntmps62
 go_wp2_with fail
 refine (unhide H1).mono ?_
 clear H1
 rintro e w1 ⟨rfl,hst⟩
 have hm1:=unhide HM w1 hst.below
 have H4':=hide (unhide H4 w1 hst)
 clear H4 HM hst
 go_wp2_with fail
 refine (unhide H4').mono ?_
 clear H4' hm1
 rintro e w2 ⟨rfl,hg2⟩
 go_wp2_with fail
 refine (unhide H5 _).mono ?_
 rintro e w3 ⟨rfl,rfl⟩
 go_wp2
 go_ret
 exact ⟨rfl,hg2⟩
theorem hbytes_yes {w:World}{ph t q p x m:Nat}{at' from' n:Int}{G:World→Value→Prop} (H:Holds w ph t q p x at')
  (HN:∀ W,Still w W→Calls Tryz.prog 193 #[.pointer (some ⟨p,0,none⟩),.int .i64 at',.int .i64 from',.int .i64 n] W fun e w'=>∃ a cap,e=.returned (.tuple #[.slice a m cap,.int .i64 0])∧G w' (.slice a m cap)):
  Calls Tryz.prog 77 #[.pointer (some ⟨ph,0,none⟩),.int .u64 (x:Nat),.int .i64 from',.int .i64 n] w fun e w'=>∃ a cap,e=.returned (.tuple #[.slice a m cap,.int .i64 0])∧G w' (.slice a m cap):=by
 have H1:=hide H.find
 have HM:=hide H.byt
 have H2:=hide HN
 have H5:Hid (∀ W,Calls Tryz.prog 85 #[.int .i64 0] W fun e w'=>e=.returned (.int .i64 0)∧w'=W):=hide (fun W=>asHeap_any 0 W)
 clear H HN
 go_enter Tryz.func77,Tryz.ntmps77
 go_wp2_with fail
 refine (unhide H1).mono ?_
 clear H1
 rintro e w1 ⟨rfl,hst⟩
 have hm1:=unhide HM w1 hst.below
 have H2':=hide (unhide H2 w1 hst)
 clear H2 HM hst
 go_wp2_with fail
 refine (unhide H2').mono ?_
 clear H2' hm1
 rintro e w2 ⟨a,cap,rfl,hb⟩
 have HB:=hide hb
 clear hb
 go_wp2_with fail
 refine (unhide H5 _).mono ?_
 rintro e w3 ⟨rfl,rfl⟩
 go_wp2
 go_ret2
 exact ⟨a,cap,rfl,unhide HB⟩
def ArR (w:World) (a:Nat × Nat × Nat) (R:RefSt):Prop:=∃ ws hs used,Ar w a.1 a.2.1 a.2.2 ws hs used∧Rel ws hs used R∧RefOk R
theorem ArR.lt {w:World}{a:Nat × Nat × Nat}{R:RefSt} (h:ArR w a R):a.1<w.heap.size∧a.2.1<w.heap.size∧a.2.2<w.heap.size:=by
 obtain ⟨ws,hs,used,h,_,_⟩:=h
 exact ⟨h.lp,h.lw,h.lh⟩
theorem ArR.conf {w w':World}{a:Nat × Nat × Nat}{R:RefSt} (h:ArR w a R) (hs1:w.heap.size≤w'.heap.size) (h1:w'.heap[a.1]?=w.heap[a.1]?) (h2:w'.heap[a.2.1]?=w.heap[a.2.1]?) (h3:w'.heap[a.2.2]?=w.heap[a.2.2]?):ArR w' a R:=by
 obtain ⟨ws,hs,used,h,r,o⟩:=h
 exact ⟨ws,hs,used,h.conf hs1 h1 h2 h3,r,o⟩
theorem ArR.like {w:World}{a:Nat × Nat × Nat}{R R':RefSt} (h:ArR w a R) (e1:R'.L=R.L) (e2:R'.X=R.X) (e3:R'.Gn=R.Gn) (e4:R'.size=R.size):ArR w a R':=by
 obtain ⟨ws,hs,used,h,r,o⟩:=h
 cases R;cases R'
 dsimp only at e1 e2 e3 e4
 subst e1;subst e2;subst e3;subst e4
 refine ⟨ws,hs,used,h,?_,?_⟩
 ·cases r;constructor <;> assumption
 ·cases o;constructor <;> assumption
theorem PoolAt.conf {w w':World}{b o:Nat}{E:TypeId}{enc:Nat→Value}{z:Value}{c:List (Option Nat)}{fr:List Nat}{vc vf:Value} (h:PoolAt w b o E enc z c fr vc vf)
  (hc:∀ q,o≤q→q≤o+2→w'.cell? ⟨b,q,none⟩=w.cell? ⟨b,q,none⟩) (hf:∀ q,w'.frozen? ⟨b,q,none⟩=w.frozen? ⟨b,q,none⟩)
  (h1:∀ g,vc.ownBlock=some g→w'.heap[g]?=w.heap[g]?) (h2:∀ g,vf.ownBlock=some g→w'.heap[g]?=w.heap[g]?):PoolAt w' b o E enc z c fr vc vf:=
 ⟨(hc _ (by omega) (by omega)).trans h.c0,(hc _ (by omega) (by omega)).trans h.c1,(hc _ (by omega) (by omega)).trans h.c2,(hf _).trans h.f0,(hf _).trans h.f1,(hf _).trans h.f2,h.row.same h1,h.frl.same h2,h.a0,h.a1,h.a2,h.ok,h.lc,h.lf⟩
structure BkAt (w:World) (bp:Nat) (a:Nat × Nat × Nat) (R:RefSt) (r:Nat):Prop where
 c0:w.cell? ⟨bp,0,none⟩=some (.pointer (some ⟨a.1,0,none⟩))
 c1:w.cell? ⟨bp,1,none⟩=some (.int .i64 (r:Nat))
 f1:w.frozen? ⟨bp,1,none⟩=false
 ar:ArR w a R
structure HC where
 limit:Nat
 large:Nat
 kept:Nat
 moved:Nat
 coll:Nat
 resz:Nat
 a:Nat × Nat × Nat
 s:Nat × Nat × Nat
 A:RefSt
 S:RefSt
 cH:List (Option Nat)
 frH:List Nat
 vcH:Value
 vfH:Value
 cB:List (Option Nat)
 frB:List Nat
 vcB:Value
 vfB:Value
 at':Nat→Nat × Nat × Nat
 bk:Nat→RefSt
 re:Nat→Nat
structure HRaw (w:World) (ph:Nat) (tag:Nat→Nat) (H:HC):Prop where
 n0:w.cell? ⟨ph,0,none⟩=some (.int .i64 (H.limit:Nat))
 n1:w.cell? ⟨ph,1,none⟩=some (.pointer (some ⟨H.a.1,0,none⟩))
 n2:w.cell? ⟨ph,2,none⟩=some (.pointer (some ⟨H.s.1,0,none⟩))
 n9:w.cell? ⟨ph,9,none⟩=some (.int .i64 (H.large:Nat))
 n10:w.cell? ⟨ph,10,none⟩=some (.int .i64 (H.kept:Nat))
 n11:w.cell? ⟨ph,11,none⟩=some (.int .i64 (H.moved:Nat))
 n12:w.cell? ⟨ph,12,none⟩=some (.int .i64 (H.coll:Nat))
 n13:w.cell? ⟨ph,13,none⟩=some (.int .i64 (H.resz:Nat))
 fz:∀ i,i<14→w.frozen? ⟨ph,i,none⟩=false
 pB:PoolAt w ph 3 208 encP (.pointer none) H.cB H.frB H.vcB H.vfB
 pH:PoolAt w ph 6 148 encU (.int .u64 0) H.cH H.frH H.vcH H.vfH
 hA:ArR w H.a H.A
 hS:ArR w H.s H.S
 bB:∀ s bp,H.cB.getD s none=some bp→BkAt w bp (H.at' s) (H.bk s) (H.re s)
 t1:tag ph=1
 tA:tag H.a.1=2∧tag H.a.2.1=2∧tag H.a.2.2=2
 tS:tag H.s.1=3∧tag H.s.2.1=3∧tag H.s.2.2=3
 tH:(∀ g,H.vcH.ownBlock=some g→tag g=4)∧∀ g,H.vfH.ownBlock=some g→tag g=4
 tB:(∀ g,H.vcB.ownBlock=some g→tag g=5)∧∀ g,H.vfB.ownBlock=some g→tag g=5
 tK:∀ s bp,H.cB.getD s none=some bp→tag bp=8+s∧tag (H.at' s).1=8+s∧tag (H.at' s).2.1=8+s∧tag (H.at' s).2.2=8+s
 tN:∀ s bp,H.cB.getD s none=some bp→bp≠(H.at' s).1∧bp≠(H.at' s).2.1∧bp≠(H.at' s).2.2
 un:∀ g,tag g≠0→g<w.heap.size
theorem cell_like {w w':World}{b:Nat} (h:w'.heap[b]?=w.heap[b]?) (q:Nat):w'.cell? ⟨b,q,none⟩=w.cell? ⟨b,q,none⟩:=by simp only[World.cell?,h]
theorem froz_like {w w':World}{b:Nat} (h:w'.heap[b]?=w.heap[b]?) (q:Nat):w'.frozen? ⟨b,q,none⟩=w.frozen? ⟨b,q,none⟩:=by simp only[World.frozen?,h]
theorem BkAt.conf {w w':World}{bp:Nat}{a:Nat × Nat × Nat}{R:RefSt}{r:Nat} (h:BkAt w bp a R r) (hs1:w.heap.size≤w'.heap.size) (h0:w'.heap[bp]?=w.heap[bp]?) (h1:w'.heap[a.1]?=w.heap[a.1]?) (h2:w'.heap[a.2.1]?=w.heap[a.2.1]?) (h3:w'.heap[a.2.2]?=w.heap[a.2.2]?):BkAt w' bp a R r:=
 ⟨(cell_like h0 _).trans h.c0,(cell_like h0 _).trans h.c1,(froz_like h0 _).trans h.f1,h.ar.conf hs1 h1 h2 h3⟩
theorem HRaw.turn {w w':World}{ph:Nat}{tag:Nat→Nat}{H:HC} (h:HRaw w ph tag H) (K:List Nat) (k1:1 ∉ K) (k5:5 ∉ K) (hs:w.heap.size≤w'.heap.size) (hb:∀ g,tag g≠0→tag g ∉ K→w'.heap[g]?=w.heap[g]?)
  (A' S':RefSt) (cH':List (Option Nat)) (bk':Nat→RefSt) (re':Nat→Nat)
  (hA:(2 ∉ K∧A'=H.A)∨ArR w' H.a A') (hS:(3 ∉ K∧S'=H.S)∨ArR w' H.s S')
  (hH:(4 ∉ K∧cH'=H.cH)∨PoolAt w' ph 6 148 encU (.int .u64 0) cH' H.frH H.vcH H.vfH)
  (hK:∀ s bp,H.cB.getD s none=some bp→(8+s ∉ K∧bk' s=H.bk s∧re' s=H.re s)∨BkAt w' bp (H.at' s) (bk' s) (re' s)):
  HRaw w' ph tag { H with A:=A',S:=S',cH:=cH',bk:=bk',re:=re' }:=by
 have hp:=hb ph (by rw[h.t1];decide) (by rw[h.t1];exact k1)
 have hc:=cell_like hp
 have hf:=froz_like hp
 have h5:∀ g,tag g=5→w'.heap[g]?=w.heap[g]?:=fun g e=>hb g (by rw[e];decide) (by rw[e];exact k5)
 exact {
  n0:=(hc _).trans h.n0,n1:=(hc _).trans h.n1,n2:=(hc _).trans h.n2,n9:=(hc _).trans h.n9,n10:=(hc _).trans h.n10,n11:=(hc _).trans h.n11,n12:=(hc _).trans h.n12,n13:=(hc _).trans h.n13
  fz:=fun i hi=>(hf i).trans (h.fz i hi)
  pB:=h.pB.conf (fun q _ _=>hc q) hf (fun g e=>h5 g (h.tB.1 g e)) (fun g e=>h5 g (h.tB.2 g e))
  pH:=by
   rcases hH with ⟨k4,e⟩|hH
   ·have h4:∀ g,tag g=4→w'.heap[g]?=w.heap[g]?:=fun g e=>hb g (by rw[e];decide) (by rw[e];exact k4)
    show PoolAt w' ph 6 148 encU (.int .u64 0) cH' H.frH H.vcH H.vfH
    rw[e]
    exact h.pH.conf (fun q _ _=>hc q) hf (fun g e=>h4 g (h.tH.1 g e)) (fun g e=>h4 g (h.tH.2 g e))
   ·exact hH
  hA:=by
   rcases hA with ⟨k2,e⟩|hA
   ·have h2:∀ g,tag g=2→w'.heap[g]?=w.heap[g]?:=fun g e=>hb g (by rw[e];decide) (by rw[e];exact k2)
    show ArR w' H.a A'
    rw[e]
    exact h.hA.conf hs (h2 _ h.tA.1) (h2 _ h.tA.2.1) (h2 _ h.tA.2.2)
   ·exact hA
  hS:=by
   rcases hS with ⟨k3,e⟩|hS
   ·have h3:∀ g,tag g=3→w'.heap[g]?=w.heap[g]?:=fun g e=>hb g (by rw[e];decide) (by rw[e];exact k3)
    show ArR w' H.s S'
    rw[e]
    exact h.hS.conf hs (h3 _ h.tS.1) (h3 _ h.tS.2.1) (h3 _ h.tS.2.2)
   ·exact hS
  bB:=fun s bp e=>by
   rcases hK s bp e with ⟨k8,e1,e2⟩|hK
   ·have h8:∀ g,tag g=8+s→w'.heap[g]?=w.heap[g]?:=fun g e=>hb g (by omega) (by rw[e];exact k8)
    have t:=h.tK s bp e
    show BkAt w' bp (H.at' s) (bk' s) (re' s)
    rw[e1,e2]
    exact (h.bB s bp e).conf hs (h8 _ t.1) (h8 _ t.2.1) (h8 _ t.2.2.1) (h8 _ t.2.2.2)
   ·exact hK
  t1:=h.t1,tA:=h.tA,tS:=h.tS,tH:=h.tH,tB:=h.tB,tK:=h.tK,tN:=h.tN
  un:=fun g hg=>Nat.lt_of_lt_of_le (h.un g hg) hs }
theorem HRaw.same {w w':World}{ph:Nat}{tag:Nat→Nat}{H:HC} (h:HRaw w ph tag H) (hs:w.heap.size≤w'.heap.size) (hb:∀ g,tag g≠0→w'.heap[g]?=w.heap[g]?):HRaw w' ph tag H:=
 h.turn [] (by simp) (by simp) hs (fun g hg _=>hb g hg) H.A H.S H.cH H.bk H.re (.inl ⟨by simp,rfl⟩) (.inl ⟨by simp,rfl⟩) (.inl ⟨by simp,rfl⟩) (fun s bp _=>.inl ⟨by simp,rfl,rfl⟩)
theorem HRaw.below {w w':World}{ph:Nat}{tag:Nat→Nat}{H:HC} (h:HRaw w ph tag H) (k:Below w.heap.size w w'):HRaw w' ph tag H:=
 h.same k.size (fun g hg=>k.block g (h.un g hg))
theorem HRaw.nums {w w':World}{ph:Nat}{tag:Nat→Nat}{H:HC} (h:HRaw w ph tag H) (hs:w.heap.size≤w'.heap.size) (hb:∀ g,tag g≠0→g≠ph→w'.heap[g]?=w.heap[g]?) (hf:∀ q,w'.frozen? ⟨ph,q,none⟩=w.frozen? ⟨ph,q,none⟩)
  (hc:∀ q,(q≤8→w'.cell? ⟨ph,q,none⟩=w.cell? ⟨ph,q,none⟩)) (l k m c r:Nat)
  (e9:w'.cell? ⟨ph,9,none⟩=some (.int .i64 (l:Nat))) (e10:w'.cell? ⟨ph,10,none⟩=some (.int .i64 (k:Nat))) (e11:w'.cell? ⟨ph,11,none⟩=some (.int .i64 (m:Nat))) (e12:w'.cell? ⟨ph,12,none⟩=some (.int .i64 (c:Nat))) (e13:w'.cell? ⟨ph,13,none⟩=some (.int .i64 (r:Nat))):
  HRaw w' ph tag { H with large:=l,kept:=k,moved:=m,coll:=c,resz:=r }:=by
 have hn:∀ g,tag g≠0→tag g≠1→w'.heap[g]?=w.heap[g]?:=fun g h0 h1=>hb g h0 (fun e=>h1 (by rw[e];exact h.t1))
 have hg:∀ k g,1<k→tag g=k→w'.heap[g]?=w.heap[g]?:=fun k g hk e=>hn g (by omega) (by omega)
 exact {
  n0:=(hc _ (by omega)).trans h.n0,n1:=(hc _ (by omega)).trans h.n1,n2:=(hc _ (by omega)).trans h.n2,n9:=e9,n10:=e10,n11:=e11,n12:=e12,n13:=e13
  fz:=fun i hi=>(hf i).trans (h.fz i hi)
  pB:=h.pB.conf (fun q _ _=>hc q (by omega)) hf (fun g e=>hg 5 g (by omega) (h.tB.1 g e)) (fun g e=>hg 5 g (by omega) (h.tB.2 g e))
  pH:=h.pH.conf (fun q _ _=>hc q (by omega)) hf (fun g e=>hg 4 g (by omega) (h.tH.1 g e)) (fun g e=>hg 4 g (by omega) (h.tH.2 g e))
  hA:=h.hA.conf hs (hg 2 _ (by omega) h.tA.1) (hg 2 _ (by omega) h.tA.2.1) (hg 2 _ (by omega) h.tA.2.2)
  hS:=h.hS.conf hs (hg 3 _ (by omega) h.tS.1) (hg 3 _ (by omega) h.tS.2.1) (hg 3 _ (by omega) h.tS.2.2)
  bB:=fun s bp e=>by
   have t:=h.tK s bp e
   exact (h.bB s bp e).conf hs (hg (8+s) _ (by omega) t.1) (hg (8+s) _ (by omega) t.2.1) (hg (8+s) _ (by omega) t.2.2.1) (hg (8+s) _ (by omega) t.2.2.2)
  t1:=h.t1,tA:=h.tA,tS:=h.tS,tH:=h.tH,tB:=h.tB,tK:=h.tK,tN:=h.tN
  un:=fun g hg=>Nat.lt_of_lt_of_le (h.un g hg) hs }
structure Fr (tag tag':Nat→Nat) (w w':World):Prop where
 os:w'.os=w.os
 tape:w'.tape=w.tape
 output:w'.output=w.output
 size:w.heap.size≤w'.heap.size
 blk:∀ g,g<w.heap.size→tag g=0→w'.heap[g]?=w.heap[g]?∧tag' g=0
theorem Fr.refl {tag:Nat→Nat} (w:World):Fr tag tag w w:=⟨rfl,rfl,rfl,Nat.le_refl _,fun g _ e=>⟨rfl,e⟩⟩
theorem Fr.trans {t1 t2 t3:Nat→Nat}{a b c:World} (h:Fr t1 t2 a b) (k:Fr t2 t3 b c):Fr t1 t3 a c:=
 ⟨k.os.trans h.os,k.tape.trans h.tape,k.output.trans h.output,Nat.le_trans h.size k.size,fun g hg e=>by
  have h1:=h.blk g hg e
  have h2:=k.blk g (Nat.lt_of_lt_of_le hg h.size) h1.2
  exact ⟨h2.1.trans h1.1,h2.2⟩⟩
theorem Fr.of_but {tag:Nat→Nat}{B:List Nat}{w w':World} (h:But B w w') (hB:∀ g∈B,g<w.heap.size→tag g≠0):Fr tag tag w w':=
 ⟨h.os,h.tape,h.output,h.size,fun g hg e=>⟨h.block g hg (fun hm=>hB g hm hg e),e⟩⟩
theorem Fr.of_below {tag:Nat→Nat}{w w':World} (h:Below w.heap.size w w'):Fr tag tag w w':=
 ⟨h.os,h.tape,h.output,h.size,fun g hg e=>⟨h.block g hg,e⟩⟩
theorem RefOk.put {R:RefSt} (o:RefOk R) (j m v:Nat) (hv:v<18446744073709551616):RefOk (R.put j m v):=by
 have hx:∀ i,(R.put j m v).X.getD i []=if i=j∧j<R.X.length then (R.X.getD j []).set m v else R.X.getD i []:=by
  intro i
  show (R.X.set j _).getD i []=_
  rw[List.getD_eq_getElem?_getD,List.getElem?_set]
  by_cases hj:j=i
  ·subst hj
   by_cases hl:j<R.X.length
   ·simp [hl]
   ·simp [hl,List.getD_eq_getElem?_getD]
  ·rw[if_neg hj,if_neg (fun h=>hj h.1.symm),List.getD_eq_getElem?_getD]
 refine ⟨?_,o.gl,fun i hi=>?_,o.u2,o.sz,fun i k=>?_,o.go,o.sh⟩
 ·show (R.X.set j _).length=_;rw[List.length_set];exact o.xl
 ·rw[hx]
  split
  ·rename_i h;rw[List.length_set,← h.1];exact o.xs i hi
  ·exact o.xs i hi
 ·rw[hx]
  split
  ·rw[List.getD_eq_getElem?_getD,List.getElem?_set]
   by_cases hm:m=k
   ·rw[if_pos hm];split
    ·exact hv
    ·exact by decide
   ·rw[if_neg hm,← List.getD_eq_getElem?_getD];exact o.sm j k
  ·exact o.sm i k
theorem RefOk.mark {R:RefSt} (o:RefOk R) (j t:Nat) (ht:t≤1048576):RefOk (R.mark j t):=by
 refine ⟨o.xl,?_,o.xs,o.u2,o.sz,o.sm,fun i u hu=>?_,o.sh⟩
 ·show (R.Gn.set j _).length=_;rw[List.length_set];exact o.gl
 ·have hu':(R.Gn.set j (some t)).getD i none=some u:=hu
  rw[List.getD_eq_getElem?_getD,List.getElem?_set] at hu'
  split at hu'
  ·split at hu'
   ·simp at hu';omega
   ·simp at hu'
  ·rw[← List.getD_eq_getElem?_getD] at hu';exact o.go i u hu'
theorem RefOk.lay {R:RefSt} (o:RefOk R) (k rf rw':Nat) (x:List Nat) (F v':Value) (hk1:1≤k) (hk2:k≤255) (hx:x.length=rf+rw') (hsm:∀ q,x.getD q 0<18446744073709551616) (hfit:R.used+(1+rf+rw')≤R.size):RefOk (R.lay k rf rw' x F v'):=by
 have hX:∀ i,(R.lay k rf rw' x F v').X.getD i []=if i<R.L.length then R.X.getD i [] else if i=R.L.length then x else []:=by
  intro i;show (R.X ++ [x]).getD i []=_;rw[getD_snoc,o.xl]
 have hL:∀ i,(R.lay k rf rw' x F v').L.getD i (0,0,0)=if i<R.L.length then R.L.getD i (0,0,0) else if i=R.L.length then (k,rf,rw') else (0,0,0):=by
  intro i;show (R.L ++ [(k,rf,rw')]).getD i (0,0,0)=_;rw[getD_snoc]
 have hlen:(R.lay k rf rw' x F v').L.length=R.L.length+1:=by show (R.L ++ [_]).length=_;simp
 refine ⟨?_,?_,fun i hi=>?_,?_,o.sz,fun i q=>?_,fun i t ht=>?_,fun i hi=>?_⟩
 ·rw[hlen];show (R.X ++ [x]).length=_;simp [o.xl]
 ·rw[hlen];show (R.Gn ++ [none]).length=_;simp [o.gl]
 ·rw[hlen] at hi
  rw[hX]
  unfold fldsOf
  rw[hL]
  by_cases h:i<R.L.length
  ·rw[if_pos h,if_pos h];exact o.xs i h
  ·rw[if_neg h,if_neg h,if_pos (by omega),if_pos (by omega)];exact hx
 ·have:(R.lay k rf rw' x F v').used=R.used+(1+rf+rw'):=by
   unfold RefSt.used
   rw[hlen]
   exact place_snoc R.L (k,rf,rw')
  rw[this];exact hfit
 ·rw[hX]
  split
  ·exact o.sm i q
  ·split
   ·exact hsm q
   ·simp
 ·have ht':(R.Gn ++ [none]).getD i none=some t:=ht
  rw[getD_snoc] at ht'
  split at ht'
  ·exact o.go i t ht'
  ·split at ht' <;> cases ht'
 ·rw[hlen] at hi
  rw[hL]
  by_cases h:i<R.L.length
  ·rw[if_pos h];exact o.sh i h
  ·rw[if_neg h,if_pos (by omega)];exact ⟨hk1,hk2⟩
theorem robj_at {R:RefSt} (j:Nat) (hj:j<R.L.length) (hg:R.Gn.getD j none=none):robj R (place R.L j:Nat)=((R.L.getD j (0,0,0)).1,(R.L.getD j (0,0,0)).2.1,(R.L.getD j (0,0,0)).2.2,0):=by
 unfold robj
 rw[findJ_yes hj rfl]
 simp only[hg,Option.isSome_none]
 rfl
theorem rget_at {R:RefSt} (j k:Nat) (hj:j<R.L.length) (hg:R.Gn.getD j none=none) (hk:k<fldsOf R.L j):rget R (place R.L j:Nat) (k:Nat)=((R.X.getD j []).getD k 0,0):=by
 unfold rget
 rw[findJ_yes hj rfl]
 have h1:(0:Int)≤(k:Nat)∧((k:Nat):Int)<(fldsOf R.L j:Nat):=⟨by omega,by omega⟩
 simp only[hg,Option.isSome_none,if_pos h1,Int.toNat_natCast]
 simp
theorem r_used {w:World}{a:Nat × Nat × Nat}{R:RefSt} (h:ArR w a R):Calls Tryz.prog 64 #[.pointer (some ⟨a.1,0,none⟩)] w fun e w'=>e=.returned (.int .i64 (R.used:Nat))∧w'=w:=by
 obtain ⟨ws,hs,used,h,r,o⟩:=h
 have:=used_any w h
 rw[r.us] at this
 exact this
theorem r_size {w:World}{a:Nat × Nat × Nat}{R:RefSt} (h:ArR w a R):Calls Tryz.prog 63 #[.pointer (some ⟨a.1,0,none⟩)] w fun e w'=>e=.returned (.int .i64 (R.size:Nat))∧w'=w:=by
 obtain ⟨ws,hs,used,h,r,o⟩:=h
 have:=size_any w h
 rw[r.sz] at this
 exact this
theorem ArR.ok {w:World}{a:Nat × Nat × Nat}{R:RefSt} (h:ArR w a R):RefOk R:=by
 obtain ⟨ws,hs,used,h,r,o⟩:=h
 exact o
theorem r_take {w:World}{a s:Nat × Nat × Nat}{A S:RefSt} (hA:ArR w a A) (hS:ArR w s S) (hd:∀ x ∈ [a.1,a.2.1,a.2.2],x ∉ [s.1,s.2.2,s.2.1]) (j:Nat) (hj:j<A.L.length) (hg:A.Gn.getD j none=none) (hfit:S.used+(1+(A.L.getD j (0,0,0)).2.1+(A.L.getD j (0,0,0)).2.2)≤S.size):
  Calls Tryz.prog 148 #[.pointer (some ⟨s.1,0,none⟩),.pointer (some ⟨a.1,0,none⟩),.int .i64 (place A.L j:Nat)] w fun e w'=>e=.returned (.tuple #[.int .i64 (S.used:Nat),.int .i64 0])∧
   ArR w' s (S.lay (A.L.getD j (0,0,0)).1 (A.L.getD j (0,0,0)).2.1 (A.L.getD j (0,0,0)).2.2 (A.X.getD j []) undef (.slice none 0 0))∧ArR w' a (A.mark j S.used)∧But [s.1,s.2.2,s.2.1,a.2.1] w w':=by
 obtain ⟨ws,hs,us,h,r,o⟩:=hA
 obtain ⟨wd',hd',ud,h2,r2,o2⟩:=hS
 have ho:objRes ws hs us (place A.L j:Nat)=((A.L.getD j (0,0,0)).1,(A.L.getD j (0,0,0)).2.1,(A.L.getD j (0,0,0)).2.2,0):=by rw[r.obj o];exact robj_at j hj hg
 have hfit':ud+(1+(A.L.getD j (0,0,0)).2.1+(A.L.getD j (0,0,0)).2.2)≤wd'.length:=by rw[r2.us,r2.sz];exact hfit
 have hc:=take_yes (place A.L j) _ _ _ w h2 h (r.sound o).heads (hd _ (by simp)) (hd _ (by simp)) (hd _ (by simp)) ho hfit'
 refine hc.mono ?_
 rintro e w' ⟨rfl,q1,q2,hb⟩
 have hu1:S.used≤1048576:=Nat.le_trans o2.u2 o2.sz
 refine ⟨by rw[r2.us],⟨_,_,_,q1,take_rel r2 o2 r o j hj hg undef (.slice none 0 0) hfit',?_⟩,⟨_,_,_,q2,?_,o.mark j _ hu1⟩,hb⟩
 ·have hsh:=o.sh j hj
  exact o2.lay _ _ _ _ _ _ hsh.1 hsh.2 (o.xs j hj) (fun q=>o.sm j q) hfit
 ·rw[r2.us];exact r.gone o j _ hj
theorem r_gone {w:World}{a:Nat × Nat × Nat}{A:RefSt} (hA:ArR w a A) (dst:Value) (j t:Nat) (hj:j<A.L.length) (hg:A.Gn.getD j none=some t):
  Calls Tryz.prog 148 #[dst,.pointer (some ⟨a.1,0,none⟩),.int .i64 (place A.L j:Nat)] w fun e w'=>e=.returned (.tuple #[.int .i64 (t:Nat),.int .i64 0])∧w'=w:=by
 obtain ⟨ws,hs,us,h,r,o⟩:=hA
 have hm:movedRes ws hs us (place A.L j:Nat)=(t,true,0):=by
  rw[r.moved o]
  unfold rmoved
  rw[findJ_yes hj rfl]
  simp only[hg]
 have hc:=take_not dst (place A.L j:Nat) w h (.inl (by rw[hm]))
 rw[hm] at hc
 exact hc
theorem r_obj {w:World}{a:Nat × Nat × Nat}{R:RefSt} (h:ArR w a R) (j:Nat) (hj:j<R.L.length) (hg:R.Gn.getD j none=none):
  Calls Tryz.prog 157 #[.pointer (some ⟨a.1,0,none⟩),.int .i64 (place R.L j:Nat)] w fun e w'=>e=.returned (.tuple #[.int .i64 ((R.L.getD j (0,0,0)).1:Nat),.int .i64 ((R.L.getD j (0,0,0)).2.1:Nat),.int .i64 ((R.L.getD j (0,0,0)).2.2:Nat),.int .i64 0])∧Below w.heap.size w w':=by
 obtain ⟨ws,hs,us,h,r,o⟩:=h
 have:=p_object h r o (place R.L j:Nat)
 rw[robj_at j hj hg] at this
 exact this
theorem r_get {w:World}{a:Nat × Nat × Nat}{R:RefSt} (h:ArR w a R) (j k:Nat) (hj:j<R.L.length) (hg:R.Gn.getD j none=none) (hk:k<fldsOf R.L j):
  Calls Tryz.prog 194 #[.pointer (some ⟨a.1,0,none⟩),.int .i64 (place R.L j:Nat),.int .i64 (k:Nat)] w fun e w'=>e=.returned (.tuple #[.int .u64 ((R.X.getD j []).getD k 0:Nat),.int .i64 0])∧Below w.heap.size w w':=by
 obtain ⟨ws,hs,us,h,r,o⟩:=h
 have:=p_get h r o (place R.L j:Nat) (k:Nat)
 rw[rget_at j k hj hg hk] at this
 exact this
theorem r_set {w:World}{a:Nat × Nat × Nat}{R:RefSt} (h:ArR w a R) (j k v:Nat) (hv:v<18446744073709551616) (hj:j<R.L.length) (hg:R.Gn.getD j none=none) (hk:k<fldsOf R.L j):
  Calls Tryz.prog 195 #[.pointer (some ⟨a.1,0,none⟩),.int .i64 (place R.L j:Nat),.int .i64 (k:Nat),.int .u64 (v:Nat)] w fun e w'=>e=.returned (.int .i64 0)∧ArR w' a (R.put j k v)∧But [a.1,a.2.1,a.2.2] w w':=by
 obtain ⟨ws,hs,us,h,r,o⟩:=h
 have hz:rsetErr R (place R.L j:Nat) (k:Nat)=0:=by unfold rsetErr;rw[rget_at j k hj hg hk]
 have:=p_set h r o (place R.L j:Nat) (k:Nat) v hv
 rw[hz] at this
 refine this.mono ?_
 rintro e w' ⟨rfl,hb,ws',h',_,hr⟩
 exact ⟨rfl,⟨ws',hs,us,h',hr rfl j k hj rfl rfl hk,o.put j k v hv⟩,hb⟩
theorem r_clear {w:World}{a:Nat × Nat × Nat}{R:RefSt} (h:ArR w a R):
  Calls Tryz.prog 112 #[.pointer (some ⟨a.1,0,none⟩)] w fun e w'=>e=.returned (.tuple #[])∧ArR w' a (RefSt.new R.size)∧But [a.1,a.2.1,a.2.2] w w':=by
 obtain ⟨ws,hs,us,h,r,o⟩:=h
 refine (p_clear h).mono ?_
 rintro e w' ⟨rfl,h',hb⟩
 have hu1:1≤R.size:=by
  have h1:=h.u1;have h2:=h.u2;have h3:=r.sz;omega
 exact ⟨rfl,⟨ws,hs,1,h',r.clear h.u1,⟨rfl,rfl,fun j hj=>absurd hj (Nat.not_lt_zero _),hu1,o.sz,fun j k=>by simp [RefSt.new],fun j t ht=>by simp [RefSt.new] at ht,fun j hj=>absurd hj (Nat.not_lt_zero _)⟩⟩,hb⟩
end Go.Proofs.YtnfbaapbpgbgpaaGreat
