import Derived.Test.YtidfllgaeiopjabGreatHlB
import Derived.Test.YtidfllgaeiopjabGreatOpenS
namespace Go.Proofs.YtidfllgaeiopjabGreat
open Go.ChangeShapes Go.WideShapes Go.ChangeAt Go.RowKit Go.Joins Go.Deep
set_option linter.unusedVariables false
set_option maxRecDepth 100000
theorem Ops3.under {w w':World}{a:Option Addr}{n:Nat} (h:Ops3 w a n) (k:Below w.heap.size w w'):Ops3 w' a n:=by
 rcases h with h|⟨b,off,e,hb,hq⟩
 ·exact .inl h
 ·refine .inr ⟨b,off,e,Nat.lt_of_lt_of_le hb k.size,fun i hi=>?_⟩
  obtain ⟨q,h1,h2⟩:=hq i hi
  exact ⟨q,h1.like (k.block b hb),h2.below k⟩
theorem Tryz.cells44:Tryz.prog.cellsOf 44=10:=by kernel_rfl
theorem list_10 {α:Type}{cs:List α} (h:cs.length=10):∃ c0 c1 c2 c3 c4 c5 c6 c7 c8 c9,cs=[c0,c1,c2,c3,c4,c5,c6,c7,c8,c9]:=by
 match cs,h with
 | [c0,c1,c2,c3,c4,c5,c6,c7,c8,c9],_=>exact ⟨c0,c1,c2,c3,c4,c5,c6,c7,c8,c9,rfl⟩
theorem open_list10 {H:Type}{enc:TypeId × Value→H}{P:Program}{w:World}{base:Nat}{spare:Nat→Bool}{held:Bool}{fuel:Nat}{t:TypeId}{f0 f1 f2 f3 f4 f5 f6 f7 f8 f9:Go.Field}{cs:List Value}{y:DataW H × List MemPlace} (hs:P.underlying t=some (.struct #[f0,f1,f2,f3,f4,f5,f6,f7,f8,f9])) (hone:oneCellFields P #[f0,f1,f2,f3,f4,f5,f6,f7,f8,f9]=true) (hl:cs.length=10)
  (h:DataW.trod enc P w base spare held fuel t cs=some y):
  ∃ (c0 c1 c2 c3 c4 c5 c6 c7 c8 c9:Value) (y0 y1 y2 y3 y4 y5 y6 y7 y8 y9:DataW H × List MemPlace) (q:Nat),cs=[c0,c1,c2,c3,c4,c5,c6,c7,c8,c9]∧y.1=.agg [y0.1,y1.1,y2.1,y3.1,y4.1,y5.1,y6.1,y7.1,y8.1,y9.1]∧DataW.trod enc P w base spare held q f0.type [c0]=some y0∧DataW.trod enc P w base spare held q f1.type [c1]=some y1∧DataW.trod enc P w base spare held q f2.type [c2]=some y2∧DataW.trod enc P w base spare held q f3.type [c3]=some y3∧DataW.trod enc P w base spare held q f4.type [c4]=some y4∧DataW.trod enc P w base spare held q f5.type [c5]=some y5∧DataW.trod enc P w base spare held q f6.type [c6]=some y6∧DataW.trod enc P w base spare held q f7.type [c7]=some y7∧DataW.trod enc P w base spare held q f8.type [c8]=some y8∧DataW.trod enc P w base spare held q f9.type [c9]=some y9:=by
 obtain ⟨c0,c1,c2,c3,c4,c5,c6,c7,c8,c9,rfl⟩:=list_10 hl
 obtain ⟨xs,q,_,hx,_,hlen,hf⟩:=DataW.trod_struct hs h
 obtain ⟨o0,k0⟩:=hone_of hone 0 f0 rfl
 obtain ⟨o1,k1⟩:=hone_of hone 1 f1 rfl
 obtain ⟨o2,k2⟩:=hone_of hone 2 f2 rfl
 obtain ⟨o3,k3⟩:=hone_of hone 3 f3 rfl
 obtain ⟨o4,k4⟩:=hone_of hone 4 f4 rfl
 obtain ⟨o5,k5⟩:=hone_of hone 5 f5 rfl
 obtain ⟨o6,k6⟩:=hone_of hone 6 f6 rfl
 obtain ⟨o7,k7⟩:=hone_of hone 7 f7 rfl
 obtain ⟨o8,k8⟩:=hone_of hone 8 f8 rfl
 obtain ⟨o9,k9⟩:=hone_of hone 9 f9 rfl
 match xs,hlen with
 | [y0,y1,y2,y3,y4,y5,y6,y7,y8,y9],_=>exact ⟨c0,c1,c2,c3,c4,c5,c6,c7,c8,c9,y0,y1,y2,y3,y4,y5,y6,y7,y8,y9,q,rfl,by rw[hx];rfl,by simpa [o0,k0] using hf 0 f0 rfl,by simpa [o1,k1] using hf 1 f1 rfl,by simpa [o2,k2] using hf 2 f2 rfl,by simpa [o3,k3] using hf 3 f3 rfl,by simpa [o4,k4] using hf 4 f4 rfl,by simpa [o5,k5] using hf 5 f5 rfl,by simpa [o6,k6] using hf 6 f6 rfl,by simpa [o7,k7] using hf 7 f7 rfl,by simpa [o8,k8] using hf 8 f8 rfl,by simpa [o9,k9] using hf 9 f9 rfl⟩
theorem open_ops {H:Type}{enc:TypeId × Value→H}{W:World}{fuel:Nat}{v:Value}{y:DataW H × List MemPlace}
  (hf:DataW.trod enc Tryz.prog W 0 (fun _=>true) true fuel 23 [v]=some y) (hb:∀ m,m∈DataW.weights Tryz.prog 23 y.1→m≤140737488351232):
  ∃ a n cap,v=.slice a n cap∧Ops3 W a n:=by
 rcases open_slice Tryz.underlying23 hf with ⟨hcs,_⟩|⟨a,len,cap,m,q,D,Pl,hcs,_,hlc,_,hm,hy,heach⟩
 ·cases hcs
  exact ⟨_,0,0,rfl,.inl rfl⟩
 ·cases hcs
  simp only[if_true] at hm
  refine ⟨_,len,cap,rfl,?_⟩
  by_cases h0:len=0
  ·exact .inl h0
  ·right
   rw[Tryz.cells44] at heach
   obtain ⟨b,off,spot⟩:=a
   have hplace:spot=none∧b<W.heap.size:=by
    obtain ⟨cs',hc,_⟩:=heach 0 (by omega)
    obtain ⟨hl,he⟩:=cells_each hc
    have h00:=he 0 (by omega)
    rw[List.getElem?_eq_getElem (by omega:0<cs'.length)] at h00
    have e00:((⟨b,off,spot⟩:Addr).add (0*10)).add 0=⟨b,off,spot⟩:=by simp [Addr.add]
    rw[e00] at h00
    exact ⟨World.cell?_spot h00,block_lt_of_cell h00⟩
   obtain ⟨rfl,hbl⟩:=hplace
   refine ⟨b,off,rfl,hbl,fun k hk=>?_⟩
   obtain ⟨cs',hc,ht⟩:=heach k (by omega)
   obtain ⟨hl,he⟩:=cells_each hc
   obtain ⟨c0,c1,c2,c3,c4,c5,c6,c7,c8,c9,y0,y1,y2,y3,y4,y5,y6,y7,y8,y9,q',rfl,hyk,h0',h1',h2',h3',h4',h5',h6',h7',h8',h9'⟩:=open_list10 Tryz.underlying44 (by kernel_rfl) hl ht
   obtain ⟨on,e0,_,w0⟩:=DataW.trod_int Tryz.underlying3 h0'
   obtain ⟨dd,e1,_,w1⟩:=DataW.trod_int Tryz.underlying3 h1'
   obtain ⟨A,e2,_,w2⟩:=DataW.trod_int Tryz.underlying3 h2'
   obtain ⟨B,e3,_,w3⟩:=DataW.trod_int Tryz.underlying3 h3'
   obtain ⟨C,e4,_,w4⟩:=DataW.trod_int Tryz.underlying3 h4'
   obtain ⟨r,e5,_,w5⟩:=DataW.trod_int Tryz.underlying3 h5'
   obtain ⟨vv,e6,_,w6⟩:=DataW.trod_int Tryz.underlying3 h6'
   obtain ⟨raw,e7,_,w7⟩:=DataW.trod_int Tryz.underlying41 h7'
   obtain ⟨wv,e8,_,w8⟩:=DataW.trod_int Tryz.underlying41 h8'
   cases e0
   cases e1
   cases e2
   cases e3
   cases e4
   cases e5
   cases e6
   cases e7
   cases e8
   have hup:∀ m,m∈DataW.weights Tryz.prog 42 y9.1→m≤140737488351232:=fun m hm=>hb m (by
    rw[hy]
    simp only[DataW.weights,Tryz.underlying23]
    refine List.mem_cons_of_mem _ (List.mem_append_left _ (weights_all (List.mem_map.2 ⟨k,List.mem_range.2 hk,rfl⟩) ?_))
    have hy3:D k=.agg [y0.1,y1.1,y2.1,y3.1,y4.1,y5.1,y6.1,y7.1,y8.1,y9.1]:=hyk
    rw[hy3]
    simp only[DataW.weights,Tryz.underlying44]
    exact DataW.weights_mem_each (j:=9) (t:=42) (d:=y9.1) rfl rfl _ hm)
   obtain ⟨a,cp,l,rfl,hB,hs,_,_,hlb,hnil⟩:=open_bytes h9' hup
   have b2:=bounds_i64 w2
   have b5:=bounds_i64 w5
   have b6:=bounds_i64 w6
   have b7:=bounds_u64 w7
   have b8:=bounds_u64 w8
   obtain ⟨raw,rfl⟩:=Int.eq_ofNat_of_zero_le (show 0≤raw by omega)
   obtain ⟨wv,rfl⟩:=Int.eq_ofNat_of_zero_le (show 0≤wv by omega)
   have hj:∀ j,j<10→W.cell? ⟨b,off+k*10+j,none⟩=([.int .i64 on,.int .i64 dd,.int .i64 A,.int .i64 B,.int .i64 C,.int .i64 r,.int .i64 vv,.int .u64 (raw:Int),.int .u64 (wv:Int),.slice a l.length cp]:List Value)[j]?:=fun j hj=>by
    have:=he j hj
    rw[add_plain,add_plain] at this
    exact this
   exact ⟨⟨on,dd,A,B,C,r,vv,raw,wv,a,l,cp⟩,⟨hj 0 (by omega),hj 1 (by omega),hj 2 (by omega),hj 3 (by omega),hj 4 (by omega),hj 5 (by omega),hj 6 (by omega),hj 7 (by omega),hj 8 (by omega),hj 9 (by omega)⟩,⟨by dsimp only;omega,by dsimp only;omega,by dsimp only;omega,by dsimp only;omega,by dsimp only;omega,by dsimp only;omega,by dsimp only;omega,by dsimp only;omega,by dsimp only;omega,hB,hnil,hs⟩⟩
theorem open_two {H:Type}{enc:TypeId × Value→H}{W:World}{r:Reach}{b0:Nat}{v:Value}{d:DataW H}{p:List MemPlace} (hv:Value.okWide Tryz.prog W r b0 25 v) (h:DataW.Trod enc Tryz.prog W 0 (fun _=>true) true 25 v d p) (hb:∀ m,m∈DataW.weights Tryz.prog 25 d→m≤140737488351232):
  ∃ l0 l1 a n cap,v=.agg #[.int .i64 l0,.int .i64 l1,.slice a n cap]∧Ops3 W a n:=by
 obtain ⟨cs,rfl,hsz⟩:=okWide_struct Tryz.underlying25 hv
 obtain ⟨c0,c1,c2,rfl⟩:=array3 (hsz.trans (by kernel_rfl))
 obtain ⟨fuel,hf⟩:=h
 obtain ⟨y0,y1,m,hx,_,h0,h1⟩:=trod_struct2 Tryz.underlying25 hf
 simp only[Prod.mk.injEq] at hx
 obtain ⟨hx1,hx2⟩:=hx
 subst hx1
 have k0:Tryz.prog.cellsOf 22=2:=by kernel_rfl
 have k1:Tryz.prog.cellsOf 23=1:=by kernel_rfl
 have k3:Tryz.prog.cellsOf 3=1:=by kernel_rfl
 simp [Value.cells,k0,k1] at h0 h1
 obtain ⟨xs,m2,_,_,_,hl,hel⟩:=DataW.trod_array Tryz.underlying22 h0
 have g0:=hel 0 (by decide)
 have g1:=hel 1 (by decide)
 rw[List.getElem?_eq_getElem (by omega)] at g0 g1
 simp [k3] at g0 g1
 obtain ⟨l0,e0,_,_⟩:=DataW.trod_int Tryz.underlying3 g0
 obtain ⟨l1,e1,_,_⟩:=DataW.trod_int Tryz.underlying3 g1
 cases e0
 cases e1
 obtain ⟨a,n,cap,rfl,hO⟩:=open_ops h1 (fun k hk=>hb k (by
  simp only[DataW.weights,Tryz.underlying25]
  exact DataW.weights_mem_each (j:=1) (t:=23) (d:=y1.1) rfl rfl _ hk))
 exact ⟨l0,l1,a,n,cap,rfl,hO⟩
end Go.Proofs.YtidfllgaeiopjabGreat
