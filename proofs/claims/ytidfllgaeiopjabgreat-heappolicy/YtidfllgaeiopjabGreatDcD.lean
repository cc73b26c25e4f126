import Derived.Test.YtidfllgaeiopjabGreatRootM
import Derived.Test.YtidfllgaeiopjabGreatHlW
import Derived.Test.YtidfllgaeiopjabGreatLargeM
import Derived.Test.YtidfllgaeiopjabGreatPool3
import Derived.Test.YtidfllgaeiopjabGreatByteM
import Derived.Deep.RegionHeld3
import Derived.Deep.DeepCutAuto
namespace Go.Proofs.YtidfllgaeiopjabGreat
open Go.ChangeShapes Go.WideShapes Go.ChangeAt Go.RowKit
set_option linter.unusedVariables false
set_option maxRecDepth 100000
set_option maxHeartbeats 1000000
theorem elem_getD {α:Type} (l:List α) (d:α) (k:Nat) (h:k<l.length):l[k]=l.getD k d:=by
 rw[List.getD_eq_getElem?_getD,List.getElem?_eq_getElem h]
 rfl
def bytM (M:Hp) (i:Nat):List Nat:=Larder.unpackL (ob M i).raws (8*(ob M i).raws.length)
def spanM (M:Hp) (x:Nat) (from' n:Int):Nat:=if numOf M x=0 then 32 else if 0≤from'∧0≤n∧from'+n≤8*((ob M (numOf M x)).raws.length:Nat) then 0 else 33
theorem Found.raws {w:World}{ph:Nat}{M:Hp}{H:HC}{x i t q:Nat}{a:Nat × Nat × Nat}{R:RefSt}{j:Nat} (f:Found w ph M H x i t q a R j):rawsOf R j=(ob M i).raws:=by
 unfold rawsOf
 rw[f.fl,f.sh,mix_zero]
 show (((ob M i).refs.map (refW M))++(ob M i).raws).drop (ob M i).refs.length=_
 have:(ob M i).refs.length=((ob M i).refs.map (refW M)).length:=by rw[List.length_map]
 rw[this,List.drop_left]
theorem Found.byt {w:World}{ph:Nat}{M:Hp}{H:HC}{x i t q:Nat}{a:Nat × Nat × Nat}{R:RefSt}{j:Nat} (f:Found w ph M H x i t q a R j):rbyN R j=bytM M i:=by
 unfold rbyN bytM
 rw[f.raws,f.sh]
 rfl
theorem Found.span {w:World}{ph:Nat}{M:Hp}{H:HC}{x i t q:Nat}{a:Nat × Nat × Nat}{R:RefSt}{j:Nat} (f:Found w ph M H x i t q a R j) (from' n:Int):rspan R (place R.L j:Nat) from' n=if 0≤from'∧0≤n∧from'+n≤8*((ob M i).raws.length:Nat) then 0 else 25:=by
 unfold rspan
 rw[f.obj,if_neg (by simp)]
theorem hbytesM_no {w:World}{ph:Nat}{tag:Nat→Nat}{M:Hp}{H:HC} (h:HAt w ph tag M H) (x:Nat) (hx:x<18446744073709551616) (from' n:Int) (hf1:from'≤9223372036854775807) (hf2:-9223372036854775808≤from') (he:spanM M x from' n≠0):
  Calls Tryz.prog 33 #[.pointer (some ⟨ph,0,none⟩),.int .u64 (x:Nat),.int .i64 from',.int .i64 n] w fun e w'=>e=.returned (.tuple #[.slice none 0 0,.int .i64 (spanM M x from' n:Nat)])∧Below w.heap.size w w':=by
 unfold spanM at he ⊢
 rcases found_any h x hx with ⟨t,q,a,R,j,f⟩|⟨h0,⟨ho,hA,hno⟩|hn⟩
 ·rw[if_neg f.i0] at he ⊢
  have hc:¬ (0≤from'∧0≤n∧from'+n≤8*((ob M (numOf M x)).raws.length:Nat)):=fun q=>he (if_pos q)
  rw[if_neg hc]
  obtain ⟨ws,hs,us,hA,r,o⟩:=f.ar
  have e25:rspan R (place R.L j:Nat) from' n=25:=by rw[f.span,if_neg hc]
  exact hbytes_no (f:=25) f.ho (fun W k=>(bytes_no _ from' n W hf1 hf2 (hA.below k.below) (r.sound o).heads 25 (by rw[r.span o,e25]) (by decide)).mono (fun e w' hh=>⟨hh.1,k.below.trans (by have h2:=hh.2;rw[k.heap] at h2;exact h2)⟩))
 ·rw[if_pos h0]
  obtain ⟨ws,hs,us,hA,r,o⟩:=hA
  have e23:rspan (midA M []) (x:Nat) from' n=23:=by unfold rspan;rw[robj_no hno,if_pos (by simp)]
  exact hbytes_no (f:=23) ho (fun W k=>(bytes_no _ from' n W hf1 hf2 (hA.below k.below) (r.sound o).heads 23 (by rw[r.span o,e23]) (by decide)).mono (fun e w' hh=>⟨hh.1,k.below.trans (by have h2:=hh.2;rw[k.heap] at h2;exact h2)⟩))
 ·rw[if_pos h0]
  refine (hbytes_none hn).mono ?_
  rintro e w' ⟨rfl,k⟩
  exact ⟨rfl,k.below⟩
theorem hbytesM_yes {w:World}{ph:Nat}{tag:Nat→Nat}{M:Hp}{H:HC} (h:HAt w ph tag M H) (x:Nat) (hx:x<18446744073709551616) (from' n:Nat) (he:spanM M x (from':Nat) (n:Nat)=0):
  Calls Tryz.prog 33 #[.pointer (some ⟨ph,0,none⟩),.int .u64 (x:Nat),.int .i64 (from':Nat),.int .i64 (n:Nat)] w fun e w'=>∃ a cap,e=.returned (.tuple #[.slice a n cap,.int .i64 0])∧Span w' 5 (.slice a n cap) n (fun i=>.int .u8 ((bytM M (numOf M x)).getD (from'+i) 0:Nat))∧(∀ g,Value.ownBlock (.slice a n cap)=some g→w.heap.size≤g)∧Below w.heap.size w w':=by
 unfold spanM at he
 rcases found_any h x hx with ⟨t,q,a,R,j,f⟩|⟨h0,_⟩
 ·rw[if_neg f.i0] at he
  have hc:0≤(from':Int)∧0≤(n:Int)∧(from':Int)+(n:Nat)≤8*((ob M (numOf M x)).raws.length:Nat):=by
   by_cases q:0≤(from':Int)∧0≤(n:Int)∧(from':Int)+(n:Nat)≤8*((ob M (numOf M x)).raws.length:Nat)
   ·exact q
   ·rw[if_neg q] at he;cases he
  obtain ⟨ws,hs,us,hA,r,o⟩:=f.ar
  have eo:=r.obj o (place R.L j:Nat)
  rw[f.obj] at eo
  have hb:=hbytes_yes (m:=n) (from':=(from':Nat)) (n:=(n:Nat)) (G:=fun w' v=>Span w' 5 v n (fun i=>.int .u8 ((bytM M (numOf M x)).getD (from'+i) 0:Nat))∧(∀ g,v.ownBlock=some g→w.heap.size≤g)∧Below w.heap.size w w') f.ho (fun W k=>(bytes_span (place R.L j) from' n W (hA.below k.below) (r.sound o).heads (by rw[eo]) (by rw[eo];show from'+n≤8*(ob M (numOf M x)).raws.length;omega)).mono (fun e w' hh=>by
   obtain ⟨a',cap,e1,e2,e3,e4⟩:=hh
   rw[k.heap] at e3 e4
   refine ⟨a',cap,e1,e2.congr (fun i hi=>?_),e3,k.below.trans e4⟩
   rw[eo,← f.byt,← raw_both r j (from'+i) f.hj (by rw[f.sh];show from'+i<8*(ob M (numOf M x)).raws.length;omega),f.sh]
   rfl))
  exact hb
 ·rw[if_pos h0] at he;cases he
def layO (M:Hp) (i f:Nat) (l:List Nat):Ob:={ ob M i with raws:=Larder.packL (patch (bytM M i) f l) }
def setbM (M:Hp) (x:Nat) (from':Int) (l:List Nat):Hp:=if spanM M x from' l.length=0 then putO M (numOf M x) (layO M (numOf M x) from'.toNat l) else M
theorem fill_ok {R:RefSt} (o:RefOk R) (j:Nat) (hj:j<R.L.length) (l:List Nat) (hl:∀ k,l.getD k 0<18446744073709551616):∀ m,RefOk (R.fill j l m)
 | 0=>o
 | m+1=>(fill_ok o j hj l hl m).put j _ _ (hl m)
theorem fill_eq {R:RefSt} (o:RefOk R) (j:Nat) (hj:j<R.L.length) (l:List Nat) (hl:l.length=(R.L.getD j (0,0,0)).2.2):R.fill j l (R.L.getD j (0,0,0)).2.2 = { R with X:=R.X.set j ((R.X.getD j []).take (R.L.getD j (0,0,0)).2.1++l) }:=by
 obtain ⟨s1,s2,s3,s4,s5⟩:=fill_same R j l (R.L.getD j (0,0,0)).2.2
 obtain ⟨i1,i2,i3,i4⟩:=fill_x o j hj l _ (Nat.le_refl _)
 have hxl:(R.X.getD j []).length=fldsOf R.L j:=o.xs j hj
 have hjx:j<R.X.length:=by rw[o.xl];exact hj
 have hf:fldsOf R.L j=(R.L.getD j (0,0,0)).2.1+(R.L.getD j (0,0,0)).2.2:=rfl
 generalize hG:R.fill j l (R.L.getD j (0,0,0)).2.2=G at s1 s2 s3 s4 s5 i1 i2 i3 i4
 have hX:G.X=R.X.set j ((R.X.getD j []).take (R.L.getD j (0,0,0)).2.1++l):=by
  refine List.ext_getElem (by rw[List.length_set];exact i1) fun i h1 h2=>?_
  rw[List.length_set] at h2
  have g1:G.X[i]=G.X.getD i []:=by rw[List.getD_eq_getElem?_getD,List.getElem?_eq_getElem h1];rfl
  rw[g1,List.getElem_set]
  by_cases e:j=i
  ·subst e
   rw[if_pos rfl]
   refine List.ext_getElem (by rw[i2,List.length_append,List.length_take,hl];omega) fun k k1 k2=>?_
   have g2:(G.X.getD j [])[k]=(G.X.getD j []).getD k 0:=elem_getD _ _ _ k1
   rw[g2,i4 k]
   by_cases hk:k<(R.L.getD j (0,0,0)).2.1
   ·rw[if_neg (by omega),List.getElem_append_left (by rw[List.length_take];omega),List.getElem_take]
    exact (elem_getD _ _ _ _).symm
   ·rw[if_pos ⟨by omega,by omega⟩,List.getElem_append_right (by rw[List.length_take];omega)]
    have:min (R.L.getD j (0,0,0)).2.1 (R.X.getD j []).length=(R.L.getD j (0,0,0)).2.1:=by omega
    simp only[List.length_take,this]
    exact (elem_getD _ _ _ _).symm
  ·rw[if_neg e,i3 i (fun q=>e q.symm),List.getD_eq_getElem?_getD,List.getElem?_eq_getElem h2]
   rfl
 cases G
 cases R
 dsimp only at *
 subst s1;subst s2;subst s3;subst s4;subst s5
 rw[hX]
theorem lay_len (M:Hp) (i f:Nat) (l:List Nat):(Larder.packL (patch (bytM M i) f l)).length=(ob M i).raws.length:=by
 rw[Larder.packL_length,patch_length]
 unfold bytM
 rw[Larder.unpackL_length]
 unfold Larder.wn
 omega
theorem hsetbytesM_any {w:World}{ph:Nat}{tag:Nat→Nat}{M:Hp}{H:HC} (h:HAt w ph tag M H) (x:Nat) (hx:x<18446744073709551616) (from':Int) (hf1:from'≤9223372036854775807) (hf2:-9223372036854775808≤from') (l:List Nat) (a:Option Addr) (cap:Nat) (hB:Bytes w a l) (hsl:Small l):
  Calls Tryz.prog 37 #[.pointer (some ⟨ph,0,none⟩),.int .u64 (x:Nat),.int .i64 from',.slice a l.length cap] w fun e w'=>e=.returned (.int .i64 (spanM M x from' l.length:Nat))∧∃ H',HAt w' ph tag (setbM M x from' l) H'∧Fr tag tag w w':=by
 rcases found_any h x hx with ⟨t,q,a',R,j,f⟩|⟨h0,⟨ho,hA,hno⟩|hn⟩
 ·obtain ⟨ws,hs,us,hA,r,o⟩:=f.ar
  refine (hsetbytes_any f.ho hA r o l a cap hf1 hf2 hB hsl).mono ?_
  rintro e w' ⟨rfl,w0,k0,kk,ws',hA',k1,k2⟩
  have hkk:But [a'.1,a'.2.1,a'.2.2] w0 w':=kk
  by_cases hc:0≤from'∧0≤(l.length:Int)∧from'+(l.length:Nat)≤8*((ob M (numOf M x)).raws.length:Nat)
  ·have es:spanM M x from' l.length=0:=by unfold spanM;rw[if_neg f.i0,if_pos hc]
   have er:rspan R (place R.L j:Nat) from' l.length=0:=by rw[f.span,if_pos hc]
   have em:setbM M x from' l=putO M (numOf M x) (layO M (numOf M x) from'.toNat l):=if_pos es
   rw[es,er,em]
   refine ⟨rfl,?_⟩
   obtain ⟨m,rfl⟩:=Int.eq_ofNat_of_zero_le hc.1
   have hW:=k2 er j m f.hj rfl rfl
   have hn:m+l.length≤8*(R.L.getD j (0,0,0)).2.2:=by rw[f.sh];show m+l.length≤8*(ob M (numOf M x)).raws.length;omega
   have hR:=r.fill o j m l f.hj hsl hn (fun i hi=>hA'.small i hi) hW
   have hps:Larder.SmallL (patch (rbyN R j) m l):=patch_below 256 _ _ _ (Larder.unpackL_small _ _) hsl
   have hpl:∀ k,(Larder.packL (patch (rbyN R j) m l)).getD k 0<18446744073709551616:=fun k=>by rw[← Larder.packK_all];exact Larder.packK_lt hps _ _
   have hAR:ArR w' a' _:=⟨ws',hs,us,hA',hR,fill_ok o j f.hj _ hpl _⟩
   have hll:(Larder.packL (patch (rbyN R j) m l)).length=(R.L.getD j (0,0,0)).2.2:=by rw[f.byt,lay_len,f.sh];rfl
   rw[fill_eq o j f.hj _ hll,f.byt,f.fl,f.sh,mix_zero] at hAR
   have ht:((ob M (numOf M x)).refs.map (refW M)++(ob M (numOf M x)).raws).take (shp (ob M (numOf M x))).2.1=(ob M (numOf M x)).refs.map (refW M):=by
    show List.take (ob M (numOf M x)).refs.length _=_
    have:(ob M (numOf M x)).refs.length=((ob M (numOf M x)).refs.map (refW M)).length:=by rw[List.length_map]
    rw[this,List.take_left]
   rw[ht] at hAR
   exact h.putO f (layO M (numOf M x) m l) ⟨rfl,rfl,lay_len M _ m l,rfl,rfl⟩ (h.wf.ok.rf _ f.is) k0.below hkk hAR
  ·have es:spanM M x from' l.length=33:=by unfold spanM;rw[if_neg f.i0,if_neg hc]
   have er:rspan R (place R.L j:Nat) from' l.length=25:=by rw[f.span,if_neg hc]
   have em:setbM M x from' l=M:=if_neg (by rw[es];decide)
   rw[es,er,em]
   refine ⟨rfl,?_⟩
   have:=k1 (by rw[er];decide)
   subst this
   exact h.sameA f k0.below hkk ⟨_,hs,us,hA',r,o⟩
 ·obtain ⟨ws,hs,us,hA,r,o⟩:=hA
  have es:spanM M x from' l.length=32:=if_pos h0
  have er:rspan (midA M []) (x:Nat) from' l.length=23:=by unfold rspan;rw[robj_no hno,if_pos (by simp)]
  have em:setbM M x from' l=M:=if_neg (by rw[es];decide)
  refine (hsetbytes_any ho hA r o l a cap hf1 hf2 hB hsl).mono ?_
  rintro e w' ⟨rfl,w0,k0,kk,ws',hA',k1,k2⟩
  rw[es,er,em]
  refine ⟨rfl,?_⟩
  have:=k1 (by rw[er];decide)
  subst this
  have hA2:ArR w' H.a (midA M []):=⟨_,hs,us,hA',r,o⟩
  have hkk:But [H.a.1,H.a.2.1,H.a.2.2] w0 w':=kk
  have tA:=h.raw.tA
  have hbl:∀ g,g<w.heap.size→g≠H.a.1→g≠H.a.2.1→g≠H.a.2.2→w'.heap[g]?=w.heap[g]?:=fun g hg e1 e2 e3=>(hkk.block g (Nat.lt_of_lt_of_le hg k0.below.size) (by simp [e1,e2,e3])).trans (k0.below.block g hg)
  have hraw:=h.raw.turn [2] (by decide) (by decide) (Nat.le_trans k0.below.size hkk.size) (fun g h0 h2=>hbl g (h.raw.un g h0) (by rintro rfl;exact h2 (by rw[tA.1];decide)) (by rintro rfl;exact h2 (by rw[tA.2.1];decide)) (by rintro rfl;exact h2 (by rw[tA.2.2];decide)))
   (midA M []) H.S H.cH H.bk H.re (.inr hA2) (.inl ⟨by decide,rfl⟩) (.inl ⟨by decide,rfl⟩) (fun s' bp' _=>.inl ⟨by simp;omega,rfl,rfl⟩)
  exact ⟨_,{ raw:=hraw,wf:=h.wf,nL:=h.nL,nG:=h.nG,nK:=h.nK,nM:=h.nM,nC:=h.nC,nR:=h.nR,A:=rfl,S:=h.S,cB:=h.cB,bk:=h.bk,re:=h.re,cH:=h.cH,lB:=h.lB,lH:=h.lH },⟨hkk.os.trans k0.below.os,hkk.tape.trans k0.below.tape,hkk.output.trans k0.below.output,Nat.le_trans k0.below.size hkk.size,fun g hg e=>⟨hbl g hg (by rintro rfl;omega) (by rintro rfl;omega) (by rintro rfl;omega),e⟩⟩⟩
 ·have es:spanM M x from' l.length=32:=if_pos h0
  have em:setbM M x from' l=M:=if_neg (by rw[es];decide)
  rw[es,em]
  refine (hsetbytes_none hn).mono ?_
  rintro e w' ⟨rfl,k⟩
  exact ⟨rfl,h.still' k.below⟩
theorem count_range {α:Type} (p:α→Bool) (d:α) (hd:p d=false):∀ (l:List α) (n:Nat),l.length≤n→((List.range n).filter (fun x=>p (l.getD x d))).length=(l.filter p).length
 | [],n,_=>by
  rw[List.filter_eq_nil_iff.2 (fun x _=>by simp [hd])]
  rfl
 | a :: l,0,h=>absurd h (Nat.not_succ_le_zero _)
 | a :: l,n+1,h=>by
  have ih:=count_range p d hd l n (Nat.le_of_succ_le_succ h)
  rw[List.range_succ_eq_map,List.filter_cons,List.filter_map,List.filter_cons]
  have e:((fun x=>p ((a :: l).getD x d)) ∘ Nat.succ)=fun x=>p (l.getD x d):=by
   funext x
   rfl
  rw[e]
  have e0:(a :: l).getD 0 d=a:=rfl
  rw[e0]
  by_cases hp:p a=true
  ·rw[if_pos hp,if_pos hp,List.length_cons,List.length_cons,List.length_map,ih]
  ·rw[if_neg hp,if_neg hp,List.length_map,ih]
def cntS (M:Hp):Nat:=(M.slots.filter fun i=>i != 0).length
def cntR (M:Hp):Nat:=countOf M.roots
theorem HAt.cntS {w:World}{ph:Nat}{tag:Nat→Nat}{M:Hp}{H:HC} (h:HAt w ph tag M H):countOf H.cB=cntS M:=by
 unfold countOf Go.Proofs.YtidfllgaeiopjabGreat.cntS
 rw[← count_range Option.isSome none rfl H.cB M.slots.length h.lB.1,← count_range (fun i=>i != 0) 0 rfl M.slots M.slots.length (Nat.le_refl _)]
 congr 1
 refine List.filter_congr fun x _=>?_
 have:=h.cB x
 cases hq:(H.cB.getD x none).isSome with
 | true=>rw[hq] at this;have:=this.1 rfl;simpa using this
 | false=>
  rw[hq] at this
  by_cases q:M.slots.getD x 0=0
  ·rw[q];rfl
  ·exact absurd (this.2 q) (by simp)
theorem HAt.cntR {w:World}{ph:Nat}{tag:Nat→Nat}{M:Hp}{H:HC} (h:HAt w ph tag M H):countOf H.cH=cntR M:=by
 unfold Go.Proofs.YtidfllgaeiopjabGreat.cntR countOf
 rw[← count_range Option.isSome none rfl H.cH M.roots.length h.lH.1,← count_range Option.isSome none rfl M.roots M.roots.length (Nat.le_refl _)]
 congr 1
 refine List.filter_congr fun x _=>?_
 rw[h.cH x]
 cases M.roots.getD x none <;> rfl
theorem hstats_any {w:World}{ph:Nat}{tag:Nat→Nat}{M:Hp}{H:HC} (h:HAt w ph tag M H):
  Calls Tryz.prog 51 #[.pointer (some ⟨ph,0,none⟩)] w fun e w'=>e=.returned (.agg #[.int .i64 (M.limit:Nat),.int .i64 (M.half:Nat),.int .i64 (M.used:Nat),.int .i64 (M.large:Nat),.int .i64 (cntS M:Nat),.int .i64 (cntR M:Nat),.int .i64 (M.coll:Nat),.int .i64 (M.resz:Nat),.int .i64 (M.moved:Nat)])∧Below w.heap.size w w':=by
 have hA:=h.raw.hA
 rw[h.A] at hA
 have q:=hA.lt
 have cf:∀ W,Below w.heap.size w W→ArR W H.a (midA M []):=fun W k=>hA.conf k.size (k.block _ q.1) (k.block _ q.2.1) (k.block _ q.2.2)
 have n0:=h.raw.n0
 rw[h.nL] at n0
 have n9:=h.raw.n9
 rw[h.nG] at n9
 have n11:=h.raw.n11
 rw[h.nM] at n11
 have n12:=h.raw.n12
 rw[h.nC] at n12
 have n13:=h.raw.n13
 rw[h.nR] at n13
 have c5:=h.raw.pB.c2
 rw[h.cntS] at c5
 have c8:=h.raw.pH.c2
 rw[h.cntR] at c8
 exact hstats_walk n0 h.raw.n1 n9 c5 c8 n11 n12 n13 (fun W k=>by
  have:=r_used (cf W k)
  rw[midA_used M h.wf.ok] at this
  exact this) (fun W k=>r_size (cf W k))
def imgM (M:Hp):List Nat:=rimg (midA M []) M.small.length
theorem himage_any {w:World}{ph:Nat}{tag:Nat→Nat}{M:Hp}{H:HC} (h:HAt w ph tag M H):
  Calls Tryz.prog 30 #[.pointer (some ⟨ph,0,none⟩)] w fun e w'=>∃ v,e=.returned v∧(v=.slice (some ⟨w.heap.size,0,none⟩) M.used M.used∧w.heap.size<w'.heap.size∧(imgM M).length=M.used∧(∀ j,j<M.used→w'.cell? ⟨w.heap.size,j,none⟩=some (.int .u64 ((imgM M).getD j 0:Nat)))∧Below w.heap.size w w'):=by
 have hA:=h.raw.hA
 rw[h.A] at hA
 obtain ⟨ws,hs,us,hA,r,o⟩:=hA
 have hu:us=M.used:=r.us.trans (midA_used M h.wf.ok [])
 have hl:(midA M []).L.length=M.small.length:=shapes_length M M.small
 obtain ⟨i1,i2⟩:=r.image o M.small.length (by rw[hl];exact Nat.le_refl _)
 have hp:place (midA M []).L M.small.length=M.used:=by rw[← hl];exact midA_used M h.wf.ok []
 rw[hp] at i1 i2
 refine himage_walk (R:=fun v w'=>v=.slice (some ⟨w.heap.size,0,none⟩) M.used M.used∧w.heap.size<w'.heap.size∧(imgM M).length=M.used∧(∀ j,j<M.used→w'.cell? ⟨w.heap.size,j,none⟩=some (.int .u64 ((imgM M).getD j 0:Nat)))∧Below w.heap.size w w') h.raw.n1 ((image_any w hA).mono ?_)
 rintro e w' ⟨rfl,k1,k2,k3⟩
 rw[hu] at k2 ⊢
 exact ⟨_,_,_,rfl,rfl,k1,i1,fun j hj=>by unfold imgM;rw[← i2 j hj];exact k2 j hj,k3⟩
theorem num_back {M:Hp} (ok:HpOk M) {i:Nat} (h:Is M i):numOf M (refW M i)=i∧refW M i<18446744073709551616∧refW M i≠0:=by
 rcases h with h|⟨h0,h⟩
 ·obtain ⟨j,hj,e⟩:=List.getElem_of_mem h
  have q:=ok.s1 i h
  have hg:M.small.getD j 0=i:=by rw[List.getD_eq_getElem?_getD,List.getElem?_eq_getElem hj,e];rfl
  have ha:addr M M.small i=place (shapes M M.small) j:=by rw[← hg,addr_at M _ ok.sm j hj]
  have hr:refW M i=place (shapes M M.small) j:=by
   unfold refW
   rw[if_neg q.1,if_neg (by rw[q.2.1];decide),q.2.2,ha]
  have hp:place (shapes M M.small) j≤1048576:=by
   have h1:=place_le (shapes M M.small) (i:=j) (j:=M.small.length) (by omega)
   have h2:=ok.us
   have h3:=ok.u2
   have h4:=ok.h2
   omega
  have h1:=place_pos (shapes M M.small) j
  rw[hr]
  refine ⟨?_,by omega,by omega⟩
  unfold numOf
  rw[if_pos (by unfold topW;omega),findJ_yes (j:=j) (by rw[shapes_length];exact hj) rfl]
  exact hg
 ·obtain ⟨s,hs,e⟩:=mem_slot h
  have hs0:M.slots.getD s 0≠0:=by rw[e];exact h0
  have q:=ok.b1 s hs0
  rw[e] at q
  have hr:refW M i=topW+s:=by
   unfold refW
   rw[if_neg h0,if_pos q.1,q.2]
  have hl:=ok.sl
  rw[hr]
  refine ⟨?_,by unfold topW;omega,by unfold topW;omega⟩
  unfold numOf
  rw[if_neg (by omega),Nat.add_sub_cancel_left]
  exact e
def dat (o:Ob):Nat × List Nat × List Nat:=(o.kind,o.refs,o.raws)
structure Gr (M:Hp) (ns:List (Nat × List Nat × List Nat)):Prop where
 ln:ns.length=M.objs.length
 dt:∀ i,Is M i→ns.getD i (0,[],[])=dat (ob M i)
structure Kept2 (M M1:Hp):Prop where
 ln:∀ i,Is M1 i→i<M1.objs.length
 len:M1.objs.length=M.objs.length
 rt:M1.roots=M.roots
 gr:∀ ns,Gr M ns→Gr M1 ns
structure Own0 (w0 w:World) (tag:Nat→Nat):Prop where
 be:Below w0.heap.size w0 w
 tg:∀ g,g<w0.heap.size→tag g=0
def hval:Option Nat→Int
 | none=>-1
 | some i=>(i:Nat)
structure ShC where
 vN:Value
 vH:Value
 rf:Nat→Value
 rw:Nat→Value
def ndField (C:ShC) (ns:List (Nat × List Nat × List Nat)) (j c:Nat):Value:=if c=0 then .int .i64 ((ns.getD j (0,[],[])).1:Nat) else if c=1 then C.rf j else C.rw j
def ndCell (C:ShC) (ns:List (Nat × List Nat × List Nat)) (i:Nat):Value:=ndField C ns (i / 3) (i%3)
structure ShAt (w:World) (ps ph:Nat) (st:Nat→Nat) (ns:List (Nat × List Nat × List Nat)) (hd:List (Option Nat)) (limit last:Nat) (C:ShC):Prop where
 c0:w.cell? ⟨ps,0,none⟩=some (.pointer (some ⟨ph,0,none⟩))
 c1:w.cell? ⟨ps,1,none⟩=some C.vN
 c2:w.cell? ⟨ps,2,none⟩=some C.vH
 c3:w.cell? ⟨ps,3,none⟩=some (.int .i64 (limit:Nat))
 c4:w.cell? ⟨ps,4,none⟩=some (.int .i64 (last:Nat))
 fz:∀ i,i<5→w.frozen? ⟨ps,i,none⟩=false
 nd:Wide w 99 3 C.vN ns.length (ndCell C ns)
 hn:Line w 3 C.vH hd.length (fun j=>.int .i64 (hval (hd.getD j none)))
 rf:∀ j,j<ns.length→Line w 3 (C.rf j) (ns.getD j (0,[],[])).2.1.length (fun k=>.int .i64 ((ns.getD j (0,[],[])).2.1.getD k 0:Nat))
 rw:∀ j,j<ns.length→Line w 41 (C.rw j) (ns.getD j (0,[],[])).2.2.length (fun k=>.int .u64 ((ns.getD j (0,[],[])).2.2.getD k 0:Nat))
 t1:st ps=1
 t2:∀ g,C.vN.ownBlock=some g→st g=2
 t3:∀ g,C.vH.ownBlock=some g→st g=3
 t4:∀ j g,j<ns.length→(C.rf j).ownBlock=some g→st g=4+2*j
 t5:∀ j g,j<ns.length→(C.rw j).ownBlock=some g→st g=5+2*j
 un:∀ g,st g≠0→g<w.heap.size
structure Kp where
 w:World
 v:World
 K:Nat→Prop
structure OwnK (k:Kp) (w:World) (tag:Nat→Nat):Prop where
 be:Below k.w.heap.size k.w w
 tg:∀ g,g<k.w.heap.size∨k.K g→tag g=0
 kp:∀ g,k.K g→g<w.heap.size∧w.heap[g]?=k.v.heap[g]?
structure Both0 (w0:Kp) (w:World) (ps ph:Nat) (tag st:Nat→Nat) (M:Hp) (H:HC) (ns:List (Nat × List Nat × List Nat)) (limit last:Nat) (C:ShC):Prop where
 he:HAt w ph tag M H
 sh:ShAt w ps ph st ns M.roots limit last C
 gr:Gr M ns
 li:M.limit=limit
 o1:OwnK w0 w tag
 o2:OwnK w0 w st
 ap:∀ g,st g≠0→tag g=0
theorem hval_neg (o:Option Nat):hval o<0↔o=none:=by
 cases o with
 | none=>simp [hval]
 | some i=>simp [hval]
def tag3 (st:Nat→Nat) (n:Nat) (v r s:Value):Nat→Nat:=tagAt (tagAt (tagAt st v 2) r (4+2*n)) s (5+2*n)
structure Bnd (M:Hp) (n:Nat):Prop where
 o1:1≤M.objs.length
 ob:M.objs.length≤n+1
 cl:M.coll≤10*n
 rz:M.resz≤10*n
 sl:M.slots.length≤n
 rt:M.roots.length≤n
 so:M.slots.length≤M.objs.length
theorem coll_slots {M M':Hp} (h:IsColl M M'):M'.slots.length=M.slots.length:=by
 obtain ⟨t,_,_,_,rfl⟩:=h
 show (slC M _).length=_
 unfold slC
 rw[List.length_map]
theorem becM_resz (M:Hp) (n:Nat):(becM M n).resz≤M.resz+1∧(becM M n).coll=M.coll:=by
 unfold becM
 split
 ·exact ⟨Nat.le_succ _,rfl⟩
 ·exact ⟨Nat.le_refl _,rfl⟩
theorem fitM_resz (M:Hp) (s:Nat):(fitM M s).resz≤M.resz+1∧(fitM M s).coll=M.coll:=by
 unfold fitM
 split
 ·split
  ·exact becM_resz _ _
  ·exact ⟨Nat.le_succ _,rfl⟩
 ·split
  ·exact becM_resz _ _
  ·exact ⟨Nat.le_succ _,rfl⟩
structure Grown (M M1:Hp) (c r s:Nat):Prop where
 cl:M1.coll≤M.coll+c
 rz:M1.resz≤M.resz+r
 sl:M1.slots.length≤M.slots.length+s
 li:M1.limit=M.limit
structure DC where
 vO:Value
 vS:Value
 vL:Value
 vR:Value
 rf:Nat→Value
 rw:Nat→Value
def obField (C:DC) (l:List Ob) (j c:Nat):Value:=if c=0 then .int .i64 ((l.getD j ob0).kind:Nat) else if c=1 then C.rf j else if c=2 then C.rw j else if c=3 then .bool (l.getD j ob0).there else if c=4 then .bool (l.getD j ob0).big else .int .i64 ((l.getD j ob0).at':Nat)
def obCell (C:DC) (l:List Ob) (i:Nat):Value:=obField C l (i / 6) (i%6)
def numsV (l:List Nat) (j:Nat):Value:=.int .i64 (l.getD j 0:Nat)
def wordV (l:List Nat) (j:Nat):Value:=.int .u64 (l.getD j 0:Nat)
def hvalV (l:List (Option Nat)) (j:Nat):Value:=.int .i64 (hval (l.getD j none))
structure DRaw (w:World) (pd:Nat) (dt:Nat→Nat) (N:Nat→Nat) (ol:List Ob) (sm sl:List Nat) (rt:List (Option Nat)) (C:DC):Prop where
 num:∀ i,i<6∨(10≤i∧i<13)→w.cell? ⟨pd,i,none⟩=some (.int .i64 (N i:Nat))
 c6:w.cell? ⟨pd,6,none⟩=some C.vO
 c7:w.cell? ⟨pd,7,none⟩=some C.vS
 c8:w.cell? ⟨pd,8,none⟩=some C.vL
 c9:w.cell? ⟨pd,9,none⟩=some C.vR
 fz:∀ i,i<13→w.frozen? ⟨pd,i,none⟩=false
 ob:Wide w 168 6 C.vO ol.length (obCell C ol)
 sm:Line w 3 C.vS sm.length (numsV sm)
 sl:Line w 3 C.vL sl.length (numsV sl)
 rt:Line w 3 C.vR rt.length (hvalV rt)
 rf:∀ j,j<ol.length→Line w 3 (C.rf j) (ol.getD j ob0).refs.length (numsV (ol.getD j ob0).refs)
 rw:∀ j,j<ol.length→Line w 41 (C.rw j) (ol.getD j ob0).raws.length (wordV (ol.getD j ob0).raws)
 t1:dt pd=1
 t2:∀ g,C.vO.ownBlock=some g→dt g=2
 t3:∀ g,C.vS.ownBlock=some g→dt g=3
 t4:∀ g,C.vL.ownBlock=some g→dt g=4
 t5:∀ g,C.vR.ownBlock=some g→dt g=5
 t6:∀ j g,j<ol.length→(C.rf j).ownBlock=some g→dt g=6+2*j
 t7:∀ j g,j<ol.length→(C.rw j).ownBlock=some g→dt g=7+2*j
 un:∀ g,dt g≠0→g<w.heap.size
def numM (M:Hp) (sn:Nat) (i:Nat):Nat:=if i=0 then M.limit else if i=1 then M.half else if i=2 then M.used else if i=3 then M.large else if i=4 then sn else if i=5 then M.kept else if i=10 then M.coll else if i=11 then M.resz else M.moved
def DAt (w:World) (pd:Nat) (dt:Nat→Nat) (M:Hp) (sn:Nat) (C:DC):Prop:=DRaw w pd dt (numM M sn) M.objs M.small M.slots M.roots C
theorem DRaw.same {w w':World}{pd:Nat}{dt:Nat→Nat}{N:Nat→Nat}{ol:List Ob}{sm sl:List Nat}{rt:List (Option Nat)}{C:DC} (h:DRaw w pd dt N ol sm sl rt C) (hs:w.heap.size≤w'.heap.size) (hb:∀ g,dt g≠0→w'.heap[g]?=w.heap[g]?):DRaw w' pd dt N ol sm sl rt C:=by
 have hp:=hb pd (by rw[h.t1];decide)
 exact {
  num:=fun i hi=>(cell_like hp _).trans (h.num i hi),c6:=(cell_like hp _).trans h.c6,c7:=(cell_like hp _).trans h.c7,c8:=(cell_like hp _).trans h.c8,c9:=(cell_like hp _).trans h.c9
  fz:=fun i hi=>(froz_like hp _).trans (h.fz i hi)
  ob:=h.ob.same fun g e=>hb g (by rw[h.t2 g e];decide)
  sm:=h.sm.same fun g e=>hb g (by rw[h.t3 g e];decide)
  sl:=h.sl.same fun g e=>hb g (by rw[h.t4 g e];decide)
  rt:=h.rt.same fun g e=>hb g (by rw[h.t5 g e];decide)
  rf:=fun j hj=>(h.rf j hj).same fun g e=>hb g (by rw[h.t6 j g hj e];omega)
  rw:=fun j hj=>(h.rw j hj).same fun g e=>hb g (by rw[h.t7 j g hj e];omega)
  t1:=h.t1,t2:=h.t2,t3:=h.t3,t4:=h.t4,t5:=h.t5,t6:=h.t6,t7:=h.t7
  un:=fun g e=>Nat.lt_of_lt_of_le (h.un g e) hs }
theorem DRaw.still {w w':World}{pd:Nat}{dt:Nat→Nat}{N:Nat→Nat}{ol:List Ob}{sm sl:List Nat}{rt:List (Option Nat)}{C:DC} (h:DRaw w pd dt N ol sm sl rt C) (k:Below w.heap.size w w'):DRaw w' pd dt N ol sm sl rt C:=h.same k.size fun g e=>k.block g (h.un g e)
theorem DRaw.lt {w:World}{pd:Nat}{dt:Nat→Nat}{N:Nat→Nat}{ol:List Ob}{sm sl:List Nat}{rt:List (Option Nat)}{C:DC} (h:DRaw w pd dt N ol sm sl rt C):pd<w.heap.size:=block_lt_of_cell h.c6
structure ObAt (w:World) (pd n i:Nat) (o:Ob) (gO cO:Nat) (ar aw:Option Addr) (cr cw:Nat):Prop where
 s:w.cell? ⟨pd,6,none⟩=some (.slice (some ⟨gO,0,none⟩) n cO)
 y0:w.cell? ⟨gO,i*6,none⟩=some (.int .i64 (o.kind:Nat))
 y1:w.cell? ⟨gO,i*6+1,none⟩=some (.slice ar o.refs.length cr)
 y2:w.cell? ⟨gO,i*6+2,none⟩=some (.slice aw o.raws.length cw)
 y3:w.cell? ⟨gO,i*6+3,none⟩=some (.bool o.there)
 y4:w.cell? ⟨gO,i*6+4,none⟩=some (.bool o.big)
 y5:w.cell? ⟨gO,i*6+5,none⟩=some (.int .i64 (o.at':Nat))
 fz:∀ c,c<6→w.frozen? ⟨gO,i*6+c,none⟩=false
 rf:∀ j,j<o.refs.length→∃ g,ar=some ⟨g,0,none⟩∧w.cell? ⟨g,j,none⟩=some (.int .i64 (o.refs.getD j 0:Nat))∧w.frozen? ⟨g,j,none⟩=false
 rw:∀ j,j<o.raws.length→∃ g,aw=some ⟨g,0,none⟩∧w.cell? ⟨g,j,none⟩=some (.int .u64 (o.raws.getD j 0:Nat))∧w.frozen? ⟨g,j,none⟩=false
theorem obCell_at (C:DC) (l:List Ob) (i c:Nat) (hc:c<6):obCell C l (i*6+c)=obField C l i c:=by
 unfold obCell
 rw[show (i*6+c) / 6=i by omega,show (i*6+c)%6=c by omega]
theorem DRaw.obj {w:World}{pd:Nat}{dt:Nat→Nat}{N:Nat→Nat}{ol:List Ob}{sm sl:List Nat}{rt:List (Option Nat)}{C:DC} (h:DRaw w pd dt N ol sm sl rt C) {i:Nat} (hi:i<ol.length):∃ gO cO ar aw cr cw,ObAt w pd ol.length i (ol.getD i ob0) gO cO ar aw cr cw∧C.vO=.slice (some ⟨gO,0,none⟩) ol.length cO∧C.vO.ownBlock=some gO∧C.rf i=.slice ar (ol.getD i ob0).refs.length cr∧C.rw i=.slice aw (ol.getD i ob0).raws.length cw:=by
 obtain ⟨gO,cO,ev,ho,hc⟩:=h.ob.at (by omega)
 obtain ⟨ar,cr,er⟩:=(h.rf i hi).shape
 obtain ⟨aw,cw,ew⟩:=(h.rw i hi).shape
 have hx:∀ c,c<6→w.cell? ⟨gO,i*6+c,none⟩=some (obField C ol i c)∧w.frozen? ⟨gO,i*6+c,none⟩=false:=fun c hc6=>by
  have:=hc (i*6+c) (by omega)
  rw[obCell_at C ol i c hc6] at this
  exact this
 refine ⟨gO,cO,ar,aw,cr,cw,⟨by rw[h.c6,ev],(hx 0 (by decide)).1,?_,?_,(hx 3 (by decide)).1,(hx 4 (by decide)).1,(hx 5 (by decide)).1,fun c hc6=>(hx c hc6).2,fun j hj=>?_,fun j hj=>?_⟩,ev,ho,er,ew⟩
 ·rw[(hx 1 (by decide)).1];exact congrArg some er
 ·rw[(hx 2 (by decide)).1];exact congrArg some ew
 ·obtain ⟨g,cap,z1,_,z3⟩:=(h.rf i hi).at (by omega)
  rw[er] at z1
  cases z1
  exact ⟨g,rfl,(z3 j hj).1,(z3 j hj).2⟩
 ·obtain ⟨g,cap,z1,_,z3⟩:=(h.rw i hi).at (by omega)
  rw[ew] at z1
  cases z1
  exact ⟨g,rfl,(z3 j hj).1,(z3 j hj).2⟩
theorem line_list {w:World}{e:TypeId}{v:Value}{n:Nat}{f:Nat→Value} (h:Line w e v n f):∃ a cap,v=.slice a n cap∧∀ j,j<n→∃ g,a=some ⟨g,0,none⟩∧w.cell? ⟨g,j,none⟩=some (f j)∧w.frozen? ⟨g,j,none⟩=false∧v.ownBlock=some g:=by
 obtain ⟨a,cap,ev⟩:=h.shape
 refine ⟨a,cap,ev,fun j hj=>?_⟩
 obtain ⟨g,cap',z1,z2,z3⟩:=h.at (by omega)
 rw[ev] at z1
 cases z1
 exact ⟨g,rfl,(z3 j hj).1,(z3 j hj).2,z2⟩
set_option linter.unusedSimpArgs false
theorem dsize_any {w:World}{pd:Nat}{dt:Nat→Nat}{N:Nat→Nat}{ol:List Ob}{sm sl:List Nat}{rt:List (Option Nat)}{C:DC} (h:DRaw w pd dt N ol sm sl rt C) (hn:ol.length≤1000000) {i:Nat} (hi:i<ol.length) (hr:(ol.getD i ob0).refs.length≤10000000) (hw:(ol.getD i ob0).raws.length≤10000000):
  Calls Tryz.prog 156 #[.pointer (some ⟨pd,0,none⟩),.int .i64 (i:Nat)] w fun e w'=>e=.returned (.int .i64 (osz (ol.getD i ob0):Nat))∧Still w w':=by
 obtain ⟨gO,cO,ar,aw,cr,cw,⟨s0,y0,y1,y2,y3,y4,y5,_,_,_⟩,_⟩:=h.obj hi
 have HS:=hide (Still.refl w)
 have HE:Hid ((osz (ol.getD i ob0):Int)=1+((ol.getD i ob0).refs.length:Int)+((ol.getD i ob0).raws.length:Int)):=hide (by unfold osz;push_cast;omega)
 obtain ⟨Z,hZ⟩:∃ Z:Int,((osz (ol.getD i ob0):Nat):Int)=Z:=⟨_,rfl⟩
 rw[hZ] at HE ⊢
 generalize (ol.getD i ob0).refs.length=rl at *
 generalize (ol.getD i ob0).raws.length=wl at *
 have i1:(0:Int)≤(i:Nat):=by omega
 have i2:(i:Int)<(ol.length:Nat):=by omega
 have a1:IntKind.i64.wrap (1+(rl:Int))=1+(rl:Int):=wrap_small _ (by omega) (by omega)
 have a2:IntKind.i64.wrap (1+(rl:Int)+(wl:Int))=1+(rl:Int)+(wl:Int):=wrap_small _ (by omega) (by omega)
 generalize ol.length=n at *
 clear h hZ y0 y3 y4 y5
 go_enter Tryz.func156,Tryz.ntmps156
 go_wp2_with fail
 go_region_held3 (fun W=>W.cell? ⟨pd,6,none⟩=some (.slice (some ⟨gO,0,none⟩) n cO)∧W.cell? ⟨gO,i*6+1,none⟩=some (.slice ar rl cr)∧W.cell? ⟨gO,i*6+2,none⟩=some (.slice aw wl cw)) (go_keep) (fail)
 all_goals go_wp2_with fail
 all_goals go_ret
 all_goals exact ⟨by simp [unhide HE,a1,a2],by first|exact unhide HS|exact (unhide HS).drew _⟩
def refL (ol:List Ob) (i:Nat):Nat:=if i=0 then 0 else if (ol.getD i ob0).big=true then topW+(ol.getD i ob0).at' else (ol.getD i ob0).at'
theorem dref_any {w:World}{pd:Nat}{dt:Nat→Nat}{N:Nat→Nat}{ol:List Ob}{sm sl:List Nat}{rt:List (Option Nat)}{C:DC} (h:DRaw w pd dt N ol sm sl rt C) (hn:ol.length≤1000000) {i:Nat} (hi:i<ol.length) (ha:(ol.getD i ob0).at'≤10000000):
  Calls Tryz.prog 116 #[.pointer (some ⟨pd,0,none⟩),.int .i64 (i:Nat)] w fun e w'=>e=.returned (.int .u64 (refL ol i:Nat))∧Still w w':=by
 obtain ⟨gO,cO,ar,aw,cr,cw,⟨s0,y0,y1,y2,y3,y4,y5,_,_,_⟩,_⟩:=h.obj hi
 have HS:=hide (Still.refl w)
 have i1:(0:Int)≤(i:Nat):=by omega
 have i2:(i:Int)<(ol.length:Nat):=by omega
 have HF:Hid (refL ol i=if i=0 then 0 else if (ol.getD i ob0).big=true then topW+(ol.getD i ob0).at' else (ol.getD i ob0).at'):=hide rfl
 obtain ⟨Z,hZ⟩:∃ Z,refL ol i=Z:=⟨_,rfl⟩
 rw[hZ] at HF ⊢
 generalize (ol.getD i ob0).at'=at0 at *
 have a1:IntKind.u64.wrap (at0:Int)=(at0:Int):=by rw[IntKind.wrap_u64];omega
 have a2:IntKind.u64.wrap (9223372036854775808+(at0:Int))=9223372036854775808+(at0:Int):=by rw[IntKind.wrap_u64];omega
 by_cases h0:i=0
 ·subst h0
  have HZ:Hid (Z=0):=hide ((unhide HF).trans (if_pos rfl))
  clear h hZ y0 y1 y2 y3 y4 y5 s0 HF
  go_enter Tryz.func116,Tryz.ntmps116
  go_wp2_with fail
  all_goals go_ret
  all_goals exact ⟨by simp [unhide HZ],unhide HS⟩
 ·have d0:((i:Int) == 0)=false:=by simp;omega
  have d0':((i:Int)=0)=False:=by simp;omega
  generalize hbg:(ol.getD i ob0).big=bg at *
  generalize ol.length=n at *
  cases bg
  ·have HZ:Hid (Z=at0):=hide (by rw[unhide HF,if_neg h0];simp)
   clear h hZ y0 y1 y2 y3 HF hbg
   go_enter Tryz.func116,Tryz.ntmps116
   go_wp2_with fail
   all_goals go_ret
   all_goals exact ⟨by simp [unhide HZ,a1],unhide HS⟩
  ·have HZ:Hid (Z=topW+at0):=hide (by rw[unhide HF,if_neg h0];simp)
   clear h hZ y0 y1 y2 y3 HF hbg
   go_enter Tryz.func116,Tryz.ntmps116
   go_wp2_with fail
   all_goals go_ret
   all_goals exact ⟨by simp [unhide HZ,a1,a2,topW],unhide HS⟩
set_option maxHeartbeats 2000000
theorem did_walk {w:World}{pd gO cO nO n cS m cL used x:Nat}{aS aL:Option Addr}{pl id sl:Nat→Nat} (res:Nat)
  (c2:w.cell? ⟨pd,2,none⟩=some (.int .i64 (used:Nat))) (c6:w.cell? ⟨pd,6,none⟩=some (.slice (some ⟨gO,0,none⟩) nO cO)) (c7:w.cell? ⟨pd,7,none⟩=some (.slice aS n cS)) (c8:w.cell? ⟨pd,8,none⟩=some (.slice aL m cL))
  (hs:∀ j,j<n→∃ g,aS=some ⟨g,0,none⟩∧w.cell? ⟨g,j,none⟩=some (.int .i64 (id j:Nat))) (hl:∀ j,j<m→∃ g,aL=some ⟨g,0,none⟩∧w.cell? ⟨g,j,none⟩=some (.int .i64 (sl j:Nat)))
  (ho:∀ j,j<n→id j<nO∧w.cell? ⟨gO,id j*6+5,none⟩=some (.int .i64 (pl j:Nat))) (hp:∀ i j,i<j→j<n→pl i<pl j) (hb:∀ j,j<n→pl j≤10000000)
  (hn:n≤10000000) (hm:m≤10000000) (hu:used≤10000000) (hx:x<18446744073709551616)
  (r1:9223372036854775808≤x→x-9223372036854775808<m→res=sl (x-9223372036854775808)) (r2:9223372036854775808≤x→m≤x-9223372036854775808→res=0)
  (r3:x<9223372036854775808→x=0∨used≤x→res=0) (r4:x<9223372036854775808→∀ j,j<n→pl j=x→res=id j) (r5:x<9223372036854775808→(∀ j,j<n→pl j≠x)→res=0):
  Calls Tryz.prog 158 #[.pointer (some ⟨pd,0,none⟩),.int .u64 (x:Nat)] w fun e w'=>e=.returned (.int .i64 (res:Nat))∧Still w w':=by
 have HS:=hide (Still.refl w)
 have HL:=hide hl
 have HSm:=hide hs
 have HO:=hide ho
 have HP:=hide hp
 have HB:=hide hb
 have R1:=hide r1
 have R2:=hide r2
 have R3:=hide r3
 have R4:=hide r4
 have R5:=hide r5
 clear hl hs ho hp hb r1 r2 r3 r4 r5
 by_cases ht:9223372036854775808≤x
 ·have dt:decide ((9223372036854775808:Int)≤(x:Nat))=true:=decide_eq_true (by omega)
  obtain ⟨s,hs⟩:∃ s:Nat,x=9223372036854775808+s:=⟨x-9223372036854775808,by omega⟩
  have a1:IntKind.u64.wrap ((x:Int)-9223372036854775808)=(s:Int):=by rw[IntKind.wrap_u64];omega
  have a2:IntKind.u64.wrap (m:Int)=(m:Int):=by rw[IntKind.wrap_u64];omega
  by_cases hsm:s<m
  ·have d1:decide ((m:Int)≤(s:Nat))=false:=decide_eq_false (by omega)
   obtain ⟨g,rfl,e0⟩:=unhide HL s hsm
   have i1:(0:Int)≤(s:Nat):=by omega
   have i2:(s:Int)<(m:Nat):=by omega
   have HR:Hid (res=sl s):=hide (by have:=unhide R1 ht (by omega);rw[this,show x-9223372036854775808=s by omega])
   clear R1 R2 R3 R4 R5 HL HSm HO HP HB hs c2 c6 c7
   go_enter Tryz.func158,Tryz.ntmps158
   go_wp2_with fail
   all_goals go_ret
   all_goals exact ⟨by simp [unhide HR],unhide HS⟩
  ·have d1:decide ((m:Int)≤(s:Nat))=true:=decide_eq_true (by omega)
   have HR:Hid (res=0):=hide (unhide R2 ht (by omega))
   clear R1 R2 R3 R4 R5 HL HSm HO HP HB hs c2 c6 c7
   go_enter Tryz.func158,Tryz.ntmps158
   go_wp2_with fail
   all_goals go_ret
   all_goals exact ⟨by simp [unhide HR],unhide HS⟩
 ·have dt:decide ((9223372036854775808:Int)≤(x:Nat))=false:=decide_eq_false (by omega)
  have a0:IntKind.u64.wrap (used:Int)=(used:Int):=by rw[IntKind.wrap_u64];omega
  by_cases h0:x=0
  ·subst h0
   have HR:Hid (res=0):=hide (unhide R3 (by omega) (.inl rfl))
   clear R1 R2 R3 R4 R5 HL HSm HO HP HB c6 c7 c8
   go_enter Tryz.func158,Tryz.ntmps158
   go_wp2_with fail
   all_goals go_ret
   all_goals exact ⟨by simp [unhide HR],unhide HS⟩
  ·have d0:((x:Int) == 0)=false:=by simp;omega
   have d0':((x:Int)=0)=False:=by simp;omega
   by_cases hux:used≤x
   ·have d1:decide ((used:Int)≤(x:Nat))=true:=decide_eq_true (by omega)
    have HR:Hid (res=0):=hide (unhide R3 (by omega) (.inr hux))
    clear R1 R2 R3 R4 R5 HL HSm HO HP HB c6 c7 c8
    go_enter Tryz.func158,Tryz.ntmps158
    go_wp2_with fail
    all_goals go_ret
    all_goals exact ⟨by simp [unhide HR],unhide HS⟩
   ·have d1:decide ((used:Int)≤(x:Nat))=false:=decide_eq_false (by omega)
    have a3:IntKind.i64.wrap (x:Int)=(x:Int):=wrap_small _ (by omega) (by omega)
    have R4':=hide (unhide R4 (by omega))
    have R5':=hide (unhide R5 (by omega))
    clear R1 R2 R3 R4 R5 HL c8
    go_enter Tryz.func158,Tryz.ntmps158
    go_wp2_with fail
    clear c2 d1 a0 d0 d0' dt
    go_region_held3 (fun W=>W.cell? ⟨pd,7,none⟩=some (.slice aS n cS)) (go_keep) (fail)
    go_wp2_with fail
    go_loopw [6,7] (fun lv hv wr=>∃ lo hi:Nat,lv=.int .i64 (lo:Nat)∧hv=.int .i64 (hi:Nat)∧lo≤hi∧hi≤n∧Hid ((∀ j,j<lo→pl j<x)∧(∀ j,hi≤j→j<n→x≤pl j))∧Hid (Still w wr)) (fun lv hv _=>(intOf hv).toNat-(intOf lv).toNat)
    case atStart=>exact ⟨0,n,rfl,rfl,Nat.zero_le _,Nat.le_refl _,hide ⟨fun j hj=>absurd hj (Nat.not_lt_zero _),fun j h1 h2=>absurd h2 (by omega)⟩,hide ((unhide HS).drew _)⟩
    case round=>
     obtain ⟨lo,hi,rfl,rfl,h1,h2,hI,hS⟩:=hrel
     have c6':=((unhide hS).cell _).trans c6
     have c7':=((unhide hS).cell _).trans c7
     by_cases hlh:lo<hi
     ·have dl:decide ((lo:Int)<(hi:Nat))=true:=decide_eq_true (by omega)
      obtain ⟨q,hq⟩:∃ q:Nat,q=(lo+hi) / 2:=⟨_,rfl⟩
      have hq1:lo≤q∧q<hi:=by omega
      have b1:IntKind.i64.wrap ((lo:Int)+(hi:Int))=(lo:Int)+(hi:Int):=wrap_small _ (by omega) (by omega)
      have b2:((lo:Int)+(hi:Int)).tdiv 2=(q:Int):=by rw[Int.tdiv_eq_ediv_of_nonneg (by omega)];omega
      have b2':((lo:Int)+(hi:Int)) / 2=(q:Int):=by omega
      have b3:IntKind.i64.wrap (q:Int)=(q:Int):=wrap_small _ (by omega) (by omega)
      have b4:IntKind.i64.wrap ((q:Int)+1)=(q:Int)+1:=wrap_small _ (by omega) (by omega)
      obtain ⟨g,rfl,e0⟩:=unhide HSm q (by omega)
      obtain ⟨hid,e5⟩:=unhide HO q (by omega)
      have e0':=((unhide hS).cell _).trans e0
      have e5':=((unhide hS).cell _).trans e5
      have i1:(0:Int)≤(q:Nat):=by omega
      have i2:(q:Int)<(n:Nat):=by omega
      have i3:(0:Int)≤(id q:Nat):=by omega
      have i4:(id q:Int)<(nO:Nat):=by omega
      clear c6 c7 e0 e5 hq
      by_cases hlt:pl q<x
      ·have d1:decide ((pl q:Int)<(x:Nat))=true:=decide_eq_true (by omega)
       have HN:Hid ((∀ j,j<q+1→pl j<x)∧(∀ j,hi≤j→j<n→x≤pl j)):=hide ⟨fun j hj=>by
        by_cases e:j=q
        ·rw[e];exact hlt
        ·have:=unhide HP j q (by omega) (by omega);omega,(unhide hI).2⟩
       go_wp2_with fail
       go_region_held3 (fun W=>W.cell? ⟨pd,6,none⟩=some (.slice (some ⟨gO,0,none⟩) nO cO)∧W.cell? ⟨pd,7,none⟩=some (.slice (some ⟨g,0,none⟩) n cS)∧W.cell? ⟨g,q,none⟩=some (.int .i64 (id q:Nat))∧W.cell? ⟨gO,id q*6+5,none⟩=some (.int .i64 (pl q:Nat))) (go_keep) (fail)
       all_goals go_wp2_with fail
       all_goals go_roundw
       all_goals first|exact ⟨q+1,hi,by simp,by simp,by omega,by omega,HN,hide ((unhide hS).drew _)⟩|(simp [intOf];omega)
      ·have d1:decide ((pl q:Int)<(x:Nat))=false:=decide_eq_false (by omega)
       have HN:Hid ((∀ j,j<lo→pl j<x)∧(∀ j,q≤j→j<n→x≤pl j)):=hide ⟨(unhide hI).1,fun j hj hjn=>by
        by_cases e:j=q
        ·rw[e];omega
        ·have:=unhide HP q j (by omega) hjn;omega⟩
       go_wp2_with fail
       go_region_held3 (fun W=>W.cell? ⟨pd,6,none⟩=some (.slice (some ⟨gO,0,none⟩) nO cO)∧W.cell? ⟨pd,7,none⟩=some (.slice (some ⟨g,0,none⟩) n cS)∧W.cell? ⟨g,q,none⟩=some (.int .i64 (id q:Nat))∧W.cell? ⟨gO,id q*6+5,none⟩=some (.int .i64 (pl q:Nat))) (go_keep) (fail)
       all_goals go_wp2_with fail
       all_goals go_roundw
       all_goals first|exact ⟨lo,q,by simp,by simp,by omega,by omega,HN,hide ((unhide hS).drew _)⟩|(simp [intOf];omega)
     ·have hle:lo=hi:=by omega
      subst hle
      have dl:decide ((lo:Int)<(lo:Nat))=false:=decide_eq_false (by omega)
      have i1:(0:Int)≤(lo:Nat):=by omega
      have HF:Hid (∀ W,Still wr W→Still w W):=hide (fun W s=>(unhide hS).trans s)
      by_cases hln:lo<n
      ·have d2:decide ((lo:Int)<(n:Nat))=true:=decide_eq_true (by omega)
       obtain ⟨g,rfl,e0⟩:=unhide HSm lo hln
       obtain ⟨hid,e5⟩:=unhide HO lo hln
       have e0':=((unhide hS).cell _).trans e0
       have e5':=((unhide hS).cell _).trans e5
       have i2:(lo:Int)<(n:Nat):=by omega
       have i3:(0:Int)≤(id lo:Nat):=by omega
       have i4:(id lo:Int)<(nO:Nat):=by omega
       by_cases hpx:pl lo=x
       ·have HR:Hid (res=id lo):=hide (unhide R4' lo hln hpx)
        subst hpx
        clear c6 c7 e0 e5 R4' R5' hI h2 HP HB HO HSm hux h0 ht hx
        go_wp2_with fail
        go_region_held3 (fun W=>W.cell? ⟨pd,6,none⟩=some (.slice (some ⟨gO,0,none⟩) nO cO)∧W.cell? ⟨pd,7,none⟩=some (.slice (some ⟨g,0,none⟩) n cS)∧W.cell? ⟨g,lo,none⟩=some (.int .i64 (id lo:Nat))∧W.cell? ⟨gO,id lo*6+5,none⟩=some (.int .i64 (pl lo:Nat))) (go_keep) (fail)
        all_goals go_wp2_with fail
        all_goals go_ret
        all_goals exact ⟨by simp [unhide HR],unhide HF _ ((Still.refl _).drew _)⟩
       ·have d3:((pl lo:Int) == (x:Nat))=false:=by simp;omega
        have d3':((pl lo:Int)=(x:Nat))=False:=by simp;omega
        have HR:Hid (res=0):=hide (unhide R5' fun j hj e=>by
         rcases Nat.lt_trichotomy j lo with q|q|q
         ·have:=(unhide hI).1 j q;omega
         ·rw[q] at e;exact hpx e
         ·have:=unhide HP lo j q hj;have:=(unhide hI).2 lo (Nat.le_refl _) hln;omega)
        clear c6 c7 e0 e5 R4' R5' hI h2 HP HB HO HSm hux h0 ht hx hpx
        go_wp2_with fail
        go_region_held3 (fun W=>W.cell? ⟨pd,6,none⟩=some (.slice (some ⟨gO,0,none⟩) nO cO)∧W.cell? ⟨pd,7,none⟩=some (.slice (some ⟨g,0,none⟩) n cS)∧W.cell? ⟨g,lo,none⟩=some (.int .i64 (id lo:Nat))∧W.cell? ⟨gO,id lo*6+5,none⟩=some (.int .i64 (pl lo:Nat))) (go_keep) (fail)
        all_goals go_wp2_with fail
        all_goals go_ret
        all_goals exact ⟨by simp [unhide HR],unhide HF _ ((Still.refl _).drew _)⟩
      ·have hle:lo=n:=by omega
       have d2:decide ((lo:Int)<(n:Nat))=false:=decide_eq_false (by omega)
       have HR:Hid (res=0):=hide (unhide R5' fun j hj e=>by have:=(unhide hI).1 j (by omega);omega)
       have d2':decide (lo<n)=false:=decide_eq_false hln
       have d2'':(lo<n)=False:=by simp;omega
       clear c6 c7 R4' R5' hI h2 HP HB HO HSm hux h0 ht hx hle hln
       go_wp2_with fail
       refine wp_region_noPanic ?_
       go_region
       all_goals refine NoPanic.normal ?_
       all_goals go_wp2_with fail
       all_goals go_ret
       all_goals exact ⟨by simp [unhide HR],unhide HF _ (by first|exact (Still.refl _).drew _|exact Still.refl _)⟩
set_option maxHeartbeats 1000000
theorem place_used {M:Hp} (ok:HpOk M) {j:Nat} (hj:j<M.small.length):place (shapes M M.small) j<M.used:=by
 have h:=place_lt (shapes M M.small) hj
 rw[← ok.us] at h
 have:1≤wd ((shapes M M.small).getD j (0,0,0)):=by unfold wd;omega
 omega
theorem small_at {M:Hp} (ok:HpOk M) {j:Nat} (hj:j<M.small.length):(M.objs.getD (M.small.getD j 0) ob0).at'=place (shapes M M.small) j:=by
 have hm:M.small.getD j 0∈M.small:=by rw[List.getD_eq_getElem?_getD,List.getElem?_eq_getElem hj];exact List.getElem_mem hj
 have:=(ok.s1 _ hm).2.2
 rw[addr_at M M.small ok.sm j hj] at this
 exact this
theorem did_any {w:World}{pd sn:Nat}{dt:Nat→Nat}{M:Hp}{C:DC} (h:DAt w pd dt M sn C) (wf:HpWf M) (hn:M.objs.length≤1000000) (h1:1≤M.objs.length) {x:Nat} (hx:x<18446744073709551616):
  Calls Tryz.prog 158 #[.pointer (some ⟨pd,0,none⟩),.int .u64 (x:Nat)] w fun e w'=>e=.returned (.int .i64 (numOf M x:Nat))∧Still w w':=by
 have ok:=wf.ok
 obtain ⟨gO,cO,ev,_,hc⟩:=h.ob.at (by omega)
 obtain ⟨aS,cS,eS,hS⟩:=line_list h.sm
 obtain ⟨aL,cL,eL,hL⟩:=line_list h.sl
 have hu:=ok.u2;have hh:=ok.h2;have hsl:=ok.sl
 have hsml:M.small.length≤10000000:=by
  have h1:=ok.us
  have h2:=place_all M M.small
  have h6:M.small.length≤(M.small.map fun i=>osz (ob M i)).sum:=by
   have:∀ l:List Nat,l.length≤(l.map fun i=>osz (ob M i)).sum:=fun l=>by
    induction l with
    | nil=>simp
    | cons a l ih=>simp only[List.map_cons,List.sum_cons,List.length_cons];have:=(show 1≤osz (ob M a) by unfold osz;omega);omega
   exact this _
  omega
 have hmem:∀ j,j<M.small.length→M.small.getD j 0∈M.small:=fun j hj=>by rw[List.getD_eq_getElem?_getD,List.getElem?_eq_getElem hj];exact List.getElem_mem hj
 have c2:=h.num 2 (by omega)
 have c6:=h.c6
 have c7:=h.c7
 have c8:=h.c8
 rw[ev] at c6
 rw[eS] at c7
 rw[eL] at c8
 have htop:topW=9223372036854775808:=rfl
 refine did_walk (used:=M.used) (pl:=fun j=>place (shapes M M.small) j) (id:=fun j=>M.small.getD j 0) (sl:=fun j=>M.slots.getD j 0) (numOf M x) c2 c6 c7 c8 (fun j hj=>?_) (fun j hj=>?_) (fun j hj=>⟨wf.ln _ (.inl (hmem j hj)),?_⟩) (fun i j hi hj=>?_) (fun j hj=>?_) hsml (by omega) (by omega) hx ?_ ?_ ?_ ?_ ?_
 ·obtain ⟨g,e,c,_⟩:=hS j hj
  exact ⟨g,e,c⟩
 ·obtain ⟨g,e,c,_⟩:=hL j hj
  exact ⟨g,e,c⟩
 ·have hl:=wf.ln _ (.inl (hmem j hj))
  have:=(hc (M.small.getD j 0*6+5) (by omega)).1
  rw[obCell_at C M.objs _ 5 (by decide)] at this
  rw[this]
  show some (Value.int .i64 ((M.objs.getD (M.small.getD j 0) ob0).at':Nat))=_
  rw[small_at ok hj]
 ·have:=place_lt (shapes M M.small) hi
  have:1≤wd ((shapes M M.small).getD i (0,0,0)):=by unfold wd;omega
  try dsimp only
  omega
 ·have:=place_used ok hj
  try dsimp only
  omega
 ·intro h1 h2
  unfold numOf
  rw[if_neg (by rw[htop];omega),htop]
 ·intro h1 h2
  unfold numOf
  rw[if_neg (by rw[htop];omega),htop,List.getD_eq_getElem?_getD,List.getElem?_eq_none h2]
  rfl
 ·intro h1 h2
  rcases h2 with rfl|h2
  ·exact num_zero M
  ·unfold numOf
   rw[if_pos (by rw[htop];omega),findJ_no (fun j hj=>by rw[shapes_length] at hj;have:=place_used ok hj;omega)]
 ·intro h1 j hj e
  try dsimp only at e
  unfold numOf
  rw[if_pos (by rw[htop];omega),findJ_yes (j:=j) (by rw[shapes_length];exact hj) (by omega)]
 ·intro h1 hno
  unfold numOf
  rw[if_pos (by rw[htop];omega),findJ_no (fun j hj=>by rw[shapes_length] at hj;have:=hno j hj;(try dsimp only at this);omega)]
theorem at_le {M:Hp} (wf:HpWf M) {i:Nat} (hi:Is M i):(ob M i).at'≤10000000:=by
 have ok:=wf.ok
 have hu:=ok.u2;have hh:=ok.h2;have hsl:=ok.sl
 rcases hi with h|⟨h0,h⟩
 ·obtain ⟨j,hj,e⟩:=List.getElem_of_mem h
  have e':M.small.getD j 0=i:=by rw[List.getD_eq_getElem?_getD,List.getElem?_eq_getElem hj];exact e
  have h1:=small_at ok hj
  have h2:=place_used ok hj
  rw[e'] at h1
  unfold ob
  omega
 ·obtain ⟨s,hs,e⟩:=mem_slot h
  have:=(ok.b1 s (by rw[e];exact h0)).2
  rw[e] at this
  omega
theorem dref_zero (w:World) (pd:Nat) (M:Hp):Calls Tryz.prog 116 #[.pointer (some ⟨pd,0,none⟩),.int .i64 ((0:Nat):Int)] w fun e w'=>e=.returned (.int .u64 (refW M 0:Nat))∧Still w w':=by
 have HS:=hide (Still.refl w)
 have HR:Hid (refW M 0=0):=hide rfl
 go_enter Tryz.func116,Tryz.ntmps116
 go_wp2_with fail
 all_goals go_ret
 all_goals exact ⟨by simp [unhide HR],unhide HS⟩
theorem drefM {w:World}{pd sn:Nat}{dt:Nat→Nat}{M:Hp}{C:DC} (h:DAt w pd dt M sn C) (wf:HpWf M) (hn:M.objs.length≤1000000) (h1:1≤M.objs.length) {i:Nat} (hi:i=0∨Is M i):
  Calls Tryz.prog 116 #[.pointer (some ⟨pd,0,none⟩),.int .i64 (i:Nat)] w fun e w'=>e=.returned (.int .u64 (refW M i:Nat))∧Still w w':=by
 rcases hi with rfl|hi
 ·by_cases ha:(M.objs.getD 0 ob0).at'≤10000000
  ·exact dref_any h hn (by omega) ha
  ·exact dref_zero w pd M
 ·exact dref_any h hn (wf.ln i hi) (at_le wf hi)
end Go.Proofs.YtidfllgaeiopjabGreat
