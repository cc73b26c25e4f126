import Derived.Test.YtnfbaapbpgbgpaaGreatArD
import Derived.WalkSpells
import Derived.Deep.RegionHeld3
namespace Go.Proofs.YtnfbaapbpgbgpaaGreat
open Go.ChangeShapes Go.WideShapes Go.ChangeAt Go.RowKit
set_option linter.unusedVariables false
set_option maxRecDepth 100000
set_option maxHeartbeats 4000000
def RefSt.fill (R:RefSt) (j:Nat) (l:List Nat):Nat→RefSt
 | 0=>R
 | m+1=>(R.fill j l m).put j ((R.L.getD j (0,0,0)).2.1+m) (l.getD m 0)
theorem fill_same (R:RefSt) (j:Nat) (l:List Nat):∀ m,(R.fill j l m).L=R.L∧(R.fill j l m).F=R.F∧(R.fill j l m).v=R.v∧(R.fill j l m).Gn=R.Gn∧(R.fill j l m).size=R.size
 | 0=>⟨rfl,rfl,rfl,rfl,rfl⟩
 | m+1=>fill_same R j l m
set_option maxHeartbeats 8000000
structure GrowingU (pb o:Nat) (S:BookSt) (t0:Nat→Nat) (w0:World) (tag:Nat→Nat) (w:World) (B:HalfSt) (more:Nat):Prop where
 mid:Mid pb o t0 w0 tag w ((S.flds.set 6 B.v).set 7 B.o) S.turn S.b B
 lenL:B.L.length=S.u.M.length+more
 lenM:B.M.length=S.u.M.length+more
 n:B.n=1000000000000
 preL:∀ j,j<S.u.M.length→B.L.getD j undef=S.u.L.getD j undef
 preM:∀ j,j<S.u.M.length→B.M.getD j 0=S.u.M.getD j 0
set_option maxHeartbeats 2000000
structure Three (w:World) (P:Nat→Nat × Nat × Nat) (S:Nat→List Nat × List Bool × Nat):Prop where
 ar:∀ i,i<3→Ar w (P i).1 (P i).2.1 (P i).2.2 (S i).1 (S i).2.1 (S i).2.2
 sound:∀ i,i<3→Sound (S i).1 (S i).2.1 (S i).2.2
def t3 (n:Int):Nat:=(n%3).toNat
structure Dat where
 p:Nat
 bw:Nat
 bh:Nat
 ws:List Nat
 hs:List Bool
 used:Nat
 pr:Nat
 R:RefSt
theorem Ar.conf {w w':World}{p bw bh:Nat}{ws:List Nat}{hs:List Bool}{used:Nat} (h:Ar w p bw bh ws hs used) (hs1:w.heap.size≤w'.heap.size) (h1:w'.heap[p]?=w.heap[p]?) (h2:w'.heap[bw]?=w.heap[bw]?) (h3:w'.heap[bh]?=w.heap[bh]?):Ar w' p bw bh ws hs used where
 c0:=(World.cell?_of_block (a:=⟨p,0,none⟩) h1).trans h.c0
 c1:=(World.cell?_of_block (a:=⟨p,1,none⟩) h1).trans h.c1
 c2:=(World.cell?_of_block (a:=⟨p,2,none⟩) h1).trans h.c2
 f2:=(World.frozen?_of_block (a:=⟨p,2,none⟩) h1).trans h.f2
 ww j hj:=(World.cell?_of_block (a:=⟨bw,j,none⟩) h2).trans (h.ww j hj)
 wf j hj:=(World.frozen?_of_block (a:=⟨bw,j,none⟩) h2).trans (h.wf j hj)
 hh j hj:=(World.cell?_of_block (a:=⟨bh,j,none⟩) h3).trans (h.hh j hj)
 hf j hj:=(World.frozen?_of_block (a:=⟨bh,j,none⟩) h3).trans (h.hf j hj)
 hl:=h.hl
 ne1:=h.ne1
 ne2:=h.ne2
 ne3:=h.ne3
 lp:=Nat.lt_of_lt_of_le h.lp hs1
 lw:=Nat.lt_of_lt_of_le h.lw hs1
 lh:=Nat.lt_of_lt_of_le h.lh hs1
 u1:=h.u1
 u2:=h.u2
 sz:=h.sz
 small:=h.small
theorem p_object {p bw bh:Nat}{ws:List Nat}{hs:List Bool}{used:Nat}{R:RefSt}{w:World} (h:Ar w p bw bh ws hs used) (r:Rel ws hs used R) (o:RefOk R) (at':Int):
  Calls Tryz.prog 157 #[.pointer (some ⟨p,0,none⟩),.int .i64 at'] w fun e w'=>e=.returned (.tuple #[.int .i64 ((robj R at').1:Nat),.int .i64 ((robj R at').2.1:Nat),.int .i64 ((robj R at').2.2.1:Nat),.int .i64 ((robj R at').2.2.2:Nat)])∧Below w.heap.size w w':=by
 have:=object_any at' w h (r.sound o).heads
 rw[r.obj o] at this
 exact this
theorem rget_zero1 {R:RefSt}{at' i:Int} (h:rsetErr R at' i≠0):(rget R at' i).1=0:=by
 unfold rsetErr at h
 rcases at_cases R.L at' with ⟨j,hj,rfl⟩|hno
 ·cases hg:R.Gn.getD j none with
  | none=>
   rw[rget_none hj hg] at h ⊢
   split at h
   ·exact absurd rfl h
   ·rename_i hi;rw[if_neg hi]
  | some t=>rw[rget_some hj hg]
 ·rw[rget_no hno]
theorem p_get {p bw bh:Nat}{ws:List Nat}{hs:List Bool}{used:Nat}{R:RefSt}{w:World} (h:Ar w p bw bh ws hs used) (r:Rel ws hs used R) (o:RefOk R) (at' i:Int):
  Calls Tryz.prog 194 #[.pointer (some ⟨p,0,none⟩),.int .i64 at',.int .i64 i] w fun e w'=>e=.returned (.tuple #[.int .u64 ((rget R at' i).1:Nat),.int .i64 ((rget R at' i).2:Nat)])∧Below w.heap.size w w':=by
 by_cases he:rsetErr R at' i=0
 ·obtain ⟨j,m,hj,rfl,rfl,hm,hg,e1,e2⟩:=rget_zero he
  have hob:=(r.obj o (place R.L j:Nat)).trans e2
  refine (get_yes (place R.L j) m w h (r.sound o).heads (by rw[hob]) (by rw[hob];exact hm)).mono ?_
  rintro e w' ⟨rfl,hb⟩
  refine ⟨?_,hb⟩
  rw[e1,r.flds j m hj hm]
  rfl
 ·refine (get_no at' i w h (r.sound o).heads _ (r.err o at' i).symm he).mono ?_
  rintro e w' ⟨rfl,hb⟩
  refine ⟨?_,hb⟩
  rw[rget_zero1 he]
  rfl
theorem p_set {p bw bh:Nat}{ws:List Nat}{hs:List Bool}{used:Nat}{R:RefSt}{w:World} (h:Ar w p bw bh ws hs used) (r:Rel ws hs used R) (o:RefOk R) (at' i:Int) (v:Nat) (hv:v<18446744073709551616):
  Calls Tryz.prog 195 #[.pointer (some ⟨p,0,none⟩),.int .i64 at',.int .i64 i,.int .u64 (v:Nat)] w fun e w'=>e=.returned (.int .i64 (rsetErr R at' i:Nat))∧But [p,bw,bh] w w'∧∃ ws',Ar w' p bw bh ws' hs used∧(rsetErr R at' i≠0→ws'=ws)∧(rsetErr R at' i=0→∀ j m:Nat,j<R.L.length→at'=(place R.L j:Nat)→i=m→m<fldsOf R.L j→Rel ws' hs used (R.put j m v)):=by
 by_cases he:rsetErr R at' i=0
 ·obtain ⟨j,m,hj,rfl,rfl,hm,hg,e1,e2⟩:=rget_zero he
  have hob:=(r.obj o (place R.L j:Nat)).trans e2
  refine (set_yes (place R.L j) m v w hv h (r.sound o).heads (by rw[hob]) (by rw[hob];exact hm)).mono ?_
  rintro e w' ⟨rfl,hA,hB⟩
  refine ⟨by rw[he];rfl,hB.over (by simp),_,hA,fun hne=>absurd he hne,fun _ j2 m2 hj2 e3 e4 hm2=>?_⟩
  have:=place_inj R.L (Int.ofNat.inj e3)
  subst this
  have:=Int.ofNat.inj e4
  subst this
  exact r.put o j m v hj hm
 ·refine (set_no at' i v w h (r.sound o).heads _ (r.err o at' i).symm he).mono ?_
  rintro e w' ⟨rfl,hb⟩
  exact ⟨rfl,But.of_below hb,ws,h.below hb,fun _=>rfl,fun h0=>absurd h0 he⟩
theorem p_clear {p bw bh:Nat}{ws:List Nat}{hs:List Bool}{used:Nat}{w:World} (h:Ar w p bw bh ws hs used):
  Calls Tryz.prog 112 #[.pointer (some ⟨p,0,none⟩)] w fun e w'=>e=.returned (.tuple #[])∧Ar w' p bw bh ws hs 1∧But [p,bw,bh] w w':=by
 have hA:=h.grown 1 (by omega) (by have:=h.u1;have:=h.u2;omega)
 have hB:But [p,bw,bh] w (w.setCell ⟨p,2,none⟩ (.int .i64 ((1:Nat):Int))):=(But.refl _ _).set ⟨p,2,none⟩ (by simp) _
 have c2:=h.c2
 have f2:=h.f2
 have HA:=hide hA
 have HB:=hide hB
 clear h hA hB
 go_enter Tryz.func112,Tryz.ntmps112
 go_wp2
 go_end0
 exact ⟨rfl,unhide HA,unhide HB⟩
theorem laid_old (ws:List Nat) (u n x i:Nat) (h:i<u) (hn:u≤ws.length):(laid ws u n x).getD i 0=ws.getD i 0:=by
 rw[laid_at _ _ _ _ _ (by omega),if_neg (by omega),if_neg (by omega)]
theorem alloc_rel {ws:List Nat}{hs:List Bool}{used:Nat}{R:RefSt} (r:Rel ws hs used R) (o:RefOk R) (k rf rw':Nat) (F v':Value) (hfit:used+(1+rf+rw')≤ws.length):Rel (laid ws used (1+rf+rw') (k+256*rf+4294967296*rw')) (mark hs used (1+rf+rw')) (used+(1+rf+rw')) (R.lay k rf rw' (List.replicate (rf+rw') 0) F v'):=by
 refine r.lay o k rf rw' _ F v' (by simp) hfit (laid_length _ _ _ _) (fun i hi=>laid_old _ _ _ _ _ hi (by omega)) ?_ (fun i hi=>?_)
 ·rw[laid_at _ _ _ _ _ (by omega),if_pos rfl]
 ·rw[laid_at _ _ _ _ _ (by omega),if_neg (by omega),if_pos (by omega),getD_zeros]
theorem take_rel {wd:List Nat}{hd:List Bool}{ud:Nat}{Rd:RefSt} (r:Rel wd hd ud Rd) (o:RefOk Rd) {ws:List Nat}{hs:List Bool}{us:Nat}{R:RefSt} (rs:Rel ws hs us R) (os:RefOk R) (j:Nat) (hj:j<R.L.length) (hg:R.Gn.getD j none=none) (F v':Value) (hfit:ud+(1+(R.L.getD j (0,0,0)).2.1+(R.L.getD j (0,0,0)).2.2)≤wd.length):
  Rel (patch wd ud (runL ws (place R.L j) (1+(R.L.getD j (0,0,0)).2.1+(R.L.getD j (0,0,0)).2.2))) (mark hd ud (1+(R.L.getD j (0,0,0)).2.1+(R.L.getD j (0,0,0)).2.2)) (ud+(1+(R.L.getD j (0,0,0)).2.1+(R.L.getD j (0,0,0)).2.2)) (Rd.lay (R.L.getD j (0,0,0)).1 (R.L.getD j (0,0,0)).2.1 (R.L.getD j (0,0,0)).2.2 (R.X.getD j []) F v'):=by
 have hxs:=os.xs j hj
 have hfl:fldsOf R.L j=(R.L.getD j (0,0,0)).2.1+(R.L.getD j (0,0,0)).2.2:=rfl
 have hw:=rs.heads j hj
 rw[rword_none hg] at hw
 refine r.lay o _ _ _ _ F v' (by rw[hxs,hfl]) hfit (patch_length _ _ _) (fun i hi=>?_) ?_ (fun i hi=>?_)
 ·rw[patch_at _ _ _ _ (by omega),if_neg (by omega)]
 ·rw[patch_at _ _ _ _ (by omega),runL_length,if_pos (by omega),Nat.sub_self,runL_at _ _ _ _ (by omega),Nat.add_zero,hw]
 ·rw[patch_at _ _ _ _ (by omega),runL_length,if_pos (by omega),show ud+1+i-ud=1+i by omega,runL_at _ _ _ _ (by omega),← Nat.add_assoc,rs.flds j i hj (by omega)]
def rspan (R:RefSt) (at' from' n:Int):Nat:=
 if (robj R at').2.2.2≠0 then (robj R at').2.2.2
 else if 0≤from'∧0≤n∧from'+n≤8*((robj R at').2.2.1:Nat) then 0 else 25
theorem Rel.span {ws:List Nat}{hs:List Bool}{used:Nat}{R:RefSt} (h:Rel ws hs used R) (o:RefOk R) (at' from' n:Int):spanErr ws hs used at' from' n=rspan R at' from' n:=by
 unfold spanErr rspan
 rw[h.obj o]
theorem rspan_zero {R:RefSt}{at' from':Int}{n:Nat} (h:rspan R at' from' n=0):∃ j f:Nat,j<R.L.length∧at'=(place R.L j:Nat)∧from'=f∧R.Gn.getD j none=none∧f+n≤8*(R.L.getD j (0,0,0)).2.2∧robj R at'=((R.L.getD j (0,0,0)).1,(R.L.getD j (0,0,0)).2.1,(R.L.getD j (0,0,0)).2.2,0):=by
 unfold rspan at h
 by_cases h0:(robj R at').2.2.2=0
 ·rw[if_neg (by simpa using h0)] at h
  obtain ⟨j,hj,rfl,hg,e⟩:=robj_zero h0
  rw[e] at h
  dsimp only at h
  by_cases h1:0≤from'∧0≤(n:Int)∧from'+n≤8*((R.L.getD j (0,0,0)).2.2:Nat)
  ·obtain ⟨f,rfl⟩:=Int.eq_ofNat_of_zero_le h1.1
   exact ⟨j,f,hj,rfl,rfl,hg,by omega,e⟩
  ·rw[if_neg h1] at h;cases h
 ·rw[if_pos h0] at h
  exact absurd h h0
theorem p_setbytes {p bw bh:Nat}{ws:List Nat}{hs:List Bool}{used:Nat}{R:RefSt}{w:World} (h:Ar w p bw bh ws hs used) (r:Rel ws hs used R) (o:RefOk R) (at' from':Int) (l:List Nat) (a:Option Addr) (cap:Nat) (hf1:from'≤9223372036854775807) (hf2:-9223372036854775808≤from') (hB:Bytes w a l) (hsl:Small l):
  Calls Tryz.prog 196 #[.pointer (some ⟨p,0,none⟩),.int .i64 at',.int .i64 from',.slice a l.length cap] w fun e w'=>e=.returned (.int .i64 (rspan R at' from' l.length:Nat))∧But [p,bw,bh] w w'∧∃ ws',Ar w' p bw bh ws' hs used∧(rspan R at' from' l.length≠0→ws'=ws)∧(rspan R at' from' l.length=0→∀ j f:Nat,j<R.L.length→at'=(place R.L j:Nat)→from'=f→Written ws ws' (place R.L j+1+(R.L.getD j (0,0,0)).2.1) (R.L.getD j (0,0,0)).2.2 f l):=by
 by_cases he:rspan R at' from' l.length=0
 ·obtain ⟨j,f,hj,rfl,rfl,hg,hn,e2⟩:=rspan_zero he
  have hob:=(r.obj o (place R.L j:Nat)).trans e2
  refine (setbytes_yes (place R.L j) f l a cap w h (r.sound o).heads (by rw[hob]) (by rw[hob];exact hn) hB hsl).mono ?_
  rintro e w' ⟨ws',rfl,hA,hb,hW⟩
  rw[hob] at hW
  refine ⟨by rw[he];rfl,hb.over (by simp),ws',hA,fun hne=>absurd he hne,fun _ j2 f2 hj2 e3 e4=>?_⟩
  have:=place_inj R.L (Int.ofNat.inj e3)
  subst this
  have:=Int.ofNat.inj e4
  subst this
  exact hW
 ·refine (setbytes_no at' from' a l.length cap w hf1 hf2 h (r.sound o).heads _ (r.span o at' from' l.length).symm he).mono ?_
  rintro e w' ⟨rfl,hb⟩
  exact ⟨rfl,But.of_below hb,ws,h.below hb,fun _=>rfl,fun h0=>absurd h0 he⟩
theorem fill_x {R:RefSt} (o:RefOk R) (j:Nat) (hj:j<R.L.length) (l:List Nat):∀ m,m≤(R.L.getD j (0,0,0)).2.2→(R.fill j l m).X.length=R.X.length∧((R.fill j l m).X.getD j []).length=fldsOf R.L j∧(∀ i,i≠j→(R.fill j l m).X.getD i []=R.X.getD i [])∧∀ k,((R.fill j l m).X.getD j []).getD k 0=if (R.L.getD j (0,0,0)).2.1≤k∧k<(R.L.getD j (0,0,0)).2.1+m then l.getD (k-(R.L.getD j (0,0,0)).2.1) 0 else (R.X.getD j []).getD k 0
 | 0,_=>⟨rfl,o.xs j hj,fun _ _=>rfl,fun k=>by rw[if_neg (by omega)];rfl⟩
 | m+1,hm=>by
  obtain ⟨i1,i2,i3,i4⟩:=fill_x o j hj l m (by omega)
  have hlt:j<(R.fill j l m).X.length:=by rw[i1,o.xl];exact hj
  have hat:=fun i=>put_at (R.fill j l m) j ((R.L.getD j (0,0,0)).2.1+m) (l.getD m 0) i hlt
  have e:R.fill j l (m+1)=(R.fill j l m).put j ((R.L.getD j (0,0,0)).2.1+m) (l.getD m 0):=rfl
  have hfl:fldsOf R.L j=(R.L.getD j (0,0,0)).2.1+(R.L.getD j (0,0,0)).2.2:=rfl
  rw[e]
  refine ⟨by show ((R.fill j l m).X.set j _).length=_;rw[List.length_set];exact i1,by rw[hat j,if_pos rfl,List.length_set];exact i2,fun i hi=>by rw[hat i,if_neg hi];exact i3 i hi,fun k=>?_⟩
  rw[hat j,if_pos rfl,getD_set _ _ _ _ (by rw[i2];omega),i4 k]
  by_cases e1:k=(R.L.getD j (0,0,0)).2.1+m
  ·rw[if_pos e1,if_pos (by omega),e1]
   congr 1
   omega
  ·rw[if_neg e1]
   by_cases e2:(R.L.getD j (0,0,0)).2.1≤k∧k<(R.L.getD j (0,0,0)).2.1+m
   ·rw[if_pos e2,if_pos (by omega)]
   ·rw[if_neg e2,if_neg (by omega)]
theorem by_bytes (x y:Nat) (hx:x<18446744073709551616) (hy:y<18446744073709551616) (h:∀ r,r<8→x / 2 ^ (8*r)%256=y / 2 ^ (8*r)%256):x=y:=by
 have h0:=h 0 (by decide)
 have h1:=h 1 (by decide)
 have h2:=h 2 (by decide)
 have h3:=h 3 (by decide)
 have h4:=h 4 (by decide)
 have h5:=h 5 (by decide)
 have h6:=h 6 (by decide)
 have h7:=h 7 (by decide)
 simp only[Nat.mul_zero,Nat.pow_zero,Nat.div_one,Nat.mul_one,Nat.reduceMul,Nat.reducePow] at h0 h1 h2 h3 h4 h5 h6 h7
 omega
theorem wordAt_byte (L:List Nat) (h:Larder.SmallL L) (q r:Nat) (hr:r<8):Larder.wordAt L q / 2 ^ (8*r)%256=L.getD (8*q+r) 0:=by
 unfold Larder.wordAt
 rw[← Larder.pow256,Larder.leN_digit _ (fun c hc=>Larder.small_mem h c (List.mem_of_mem_drop (List.mem_of_mem_take hc))),List.getD_eq_getElem?_getD,List.getElem?_take,if_pos hr,List.getElem?_drop,← List.getD_eq_getElem?_getD]
theorem rawByte_at (R:RefSt) (j q:Nat) (hj:q<8*(R.L.getD j (0,0,0)).2.2):(rbyN R j).getD q 0=(rawsOf R j).getD (q / 8) 0 / 2 ^ (8*(q%8))%256:=by
 unfold rbyN
 rw[Larder.unpackL_get _ _ _ hj]
theorem Rel.fill {ws ws':List Nat}{hs:List Bool}{used:Nat}{R:RefSt} (h:Rel ws hs used R) (o:RefOk R) (j f:Nat) (l:List Nat) (hj:j<R.L.length) (hs1:Small l) (hn:f+l.length≤8*(R.L.getD j (0,0,0)).2.2) (hsm:∀ i,i<ws'.length→ws'.getD i 0<18446744073709551616)
  (hW:Written ws ws' (place R.L j+1+(R.L.getD j (0,0,0)).2.1) (R.L.getD j (0,0,0)).2.2 f l):Rel ws' hs used (R.fill j (Larder.packL (patch (rbyN R j) f l)) (R.L.getD j (0,0,0)).2.2):=by
 obtain ⟨s1,s2,s3,s4,s5⟩:=fill_same R j (Larder.packL (patch (rbyN R j) f l)) (R.L.getD j (0,0,0)).2.2
 obtain ⟨i1,i2,i3,i4⟩:=fill_x o j hj (Larder.packL (patch (rbyN R j) f l)) _ (Nat.le_refl _)
 have hu:=used_of R j hj
 have h2:=o.u2
 have h3:=h.sz
 have hus:=h.us
 have hfl:fldsOf R.L j=(R.L.getD j (0,0,0)).2.1+(R.L.getD j (0,0,0)).2.2:=rfl
 have hRL:(rbyN R j).length=8*(R.L.getD j (0,0,0)).2.2:=Larder.unpackL_length _ _
 have hps:Larder.SmallL (patch (rbyN R j) f l):=patch_below 256 _ _ _ (Larder.unpackL_small _ _) hs1
 refine ⟨by unfold RefSt.used;rw[s1];exact hus,by rw[hW.len,s5];exact h.sz,by rw[hW.len];exact h.hl,?_,fun i hi=>?_,fun i k hi hk=>?_,?_⟩
 ·rw[s1];exact h.marks
 ·rw[s1] at hi ⊢
  have e1:rword (R.fill j (Larder.packL (patch (rbyN R j) f l)) (R.L.getD j (0,0,0)).2.2) i=rword R i:=by unfold rword;rw[s1,s4]
  rw[e1,hW.out _ ?_]
  ·exact h.heads i hi
  ·rcases Nat.lt_trichotomy i j with q|q|q
   ·have:=place_lt R.L q;unfold wd at this;omega
   ·subst q;omega
   ·have:=place_lt R.L q;unfold wd at this;omega
 ·rw[s1] at hi hk ⊢
  by_cases e:i=j
  ·subst e
   rw[i4 k]
   by_cases e2:(R.L.getD i (0,0,0)).2.1≤k∧k<(R.L.getD i (0,0,0)).2.1+(R.L.getD i (0,0,0)).2.2
   ·rw[if_pos e2]
    obtain ⟨q,hq⟩:∃ q,q=k-(R.L.getD i (0,0,0)).2.1:=⟨_,rfl⟩
    have hq2:q<(R.L.getD i (0,0,0)).2.2:=by omega
    rw[← hq,show place R.L i+1+k=place R.L i+1+(R.L.getD i (0,0,0)).2.1+q by omega]
    have hwn:q<Larder.wn (patch (rbyN R i) f l).length:=by rw[patch_length,hRL];unfold Larder.wn;omega
    rw[Larder.packL_get _ _ hwn]
    refine by_bytes _ _ (hsm _ (by rw[hW.len];omega)) (Larder.wordAt_lt (Larder.small_mem hps) q) (fun r hr=>?_)
    rw[wordAt_byte _ hps q r hr,patch_at _ _ _ _ (by rw[hRL];omega)]
    have hb:=hW.bytes (8*q+r) (by omega)
    unfold rawByte at hb
    rw[show (8*q+r) / 8=q by omega,show (8*q+r)%8=r by omega] at hb
    rw[hb]
    by_cases e3:f≤8*q+r∧8*q+r<f+l.length
    ·rw[if_pos e3,if_pos e3]
    ·rw[if_neg e3,if_neg e3,rawByte_at R i _ (by omega),show (8*q+r) / 8=q by omega,show (8*q+r)%8=r by omega]
     unfold rawsOf
     rw[getD_dropped,← h.flds i _ hi (by omega),Nat.add_assoc]
   ·rw[if_neg e2,hW.out _ (by omega)]
    exact h.flds i k hi hk
  ·rw[i3 i e,hW.out _ ?_]
   ·exact h.flds i k hi hk
   ·have hfi:fldsOf R.L i=(R.L.getD i (0,0,0)).2.1+(R.L.getD i (0,0,0)).2.2:=rfl
    rcases Nat.lt_trichotomy i j with q|q|q
    ·have:=place_lt R.L q;unfold wd at this;omega
    ·exact absurd q e
    ·have:=place_lt R.L q;unfold wd at this;omega
 ·rw[hW.out _ (by omega)]
  exact h.zero
set_option maxHeartbeats 1000000 in
theorem unpack_exact (a:Option Addr) (cap n:Nat) (w:World) (ws:List Nat) (hn:n≤281474976710656) (hle:Larder.wn n≤ws.length) (hW:Words w a ws) (hs:WSmall ws):
  Calls Tryz.prog 198 #[.slice a ws.length cap,.int .i64 n] w fun e w'=>e=.returned (.tuple #[.slice (some ⟨w.heap.size,0,none⟩) n n,.int .i64 0])∧OwnB w' w.heap.size (.slice (some ⟨w.heap.size,0,none⟩) n n) (Larder.unpackL ws n)∧Below w.heap.size w w':=by
 obtain ⟨i0,hi,hz0,hz1,hz2⟩:=info_parts Tryz.info5
 have hwn:wordsI (n:Int)=(Larder.wn n:Int):=by unfold wordsI Larder.wn;split <;> omega
 have hcall:Calls Tryz.prog 38 #[.int .i64 n] w fun e w'=>e=.returned (.int .i64 (Larder.wn n:Int))∧w'=w:=by rw[← hwn];exact words_any n w (by omega) (by omega)
 have HC0:=hide hcall
 have HL:=hide (Larder.unpackK_all ws n)
 clear hwn hcall
 obtain ⟨N,hN⟩:∃ N,N=Larder.wn n:=⟨_,rfl⟩
 rw[← hN] at HC0 hle
 have hN8:n≤8*N:=by rw[hN];unfold Larder.wn;omega
 have hNn:N≤n:=by rw[hN];unfold Larder.wn;omega
 clear hN
 go_enter Tryz.func198,Tryz.ntmps198
 go_wp2_with fail
 refine (unhide HC0).mono ?_
 rintro e w' ⟨rfl,hw'⟩
 obtain rfl:=hw'.symm
 go_wp2_with (at_make;refine wpList_make_full _ rfl _ _ 22 rfl w.heap.size 5 i0 (.int .u8 0) 1 Tryz.underlying22 hi hz0 hz1 .i64 .i64 _ _ n rfl rfl rfl rfl (by rw[hz2];omega) (by simp [maxLen];omega) (Nat.le_refl _) ?_)
 intro w1 hown hgrow
 have hb1:Below w.heap.size w w1:=(Below.refl _ _).grown hgrow (Nat.le_refl _) (fun k h=>by cases h)
 have hown1:OwnB w1 w.heap.size (.slice (some ⟨w.heap.size,0,none⟩) n n) (Larder.unpackK ws n 0):=by
  rw[made_cells] at hown
  unfold OwnB
  rw[Larder.unpackK_length,Larder.unpackK_zero,cellsOf,List.map_replicate]
  exact hown
 clear hown hgrow
 rcases hW with rfl|⟨b,off,rfl,hblt,hc⟩
 ·have hn0:n=0:=by simp at hle;omega
  subst hn0
  go_wp2_with fail
  go_loopw [20] (fun i wr=>i=.int .i64 0∧wr=w1) (fun _ _=>0)
  case atStart=>exact ⟨rfl,rfl⟩
  case round=>
   obtain ⟨rfl,rfl⟩:=hrel
   go_wp2
   go_ret2
   exact ⟨rfl,by rw[← unhide HL];exact hown1,hb1⟩
 ·go_wp2_with fail
  go_loopw [20] (fun i wr=>∃ k:Nat,k≤n∧i=.int .i64 k∧OwnB wr w.heap.size (.slice (some ⟨w.heap.size,0,none⟩) n n) (Larder.unpackK ws n k)∧Below w.heap.size w wr) (fun i _=>n-(intOf i).toNat)
  case atStart=>exact ⟨0,by omega,rfl,hown1,hb1⟩
  case round=>
   obtain ⟨k,hk,rfl,hwn,hbl⟩:=hrel
   by_cases hlt:k<n
   ·obtain ⟨q,hq⟩:∃ q,q=k / 8:=⟨_,rfl⟩
    obtain ⟨c,hcc⟩:∃ c,c=ws.getD q 0:=⟨_,rfl⟩
    obtain ⟨sh,hsh⟩:∃ sh,sh=8*(k%8):=⟨_,rfl⟩
    have hlen:=Larder.unpackK_length ws n k
    have hqn:q<ws.length:=by omega
    have hcb:wr.cell? ⟨b,off+q,none⟩=some (.int .u64 (c:Int)):=by
     rw[hbl.cell (p:=⟨b,off+q,none⟩) hblt,hc q hqn,hcc]
    have hc64:c<18446744073709551616:=by rw[hcc];exact hs q hqn
    have hwn2:wr.ownsRow w.heap.size 5 1 (.slice (some ⟨w.heap.size,0,none⟩) n n) n (cellsOf (Larder.unpackK ws n k)):=by
     have:=hwn;unfold OwnB at this;rw[hlen] at this;exact this
    have hcl:∃ u,wr.cell? ⟨w.heap.size,k,none⟩=some u:=⟨_,by rw[hwn2.cellAt _ (by omega),cellsOf_at _ _ (by omega)]⟩
    obtain ⟨u0,hu0⟩:=hcl
    have hfz:wr.frozen? ⟨w.heap.size,k,none⟩=false:=hwn2.frozenAt _
    have eq:(k:Int) / 8=(q:Int):=by omega
    have hwq:=wrap_nat q (by omega)
    have hsh64:sh<64:=by omega
    have hcall:∀ wx:World,Calls Tryz.prog 201 #[.int .i64 k] wx fun e w'=>e=.returned (.int .i64 (sh:Int))∧w'=wx:=by
     intro wx;rw[hsh];exact byteAt_any k wx (by omega)
    have HW:Hid (OwnB (wr.setCell ⟨w.heap.size,k,none⟩ (.int .u8 ((c:Int) / 2 ^ sh%256))) w.heap.size (.slice (some ⟨w.heap.size,0,none⟩) n n) (Larder.unpackK ws n (k+1))):=by
     rw[Larder.unpackK_succ,← hq,← hcc,← hsh]
     have e:(c:Int) / 2 ^ sh%256=((c / 2 ^ sh%256:Nat):Int):=by simp
     rw[e];exact own_put hlen hwn
    have HC:=hide hcall
    clear hc hcc hq hs hcall hsh hlen hwn hwn2
    go_wp2_with fail
    go_region_with (go_at_call 201;refine (unhide HC _).mono ?_;rintro e w' ⟨rfl,hw'⟩;obtain rfl:=hw'.symm)
    all_goals go_wp2
    all_goals
     go_roundw
     case rel=>exact ⟨k+1,by omega,by go_num,unhide HW,(hbl.setCell (p:=⟨w.heap.size,k,none⟩) (Nat.le_refl _) _).drew⟩
     case measure=>simp [intOf];omega
   ·have hkl:k=n:=by omega
    subst hkl
    go_wp2
    go_ret2
    exact ⟨rfl,by rw[← unhide HL];exact hwn,hbl⟩
theorem bytes_span {p bw bh:Nat}{ws:List Nat}{hs:List Bool}{used:Nat} (k from' n:Nat) (w:World) (h:Ar w p bw bh ws hs used) (hh:Heads ws hs used) (he:(objRes ws hs used k).2.2.2=0) (hn:from'+n≤8*(objRes ws hs used k).2.2.1):
  Calls Tryz.prog 193 #[.pointer (some ⟨p,0,none⟩),.int .i64 k,.int .i64 from',.int .i64 n] w fun e w'=>∃ a cap,e=.returned (.tuple #[.slice a n cap,.int .i64 0])∧Span w' 5 (.slice a n cap) n (fun i=>.int .u8 (rawByte ws (k+1+(objRes ws hs used k).2.1) (from'+i):Nat))∧(∀ g,Value.ownBlock (.slice a n cap)=some g→w.heap.size≤g)∧Below w.heap.size w w':=by
 have HR:=hide (run_yes k from' n w h hh he hn)
 have hu:=h.u2
 have hz:=h.sz
 have hs24:=obj_raws ws hs used k
 generalize (objRes ws hs used k).2.1=r at *
 generalize (objRes ws hs used k).2.2.1=s at *
 obtain ⟨m,hm⟩:∃ m,m=Larder.wn (from'+n)-from' / 8:=⟨_,rfl⟩
 have hms:from' / 8+m≤s:=by rw[hm];unfold Larder.wn;omega
 have hmw:Larder.wn (from'%8+n)≤m:=by rw[hm];unfold Larder.wn;omega
 have HUP:Hid (∀ off w1,Below w.heap.size w w1→k+1+r+s≤used→(0<m→off=k+1+r+from' / 8)→Calls Tryz.prog 198 #[.slice (some ⟨bw,off,none⟩) m m,.int .i64 ((from'%8+n:Nat):Int)] w1 fun e w'=>e=.returned (.tuple #[.slice (some ⟨w1.heap.size,0,none⟩) (from'%8+n) (from'%8+n),.int .i64 0])∧OwnB w' w1.heap.size (.slice (some ⟨w1.heap.size,0,none⟩) (from'%8+n) (from'%8+n)) (Larder.unpackL (runL ws (k+1+r+from' / 8) m) (from'%8+n))∧Below w1.heap.size w1 w'):=hide (fun off w1 hb hfit ho=>by
  obtain ⟨h1,h2⟩:=(h.below hb).run off (k+1+r+from' / 8) m ho (by omega)
  have h3:=unpack_exact (some ⟨bw,off,none⟩) m (from'%8+n) w1 (runL ws (k+1+r+from' / 8) m) (by omega) (by rw[runL_length];exact hmw) h1 h2
  rw[runL_length] at h3
  exact h3)
 have HGET:Hid (∀ i,i<n→(Larder.unpackL (runL ws (k+1+r+from' / 8) m) (from'%8+n)).getD (from'%8+i) 0=rawByte ws (k+1+r) (from'+i)):=hide (fun i hi=>by rw[hm];exact unpack_run ws (k+1+r) from' n i hi)
 have hUL:=Larder.unpackL_length (runL ws (k+1+r+from' / 8) m) (from'%8+n)
 rw[← hm] at HR
 generalize Larder.unpackL (runL ws (k+1+r+from' / 8) m) (from'%8+n)=U at *
 obtain ⟨sk,hsk⟩:∃ sk,sk=from'%8:=⟨_,rfl⟩
 have hmod:(from':Int)%8=(sk:Int):=by omega
 have htmod:(from':Int).tmod 8=(sk:Int):=by rw[Int.tmod_eq_emod_of_nonneg (by omega)];exact hmod
 rw[← hsk] at HUP HGET hUL
 have hsk8:sk<8:=by omega
 rw[show ((sk+n:Nat):Int)=(sk:Int)+(n:Int) from by omega] at HUP
 have HUL:=hide hUL
 have hn31:n≤134217728:=by omega
 clear h hh he hm hsk hmw hms hUL
 go_enter Tryz.func193,Tryz.ntmps193
 go_wp2_with fail
 refine (unhide HR).mono ?_
 rintro e w1 ⟨⟨off,rfl,hoff⟩,hb1,hfit⟩
 have HC:=hide (unhide HUP off w1 hb1 hfit hoff)
 clear hoff
 go_wp2_with fail
 refine (unhide HC).mono ?_
 rintro e w2 ⟨rfl,hown,hb2⟩
 have HB2:=hide (hb1.trans (hb2.mono hb1.size))
 have HS1:=hide hb1.size
 have hUl:=unhide HUL
 rcases hown.2 with ⟨hnil,_⟩|⟨g,cap,cur,hval,hbb,hg,hn2,hm2,hs2,ht2⟩
 ·cases hnil
 ·simp only[Value.slice.injEq,Option.some.injEq,Addr.mk.injEq] at hval
  obtain ⟨⟨hgw,_⟩,hx1,hcp⟩:=hval
  subst hcp
  clear hx1
  have HCL:Hid (∀ i,i<n→cur[sk+i]?=some (.int .u8 (rawByte ws (k+1+r) (from'+i):Nat))):=hide (fun i hi=>by
   rw[← unhide HGET i hi]
   have e1:=cellsOf_at U (sk+i) (by omega)
   rw[← ht2,List.getElem?_take,if_pos (by omega)] at e1
   simpa using e1)
  have HG:=hide hg
  have HSZ:=hide hs2
  have HGW:Hid (w1.heap.size=g):=hide hgw
  have HM:Hid (n≤maxLen):=hide (by unfold maxLen;omega)
  clear hown hb1 hb2 hg hs2 ht2 hm2 hn2 HUP HR hgw hUl hbb
  rw[unhide HGW]
  by_cases hn0:n=0
  ·subst hn0
   have z1:(0:Int)≤(sk:Int):=by omega
   go_wp2
   all_goals
    go_ret2
    refine ⟨_,_,rfl,.inr (.inr ⟨g,_,rfl,rfl,unhide HG⟩),fun q hq=>?_,unhide HB2⟩
    have e1:g=q:=by simpa [Value.ownBlock] using hq
    have:=unhide HS1
    have:=unhide HGW
    omega
  ·have hsc:¬ sk=sk+n:=by omega
   go_wp2
   go_ret2
   refine ⟨some ⟨g,sk,none⟩,n,?_,?_,fun q hq=>?_,unhide HB2⟩
   ·first|rfl|(show Ending.returned (.tuple #[.slice (some ⟨g,sk,none⟩) (sk+n-sk) (sk+n-sk),.int .i64 0])=_;rw[Nat.add_sub_cancel_left])
   ·have hz:=unhide HSZ
    by_cases hs0:sk=0
    ·subst hs0
     refine .inl (.inr ⟨g,n,cur,rfl,unhide HG,Nat.le_refl _,unhide HM,by omega,fun i hi=>?_⟩)
     have:=unhide HCL i hi
     rwa [Nat.zero_add] at this
    ·exact .inr (.inl ⟨g,sk,cur,hs0,rfl,unhide HG,unhide HM,by omega,fun i hi=>unhide HCL i hi⟩)
   ·have e1:g=q:=by simpa [Value.ownBlock] using hq
    have:=unhide HS1
    have:=unhide HGW
    omega
theorem raw_both {ws:List Nat}{hs:List Bool}{used:Nat}{R:RefSt} (h:Rel ws hs used R) (j q:Nat) (hj:j<R.L.length) (hq:q<8*(R.L.getD j (0,0,0)).2.2):rawByte ws (place R.L j+1+(R.L.getD j (0,0,0)).2.1) q=(rbyN R j).getD q 0:=by
 have hfl:fldsOf R.L j=(R.L.getD j (0,0,0)).2.1+(R.L.getD j (0,0,0)).2.2:=rfl
 rw[rawByte_at R j q hq]
 unfold rawByte rawsOf
 rw[getD_dropped,← h.flds j _ hj (by omega),Nat.add_assoc (place R.L j+1)]
def mapF (n:Nat) (F:Nat→Nat):List Nat:=(List.range n).map F
theorem mapF_length (n:Nat) (F:Nat→Nat):(mapF n F).length=n:=by simp [mapF]
theorem mapF_at (n:Nat) (F:Nat→Nat) (i:Nat) (h:i<n):(mapF n F).getD i 0=F i:=by
 unfold mapF
 rw[List.getD_eq_getElem?_getD,List.getElem?_map,List.getElem?_range h];rfl
theorem Span.bytes {w:World}{a:Option Addr}{n cap:Nat}{F:Nat→Nat} (h:Span w 5 (.slice a n cap) n (fun i=>.int .u8 (F i:Nat))):Bytes w a (mapF n F):=by
 by_cases h0:n=0
 ·exact .inl (List.eq_nil_of_length_eq_zero (by rw[mapF_length];exact h0))
 ·obtain ⟨g,o,cp,hv,hb,hc⟩:=h.at (by omega)
  simp only[Value.slice.injEq] at hv
  exact .inr ⟨g,o,hv.1,h.lt g hb,fun i hi=>by
   rw[mapF_length] at hi
   rw[(hc i hi).1,mapF_at _ _ _ hi]⟩
structure Ob where
 kind:Nat
 refs:List Nat
 raws:List Nat
 there:Bool
 big:Bool
 at':Nat
structure Hp where
 limit:Nat
 half:Nat
 used:Nat
 large:Nat
 kept:Nat
 coll:Nat
 resz:Nat
 moved:Nat
 objs:List Ob
 small:List Nat
 slots:List Nat
 roots:List (Option Nat)
def ob0:Ob:=⟨0,[],[],false,false,0⟩
def ob (M:Hp) (i:Nat):Ob:=M.objs.getD i ob0
def shp (o:Ob):Nat × Nat × Nat:=(o.kind,o.refs.length,o.raws.length)
def osz (o:Ob):Nat:=1+o.refs.length+o.raws.length
def shapes (M:Hp) (l:List Nat):List (Nat × Nat × Nat):=l.map fun i=>shp (ob M i)
def topW:Nat:=9223372036854775808
def refW (M:Hp) (i:Nat):Nat:=if i=0 then 0 else if (ob M i).big=true then topW+(ob M i).at' else (ob M i).at'
def addr (M:Hp) (l:List Nat) (i:Nat):Nat:=place (shapes M l) (l.idxOf i)
def newRef (M:Hp) (cop:List Nat) (i:Nat):Nat:=if i=0 then 0 else if (ob M i).big=true then topW+(ob M i).at' else addr M cop i
def mix (M:Hp) (cop:List Nat) (n i:Nat):List Nat:=((ob M i).refs.take n).map (newRef M cop)++((ob M i).refs.drop n).map (refW M)++(ob M i).raws
theorem shapes_length (M:Hp) (l:List Nat):(shapes M l).length=l.length:=List.length_map ..
theorem shapes_at (M:Hp) (l:List Nat) (j:Nat) (h:j<l.length):(shapes M l).getD j (0,0,0)=shp (ob M (l.getD j 0)):=by
 unfold shapes
 rw[List.getD_eq_getElem?_getD,List.getElem?_map,List.getElem?_eq_getElem h]
 simp [List.getD_eq_getElem?_getD,List.getElem?_eq_getElem h]
theorem shapes_app (M:Hp) (a b:List Nat):shapes M (a++b)=shapes M a++shapes M b:=List.map_append ..
theorem wd_shp (o:Ob):wd (shp o)=osz o:=rfl
theorem addr_more (M:Hp) (l t:List Nat) (i:Nat) (h:i∈l):addr M (l++t) i=addr M l i:=by
 unfold addr
 rw[List.idxOf_append,if_pos h,shapes_app,place_prefix _ _ _ (by rw[shapes_length];exact Nat.le_of_lt (List.idxOf_lt_length_of_mem h))]
theorem addr_last (M:Hp) (l:List Nat) (i:Nat) (h:i ∉ l):addr M (l ++ [i]) i=place (shapes M l) l.length:=by
 unfold addr
 rw[List.idxOf_append,if_neg h,shapes_app]
 simp only[List.idxOf_cons_self,Nat.zero_add]
 rw[place_prefix _ _ _ (by rw[shapes_length];exact Nat.le_refl _)]
theorem addr_at (M:Hp) (l:List Nat) (hn:l.Nodup) (j:Nat) (h:j<l.length):addr M l (l.getD j 0)=place (shapes M l) j:=by
 unfold addr
 have:l.idxOf (l.getD j 0)=j:=by
  rw[List.getD_eq_getElem?_getD,List.getElem?_eq_getElem h]
  exact List.Nodup.idxOf_getElem hn j h
 rw[this]
theorem newRef_more (M:Hp) (l t:List Nat) (i:Nat) (h:i=0∨(ob M i).big=true∨i∈l):newRef M (l++t) i=newRef M l i:=by
 unfold newRef
 by_cases h0:i=0
 ·rw[if_pos h0,if_pos h0]
 ·rw[if_neg h0,if_neg h0]
  by_cases hb:(ob M i).big=true
  ·rw[if_pos hb,if_pos hb]
  ·rw[if_neg hb,if_neg hb]
   rcases h with h|h|h
   ·exact absurd h h0
   ·exact absurd h hb
   ·exact addr_more M l t i h
theorem mix_more (M:Hp) (l t:List Nat) (n i:Nat) (h:∀ r∈(ob M i).refs.take n,r=0∨(ob M r).big=true∨r∈l):mix M (l++t) n i=mix M l n i:=by
 unfold mix
 rw[List.map_congr_left (fun r hr=>newRef_more M l t r (h r hr))]
theorem mix_zero (M:Hp) (l:List Nat) (i:Nat):mix M l 0 i=(ob M i).refs.map (refW M)++(ob M i).raws:=by
 unfold mix;simp
theorem mix_all (M:Hp) (l:List Nat) (i:Nat):mix M l (ob M i).refs.length i=(ob M i).refs.map (newRef M l)++(ob M i).raws:=by
 unfold mix;simp
theorem mix_step (M:Hp) (l:List Nat) (n i:Nat) (h:n<(ob M i).refs.length):(mix M l n i).set n (newRef M l ((ob M i).refs.getD n 0))=mix M l (n+1) i:=by
 unfold mix
 have e1:(((ob M i).refs.take n).map (newRef M l)).length=n:=by simp;omega
 rw[List.append_assoc,List.append_assoc,List.set_append_right _ _ (by omega),e1,Nat.sub_self]
 rw[List.drop_eq_getElem_cons h,List.map_cons,List.cons_append,List.set_cons_zero,List.take_add_one,List.map_append,List.append_assoc]
 congr 1
 rw[List.getD_eq_getElem?_getD,List.getElem?_eq_getElem h]
 simp
theorem mix_at (M:Hp) (l:List Nat) (n i:Nat) (h:n<(ob M i).refs.length):(mix M l n i).getD n 0=refW M ((ob M i).refs.getD n 0):=by
 unfold mix
 have e1:(((ob M i).refs.take n).map (newRef M l)).length=n:=by simp;omega
 rw[List.append_assoc,List.getD_eq_getElem?_getD,List.getElem?_append_right (by omega),e1,Nat.sub_self]
 rw[List.drop_eq_getElem_cons h,List.map_cons,List.cons_append,List.getElem?_cons_zero,List.getD_eq_getElem?_getD,List.getElem?_eq_getElem h]
 rfl
structure Wk where
 cop:List Nat
 lin:List Nat
def reachW (M:Hp) (k:Wk) (i:Nat):Wk:=
 if i=0∨i∈k.cop∨i∈k.lin then k else if (ob M i).big=true then ⟨k.cop,k.lin ++ [i]⟩ else ⟨k.cop ++ [i],k.lin⟩
def lookW (M:Hp) (k:Wk) (i:Nat):Wk:=(ob M i).refs.foldl (reachW M) k
def rootsW (M:Hp) (n:Nat):Wk:=(M.roots.take n).foldl (fun k r=>match r with|none=>k|some i=>reachW M k i) ⟨[],[]⟩
theorem reachW_mono (M:Hp) (k:Wk) (i:Nat):(∃ t,(reachW M k i).cop=k.cop++t)∧∃ t,(reachW M k i).lin=k.lin++t:=by
 unfold reachW
 split
 ·exact ⟨⟨[],by simp⟩,⟨[],by simp⟩⟩
 ·split
  ·exact ⟨⟨[],by simp⟩,⟨[i],rfl⟩⟩
  ·exact ⟨⟨[i],rfl⟩,⟨[],by simp⟩⟩
structure St where
 k:Wk
 a:Nat
 b:Nat
def stepW (M:Hp) (s:St):Option St:=
 if s.a<s.k.cop.length then some ⟨lookW M s.k (s.k.cop.getD s.a 0),s.a+1,s.b⟩
 else if s.b<s.k.lin.length then some ⟨lookW M s.k (s.k.lin.getD s.b 0),s.a,s.b+1⟩ else none
inductive Star (M:Hp):St→St→Prop
 | refl (s:St):Star M s s
 | more {s t u:St} (h:Star M s t) (e:stepW M t=some u):Star M s u
theorem Star.head {M:Hp}{s t:St} (h:Star M s t):s=t∨∃ u,stepW M s=some u∧Star M u t:=by
 induction h with
 | refl=>exact .inl rfl
 | more h e ih=>
  rcases ih with rfl|⟨u,hu,hs⟩
  ·exact .inr ⟨_,e,.refl _⟩
  ·exact .inr ⟨u,hu,hs.more e⟩
theorem Star.cons {M:Hp}{s u t:St} (e:stepW M s=some u) (h:Star M u t):Star M s t:=by
 induction h with
 | refl=>exact (Star.refl _).more e
 | more h e' ih=>exact ih.more e'
theorem star_split {M:Hp}{s t u:St} (h:Star M s t):Star M s u→Star M t u∨Star M u t:=by
 induction h with
 | refl=>exact fun k=>.inl k
 | more h e ih=>
  intro k
  rcases ih k with q|q
  ·rcases q.head with rfl|⟨v,hv,hs⟩
   ·exact .inr ((Star.refl _).more e)
   ·rw[e] at hv;cases hv;exact .inl hs
  ·exact .inr (q.more e)
theorem star_end {M:Hp}{s t u:St} (h:Star M s t) (ht:stepW M t=none) (k:Star M s u) (hu:stepW M u=none):t=u:=by
 rcases star_split h k with q|q
 ·rcases q.head with rfl|⟨v,hv,_⟩
  ·rfl
  ·rw[ht] at hv;cases hv
 ·rcases q.head with rfl|⟨v,hv,_⟩
  ·rfl
  ·rw[hu] at hv;cases hv
theorem sum_sub (f:Nat→Nat):∀ (l m:List Nat),l.Nodup→(∀ x∈l,x∈m)→(l.map f).sum≤(m.map f).sum
 | [],m,_,_=>by simp
 | a :: l,m,hn,hs=>by
  have hp:=List.perm_cons_erase (hs a List.mem_cons_self)
  have e:(m.map f).sum=f a+((m.erase a).map f).sum:=by rw[(hp.map f).sum_nat];rfl
  have hn':=List.nodup_cons.1 hn
  have ih:=sum_sub f l (m.erase a) hn'.2 (fun x hx=>(List.mem_erase_of_ne (by rintro rfl;exact hn'.1 hx)).2 (hs x (List.mem_cons_of_mem _ hx)))
  rw[e,List.map_cons,List.sum_cons]
  omega
theorem place_sum (L:List (Nat × Nat × Nat)):∀ n,n≤L.length→place L n=1+((L.take n).map wd).sum
 | 0,_=>by simp [place]
 | n+1,h=>by
  have ih:=place_sum L n (by omega)
  rw[place,ih,List.take_add_one,List.getElem?_eq_getElem h,List.map_append,List.sum_append,List.getD_eq_getElem?_getD,List.getElem?_eq_getElem h]
  simp
  omega
theorem place_all (M:Hp) (l:List Nat):place (shapes M l) l.length=1+(l.map fun i=>osz (ob M i)).sum:=by
 rw[place_sum _ _ (by rw[shapes_length];exact Nat.le_refl _),← shapes_length M l,List.take_length]
 unfold shapes
 rw[List.map_map]
 rfl
theorem place_sub (M:Hp) (l m:List Nat) (hn:l.Nodup) (hs:∀ x∈l,x∈m):place (shapes M l) l.length≤place (shapes M m) m.length:=by
 rw[place_all,place_all]
 have:=sum_sub (fun i=>osz (ob M i)) l m hn hs
 omega
set_option maxHeartbeats 1000000
theorem Tryz.info5':(Tryz.prog.info? 5).map (fun i=>(i.zero,i.size,i.bytes))=some (some (.int .u8 0),1,1):=by kernel_rfl
set_option linter.unusedSimpArgs false
set_option maxHeartbeats 4000000
def Cells5 (W:World) (b:Nat) (v0 v1 v2 v3 v4:Value):Prop:=W.cell? ⟨b,0,none⟩=some v0∧W.cell? ⟨b,1,none⟩=some v1∧W.cell? ⟨b,2,none⟩=some v2∧W.cell? ⟨b,3,none⟩=some v3∧W.cell? ⟨b,4,none⟩=some v4
end Go.Proofs.YtnfbaapbpgbgpaaGreat
