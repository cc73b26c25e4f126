import Derived.Test.YtnfbaapbpgbgpaaGreatRTake
import Derived.Test.YtnfbaapbpgbgpaaGreatHObj
namespace Go.Proofs.YtnfbaapbpgbgpaaGreat
open Go.ChangeShapes Go.WideShapes Go.ChangeAt Go.RowKit
set_option linter.unusedVariables false
set_option maxRecDepth 100000
set_option maxHeartbeats 2000000
theorem r_new (n:Nat) (h1:1≤n) (h2:n≤1048576) (w:World):
  Calls Tryz.prog 35 #[.int .i64 n] w fun e w'=>∃ a:Nat × Nat × Nat,e=.returned (.pointer (some ⟨a.1,0,none⟩))∧ArR w' a (RefSt.new n)∧(w.heap.size≤a.1∧w.heap.size≤a.2.1∧w.heap.size≤a.2.2)∧Below w.heap.size w w':=by
 refine (newArena_any n h1 h2 w).mono ?_
 rintro e w' ⟨p,bw,bh,rfl,hA,q1,q2,q3,hb⟩
 exact ⟨(p,bw,bh),rfl,⟨_,_,_,hA,Rel.new n h1,⟨rfl,rfl,fun j hj=>absurd hj (Nat.not_lt_zero _),h1,h2,fun j k=>by simp [RefSt.new],fun j t ht=>by simp [RefSt.new] at ht,fun j hj=>absurd hj (Nat.not_lt_zero _)⟩⟩,⟨q1,q2,q3⟩,hb⟩
def tkR (A:RefSt) (n j:Nat):RefSt:=⟨A.L.take j,A.X.take j,(A.L.take j).map (fun _=>none),[],.slice none 0 0,n⟩
def mkR (A:RefSt) (j:Nat):RefSt:=⟨A.L,A.X,(List.range A.L.length).map (fun i=>if i<j then some (place A.L i) else none),A.F,A.v,A.size⟩
theorem place_take (L:List (Nat × Nat × Nat)) (j:Nat) (h:j≤L.length):place (L.take j) j=place L j:=by
 have:=place_prefix (L.take j) (L.drop j) j (by simp;omega)
 rw[List.take_append_drop] at this
 exact this.symm
theorem tk_used (A:RefSt) (n j:Nat) (h:j≤A.L.length):(tkR A n j).used=place A.L j:=by
 show place (A.L.take j) (A.L.take j).length=_
 rw[List.length_take,Nat.min_eq_left h,place_take _ _ h]
theorem takeAll_any {w:World}{a s:Nat × Nat × Nat}{A:RefSt}{n:Nat} (hA:ArR w a A) (hS:ArR w s (RefSt.new n)) (hgn:∀ j,j<A.L.length→A.Gn.getD j none=none) (hd:∀ x ∈ [a.1,a.2.1,a.2.2],x ∉ [s.1,s.2.2,s.2.1]) (hn:A.used≤n):
  Calls Tryz.prog 127 #[.pointer (some ⟨s.1,0,none⟩),.pointer (some ⟨a.1,0,none⟩)] w fun e w'=>e=.returned (.tuple #[])∧ArR w' s ⟨A.L,A.X,A.L.map (fun _=>none),[],.slice none 0 0,n⟩∧But [s.1,s.2.2,s.2.1,a.2.1] w w':=by
 have o:=hA.ok
 have hub:A.used≤1048576:=Nat.le_trans o.u2 o.sz
 have hmk0:(mkR A 0).Gn=A.Gn:=by
  show (List.range A.L.length).map _=A.Gn
  apply List.ext_getElem?
  intro i
  rw[List.getElem?_map]
  by_cases hi:i<A.L.length
  ·rw[List.getElem?_range hi]
   have:=hgn i hi
   rw[List.getD_eq_getElem?_getD] at this
   rw[List.getElem?_eq_getElem (by rw[o.gl];exact hi)] at this ⊢
   have t':A.Gn[i]'(by rw[o.gl];exact hi)=none:=this
   rw[t']
   simp
  ·rw[List.getElem?_eq_none (by simp;omega),List.getElem?_eq_none (by rw[o.gl];omega)]
   rfl
 obtain ⟨I,hI⟩:∃ I:Nat→World→Prop,I=fun j W=>ArR W s (tkR A n j)∧ArR W a (mkR A j)∧But [s.1,s.2.2,s.2.1,a.2.1] w W:=⟨_,rfl⟩
 have HI0:Hid (I 0 w):=hide (by
  rw[hI]
  refine ⟨hS.like ?_ ?_ ?_ rfl,hA.like rfl rfl hmk0 rfl,But.refl _ _⟩
  ·show A.L.take 0=[];rfl
  ·show A.X.take 0=[];rfl
  ·rfl)
 have HU:Hid (∀ j W,I j W→Calls Tryz.prog 64 #[.pointer (some ⟨a.1,0,none⟩)] W fun e w'=>e=.returned (.int .i64 (place A.L A.L.length:Nat))∧w'=W):=hide (by
  intro j W h
  rw[hI] at h
  have h2:=r_used h.2.1
  exact h2)
 have HO:Hid (∀ j W,j<A.L.length→I j W→Calls Tryz.prog 157 #[.pointer (some ⟨a.1,0,none⟩),.int .i64 (place A.L j:Nat)] W fun e w'=>e=.returned (.tuple #[.int .i64 ((A.L.getD j (0,0,0)).1:Nat),.int .i64 ((A.L.getD j (0,0,0)).2.1:Nat),.int .i64 ((A.L.getD j (0,0,0)).2.2:Nat),.int .i64 0])∧I j w'):=hide (by
  intro j W hj h
  rw[hI] at h
  have hg:(mkR A j).Gn.getD j none=none:=by
   show ((List.range A.L.length).map _).getD j none=none
   rw[List.getD_eq_getElem?_getD,List.getElem?_map,List.getElem?_range hj]
   simp
  refine (r_obj h.2.1 j hj hg).mono ?_
  rintro e w' ⟨rfl,hb⟩
  rw[hI]
  have l1:=h.1.lt
  have l2:=h.2.1.lt
  exact ⟨rfl,h.1.conf hb.size (hb.block _ l1.1) (hb.block _ l1.2.1) (hb.block _ l1.2.2),h.2.1.conf hb.size (hb.block _ l2.1) (hb.block _ l2.2.1) (hb.block _ l2.2.2),h.2.2.trans (But.of_below hb)⟩)
 have HT:Hid (∀ j W,j<A.L.length→I j W→Calls Tryz.prog 148 #[.pointer (some ⟨s.1,0,none⟩),.pointer (some ⟨a.1,0,none⟩),.int .i64 (place A.L j:Nat)] W fun e w'=>e=.returned (.tuple #[.int .i64 (place A.L j:Nat),.int .i64 0])∧I (j+1) w'):=hide (by
  intro j W hj h
  rw[hI] at h
  have hg:(mkR A j).Gn.getD j none=none:=by
   show ((List.range A.L.length).map _).getD j none=none
   rw[List.getD_eq_getElem?_getD,List.getElem?_map,List.getElem?_range hj]
   simp
  have hu:=tk_used A n j (Nat.le_of_lt hj)
  have hpl:=place_lt A.L hj
  have hfit:(tkR A n j).used+(1+((mkR A j).L.getD j (0,0,0)).2.1+((mkR A j).L.getD j (0,0,0)).2.2)≤(tkR A n j).size:=by
   rw[hu]
   exact Nat.le_trans hpl hn
  have hj2:j<A.X.length:=by rw[o.xl];exact hj
  refine (r_take h.2.1 h.1 hd j hj hg hfit).mono ?_
  rintro e w' ⟨rfl,g1,g2,g3⟩
  rw[hI]
  refine ⟨by rw[hu],g1.like ?_ ?_ ?_ rfl,g2.like rfl rfl ?_ rfl,h.2.2.trans g3⟩
  ·show A.L.take (j+1)=A.L.take j ++ [((A.L.getD j (0,0,0)).1,(A.L.getD j (0,0,0)).2.1,(A.L.getD j (0,0,0)).2.2)]
   rw[List.take_add_one,List.getElem?_eq_getElem hj,List.getD_eq_getElem?_getD,List.getElem?_eq_getElem hj]
   rfl
  ·show A.X.take (j+1)=A.X.take j ++ [A.X.getD j []]
   rw[List.take_add_one,List.getElem?_eq_getElem hj2,List.getD_eq_getElem?_getD,List.getElem?_eq_getElem hj2]
   rfl
  ·show (A.L.take (j+1)).map _=(A.L.take j).map _ ++ [none]
   rw[List.take_add_one,List.getElem?_eq_getElem hj,List.map_append]
   rfl
  ·show (List.range A.L.length).map _=((List.range A.L.length).map _).set j (some (tkR A n j).used)
   rw[hu]
   apply List.ext_getElem?
   intro i
   rw[List.getElem?_set,List.getElem?_map,List.getElem?_map]
   by_cases e:j=i
   ·subst e
    rw[if_pos rfl,if_pos (by simp;exact hj),List.getElem?_range hj]
    simp
   ·rw[if_neg e]
    by_cases hi:i<A.L.length
    ·rw[List.getElem?_range hi]
     simp only[Option.map_some]
     congr 1
     by_cases hlt:i<j
     ·rw[if_pos hlt,if_pos (by omega)]
     ·rw[if_neg hlt,if_neg (by omega)]
    ·rw[List.getElem?_eq_none (by simp;omega)];rfl)
 have HF:Hid (∀ W,I A.L.length W→ArR W s ⟨A.L,A.X,A.L.map (fun _=>none),[],.slice none 0 0,n⟩∧But [s.1,s.2.2,s.2.1,a.2.1] w W):=hide (by
  intro W h
  rw[hI] at h
  refine ⟨h.1.like ?_ ?_ ?_ rfl,h.2.2⟩
  ·show A.L=A.L.take A.L.length;rw[List.take_length]
  ·show A.X=A.X.take A.L.length;rw[← o.xl,List.take_length]
  ·show A.L.map _=(A.L.take A.L.length).map _;rw[List.take_length])
 have hpb:∀ j,j≤A.L.length→place A.L j≤1048576:=fun j hj=>Nat.le_trans (place_le A.L hj) hub
 have hst:∀ j,j<A.L.length→place A.L (j+1)=place A.L j+(1+(A.L.getD j (0,0,0)).2.1+(A.L.getD j (0,0,0)).2.2):=fun j _=>rfl
 clear hI hA hS hgn hd hn hmk0 o hub
 go_enter Tryz.func127,Tryz.ntmps127
 go_wp2
 go_loopw [4] (fun v wr=>∃ j:Nat,v=.int .i64 (place A.L j:Nat)∧j≤A.L.length∧I j wr) (fun v _=>2000000-(intOf v).toNat)
 case atStart=>exact ⟨0,rfl,Nat.zero_le _,unhide HI0⟩
 case round=>
  obtain ⟨j,rfl,hj,hIj⟩:=hrel
  have HJ:=hide hIj
  clear hIj HI0
  have hp1:=hpb j hj
  have hp2:=hpb A.L.length (Nat.le_refl _)
  by_cases hjl:j<A.L.length
  ·have hlt:=place_lt A.L hjl
   have hlt2:place A.L j<place A.L A.L.length:=by unfold wd at hlt;omega
   have hd:decide ((place A.L j:Int)<(place A.L A.L.length:Nat))=true:=decide_eq_true (by omega)
   have hs1:=hst j hjl
   have hp3:=hpb (j+1) (by omega)
   obtain ⟨r,hr⟩:∃ r,(A.L.getD j (0,0,0)).2.1=r:=⟨_,rfl⟩
   obtain ⟨q,hq⟩:∃ q,(A.L.getD j (0,0,0)).2.2=q:=⟨_,rfl⟩
   obtain ⟨P,hP⟩:∃ P,place A.L j=P:=⟨_,rfl⟩
   have HO1:=hide (unhide HO j wr hjl (unhide HJ))
   rw[hr,hq] at hs1
   rw[hr,hq,hP] at HO1
   have HT1:=hide (fun W=>unhide HT j W hjl)
   rw[hP] at hs1 hd HT1 hp1 hlt2 ⊢
   clear hlt
   have e1:IntKind.i64.wrap ((1:Int)+(r:Nat))=(1:Int)+(r:Nat):=by rw[show (1:Int)+(r:Nat)=((1+r:Nat):Int) by omega];exact wrap_nat _ (by omega)
   have e2:IntKind.i64.wrap ((1:Int)+(r:Nat)+(q:Nat))=(1:Int)+(r:Nat)+(q:Nat):=by rw[show (1:Int)+(r:Nat)+(q:Nat)=((1+r+q:Nat):Int) by omega];exact wrap_nat _ (by omega)
   have e3:IntKind.i64.wrap ((P:Int)+((1:Int)+(r:Nat)+(q:Nat)))=(P:Int)+((1:Int)+(r:Nat)+(q:Nat)):=by rw[show (P:Int)+((1:Int)+(r:Nat)+(q:Nat))=((P+(1+r+q):Nat):Int) by omega];exact wrap_nat _ (by omega)
   go_wp2_with fail
   refine (unhide HU j wr (unhide HJ)).mono ?_
   rintro e w1 ⟨rfl,rfl⟩
   go_wp2_with fail
   refine (unhide HO1).mono ?_
   clear HO1
   rintro e w2 ⟨rfl,hi2⟩
   have HI2:=hide hi2
   clear hi2
   go_wp2_with fail
   refine (unhide HT1 w2 (unhide HI2)).mono ?_
   clear HT1 HI2
   rintro e w3 ⟨rfl,hi3⟩
   have HI3:=hide hi3
   clear hi3
   go_wp2
   go_roundw
   case rel=>exact ⟨j+1,by rw[hs1];simp;try omega,by omega,unhide HI3⟩
   case measure=>simp [intOf];omega
  ·have hje:j=A.L.length:=by omega
   subst hje
   have hd:decide ((place A.L A.L.length:Int)<(place A.L A.L.length:Nat))=false:=decide_eq_false (by omega)
   have HFF:=hide (unhide HF wr (unhide HJ))
   go_wp2_with fail
   refine (unhide HU _ wr (unhide HJ)).mono ?_
   rintro e w1 ⟨rfl,rfl⟩
   go_wp2
   go_end0
   exact ⟨rfl,unhide HFF⟩
set_option maxHeartbeats 1000000
theorem alloc_small {w:World}{ph k r s:Nat} (h:Fits k r s) (hs:1+r+s≤64) {R:Ending→World→Prop}
  (HS:Calls Tryz.prog 81 #[.pointer (some ⟨ph,0,none⟩),.int .i64 (k:Nat),.int .i64 (r:Nat),.int .i64 (s:Nat),.int .i64 ((1+r+s:Nat):Int)] w fun e w'=>(∃ v x:Int,e=.returned (.tuple #[.int .u64 v,.int .i64 x]))∧R e w'):
  Calls Tryz.prog 36 #[.pointer (some ⟨ph,0,none⟩),.int .i64 (k:Nat),.int .i64 (r:Nat),.int .i64 (s:Nat)] w fun e w'=>R e w':=by
 have H1:=hide (head_yes k r s w h)
 have H2:=hide HS
 have a1:IntKind.i64.wrap ((1:Int)+(r:Nat))=(1:Int)+(r:Nat):=wrap_small _ (by omega) (by omega)
 have a2:IntKind.i64.wrap ((1:Int)+(r:Nat)+(s:Nat))=((1+r+s:Nat):Int):=by rw[show (1:Int)+(r:Nat)+(s:Nat)=((1+r+s:Nat):Int) by omega];exact wrap_small _ (by omega) (by omega)
 have d1:decide ((64:Int)<((1+r+s:Nat):Int))=false:=decide_eq_false (by omega)
 clear HS h
 obtain ⟨z,hz⟩:∃ z,1+r+s=z:=⟨_,rfl⟩
 rw[hz] at H2 a2 d1
 clear hz hs
 go_enter Tryz.func36,Tryz.ntmps36
 go_wp2_with fail
 refine (unhide H1).mono ?_
 clear H1
 rintro e w1 ⟨rfl,rfl⟩
 go_wp2_with fail
 refine (unhide H2).mono ?_
 clear H2
 rintro e w2 ⟨⟨v,x,rfl⟩,hR⟩
 go_wp2
 exact hR
theorem alloc_large {w:World}{ph k r s:Nat} (h:Fits k r s) (hs:64<1+r+s) {R:Ending→World→Prop}
  (HS:Calls Tryz.prog 80 #[.pointer (some ⟨ph,0,none⟩),.int .i64 (k:Nat),.int .i64 (r:Nat),.int .i64 (s:Nat),.int .i64 ((2+r+s:Nat):Int)] w fun e w'=>(∃ v x:Int,e=.returned (.tuple #[.int .u64 v,.int .i64 x]))∧R e w'):
  Calls Tryz.prog 36 #[.pointer (some ⟨ph,0,none⟩),.int .i64 (k:Nat),.int .i64 (r:Nat),.int .i64 (s:Nat)] w fun e w'=>R e w':=by
 have H1:=hide (head_yes k r s w h)
 have H2:=hide HS
 have f1:(r:Int)≤1048576:=h.2.2.2.1
 have f2:(s:Int)≤1048576:=h.2.2.2.2.2
 have a1:IntKind.i64.wrap ((1:Int)+(r:Nat))=(1:Int)+(r:Nat):=wrap_small _ (by omega) (by omega)
 obtain ⟨z,hz⟩:∃ z,1+r+s=z:=⟨_,rfl⟩
 have hz2:2+r+s=1+z:=by omega
 have a2:IntKind.i64.wrap ((1:Int)+(r:Nat)+(s:Nat))=(z:Int):=by rw[show (1:Int)+(r:Nat)+(s:Nat)=(z:Int) by omega];exact wrap_small _ (by omega) (by omega)
 obtain ⟨y,hy⟩:∃ y,1+z=y:=⟨_,rfl⟩
 have a3:IntKind.i64.wrap ((1:Int)+(z:Nat))=(y:Int):=by rw[show (1:Int)+(z:Nat)=(y:Int) by omega];exact wrap_small _ (by omega) (by omega)
 have d1:decide ((64:Int)<(z:Int))=true:=decide_eq_true (by omega)
 rw[hz2,hy] at H2
 clear HS h
 go_enter Tryz.func36,Tryz.ntmps36
 go_wp2_with fail
 refine (unhide H1).mono ?_
 clear H1
 rintro e w1 ⟨rfl,rfl⟩
 go_wp2_with fail
 refine (unhide H2).mono ?_
 clear H2
 rintro e w2 ⟨⟨v,x,rfl⟩,hR⟩
 go_wp2
 exact hR
theorem hnew_walk {w:World}{n:Nat} (h1:128≤n) (h2:n≤1048576) {G1:(Nat × Nat × Nat)→World→Prop}{G2:(Nat × Nat × Nat)→(Nat × Nat × Nat)→World→Prop}
  (HN:Calls Tryz.prog 35 #[.int .i64 64] w fun e w'=>∃ a:Nat × Nat × Nat,e=.returned (.pointer (some ⟨a.1,0,none⟩))∧G1 a w')
  (HN2:∀ a W,G1 a W→Calls Tryz.prog 35 #[.int .i64 64] W fun e w'=>∃ s:Nat × Nat × Nat,e=.returned (.pointer (some ⟨s.1,0,none⟩))∧G2 a s w'):
  Calls Tryz.prog 9 #[.int .i64 (n:Nat)] w fun e w'=>∃ (a s:Nat × Nat × Nat) (w2:World),G2 a s w2∧w'=w2.alloc (.cells #[.int .i64 (n:Nat),.pointer (some ⟨a.1,0,none⟩),.pointer (some ⟨s.1,0,none⟩),.slice none 0 0,.slice none 0 0,.int .i64 0,.slice none 0 0,.slice none 0 0,.int .i64 0,.int .i64 0,.int .i64 0,.int .i64 0,.int .i64 0,.int .i64 0] 95)∧e=.returned (.tuple #[.pointer (some ⟨w2.heap.size,0,none⟩),.int .i64 0]):=by
 have H1:=hide HN
 have H2:=hide HN2
 have d1:decide ((n:Int)<128)=false:=decide_eq_false (by omega)
 have d2:decide ((1048576:Int)<(n:Nat))=false:=decide_eq_false (by omega)
 clear HN HN2
 go_enter Tryz.func9,Tryz.ntmps9
 go_wp2_with fail
 refine (unhide H1).mono ?_
 clear H1
 rintro e w1 ⟨a,rfl,hg1⟩
 have H2':=hide (unhide H2 a w1 hg1)
 clear H2 hg1
 go_wp2_with fail
 refine (unhide H2').mono ?_
 clear H2'
 rintro e w2 ⟨s,rfl,hg2⟩
 go_wp2
 go_ret2
 exact ⟨a,s,w2,hg2,rfl,rfl⟩
end Go.Proofs.YtnfbaapbpgbgpaaGreat
