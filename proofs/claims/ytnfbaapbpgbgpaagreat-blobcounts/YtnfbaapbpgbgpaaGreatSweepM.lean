import Derived.Test.YtnfbaapbpgbgpaaGreatSweep
import Derived.Test.YtnfbaapbpgbgpaaGreatBecomeM
import Derived.Deep.RegionHeld3
namespace Go.Proofs.YtnfbaapbpgbgpaaGreat
open Go.ChangeShapes Go.WideShapes Go.ChangeAt Go.RowKit Go.Shelf
set_option linter.unusedVariables false
set_option maxRecDepth 100000
set_option maxHeartbeats 2000000
attribute [local go_sem] Oper.semAt_some
theorem all_any (b o:Nat) (w:World):Calls Tryz.prog 108 #[.pointer (some ⟨b,o,none⟩)] w fun e w'=>e=.returned (.func (.func 146) #[] #[.pointer (some ⟨w.heap.size,0,none⟩)])∧w'=w.alloc (.cells #[.pointer (some ⟨b,o,none⟩)] 146):=by
 go_enter Tryz.func108,Tryz.ntmps108
 go_wp2
 go_ret
 exact ⟨rfl,rfl⟩
def collW (w:World) (ph coll:Nat):World:=
 (((w.setCell ⟨ph,12,none⟩ (.int .i64 ((coll:Int)+1))).alloc (.cells #[.pointer (some ⟨ph,0,none⟩)] 26)).alloc (.cells #[.pointer (some ⟨ph,0,none⟩),.int .i64 1,.slice none 0 0] 177)).alloc (.cells #[.pointer (some ⟨ph,6,none⟩)] 146)
theorem collW_size (w:World) (ph coll:Nat):(collW w ph coll).heap.size=w.heap.size+3:=by unfold collW;simp
theorem collect_walk {w:World}{ph coll pa ps g N cap lg U:Nat}{a:Option Addr} (hc:coll≤1000000000000) (e12:w.cell? ⟨ph,12,none⟩=some (.int .i64 (coll:Nat))) (f12:w.frozen? ⟨ph,12,none⟩=false)
  (hN:N≤1000000) (hcap:N≤cap) (val y:Nat→Nat) (use:Nat→Bool) (I J:Nat→World→Prop) (Sv T T2 T3 R:World→Prop) (μ:World→Nat)
  (hI0:∀ o1 o2,I 0 (((collW w ph coll).alloc o1).alloc o2)) (hIb:∀ q W W',I q W→Below W.heap.size W W'→I q W')
  (hIp:∀ q W o o',W.heap[w.heap.size+4]?=some o→o.isCells=false→I q W→I q (W.putObj (w.heap.size+4) o'))
  (hsk:∀ q W,q<N→use q=false→I q W→I (q+1) W)
  (hIr:∀ q W,q<N→I q W→a=some ⟨g,0,none⟩∧W.cell? ⟨g,q*2,none⟩=some (.int .u64 (val q:Nat))∧W.cell? ⟨g,q*2+1,none⟩=some (.bool (use q)))
  (hIc:∀ q W,I q W→W.cell? ⟨w.heap.size,0,none⟩=some (.pointer (some ⟨ph,0,none⟩)))
  (hJc:∀ q W,J q W→W.cell? ⟨w.heap.size,0,none⟩=some (.pointer (some ⟨ph,0,none⟩)))
  (hrow:∀ W,I 0 W→W.cell? ⟨ph,6,none⟩=some (.slice a N cap))
  (hmove:∀ q W,q<N→use q=true→I q W→w.heap.size+4<W.heap.size→(∃ o,W.heap[w.heap.size+4]?=some o∧o.isCells=false)→Calls Tryz.prog 110 #[.pointer (some ⟨w.heap.size+1,0,none⟩),.int .u64 (val q:Nat)] W fun e w'=>e=.returned (.int .u64 (y q:Nat))∧J q w'∧w'.heap[w.heap.size+4]?=W.heap[w.heap.size+4]?∧w'.heap[w.heap.size+3]?=W.heap[w.heap.size+3]?)
  (hset:∀ q W,q<N→use q=true→J q W→Calls Tryz.prog 109 #[.pointer (some ⟨ph,6,none⟩),.int .i64 (q:Nat),.int .u64 (y q:Nat)] W fun e w'=>e=.returned (.tuple #[])∧I (q+1) w'∧w'.heap[w.heap.size+4]?=W.heap[w.heap.size+4]?∧w'.heap[w.heap.size+3]?=W.heap[w.heap.size+3]?)
  (hS0:∀ W,I N W→w.heap.size+3<W.heap.size→W.heap[w.heap.size+3]?=some (.deferred (some []))→Sv W)
  (hSc:∀ W,Sv W→W.cell? ⟨w.heap.size,0,none⟩=some (.pointer (some ⟨ph,0,none⟩)))
  (hstep:∀ W,Sv W→∃ u,Calls Tryz.prog 111 #[.pointer (some ⟨w.heap.size+1,0,none⟩)] W fun e w'=>e=.returned (.bool u)∧(u=true→Sv w'∧μ w'<μ W)∧(u=false→T w'))
  (hT:∀ W,T W→W.cell? ⟨w.heap.size,0,none⟩=some (.pointer (some ⟨ph,0,none⟩))∧W.cell? ⟨ph,1,none⟩=some (.pointer (some ⟨pa,0,none⟩))∧W.cell? ⟨ph,2,none⟩=some (.pointer (some ⟨ps,0,none⟩))∧W.frozen? ⟨ph,1,none⟩=false∧W.frozen? ⟨ph,2,none⟩=false)
  (hclear:∀ W,T W→Calls Tryz.prog 112 #[.pointer (some ⟨pa,0,none⟩)] ((W.setCell ⟨ph,1,none⟩ (.pointer (some ⟨ps,0,none⟩))).setCell ⟨ph,2,none⟩ (.pointer (some ⟨pa,0,none⟩))).drew fun e w'=>e=.returned (.tuple #[])∧T2 w')
  (hT2:∀ W,T2 W→W.cell? ⟨w.heap.size,0,none⟩=some (.pointer (some ⟨ph,0,none⟩)))
  (hsweep:∀ W,T2 W→Calls Tryz.prog 113 #[.pointer (some ⟨ph,0,none⟩)] W fun e w'=>e=.returned (.tuple #[])∧T3 w')
  (hT3:∀ W,T3 W→W.cell? ⟨w.heap.size,0,none⟩=some (.pointer (some ⟨ph,0,none⟩))∧W.cell? ⟨ph,1,none⟩=some (.pointer (some ⟨ps,0,none⟩))∧W.cell? ⟨ph,9,none⟩=some (.int .i64 (lg:Nat))∧(∃ x,W.cell? ⟨ph,10,none⟩=some (.int .i64 x))∧W.frozen? ⟨ph,10,none⟩=false∧(∃ x,W.cell? ⟨ph,11,none⟩=some (.int .i64 x))∧W.frozen? ⟨ph,11,none⟩=false∧W.heap[w.heap.size+3]?=some (.deferred (some [])))
  (hU1:1≤U) (hU2:U≤1048576)
  (hused:∀ W,T3 W→∀ W',Still (W.setCell ⟨ph,10,none⟩ (.int .i64 (lg:Nat))) W'→Calls Tryz.prog 64 #[.pointer (some ⟨ps,0,none⟩)] W' fun e w'=>e=.returned (.int .i64 (U:Nat))∧w'=W')
  (hR:∀ W,T3 W→∀ W',Still ((W.setCell ⟨ph,10,none⟩ (.int .i64 (lg:Nat))).setCell ⟨ph,11,none⟩ (.int .i64 ((U:Int)-1))) W'→∀ o,R (W'.putObj (w.heap.size+3) o)):
  Calls Tryz.prog 70 #[.pointer (some ⟨ph,0,none⟩)] w fun e w'=>e=.returned (.tuple #[])∧R w':=by
 have hph:ph<w.heap.size:=by have:=block_lt_of_cell e12;simpa using this
 have e3:IntKind.i64.wrap ((coll:Int)+1)=((coll+1:Nat):Int):=by rw[show (coll:Int)+1=((coll+1:Nat):Int) by omega];exact wrap_nat _ (by omega)
 have HI0:=hide hI0
 have HIb:=hide hIb
 have HIp:=hide hIp
 have HSK:=hide hsk
 have HIR:=hide hIr
 have HIC:=hide hIc
 have HJC:=hide hJc
 have HROW:=hide hrow
 have HMV:=hide hmove
 have HST:=hide hset
 have HS0:=hide hS0
 have HSC:=hide hSc
 have HSTEP:=hide hstep
 have HT:=hide hT
 have HCL:=hide hclear
 have HT2:=hide hT2
 have HSW:=hide hsweep
 have HT3:=hide hT3
 have HUS:=hide hused
 have HRR:=hide hR
 clear hI0 hIb hIp hsk hIr hIc hJc hrow hmove hset hS0 hSc hstep hT hclear hT2 hsweep hT3 hused hR
 refine (callsIn_wide (n:=6)).1 ?_
 refine callsIn_of_wp_marks Tryz.func70 rfl trivial ?_ rfl
 simp only[Tryz.ntmps70,List.size_toArray,List.length_cons,List.length_nil,Nat.reduceAdd,Nat.reduceSub,Array.replicate_succ,Array.replicate_zero,List.push_toArray,List.append_toArray,List.nil_append,List.cons_append]
 refine wpIn_wide.2 ?_
 go_wp2_with (go_at_call 108;refine (all_any ph 6 _).mono ?_;rintro e w' ⟨rfl,rfl⟩)
 obtain ⟨W0,hW0⟩:∃ W0,collW w ph coll=W0:=⟨_,rfl⟩
 have hsz:W0.heap.size=w.heap.size+3:=by rw[← hW0];exact collW_size w ph coll
 have hw0:(((w.setCell ⟨ph,12,none⟩ (.int .i64 ((coll:Int)+1))).alloc (.cells #[.pointer (some ⟨ph,0,none⟩)] 26)).alloc (.cells #[.pointer (some ⟨ph,0,none⟩),.int .i64 1,.slice none 0 0] 177)).alloc (.cells #[.pointer (some ⟨ph,6,none⟩)] 146)=W0:=hW0
 have hbx:W0.cell? ⟨w.heap.size+1+1,0,none⟩=some (.pointer (some ⟨ph,6,none⟩)):=by
  rw[← hw0];exact cell_made (by simp) _ _
 rw[hw0]
 rw[hW0] at HI0
 clear hw0 hW0 e12 f12
 refine (wpIn_wide (n:=6)).1 ?_
 refine wpIn_range_pool (F:=Fence.wide) (n:=6) rfl (by omega) (gf:=146) (lb:=#[.pointer (some ⟨w.heap.size+1+1,0,none⟩)]) rfl trivial (enters_of Tryz.func146 (by kernel_rfl) rfl)
  I N (fun q=>#[.int .i64 (q:Nat),.int .u64 (val q:Nat)]) use (fun _ _ _=>rfl) ?hcall (unhide HI0) (unhide HIb) ?hIp (unhide HSK)
  (fun q=>{ tmps:=#[.pointer (some ⟨ph,0,none⟩),.pointer (some ⟨w.heap.size,0,none⟩),.pointer (some ⟨w.heap.size+1,0,none⟩),.int .i64 (q:Nat),.int .u64 (val q:Nat),.pointer (some ⟨ph,0,none⟩),.pointer (some ⟨ph,0,none⟩),.pointer (some ⟨ph,12,none⟩),.int .i64 (coll:Nat),.int .i64 ((coll:Int)+1),.pointer (some ⟨ph,0,none⟩),.pointer (some ⟨ph,12,none⟩),.pointer (some ⟨ph,0,none⟩),.agg #[.pointer (some ⟨ph,0,none⟩),.int .i64 1,.slice none 0 0],.pointer (some ⟨ph,0,none⟩),.pointer (some ⟨ph,0,none⟩),.pointer (some ⟨ph,6,none⟩),.func (.func 146) #[] #[.pointer (some ⟨w.heap.size+1+1,0,none⟩)],.int .i64 (q:Nat),.int .u64 (val q:Nat),undef,undef,undef,undef,undef,undef,undef,undef,undef,undef,undef,undef,undef,undef,undef,undef,undef,undef,undef,undef,undef,undef,undef,undef,undef,undef,undef,undef,undef,undef,undef,undef,undef,undef,undef,undef,undef,undef,undef,undef,undef,undef,undef,undef,undef],defers:=[] }) ?hassign ?hbody ?hdone
 case hcall=>
  rintro J' W1 ⟨o1,o2,rfl⟩ hJ0 hJb hJI hJs hJY
  have hI1:=hJI _ _ hJ0
  refine all1_any Fence.wide 5 trivial rfl (by omega) _ (w.heap.size+1+1) ph 6 g N cap a hN hcap val use J' hJb (fun q W hq hJ=>unhide HIR q W hq (hJI q W hJ)) hJs hJY _ ?_ (unhide HROW _ hI1) hJ0
  exact ((((Below.refl W0.heap.size W0).alloc (Nat.le_refl _) o1).alloc (by simp) o2).cell (p:=⟨w.heap.size+1+1,0,none⟩) (by show w.heap.size+1+1<_;omega)).trans hbx
 case hIp=>rw[hsz];exact unhide HIp
 case hassign=>
  intro q W K hq hu hK
  gi_wp2
  exact hK
 case hbody=>
  intro q W hq hu hI hlt hrec
  rw[hsz] at hlt hrec ⊢
  have hId:=unhide HIb q W W.drew hI (Still.below ⟨rfl,rfl,rfl,rfl⟩)
  have c1:=unhide HIC q W hI
  have H65:=hide (unhide HMV q W.drew hq hu hId hlt hrec)
  have H63:=hide (fun W'=>unhide HST q W' hq hu)
  clear hI hId HI0 HIb HIp HSK HIR HIC HROW HMV HST HS0
  have hmx:Tryz.prog.follows .mixedOrders=true:=by kernel_rfl
  have hd1:1≤6-1-1:=by omega
  gi_wp2
  gi_region_with_o (first|(refine ⟨trivial,?_⟩;gi_at_call 110;refine (CallsIn.inRound _ (callsIn_wide.2 (unhide H65))).mono ?_;rintro e w2 ⟨rfl,hj,k1,k2⟩;have c2:=unhide HJC q w2 hj)|(refine ⟨trivial,?_⟩;gi_at_call 109;refine (CallsIn.inRound _ (callsIn_wide.2 (unhide H63 _ hj))).mono ?_;rintro e w3 ⟨rfl,hi3,k3,k4⟩))
  all_goals exact ⟨hi3,k3.trans k1,k4.trans k2⟩
 case hdone=>
  intro W hI hK hlt
  rw[hsz] at hK hlt
  have HSv:=hide (unhide HS0 W hI hlt hK)
  clear hI HI0 HIb HIp HSK HIR HIC HJC HROW HMV HST HS0
  rw[hsz]
  go_wp2
  go_loopw [27] (fun p wr=>Sv wr) (fun p wr=>μ wr)
  case atStart=>exact unhide HSv
  case round=>
   clear HSv
   obtain ⟨u,hcall⟩:=unhide HSTEP wr hrel
   have H66:=hide hcall
   clear hcall
   cases u with
   | true=>
    go_wp2_with fail
    refine (unhide H66).mono ?_
    rintro e w2 ⟨rfl,h2,_⟩
    go_wp2
    go_roundw
    case rel=>exact (h2 trivial).1
    case measure=>exact (h2 trivial).2
   | false=>
    go_wp2_with fail
    refine (unhide H66).mono ?_
    rintro e w2 ⟨rfl,_,h2⟩
    obtain ⟨c1,c2,c3,c4,c5⟩:=unhide HT w2 (h2 trivial)
    have HT9:=hide (h2 trivial)
    have hpb:ph≠w.heap.size:=by omega
    clear h2 H66 HSTEP HT hrel
    go_wp2
    refine wp_region_noPanic ?_
    go_region
    refine NoPanic.normal ?_
    go_wp2_with fail
    refine (unhide HCL w2 (unhide HT9)).mono ?_
    clear c1 c2 c3 c4 c5 HT9 HCL
    rintro e w3 ⟨rfl,ht2⟩
    have c1:=unhide HT2 w3 ht2
    have H68:=hide (unhide HSW w3 ht2)
    clear ht2 HT2 HSW
    go_wp2_with fail
    refine (unhide H68).mono ?_
    clear H68 c1
    rintro e w4 ⟨rfl,ht3⟩
    obtain ⟨c1,c2,c3,⟨x4,c4⟩,c5,⟨x6,c6⟩,c7,hKD⟩:=unhide HT3 w4 ht3
    have H43:=hide (unhide HUS w4 ht3)
    have HR4:=hide (unhide HRR w4 ht3)
    have HKD:=hide hKD
    clear ht3 HT3 HUS HRR hKD
    go_wp2
    refine wp_region_noPanic ?_
    go_region
    refine NoPanic.normal ?_
    have e8:IntKind.i64.wrap ((U:Int)-1)=(U:Int)-1:=by rw[show (U:Int)-1=((U-1:Nat):Int) by omega];exact wrap_nat _ (by omega)
    have d1:(w4.setCell ⟨ph,10,none⟩ (.int .i64 (lg:Nat))).cell? ⟨ph,1,none⟩=some (.pointer (some ⟨ps,0,none⟩)):=by rw[World.cell?_setCell_other _ _ _ _ (by simp)];exact c2
    have d2:(w4.setCell ⟨ph,10,none⟩ (.int .i64 (lg:Nat))).cell? ⟨ph,11,none⟩=some (.int .i64 x6):=by rw[World.cell?_setCell_other _ _ _ _ (by simp)];exact c6
    have d3:(w4.setCell ⟨ph,10,none⟩ (.int .i64 (lg:Nat))).cell? ⟨w.heap.size,0,none⟩=some (.pointer (some ⟨ph,0,none⟩)):=by rw[World.cell?_setCell_other _ _ _ _ (by simp)];exact c1
    have d4:(w4.setCell ⟨ph,10,none⟩ (.int .i64 (lg:Nat))).frozen? ⟨ph,11,none⟩=false:=by rw[World.frozen?_setCell];exact c7
    have HST5:=hide (show Still (w4.setCell ⟨ph,10,none⟩ (.int .i64 (lg:Nat))) (w4.setCell ⟨ph,10,none⟩ (.int .i64 (lg:Nat))).drew from ⟨rfl,rfl,rfl,rfl⟩)
    have HK5:=hide (show (w4.setCell ⟨ph,10,none⟩ (.int .i64 (lg:Nat))).heap[w.heap.size+3]?=some (.deferred (some [])) from (setCell_else _ _ _ _ _ (by omega)).trans (unhide HKD))
    go_wp2
    generalize w4.setCell ⟨ph,10,none⟩ (.int .i64 (lg:Nat))=W5 at *
    have d5:(W5.setCell ⟨ph,11,none⟩ (.int .i64 ((U:Int)-1))).cell? ⟨ph,1,none⟩=some (.pointer (some ⟨ps,0,none⟩)):=by rw[World.cell?_setCell_other _ _ _ _ (by simp)];exact d1
    go_region_held3 (fun w'=>w'.cell? ⟨w.heap.size,0,none⟩=some (.pointer (some ⟨ph,0,none⟩))∧w'.cell? ⟨ph,1,none⟩=some (.pointer (some ⟨ps,0,none⟩))) (go_keep) (first|(go_at_call 64;refine (unhide H43 W5.drew.drew ⟨rfl,rfl,rfl,rfl⟩).mono ?_;rintro e w5 ⟨rfl,rfl⟩))
    all_goals go_wp2
    have hkz:((W5.setCell ⟨ph,11,none⟩ (.int .i64 ((U:Int)-1))).drew.drew).heap[w.heap.size+3]?=some (.deferred (some [])):=(setCell_else _ _ _ _ _ (by omega)).trans (unhide HK5)
    refine ⟨by simp,.inl ⟨_,_,rfl,run_takeDeferred hkz,?_⟩⟩
    exact ⟨_,results_none rfl _ _ _,rfl,unhide HR4 ((W5.setCell ⟨ph,11,none⟩ (.int .i64 ((U:Int)-1))).drew.drew) ⟨rfl,rfl,rfl,rfl⟩ _⟩
end Go.Proofs.YtnfbaapbpgbgpaaGreat
namespace Go.Proofs.YtnfbaapbpgbgpaaGreat
open Go.ChangeShapes Go.WideShapes Go.ChangeAt Go.RowKit
set_option linter.unusedVariables false
set_option maxRecDepth 100000
set_option maxHeartbeats 1000000
def tagC (tag:Nat→Nat) (pc:Nat):Nat→Nat:=fun g=>if g=pc then 6 else tag g
structure HdAt (w:World) (tag0:Nat→Nat) (ph:Nat) (M:Hp) (H:HC) (q q':Nat) (W:World) (tag:Nat→Nat) (H':HC) (v:Value):Prop where
 raw:HRaw W ph tag H'
 mid:MidC M (rootsW M q') (fun _=>0) H'
 eq:H' = { H with coll:=H.coll+1,A:=H'.A,S:=H'.S,re:=H'.re,bk:=H'.bk,cH:=H'.cH }
 cH:∀ x,H'.cH.getD x none=(M.roots.getD x none).map (if x<q then newRef M (rootsW M q').cop else refW M)
 len:H'.cH.length=H.cH.length
 cat:CAt W (w.heap.size+1) ph tag 1 v ((rootsW M q').lin.map (bpL M H'))
 fr:Fr tag0 tag (collW w ph H.coll) W
 z3:tag (w.heap.size+3)=0
 z4:tag (w.heap.size+4)=0
 sz:w.heap.size+5≤W.heap.size
theorem HdAt.below {w:World}{tag0:Nat→Nat}{ph:Nat}{M:Hp}{H:HC}{q q':Nat}{W W':World}{tag:Nat→Nat}{H':HC}{v:Value} (h:HdAt w tag0 ph M H q q' W tag H' v) (k:Below W.heap.size W W'):HdAt w tag0 ph M H q q' W' tag H' v:=
 ⟨h.raw.below k,h.mid,h.eq,h.cH,h.len,h.cat.conf (fun g e=>k.block g (h.raw.un g (by omega))) (fun g e=>k.block g (h.raw.un g (by omega))),h.fr.trans (Fr.of_below k),h.z3,h.z4,Nat.le_trans h.sz k.size⟩
theorem collW_box (w:World) (ph coll:Nat):(collW w ph coll).cell? ⟨w.heap.size,0,none⟩=some (.pointer (some ⟨ph,0,none⟩)):=by
 unfold collW
 have hs:(w.setCell ⟨ph,12,none⟩ (.int .i64 ((coll:Int)+1))).heap.size=w.heap.size:=World.size_setCell ..
 rw[← hs]
 generalize w.setCell ⟨ph,12,none⟩ (.int .i64 ((coll:Int)+1))=W
 have k:Below (W.alloc (.cells #[.pointer (some ⟨ph,0,none⟩)] 26)).heap.size (W.alloc (.cells #[.pointer (some ⟨ph,0,none⟩)] 26)) (((W.alloc (.cells #[.pointer (some ⟨ph,0,none⟩)] 26)).alloc (.cells #[.pointer (some ⟨ph,0,none⟩),.int .i64 1,.slice none 0 0] 177)).alloc (.cells #[.pointer (some ⟨ph,6,none⟩)] 146)):=((Below.refl _ _).alloc (Nat.le_refl _) _).alloc (by simp) _
 exact (k.cell (p:=⟨W.heap.size,0,none⟩) (by simp)).trans (cell_made rfl _ _)
theorem HdAt.box {w:World}{tag0:Nat→Nat}{ph:Nat}{M:Hp}{H:HC}{q q':Nat}{W:World}{tag:Nat→Nat}{H':HC}{v:Value} (h:HdAt w tag0 ph M H q q' W tag H' v) (hz:tag0 w.heap.size=0):W.cell? ⟨w.heap.size,0,none⟩=some (.pointer (some ⟨ph,0,none⟩)):=by
 have:=(h.fr.blk w.heap.size (by rw[collW_size];omega) hz).1
 rw[cell_like this]
 exact collW_box w ph H.coll
theorem roots_mem {M:Hp}{x i:Nat} (h:M.roots.getD x none=some i):some i∈M.roots:=by
 rw[List.getD_eq_getElem?_getD] at h
 cases hx:M.roots[x]? with
 | none=>rw[hx] at h;cases h
 | some y=>
  rw[hx] at h
  have:y=some i:=h
  rw[← this]
  exact List.mem_of_getElem? hx
theorem hd_start {w:World}{ph:Nat}{tag:Nat→Nat}{M:Hp}{H:HC} (h:HAt w ph tag M H) (o1 o2:Obj):
  HdAt w (tagC tag (w.heap.size+1)) ph M H 0 0 (((collW w ph H.coll).alloc o1).alloc o2) (tagC tag (w.heap.size+1)) { H with coll:=H.coll+1 } (.slice none 0 0):=by
 have hph:ph<w.heap.size:=h.raw.un ph (by rw[h.raw.t1];decide)
 have hun:∀ g,w.heap.size≤g→tag g=0:=fun g hg=>Classical.byContradiction (fun q=>by have:=h.raw.un g q;omega)
 have k:Below (collW w ph H.coll).heap.size (collW w ph H.coll) (((collW w ph H.coll).alloc o1).alloc o2):=((Below.refl _ _).alloc (Nat.le_refl _) _).alloc (by simp) _
 have hsz:=collW_size w ph H.coll
 have ho:∀ q,q≠12→(w.setCell ⟨ph,12,none⟩ (.int .i64 ((H.coll:Int)+1))).cell? ⟨ph,q,none⟩=w.cell? ⟨ph,q,none⟩:=fun q hq=>World.cell?_setCell_other _ _ _ _ (by intro e;cases e;exact hq rfl)
 have h1:=h.raw.nums (w':=w.setCell ⟨ph,12,none⟩ (.int .i64 ((H.coll:Int)+1))) (by rw[World.size_setCell];exact Nat.le_refl _) (fun g _ hn=>setCell_else _ _ _ _ _ hn) (fun q=>by rw[World.frozen?_setCell]) (fun q hq=>ho q (by omega)) H.large H.kept H.moved (H.coll+1) H.resz
  ((ho 9 (by decide)).trans h.raw.n9) ((ho 10 (by decide)).trans h.raw.n10) ((ho 11 (by decide)).trans h.raw.n11) (World.cell?_setCell_same' _ _ _ (by rw[h.raw.n12];rfl)) ((ho 13 (by decide)).trans h.raw.n13)
 have hB:Below (w.setCell ⟨ph,12,none⟩ (.int .i64 ((H.coll:Int)+1))).heap.size (w.setCell ⟨ph,12,none⟩ (.int .i64 ((H.coll:Int)+1))) (collW w ph H.coll):=by
  unfold collW
  exact (((Below.refl _ _).alloc (Nat.le_refl _) _).alloc (by simp) _).alloc (by simp;omega) _
 have h2:=(h1.below hB).below k
 have hcp:∀ q u,#[Value.pointer (some ⟨ph,0,none⟩),.int .i64 1,.slice none 0 0][q]?=some u→(((collW w ph H.coll).alloc o1).alloc o2).cell? ⟨w.heap.size+1,q,none⟩=some u∧(((collW w ph H.coll).alloc o1).alloc o2).frozen? ⟨w.heap.size+1,q,none⟩=false:=by
  intro q u hu
  have hblk:(((collW w ph H.coll).alloc o1).alloc o2).heap[w.heap.size+1]?=some (.cells #[.pointer (some ⟨ph,0,none⟩),.int .i64 1,.slice none 0 0] 177 (0,0)):=by
   rw[k.block _ (by rw[hsz];omega)]
   unfold collW
   have hs:(w.setCell ⟨ph,12,none⟩ (.int .i64 ((H.coll:Int)+1))).heap.size=w.heap.size:=World.size_setCell ..
   have e:=heap_alloc_new ((w.setCell ⟨ph,12,none⟩ (.int .i64 ((H.coll:Int)+1))).alloc (.cells #[.pointer (some ⟨ph,0,none⟩)] 26)) (.cells #[.pointer (some ⟨ph,0,none⟩),.int .i64 1,.slice none 0 0] 177)
   rw[World.size_alloc,hs] at e
   rw[heap_alloc_old _ _ (by rw[World.size_alloc,World.size_alloc,hs];omega)]
   exact e
  constructor
  ·simp only[World.cell?,hblk];simpa using hu
  ·simp only[World.frozen?,hblk];simp
 refine ⟨?_,⟨h.A,h.S,h.cB,h.bk,fun s hs=>?_,⟨List.nodup_nil,List.nodup_nil⟩,fun i hi=>absurd hi (by simp [rootsW]),fun i hi=>absurd hi (by simp [rootsW]),fun _ _ _=>rfl,fun i r hr=>absurd hr (by simp)⟩,rfl,fun x=>?_,rfl,?_,Fr.of_below k,?_,?_,by simp;omega⟩
 ·refine h2.retag (fun g hg=>?_) (fun g hg=>?_)
  ·unfold tagC;rw[if_neg (by have:=h.raw.un g hg;omega)]
  ·unfold tagC at hg
   split at hg
   ·rename_i e;rw[e];simp;omega
   ·have:=h.raw.un g hg;simp;omega
 ·show H.re s=H.coll+1↔_∈(rootsW M 0).lin
  have:=h.re s hs
  constructor
  ·intro e;omega
  ·intro e;exact absurd e (by simp [rootsW])
 ·show H.cH.getD x none=_
  rw[h.cH x,if_neg (by omega)]
 ·refine ⟨(hcp 0 _ rfl).1,(hcp 1 _ rfl).1,(hcp 2 _ rfl).1,(hcp 1 _ rfl).2,(hcp 2 _ rfl).2,.inl ⟨rfl,by simp [rootsW]⟩,by unfold tagC;rw[if_pos rfl],fun g hg=>by cases hg⟩
 ·unfold tagC;rw[if_neg (by omega)];exact hun _ (by omega)
 ·unfold tagC;rw[if_neg (by omega)];exact hun _ (by omega)
theorem hd_move {w:World}{tag0:Nat→Nat}{ph:Nat}{M:Hp}{H:HC} (ok:HpOk M) {q:Nat}{W:World}{tag:Nat→Nat}{H':HC}{v:Value} (h:HdAt w tag0 ph M H q q W tag H' v) (i:Nat) (hi:M.roots.getD q none=some i):
  Calls Tryz.prog 110 #[.pointer (some ⟨w.heap.size+1,0,none⟩),.int .u64 (refW M i:Nat)] W fun e w'=>e=.returned (.int .u64 (newRef M (rootsW M (q+1)).cop i:Nat))∧(∃ tag' H'' v',HdAt w tag0 ph M H q (q+1) w' tag' H'' v')∧w'.heap[w.heap.size+4]?=W.heap[w.heap.size+4]?∧w'.heap[w.heap.size+3]?=W.heap[w.heap.size+3]?:=by
 have hs:rootsW M (q+1)=reachW M (rootsW M q) i:=by rw[rootsW_succ,hi]
 have hcat:=h.cat
 have hc0:CAt W (w.heap.size+1) ph tag 1 v (((rootsW M q).lin.drop 0).map (bpL M H')):=hcat
 refine (mid_move ok h.mid h.raw (Nat.zero_le _) hc0 (lin_le ok h.mid) i (ok.rt i (roots_mem hi))).mono ?_
 rintro e w' ⟨rfl,tag',H2,v',a1,a2,a3,a4,a5⟩
 have hsz:=h.sz
 have b3:=a5.blk (w.heap.size+3) (by omega) h.z3
 have b4:=a5.blk (w.heap.size+4) (by omega) h.z4
 rw[← hs] at a2 a4 ⊢
 have e1:H2.cH=H'.cH:=by rw[a3]
 refine ⟨rfl,⟨tag',H2,v',⟨a1,a2,?_,fun x=>?_,by rw[e1];exact h.len,a4,h.fr.trans a5,b3.2,b4.2,Nat.le_trans hsz a5.size⟩⟩,b4.1,b3.1⟩
 ·have hE:=h.eq
  rw[hE] at a3
  exact a3.trans (by rw[a3])
 ·rw[e1,h.cH x]
  cases hx:M.roots.getD x none with
  | none=>rfl
  | some r=>
   by_cases hxq:x<q
   ·rw[if_pos hxq,if_pos hxq]
    show some (newRef M (rootsW M q).cop r)=some (newRef M (rootsW M (q+1)).cop r)
    obtain ⟨t,ht⟩:=(reachW_mono M (rootsW M q) i).1
    rw[hs,ht,newRef_more]
    rcases rootsW_has M q x r hxq hx with z|z|z
    ·exact .inl z
    ·exact .inr (.inr z)
    ·exact .inr (.inl (lin_big ok h.mid r z))
   ·rw[if_neg hxq,if_neg hxq]
theorem hd_set {w:World}{tag0:Nat→Nat}{ph:Nat}{M:Hp}{H:HC}{q:Nat}{W:World}{tag:Nat→Nat}{H':HC}{v:Value} (h:HdAt w tag0 ph M H q (q+1) W tag H' v) (i:Nat) (hi:M.roots.getD q none=some i):
  Calls Tryz.prog 109 #[.pointer (some ⟨ph,6,none⟩),.int .i64 (q:Nat),.int .u64 (newRef M (rootsW M (q+1)).cop i:Nat)] W fun e w'=>e=.returned (.tuple #[])∧(∃ tag' H'' v',HdAt w tag0 ph M H (q+1) (q+1) w' tag' H'' v')∧w'.heap[w.heap.size+4]?=W.heap[w.heap.size+4]?∧w'.heap[w.heap.size+3]?=W.heap[w.heap.size+3]?:=by
 have hu:H'.cH.getD q none≠none:=by rw[h.cH q,hi];exact fun x=>by cases x
 have hql:q<H'.cH.length:=Classical.byContradiction (fun x=>hu (by rw[List.getD_eq_getElem?_getD,List.getElem?_eq_none (Nat.le_of_not_lt x)];rfl))
 refine (set_any h.raw.pH q (newRef M (rootsW M (q+1)).cop i) hu).mono ?_
 rintro e w' ⟨rfl,p1,p2⟩
 have hsz:=h.sz
 have hbb:∀ g,tag g≠0→tag g ∉ [4]→w'.heap[g]?=W.heap[g]?:=fun g q1 q2=>p2.block g (h.raw.un g q1) (fun hm=>q2 (by
  rw[h.raw.tH.1 g (mem_gB.1 hm)];simp))
 have h0:∀ g,g<W.heap.size→tag g=0→w'.heap[g]?=W.heap[g]?:=fun g hg e=>p2.block g hg (fun hm=>by
  have:=h.raw.tH.1 g (mem_gB.1 hm);omega)
 have h':=h.raw.turn [4] (by simp) (by simp) p2.size hbb H'.A H'.S (H'.cH.set q (some (newRef M (rootsW M (q+1)).cop i))) H'.bk H'.re (.inl ⟨by simp,rfl⟩) (.inl ⟨by simp,rfl⟩) (.inr p1) (fun s bp hs=>.inl ⟨by simp;omega,rfl,rfl⟩)
 refine ⟨rfl,⟨tag,_,v,⟨h',⟨h.mid.A,h.mid.S,h.mid.cB,h.mid.bk,h.mid.re,h.mid.nd,h.mid.cs,h.mid.ls,h.mid.pg0,h.mid.pgd⟩,?_,fun x=>?_,?_,h.cat.keep [4] (by simp) (by simp) hbb,h.fr.trans ⟨p2.os,p2.tape,p2.output,p2.size,fun g hg e=>⟨h0 g hg e,e⟩⟩,h.z3,h.z4,Nat.le_trans hsz p2.size⟩⟩,h0 _ (by omega) h.z4,h0 _ (by omega) h.z3⟩
 ·have hE:=h.eq
  rw[hE]
 ·show (H'.cH.set q (some (newRef M (rootsW M (q+1)).cop i))).getD x none=_
  rw[getD_set_opt _ _ _ _ hql]
  by_cases e:x=q
  ·subst e
   rw[if_pos rfl,hi,if_pos (by omega)]
   rfl
  ·rw[if_neg e,h.cH x]
   by_cases hx:x<q
   ·rw[if_pos hx,if_pos (by omega)]
   ·rw[if_neg hx,if_neg (by omega)]
 ·show (H'.cH.set q _).length=_
  rw[List.length_set]
  exact h.len
def swT (H:HC) (q s:Nat):Nat:=if (H.cB.getD s none).isSome=true∧(q≤s∨H.re s=H.coll) then (H.bk s).size else 0
structure SwAt (w:World) (tag:Nat→Nat) (ph n0:Nat) (H:HC) (q:Nat) (W:World) (tag':Nat→Nat) (H':HC):Prop where
 raw:HRaw W ph tag' H'
 fr:Fr tag tag' (sweepW w ph) W
 eq:H' = { H with large:=sumB H.cB.length (swT H q),cB:=H'.cB,frB:=H'.frB,vcB:=H'.vcB,vfB:=H'.vfB }
 cB:∀ s,H'.cB.getD s none=if s<q∧H.re s≠H.coll then none else H.cB.getD s none
 len:q<H.cB.length→H'.cB.length=H.cB.length
 le:H'.cB.length≤H.cB.length
 own:H'.vcB.ownBlock=H.vcB.ownBlock
 v0:q=0→H'.vcB=H.vcB
 fl:∀ x∈H'.frB,x<n0
 box:W.cell? ⟨w.heap.size,0,none⟩=some (.pointer (some ⟨ph,0,none⟩))
 z2:tag' (w.heap.size+2)=0
 z3:tag' (w.heap.size+3)=0
 sz:w.heap.size+4≤W.heap.size
theorem SwAt.below {w:World}{tag:Nat→Nat}{ph n0:Nat}{H:HC}{q:Nat}{W W':World}{tag':Nat→Nat}{H':HC} (h:SwAt w tag ph n0 H q W tag' H') (k:Below W.heap.size W W'):SwAt w tag ph n0 H q W' tag' H':=
 ⟨h.raw.below k,h.fr.trans (Fr.of_below k),h.eq,h.cB,h.len,h.le,h.own,h.v0,h.fl,(k.cell (p:=⟨w.heap.size,0,none⟩) (by have:=h.sz;show w.heap.size<_;omega)).trans h.box,h.z2,h.z3,Nat.le_trans h.sz k.size⟩
theorem hraw_large {w:World}{ph:Nat}{tag:Nat→Nat}{H:HC} (h:HRaw w ph tag H) (x:Nat):HRaw (w.setCell ⟨ph,9,none⟩ (.int .i64 (x:Nat))) ph tag { H with large:=x }:=by
 have ho:∀ q,q≠9→(w.setCell ⟨ph,9,none⟩ (.int .i64 (x:Nat))).cell? ⟨ph,q,none⟩=w.cell? ⟨ph,q,none⟩:=fun q hq=>World.cell?_setCell_other _ _ _ _ (by intro e;cases e;exact hq rfl)
 exact h.nums (by rw[World.size_setCell];exact Nat.le_refl _) (fun g _ hn=>setCell_else _ _ _ _ _ hn) (fun q=>by rw[World.frozen?_setCell]) (fun q hq=>ho q (by omega)) x H.kept H.moved H.coll H.resz
  (World.cell?_setCell_same' _ _ _ (by rw[h.n9];rfl)) ((ho 10 (by decide)).trans h.n10) ((ho 11 (by decide)).trans h.n11) ((ho 12 (by decide)).trans h.n12) ((ho 13 (by decide)).trans h.n13)
theorem hraw_put {W:World}{ph:Nat}{tag:Nat→Nat}{H:HC} (h:HRaw W ph tag H) (l:Nat) (o':Obj) (hz:tag l=0):HRaw (W.putObj l o') ph tag H:=
 h.same (by simp) (fun g hg=>World.putObj_heap_other (by rintro rfl;exact hg hz))
theorem cell_put {W:World}{b q l:Nat} (o':Obj) (h:b≠l):(W.putObj l o').cell? ⟨b,q,none⟩=W.cell? ⟨b,q,none⟩:=cell_like (World.putObj_heap_other h) q
theorem sweep_any {w:World}{ph:Nat}{tag:Nat→Nat}{H:HC} (h:HRaw w ph tag H) (n0:Nat) (hn0:n0≤1000000) (hl0:H.cB.length≤n0) (hfl:∀ x∈H.frB,x<n0) (hlg:H.large=sumB H.cB.length (swT H 0)) (hl2:H.large≤1048576):
  Calls Tryz.prog 113 #[.pointer (some ⟨ph,0,none⟩)] w fun e w'=>e=.returned (.tuple #[])∧∃ tag' H',HRaw w' ph tag' H'∧Fr tag tag' w w'∧H' = { H with large:=sumB H.cB.length (swT H H.cB.length),cB:=H'.cB,frB:=H'.frB,vcB:=H'.vcB,vfB:=H'.vfB }∧
   (∀ s,H'.cB.getD s none=if H.re s≠H.coll then none else H.cB.getD s none)∧H'.cB.length≤H.cB.length∧∀ x∈H'.frB,x<n0:=by
 have hph:ph<w.heap.size:=h.un ph (by rw[h.t1];decide)
 obtain ⟨a,cap,hvc⟩:=h.pB.row.shape
 have hcap:H.cB.length≤cap:=by
  rcases h.pB.row with ⟨h1,h2⟩|⟨g',cap',cur,h1,h2,h3,h4,h5,h6⟩
  ·omega
  ·rw[hvc] at h1;injection h1 with e1 e2 e3;omega
 obtain ⟨g,hg⟩:∃ g,0<H.cB.length→a=some ⟨g,0,none⟩:=by
  by_cases h0:0<H.cB.length
  ·obtain ⟨g,cap',hv',hg,hc⟩:=h.pB.row.at h0
   rw[hvc] at hv'
   cases hv'
   exact ⟨g,fun _=>rfl⟩
  ·exact ⟨0,fun x=>absurd x h0⟩
 have hswle:∀ q,sumB H.cB.length (swT H q)≤sumB H.cB.length (swT H 0):=fun q=>sumB_le _ _ _ (fun s=>by
  unfold swT
  split
  ·rename_i x;rw[if_pos ⟨x.1,.inl (Nat.zero_le _)⟩];exact Nat.le_refl _
  ·exact Nat.zero_le _)
 have hB:Below w.heap.size w (sweepW w ph):=by
  unfold sweepW
  exact ((Below.refl _ w).alloc (Nat.le_refl _) _).alloc (by simp) _
 have hbox0:(sweepW w ph).cell? ⟨w.heap.size,0,none⟩=some (.pointer (some ⟨ph,0,none⟩)):=by
  unfold sweepW
  have e1:=(((Below.refl (w.alloc (.cells #[.pointer (some ⟨ph,0,none⟩)] 26)).heap.size (w.alloc (.cells #[.pointer (some ⟨ph,0,none⟩)] 26))).alloc (Nat.le_refl _) (.cells #[.pointer (some ⟨ph,3,none⟩)] 206)).cell (p:=⟨w.heap.size,0,none⟩) (by simp))
  exact e1.trans (cell_made rfl _ _)
 have key:=sweep_walk (w:=w) (ph:=ph) (coll:=H.coll) (g:=g) (N:=H.cB.length) (cap:=cap) (a:=a) hph (by omega) hcap
  (fun q=>(H.cB.getD q none).getD 0) H.re (fun q=>(H.at' q).1) (fun q=>swT H q q) (fun q=>sumB H.cB.length (swT H q)) (fun q=>(H.cB.getD q none).isSome)
  (fun q W=>∃ tag' H',SwAt w tag ph n0 H q W tag' H') (fun W=>∃ tag' H',HRaw W ph tag' H'∧Fr tag tag' w W∧H' = { H with large:=sumB H.cB.length (swT H H.cB.length),cB:=H'.cB,frB:=H'.frB,vcB:=H'.vcB,vfB:=H'.vfB }∧
   (∀ s,H'.cB.getD s none=if H.re s≠H.coll then none else H.cB.getD s none)∧H'.cB.length≤H.cB.length∧∀ x∈H'.frB,x<n0)
  (fun q=>by
   by_cases hq:q<H.cB.length
   ·exact sumB_ge (swT H q) q _ hq
   ·show swT H q q≤_
    unfold swT
    rw[if_neg (by rw[List.getD_eq_getElem?_getD,List.getElem?_eq_none (Nat.le_of_not_lt hq)];simp)]
    exact Nat.zero_le _)
  (fun q=>by have:=hswle q;rw[← hlg] at this;omega)
  ?hI0 ?hIb ?hIp ?hsk ?hIr ?hIc ?hIv ?hrow ?hkeep ?hsize ?hdrop ?hR
 ·exact key
 case hI0=>
  intro o1 o2
  have k:Below (sweepW w ph).heap.size (sweepW w ph) (((sweepW w ph).alloc o1).alloc o2):=((Below.refl _ _).alloc (Nat.le_refl _) _).alloc (by simp) _
  have hs:=sweepW_size w ph
  refine ⟨tag,H,(h.below hB).below k,Fr.of_below k,?_,fun s=>by rw[if_neg (by omega)],fun _=>rfl,Nat.le_refl _,rfl,fun _=>rfl,hfl,(k.cell (p:=⟨w.heap.size,0,none⟩) (by show w.heap.size<_;omega)).trans hbox0,?_,?_,by simp;omega⟩
  ·rw[← hlg]
  ·exact Classical.byContradiction (fun q=>by have:=h.un _ q;omega)
  ·exact Classical.byContradiction (fun q=>by have:=h.un _ q;omega)
 case hIb=>
  rintro q W W' ⟨tag',H',hs⟩ hb
  exact ⟨tag',H',hs.below hb⟩
 case hIp=>
  rintro q W o o' hl ho ⟨tag',H',hs⟩
  refine ⟨tag',H',hraw_put hs.raw _ o' hs.z3,⟨hs.fr.os,hs.fr.tape,hs.fr.output,by have:=hs.fr.size;simpa using this,fun x hx e=>?_⟩,hs.eq,hs.cB,hs.len,hs.le,hs.own,hs.v0,hs.fl,?_,hs.z2,hs.z3,by have:=hs.sz;simpa using this⟩
  ·have:=hs.fr.blk x hx e
   have hsz:=sweepW_size w ph
   exact ⟨(World.putObj_heap_other (by omega)).trans this.1,this.2⟩
  ·rw[cell_put o' (by omega)];exact hs.box
 case hsk=>
  rintro q W hq hu ⟨tag',H',hs⟩
  have e1:sumB H.cB.length (swT H q)=sumB H.cB.length (swT H (q+1)):=sumB_congr _ _ _ (fun s _=>by
   unfold swT
   by_cases e:s=q
   ·subst e;rw[hu];simp
   ·congr 1;simp;intro _;omega)
  refine ⟨tag',H',hs.raw,hs.fr,by rw[← e1];exact hs.eq,fun s=>?_,fun _=>hs.len hq,hs.le,hs.own,fun x=>absurd x (by omega),hs.fl,hs.box,hs.z2,hs.z3,hs.sz⟩
  rw[hs.cB s]
  by_cases e:s=q
  ·subst e
   have hn:H.cB.getD s none=none:=by
    cases hx:H.cB.getD s none with
    | none=>rfl
    | some x=>rw[hx] at hu;cases hu
   rw[hn]
   split <;> split <;> rfl
  ·congr 1
   simp only[eq_iff_iff]
   constructor
   ·rintro ⟨q1,q2⟩;exact ⟨by omega,q2⟩
   ·rintro ⟨q1,q2⟩;exact ⟨by omega,q2⟩
 case hIr=>
  rintro q W hq ⟨tag',H',hs⟩
  have hlen:=hs.len hq
  have ha:=hg (by omega)
  obtain ⟨g',cap',hv',hg',hc'⟩:=hs.raw.pB.row.at (by rw[hlen];omega)
  have hgg:g'=g:=by
   have q1:=hs.own
   rw[hg',hvc,ha] at q1
   cases q1
   rfl
  subst hgg
  have q0:=hs.cB q
  rw[if_neg (by omega)] at q0
  refine ⟨ha,?_,?_⟩
  ·have:=(hc' (q*2) (by rw[hlen];omega)).1
   rw[pc_thing,q0] at this
   rw[this]
   cases hx:H.cB.getD q none with
   | none=>rfl
   | some x=>rfl
  ·have:=(hc' (q*2+1) (by rw[hlen];omega)).1
   rw[pc_used,q0] at this
   exact this
 case hIc=>
  rintro q W ⟨tag',H',hs⟩
  have e1:H'.large=sumB H.cB.length (swT H q):=by rw[hs.eq]
  have e2:H'.coll=H.coll:=by rw[hs.eq]
  refine ⟨hs.box,by rw[← e2];exact hs.raw.n12,?_,hs.raw.fz 9 (by decide)⟩
  have:=hs.raw.n9
  rw[e1] at this
  exact this
 case hIv=>
  rintro q W hq hu ⟨tag',H',hs⟩
  obtain ⟨bp,hbp⟩:=Option.isSome_iff_exists.1 hu
  have q0:=hs.cB q
  rw[if_neg (by omega),hbp] at q0
  have hb:=hs.raw.bB q bp q0
  have e1:H'.re=H.re:=by rw[hs.eq]
  have e2:H'.at'=H.at':=by rw[hs.eq]
  rw[e1,e2] at hb
  show W.cell? ⟨(H.cB.getD q none).getD 0,1,none⟩=_∧W.cell? ⟨(H.cB.getD q none).getD 0,0,none⟩=_∧(H.cB.getD q none).getD 0≠ph
  rw[hbp]
  refine ⟨hb.c1,hb.c0,fun e=>?_⟩
  have t1:=(hs.raw.tK q bp q0).1
  have e':bp=ph:=e
  rw[e',hs.raw.t1] at t1
  omega
 case hrow=>
  rintro W ⟨tag',H',hs⟩
  have:=hs.raw.pB.c0
  rw[hs.v0 rfl,hvc] at this
  exact this
 case hkeep=>
  rintro q W hq hu hre ⟨tag',H',hs⟩
  have e1:sumB H.cB.length (swT H q)=sumB H.cB.length (swT H (q+1)):=sumB_congr _ _ _ (fun s _=>by
   unfold swT
   by_cases e:s=q
   ·subst e;simp [hre]
   ·congr 1;simp;intro _;omega)
  refine ⟨tag',H',hs.raw,hs.fr,by rw[← e1];exact hs.eq,fun s=>?_,fun _=>hs.len hq,hs.le,hs.own,fun x=>absurd x (by omega),hs.fl,hs.box,hs.z2,hs.z3,hs.sz⟩
  rw[hs.cB s]
  by_cases e:s=q
  ·subst e
   rw[if_neg (by omega),if_neg (fun x=>x.2 hre)]
  ·congr 1
   simp only[eq_iff_iff]
   constructor
   ·rintro ⟨q1,q2⟩;exact ⟨by omega,q2⟩
   ·rintro ⟨q1,q2⟩;exact ⟨by omega,q2⟩
 case hsize=>
  rintro q W hq hu ⟨tag',H',hs⟩
  obtain ⟨bp,hbp⟩:=Option.isSome_iff_exists.1 hu
  have q0:=hs.cB q
  rw[if_neg (by omega),hbp] at q0
  have hb:=hs.raw.bB q bp q0
  have e1:H'.bk=H.bk:=by rw[hs.eq]
  have e2:H'.at'=H.at':=by rw[hs.eq]
  rw[e1,e2] at hb
  have e3:swT H q q=(H.bk q).size:=by unfold swT;rw[if_pos ⟨hu,.inl (Nat.le_refl _)⟩]
  show Calls Tryz.prog 63 #[.pointer (some ⟨(H.at' q).1,0,none⟩)] W fun e w'=>e=.returned (.int .i64 (swT H q q:Nat))∧w'=W
  rw[e3]
  exact r_size hb.ar
 case hdrop=>
  rintro q W hq hu hre ⟨tag',H',hs⟩ hlt hrec W' hst
  obtain ⟨bp,hbp⟩:=Option.isSome_iff_exists.1 hu
  have q0:=hs.cB q
  rw[if_neg (by omega),hbp] at q0
  have e3:swT H q q=(H.bk q).size:=by unfold swT;rw[if_pos ⟨hu,.inl (Nat.le_refl _)⟩]
  have e4:swT H (q+1) q=0:=by
   unfold swT
   rw[if_neg]
   rintro ⟨_,x|x⟩
   ·omega
   ·exact hre x
  have hsum:sumB H.cB.length (swT H q)=sumB H.cB.length (swT H (q+1))+swT H q q:=by
   have:=sumB_upd (swT H q) (swT H (q+1)) q H.cB.length (fun s hsq=>by
    unfold swT
    congr 1;simp;intro _;omega) hq
   omega
  have hnum:((sumB H.cB.length (swT H q):Nat):Int)-(swT H q q:Nat)=((sumB H.cB.length (swT H (q+1)):Nat):Int):=by omega
  have hst':Still (W.setCell ⟨ph,9,none⟩ (.int .i64 ((sumB H.cB.length (swT H (q+1)):Nat):Int))) W':=by rw[← hnum];exact hst
  have h1:=(hraw_large hs.raw (sumB H.cB.length (swT H (q+1)))).below hst'.below
  have hlf:H'.frB.length<1000000:=by
   have hnm:q ∉ H'.frB:=fun hm=>by
    have:=(hs.raw.pB.ok.free q (by rw[hs.len hq];exact hq)).1 hm
    rw[q0] at this
    cases this
   have hnd:(q :: H'.frB).Nodup:=List.nodup_cons.2 ⟨hnm,hs.raw.pB.ok.nd⟩
   have:=nodup_below hnd n0 (fun x hx=>by
    rcases List.mem_cons.1 hx with rfl|hx
    ·omega
    ·exact hs.fl x hx)
   simp only[List.length_cons] at this
   omega
  refine (dropB_any h1.pB q (by show H'.cB.getD q none≠none;rw[q0];exact fun x=>by cases x) hlf).mono ?_
  rintro e w' ⟨rfl,c',fr',vc',vf',p1,p2,p3,p4,p5,p6,p7,p8⟩
  obtain ⟨r1,r2⟩:=h1.poolB p1 p8 (fun s b2 e=>by
   rw[p2 s] at e
   split at e
   ·cases e
   ·exact e) p6 p7
  have hszW:W'.heap.size=W.heap.size:=by rw[hst'.heap,World.size_setCell]
  have hWb:∀ x,x<W.heap.size→tag' x=0→w'.heap[x]?=W.heap[x]?:=fun x hx e=>by
   have hxp:x≠ph:=by rintro rfl;have:=hs.raw.t1;omega
   rw[(r2.blk x (by rw[hszW];exact hx) e).1,hst'.heap,setCell_else _ _ _ _ _ hxp]
  have hsz0:=sweepW_size w ph
  have hfr1:Fr tag' tag' W W':=⟨hst'.os,hst'.tape,hst'.output,by rw[hszW];exact Nat.le_refl _,fun x hx e=>⟨by rw[hst'.heap,setCell_else _ _ _ _ _ (by rintro rfl;have:=hs.raw.t1;omega)],e⟩⟩
  refine ⟨rfl,⟨_,_,r1,hs.fr.trans (hfr1.trans r2),?_,fun s=>?_,fun hq1=>?_,Nat.le_trans p3 hs.le,p6.trans hs.own,fun x=>absurd x (by omega),fun x hx=>?_,?_,?_,?_,?_⟩,hWb _ hlt hs.z3,hWb _ (by omega) hs.z2⟩
  ·show ({ { H' with large:=sumB H.cB.length (swT H (q+1)) } with cB:=c',frB:=fr',vcB:=vc',vfB:=vf' }:HC)=_
   have hE:=hs.eq
   rw[hE]
  ·show c'.getD s none=_
   rw[p2 s]
   show (if s=q then none else H'.cB.getD s none)=_
   rw[hs.cB s]
   by_cases e:s=q
   ·subst e;rw[if_pos rfl,if_pos ⟨by omega,hre⟩]
   ·rw[if_neg e]
    congr 1
    simp only[eq_iff_iff]
    constructor
    ·rintro ⟨q1,q2⟩;exact ⟨by omega,q2⟩
    ·rintro ⟨q1,q2⟩;exact ⟨by omega,q2⟩
  ·show c'.length=H.cB.length
   have hlast:H.cB.getD (H.cB.length-1) none≠none:=by
    rcases h.pB.ok.last with x|x
    ·omega
    ·exact x
   have hc1:c'.getD (H.cB.length-1) none≠none:=by
    rw[p2,if_neg (by omega)]
    show H'.cB.getD (H.cB.length-1) none≠none
    rw[hs.cB,if_neg (by omega)]
    exact hlast
   have:H.cB.length-1<c'.length:=Classical.byContradiction (fun x=>hc1 (by rw[List.getD_eq_getElem?_getD,List.getElem?_eq_none (Nat.le_of_not_lt x)];rfl))
   have:=hs.le
   have hp3:c'.length≤H'.cB.length:=p3
   omega
  ·rcases p5 x hx with rfl|x'
   ·omega
   ·exact hs.fl x x'
  ·have hbz:tag' w.heap.size=0:=(hs.fr.blk w.heap.size (by omega) (Classical.byContradiction (fun x=>by have:=h.un _ x;omega))).2
   rw[cell_like (hWb _ (by omega) hbz)];exact hs.box
  ·exact (r2.blk _ (by rw[hszW];omega) hs.z2).2
  ·exact (r2.blk _ (by rw[hszW];omega) hs.z3).2
  ·have:=r2.size;have:=hs.sz;omega
 case hR=>
  rintro W ⟨tag',H',hs⟩ hlt hK o
  have hsz0:=sweepW_size w ph
  have hfr2:Fr tag tag' w W:=⟨hs.fr.os.trans hB.os,hs.fr.tape.trans hB.tape,hs.fr.output.trans hB.output,Nat.le_trans hB.size hs.fr.size,fun x hx e=>by
   have:=hs.fr.blk x (by omega) e
   exact ⟨this.1.trans (hB.block x hx),this.2⟩⟩
  refine ⟨tag',H',hraw_put hs.raw _ o hs.z2,⟨hfr2.os,hfr2.tape,hfr2.output,by have:=hfr2.size;simpa using this,fun x hx e=>⟨(World.putObj_heap_other (by omega)).trans (hfr2.blk x hx e).1,(hfr2.blk x hx e).2⟩⟩,hs.eq,fun s=>?_,hs.le,hs.fl⟩
  rw[hs.cB s]
  by_cases e:s<H.cB.length
  ·congr 1
   simp only[eq_iff_iff]
   exact ⟨fun x=>x.2,fun x=>⟨e,x⟩⟩
  ·have hn:H.cB.getD s none=none:=by rw[List.getD_eq_getElem?_getD,List.getElem?_eq_none (Nat.le_of_not_lt e)];rfl
   rw[hn]
   split <;> split <;> rfl
end Go.Proofs.YtnfbaapbpgbgpaaGreat
