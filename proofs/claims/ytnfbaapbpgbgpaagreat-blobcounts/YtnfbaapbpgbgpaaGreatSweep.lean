import Derived.Test.YtnfbaapbpgbgpaaGreatHSmall
import Derived.RangeFuncNested
import Derived.RangeFuncBound
import Derived.RangeFuncCalls
import Derived.RangeFuncLeaves
import Derived.Shelf.Abstract
import Derived.Shelf.RegionOpen
import Derived.OwnWalkIn
import Derived.TacticsInMore
import Derived.LoopNIn
import Derived.LoopIn
import Derived.Deep.RegionHeld3
namespace Go.Proofs.YtnfbaapbpgbgpaaGreat
open Go.ChangeShapes Go.WideShapes Go.ChangeAt Go.RowKit Go.Shelf
set_option linter.unusedVariables false
set_option maxRecDepth 100000
set_option maxHeartbeats 2000000
theorem all1_any (F:Fence) (n:Nat) (hf:F.fn 146) (hro:F.round=none) (hn:1≤n) (l box pp po g N cap:Nat) (a:Option Addr) (hN:N≤1000000) (hcap:N≤cap) (val:Nat→Nat) (use:Nat→Bool) (J:Nat→World→Prop)
  (hJb:∀ q W W',J q W→Below W.heap.size W W'→J q W')
  (hJr:∀ q W,q<N→J q W→a=some ⟨g,0,none⟩∧W.cell? ⟨g,q*2,none⟩=some (.int .u64 (val q:Nat))∧W.cell? ⟨g,q*2+1,none⟩=some (.bool (use q)))
  (hsk:∀ q W,q<N→use q=false→J q W→J (q+1) W)
  (hY:∀ q W,q<N→use q=true→J q W→YieldAt F (n-1) Tryz.prog l #[.int .i64 (q:Nat),.int .u64 (val q:Nat)] W fun e W'=>e=.returned (.bool true)∧J (q+1) W')
  (W:World) (hbox:W.cell? ⟨box,0,none⟩=some (.pointer (some ⟨pp,po,none⟩))) (hrow:W.cell? ⟨pp,po,none⟩=some (.slice a N cap)) (h0:J 0 W):
  CallsIn F n Tryz.prog 146 #[.func (.yield l) #[] #[],.pointer (some ⟨box,0,none⟩)] W fun e W'=>(∃ v,e=.returned v)∧J N W':=by
 refine callsIn_of_wp Tryz.func146 rfl hf ?_ hro
 simp only[Tryz.ntmps146,List.size_toArray,List.length_cons,List.length_nil,Nat.reduceAdd,Nat.reduceSub,Array.replicate_succ,Array.replicate_zero,List.push_toArray,List.append_toArray,List.nil_append,List.cons_append]
 gi_wp2
 gi_loopw [10] (fun p wr=>∃ q:Nat,p=.int .i64 (q:Nat)∧q≤N∧J q wr) (fun p _=>N-(intOf p).toNat)
 case atStart=>exact ⟨0,rfl,Nat.zero_le _,h0⟩
 case round=>
  obtain ⟨q,rfl,hq,hJq⟩:=hrel
  by_cases hqN:q<N
  ·obtain ⟨rfl,r1,r2⟩:=hJr q wr hqN hJq
   cases hu:use q with
   | true=>
    rw[hu] at r2
    obtain ⟨fn,tmps,assign,body,hy,hR⟩:=hY q _ hqN hu (hJb q wr (wr.alloc (.cells #[.int .u64 (val q:Nat),.bool true] 148)) hJq ((Below.refl _ _).alloc (Nat.le_refl _) _))
    have HR:=hide hR
    clear hR hJq hJb hJr hsk hY
    have hd:decide ((q:Int)<(N:Nat))=true:=decide_eq_true (by omega)
    gi_wp2
    refine (unhide HR).mono ?_
    rintro e W3 ⟨rfl,hJ3⟩
    gi_wp2
    go_roundw
    case rel=>exact ⟨q+1,by simp,by omega,hJ3⟩
    case measure=>simp [intOf];omega
   | false=>
    rw[hu] at r2
    have hJ3:=hsk q _ hqN hu (hJb q wr (wr.alloc (.cells #[.int .u64 (val q:Nat),.bool false] 148)) hJq ((Below.refl _ _).alloc (Nat.le_refl _) _))
    clear hJq hJb hJr hsk hY
    have hd:decide ((q:Int)<(N:Nat))=true:=decide_eq_true (by omega)
    gi_wp2
    refine ⟨fun _ h=>(by cases h),?_⟩
    gi_wp2
    go_roundw
    case rel=>exact ⟨q+1,by simp,by omega,hJ3⟩
    case measure=>simp [intOf];omega
  ·have hqe:q=N:=by omega
   subst hqe
   have hd:decide ((q:Int)<(q:Nat))=false:=decide_eq_false (by omega)
   clear hJb hJr hsk hY
   gi_wp2
   go_end0
   exact ⟨⟨_,rfl⟩,hJq⟩
def roundPost (I:World→Prop) (l D:Nat) (W:World):Exit→Act→World→Prop
 | .normal,_,W'=>I W'∧W'.heap[l]?=W.heap[l]?∧W'.heap[D]?=W.heap[D]?
 | .ret,_,_=>False
 | .exit _,_,_=>False
 | .goto _,_,_=>False
 | .panic _,_,_=>False
 | .outgrown,_,_=>False
theorem wpIn_range_pool {F:Fence}{n:Nat}{P:Program}{g:Operand}{ps:Array Tmp}{assign body:Code}{Q:Exit→Act→World→Prop}{a:Act}{w:World}
  (hro:F.round=none) (h1:1≤n) {gf:Nat}{lb:Array Value} (hg:a.eval g=.func (.func gf) #[] lb) (hFg:F.fn gf) (eg:∀ args w,(callFunc gf args).run P w=.ok (.enter gf args) w)
  (I:Nat→World→Prop) (N:Nat) (encs:Nat→Array Value) (use:Nat→Bool) (hps:∀ q,q<N→use q=true→(encs q).size=ps.size)
  (hcall:∀ (J:Nat→World→Prop) (W1:World),(∃ o1 o2,W1=(w.alloc o1).alloc o2)→J 0 W1→(∀ q W W',J q W→Below W.heap.size W W'→J q W')→(∀ q W,J q W→I q W)→(∀ q W,q<N→use q=false→J q W→J (q+1) W)→
   (∀ q W,q<N→use q=true→J q W→YieldAt F (n-1-1) P (w.heap.size+1) (encs q) W fun e W'=>e=.returned (.bool true)∧J (q+1) W')→
   CallsIn F (n-1) P gf (#[.func (.yield (w.heap.size+1)) #[] #[]]++lb) W1 fun e W'=>(∃ v,e=.returned v)∧J N W')
  (h0:∀ o1 o2,I 0 ((w.alloc o1).alloc o2)) (hIb:∀ q W W',I q W→Below W.heap.size W W'→I q W')
  (hIp:∀ q W o o',W.heap[w.heap.size+1]?=some o→o.isCells=false→I q W→I q (W.putObj (w.heap.size+1) o'))
  (hsk:∀ q W,q<N→use q=false→I q W→I (q+1) W) (a₁:Nat→Act)
  (hassign:∀ (q:Nat) (W:World) (K:Act→World→Prop),q<N→use q=true→K (a₁ q) W→
   assign.wpIn (F.inRound (w.heap.size+1)) (n-1-1) P (Exit.then K (fun _ _ _=>False)) { tmps:=(ps.zip (encs q)).foldl (fun t (p,v)=>t.setIfInBounds p v) a.tmps,defers:=[] } W)
  (hbody:∀ (q:Nat) (W:World),q<N→use q=true→I q W→w.heap.size+1<W.heap.size→(∃ o,W.heap[w.heap.size+1]?=some o∧o.isCells=false)→body.wpIn (F.inRound (w.heap.size+1)) (n-1-1) P (roundPost (I (q+1)) (w.heap.size+1) w.heap.size W) (a₁ q) W)
  (hdone:∀ (W:World),I N W→W.heap[w.heap.size]?=some (.deferred (some []))→w.heap.size<W.heap.size→Q .normal { a with defers:={ target:=.collected w.heap.size,args:=#[] } :: a.defers } W):
  (Code.rangeFunc g ps assign body).wpIn F n P Q a w:=by
 refine wpIn_rangeFunc ?_
 intro fn hfn
 rw[hro]
 obtain ⟨rec,hrec⟩:∃ rec:LoopState→Option Code→Loop,rec=fun st pe=>{ state:=st,pending:=pe,fn,tmps:=a.tmps,params:=ps,assign,body,defers:=w.heap.size }:=⟨_,rfl⟩
 obtain ⟨W1,hW1⟩:∃ W1,(w.alloc (.deferred (some []))).alloc (.loop (rec .ready none))=W1:=⟨_,rfl⟩
 have hL1:W1.heap[w.heap.size+1]?=some (.loop (rec .ready none)):=by
  rw[← hW1];have:=World.alloc_heap_new (w.alloc (.deferred (some []))) (.loop (rec .ready none));rwa [World.size_alloc] at this
 have hK1:W1.heap[w.heap.size]?=some (.deferred (some [])):=by
  rw[← hW1];exact (Below.heap_alloc _ _ _ (by simp)).trans (World.alloc_heap_new w _)
 have hI1:I 0 W1:=by rw[← hW1];exact h0 _ _
 refine ⟨w.heap.size+1,[{ target:=.collected w.heap.size,args:=#[] }],W1,{ target:=.fn (.func gf) lb,args:=#[.func (.yield (w.heap.size+1)) #[] #[]] },W1,gf,
  #[.func (.yield (w.heap.size+1)) #[] #[]]++lb,W1,?_,?_,?_,?_,fun _=>h1,?_⟩
 ·rw[← hW1,hrec];exact run_enterLoop_outer _ _ _ _ _
 ·simp only[resolve,hg]
  simp [go_sem]
 ·intro f' hf';simp [Target.leads] at hf';subst hf';exact hFg
 ·simp [invoke,go_sem,eg]
 ·refine (hcall (fun q W=>I q W∧W.heap[w.heap.size+1]?=some (.loop (rec .ready none))∧W.heap[w.heap.size]?=some (.deferred (some []))) W1 ⟨_,_,hW1.symm⟩ ⟨hI1,hL1,hK1⟩
   (fun q W W' hJ hB=>⟨hIb q W W' hJ.1 hB,(hB.block _ (Array.getElem?_eq_some_iff.1 hJ.2.1).1).trans hJ.2.1,(hB.block _ (Array.getElem?_eq_some_iff.1 hJ.2.2).1).trans hJ.2.2⟩)
   (fun q W hJ=>hJ.1) (fun q W hq hu hJ=>⟨hsk q W hq hu hJ.1,hJ.2⟩) ?_).mono ?_
  ·rintro q W hq hu ⟨hi,hl,hk⟩
   have hlt:w.heap.size+1<W.heap.size:=(Array.getElem?_eq_some_iff.1 hl).1
   have hy:=run_yield (P:=P) (args:=encs q) hl (by rw[hrec];exact hps q hq hu)
   rw[hrec] at hy
   refine ⟨fn,_,assign,body,hy,roundIn_of_wpIn hfn (hassign q W _ hq hu ⟨_,run_beginRound hl (by rw[hrec]),?_⟩)⟩
   have hl2:(W.putObj (w.heap.size+1) (.loop { rec .ready none with state:=.busy })).heap[w.heap.size+1]?=some (.loop { rec .ready none with state:=.busy }):=World.putObj_heap_same hlt
   have hk2:(W.putObj (w.heap.size+1) (.loop { rec .ready none with state:=.busy })).heap[w.heap.size]?=some (.deferred (some [])):=(World.putObj_heap_other (by omega)).trans hk
   refine wpIn_mono (hbody q _ hq hu (hIp q W _ _ hl rfl hi) (by simpa using hlt) ⟨_,hl2,rfl⟩) ?_
   rintro e a3 W3 hp
   cases e with
   | normal=>
    obtain ⟨hi3,hp1,hp2⟩:=hp
    have hl3:=hp1.trans hl2
    have hr:=run_endRound (P:=P) none hl3
    rw[hrec] at hr
    refine ⟨_,_,hr,rfl,?_,?_,?_⟩
    ·exact hIp _ W3 _ _ hl3 rfl hi3
    ·rw[hrec];exact World.putObj_heap_same (Array.getElem?_eq_some_iff.1 hl3).1
    ·exact (World.putObj_heap_other (by omega)).trans (hp2.trans hk2)
   | ret=>exact hp.elim
   | exit id=>exact hp.elim
   | goto t=>exact hp.elim
   | panic ch=>exact hp.elim
   | outgrown=>exact hp.elim
  ·rintro e W2 ⟨⟨v,rfl⟩,hi,hl,hk⟩
   refine ⟨none,_,by have:=run_endLoop (P:=P) hl (by rw[hrec];simp);rw[hrec] at this;exact this,hdone _ (hIp N W2 _ _ hl rfl hi) ((World.putObj_heap_other (by omega)).trans hk) ?_⟩
   have:=(Array.getElem?_eq_some_iff.1 hk).1
   simpa using this
theorem all1B_any (F:Fence) (n:Nat) (hf:F.fn 170) (hro:F.round=none) (hn:1≤n) (l box pp po g N cap:Nat) (a:Option Addr) (hN:N≤1000000) (hcap:N≤cap) (val:Nat→Nat) (use:Nat→Bool) (J:Nat→World→Prop)
  (hJb:∀ q W W',J q W→Below W.heap.size W W'→J q W')
  (hJr:∀ q W,q<N→J q W→a=some ⟨g,0,none⟩∧W.cell? ⟨g,q*2,none⟩=some (if use q=true then .pointer (some ⟨val q,0,none⟩) else .pointer none)∧W.cell? ⟨g,q*2+1,none⟩=some (.bool (use q)))
  (hsk:∀ q W,q<N→use q=false→J q W→J (q+1) W)
  (hY:∀ q W,q<N→use q=true→J q W→YieldAt F (n-1) Tryz.prog l #[.int .i64 (q:Nat),.pointer (some ⟨val q,0,none⟩)] W fun e W'=>e=.returned (.bool true)∧J (q+1) W')
  (W:World) (hbox:W.cell? ⟨box,0,none⟩=some (.pointer (some ⟨pp,po,none⟩))) (hrow:W.cell? ⟨pp,po,none⟩=some (.slice a N cap)) (h0:J 0 W):
  CallsIn F n Tryz.prog 170 #[.func (.yield l) #[] #[],.pointer (some ⟨box,0,none⟩)] W fun e W'=>(∃ v,e=.returned v)∧J N W':=by
 refine callsIn_of_wp Tryz.func170 rfl hf ?_ hro
 simp only[Tryz.ntmps170,List.size_toArray,List.length_cons,List.length_nil,Nat.reduceAdd,Nat.reduceSub,Array.replicate_succ,Array.replicate_zero,List.push_toArray,List.append_toArray,List.nil_append,List.cons_append]
 gi_wp2
 gi_loopw [10] (fun p wr=>∃ q:Nat,p=.int .i64 (q:Nat)∧q≤N∧J q wr) (fun p _=>N-(intOf p).toNat)
 case atStart=>exact ⟨0,rfl,Nat.zero_le _,h0⟩
 case round=>
  obtain ⟨q,rfl,hq,hJq⟩:=hrel
  by_cases hqN:q<N
  ·obtain ⟨rfl,r1,r2⟩:=hJr q wr hqN hJq
   cases hu:use q with
   | true=>
    rw[hu] at r1 r2
    rw[if_pos rfl] at r1
    obtain ⟨fn,tmps,assign,body,hy,hR⟩:=hY q _ hqN hu (hJb q wr (wr.alloc (.cells #[.pointer (some ⟨val q,0,none⟩),.bool true] 208)) hJq ((Below.refl _ _).alloc (Nat.le_refl _) _))
    have HR:=hide hR
    clear hR hJq hJb hJr hsk hY
    have hd:decide ((q:Int)<(N:Nat))=true:=decide_eq_true (by omega)
    gi_wp2
    refine (unhide HR).mono ?_
    rintro e W3 ⟨rfl,hJ3⟩
    gi_wp2
    go_roundw
    case rel=>exact ⟨q+1,by simp,by omega,hJ3⟩
    case measure=>simp [intOf];omega
   | false=>
    rw[hu] at r1 r2
    rw[if_neg (by decide)] at r1
    have hJ3:=hsk q _ hqN hu (hJb q wr (wr.alloc (.cells #[.pointer none,.bool false] 208)) hJq ((Below.refl _ _).alloc (Nat.le_refl _) _))
    clear hJq hJb hJr hsk hY
    have hd:decide ((q:Int)<(N:Nat))=true:=decide_eq_true (by omega)
    gi_wp2
    refine ⟨fun _ h=>(by cases h),?_⟩
    gi_wp2
    go_roundw
    case rel=>exact ⟨q+1,by simp,by omega,hJ3⟩
    case measure=>simp [intOf];omega
  ·have hqe:q=N:=by omega
   subst hqe
   have hd:decide ((q:Int)<(q:Nat))=false:=decide_eq_false (by omega)
   clear hJb hJr hsk hY
   gi_wp2
   go_end0
   exact ⟨⟨_,rfl⟩,hJq⟩
set_option maxHeartbeats 12000000
attribute [local go_sem] Oper.semAt_some
theorem allB_any (b o:Nat) (w:World):Calls Tryz.prog 150 #[.pointer (some ⟨b,o,none⟩)] w fun e w'=>e=.returned (.func (.func 170) #[] #[.pointer (some ⟨w.heap.size,0,none⟩)])∧w'=w.alloc (.cells #[.pointer (some ⟨b,o,none⟩)] 206):=by
 go_enter Tryz.func150,Tryz.ntmps150
 go_wp2
 go_ret
 exact ⟨rfl,rfl⟩
def sweepW (w:World) (ph:Nat):World:=(w.alloc (.cells #[.pointer (some ⟨ph,0,none⟩)] 26)).alloc (.cells #[.pointer (some ⟨ph,3,none⟩)] 206)
theorem sweepW_size (w:World) (ph:Nat):(sweepW w ph).heap.size=w.heap.size+2:=by unfold sweepW;simp
def atEnd (p:Act→World→Prop):Exit→Act→World→Prop
 | .normal,a,w=>p a w
 | .ret,_,_=>False
 | .exit _,_,_=>False
 | .goto _,_,_=>False
 | .panic _,_,_=>False
 | .outgrown,_,_=>False
theorem atEnd_mono {F:Fence}{n:Nat}{P:Program}{c:Code}{Q:Exit→Act→World→Prop}{a:Act}{w:World}{p:Act→World→Prop} (h:c.wpIn F n P (atEnd p) a w) (hq:∀ a w,p a w→Q .normal a w):c.wpIn F n P Q a w:=
 wpIn_mono h (fun e a w he=>by cases e <;> first|exact hq a w he|exact (he:False).elim)
theorem sweep_walk {w:World}{ph coll g N cap:Nat}{a:Option Addr} (hph:ph<w.heap.size)
  (hN:N≤1000000) (hcap:N≤cap) (val re pt sz lg:Nat→Nat) (use:Nat→Bool) (I:Nat→World→Prop) (R:World→Prop)
  (hsz0:∀ q,sz q≤lg q) (hlg:∀ q,lg q≤1048576)
  (hI0:∀ o1 o2,I 0 (((sweepW w ph).alloc o1).alloc o2)) (hIb:∀ q W W',I q W→Below W.heap.size W W'→I q W')
  (hIp:∀ q W o o',W.heap[w.heap.size+3]?=some o→o.isCells=false→I q W→I q (W.putObj (w.heap.size+3) o'))
  (hsk:∀ q W,q<N→use q=false→I q W→I (q+1) W)
  (hIr:∀ q W,q<N→I q W→a=some ⟨g,0,none⟩∧W.cell? ⟨g,q*2,none⟩=some (if use q=true then .pointer (some ⟨val q,0,none⟩) else .pointer none)∧W.cell? ⟨g,q*2+1,none⟩=some (.bool (use q)))
  (hIc:∀ q W,I q W→W.cell? ⟨w.heap.size,0,none⟩=some (.pointer (some ⟨ph,0,none⟩))∧W.cell? ⟨ph,12,none⟩=some (.int .i64 (coll:Nat))∧W.cell? ⟨ph,9,none⟩=some (.int .i64 (lg q:Nat))∧W.frozen? ⟨ph,9,none⟩=false)
  (hIv:∀ q W,q<N→use q=true→I q W→W.cell? ⟨val q,1,none⟩=some (.int .i64 (re q:Nat))∧W.cell? ⟨val q,0,none⟩=some (.pointer (some ⟨pt q,0,none⟩))∧val q≠ph)
  (hrow:∀ W,I 0 W→W.cell? ⟨ph,3,none⟩=some (.slice a N cap))
  (hkeep:∀ q W,q<N→use q=true→re q=coll→I q W→I (q+1) W)
  (hsize:∀ q W,q<N→use q=true→I q W→Calls Tryz.prog 63 #[.pointer (some ⟨pt q,0,none⟩)] W fun e w'=>e=.returned (.int .i64 (sz q:Nat))∧w'=W)
  (hdrop:∀ q W,q<N→use q=true→re q≠coll→I q W→w.heap.size+3<W.heap.size→(∃ o,W.heap[w.heap.size+3]?=some o∧o.isCells=false)→∀ W',Still (W.setCell ⟨ph,9,none⟩ (.int .i64 ((lg q:Int)-(sz q:Nat)))) W'→Calls Tryz.prog 151 #[.pointer (some ⟨ph,3,none⟩),.int .i64 (q:Nat)] W' fun e w'=>e=.returned (.tuple #[])∧I (q+1) w'∧w'.heap[w.heap.size+3]?=W.heap[w.heap.size+3]?∧w'.heap[w.heap.size+2]?=W.heap[w.heap.size+2]?)
  (hR:∀ W,I N W→w.heap.size+2<W.heap.size→W.heap[w.heap.size+2]?=some (.deferred (some []))→∀ o,R (W.putObj (w.heap.size+2) o)):
  Calls Tryz.prog 113 #[.pointer (some ⟨ph,0,none⟩)] w fun e w'=>e=.returned (.tuple #[])∧R w':=by
 have HI0:=hide hI0
 have HIb:=hide hIb
 have HIp:=hide hIp
 have HSK:=hide hsk
 have HIR:=hide hIr
 have HIC:=hide hIc
 have HIV:=hide hIv
 have HROW:=hide hrow
 have HKP:=hide hkeep
 have HSIZ:=hide hsize
 have HDR:=hide hdrop
 have HRR:=hide hR
 clear hI0 hIb hIp hsk hIr hIc hIv hrow hkeep hsize hdrop hR
 refine (callsIn_wide (n:=6)).1 ?_
 refine callsIn_of_wp_marks Tryz.func113 rfl trivial ?_ rfl
 simp only[Tryz.ntmps113,List.size_toArray,List.length_cons,List.length_nil,Nat.reduceAdd,Nat.reduceSub,Array.replicate_succ,Array.replicate_zero,List.push_toArray,List.append_toArray,List.nil_append,List.cons_append]
 refine wpIn_wide.2 ?_
 go_wp2_with (go_at_call 150;refine (allB_any ph 3 _).mono ?_;rintro e w' ⟨rfl,rfl⟩)
 obtain ⟨W0,hW0⟩:∃ W0,sweepW w ph=W0:=⟨_,rfl⟩
 have hsz:W0.heap.size=w.heap.size+2:=by rw[← hW0];exact sweepW_size w ph
 have hw0:(w.alloc (.cells #[.pointer (some ⟨ph,0,none⟩)] 26)).alloc (.cells #[.pointer (some ⟨ph,3,none⟩)] 206)=W0:=hW0
 have hbx:W0.cell? ⟨w.heap.size+1,0,none⟩=some (.pointer (some ⟨ph,3,none⟩)):=by
  rw[← hw0];exact cell_made (by simp) _ _
 rw[hw0]
 rw[hW0] at HI0
 clear hw0 hW0
 refine (wpIn_wide (n:=6)).1 ?_
 refine wpIn_range_pool (F:=Fence.wide) (n:=6) rfl (by omega) (gf:=170) (lb:=#[.pointer (some ⟨w.heap.size+1,0,none⟩)]) rfl trivial (enters_of Tryz.func170 (by kernel_rfl) rfl)
  I N (fun q=>#[.int .i64 (q:Nat),.pointer (some ⟨val q,0,none⟩)]) use (fun _ _ _=>rfl) ?hcall (unhide HI0) (unhide HIb) ?hIp (unhide HSK)
  (fun q=>{ tmps:=#[.pointer (some ⟨ph,0,none⟩),.pointer (some ⟨w.heap.size,0,none⟩),.int .i64 (q:Nat),.pointer (some ⟨val q,0,none⟩),.pointer (some ⟨ph,0,none⟩),.pointer (some ⟨ph,0,none⟩),.pointer (some ⟨ph,3,none⟩),.func (.func 170) #[] #[.pointer (some ⟨w.heap.size+1,0,none⟩)],.int .i64 (q:Nat),.pointer (some ⟨val q,0,none⟩),undef,undef,undef,undef,undef,undef,undef,undef,undef,undef,undef,undef,undef,undef,undef,undef,undef,undef,undef,undef,undef,undef,undef,undef,undef,undef],defers:=[] }) ?hassign ?hbody ?hdone
 case hcall=>
  rintro J' W1 ⟨o1,o2,rfl⟩ hJ0 hJb hJI hJs hJY
  have hI1:=hJI _ _ hJ0
  refine all1B_any Fence.wide 5 trivial rfl (by omega) _ (w.heap.size+1) ph 3 g N cap a hN hcap val use J' hJb (fun q W hq hJ=>unhide HIR q W hq (hJI q W hJ)) hJs hJY _ ?_ (unhide HROW _ hI1) hJ0
  exact ((((Below.refl W0.heap.size W0).alloc (Nat.le_refl _) o1).alloc (by simp) o2).cell (p:=⟨w.heap.size+1,0,none⟩) (by show w.heap.size+1<_;omega)).trans hbx
 case hIp=>rw[hsz];exact unhide HIp
 case hassign=>
  intro q W K hq hu hK
  gi_wp2
  exact hK
 case hbody=>
  intro q W hq hu hI hlt hrec
  rw[hsz] at hlt hrec ⊢
  obtain ⟨c1,c2,c3,c4⟩:=unhide HIC q W hI
  obtain ⟨c5,c6,hne⟩:=unhide HIV q W hq hu hI
  have hmx:Tryz.prog.follows .mixedOrders=true:=by kernel_rfl
  have hd1:1≤6-1-1:=by omega
  have hbn:(((re q:Nat):Int) != (coll:Nat)) = !decide (re q=coll):=by
   by_cases h:re q=coll
   ·simp [h]
   ·have:((re q:Nat):Int)≠(coll:Nat):=by omega
    simp [h,this]
  refine wpIn_block ?_
  refine wpIn_seq ?_
  refine atEnd_mono (p:=fun a' w'=>a' = { tmps:=#[.pointer (some ⟨ph,0,none⟩),.pointer (some ⟨w.heap.size,0,none⟩),.int .i64 (q:Nat),.pointer (some ⟨val q,0,none⟩),.pointer (some ⟨ph,0,none⟩),.pointer (some ⟨ph,0,none⟩),.pointer (some ⟨ph,3,none⟩),.func (.func 170) #[] #[.pointer (some ⟨w.heap.size+1,0,none⟩)],.int .i64 (q:Nat),.pointer (some ⟨val q,0,none⟩),.pointer (some ⟨val q,0,none⟩),.pointer (some ⟨val q,0,none⟩),.pointer (some ⟨val q,1,none⟩),.int .i64 (re q:Nat),.pointer (some ⟨ph,0,none⟩),.pointer (some ⟨ph,0,none⟩),.pointer (some ⟨ph,12,none⟩),.int .i64 (coll:Nat),.bool (!decide (re q=coll)),undef,undef,undef,undef,undef,undef,undef,undef,undef,undef,undef,undef,undef,undef,undef,undef,undef],defers:=[] }∧w'=W.drew) ?_ ?_
  ·clear hI HI0 HIb HIp HSK HIR HIC HIV HROW HKP HSIZ HDR HRR
   gi_region_with_o (fail)
   all_goals gi_wp2
   all_goals (refine ⟨?_,rfl⟩;first|rfl|simp [hbn])
  ·rintro a' w' ⟨rfl,rfl⟩
   by_cases hre:re q=coll
   ·have HF:=hide (unhide HIb _ _ W.drew (unhide HKP q W hq hu hre hI) (Still.below ⟨rfl,rfl,rfl,rfl⟩))
    have hd:(!decide (re q=coll))=false:=by simp [hre]
    clear hI HI0 HIb HIp HSK HIR HIC HIV HROW HKP HSIZ HDR HRR
    rw[hd]
    gi_wp2
    exact ⟨unhide HF,rfl,rfl⟩
   ·have hd:(!decide (re q=coll))=true:=by simp [hre]
    have H42:Hid (∀ W',Still W W'→Calls Tryz.prog 63 #[.pointer (some ⟨pt q,0,none⟩)] W' fun e w'=>e=.returned (.int .i64 (sz q:Nat))∧w'=W'):=hide (fun W' hst=>unhide HSIZ q W' hq hu (unhide HIb _ _ W' hI hst.below))
    have H102:=hide (unhide HDR q W hq hu hre hI hlt hrec)
    have e8:IntKind.i64.wrap ((lg q:Int)-(sz q:Nat))=(lg q:Int)-(sz q:Nat):=by
     have:=hsz0 q
     have:=hlg q
     rw[show (lg q:Int)-(sz q:Nat)=((lg q-sz q:Nat):Int) by omega];exact wrap_nat _ (by omega)
    clear hI HI0 HIb HIp HSK HIR HIC HIV HROW HKP HSIZ HDR HRR
    rw[hd]
    refine wpIn_cond_true rfl ?_
    refine wpIn_seq ?_
    refine atEnd_mono (p:=fun a' w'=>a' = { tmps:=#[.pointer (some ⟨ph,0,none⟩),.pointer (some ⟨w.heap.size,0,none⟩),.int .i64 (q:Nat),.pointer (some ⟨val q,0,none⟩),.pointer (some ⟨ph,0,none⟩),.pointer (some ⟨ph,0,none⟩),.pointer (some ⟨ph,3,none⟩),.func (.func 170) #[] #[.pointer (some ⟨w.heap.size+1,0,none⟩)],.int .i64 (q:Nat),.pointer (some ⟨val q,0,none⟩),.pointer (some ⟨val q,0,none⟩),.pointer (some ⟨val q,0,none⟩),.pointer (some ⟨val q,1,none⟩),.int .i64 (re q:Nat),.pointer (some ⟨ph,0,none⟩),.pointer (some ⟨ph,0,none⟩),.pointer (some ⟨ph,12,none⟩),.int .i64 (coll:Nat),.bool true,.pointer (some ⟨ph,0,none⟩),.pointer (some ⟨ph,0,none⟩),.pointer (some ⟨ph,9,none⟩),.int .i64 (lg q:Nat),.pointer (some ⟨val q,0,none⟩),.pointer (some ⟨val q,0,none⟩),.pointer (some ⟨val q,0,none⟩),.pointer (some ⟨pt q,0,none⟩),.int .i64 (sz q:Nat),.int .i64 ((lg q:Int)-(sz q:Nat)),.pointer (some ⟨ph,0,none⟩),.pointer (some ⟨ph,9,none⟩),undef,undef,undef,undef,undef],defers:=[] }∧Still (W.setCell ⟨ph,9,none⟩ (.int .i64 ((lg q:Int)-(sz q:Nat)))) w') ?_ ?_
    ·clear H102
     gi_region_with_o (refine ⟨trivial,?_⟩;gi_at_call 63;refine (CallsIn.inRound _ (callsIn_wide.2 (unhide H42 W.drew.drew ⟨rfl,rfl,rfl,rfl⟩))).mono ?_;rintro e w2 ⟨rfl,rfl⟩)
     all_goals gi_wp2
     all_goals exact ⟨rfl,⟨rfl,rfl,rfl,rfl⟩⟩
    ·rintro a' w' ⟨rfl,hst⟩
     have b1:w'.cell? ⟨w.heap.size,0,none⟩=some (.pointer (some ⟨ph,0,none⟩)):=by
      rw[hst.cell,World.cell?_setCell_other _ _ _ _ (by intro e;injection e with e1;omega)];exact c1
     have H102':=hide (unhide H102 w' hst)
     clear H102
     gi_wp2_with (refine ⟨trivial,?_⟩;gi_at_call 151;refine (CallsIn.inRound _ (callsIn_wide.2 (unhide H102'))).mono ?_;rintro e w3 ⟨rfl,hi3,k1,k2⟩)
     exact ⟨hi3,k1,k2⟩
 case hdone=>
  intro W hI hK hlt
  rw[hsz] at hK hlt
  have HRW:=hide (unhide HRR W hI hlt hK)
  clear hI HI0 HIb HIp HSK HIR HIC HIV HROW HKP HSIZ HDR HRR
  rw[hsz]
  go_wp2
  refine ⟨by simp,.inl ⟨_,_,rfl,run_takeDeferred hK,?_⟩⟩
  exact ⟨_,results_none rfl _ _ _,rfl,unhide HRW _⟩
end Go.Proofs.YtnfbaapbpgbgpaaGreat
