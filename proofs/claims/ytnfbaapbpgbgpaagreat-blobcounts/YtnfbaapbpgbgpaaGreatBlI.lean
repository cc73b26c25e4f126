import Derived.Test.YtnfbaapbpgbgpaaGreatBlD
namespace Go.Proofs.YtnfbaapbpgbgpaaGreat
open Go.ChangeShapes Go.WideShapes Go.ChangeAt Go.RowKit
set_option linter.unusedVariables false
set_option linter.unusedSimpArgs false
set_option maxRecDepth 100000
set_option maxHeartbeats 1000000
theorem bjoin_one {w:World}{g:Nat}{a:Option Addr}{cap:Nat} (l:List Nat) (hg:w.cell? ⟨g,0,none⟩=some (.slice a l.length cap)) (hB:Bytes w a l) (hl:l.length≤4096):
  Calls Tryz.prog 58 #[.slice (some ⟨g,0,none⟩) 1 1] w fun e w'=>∃ b,e=.returned (.tuple #[.slice (some ⟨b,0,none⟩) l.length l.length,.int .i64 0])∧w.heap.size≤b∧Bytes w' (some ⟨b,0,none⟩) l∧Below w.heap.size w w':=by
 obtain ⟨n,hn⟩:∃ n,n=l.length:=⟨_,rfl⟩
 have hgl:g<w.heap.size:=block_lt_of_cell hg
 have kb:Below w.heap.size w (w.alloc (.cells (madeCells #[.int .u8 0] n) 5)):=(Below.refl _ _).alloc (Nat.le_refl _) _
 have hg':(w.alloc (.cells (madeCells #[.int .u8 0] n) 5)).cell? ⟨g,0,none⟩=some (.slice a n cap):=(kb.cell (p:=⟨g,0,none⟩) hgl).trans (by rw[hn];exact hg)
 have hcopy:∃ w2,(Builtin.copy_ #[22,22] 3 #[.slice (some ⟨w.heap.size,0,none⟩) n n,.slice a n cap]).run Tryz.prog (w.alloc (.cells (madeCells #[.int .u8 0] n) 5))=.ok (goInt n) w2∧Hid (Bytes w2 (some ⟨w.heap.size,0,none⟩) l∧Below w.heap.size w w2):=by
  cases a with
  | some y=>
   obtain ⟨w3,hcp,hc,k3,hs⟩:=mk_copy (cap:=cap) l n hn hB
   exact ⟨w3,hcp,hide ⟨.inr ⟨w.heap.size,0,rfl,by omega,fun i hi=>by rw[Nat.zero_add];exact hc i (by omega)⟩,k3⟩⟩
  | none=>
   have h0:l=[]:=by
    rcases hB with z|⟨_,_,z,_⟩
    ·exact z
    ·cases z
   have hn0:n=0:=by rw[hn,h0];rfl
   refine ⟨_,?_,hide ⟨.inl h0,kb⟩⟩
   have q:=run_copy_none (P:=Tryz.prog) (w.alloc (.cells (madeCells #[.int .u8 0] n) 5)) 22 22 3 5 (some ⟨w.heap.size,0,none⟩) none n n n cap Tryz.underlying22 (by kernel_rfl) (by rw[hn0];rfl)
   rw[q,hn0]
   rfl
 obtain ⟨w2,hcp,HR⟩:=hcopy
 have m1:=fun w'=>run_make_row' (P:=Tryz.prog) 22 5 (.int .u8 0) 1 Tryz.underlying22 Tryz.info5' rfl .i64 .i64 n (by omega) (by omega) w'
 rw[← hn] at hg ⊢
 have d1:decide ((4096:Int)-0<(n:Nat))=false:=decide_eq_false (by omega)
 have d2:decide ((4096:Int)<(n:Nat))=false:=decide_eq_false (by omega)
 have d3:decide (4096<n)=false:=decide_eq_false (by omega)
 have d4:(4096<n)=False:=eq_false (by omega)
 have w1:IntKind.i64.wrap (n:Int)=(n:Int):=wrap_small _ (by omega) (by omega)
 have w1':IntKind.i64.wrap (0+(n:Int))=(n:Int):=by rw[Int.zero_add];exact w1
 have HN:=hide hn
 clear hn hl hB kb hgl
 go_enter Tryz.func58,Tryz.ntmps58
 go_wp2_with fail
 go_loopw [4,13] (fun nv iv wr=>((nv=.int .i64 0∧iv=.int .i64 0)∨(nv=.int .i64 (n:Nat)∧iv=.int .i64 1))∧wr=w) (fun _ iv _=>1-(intOf iv).toNat)
 case atStart=>exact ⟨.inl ⟨rfl,rfl⟩,rfl⟩
 case round=>
  obtain ⟨⟨rfl,rfl⟩|⟨rfl,rfl⟩,rfl⟩:=hrel
  ·go_wp2
   all_goals go_roundw
   all_goals first|exact ⟨.inr ⟨by simp,by simp⟩,by first|rfl|trivial⟩|(simp [intOf])
  ·go_wp2_with fail
   generalize hW1:World.alloc wr _=W1 at *
   generalize hbs:wr.heap.size=bs at *
   have HS:=hide (Still.refl w2)
   clear hW1 hg
   go_loopw [8,31] (fun av iv wr2=>(av=.int .i64 0∧iv=.int .i64 0∧wr2=W1)∨(av=.int .i64 (n:Nat)∧iv=.int .i64 1∧Hid (Still w2 wr2))) (fun _ iv _=>1-(intOf iv).toNat)
   case atStart=>exact .inl ⟨rfl,rfl,rfl⟩
   case round=>
    rcases hrel with ⟨rfl,rfl,rfl⟩|⟨rfl,rfl,hS⟩
    ·go_wp2
     all_goals try go_region
     all_goals go_wp2
     all_goals go_roundw
     all_goals first|exact .inr ⟨by simp,by simp,HS⟩|exact .inr ⟨by simp,by simp,hide ((unhide HS).drew _)⟩|(simp [intOf])
    ·go_wp2
     all_goals go_ret2
     all_goals rw[hbs]
     all_goals exact ⟨bs,rfl,Nat.le_refl _,(unhide HR).1.below (unhide hS).below,(unhide HR).2.trans ((unhide hS).below.mono (by have:=(unhide HR).2.size;omega))⟩
theorem num_any {w:World} (x:Int):Calls Tryz.prog 10 #[.int .i64 x] w fun e w'=>e=.returned (.int .i64 x)∧Still w w':=by
 go_enter Tryz.func10,Tryz.ntmps10
 go_wp2_with fail
 go_ret
 exact ⟨rfl,Still.refl _⟩
def intoN (n:Int) (m:Nat):Nat:=(n%(m:Int)).toNat
theorem into_any {w:World} (n:Int) (m:Nat) (hm:1≤m) (hm2:m≤1000000) (h1:-9223372036854775808≤n) (h2:n≤9223372036854775807):Calls Tryz.prog 19 #[.int .i64 n,.int .i64 (m:Nat)] w fun e w'=>e=.returned (.int .i64 (intoN n m:Nat))∧Still w w':=by
 obtain ⟨k,hk⟩:∃ k,n.tmod (m:Nat)=k:=⟨_,rfl⟩
 have hlo:-(m:Int)<k:=by
  rw[← hk]
  have:=Int.tmod_lt_of_pos (-n) (b:=(m:Nat)) (by omega)
  rw[Int.neg_tmod] at this
  omega
 have hhi:k<(m:Int):=by rw[← hk];exact Int.tmod_lt_of_pos n (by omega)
 have hmod:k%(m:Int)=n%(m:Int):=by
  rw[← hk]
  have:=Int.tmod_add_mul_tdiv n (m:Nat)
  conv=>rhs;rw[← this]
  rw[Int.add_mul_emod_self_left]
 have wk:IntKind.i64.wrap k=k:=wrap_small _ (by omega) (by omega)
 have z0:((m:Int) == 0)=false:=by simp;omega
 have z0':((m:Int)=0)=False:=by simp;omega
 by_cases hn:k<0
 ·have e:((intoN n m:Nat):Int)=k+m:=by
   unfold intoN
   have:n%(m:Int)=k+m:=by
    rw[← hmod,← Int.add_emod_right,Int.emod_eq_of_lt (by omega) (by omega)]
   rw[this]
   omega
  rw[e]
  have d1:decide (k<0)=true:=decide_eq_true hn
  have w1:IntKind.i64.wrap (k+(m:Int))=k+(m:Int):=wrap_small _ (by omega) (by omega)
  clear e hmod hn hlo hhi
  go_enter Tryz.func19,Tryz.ntmps19
  go_wp2_with fail
  all_goals go_ret
  all_goals exact ⟨rfl,Still.refl _⟩
 ·have e:((intoN n m:Nat):Int)=k:=by
   unfold intoN
   have:n%(m:Int)=k:=by
    rw[← hmod,Int.emod_eq_of_lt (by omega) (by omega)]
   rw[this]
   omega
  rw[e]
  have d1:decide (k<0)=false:=decide_eq_false hn
  clear e hmod hn hlo hhi
  go_enter Tryz.func19,Tryz.ntmps19
  go_wp2_with fail
  all_goals go_ret
  all_goals exact ⟨rfl,Still.refl _⟩
theorem at_any {w:World}{ph:Nat}{tag:Nat→Nat}{M:Hp}{H:HC} (h:HAt w ph tag M H) (n:Int) (h1:-9223372036854775808≤n) (h2:n≤9223372036854775807):
  Calls Tryz.prog 13 #[.pointer (some ⟨ph,0,none⟩),.int .i64 n] w fun e w'=>e=.returned (.int .u64 ((((handR M n).map (refW M)).getD 0:Nat):Int))∧Below w.heap.size w w':=by
 have A1:=hide (hatM_any h n h1 h2)
 clear h h1 h2
 generalize ((handR M n).map (refW M)).getD 0=V at *
 generalize (if (handR M n).isSome then (0:Int) else 35)=E at *
 go_enter Tryz.func13,Tryz.ntmps13
 go_wp2_with fail
 refine (unhide A1).mono ?_
 rintro e w2 ⟨rfl,k2⟩
 have K2:=hide k2
 clear k2 A1
 go_wp2_with fail
 all_goals go_ret
 all_goals exact ⟨rfl,unhide K2⟩
structure Few (M:Hp):Prop where
 o1:1≤M.objs.length
 cl:M.coll≤1000000000
 rz:M.resz≤1000000000
 sl:M.slots.length≤10000
 rt:M.roots.length≤10000
theorem bnew_one {w:World}{ph:Nat}{tag:Nat→Nat}{M:Hp}{H:HC} (h:HAt w ph tag M H) (f:Few M) {g:Nat}{a:Option Addr}{cap:Nat} (l:List Nat) (hg:w.cell? ⟨g,0,none⟩=some (.slice a l.length cap)) (hB:Bytes w a l) (hl:l.length≤4096) (hs:Small l):
  Calls Tryz.prog 26 #[.pointer (some ⟨ph,0,none⟩),.slice (some ⟨g,0,none⟩) 1 1] w fun e w'=>∃ v x:Nat,e=.returned (.tuple #[.int .u64 (v:Nat),.int .i64 (x:Nat)])∧∃ tag' H' M',LayR M l M' v x∧Fr tag tag' w w'∧HAt w' ph tag' M' H':=by
 have A1:=hide (bjoin_one l hg hB hl)
 have A2:Hid (∀ W b,w.heap.size≤b→Bytes W (some ⟨b,0,none⟩) l→Below w.heap.size w W→Calls Tryz.prog 59 #[.pointer (some ⟨ph,0,none⟩),.slice (some ⟨b,0,none⟩) l.length l.length] W fun e w'=>∃ v x:Nat,e=.returned (.tuple #[.int .u64 (v:Nat),.int .i64 (x:Nat)])∧∃ tag' H' M',LayR M l M' v x∧Fr tag tag' w w'∧HAt w' ph tag' M' H'):=hide (fun W b hb hBW k=>by
  refine (blay_any (h.still k) f.o1 (by have:=f.cl;omega) (by have:=f.rz;omega) (by have:=f.sl;omega) l (by omega) hs (some ⟨b,0,none⟩) l.length hBW (fun _ b' off e=>?_)).mono ?_
  ·cases e
   by_cases q:tag b=0
   ·exact q
   ·have:=h.raw.un b q;omega
  ·rintro e w' ⟨v,x,q1,tag',H',M',q2,q3,q4⟩
   exact ⟨v,x,q1,tag',H',M',q2,(Fr.of_below k).trans q3,q4⟩)
 clear h f hg hB hl hs
 generalize l.length=N at *
 go_enter Tryz.func26,Tryz.ntmps26
 go_wp2_with fail
 refine (unhide A1).mono ?_
 rintro e w2 ⟨b,rfl,q1,q2,q3⟩
 have B2:=hide (unhide A2 _ _ q1 q2 q3)
 clear q1 q2 q3 A1 A2
 go_wp2_with fail
 refine (unhide B2).mono ?_
 rintro e w3 ⟨v,x,rfl,hR⟩
 have HR:=hide hR
 clear hR B2
 go_wp2_with fail
 all_goals go_ret2
 all_goals exact ⟨v,x,rfl,unhide HR⟩
theorem Fr.alloc {tag:Nat→Nat} (w:World) (x:Obj):Fr tag tag w (w.alloc x):=Fr.of_below ((Below.refl _ _).alloc (Nat.le_refl _) _)
theorem made_any {w:World}{ph:Nat}{tag:Nat→Nat}{M:Hp}{H:HC} (h:HAt w ph tag M H) (f:Few M) {a:Option Addr}{cap:Nat} (l:List Nat) (hB:Bytes w a l) (hl:l.length≤4096) (hs:Small l) (room:∀ M1 v x,AllocR M 1 0 (1+Larder.wn l.length) M1 v x→x=0):
  Calls Tryz.prog 11 #[.pointer (some ⟨ph,0,none⟩),.slice a l.length cap] w fun e w'=>∃ m:Nat,e=.returned (.int .i64 ((m:Int)+1))∧∃ tag' H' M1 v,LayR M l M1 v 0∧LowR M1 m∧Fr tag tag' w w'∧HAt w' ph tag' (rootM M1 m v) H':=by
 have hb0:Below w.heap.size w (w.alloc (.cells #[.slice a l.length cap] 22)):=(Below.refl _ _).alloc (Nat.le_refl _) _
 have A1:Hid (Calls Tryz.prog 26 #[.pointer (some ⟨ph,0,none⟩),.slice (some ⟨w.heap.size,0,none⟩) 1 1] (w.alloc (.cells #[.slice a l.length cap] 22)) fun e w'=>∃ v:Nat,e=.returned (.tuple #[.int .u64 (v:Nat),.int .i64 0])∧∃ tag' H' M',LayR M l M' v 0∧Fr tag tag' w w'∧HAt w' ph tag' M' H'):=hide (by
  refine (bnew_one (h.still hb0) f l (cell_made rfl _ _) (hB.below hb0) hl hs).mono ?_
  rintro e w' ⟨v,x,rfl,tag',H',M',q1,q2,q3⟩
  have hx:x=0:=by
   obtain ⟨M1,_,al,_⟩:=q1
   exact room _ _ _ al
  subst hx
  exact ⟨v,rfl,tag',H',M',q1,(Fr.alloc w _).trans q2,q3⟩)
 have A2:Hid (∀ W v,(∃ tag' H' M',LayR M l M' v 0∧Fr tag tag' w W∧HAt W ph tag' M' H')→∀ W',Still W W'→Calls Tryz.prog 15 #[.pointer (some ⟨ph,0,none⟩),.int .u64 (v:Nat)] W' fun e w'=>∃ m:Nat,e=.returned (.tuple #[.int .i64 ((m:Int)+1),.int .i64 0])∧∃ tag' H' M1 v,LayR M l M1 v 0∧LowR M1 m∧Fr tag tag' w w'∧HAt w' ph tag' (rootM M1 m v) H'):=hide (by
  rintro W v ⟨tag',H',M',q1,q2,q3⟩ W' k
  have q1':=q1
  obtain ⟨M1,wf1,al,⟨z,_⟩|⟨_,eM⟩⟩:=q1
  ·exact absurd rfl z
  ·obtain ⟨n1,n2,n3,n4,n5⟩:=lay_blob h.wf f.o1 hs wf1 al eM
   have hm:mayM M' v=true:=by
    unfold mayM
    rw[n1]
    exact decide_eq_true (.inr (by have:=f.o1;omega))
   have q2':Fr tag tag' w W':=q2.trans (Fr.of_below k.below)
   refine (hrootM_yes (q3.still k.below) (by rw[n4];have:=f.rt;omega) v n2 hm).mono ?_
   rintro e w' ⟨m,tag2,H2,rfl,low,he,f2⟩
   exact ⟨m,by rw[Int.add_comm],tag2,H2,M',v,q1',low,q2'.trans f2,he⟩)
 have A3:=hide (fun W (x:Int)=>num_any (w:=W) x)
 clear h f hB hl hs room hb0
 generalize l.length=N at *
 generalize hW0:World.alloc w _=W0 at *
 generalize hbs:w.heap.size=bs at *
 go_enter Tryz.func11,Tryz.ntmps11
 go_wp2_with fail
 (try rw[hW0]);(try rw[hbs])
 refine (unhide A1).mono ?_
 rintro e w2 ⟨v,rfl,g2⟩
 have G2:=hide g2
 clear g2 A1
 go_wp2_with fail
 refine (unhide A3 _ _).mono ?_
 rintro e w3 ⟨rfl,k3⟩
 have B2:=hide (unhide A2 _ _ (unhide G2) _ k3)
 clear k3 G2 A2
 go_wp2_with fail
 refine (unhide B2).mono ?_
 rintro e w4 ⟨m,rfl,hR⟩
 have HR:=hide hR
 clear hR B2
 go_wp2_with fail
 refine (unhide A3 _ _).mono ?_
 rintro e w5 ⟨rfl,k5⟩
 have K5:=hide k5
 clear k5 A3
 go_wp2_with fail
 all_goals go_ret
 all_goals (
  obtain ⟨tag',H',M1,v',r1,r2,r3,r4⟩:=unhide HR
  exact ⟨m,rfl,tag',H',M1,v',r1,r2,r3.trans (Fr.of_below (unhide K5).below),r4.still (unhide K5).below⟩)
structure Keeps (M M':Hp):Prop where
 rt:M'.roots=M.roots
 li:M'.limit=M.limit
 bl:∀ i l,i≠0→some i∈M.roots→IsBlob M i l→IsBlob M' i l
theorem Keeps.refl (M:Hp):Keeps M M:=⟨rfl,rfl,fun _ _ _ _ h=>h⟩
theorem Keeps.trans {A B C:Hp} (h:Keeps A B) (k:Keeps B C):Keeps A C:=⟨k.rt.trans h.rt,k.li.trans h.li,fun i l h0 hi hb=>k.bl i l h0 (by rw[h.rt];exact hi) (h.bl i l h0 hi hb)⟩
theorem Keeps.of_gr {M M':Hp} (wf:HpWf M) (wf':HpWf M') (hr:M'.roots=M.roots) (hl:M'.limit=M.limit) (hg:∀ ns,Gr M ns→∃ ms,Gr M' (ns++ms)):Keeps M M':=by
 refine ⟨hr,hl,fun i l h0 hi hb=>?_⟩
 have his:Is M' i:=by
  rcases wf'.ok.rt i (by rw[hr];exact hi) with z|z
  ·exact absurd z h0
  ·exact z
 refine ⟨his,?_⟩
 obtain ⟨ms,g⟩:=hg _ (gr_self M)
 have e1:=g.dt i his
 have hlt:i<M.objs.length:=wf.ln i hb.1
 rw[List.getD_eq_getElem?_getD,List.getElem?_append_left (by rw[List.length_map];exact hlt),← List.getD_eq_getElem?_getD,(gr_self M).dt i hb.1] at e1
 rw[← e1]
 exact hb.2
theorem Keeps.coll {M M1:Hp} (wf:HpWf M) (wf':HpWf (fitM M1 0)) (c:IsColl M M1):Keeps M (fitM M1 0):=by
 have n:=c.nums
 have o:=fitM_objs M1 0
 exact Keeps.of_gr wf wf' (by rw[o.2.1,n.2.2.2.2.1]) (by rw[o.2.2.1,n.1]) fun ns g=>⟨[],by rw[List.append_nil];exact (g.coll wf c).fit 0⟩
theorem AllocR.limit {M M':Hp}{k r s v x:Nat} (h:AllocR M k r s M' v x):M'.limit=M.limit:=by
 have fl:∀ M0 s,IsColl M M0→(fitM M0 s).limit=M.limit:=fun M0 s c=>by rw[(fitM_objs M0 s).2.2.1,c.nums.1]
 rcases h with ⟨_,M1,hp,h⟩|⟨_,M1,hp,h⟩
 ·have g:M1.limit=M.limit:=by
   rcases hp with ⟨_,rfl⟩|⟨_,M0,hc,rfl⟩
   ·rfl
   ·exact fl _ _ hc
  rcases h with ⟨_,_,_,rfl⟩|⟨_,_,_,rfl⟩
  ·exact g
  ·exact g
 ·have g:M1.limit=M.limit:=by
   rcases hp with ⟨_,_,rfl⟩|⟨_,M0,hc,rfl⟩
   ·rfl
   ·exact fl _ _ hc
  rcases h with ⟨M2,n,way,_,_,_,rfl⟩|⟨_,_,_,rfl⟩
  ·show M2.limit=_
   rcases way with ⟨_,rfl⟩|⟨_,_,_,_,rfl⟩
   ·exact g
   ·rw[(becM_parts _ _).2.2.1];exact g
  ·exact g
theorem Keeps.alloc {M M':Hp}{k r s v x:Nat} (wf:HpWf M) (wf':HpWf M') (h1:1≤M.objs.length) (a:AllocR M k r s M' v x):Keeps M M':=by
 obtain ⟨hr,q⟩:=AllocR.gr wf h1 a
 refine Keeps.of_gr wf wf' hr a.limit fun ns g=>?_
 rcases q with ⟨_,_,_,_,q⟩|⟨_,_,_,q⟩
 ·exact ⟨_,q ns g⟩
 ·exact ⟨[],by rw[List.append_nil];exact q ns g⟩
structure FewN (M:Hp) (n:Nat):Prop where
 o1:1≤M.objs.length
 cl:M.coll≤n
 rz:M.resz≤n
 sl:M.slots.length≤n
 rt:M.roots.length≤n
theorem FewN.few {M:Hp}{n:Nat} (h:FewN M n) (hn:n≤10000):Few M:=⟨h.o1,by have:=h.cl;omega,by have:=h.rz;omega,by have:=h.sl;omega,by have:=h.rt;omega⟩
theorem FewN.mono {M:Hp}{n m:Nat} (h:FewN M n) (k:n≤m):FewN M m:=⟨h.o1,by have:=h.cl;omega,by have:=h.rz;omega,by have:=h.sl;omega,by have:=h.rt;omega⟩
theorem FewN.alloc {M M':Hp}{n k r s v x:Nat} (h:FewN M n) (wf:HpWf M) (a:AllocR M k r s M' v x):FewN M' (n+2):=by
 have g:=a.grown
 obtain ⟨hr,q⟩:=AllocR.gr wf h.o1 a
 refine ⟨?_,by have:=g.cl;have:=h.cl;omega,by have:=g.rz;have:=h.rz;omega,by have:=g.sl;have:=h.sl;omega,by rw[hr];have:=h.rt;omega⟩
 rcases q with ⟨_,q,_⟩|⟨_,_,q,_⟩
 ·omega
 ·rw[q];exact h.o1
theorem FewN.coll {M M1:Hp}{n:Nat} (h:FewN M n) (c:IsColl M M1):FewN (fitM M1 0) (n+2):=by
 have g:=Grown.fit c 0
 have q:=c.nums
 have o:=fitM_objs M1 0
 refine ⟨by rw[o.1,q.2.2.2.2.2];exact h.o1,by have:=g.cl;have:=h.cl;omega,by have:=g.rz;have:=h.rz;omega,by have:=g.sl;have:=h.sl;omega,by rw[o.2.1,q.2.2.2.2.1];have:=h.rt;omega⟩
def Ints (w:World) (tag:Nat→Nat) (a:Option Addr) (n:Nat):Prop:=n=0∨∃ b off,a=some ⟨b,off,none⟩∧b<w.heap.size∧tag b=0∧∀ i,i<n→∃ z:Int,w.cell? ⟨b,off+i,none⟩=some (.int .i64 z)∧-9223372036854775808≤z∧z≤9223372036854775807
def Past (w:World) (ph:Nat) (tag:Nat→Nat) (M:Hp) (n:Nat) (W:World):Prop:=∃ tag' H' M',Keeps M M'∧FewN M' n∧Fr tag tag' w W∧HAt W ph tag' M' H'
theorem Past.still {w W W':World}{ph:Nat}{tag:Nat→Nat}{M:Hp}{n:Nat} (h:Past w ph tag M n W) (k:Still W W'):Past w ph tag M n W':=by
 obtain ⟨tag',H',M',q1,q2,q3,q4⟩:=h
 exact ⟨tag',H',M',q1,q2,q3.trans (Fr.of_below k.below),q4.still k.below⟩
theorem Past.alloc {w W:World}{ph:Nat}{tag:Nat→Nat}{M:Hp}{n:Nat} (h:Past w ph tag M n W) (hn:n≤10000) (s:Nat) (hs:s≤400):
  Calls Tryz.prog 36 #[.pointer (some ⟨ph,0,none⟩),.int .i64 5,.int .i64 0,.int .i64 (s:Nat)] W fun e w'=>∃ y x,e=.returned (.tuple #[y,x])∧Past w ph tag M (n+2) w':=by
 obtain ⟨tag',H',M',q1,q2,q3,q4⟩:=h
 have f:=q2.few hn
 refine (halloc_any q4 f.o1 (by have:=f.cl;omega) (by have:=f.rz;omega) (by have:=f.sl;omega) 5 0 s ⟨by decide,by decide,by decide,by decide,by omega,by omega⟩).mono ?_
 rintro e w' ⟨tag2,H2,M2,v,x,al,f2,rfl,he⟩
 exact ⟨_,_,rfl,tag2,H2,M2,q1.trans (Keeps.alloc q4.wf he.wf q2.o1 al),q2.alloc q4.wf al,q3.trans f2,he⟩
theorem Past.coll {w W:World}{ph:Nat}{tag:Nat→Nat}{M:Hp}{n:Nat} (h:Past w ph tag M n W) (hn:n≤10000):
  Calls Tryz.prog 32 #[.pointer (some ⟨ph,0,none⟩)] W fun e w'=>e=.returned (.tuple #[])∧Past w ph tag M (n+2) w':=by
 obtain ⟨tag',H',M',q1,q2,q3,q4⟩:=h
 have f:=q2.few hn
 refine (hcollect_any q4 (by have:=f.cl;omega) (by have:=f.rz;omega)).mono ?_
 rintro e w' ⟨rfl,tag2,H2,M2,c,he,f2⟩
 exact ⟨rfl,tag2,H2,_,q1.trans (Keeps.coll q4.wf he.wf c),q2.coll c,q3.trans f2,he⟩
theorem waste_any {w:World}{ph:Nat}{tag:Nat→Nat}{M:Hp}{N:Nat} (h:Past w ph tag M N w) (hN:N≤5000) {a:Option Addr}{n cap:Nat} (hz:Ints w tag a n):
  Calls Tryz.prog 12 #[.pointer (some ⟨ph,0,none⟩),.slice a n cap] w fun e w'=>e=.returned (.tuple #[])∧Past w ph tag M (N+100) w':=by
 have HZ:=hide hz
 have HP0:=hide h
 have A1:Hid (∀ i W,i<20→Past w ph tag M (N+4*i) W→∀ s,s≤400→Calls Tryz.prog 36 #[.pointer (some ⟨ph,0,none⟩),.int .i64 5,.int .i64 0,.int .i64 (s:Nat)] W fun e w'=>∃ y x,e=.returned (.tuple #[y,x])∧Past w ph tag M (N+4*i+2) w'):=hide (fun i W hi p s hs=>p.alloc (by omega) s hs)
 have A2:Hid (∀ i W,i<20→Past w ph tag M (N+4*i+2) W→Calls Tryz.prog 32 #[.pointer (some ⟨ph,0,none⟩)] W fun e w'=>e=.returned (.tuple #[])∧Past w ph tag M (N+4*(i+1)) w'):=hide (fun i W hi p=>(p.coll (by omega)).mono fun e w' ⟨q1,q2⟩=>⟨q1,q2⟩)
 have MO:Hid (∀ k m W,k≤m→Past w ph tag M k W→Past w ph tag M m W):=hide (by
  rintro k m W hk ⟨t1,t2,t3,q1,q2,q3,q4⟩
  exact ⟨t1,t2,t3,q1,q2.mono hk,q3,q4⟩)
 clear h hz hN
 go_enter Tryz.func12,Tryz.ntmps12
 go_wp2_with fail
 go_loopw [4] (fun iv wr=>∃ i:Nat,iv=.int .i64 (i:Nat)∧i≤n∧i≤20∧Hid (Past w ph tag M (N+4*i) wr)) (fun iv _=>20-(intOf iv).toNat)
 case atStart=>exact ⟨0,rfl,Nat.zero_le _,Nat.zero_le _,hide (unhide MO _ _ _ (by omega) (unhide HP0))⟩
 case round=>
  obtain ⟨i,rfl,hin,hi2,hP⟩:=hrel
  have w1:IntKind.i64.wrap ((i:Int)+1)=(i:Int)+1:=wrap_small _ (by omega) (by omega)
  by_cases hlt:i<n∧i<20
  ·obtain ⟨z,b,off,rfl,ez,z1,z2⟩:∃ (z:Int) (b off:Nat),a=some ⟨b,off,none⟩∧wr.cell? ⟨b,off+i,none⟩=some (.int .i64 z)∧-9223372036854775808≤z∧z≤9223372036854775807:=by
    rcases unhide HZ with q|⟨b,off,rfl,hb,ht,hc⟩
    ·omega
    ·obtain ⟨z,e,z1,z2⟩:=hc i hlt.1
     obtain ⟨t1,t2,t3,p1,p2,f,p4⟩:=unhide hP
     exact ⟨z,b,off,rfl,(cell_like (f.blk b hb ht).1 _).trans e,z1,z2⟩
   have hk:intoN z 400≤400:=by unfold intoN;have:=Int.emod_lt_of_pos z (b:=400) (by decide);omega
   have B0:=hide (fun W=>into_any (w:=W) z 400 (by decide) (by decide) z1 z2)
   have B1:Hid (∀ W,Still wr W→Calls Tryz.prog 36 #[.pointer (some ⟨ph,0,none⟩),.int .i64 5,.int .i64 0,.int .i64 (intoN z 400:Nat)] W fun e w'=>∃ y x,e=.returned (.tuple #[y,x])∧Past w ph tag M (N+4*i+2) w'∧w'.cell? ⟨b,off+i,none⟩=some (.int .i64 z)):=hide (fun W k=>by
    refine (unhide A1 i W hlt.2 ((unhide hP).still k) _ hk).mono ?_
    rintro e w' ⟨y,x,q1,q2⟩
    refine ⟨y,x,q1,q2,?_⟩
    rcases unhide HZ with q|⟨b',off',eb,hb,ht,hc⟩
    ·omega
    ·cases eb
     obtain ⟨z',e',_,_⟩:=hc i hlt.1
     obtain ⟨t1,t2,t3,p1,p2,f,p4⟩:=unhide hP
     obtain ⟨u1,u2,u3,v1,v2,f',v4⟩:=q2
     have h1:=(cell_like (f.blk b hb ht).1 (off+i)).trans e'
     rw[h1] at ez
     rw[(cell_like (f'.blk b hb ht).1 (off+i)).trans e',ez])
   have B2:Hid (∀ W,Past w ph tag M (N+4*i+2) W→Calls Tryz.prog 32 #[.pointer (some ⟨ph,0,none⟩)] W fun e w'=>e=.returned (.tuple #[])∧Hid (Past w ph tag M (N+4*(i+1)) w')):=hide (fun W p=>(unhide A2 i W hlt.2 p).mono fun e w' ⟨q1,q2⟩=>⟨q1,hide q2⟩)
   generalize intoN z 400=K at *
   have d1:decide ((i:Int)<(n:Nat))=true:=decide_eq_true (by omega)
   have d2:decide ((i:Int)<20)=true:=decide_eq_true (by omega)
   have d1':(i<n)=True:=eq_true hlt.1
   have d2':(i<20)=True:=eq_true hlt.2
   have i1:(0:Int)≤(i:Nat):=by omega
   have i2:(i:Int)<(n:Nat):=by omega
   have HLT:=hide hlt
   have HS0:=hide (Still.refl wr)
   obtain ⟨r3,hr3⟩:∃ r3,z.tmod 3=r3:=⟨_,rfl⟩
   have wr3:IntKind.i64.wrap r3=r3:=by
    have b1:=Int.tmod_lt_of_pos z (b:=3) (by decide)
    have b2:=Int.tmod_lt_of_pos (-z) (b:=3) (by decide)
    rw[Int.neg_tmod] at b2
    exact wrap_small _ (by omega) (by omega)
   clear hlt hin hi2 hP z1 z2 hk A1 A2
   go_wp2_with fail
   refine (unhide B0 _).mono ?_
   rintro e w2 ⟨rfl,k2⟩
   have B3:=hide (unhide B1 _ k2)
   clear k2 B0 B1 ez
   go_wp2_with fail
   refine (unhide B3).mono ?_
   rintro e w3 ⟨y,x,rfl,p3,ez3⟩
   have B4:=hide (unhide B2 _ p3)
   have P3:=hide p3
   clear p3 B2 B3
   by_cases h0:r3=0
   ·subst h0
    go_wp2_with fail
    refine (unhide B4).mono ?_
    rintro e w4 ⟨rfl,hP4⟩
    clear B4 ez3
    go_wp2_with fail
    all_goals go_roundw
    all_goals first|exact ⟨i+1,by simp,by have:=unhide HLT;omega,by have:=unhide HLT;omega,hP4⟩|(have:=unhide HLT;simp [intOf];omega)
   ·have e0:(r3 == 0)=false:=by simp [h0]
    have e0':(r3=0)=False:=by simp [h0]
    clear h0
    go_wp2_with fail
    all_goals go_roundw
    all_goals first|exact ⟨i+1,by simp,by have:=unhide HLT;omega,by have:=unhide HLT;omega,hide (unhide MO _ _ _ (by omega) (unhide P3))⟩|(have:=unhide HLT;simp [intOf];omega)
  ·have hcs:(i<n)=False∨((i<n)=True∧(i<20)=False):=by
    by_cases q:i<n
    ·exact .inr ⟨eq_true q,eq_false (by omega)⟩
    ·exact .inl (eq_false q)
   have FIN:=hide (unhide MO _ (N+100) _ (by omega) (unhide hP))
   clear hlt hin hi2 hP w1
   rcases hcs with q1|⟨q1,q2⟩
   ·have d1:decide ((i:Int)<(n:Nat))=decide (i<n):=by simp
    have e1:decide (i<n)=false:=by simp only[q1];rfl
    rw[e1] at d1
    go_wp2_with fail
    (try simp only[Exit.inBlock,Exit.then])
    refine bodyPost_end (results_none rfl _ _ _) rfl ?_
    exact ⟨rfl,unhide FIN⟩
   ·have d1:decide ((i:Int)<(n:Nat))=decide (i<n):=by simp
    have e1:decide (i<n)=true:=by simp only[q1];rfl
    rw[e1] at d1
    have d2:decide ((i:Int)<20)=decide (i<20):=decide_eq_decide.2 (by omega)
    have e2:decide (i<20)=false:=by simp only[q2];rfl
    rw[e2] at d2
    go_wp2_with fail
    (try simp only[Exit.inBlock,Exit.then])
    refine bodyPost_end (results_none rfl _ _ _) rfl ?_
    exact ⟨rfl,unhide FIN⟩
end Go.Proofs.YtnfbaapbpgbgpaaGreat
