import Derived.Test.YtnfbaapbpgbgpaaGreatBlO
import Derived.Lib.BitFns
import Derived.Lib.BytesEntry
import Derived.Laws.Externs
import Derived.Test.YtnfbaapbpgbgpaaGreatByteM
namespace Go.Proofs.YtnfbaapbpgbgpaaGreat
open Go.ChangeShapes Go.WideShapes Go.ChangeAt Go.RowKit
set_option linter.unusedVariables false
set_option linter.unusedSimpArgs false
set_option maxRecDepth 100000
set_option maxHeartbeats 2000000
theorem ones_any {w:World} (c:Nat) (hc:c<256):Calls Tryz.prog 47 #[.int .u8 (c:Nat)] w fun e w'=>e=.returned (.int .i64 (Lib.onesCount c:Nat))∧Still w w':=by
 go_enter Tryz.func47,Tryz.ntmps47
 unfold Tryz.f47
 generalize hS:ByteArray.mk _=S
 have hz:S.size=256:=by rw[← hS];decide +kernel
 have hg:∀ n:Fin 256,(S[n.val]!).toNat=Lib.onesCount n.val:=by rw[← hS];decide +kernel
 have hlt:(c<S.size)=True:=eq_true (by omega)
 clear hS
 have hg':=hg ⟨c,hc⟩
 have hle:=Lib.onesCount_le8 ⟨c,hc⟩
 have hgc:∀ h:c<S.size,S[c].toNat=Lib.onesCount c:=fun h=>by rw[← hg'];exact congrArg UInt8.toNat (getElem!_pos S c h).symm
 clear hg hg'
 go_wp2_with fail
 go_ret
 refine ⟨?_,Still.refl _⟩
 have:wrap64 ((Lib.onesCount c:Nat):Int)=(Lib.onesCount c:Nat):=by unfold wrap64;omega
 rw[this]
 rfl
def ints (l:List Nat):List Int:=l.map fun (c:Nat)=>(c:Int)
def cmpI (a b:List Nat):Int:=Lib.compareBytes (Lib.bytesOf (ints a)) (Lib.bytesOf (ints b))
theorem load_any {w:World}{a:Option Addr}{cap:Nat}{l:List Nat} (hB:Bytes w a l):(Extern.Bytes.bytesOf (.slice a l.length cap)).run Tryz.prog w=.ok ⟨(Lib.bytesOf (ints l)).toArray⟩ w:=by
 cases a with
 | none=>
  have:l=[]:=by
   rcases hB with z|⟨_,_,z,_⟩
   ·exact z
   ·cases z
  subst this
  rfl
 | some x=>
  have hc:∀ j y,(ints l)[j]?=some y→w.cell? (x.add j)=some (.int .u8 y):=fun j y hj=>by
   have hjl:j<l.length:=by
    have:=(List.getElem?_eq_some_iff.1 hj).1
    simpa [ints] using this
   rcases hB with z|⟨b,off,e,hb,hcc⟩
   ·rw[z] at hjl;cases hjl
   ·cases e
    have e:(⟨b,off,none⟩:Addr).add j=⟨b,off+j,none⟩:=by unfold Addr.add;split <;> simp_all
    rw[e,hcc j hjl]
    unfold ints at hj
    rw[List.getElem?_map,get_of_getD hjl] at hj
    cases hj
    rfl
  have:=Lib.run_loadBytesX (P:=Tryz.prog) w (ints l) x .empty hc
  rw[show (ints l).length=l.length from List.length_map ..] at this
  show (Extern.Bytes.loadBytes x l.length .empty).run Tryz.prog w=_
  rw[this]
  congr 1
  apply ByteArray.ext
  simp
theorem bcmp_any {w:World}{a b:Option Addr}{c1 c2:Nat}{la lb:List Nat} (h1:Bytes w a la) (h2:Bytes w b lb):
  Calls Tryz.prog 48 #[.slice a la.length c1,.slice b lb.length c2] w fun e w'=>e=.returned (.int .i64 (cmpI la lb))∧Still w w':=by
 have hr:(callFunc 86 #[.slice a la.length c1,.slice b lb.length c2]).run Tryz.prog w=.ok (.value (.int .i64 (cmpI la lb))) w:=by
  rw[run_callFunc_extern Tryz.func86 (by kernel_rfl) (by kernel_rfl) (by kernel_rfl) (e:=Extern.BytealgCompare.compare) (by kernel_rfl)]
  have:(Extern.BytealgCompare.compare #[.slice a la.length c1,.slice b lb.length c2]).run Tryz.prog w=.ok (.int .i64 (cmpI la lb)) w:=by
   change Sem.run Tryz.prog (do pure (goInt (Extern.BytealgCompare.cmp (← Extern.Bytes.bytesOf (.slice a la.length c1)) (← Extern.Bytes.bytesOf (.slice b lb.length c2))))) w=_
   simp only[Sem.run_bind,Sem.run_pure,load_any h1,load_any h2,Result.andThen]
   rw[Lib.cmp_eq]
   rfl
  rw[this]
  rfl
 clear h1 h2
 generalize la.length=n1 at *
 generalize lb.length=n2 at *
 generalize cmpI la lb=V at *
 go_enter Tryz.func48,Tryz.ntmps48
 go_wp2
 go_ret
 exact ⟨rfl,Still.refl _⟩
theorem getD_ext {a b:List Nat} (hl:a.length=b.length) (h:∀ j,j<a.length→a.getD j 0=b.getD j 0):a=b:=by
 refine List.ext_getElem? fun j=>?_
 by_cases q:j<a.length
 ·rw[get_of_getD q,get_of_getD (by omega),h j q]
 ·rw[List.getElem?_eq_none (by omega),List.getElem?_eq_none (by omega)]
theorem cmp_any {w:World}{a b:Option Addr}{c1 c2:Nat}{la lb:List Nat} (hA:la.length≤100000000) (hB:lb.length≤100000000) (h1:∀ j,j<la.length→∃ g o,a=some ⟨g,o,none⟩∧w.cell? ⟨g,o+j,none⟩=some (.int .u8 (la.getD j 0:Nat))) (h2:∀ j,j<lb.length→∃ g o,b=some ⟨g,o,none⟩∧w.cell? ⟨g,o+j,none⟩=some (.int .u8 (lb.getD j 0:Nat))):
  Calls Tryz.prog 46 #[.slice a la.length c1,.slice b lb.length c2] w fun e w'=>∃ r:Int,e=.returned (.int .i64 r)∧(decide (r=0)=decide (la=lb))∧Still w w':=by
 have H1:=hide h1
 have H2:=hide h2
 have DN:Hid (∀ j,j<la.length→j<lb.length→la.getD j 0≠lb.getD j 0→decide (la=lb)=false):=hide (fun j _ _ hj=>decide_eq_false (fun e=>hj (by rw[e])))
 have DL:Hid (la.length≠lb.length→decide (la=lb)=false):=hide (fun hj=>decide_eq_false (fun e=>hj (by rw[e])))
 have DY:Hid (la.length=lb.length→(∀ j,j<la.length→la.getD j 0=lb.getD j 0)→decide (la=lb)=true):=hide (fun e h=>decide_eq_true (getD_ext e h))
 clear h1 h2
 generalize decide (la=lb)=D at *
 obtain ⟨f,hf⟩:∃ f:Nat→Nat,f=fun j=>la.getD j 0:=⟨_,rfl⟩
 obtain ⟨g,hg⟩:∃ g:Nat→Nat,g=fun j=>lb.getD j 0:=⟨_,rfl⟩
 have ef:∀ j,la.getD j 0=f j:=fun j=>by rw[hf]
 have eg:∀ j,lb.getD j 0=g j:=fun j=>by rw[hg]
 simp only[ef,eg] at H1 H2 DN DY
 clear hf hg ef eg
 generalize la.length=nA at *
 generalize lb.length=nB at *
 go_enter Tryz.func46,Tryz.ntmps46
 go_wp2_with fail
 go_loopw [5] (fun iv wr=>∃ i:Nat,iv=.int .i64 (i:Nat)∧i≤nA∧i≤nB∧(∀ j,j<i→f j=g j)∧Still w wr) (fun iv _=>nA-(intOf iv).toNat)
 case atStart=>exact ⟨0,rfl,Nat.zero_le _,Nat.zero_le _,fun j hj=>absurd hj (Nat.not_lt_zero _),Still.refl _⟩
 case round=>
  obtain ⟨i,rfl,hi,hi2,hs,hk⟩:=hrel
  have w1:IntKind.i64.wrap ((i:Int)+1)=(i:Int)+1:=wrap_small _ (by omega) (by omega)
  have HK:=hide hk
  have HI:=hide (And.intro hi (And.intro hi2 hs))
  by_cases hin:i<nA
  ·by_cases hin2:i<nB
   ·obtain ⟨ga,oa,rfl,ea⟩:=unhide H1 i hin
    obtain ⟨gb,ob,rfl,eb⟩:=unhide H2 i hin2
    have e1:=(hk.cell _).trans ea
    have e2:=(hk.cell _).trans eb
    have dl:decide ((i:Int)<(nA:Nat))=true:=decide_eq_true (by omega)
    have dl2:decide ((i:Int)<(nB:Nat))=true:=decide_eq_true (by omega)
    have dl':(i<nA)=True:=eq_true hin
    have dl2':(i<nB)=True:=eq_true hin2
    have i1:(0:Int)≤(i:Nat):=by omega
    have i2:(i:Int)<(nA:Nat):=by omega
    have i3:(i:Int)<(nB:Nat):=by omega
    rcases Nat.lt_trichotomy (f i) (g i) with q|q|q
    ·have DD:=unhide DN i hin hin2 (by omega)
     have x1:decide (((f i:Nat):Int)<((g i:Nat):Int))=true:=decide_eq_true (by omega)
     have x1':(f i<g i)=True:=eq_true q
     clear hk ea eb hin hin2 hi hi2 hs q
     go_wp2
     try go_region
     all_goals go_wp2
     all_goals go_ret
     all_goals first|exact ⟨-1,rfl,by rw[DD];decide,(unhide HK).drew _⟩|exact ⟨-1,rfl,by rw[DD];decide,unhide HK⟩
    ·rw[q] at e1
     have x1:decide (((g i:Nat):Int)<((g i:Nat):Int))=false:=decide_eq_false (by omega)
     have NX:Hid (i+1≤nA∧i+1≤nB∧(∀ j,j<i+1→f j=g j)∧nA-(i+1)<nA-i):=hide ⟨by omega,by omega,fun j hj=>by
      by_cases z:j=i
      ·rw[z];exact q
      ·exact hs j (by omega),by omega⟩
     clear hk ea eb hin hin2 hi hi2 hs q
     go_wp2
     try go_region
     all_goals go_wp2
     all_goals try go_region
     all_goals go_wp2
     all_goals go_roundw
     all_goals first|exact ⟨i+1,by simp,(unhide NX).1,(unhide NX).2.1,(unhide NX).2.2.1,((unhide HK).drew _).drew _⟩|exact ⟨i+1,by simp,(unhide NX).1,(unhide NX).2.1,(unhide NX).2.2.1,(unhide HK).drew _⟩|exact ⟨i+1,by simp,(unhide NX).1,(unhide NX).2.1,(unhide NX).2.2.1,unhide HK⟩|(have:=unhide NX;simp [intOf];omega)
    ·have DD:=unhide DN i hin hin2 (by omega)
     have x1:decide (((f i:Nat):Int)<((g i:Nat):Int))=false:=decide_eq_false (by omega)
     have x1':(f i<g i)=False:=eq_false (by omega)
     have x2:decide (((g i:Nat):Int)<((f i:Nat):Int))=true:=decide_eq_true (by omega)
     have x2':(g i<f i)=True:=eq_true q
     clear hk ea eb hin hin2 hi hi2 hs q
     go_wp2
     try go_region
     all_goals go_wp2
     all_goals try go_region
     all_goals go_wp2
     all_goals go_ret
     all_goals first|exact ⟨1,rfl,by rw[DD];decide,((unhide HK).drew _).drew _⟩|exact ⟨1,rfl,by rw[DD];decide,(unhide HK).drew _⟩|exact ⟨1,rfl,by rw[DD];decide,unhide HK⟩
   ·have dl:decide ((i:Int)<(nA:Nat))=true:=decide_eq_true (by omega)
    have dl':(i<nA)=True:=eq_true hin
    have dl2:decide ((i:Int)<(nB:Nat))=false:=decide_eq_false (by omega)
    have dl2':(i<nB)=False:=eq_false hin2
    have DD:=unhide DL (by omega)
    have y1:decide ((nA:Int)<(nB:Nat))=false:=decide_eq_false (by omega)
    have y1':(nA<nB)=False:=eq_false (by omega)
    have y2:decide ((nB:Int)<(nA:Nat))=true:=decide_eq_true (by omega)
    have y2':(nB<nA)=True:=eq_true (by omega)
    clear hk hin hin2 hi hi2 hs
    go_wp2
    all_goals go_ret
    all_goals exact ⟨1,rfl,by rw[DD];decide,unhide HK⟩
  ·have dl:decide ((i:Int)<(nA:Nat))=false:=decide_eq_false (by omega)
   have dl':(i<nA)=False:=eq_false hin
   by_cases hin2:nA<nB
   ·have DD:=unhide DL (by omega)
    have y1:decide ((nA:Int)<(nB:Nat))=true:=decide_eq_true (by omega)
    have y1':(nA<nB)=True:=eq_true hin2
    clear hk hin hin2 hi hi2 hs
    go_wp2
    all_goals go_ret
    all_goals exact ⟨-1,rfl,by rw[DD];decide,unhide HK⟩
   ·have DD:=unhide DY (by omega) (fun j hj=>hs j (by omega))
    have y1:decide ((nA:Int)<(nB:Nat))=false:=decide_eq_false (by omega)
    have y1':(nA<nB)=False:=eq_false hin2
    have y2:decide ((nB:Int)<(nA:Nat))=false:=decide_eq_false (by omega)
    have y2':(nB<nA)=False:=eq_false (by omega)
    clear hk hin hin2 hi hi2 hs
    go_wp2
    all_goals go_ret
    all_goals exact ⟨0,rfl,by rw[DD];decide,unhide HK⟩
theorem Bytes.cells2 {W:World}{a:Option Addr}{l:List Nat} (h:Bytes W a l) (j:Nat) (hj:j<l.length):∃ b off,a=some ⟨b,off,none⟩∧W.cell? ⟨b,off+j,none⟩=some (.int .u8 (l.getD j 0:Nat)):=by
 rcases h with z|⟨b,off,e,_,hc⟩
 ·rw[z] at hj;cases hj
 ·exact ⟨b,off,e,hc j hj⟩
theorem eqb_any {w:World}{a b:Option Addr}{c1 c2:Nat}{la lb:List Nat} (hA:la.length≤100000000) (hB:lb.length≤100000000) (h1:Bytes w a la) (h2:Bytes w b lb):
  Calls Tryz.prog 18 #[.slice a la.length c1,.slice b lb.length c2] w fun e w'=>e=.returned (.bool (decide (la=lb)))∧Still w w':=by
 have HA:=hide (cmp_any (c1:=c1) (c2:=c2) hA hB h1.cells2 h2.cells2)
 clear h1 h2 hA hB
 generalize decide (la=lb)=D at *
 generalize la.length=nA at *
 generalize lb.length=nB at *
 go_enter Tryz.func18,Tryz.ntmps18
 go_wp2_with fail
 refine (unhide HA).mono ?_
 rintro e w2 ⟨r,rfl,hr,hS⟩
 have HS:=hide hS
 have hr':(r == 0)=D:=by rw[← hr];rfl
 clear hS HA
 go_wp2_with fail
 all_goals go_ret
 all_goals exact ⟨by rw[← hr];rfl,unhide HS⟩
def cutL (l:List Nat) (f n:Nat):List Nat:=mapF n fun i=>l.getD (f+i) 0
theorem cut_length (l:List Nat) (f n:Nat):(cutL l f n).length=n:=mapF_length _ _
theorem cut_at (l:List Nat) (f n i:Nat) (h:i<n):(cutL l f n).getD i 0=l.getD (f+i) 0:=mapF_at _ _ _ h
theorem cut_small {l:List Nat}{f n:Nat} (hs:Small l) (h:f+n≤l.length):Small (cutL l f n):=fun i hi=>by
 rw[cut_length] at hi
 rw[cut_at _ _ _ _ hi]
 exact hs _ (by omega)
theorem bslice_is {w:World}{ph:Nat}{tag:Nat→Nat}{M:Hp}{H:HC} (h:HAt w ph tag M H) {x i:Nat}{l:List Nat} (hx:x<18446744073709551616) (hn:numOf M x=i) (h0:i≠0) (hb:IsBlob M i l) (hs:Small l) (hl:l.length≤4096) (f n:Nat) (hf:f+n≤l.length):
  Calls Tryz.prog 22 #[.pointer (some ⟨ph,0,none⟩),.int .u64 (x:Nat),.int .i64 (f:Nat),.int .i64 (n:Nat)] w fun e w'=>∃ g,e=.returned (.tuple #[.slice (some ⟨g,0,none⟩) n n,.int .i64 0])∧Bytes w' (some ⟨g,0,none⟩) (cutL l f n)∧Below w.heap.size w w':=by
 obtain ⟨r1,r2,r3,r4⟩:=blob_reads hn h0 hb hs
 have e:(mapF n fun i=>(bytM M (numOf M x)).getD (8+f+i) 0)=cutL l f n:=by
  refine getD_ext (by rw[mapF_length,cut_length]) fun j hj=>?_
  rw[mapF_length] at hj
  rw[mapF_at _ _ _ hj,cut_at _ _ _ _ hj,Nat.add_assoc,r4 _ (by omega)]
 have A1:=hide (blen_is h hx hn h0 hb hs hl)
 have A2:Hid (∀ W,Below w.heap.size w W→Calls Tryz.prog 43 #[.pointer (some ⟨ph,0,none⟩),.int .u64 (x:Nat),.int .i64 (f:Nat),.int .i64 (n:Nat)] W fun e w'=>∃ g,e=.returned (.tuple #[.slice (some ⟨g,0,none⟩) n n,.int .i64 0])∧Bytes w' (some ⟨g,0,none⟩) (cutL l f n)∧Below w.heap.size w w'):=hide (fun W k=>by
  refine (btake_some (h.still k) x hx f n (by omega) (by omega) (r3 f n hf)).mono ?_
  rintro e' w' ⟨g,q1,q2,q3,q4⟩
  rw[e] at q3
  exact ⟨g,q1,q3,k.trans (q4.mono k.size)⟩)
 have d1:decide ((f:Int)<0)=false:=decide_eq_false (by omega)
 have d2:decide ((n:Int)<0)=false:=decide_eq_false (by omega)
 have w1:IntKind.i64.wrap ((l.length:Int)-(f:Nat))=(l.length:Int)-(f:Nat):=wrap_small _ (by omega) (by omega)
 have d3:decide ((l.length:Int)-(f:Nat)<(n:Nat))=false:=decide_eq_false (by omega)
 have d3':((l.length:Int)-(f:Nat)<(n:Nat))=False:=eq_false (by omega)
 clear h hx hn h0 hb hs hl hf r1 r2 r3 r4 e
 generalize cutL l f n=C at *
 generalize l.length=N at *
 go_enter Tryz.func22,Tryz.ntmps22
 go_wp2_with fail
 refine (unhide A1).mono ?_
 rintro e w2 ⟨rfl,k2⟩
 have B2:=hide (unhide A2 _ k2)
 clear k2 A1 A2
 go_wp2_with fail
 refine (unhide B2).mono ?_
 rintro e w3 ⟨g,rfl,hR⟩
 have HR:=hide hR
 clear hR B2
 go_wp2_with fail
 all_goals go_ret2
 all_goals exact ⟨g,rfl,unhide HR⟩
def pops:List Nat→Nat
 | []=>0
 | c :: l=>Lib.onesCount c+pops l
theorem pops_append:∀ (a b:List Nat),pops (a++b)=pops a+pops b
 | [],b=>by rw[List.nil_append];show _=0+_;omega
 | c :: a,b=>by
  rw[List.cons_append]
  show _+pops (a++b)=_+pops a+pops b
  rw[pops_append a b]
  omega
theorem pops_more (l:List Nat) (i:Nat) (h:i<l.length):pops (l.take (i+1))=pops (l.take i)+Lib.onesCount (l.getD i 0):=by
 have e:l.take (i+1)=l.take i ++ [l.getD i 0]:=by
  rw[List.take_add_one,get_of_getD h]
  rfl
 rw[e,pops_append]
 simp only[pops,Nat.add_zero]
theorem pops_le {l:List Nat} (hs:Small l):∀ i,i≤l.length→pops (l.take i)≤8*i
 | 0,_=>by rw[List.take_zero];exact Nat.le_refl _
 | i+1,h=>by
  rw[pops_more l i (by omega)]
  have h1:=pops_le hs i (by omega)
  have h2:=Lib.onesCount_le8 ⟨l.getD i 0,hs i (by omega)⟩
  dsimp only at h2
  omega
theorem bcount_is {w:World}{ph:Nat}{tag:Nat→Nat}{M:Hp}{H:HC} (h:HAt w ph tag M H) {x i:Nat}{l:List Nat} (hx:x<18446744073709551616) (hn:numOf M x=i) (h0:i≠0) (hb:IsBlob M i l) (hs:Small l) (hl:l.length≤4096) (f n:Nat) (hf:f+n≤l.length):
  Calls Tryz.prog 20 #[.pointer (some ⟨ph,0,none⟩),.int .u64 (x:Nat),.int .i64 (f:Nat),.int .i64 (n:Nat)] w fun e w'=>e=.returned (.tuple #[.int .i64 (pops (cutL l f n):Nat),.int .i64 0])∧Below w.heap.size w w':=by
 have A1:=hide (bslice_is h hx hn h0 hb hs hl f n hf)
 have hcs:=cut_small hs hf
 have hcl:=cut_length l f n
 have hn4:n≤4096:=by omega
 clear h hx hn h0 hb hs hl hf
 generalize cutL l f n=C at *
 have HC:=hide (And.intro hcs (And.intro hcl hn4))
 have C1:=hide (fun W c (hc:c<256)=>ones_any (w:=W) c hc)
 clear hcs hcl
 go_enter Tryz.func20,Tryz.ntmps20
 go_wp2_with fail
 refine (unhide A1).mono ?_
 rintro e w2 ⟨g,rfl,hB,k2⟩
 have HB:=hide hB
 have K2:=hide k2
 clear hB k2 A1
 go_wp2_with fail
 go_loopw [12,28] (fun sv iv wr=>∃ i:Nat,iv=.int .i64 (i:Nat)∧sv=.int .i64 (pops (C.take i):Nat)∧i≤n∧Hid (Still w2 wr)) (fun _ iv _=>n-(intOf iv).toNat)
 case atStart=>exact ⟨0,rfl,rfl,Nat.zero_le _,hide (Still.refl _)⟩
 case round=>
  obtain ⟨i,rfl,rfl,hi,hS⟩:=hrel
  obtain ⟨h1,h2,h3⟩:=unhide HC
  have w1:IntKind.i64.wrap ((i:Int)+1)=(i:Int)+1:=wrap_small _ (by omega) (by omega)
  by_cases hin:i<n
  ·obtain ⟨b,off,eb,hc⟩:=((unhide HB).below (unhide hS).below).cells2 i (by omega)
   cases eb
   rw[Nat.zero_add] at hc
   have D1:=hide (fun W=>unhide C1 W _ (h1 i (by omega)))
   have pm:=pops_more C i (by omega)
   have p1:=pops_le h1 i (by omega)
   have p2:=Lib.onesCount_le8 ⟨C.getD i 0,h1 i (by omega)⟩
   dsimp only at p2
   have w2':IntKind.i64.wrap (((pops (C.take i):Nat):Int)+((Lib.onesCount (C.getD i 0):Nat):Int))=((pops (C.take i):Nat):Int)+((Lib.onesCount (C.getD i 0):Nat):Int):=wrap_small _ (by omega) (by omega)
   have dl:decide ((i:Int)<(n:Nat))=true:=decide_eq_true (by omega)
   have dl':(i<n)=True:=eq_true hin
   have i1:(0:Int)≤(i:Nat):=by omega
   have i2:(i:Int)<(n:Nat):=by omega
   have FI:Hid (i+1≤n∧n-(i+1)<n-i∧(((pops (C.take i):Nat):Int)+((Lib.onesCount (C.getD i 0):Nat):Int))=(pops (C.take (i+1)):Nat)):=hide ⟨by omega,by omega,by omega⟩
   clear h1 h2 h3 hi hin pm p1 p2
   generalize pops (C.take i)=P at *
   generalize Lib.onesCount (C.getD i 0)=O at *
   generalize C.getD i 0=c at *
   go_wp2_with fail
   refine (unhide D1 _).mono ?_
   rintro e w4 ⟨rfl,k4⟩
   have S4:=hide ((unhide hS).trans k4)
   clear k4 D1
   go_wp2_with fail
   all_goals go_roundw
   all_goals first|exact ⟨i+1,by simp,by rw[← (unhide FI).2.2],(unhide FI).1,S4⟩|(have:=unhide FI;simp [intOf];omega)
  ·have hiN:i=n:=by omega
   subst hiN
   have dl:decide ((i:Int)<(i:Nat))=false:=decide_eq_false (by omega)
   have et:C.take i=C:=List.take_of_length_le (by omega)
   rw[et]
   have FIN:=hide ((unhide K2).trans ((unhide hS).below.mono (unhide K2).size))
   clear h1 h2 h3 hi hin et
   go_wp2_with fail
   all_goals go_ret2
   all_goals exact ⟨rfl,unhide FIN⟩
theorem bcompare_is {w:World}{ph:Nat}{tag:Nat→Nat}{M:Hp}{H:HC} (h:HAt w ph tag M H) {x i:Nat}{l lb:List Nat}{a:Option Addr}{cap:Nat} (hx:x<18446744073709551616) (hn:numOf M x=i) (h0:i≠0) (hb:IsBlob M i l) (hs:Small l) (hl:l.length≤4096) (hB:Bytes w a lb):
  Calls Tryz.prog 21 #[.pointer (some ⟨ph,0,none⟩),.int .u64 (x:Nat),.slice a lb.length cap] w fun e w'=>e=.returned (.tuple #[.int .i64 (cmpI l lb),.int .i64 0])∧Below w.heap.size w w':=by
 have A1:=hide (bread_is h hx hn h0 hb hs hl)
 have A2:Hid (∀ W g,Below w.heap.size w W→Bytes W (some ⟨g,0,none⟩) l→Calls Tryz.prog 48 #[.slice (some ⟨g,0,none⟩) l.length l.length,.slice a lb.length cap] W fun e w'=>e=.returned (.int .i64 (cmpI l lb))∧Below w.heap.size w w'):=hide (fun W g k hg=>by
  refine (bcmp_any hg (hB.below k)).mono ?_
  rintro e w' ⟨rfl,s⟩
  exact ⟨rfl,k.trans (s.below.mono k.size)⟩)
 clear h hx hn h0 hb hs hl hB
 generalize cmpI l lb=V at *
 generalize hl:l.length=n1 at *
 generalize lb.length=n2 at *
 go_enter Tryz.func21,Tryz.ntmps21
 go_wp2_with fail
 refine (unhide A1).mono ?_
 rintro e w2 ⟨g,rfl,_,hg,k2⟩
 have B2:=hide (unhide A2 _ _ k2 hg)
 clear k2 A1 A2 hg
 go_wp2_with fail
 refine (unhide B2).mono ?_
 rintro e w3 ⟨rfl,hR⟩
 have HR:=hide hR
 clear hR B2
 go_wp2_with fail
 all_goals go_ret2
 all_goals exact ⟨rfl,unhide HR⟩
theorem cut_take (l:List Nat) (m:Nat) (h:m≤l.length):cutL l 0 m=l.take m:=by
 refine getD_ext (by rw[cut_length,List.length_take];omega) fun j hj=>?_
 rw[cut_length] at hj
 rw[cut_at _ _ _ _ hj,Nat.zero_add,List.getD_eq_getElem?_getD,List.getD_eq_getElem?_getD,List.getElem?_take,if_pos hj]
theorem cut_drop (l:List Nat) (m:Nat) (h:m≤l.length):cutL l m (l.length-m)=l.drop m:=by
 refine getD_ext (by rw[cut_length,List.length_drop]) fun j hj=>?_
 rw[cut_length] at hj
 rw[cut_at _ _ _ _ hj,List.getD_eq_getElem?_getD,List.getD_eq_getElem?_getD,List.getElem?_drop]
theorem cut_all (l:List Nat):cutL l 0 l.length=l:=by rw[cut_take l _ (Nat.le_refl _),List.take_length]
theorem pops_two (l:List Nat) (m:Nat) (h:m≤l.length):pops (cutL l 0 m)+pops (cutL l m (l.length-m))=pops (cutL l 0 l.length):=by
 rw[cut_take l m h,cut_drop l m h,cut_all,← pops_append,List.take_append_drop]
theorem ones_not:∀ n:Fin 256,Lib.onesCount n.val+Lib.onesCount (255-n.val)=8:=by decide +kernel
def notL (l:List Nat):List Nat:=l.map fun c=>255-c
theorem not_length (l:List Nat):(notL l).length=l.length:=List.length_map ..
theorem not_small (l:List Nat):Small (notL l):=fun i hi=>by
 rw[not_length] at hi
 unfold notL
 rw[List.getD_eq_getElem?_getD,List.getElem?_map,List.getElem?_eq_getElem hi]
 show 255-_<256
 omega
theorem not_at (l:List Nat) (i:Nat) (h:i<l.length):(notL l).getD i 0=255-l.getD i 0:=by
 unfold notL
 rw[List.getD_eq_getElem?_getD,List.getElem?_map,List.getD_eq_getElem?_getD,List.getElem?_eq_getElem h]
 rfl
theorem pops_not:∀ (l:List Nat),(∀ c∈l,c<256)→pops l+pops (notL l)=8*l.length
 | [],_=>by simp only[notL,List.map_nil,pops,List.length_nil]
 | c :: l,h=>by
  have h1:=ones_not ⟨c,h c (List.mem_cons_self ..)⟩
  have h2:=pops_not l fun d hd=>h d (List.mem_cons_of_mem _ hd)
  dsimp only at h1
  simp only[notL,List.map_cons,pops,List.length_cons]
  unfold notL at h2
  omega
theorem small_mem' {l:List Nat} (hs:Small l):∀ c∈l,c<256:=fun c hc=>by
 obtain ⟨i,hi,rfl⟩:=List.getElem_of_mem hc
 have:=hs i hi
 rw[List.getD_eq_getElem?_getD,List.getElem?_eq_getElem hi] at this
 exact this
theorem cmp_turn:∀ (a b:List UInt8),Lib.compareBytes a b = - Lib.compareBytes b a
 | [],[]=>rfl
 | [],_ :: _=>rfl
 | _ :: _,[]=>rfl
 | x :: a,y :: b=>by
  simp only[Lib.compareBytes]
  by_cases h1:x<y
  ·have h2:¬ y<x:=fun h=>by
    have:=UInt8.lt_iff_toNat_lt.1 h1
    have:=UInt8.lt_iff_toNat_lt.1 h
    omega
   rw[if_pos h1,if_neg h2,if_pos h1]
  ·rw[if_neg h1]
   by_cases h2:y<x
   ·rw[if_pos h2,if_pos h2]
    rfl
   ·rw[if_neg h2,if_neg h2,if_neg h1]
    exact cmp_turn a b
theorem cmp_range:∀ (a b:List UInt8),-1≤Lib.compareBytes a b∧Lib.compareBytes a b≤1
 | [],[]=>by decide
 | [],_ :: _=>by simp only[Lib.compareBytes];omega
 | _ :: _,[]=>by simp only[Lib.compareBytes];omega
 | x :: a,y :: b=>by
  simp only[Lib.compareBytes]
  split
  ·omega
  ·split
   ·omega
   ·exact cmp_range a b
theorem cmp_zero:∀ (a b:List UInt8),Lib.compareBytes a b=0↔a=b
 | [],[]=>by simp [Lib.compareBytes]
 | [],_ :: _=>by simp [Lib.compareBytes]
 | _ :: _,[]=>by simp [Lib.compareBytes]
 | x :: a,y :: b=>by
  simp only[Lib.compareBytes]
  by_cases h1:x<y
  ·rw[if_pos h1]
   constructor
   ·intro h;cases h
   ·intro h
    cases h
    exact absurd (UInt8.lt_iff_toNat_lt.1 h1) (Nat.lt_irrefl _)
  ·rw[if_neg h1]
   by_cases h2:y<x
   ·rw[if_pos h2]
    constructor
    ·intro h;cases h
    ·intro h
     cases h
     exact absurd (UInt8.lt_iff_toNat_lt.1 h2) (Nat.lt_irrefl _)
   ·rw[if_neg h2,cmp_zero a b]
    have hxy:x=y:=by
     refine UInt8.toNat_inj.1 ?_
     have n1:¬ x.toNat<y.toNat:=fun h=>h1 (UInt8.lt_iff_toNat_lt.2 h)
     have n2:¬ y.toNat<x.toNat:=fun h=>h2 (UInt8.lt_iff_toNat_lt.2 h)
     omega
    rw[hxy]
    simp
theorem u8s_inj:∀ {a b:List Nat},(∀ c∈a,c<256)→(∀ c∈b,c<256)→Lib.bytesOf (ints a)=Lib.bytesOf (ints b)→a=b
 | [],[],_,_,_=>rfl
 | [],_ :: _,_,_,h=>by simp [Lib.bytesOf,ints] at h
 | _ :: _,[],_,_,h=>by simp [Lib.bytesOf,ints] at h
 | x :: a,y :: b,ha,hb,h=>by
  simp only[Lib.bytesOf,ints,List.map_cons,List.cons.injEq] at h
  obtain ⟨h1,h2⟩:=h
  have e:x=y:=by
   have:=congrArg UInt8.toNat h1
   have hx:=ha x (List.mem_cons_self ..)
   have hy:=hb y (List.mem_cons_self ..)
   simp at this
   omega
  rw[e,u8s_inj (fun c hc=>ha c (List.mem_cons_of_mem _ hc)) (fun c hc=>hb c (List.mem_cons_of_mem _ hc)) h2]
theorem cmpI_zero {a b:List Nat} (ha:Small a) (hb:Small b):decide (cmpI a b=0)=decide (a=b):=by
 refine decide_eq_decide.2 ?_
 unfold cmpI
 rw[cmp_zero]
 exact ⟨u8s_inj (small_mem' ha) (small_mem' hb),fun h=>by rw[h]⟩
theorem lw_count {W0 W:World}{ph N m i:Nat}{l:List Nat}{T:List (Nat × Nat × List Nat)}{M:Hp} (h:Lw W0 ph N T M W) (ht:(m,i,l)∈T) (f n:Nat) (hf:f+n≤l.length):
  Calls Tryz.prog 20 #[.pointer (some ⟨ph,0,none⟩),.int .u64 (refW M i:Nat),.int .i64 (f:Nat),.int .i64 (n:Nat)] W fun e w'=>e=.returned (.tuple #[.int .i64 (pops (cutL l f n):Nat),.int .i64 0])∧Lw W0 ph N T M w':=by
 have h':=h
 obtain ⟨tag,H,h1,h2,h3,h4⟩:=h
 obtain ⟨r1,r2,r3,r4,r5⟩:=h2.t1 _ ht
 dsimp only at r1 r2 r3 r4 r5
 obtain ⟨n1,n2,n3⟩:=num_back h1.wf.ok r3.1
 refine (bcount_is h1 n2 n1 r2 r3 r4 r5 f n hf).mono ?_
 rintro e w' ⟨rfl,k⟩
 exact ⟨rfl,h'.still k⟩
theorem lw_compare {W0 W:World}{ph N m i cap:Nat}{l lb:List Nat}{a:Option Addr}{T:List (Nat × Nat × List Nat)}{M:Hp} (h:Lw W0 ph N T M W) (ht:(m,i,l)∈T) (hB:Bytes W a lb):
  Calls Tryz.prog 21 #[.pointer (some ⟨ph,0,none⟩),.int .u64 (refW M i:Nat),.slice a lb.length cap] W fun e w'=>e=.returned (.tuple #[.int .i64 (cmpI l lb),.int .i64 0])∧Lw W0 ph N T M w':=by
 have h':=h
 obtain ⟨tag,H,h1,h2,h3,h4⟩:=h
 obtain ⟨r1,r2,r3,r4,r5⟩:=h2.t1 _ ht
 dsimp only at r1 r2 r3 r4 r5
 obtain ⟨n1,n2,n3⟩:=num_back h1.wf.ok r3.1
 refine (bcompare_is h1 n2 n1 r2 r3 r4 r5 hB).mono ?_
 rintro e w' ⟨rfl,k⟩
 exact ⟨rfl,h'.still k⟩
theorem lw_slice {W0 W:World}{ph N m i:Nat}{l:List Nat}{T:List (Nat × Nat × List Nat)}{M:Hp} (h:Lw W0 ph N T M W) (ht:(m,i,l)∈T) (f n:Nat) (hf:f+n≤l.length):
  Calls Tryz.prog 22 #[.pointer (some ⟨ph,0,none⟩),.int .u64 (refW M i:Nat),.int .i64 (f:Nat),.int .i64 (n:Nat)] W fun e w'=>∃ g,e=.returned (.tuple #[.slice (some ⟨g,0,none⟩) n n,.int .i64 0])∧Bytes w' (some ⟨g,0,none⟩) (cutL l f n)∧Lw W0 ph N T M w'∧Below W.heap.size W w':=by
 have h':=h
 obtain ⟨tag,H,h1,h2,h3,h4⟩:=h
 obtain ⟨r1,r2,r3,r4,r5⟩:=h2.t1 _ ht
 dsimp only at r1 r2 r3 r4 r5
 obtain ⟨n1,n2,n3⟩:=num_back h1.wf.ok r3.1
 refine (bslice_is h1 n2 n1 r2 r3 r4 r5 f n hf).mono ?_
 rintro e w' ⟨g,rfl,q,k⟩
 exact ⟨g,rfl,q,h'.still k,k⟩
def Lz (W0:World) (ph N:Nat) (T:List (Nat × Nat × List Nat)) (M:Hp) (nv:Value) (L:List Nat) (W:World):Prop:=
 ∃ tag H,HAt W ph tag M H∧Bk M N T∧Below W0.heap.size W0 W∧(∀ g,g<W0.heap.size→tag g=0)∧∃ a cap,nv=.slice a L.length cap∧Bytes W a L∧∀ b off,a=some ⟨b,off,none⟩→L≠[]→tag b=0
theorem Lz.lw {W0 W:World}{ph N:Nat}{T:List (Nat × Nat × List Nat)}{M:Hp}{nv:Value}{L:List Nat} (h:Lz W0 ph N T M nv L W):Lw W0 ph N T M W∧∃ a cap,nv=.slice a L.length cap∧Bytes W a L:=by
 obtain ⟨tag,H,h1,h2,h3,h4,a,cap,e,b,_⟩:=h
 exact ⟨⟨tag,H,h1,h2,h3,h4⟩,a,cap,e,b⟩
theorem lz_made {W0 W:World}{ph N:Nat}{T:List (Nat × Nat × List Nat)}{M:Hp}{nv:Value}{L:List Nat} (h:Lz W0 ph N T M nv L W) (hN:N≤4000) (hT:T.length≤18) {a:Option Addr}{cap:Nat}{l:List Nat} (hB:Bytes W a l) (hl:l.length≤4096) (hs:Small l):
  Calls Tryz.prog 11 #[.pointer (some ⟨ph,0,none⟩),.slice a l.length cap] W fun e w'=>∃ (m i:Nat) (M':Hp),e=.returned (.int .i64 ((m:Int)+1))∧Lz W0 ph (N+5) ((m,i,l) :: T) M' nv L w':=by
 obtain ⟨tag,H,h1,h2,h3,h4,a',cap',e',b',t'⟩:=h
 refine (made_any h1 (h2.fw.few (by omega)) l hB hl hs (fun M1 v x a=>h2.room h1.wf (by omega) (by unfold Larder.wn;omega) a)).mono ?_
 rintro e w' ⟨m,rfl,tag',H',M1,v,q1,low,f,he⟩
 have kp:=Keeps.lay h1.wf h2.fw.o1 q1
 have b1:=h2.keeps kp (h2.fw.lay h1.wf q1)
 obtain ⟨M2,wf2,al,⟨zz,_⟩|⟨_,eM⟩⟩:=q1
 ·exact absurd rfl zz
 ·obtain ⟨n1,n2,n3,n4,n5⟩:=lay_blob h1.wf h2.fw.o1 hs wf2 al eM
  obtain ⟨b2,ne⟩:=b1.root low n1 (by have:=h2.fw.o1;omega) n3 hs hl
  obtain ⟨g1,g2⟩:=fr_below f h3 h4
  refine ⟨m,_,_,rfl,tag',H',he,b2.mono (by omega),g1,g2,a',cap',e',?_⟩
  rcases b' with z|⟨b,off,ea,hlt,hcc⟩
  ·exact ⟨.inl z,fun b off _ hne=>absurd z hne⟩
  ·by_cases hL:L=[]
   ·exact ⟨.inl hL,fun b off _ hne=>absurd hL hne⟩
   ·have tb:=t' b off ea hL
    refine ⟨.inr ⟨b,off,ea,Nat.lt_of_lt_of_le hlt f.size,fun i hi=>(cell_like (f.blk b hlt tb).1 _).trans (hcc i hi)⟩,fun b2 off2 e2 hne=>?_⟩
    rw[ea] at e2
    cases e2
    exact (f.blk b hlt tb).2
theorem lz_begin {W0 W W':World}{ph N:Nat}{T:List (Nat × Nat × List Nat)}{M:Hp}{nv:Value}{A:List Nat} (h:Lw W0 ph N T M W) (hn:NotAt W W' nv A.length (fun j=>A.getD j 0)):Lz W0 ph N T M nv (notL A) W':=by
 obtain ⟨tag,H,h1,h2,h3,h4⟩:=h
 obtain ⟨k,l,o⟩:=hn
 refine ⟨tag,H,h1.still k,h2,h3.trans (k.mono h3.size),h4,?_⟩
 rcases l with ⟨rfl,hz⟩|⟨g,cap,cur,rfl,hg,_,_,_,hc⟩
 ·have:A=[]:=List.length_eq_zero_iff.1 hz
  subst this
  exact ⟨none,0,rfl,.inl rfl,fun b off e=>by cases e⟩
 ·refine ⟨some ⟨g,0,none⟩,cap,by rw[not_length],.inr ⟨g,0,rfl,(Array.getElem?_eq_some_iff.1 hg).1,fun i hi=>?_⟩,fun b off e _=>?_⟩
  ·rw[not_length] at hi
   simp only[World.cell?,hg]
   rw[Nat.zero_add,hc i hi,not_at _ _ hi]
   rfl
  ·cases e
   by_cases q:tag g=0
   ·exact q
   ·have:=h1.raw.un g q
    have:=o g rfl
    omega
set_option maxHeartbeats 4000000
theorem into_lt (n:Int) (m:Nat) (hm:1≤m):intoN n m<m:=by
 unfold intoN
 have h1:=Int.emod_lt_of_pos n (b:=(m:Int)) (by omega)
 have h2:=Int.emod_nonneg n (b:=(m:Int)) (by omega)
 omega
theorem Bytes.first {W:World}{a:Option Addr}{l:List Nat}{m:Nat} (h:Bytes W a l) (hm:m≤l.length):Bytes W a (cutL l 0 m):=by
 rcases h with z|⟨b,off,e,hb,hc⟩
 ·left
  rw[z] at hm
  have:m=0:=by simpa using hm
  subst this
  exact List.length_eq_zero_iff.1 (cut_length _ _ _)
 ·refine .inr ⟨b,off,e,hb,fun i hi=>?_⟩
  rw[cut_length] at hi
  rw[hc i (by omega),cut_at _ _ _ _ hi,Nat.zero_add]
theorem Bytes.rest {W:World}{ab ao:Nat}{l:List Nat}{m:Nat} (h:Bytes W (some ⟨ab,ao,none⟩) l) (hm:m≤l.length):Bytes W (some ⟨ab,ao+m,none⟩) (cutL l m (l.length-m)):=by
 rcases h with z|⟨b,off,e,hb,hc⟩
 ·left
  refine List.length_eq_zero_iff.1 ?_
  rw[cut_length,z]
  simp
 ·cases e
  refine .inr ⟨ab,ao+m,rfl,hb,fun i hi=>?_⟩
  rw[cut_length] at hi
  rw[cut_at _ _ _ _ hi,Nat.add_assoc,hc (m+i) (by omega)]
theorem counts_yes {w:World}{a1 a2 a3:Option Addr}{c1 c2 c3 n3:Nat}{A B:List Nat}{at' Nn:Int} (hA:A.length≤4096) (hB:B.length≤4096) (sA:Small A) (sB:Small B) (bA:Bytes w a1 A) (bB:Bytes w a2 B) (hcap:A.length≤c1) (hcap2:c1≤9223372036854775807) (hnil:a1=none→c1=0) (h1:-9223372036854775808≤at') (h2:at'≤9223372036854775807) (hz:IntsB w a3 n3):
  Calls Tryz.prog 4 #[.agg #[.slice a1 A.length c1,.slice a2 B.length c2,.int .i64 at',.int .i64 Nn,.slice a3 n3 c3]] w fun e w'=>e=.returned (.bool true)∧Below w.heap.size w w':=by
 obtain ⟨W0,hW0⟩:∃ W0,w.alloc (.cells #[.slice a1 A.length c1,.slice a2 B.length c2,.int .i64 at',.int .i64 Nn,.slice a3 n3 c3] 25)=W0:=⟨_,rfl⟩
 have k0:Below w.heap.size w W0:=by rw[← hW0];exact (Below.refl _ _).alloc (Nat.le_refl _) _
 have hs0:W0.heap.size=w.heap.size+1:=by rw[← hW0];simp
 have bA':∀ W,Below W0.heap.size W0 W→Bytes W a1 A:=fun W k=>(bA.below k0).below k
 have bB':∀ W,Below W0.heap.size W0 W→Bytes W a2 B:=fun W k=>(bB.below k0).below k
 have hz':IntsB W0 a3 n3:=by
  rcases hz with q|⟨b,off,e,hb,hc⟩
  ·exact .inl q
  ·refine .inr ⟨b,off,e,by omega,fun i hi=>?_⟩
   obtain ⟨z,e1,e2⟩:=hc i hi
   exact ⟨z,by rw[k0.cell (p:=⟨b,off+i,none⟩) hb];exact e1,e2⟩
 have kS:∀ W W':World,Below W0.heap.size W0 W→Below W.heap.size W W'→Below W0.heap.size W0 W':=fun W W' k s=>k.trans (s.mono k.size)
 obtain ⟨m,hm⟩:∃ m,intoN at' (A.length+1)=m:=⟨_,rfl⟩
 have hmA:m≤A.length:=by have:=into_lt at' (A.length+1) (by omega);omega
 have nl:=not_length A
 have h4:cutL (notL A) 0 A.length=notL A:=by
  have h5:=cut_all (notL A)
  rw[nl] at h5
  exact h5
 have hp4:pops (cutL A 0 A.length)+pops (cutL (notL A) 0 A.length)=8*A.length:=by rw[cut_all,h4,pops_not A (small_mem' sA)]
 refine counts_walk (f:=fun j=>A.getD j 0) (m:=m) (p1:=pops (cutL A 0 m)) (p2:=pops (cutL A m (A.length-m))) (p3:=pops (cutL A 0 A.length)) (p4:=pops (cutL (notL A) 0 A.length)) (c:=cmpI A B) (D:=decide (A=B)) hA hB hmA (fun j hj=>sA j hj) (pops_two A m hmA) hp4 (cmp_range _ _).1 (cmp_range _ _).2 (cmpI_zero sA sB) hcap hcap2 hnil hW0
  (K:=fun W=>Below W0.heap.size W0 W) (R:=fun W=>Below w.heap.size w W)
  (G1:=fun ph W=>Lw W0 ph 5 [] (newM 262144) W)
  (G2:=fun ph mx nv W=>∃ i M,Lz W0 ph 10 [(mx,i,A)] M nv (notL A) W)
  (G3:=fun ph mx my nv W=>∃ i j M,Lz W0 ph 15 [(my,j,B),(mx,i,A)] M nv (notL A) W)
  (G4:=fun ph mx my mz W=>∃ i j k M,Lw W0 ph 20 [(mz,k,notL A),(my,j,B),(mx,i,A)] M W)
  (G:=fun ph mx my mz W=>∃ i j k M,Lw W0 ph 120 [(mz,k,notL A),(my,j,B),(mx,i,A)] M W)
  (GX:=fun ph mx my mz x W=>∃ i j k M,x=refW M i∧Lw W0 ph 120 [(mz,k,notL A),(my,j,B),(mx,i,A)] M W)
  (GY:=fun ph mx my mz x W=>∃ i j k M,x=refW M j∧Lw W0 ph 120 [(mz,k,notL A),(my,j,B),(mx,i,A)] M W)
  (GZ:=fun ph mx my mz x W=>∃ i j k M,x=refW M k∧Lw W0 ph 120 [(mz,k,notL A),(my,j,B),(mx,i,A)] M W)
  (GS:=fun ph mx my mz g W=>Bytes W (some ⟨g,0,none⟩) (cutL A 0 m)∧∃ i j k M,Lw W0 ph 120 [(mz,k,notL A),(my,j,B),(mx,i,A)] M W)
  (GT:=fun ph mx my mz g x W=>Bytes W (some ⟨g,0,none⟩) (cutL A 0 m)∧∃ i j k M,x=refW M i∧Lw W0 ph 120 [(mz,k,notL A),(my,j,B),(mx,i,A)] M W)
  (GE:=fun g g2 W=>Below W0.heap.size W0 W∧Bytes W (some ⟨g,0,none⟩) (cutL A 0 m)∧Bytes W (some ⟨g2,0,none⟩) (cutL A m (A.length-m)))
  kS ?_ ?_ ?_ ?_ ?_ ?_ ?_ ?_ ?_ ?_ ?_ ?_ ?_ ?_ ?_ ?_ ?_ ?_ ?_ ?_ ?_ ?_ ?_ ?_
 ·intro W k
  have g:∀ j,W.cell? ⟨w.heap.size,j,none⟩=W0.cell? ⟨w.heap.size,j,none⟩:=fun j=>k.cell (p:=⟨w.heap.size,j,none⟩) (by show w.heap.size<_;omega)
  unfold Cells5
  rw[g,g,g,g,g,← hW0]
  simp only[World.cell?,heap_alloc_new]
  exact ⟨rfl,rfl,rfl,rfl,rfl⟩
 ·exact fun W k j hj=>(bA' W k).cells2 j hj
 ·exact fun W x=>num_any x
 ·refine lw_new.mono ?_
  rintro e w' ⟨ph,rfl,l⟩
  exact ⟨ph,rfl,l.below,l⟩
 ·intro ph W W' nv g hn
  have z:=lz_begin g hn
  refine (lz_made z (by decide) (by decide) (bA' _ z.lw.1.below) hA sA).mono ?_
  rintro e w' ⟨mx,i,M',rfl,l'⟩
  exact ⟨mx,rfl,l'.lw.1.below,i,M',l'⟩
 ·rintro ph mx nv W ⟨i,M,z⟩
  refine (lz_made z (by decide) (by simp) (bB' _ z.lw.1.below) hB sB).mono ?_
  rintro e w' ⟨my,j,M',rfl,l'⟩
  exact ⟨my,rfl,l'.lw.1.below,i,j,M',l'⟩
 ·rintro ph mx my nv W ⟨i,j,M,z⟩
  obtain ⟨l,a,cap,rfl,b⟩:=z.lw
  refine (lw_made l (by decide) (by simp) b (by omega) (not_small A)).mono ?_
  rintro e w' ⟨mz,k,M',rfl,_,l'⟩
  exact ⟨mz,rfl,l'.below,i,j,k,M',l'⟩
 ·rintro ph mx my mz W ⟨i,j,k,M,l⟩
  refine (lw_waste l (by decide) hz').mono ?_
  rintro e w' ⟨rfl,M',l'⟩
  exact ⟨rfl,l'.below,i,j,k,M',l'⟩
 ·intro W
  have q:=into_any (w:=W) at' (A.length+1) (by omega) (by omega) h1 h2
  rw[hm,show (((A.length+1:Nat)):Int)=(A.length:Int)+1 by omega] at q
  exact q
 ·rintro ph mx my mz W W' ⟨i,j,k,M,l⟩ s
  refine (lw_at (i:=i) (l:=A) (l.still s.below) (by decide) (by simp)).mono ?_
  rintro e w' ⟨rfl,l',_⟩
  exact ⟨_,rfl,l'.below,i,j,k,M,rfl,l'⟩
 ·rintro ph mx my mz W W' ⟨i,j,k,M,l⟩ s
  refine (lw_at (i:=j) (l:=B) (l.still s.below) (by decide) (by simp)).mono ?_
  rintro e w' ⟨rfl,l',_⟩
  exact ⟨_,rfl,l'.below,i,j,k,M,rfl,l'⟩
 ·rintro ph mx my mz W W' ⟨i,j,k,M,l⟩ s
  refine (lw_at (i:=k) (l:=notL A) (l.still s.below) (by decide) (by simp)).mono ?_
  rintro e w' ⟨rfl,l',_⟩
  exact ⟨_,rfl,l'.below,i,j,k,M,rfl,l'⟩
 ·rintro ph mx my mz x W ⟨i,j,k,M,rfl,l⟩
  refine (lw_count (m:=mx) (l:=A) l (by simp) 0 m (by omega)).mono ?_
  rintro e w' ⟨rfl,l'⟩
  exact ⟨rfl,l'.below,i,j,k,M,l'⟩
 ·rintro ph mx my mz x W ⟨i,j,k,M,rfl,l⟩
  have q:=lw_count (m:=mx) (i:=i) (l:=A) l (by simp) m (A.length-m) (by omega)
  rw[show (((A.length-m:Nat)):Int)=(A.length:Int)-(m:Nat) by omega] at q
  refine q.mono ?_
  rintro e w' ⟨rfl,l'⟩
  exact ⟨rfl,l'.below,i,j,k,M,l'⟩
 ·rintro ph mx my mz x W ⟨i,j,k,M,rfl,l⟩
  refine (lw_count (m:=mx) (l:=A) l (by simp) 0 A.length (by omega)).mono ?_
  rintro e w' ⟨rfl,l'⟩
  exact ⟨rfl,l'.below,i,j,k,M,l'⟩
 ·rintro ph mx my mz x W ⟨i,j,k,M,rfl,l⟩
  refine (lw_count (m:=mz) (l:=notL A) l (by simp) 0 A.length (by omega)).mono ?_
  rintro e w' ⟨rfl,l'⟩
  exact ⟨rfl,l'.below,i,j,k,M,l'⟩
 ·rintro ph mx my mz x W ⟨i,j,k,M,rfl,l⟩
  refine (lw_compare (m:=mx) (l:=A) l (by simp) (bB' _ l.below)).mono ?_
  rintro e w' ⟨rfl,l'⟩
  exact ⟨rfl,l'.below,i,j,k,M,l'⟩
 ·rintro ph mx my mz x W ⟨i,j,k,M,rfl,l⟩
  refine (lw_compare (m:=my) (l:=B) l (by simp) (bA' _ l.below)).mono ?_
  rintro e w' ⟨rfl,l'⟩
  exact ⟨by rw[show cmpI B A = - cmpI A B from cmp_turn _ _],l'.below,i,j,k,M,l'⟩
 ·intro W k
  exact eqb_any (by omega) (by omega) (bA' _ k) (bB' _ k)
 ·rintro ph mx my mz x W ⟨i,j,k,M,rfl,l⟩
  refine (lw_slice (m:=mx) (l:=A) l (by simp) 0 m (by omega)).mono ?_
  rintro e w' ⟨g,rfl,b,l',_⟩
  exact ⟨g,rfl,l'.below,b,i,j,k,M,l'⟩
 ·rintro ph mx my mz g W ⟨b,i,j,k,M,l⟩
  refine (lw_at (i:=i) (l:=A) l (by decide) (by simp)).mono ?_
  rintro e w' ⟨rfl,l',kb⟩
  exact ⟨_,rfl,l'.below,b.below kb,i,j,k,M,rfl,l'⟩
 ·rintro ph mx my mz g x W ⟨b,i,j,k,M,rfl,l⟩
  have q:=lw_slice (m:=mx) (i:=i) (l:=A) l (by simp) m (A.length-m) (by omega)
  rw[show (((A.length-m:Nat)):Int)=(A.length:Int)-(m:Nat) by omega] at q
  refine q.mono ?_
  rintro e w' ⟨g2,rfl,b2,l',kb⟩
  exact ⟨g2,rfl,l'.below,l'.below,b.below kb,b2⟩
 ·rintro g g2 W W' a' c' ⟨kb,b1,b2⟩ s q
  have hb:Bytes W' a' (cutL A 0 m):=by
   rcases q with z|rfl
   ·left
    exact List.length_eq_zero_iff.1 (by rw[cut_length];exact z)
   ·exact (bA' _ (kS _ _ kb s.below)).first hmA
  have r:=eqb_yes (c1:=m) (c2:=c') (by rw[cut_length];omega) (b1.below s.below) hb
  rw[cut_length] at r
  exact r
 ·rintro g g2 W W' a' c' ⟨kb,b1,b2⟩ s q
  have hb:Bytes W' a' (cutL A m (A.length-m)):=by
   rcases q with z|⟨ab,ao,rfl,rfl⟩
   ·left
    exact List.length_eq_zero_iff.1 (by rw[cut_length];exact z)
   ·exact (bA' _ (kS _ _ kb s.below)).rest hmA
  have r:=eqb_yes (c1:=A.length-m) (c2:=c') (by rw[cut_length];omega) (b2.below s.below) hb
  rw[cut_length] at r
  refine r.mono ?_
  rintro e w' ⟨rfl,s'⟩
  exact ⟨rfl,k0.trans ((kS _ _ (kS _ _ kb s.below) s'.below).mono (by omega))⟩
theorem counts_no {w:World}{a1 a2 a3:Option Addr}{c1 c2 c3 n3 nA nB:Nat}{at' Nn:Int} (hno:4096<nA∨4096<nB):
  Calls Tryz.prog 4 #[.agg #[.slice a1 nA c1,.slice a2 nB c2,.int .i64 at',.int .i64 Nn,.slice a3 n3 c3]] w fun e w'=>e=.returned (.bool true)∧Below w.heap.size w w':=by
 have KB:=hide ((Below.refl w.heap.size w).alloc (Nat.le_refl _) (.cells #[.slice a1 nA c1,.slice a2 nB c2,.int .i64 at',.int .i64 Nn,.slice a3 n3 c3] 25))
 obtain ⟨W0,hW0⟩:∃ W0,w.alloc (.cells #[.slice a1 nA c1,.slice a2 nB c2,.int .i64 at',.int .i64 Nn,.slice a3 n3 c3] 25)=W0:=⟨_,rfl⟩
 obtain ⟨bx,hbx⟩:∃ bx,w.heap.size=bx:=⟨_,rfl⟩
 have q0:W0.cell? ⟨bx,0,none⟩=some (.slice a1 nA c1):=by rw[← hW0,← hbx];simp only[World.cell?,heap_alloc_new];rfl
 have q1:W0.cell? ⟨bx,1,none⟩=some (.slice a2 nB c2):=by rw[← hW0,← hbx];simp only[World.cell?,heap_alloc_new];rfl
 rw[hW0] at KB
 by_cases p1:4096<nA
 ·have d1':(4096<nA)=True:=eq_true p1
  have d1:decide ((4096:Int)<(nA:Nat))=true:=decide_eq_true (by omega)
  clear hno p1
  go_enter Tryz.func4,Tryz.ntmps4
  go_wp2_with fail
  go_ret
  exact ⟨rfl,unhide KB⟩
 ·have d1':(4096<nA)=False:=eq_false p1
  have d1:decide ((4096:Int)<(nA:Nat))=false:=decide_eq_false (by omega)
  have d2':(4096<nB)=True:=eq_true (by omega)
  have d2:decide ((4096:Int)<(nB:Nat))=true:=decide_eq_true (by omega)
  clear hno p1
  go_enter Tryz.func4,Tryz.ntmps4
  go_wp2_with fail
  go_ret
  exact ⟨rfl,unhide KB⟩
end Go.Proofs.YtnfbaapbpgbgpaaGreat
