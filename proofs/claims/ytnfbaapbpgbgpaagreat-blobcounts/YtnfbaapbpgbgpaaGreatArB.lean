import Derived.Test.YtnfbaapbpgbgpaaGreatArA
import Derived.Deep.RegionHeld3
import Derived.Laws.CopyOwn
import Derived.Deep.CutBlock
import Derived.Deep.DeepCutAuto
import Derived.Deep.Light
import Derived.Laws.AppendOwnNone
import Derived.Laws.OwnMore
import Derived.Deep.RegionWith
namespace Go.Proofs.YtnfbaapbpgbgpaaGreat
open Go.ChangeShapes Go.WideShapes Go.ChangeAt Go.RowKit
set_option linter.unusedVariables false
set_option maxRecDepth 100000
set_option maxHeartbeats 1000000
set_option maxHeartbeats 2000000
def wd (s:Nat × Nat × Nat):Nat:=1+s.2.1+s.2.2
def headOf (s:Nat × Nat × Nat):Nat:=s.1+256*s.2.1+4294967296*s.2.2
def place (L:List (Nat × Nat × Nat)):Nat→Nat
 | 0=>1
 | i+1=>place L i+wd (L.getD i (0,0,0))
theorem place_mono (L:List (Nat × Nat × Nat)) (i j:Nat):place L i≤place L (i+j):=by
 induction j with
 | zero=>exact Nat.le_refl _
 | succ j ih=>rw[← Nat.add_assoc];show _≤place L (i+j)+_;omega
theorem place_le (L:List (Nat × Nat × Nat)) {i j:Nat} (h:i≤j):place L i≤place L j:=by
 obtain ⟨d,rfl⟩:=Nat.exists_eq_add_of_le h
 exact place_mono L i d
theorem place_lt (L:List (Nat × Nat × Nat)) {i j:Nat} (h:i<j):place L i+wd (L.getD i (0,0,0))≤place L j:=place_le L (i:=i+1) h
structure LaidTo (L:List (Nat × Nat × Nat)) (i:Nat) (ws:List Nat) (hs:List Bool):Prop where
 marks:∀ k,k<place L i→(hs.getD k false=true↔∃ j,j<i∧k=place L j)
 heads:∀ j,j<i→ws.getD (place L j) 0=headOf (L.getD j (0,0,0))
 fields:∀ j f,j<i→f<(L.getD j (0,0,0)).2.1+(L.getD j (0,0,0)).2.2→ws.getD (place L j+1+f) 0=0
 zero:ws.getD 0 0=0
theorem place_pos (L:List (Nat × Nat × Nat)) (i:Nat):1≤place L i:=place_le L (i:=0) (Nat.zero_le _)
set_option maxHeartbeats 1000000
structure Kept (L:List (Nat × Nat × Nat)) (ws:List Nat) (hs:List Bool):Prop where
 marks:∀ k,k<place L L.length→(hs.getD k false=true↔∃ j,j<L.length∧k=place L j)
 heads:∀ j,j<L.length→ws.getD (place L j) 0=headOf (L.getD j (0,0,0))
 zero:ws.getD 0 0=0
theorem place_apart (L:List (Nat × Nat × Nat)) (o f j g:Nat) (hf:f<(L.getD o (0,0,0)).2.1+(L.getD o (0,0,0)).2.2) (hg:g<(L.getD j (0,0,0)).2.1+(L.getD j (0,0,0)).2.2) (e:place L o+1+f=place L j+1+g):o=j∧f=g:=by
 by_cases h:o=j
 ·subst h;exact ⟨rfl,by omega⟩
 ·exfalso
  rcases Nat.lt_or_gt_of_ne h with hlt|hgt
  ·have:=place_lt L hlt;unfold wd at this;omega
  ·have:=place_lt L hgt;unfold wd at this;omega
set_option maxHeartbeats 2000000
def edgeN (E:List (List Int)) (n i k:Nat):Option Nat:=
 if i<E.length∧k<(E.getD i []).length then
  (if ((E.getD i []).getD k 0%((n:Int)+1)).toNat=n then none else some ((E.getD i []).getD k 0%((n:Int)+1)).toNat)
 else none
def rawN (i k:Nat):Nat:=i*1000003+k*7919+5
theorem Tryz.info5:(Tryz.prog.info? 5).map (fun i=>(i.zero,i.size,i.bytes))=some (some (.int .u8 0),1,1):=by kernel_rfl
def cellsOf (l:List Nat):List Value:=l.map (fun c:Nat=>Value.int .u8 (c:Int))
theorem cellsOf_length (l:List Nat):(cellsOf l).length=l.length:=by simp [cellsOf]
theorem cellsOf_one (l:List Nat):∀ u∈cellsOf l,u.oneCell'=true:=by
 intro u hu
 obtain ⟨c,_,rfl⟩:=List.mem_map.1 hu
 rfl
theorem cellsOf_get (l:List Nat) (j:Nat) (u:Value) (h:(cellsOf l)[j]?=some u):j<l.length∧u=.int .u8 (l.getD j 0:Nat):=by
 unfold cellsOf at h
 rw[List.getElem?_map] at h
 rw[List.getD_eq_getElem?_getD]
 cases hg:l[j]? with
 | none=>rw[hg] at h;simp at h
 | some c=>
  rw[hg] at h
  simp at h
  exact ⟨(List.getElem?_eq_some_iff.1 hg).1,by rw[← h];rfl⟩
theorem cellsOf_at (l:List Nat) (j:Nat) (h:j<l.length):(cellsOf l)[j]?=some (.int .u8 (l.getD j 0:Nat)):=by
 unfold cellsOf
 rw[List.getElem?_map,List.getD_eq_getElem?_getD,List.getElem?_eq_getElem h];rfl
def OwnB (w:World) (base:Nat) (v:Value) (l:List Nat):Prop:=w.ownsRow base 5 1 v l.length (cellsOf l)
theorem OwnB.shape {w:World}{base:Nat}{v:Value}{l:List Nat} (h:OwnB w base v l):
  ∃ a cap,v=.slice a l.length cap∧Bytes w a l∧(a=none→cap=0):=by
 rcases h.2 with ⟨rfl,h0⟩|⟨g,cap,cur,rfl,hb,hg,hn,hm,hs,ht⟩
 ·exact ⟨none,0,by rw[h0],.inl (List.eq_nil_of_length_eq_zero h0),fun _=>rfl⟩
 ·refine ⟨_,cap,rfl,.inr ⟨g,0,rfl,(Array.getElem?_eq_some_iff.1 hg).1,fun i hi=>?_⟩,fun h=>by cases h⟩
  rw[Nat.zero_add,h.cellAt i (by omega),cellsOf_at l i hi]
end Go.Proofs.YtnfbaapbpgbgpaaGreat
namespace Larder
def SmallL (l:List Nat):Prop:=∀ i,i<l.length→l.getD i 0<256
def leN:List Nat→Nat
 | []=>0
 | c :: l=>c+256*leN l
theorem leN_lt (l:List Nat) (h:∀ c∈l,c<256):leN l<256 ^ l.length:=by
 induction l with
 | nil=>simp [leN]
 | cons c l ih=>
  have h1:=h c (List.mem_cons_self ..)
  have h2:=ih fun x hx=>h x (List.mem_cons_of_mem _ hx)
  rw[leN,List.length_cons,Nat.pow_succ]
  omega
theorem leN_snoc (l:List Nat) (c:Nat):leN (l ++ [c])=leN l+c*256 ^ l.length:=by
 induction l with
 | nil=>simp [leN]
 | cons d l ih=>
  rw[List.cons_append,leN,ih,leN,List.length_cons,Nat.pow_succ,Nat.mul_add,← Nat.add_assoc]
  congr 1
  rw[Nat.mul_comm (256 ^ l.length) 256,Nat.mul_left_comm]
theorem leN_digit (l:List Nat) (h:∀ c∈l,c<256) (r:Nat):leN l / 256 ^ r%256=l.getD r 0:=by
 induction l generalizing r with
 | nil=>simp [leN]
 | cons c l ih=>
  have h1:=h c (List.mem_cons_self ..)
  cases r with
  | zero=>simp only[leN,Nat.pow_zero,Nat.div_one,List.getD_cons_zero];omega
  | succ r=>
   rw[List.getD_cons_succ,← ih (fun x hx=>h x (List.mem_cons_of_mem _ hx)) r,leN,Nat.pow_succ,Nat.mul_comm (256 ^ r) 256,← Nat.div_div_eq_div_mul]
   congr 2
   omega
theorem small_mem {l:List Nat} (h:SmallL l):∀ c∈l,c<256:=by
 intro c hc
 obtain ⟨i,hi,rfl⟩:=List.mem_iff_getElem.1 hc
 have:=h i hi
 rwa [List.getD_eq_getElem?_getD,List.getElem?_eq_getElem hi] at this
theorem pow256 (r:Nat):256 ^ r=2 ^ (8*r):=by rw[show 256=2 ^ 8 from rfl,← Nat.pow_mul]
def wordAt (l:List Nat) (j:Nat):Nat:=leN ((l.drop (8*j)).take 8)
def wn (n:Nat):Nat:=(n+7) / 8
def packK (l:List Nat) (k:Nat):List Nat:=(List.range (wn l.length)).map (wordAt (l.take k))
def packL (l:List Nat):List Nat:=(List.range (wn l.length)).map (wordAt l)
theorem packK_length (l:List Nat) (k:Nat):(packK l k).length=wn l.length:=by simp [packK]
theorem packL_length (l:List Nat):(packL l).length=wn l.length:=by simp [packL]
theorem packK_all (l:List Nat):packK l l.length=packL l:=by unfold packK packL;rw[List.take_length]
theorem packK_zero (l:List Nat):packK l 0=List.replicate (wn l.length) 0:=by
 unfold packK
 rw[List.eq_replicate_iff]
 refine ⟨by simp,?_⟩
 intro b hb
 obtain ⟨j,_,rfl⟩:=List.mem_map.1 hb
 simp [wordAt,leN]
theorem wordAt_lt {l:List Nat} (h:∀ c∈l,c<256) (j:Nat):wordAt l j<18446744073709551616:=by
 have h1:=leN_lt ((l.drop (8*j)).take 8) (fun c hc=>h c (List.mem_of_mem_drop (List.mem_of_mem_take hc)))
 have h2:((l.drop (8*j)).take 8).length≤8:=List.length_take_le _ _
 have h3:256 ^ ((l.drop (8*j)).take 8).length≤256 ^ 8:=Nat.pow_le_pow_right (by omega) h2
 unfold wordAt
 have:(256:Nat) ^ 8=18446744073709551616:=by decide
 omega
theorem packK_get (l:List Nat) (k j:Nat) (hj:j<wn l.length):(packK l k).getD j 0=wordAt (l.take k) j:=by
 unfold packK
 rw[List.getD_eq_getElem?_getD,List.getElem?_map,List.getElem?_range hj];rfl
theorem packL_get (l:List Nat) (j:Nat) (hj:j<wn l.length):(packL l).getD j 0=wordAt l j:=by
 rw[← packK_all,packK_get _ _ _ hj,List.take_length]
theorem packK_lt {l:List Nat} (h:SmallL l) (k j:Nat):(packK l k).getD j 0<18446744073709551616:=by
 by_cases hj:j<wn l.length
 ·rw[packK_get _ _ _ hj]
  exact wordAt_lt (fun c hc=>small_mem h c (List.mem_of_mem_take hc)) j
 ·rw[List.getD_eq_getElem?_getD,List.getElem?_eq_none (by rw[packK_length];omega)];decide
theorem chunk (l:List Nat) (k:Nat) (hk:k<l.length):
  (((l.take (k+1)).drop (8*(k / 8))).take 8)=(((l.take k).drop (8*(k / 8))).take 8) ++ [l.getD k 0]∧(((l.take k).drop (8*(k / 8))).take 8).length=k%8:=by
 have e:l.take (k+1)=l.take k ++ [l.getD k 0]:=by
  rw[List.take_succ_eq_append_getElem hk,List.getD_eq_getElem?_getD,List.getElem?_eq_getElem hk];rfl
 have hl:(l.take k).length=k:=by rw[List.length_take];omega
 have hd:((l.take k).drop (8*(k / 8))).length=k%8:=by rw[List.length_drop,hl];omega
 refine ⟨?_,by rw[List.length_take,hd];omega⟩
 rw[e,List.drop_append_of_le_length (by omega)]
 generalize (l.take k).drop (8*(k / 8))=D at hd ⊢
 rw[List.take_of_length_le (by rw[List.length_append,hd];simp;omega),List.take_of_length_le (by omega)]
theorem packK_old {l:List Nat} (h:SmallL l) (k:Nat) (hk:k<l.length):(packK l k).getD (k / 8) 0<2 ^ (8*(k%8)):=by
 rw[packK_get _ _ _ (by unfold wn;omega),← pow256,← (chunk l k hk).2]
 exact leN_lt _ fun c hc=>small_mem h c (List.mem_of_mem_take (List.mem_of_mem_drop (List.mem_of_mem_take hc)))
theorem packK_succ (l:List Nat) (k:Nat) (hk:k<l.length):
  packK l (k+1)=(packK l k).set (k / 8) (l.getD k 0*2 ^ (8*(k%8))+(packK l k).getD (k / 8) 0):=by
 apply List.ext_getElem?
 intro j
 by_cases hj:j<wn l.length
 ·rw[List.getElem?_set,packK_length]
  have g1:(packK l (k+1))[j]?=some (wordAt (l.take (k+1)) j):=by unfold packK;rw[List.getElem?_map,List.getElem?_range hj];rfl
  have g2:(packK l k)[j]?=some (wordAt (l.take k) j):=by unfold packK;rw[List.getElem?_map,List.getElem?_range hj];rfl
  by_cases e:k / 8=j
  ·subst e
   rw[if_pos rfl,if_pos hj,g1,packK_get _ _ _ hj]
   unfold wordAt
   rw[(chunk l k hk).1,leN_snoc,(chunk l k hk).2,pow256,Nat.add_comm]
  ·rw[if_neg e,g1,g2]
   unfold wordAt
   congr 2
   by_cases hlt:j<k / 8
   ·apply List.ext_getElem?
    intro i
    rw[List.getElem?_take,List.getElem?_take]
    by_cases hi:i<8
    ·rw[if_pos hi,if_pos hi,List.getElem?_drop,List.getElem?_drop,List.getElem?_take,List.getElem?_take,if_pos (by omega),if_pos (by omega)]
    ·rw[if_neg hi,if_neg hi]
   ·rw[List.drop_eq_nil_of_le (by rw[List.length_take];omega),List.drop_eq_nil_of_le (by rw[List.length_take];omega)]
 ·rw[List.getElem?_eq_none (by rw[packK_length];omega),List.getElem?_eq_none (by rw[List.length_set,packK_length];omega)]
def unpackL (ws:List Nat) (n:Nat):List Nat:=(List.range n).map fun i=>ws.getD (i / 8) 0 / 2 ^ (8*(i%8))%256
theorem unpackL_length (ws:List Nat) (n:Nat):(unpackL ws n).length=n:=by simp [unpackL]
theorem unpackL_get (ws:List Nat) (n i:Nat) (hi:i<n):(unpackL ws n).getD i 0=ws.getD (i / 8) 0 / 2 ^ (8*(i%8))%256:=by
 unfold unpackL
 rw[List.getD_eq_getElem?_getD,List.getElem?_map,List.getElem?_range hi];rfl
theorem unpackL_small (ws:List Nat) (n:Nat):SmallL (unpackL ws n):=by
 intro i hi
 rw[unpackL_length] at hi
 rw[unpackL_get _ _ _ hi];exact Nat.mod_lt _ (by decide)
theorem unpack_pack {l:List Nat} (h:SmallL l) (n i:Nat) (hi:i<n) (hn:n≤8*wn l.length):(unpackL (packL l) n).getD i 0=l.getD i 0:=by
 rw[unpackL_get _ _ _ hi,packL_get _ _ (by omega),← pow256]
 unfold wordAt
 rw[leN_digit _ (fun c hc=>small_mem h c (List.mem_of_mem_drop (List.mem_of_mem_take hc)))]
 rw[List.getD_eq_getElem?_getD,List.getElem?_take,if_pos (by omega),List.getElem?_drop,List.getD_eq_getElem?_getD]
 congr 2;omega
def unpackK (ws:List Nat) (n k:Nat):List Nat:=(List.range n).map fun i=>if i<k then ws.getD (i / 8) 0 / 2 ^ (8*(i%8))%256 else 0
theorem unpackK_length (ws:List Nat) (n k:Nat):(unpackK ws n k).length=n:=by simp [unpackK]
theorem unpackK_zero (ws:List Nat) (n:Nat):unpackK ws n 0=List.replicate n 0:=by
 unfold unpackK
 rw[List.eq_replicate_iff]
 refine ⟨by simp,?_⟩
 intro b hb
 obtain ⟨j,_,rfl⟩:=List.mem_map.1 hb
 simp
theorem unpackK_all (ws:List Nat) (n:Nat):unpackK ws n n=unpackL ws n:=by
 unfold unpackK unpackL
 apply List.map_congr_left
 intro i hi
 rw[if_pos (List.mem_range.1 hi)]
theorem unpackK_succ (ws:List Nat) (n k:Nat):unpackK ws n (k+1)=(unpackK ws n k).set k (ws.getD (k / 8) 0 / 2 ^ (8*(k%8))%256):=by
 apply List.ext_getElem?
 intro j
 by_cases hj:j<n
 ·rw[List.getElem?_set,unpackK_length]
  have g:∀ k',(unpackK ws n k')[j]?=some (if j<k' then ws.getD (j / 8) 0 / 2 ^ (8*(j%8))%256 else 0):=by
   intro k';unfold unpackK;rw[List.getElem?_map,List.getElem?_range hj];rfl
  rw[g,g]
  by_cases e:k=j
  ·subst e
   rw[if_pos (by omega),if_pos rfl,if_pos hj]
  ·rw[if_neg e]
   by_cases h2:j<k
   ·rw[if_pos (by omega),if_pos h2]
   ·rw[if_neg (by omega),if_neg h2]
 ·rw[List.getElem?_eq_none (by rw[unpackK_length];omega),List.getElem?_eq_none (by rw[List.length_set,unpackK_length];omega)]
end Larder
namespace Go.Proofs.YtnfbaapbpgbgpaaGreat
open Go.ChangeShapes Go.WideShapes Go.ChangeAt Go.RowKit
set_option linter.unusedVariables false
def wcells (l:List Nat):List Value:=l.map (fun c:Nat=>Value.int .u64 (c:Int))
theorem wcells_at (l:List Nat) (j:Nat) (h:j<l.length):(wcells l)[j]?=some (.int .u64 (l.getD j 0:Nat)):=by
 unfold wcells
 rw[List.getElem?_map,List.getD_eq_getElem?_getD,List.getElem?_eq_getElem h];rfl
theorem wcells_set (l:List Nat) (q v:Nat):wcells (l.set q v)=(wcells l).set q (.int .u64 (v:Int)):=by
 unfold wcells;rw[List.map_set]
def OwnW (w:World) (base:Nat) (v:Value) (l:List Nat):Prop:=w.ownsRow base 33 1 v l.length (wcells l)
def Words (w:World) (a:Option Addr) (l:List Nat):Prop:=
 l=[]∨∃ b off,a=some ⟨b,off,none⟩∧b<w.heap.size∧∀ i,i<l.length→w.cell? ⟨b,off+i,none⟩=some (.int .u64 (l.getD i 0:Nat))
def WSmall (l:List Nat):Prop:=∀ i,i<l.length→l.getD i 0<18446744073709551616
theorem OwnW.shape {w:World}{base:Nat}{v:Value}{l:List Nat} (h:OwnW w base v l):
  ∃ a cap,v=.slice a l.length cap∧Words w a l:=by
 rcases h.2 with ⟨rfl,h0⟩|⟨g,cap,cur,rfl,hb,hg,hn,hm,hs,ht⟩
 ·exact ⟨none,0,by rw[h0],.inl (List.eq_nil_of_length_eq_zero h0)⟩
 ·refine ⟨_,cap,rfl,.inr ⟨g,0,rfl,(Array.getElem?_eq_some_iff.1 hg).1,fun i hi=>?_⟩⟩
  rw[Nat.zero_add,h.cellAt i (by omega),wcells_at l i hi]
theorem made_cells (z:Value) (n:Nat):(madeCells #[z] n).toList=List.replicate n z:=by
 unfold madeCells
 rw[Array.toList_map,Array.toList_range,List.eq_replicate_iff]
 refine ⟨by simp,?_⟩
 intro b hb
 obtain ⟨j,_,rfl⟩:=List.mem_map.1 hb
 simp [Nat.mod_one]
theorem wrap_nat (q:Nat) (h:q<9223372036854775808):IntKind.i64.wrap (q:Int)=(q:Int):=by
 rw[IntKind.wrap_i64];omega
theorem or_byte (o c sh:Nat) (ho:o<2 ^ sh) (hsh:sh≤56) (hc:c<256):bits BinOp.or IntKind.u64 (o:Int) (IntKind.u64.wrap ((c:Int)*2 ^ sh))=((c*2 ^ sh+o:Nat):Int):=by
 have h1:c*2 ^ sh<18446744073709551616:=by
  have h2:2 ^ sh≤2 ^ 56:=Nat.pow_le_pow_right (by omega) hsh
  have h3:c*2 ^ sh≤255*2 ^ 56:=Nat.mul_le_mul (by omega) h2
  omega
 have h4:o<18446744073709551616:=by
  have h2:2 ^ sh≤2 ^ 56:=Nat.pow_le_pow_right (by omega) hsh
  omega
 have e:IntKind.u64.wrap ((c:Int)*2 ^ sh)=(c:Int)*2 ^ sh:=by
  rw[IntKind.wrap_u64]
  have e2:(c:Int)*2 ^ sh=((c*2 ^ sh:Nat):Int):=by simp
  rw[e2];omega
 rw[e];exact or_join o c sh ho h1 h4
theorem pack_store {w:World}{base g cap:Nat}{ws:List Nat}{q v:Nat} (h:OwnW w base (.slice (some ⟨g,0,none⟩) ws.length cap) ws):
  OwnW (w.setCell ⟨g,q,none⟩ (.int .u64 (v:Int))) base (.slice (some ⟨g,0,none⟩) ws.length cap) (ws.set q v):=by
 unfold OwnW
 rw[List.length_set,wcells_set]
 exact (h.stored q _).1
set_option maxHeartbeats 1000000 in
theorem pack_any (a:Option Addr) (cap:Nat) (w:World) (l:List Nat) (hl:l.length≤140737488355328) (hB:Bytes w a l) (hs:Small l):
  Calls Tryz.prog 200 #[.slice a l.length cap] w fun e w'=>∃ v,e=.returned v∧OwnW w' w.heap.size v (Larder.packL l)∧Below w.heap.size w w':=by
 obtain ⟨i0,hi,hz0,hz1,hz2⟩:=info_parts Tryz.info33
 have hwn:wordsI (l.length:Int)=(Larder.wn l.length:Int):=by unfold wordsI Larder.wn;split <;> omega
 have hwb:Larder.wn l.length≤17592186044417:=by unfold Larder.wn;omega
 go_enter Tryz.func200,Tryz.ntmps200
 go_wp2_with fail
 refine (words_any l.length w (by omega) (by omega)).mono ?_
 rintro e w' ⟨rfl,hw'⟩
 obtain rfl:=hw'.symm
 rw[hwn]
 go_wp2_with (at_make;refine wpList_make_full _ rfl _ _ 61 rfl w.heap.size 33 i0 (.int .u64 0) 1 Tryz.underlying61 hi hz0 hz1 .i64 .i64 _ _ (Larder.wn l.length) rfl rfl rfl rfl (by rw[hz2];omega) (by simp [maxLen];omega) (Nat.le_refl _) ?_)
 intro w1 hown hgrow
 have hb1:Below w.heap.size w w1:=(Below.refl _ _).grown hgrow (Nat.le_refl _) (fun k h=>by cases h)
 have hown1:OwnW w1 w.heap.size (.slice (some ⟨w.heap.size,0,none⟩) (Larder.wn l.length) (Larder.wn l.length)) (Larder.packK l 0):=by
  rw[made_cells] at hown
  unfold OwnW
  rw[Larder.packK_length,Larder.packK_zero,wcells,List.map_replicate]
  exact hown
 have HL:=hide (Larder.packK_all l)
 clear hown hgrow hwn
 rcases hB with rfl|⟨b,off,rfl,hblt,hc⟩
 ·go_wp2_with fail
  go_loopw [11] (fun i wr=>i=.int .i64 0∧wr=w1) (fun _ _=>0)
  case atStart=>exact ⟨rfl,rfl⟩
  case round=>
   obtain ⟨rfl,rfl⟩:=hrel
   go_wp2
   go_ret
   exact ⟨_,rfl,by rw[← unhide HL];exact hown1,hb1⟩
 ·go_wp2_with fail
  go_loopw [11] (fun i wr=>∃ k:Nat,k≤l.length∧i=.int .i64 k∧OwnW wr w.heap.size (.slice (some ⟨w.heap.size,0,none⟩) (Larder.wn l.length) (Larder.wn l.length)) (Larder.packK l k)∧Below w.heap.size w wr) (fun i _=>l.length-(intOf i).toNat)
  case atStart=>exact ⟨0,by omega,rfl,hown1,hb1⟩
  case round=>
   obtain ⟨k,hk,rfl,hwn,hbl⟩:=hrel
   by_cases hlt:k<l.length
   ·obtain ⟨q,hq⟩:∃ q,q=k / 8:=⟨_,rfl⟩
    obtain ⟨o,ho⟩:∃ o,o=(Larder.packK l k).getD q 0:=⟨_,rfl⟩
    obtain ⟨c,hcc⟩:∃ c,c=l.getD k 0:=⟨_,rfl⟩
    have hlen:=Larder.packK_length l k
    have hqn:q<Larder.wn l.length:=by unfold Larder.wn;omega
    have hcl:wr.cell? ⟨w.heap.size,q,none⟩=some (.int .u64 (o:Int)):=by
     have h2:wr.ownsRow w.heap.size 33 1 (.slice (some ⟨w.heap.size,0,none⟩) (Larder.wn l.length) (Larder.wn l.length)) (Larder.wn l.length) (wcells (Larder.packK l k)):=by
      have:=hwn;unfold OwnW at this;rw[hlen] at this;exact this
     rw[h2.cellAt _ (by omega),wcells_at _ _ (by omega),ho]
    have hfz:wr.frozen? ⟨w.heap.size,q,none⟩=false:=by
     have h2:wr.ownsRow w.heap.size 33 1 (.slice (some ⟨w.heap.size,0,none⟩) (Larder.wn l.length) (Larder.wn l.length)) (Larder.wn l.length) (wcells (Larder.packK l k)):=by
      have:=hwn;unfold OwnW at this;rw[hlen] at this;exact this
     exact h2.frozenAt _
    have hcb:wr.cell? ⟨b,off+k,none⟩=some (.int .u8 (c:Int)):=by
     rw[hbl.cell (p:=⟨b,off+k,none⟩) hblt,hc k hlt,hcc]
    have hc256:c<256:=by rw[hcc];exact hs k hlt
    have ho64:o<18446744073709551616:=by rw[ho];exact Larder.packK_lt hs k q
    have eq:(k:Int) / 8=(q:Int):=by omega
    have eql:(q:Int)<(Larder.wn l.length:Int):=by omega
    obtain ⟨sh,hsh⟩:∃ sh,sh=8*(k%8):=⟨_,rfl⟩
    have hsh64:sh<64:=by omega
    have hcall:∀ wx:World,Calls Tryz.prog 201 #[.int .i64 k] wx fun e w'=>e=.returned (.int .i64 (sh:Int))∧w'=wx:=by
     intro wx;rw[hsh];exact byteAt_any k wx (by omega)
    have hwq:=wrap_nat q (by omega)
    have hold:o<2 ^ sh:=by rw[ho,hsh,hq];exact Larder.packK_old hs k hlt
    obtain ⟨nv,hnv⟩:∃ nv,nv=c*2 ^ sh+o:=⟨_,rfl⟩
    have hval:bits BinOp.or IntKind.u64 (o:Int) (IntKind.u64.wrap ((c:Int)*2 ^ sh))=(nv:Int):=by rw[hnv];exact or_byte o c sh hold (by omega) hc256
    have hst:Larder.packK l (k+1)=(Larder.packK l k).set q nv:=by
     rw[Larder.packK_succ l k hlt,hnv,ho,hcc,hsh,hq]
    have HW:Hid (OwnW (wr.setCell ⟨w.heap.size,q,none⟩ (.int .u64 (bits BinOp.or IntKind.u64 (o:Int) (IntKind.u64.wrap ((c:Int)*2 ^ sh))))) w.heap.size (.slice (some ⟨w.heap.size,0,none⟩) (Larder.wn l.length) (Larder.wn l.length)) (Larder.packK l (k+1))):=by
     rw[hst,hval]
     have:=hwn
     rw[← hlen] at this ⊢
     exact pack_store this
    have HC:=hide hcall
    clear hc ho hcc hq hs hcall hsh hold hnv hst hwn hlen hval
    go_wp2_with fail
    go_region_with (go_at_call 201;refine (unhide HC _).mono ?_;rintro e w' ⟨rfl,hw'⟩;obtain rfl:=hw'.symm)
    all_goals go_wp2
    all_goals
     go_roundw
     case rel=>exact ⟨k+1,by omega,by go_num,unhide HW,(hbl.setCell (p:=⟨w.heap.size,q,none⟩) (Nat.le_refl _) _).drew⟩
     case measure=>simp [intOf];omega
   ·have hkl:k=l.length:=by omega
    subst hkl
    go_wp2
    go_ret
    exact ⟨_,rfl,by rw[← unhide HL];exact hwn,hbl⟩
set_option maxRecDepth 100000
theorem cellsOf_set' (l:List Nat) (q v:Nat):cellsOf (l.set q v)=(cellsOf l).set q (.int .u8 (v:Int)):=by
 unfold cellsOf;rw[List.map_set]
theorem own_put {w:World}{base g cap n:Nat}{l:List Nat}{j v:Nat} (hn:l.length=n) (h:OwnB w base (.slice (some ⟨g,0,none⟩) n cap) l):
  OwnB (w.setCell ⟨g,j,none⟩ (.int .u8 (v:Int))) base (.slice (some ⟨g,0,none⟩) n cap) (l.set j v):=by
 subst hn
 unfold OwnB
 rw[List.length_set,cellsOf_set']
 exact (h.stored j _).1
set_option maxHeartbeats 1000000 in
theorem unpack_yes (a:Option Addr) (cap n:Nat) (w:World) (ws:List Nat) (hn:n≤281474976710656) (hle:Larder.wn n≤ws.length) (hW:Words w a ws) (hs:WSmall ws):
  Calls Tryz.prog 198 #[.slice a ws.length cap,.int .i64 n] w fun e w'=>∃ v,e=.returned (.tuple #[v,.int .i64 0])∧OwnB w' w.heap.size v (Larder.unpackL ws n)∧Below w.heap.size w w':=by
 obtain ⟨i0,hi,hz0,hz1,hz2⟩:=info_parts Tryz.info5
 have hwn:wordsI (n:Int)=(Larder.wn n:Int):=by unfold wordsI Larder.wn;split <;> omega
 have hcall:Calls Tryz.prog 38 #[.int .i64 n] w fun e w'=>e=.returned (.int .i64 (Larder.wn n:Int))∧w'=w:=by rw[← hwn];exact words_any n w (by omega) (by omega)
 have HC0:=hide hcall
 have HL:=hide (Larder.unpackK_all ws n)
 clear hwn hcall
 obtain ⟨N,hN⟩:∃ N,N=Larder.wn n:=⟨_,rfl⟩
 rw[← hN] at HC0 hle
 have hN8:n≤8*N:=by rw[hN];unfold Larder.wn;omega
 have hNn:N≤n:=by rw[hN];unfold Larder.wn;omega
 clear hN
 go_enter Tryz.func198,Tryz.ntmps198
 go_wp2_with fail
 refine (unhide HC0).mono ?_
 rintro e w' ⟨rfl,hw'⟩
 obtain rfl:=hw'.symm
 go_wp2_with (at_make;refine wpList_make_full _ rfl _ _ 22 rfl w.heap.size 5 i0 (.int .u8 0) 1 Tryz.underlying22 hi hz0 hz1 .i64 .i64 _ _ n rfl rfl rfl rfl (by rw[hz2];omega) (by simp [maxLen];omega) (Nat.le_refl _) ?_)
 intro w1 hown hgrow
 have hb1:Below w.heap.size w w1:=(Below.refl _ _).grown hgrow (Nat.le_refl _) (fun k h=>by cases h)
 have hown1:OwnB w1 w.heap.size (.slice (some ⟨w.heap.size,0,none⟩) n n) (Larder.unpackK ws n 0):=by
  rw[made_cells] at hown
  unfold OwnB
  rw[Larder.unpackK_length,Larder.unpackK_zero,cellsOf,List.map_replicate]
  exact hown
 clear hown hgrow
 rcases hW with rfl|⟨b,off,rfl,hblt,hc⟩
 ·have hn0:n=0:=by simp at hle;omega
  subst hn0
  go_wp2_with fail
  go_loopw [20] (fun i wr=>i=.int .i64 0∧wr=w1) (fun _ _=>0)
  case atStart=>exact ⟨rfl,rfl⟩
  case round=>
   obtain ⟨rfl,rfl⟩:=hrel
   go_wp2
   go_ret2
   exact ⟨_,rfl,by rw[← unhide HL];exact hown1,hb1⟩
 ·go_wp2_with fail
  go_loopw [20] (fun i wr=>∃ k:Nat,k≤n∧i=.int .i64 k∧OwnB wr w.heap.size (.slice (some ⟨w.heap.size,0,none⟩) n n) (Larder.unpackK ws n k)∧Below w.heap.size w wr) (fun i _=>n-(intOf i).toNat)
  case atStart=>exact ⟨0,by omega,rfl,hown1,hb1⟩
  case round=>
   obtain ⟨k,hk,rfl,hwn,hbl⟩:=hrel
   by_cases hlt:k<n
   ·obtain ⟨q,hq⟩:∃ q,q=k / 8:=⟨_,rfl⟩
    obtain ⟨c,hcc⟩:∃ c,c=ws.getD q 0:=⟨_,rfl⟩
    obtain ⟨sh,hsh⟩:∃ sh,sh=8*(k%8):=⟨_,rfl⟩
    have hlen:=Larder.unpackK_length ws n k
    have hqn:q<ws.length:=by omega
    have hcb:wr.cell? ⟨b,off+q,none⟩=some (.int .u64 (c:Int)):=by
     rw[hbl.cell (p:=⟨b,off+q,none⟩) hblt,hc q hqn,hcc]
    have hc64:c<18446744073709551616:=by rw[hcc];exact hs q hqn
    have hwn2:wr.ownsRow w.heap.size 5 1 (.slice (some ⟨w.heap.size,0,none⟩) n n) n (cellsOf (Larder.unpackK ws n k)):=by
     have:=hwn;unfold OwnB at this;rw[hlen] at this;exact this
    have hcl:∃ u,wr.cell? ⟨w.heap.size,k,none⟩=some u:=⟨_,by rw[hwn2.cellAt _ (by omega),cellsOf_at _ _ (by omega)]⟩
    obtain ⟨u0,hu0⟩:=hcl
    have hfz:wr.frozen? ⟨w.heap.size,k,none⟩=false:=hwn2.frozenAt _
    have eq:(k:Int) / 8=(q:Int):=by omega
    have hwq:=wrap_nat q (by omega)
    have hsh64:sh<64:=by omega
    have hcall:∀ wx:World,Calls Tryz.prog 201 #[.int .i64 k] wx fun e w'=>e=.returned (.int .i64 (sh:Int))∧w'=wx:=by
     intro wx;rw[hsh];exact byteAt_any k wx (by omega)
    have HW:Hid (OwnB (wr.setCell ⟨w.heap.size,k,none⟩ (.int .u8 ((c:Int) / 2 ^ sh%256))) w.heap.size (.slice (some ⟨w.heap.size,0,none⟩) n n) (Larder.unpackK ws n (k+1))):=by
     rw[Larder.unpackK_succ,← hq,← hcc,← hsh]
     have e:(c:Int) / 2 ^ sh%256=((c / 2 ^ sh%256:Nat):Int):=by simp
     rw[e];exact own_put hlen hwn
    have HC:=hide hcall
    clear hc hcc hq hs hcall hsh hlen hwn hwn2
    go_wp2_with fail
    go_region_with (go_at_call 201;refine (unhide HC _).mono ?_;rintro e w' ⟨rfl,hw'⟩;obtain rfl:=hw'.symm)
    all_goals go_wp2
    all_goals
     go_roundw
     case rel=>exact ⟨k+1,by omega,by go_num,unhide HW,(hbl.setCell (p:=⟨w.heap.size,k,none⟩) (Nat.le_refl _) _).drew⟩
     case measure=>simp [intOf];omega
   ·have hkl:k=n:=by omega
    subst hkl
    go_wp2
    go_ret2
    exact ⟨_,rfl,by rw[← unhide HL];exact hwn,hbl⟩
set_option maxHeartbeats 2000000
theorem run_yes {p bw bh:Nat}{ws:List Nat}{hs:List Bool}{used:Nat} (k from' n:Nat) (w:World) (h:Ar w p bw bh ws hs used) (hh:Heads ws hs used) (he:(objRes ws hs used k).2.2.2=0) (hn:from'+n≤8*(objRes ws hs used k).2.2.1):
  Calls Tryz.prog 197 #[.pointer (some ⟨p,0,none⟩),.int .i64 k,.int .i64 from',.int .i64 n] w fun e w'=>(∃ off,e=.returned (.tuple #[.slice (some ⟨bw,off,none⟩) (Larder.wn (from'+n)-from' / 8) (Larder.wn (from'+n)-from' / 8),.int .i64 0])∧
   (0<Larder.wn (from'+n)-from' / 8→off=k+1+(objRes ws hs used k).2.1+from' / 8))∧Below w.heap.size w w'∧k+1+(objRes ws hs used k).2.1+(objRes ws hs used k).2.2.1≤used:=by
 have HF:=hide (fields_yes k w h hh he)
 have hu:=h.u2
 have hz:=h.sz
 generalize (objRes ws hs used k).2.1=r at *
 generalize (objRes ws hs used k).2.2.1=s at *
 clear h hh he
 have HWD:Hid (∀ w',r+s≤1048576→Calls Tryz.prog 38 #[.int .i64 ((from':Int)+n)] w' fun e w''=>e=.returned (.int .i64 (Larder.wn (from'+n):Nat))∧w''=w'):=hide (fun w' hrs=>by
  have h:=words_any ((from':Int)+n) w' (by omega) (by omega)
  have e:wordsI ((from':Int)+n)=(Larder.wn (from'+n):Nat):=by unfold wordsI Larder.wn;split <;> omega
  rw[e] at h
  exact h)
 obtain ⟨hi,hhi⟩:∃ hi,hi=Larder.wn (from'+n):=⟨_,rfl⟩
 obtain ⟨lo,hlo⟩:∃ lo,lo=from' / 8:=⟨_,rfl⟩
 have h1:hi≤s:=by rw[hhi];unfold Larder.wn;omega
 have h2:lo≤hi:=by rw[hhi,hlo];unfold Larder.wn;omega
 have hq:(from':Int) / 8=(lo:Int):=by omega
 rw[← hhi,← hlo]
 rw[← hhi] at HWD
 obtain ⟨d,hd⟩:∃ d,d=hi-lo:=⟨_,rfl⟩
 rw[← hd]
 have e0:decide ((from':Int)<0)=false:=decide_eq_false (by omega)
 have e1:decide ((n:Int)<0)=false:=decide_eq_false (by omega)
 clear hhi hlo
 go_enter Tryz.func197,Tryz.ntmps197
 go_wp2_with fail
 refine (unhide HF).mono ?_
 rintro e w1 ⟨⟨off,rfl,hoff⟩,hb1,hfit⟩
 have hs8:r+s≤1048576:=by omega
 have HO:=hide hoff
 have HFI:=hide hfit
 clear hoff
 have e2:decide ((8*s:Int)-(from':Int)<(n:Int))=false:=decide_eq_false (by omega)
 by_cases hs0:s=0
 ·have hh0:hi=0:=by omega
  have hl0:lo=0:=by omega
  subst hs0
  subst hh0
  subst hl0
  have hd0:d=0:=by omega
  subst hd0
  clear hd
  go_wp2_with fail
  refine (unhide HWD w1 hs8).mono ?_
  rintro e w' ⟨rfl,hw'⟩
  obtain rfl:=hw'.symm
  go_wp2
  go_ret2
  exact ⟨⟨_,rfl,fun h=>by omega⟩,hb1,hfit⟩
 ·have ho:=unhide HO (by omega)
  subst ho
  by_cases hhl:hi=lo
  ·subst hhl
   have hd0:d=0:=by omega
   subst hd0
   clear hd
   go_wp2_with fail
   refine (unhide HWD w1 hs8).mono ?_
   rintro e w' ⟨rfl,hw'⟩
   obtain rfl:=hw'.symm
   go_wp2
   all_goals
    go_ret2
    exact ⟨⟨_,rfl,fun h=>by omega⟩,hb1,hfit⟩
  ·subst hd
   go_wp2_with fail
   refine (unhide HWD w1 hs8).mono ?_
   rintro e w' ⟨rfl,hw'⟩
   obtain rfl:=hw'.symm
   go_wp2
   go_ret2
   exact ⟨⟨_,rfl,fun _=>rfl⟩,hb1,hfit⟩
def spanErr (ws:List Nat) (hs:List Bool) (used:Nat) (at' from' n:Int):Nat:=
 if (objRes ws hs used at').2.2.2≠0 then (objRes ws hs used at').2.2.2
 else if 0≤from'∧0≤n∧from'+n≤8*((objRes ws hs used at').2.2.1:Nat) then 0 else 25
theorem run_no {p bw bh:Nat}{ws:List Nat}{hs:List Bool}{used:Nat} (at' from' n:Int) (w:World) (hf1:from'≤9223372036854775807) (hf2:-9223372036854775808≤from') (h:Ar w p bw bh ws hs used) (hh:Heads ws hs used) (f:Nat) (hf:f=spanErr ws hs used at' from' n) (hne:f≠0):
  Calls Tryz.prog 197 #[.pointer (some ⟨p,0,none⟩),.int .i64 at',.int .i64 from',.int .i64 n] w fun e w'=>e=.returned (.tuple #[.slice none 0 0,.int .i64 f])∧Below w.heap.size w w':=by
 unfold spanErr at hf
 have e1:((f:Int) == 0)=false:=by rw[beq_eq_false_iff_ne];omega
 by_cases h0:(objRes ws hs used at').2.2.2≠0
 ·rw[if_pos h0] at hf
  have HF:=hide (fields_no at' w h hh f hf hne)
  clear h hh hf h0 hne
  go_enter Tryz.func197,Tryz.ntmps197
  go_wp2_with fail
  refine (unhide HF).mono ?_
  rintro e w1 ⟨rfl,hb1⟩
  go_wp2
  go_ret2
  exact ⟨rfl,hb1⟩
 ·rw[if_neg h0] at hf
  have he:(objRes ws hs used at').2.2.2=0:=by omega
  obtain ⟨k,rfl,hk1⟩:=obj_nat he
  have HF:=hide (fields_yes k w h hh he)
  have hu:=h.u2
  have hz:=h.sz
  generalize (objRes ws hs used k).2.1=r at *
  generalize (objRes ws hs used k).2.2.1=s at *
  by_cases hi:0≤from'∧0≤n∧from'+n≤8*((s:Nat):Int)
  ·rw[if_pos hi] at hf;exact absurd hf hne
  ·rw[if_neg hi] at hf
   subst hf
   clear h hh he h0 hne e1
   by_cases hn1:from'<0
   ·have e2:decide (from'<0)=true:=decide_eq_true hn1
    go_enter Tryz.func197,Tryz.ntmps197
    go_wp2_with fail
    refine (unhide HF).mono ?_
    rintro e w1 ⟨⟨off,rfl,hoff⟩,hb1,hfit⟩
    clear hoff
    go_wp2
    all_goals
     go_ret2
     exact ⟨rfl,hb1⟩
   ·have e2:decide (from'<0)=false:=decide_eq_false hn1
    by_cases hn2:n<0
    ·have e3:decide (n<0)=true:=decide_eq_true hn2
     go_enter Tryz.func197,Tryz.ntmps197
     go_wp2_with fail
     refine (unhide HF).mono ?_
     rintro e w1 ⟨⟨off,rfl,hoff⟩,hb1,hfit⟩
     clear hoff
     go_wp2
     all_goals
      go_ret2
      exact ⟨rfl,hb1⟩
    ·have e3:decide (n<0)=false:=decide_eq_false hn2
     have hgt:8*(s:Int)-from'<n:=by omega
     have HGT:=hide hgt
     go_enter Tryz.func197,Tryz.ntmps197
     go_wp2_with fail
     refine (unhide HF).mono ?_
     rintro e w1 ⟨⟨off,rfl,hoff⟩,hb1,hfit⟩
     clear hoff
     by_cases hs0:s=0
     ·subst hs0
      have e4:decide (-from'<n)=true:=decide_eq_true (by omega)
      have e5:decide (0-from'<n)=true:=decide_eq_true (by omega)
      clear hi hgt
      go_wp2
      go_ret2
      exact ⟨rfl,hb1⟩
     ·have e4:decide (8*(s:Int)-from'<n)=true:=decide_eq_true hgt
      clear hi hgt
      go_wp2
      go_ret2
      exact ⟨rfl,hb1⟩
def rawByte (ws:List Nat) (b0 q:Nat):Nat:=ws.getD (b0+q / 8) 0 / 2 ^ (8*(q%8))%256
def runL (ws:List Nat) (c m:Nat):List Nat:=(List.range m).map fun i=>ws.getD (c+i) 0
theorem runL_length (ws:List Nat) (c m:Nat):(runL ws c m).length=m:=by simp [runL]
theorem runL_at (ws:List Nat) (c m i:Nat) (h:i<m):(runL ws c m).getD i 0=ws.getD (c+i) 0:=by
 unfold runL
 rw[List.getD_eq_getElem?_getD,List.getElem?_map,List.getElem?_range h];rfl
theorem Ar.run {w:World}{p bw bh:Nat}{ws:List Nat}{hs:List Bool}{used:Nat} (h:Ar w p bw bh ws hs used) (off c m:Nat) (hc:0<m→off=c) (hm:c+m≤ws.length):Words w (some ⟨bw,off,none⟩) (runL ws c m)∧WSmall (runL ws c m):=by
 constructor
 ·by_cases h0:m=0
  ·left;subst h0;rfl
  ·right
   have:=hc (by omega)
   subst this
   refine ⟨bw,off,rfl,h.lw,fun i hi=>?_⟩
   rw[runL_length] at hi
   rw[runL_at ws off m i hi]
   exact h.ww _ (by omega)
 ·intro i hi
  rw[runL_length] at hi
  rw[runL_at ws c m i hi]
  exact h.small _ (by omega)
theorem unpack_run (ws:List Nat) (b0 from' n i:Nat) (hi:i<n):(Larder.unpackL (runL ws (b0+from' / 8) (Larder.wn (from'+n)-from' / 8)) (from'%8+n)).getD (from'%8+i) 0=rawByte ws b0 (from'+i):=by
 rw[Larder.unpackL_get _ _ _ (by omega),runL_at _ _ _ _ (by unfold Larder.wn;omega)]
 unfold rawByte
 rw[show (from'%8+i)%8=(from'+i)%8 by omega,show b0+from' / 8+(from'%8+i) / 8=b0+(from'+i) / 8 by omega]
theorem obj_raws (ws:List Nat) (hs:List Bool) (used:Nat) (at':Int):(objRes ws hs used at').2.2.1<16777216:=by
 unfold objRes
 split
 ·split
  ·decide
  ·exact Nat.mod_lt _ (by decide)
 ·decide
def patch (l:List Nat) (o:Nat) (d:List Nat):List Nat:=(List.range l.length).map fun i=>if o≤i∧i<o+d.length then d.getD (i-o) 0 else l.getD i 0
theorem patch_length (l:List Nat) (o:Nat) (d:List Nat):(patch l o d).length=l.length:=by simp [patch]
theorem patch_at (l:List Nat) (o:Nat) (d:List Nat) (i:Nat) (h:i<l.length):(patch l o d).getD i 0=if o≤i∧i<o+d.length then d.getD (i-o) 0 else l.getD i 0:=by
 unfold patch
 rw[List.getD_eq_getElem?_getD,List.getElem?_map,List.getElem?_range h];rfl
theorem patch_below (N:Nat) (l:List Nat) (o:Nat) (d:List Nat) (hl:∀ i,i<l.length→l.getD i 0<N) (hd:∀ i,i<d.length→d.getD i 0<N):∀ i,i<(patch l o d).length→(patch l o d).getD i 0<N:=by
 intro i hi
 rw[patch_length] at hi
 rw[patch_at l o d i hi]
 split
 ·exact hd _ (by omega)
 ·exact hl _ hi
theorem patch_nil (l:List Nat) (o:Nat):patch l o []=l:=by
 apply List.ext_getElem?
 intro i
 by_cases hi:i<l.length
 ·have h:=patch_at l o [] i hi
  rw[if_neg (by simp)] at h
  rw[List.getD_eq_getElem?_getD,List.getD_eq_getElem?_getD,List.getElem?_eq_getElem hi,List.getElem?_eq_getElem (by rw[patch_length];exact hi)] at h
  rw[List.getElem?_eq_getElem hi,List.getElem?_eq_getElem (by rw[patch_length];exact hi)]
  exact congrArg some h
 ·rw[List.getElem?_eq_none (by rw[patch_length];omega),List.getElem?_eq_none (by omega)]
theorem below_setCells {B g:Nat}{w0:World} (hg:B≤g):∀ (vs:List Value) (o:Nat) {w:World},Below B w0 w→Below B w0 (w.setCells g o vs)
 | [],_,_,h=>h
 | v :: r,o,w,h=>below_setCells hg r (o+1) (h.setCell (p:=⟨g,o,none⟩) hg v)
theorem Ar.puts {w:World}{p bw bh:Nat}{ws:List Nat}{hs:List Bool}{used:Nat} (h:Ar w p bw bh ws hs used) (o:Nat) (d:List Nat) (hd:o+d.length≤ws.length) (hv:∀ i,i<d.length→d.getD i 0<18446744073709551616):
  Ar (w.setCells bw o (wcells d)) p bw bh (patch ws o d) hs used:=by
 have hb:But [bw] w (w.setCells bw o (wcells d)):=But.sets bw (by simp) _ _ _ (But.refl _ _)
 have n1:p ∉ [bw]:=by simp;exact h.ne1
 have n3:bh ∉ [bw]:=by simp;exact Ne.symm h.ne3
 have hwl:(wcells d).length=d.length:=by simp [wcells]
 refine { c0:=?_,c1:=?_,c2:=?_,f2:=?_,ww:=?_,wf:=?_,hh:=?_,hf:=?_,hl:=?_,ne1:=h.ne1,ne2:=h.ne2,ne3:=h.ne3,lp:=?_,lw:=?_,lh:=?_,u1:=h.u1,u2:=?_,sz:=?_,small:=?_ }
 ·rw[hb.cell (q:=⟨p,0,none⟩) h.lp n1,patch_length];exact h.c0
 ·rw[hb.cell (q:=⟨p,1,none⟩) h.lp n1,patch_length];exact h.c1
 ·rw[hb.cell (q:=⟨p,2,none⟩) h.lp n1];exact h.c2
 ·rw[hb.frozen (q:=⟨p,2,none⟩) h.lp n1];exact h.f2
 ·intro j hj
  rw[patch_length] at hj
  rw[patch_at ws o d j hj]
  by_cases e:o≤j∧j<o+d.length
  ·rw[if_pos e]
   have h1:=World.cell?_setCells_in bw (wcells d) o w (fun i hi=>by rw[h.ww _ (by omega)];rfl) (j-o) (by omega)
   rw[show o+(j-o)=j by omega] at h1
   rw[h1]
   have h2:=wcells_at d (j-o) (by omega)
   rw[List.getElem?_eq_getElem (by omega)] at h2
   exact h2
  ·rw[if_neg e,World.cell?_setCells_out bw (wcells d) o w ⟨bw,j,none⟩ (fun _ _=>by show j<o∨o+(wcells d).length≤j;omega)]
   exact h.ww j hj
 ·intro j hj
  rw[patch_length] at hj
  rw[World.frozen?_setCells];exact h.wf j hj
 ·intro j hj
  rw[patch_length] at hj
  rw[hb.cell (q:=⟨bh,j,none⟩) h.lh n3];exact h.hh j hj
 ·intro j hj
  rw[patch_length] at hj
  rw[hb.frozen (q:=⟨bh,j,none⟩) h.lh n3];exact h.hf j hj
 ·rw[patch_length];exact h.hl
 ·exact Nat.lt_of_lt_of_le h.lp hb.size
 ·exact Nat.lt_of_lt_of_le h.lw hb.size
 ·exact Nat.lt_of_lt_of_le h.lh hb.size
 ·rw[patch_length];exact h.u2
 ·rw[patch_length];exact h.sz
 ·exact patch_below _ ws o d h.small hv
structure Written (ws ws':List Nat) (b0 s from':Nat) (l:List Nat):Prop where
 len:ws'.length=ws.length
 out:∀ j,j<b0∨b0+s≤j→ws'.getD j 0=ws.getD j 0
 bytes:∀ q,q<8*s→rawByte ws' b0 q=if from'≤q∧q<from'+l.length then l.getD (q-from') 0 else rawByte ws b0 q
theorem written_nil (ws:List Nat) (b0 s from':Nat):Written ws ws b0 s from' []:=⟨rfl,fun _ _=>rfl,fun q _=>by rw[if_neg (by simp)]⟩
def anew (ws:List Nat) (c m sk:Nat) (l:List Nat):List Nat:=Larder.packL (patch (Larder.unpackL (runL ws c m) (8*m)) sk l)
theorem anew_length (ws:List Nat) (c m sk:Nat) (l:List Nat):(anew ws c m sk l).length=m:=by
 unfold anew
 rw[Larder.packL_length,patch_length,Larder.unpackL_length];unfold Larder.wn;omega
theorem small_patch {U l:List Nat} (sk:Nat) (h1:Small U) (h2:Small l):Small (patch U sk l):=patch_below 256 U sk l h1 h2
theorem anew_lt (ws:List Nat) (c m sk:Nat) (l:List Nat) (hl:Small l):∀ i,i<(anew ws c m sk l).length→(anew ws c m sk l).getD i 0<18446744073709551616:=by
 intro i hi
 unfold anew
 rw[← Larder.packK_all]
 exact Larder.packK_lt (small_patch sk (Larder.unpackL_small _ _) hl) _ _
theorem written_anew (ws:List Nat) (b0 s from' m:Nat) (l:List Nat) (hl:Small l) (hs:b0+s≤ws.length) (hn:from'+l.length≤8*s) (hm:m=Larder.wn (from'+l.length)-from' / 8):
  Written ws (patch ws (b0+from' / 8) (anew ws (b0+from' / 8) m (from'%8) l)) b0 s from' l:=by
 have hml:=anew_length ws (b0+from' / 8) m (from'%8) l
 have hm2:from' / 8+m≤s:=by rw[hm];unfold Larder.wn;omega
 have hm3:from'+l.length≤8*(from' / 8+m):=by rw[hm];unfold Larder.wn;omega
 refine ⟨patch_length _ _ _,fun j hj=>?_,fun q hq=>?_⟩
 ·by_cases hjl:j<ws.length
  ·rw[patch_at _ _ _ _ hjl,if_neg (by omega)]
  ·rw[List.getD_eq_getElem?_getD,List.getElem?_eq_none (by rw[patch_length];omega),List.getD_eq_getElem?_getD,List.getElem?_eq_none (by omega)]
 ·have hql:b0+q / 8<ws.length:=by omega
  by_cases hin:from' / 8≤q / 8∧q / 8<from' / 8+m
  ·obtain ⟨i,hi⟩:∃ i,i=q-8*(from' / 8):=⟨_,rfl⟩
   have hX:Larder.SmallL (patch (Larder.unpackL (runL ws (b0+from' / 8) m) (8*m)) (from'%8) l):=small_patch (from'%8) (Larder.unpackL_small _ _) hl
   have hXl:(patch (Larder.unpackL (runL ws (b0+from' / 8) m) (8*m)) (from'%8) l).length=8*m:=by rw[patch_length,Larder.unpackL_length]
   have h1:=Larder.unpack_pack hX (8*m) i (by omega) (by rw[hXl];unfold Larder.wn;omega)
   rw[Larder.unpackL_get _ _ _ (by omega),patch_at _ _ _ _ (by rw[Larder.unpackL_length];omega),Larder.unpackL_get _ _ _ (by omega),runL_at _ _ _ _ (by omega)] at h1
   show (patch ws (b0+from' / 8) (anew ws (b0+from' / 8) m (from'%8) l)).getD (b0+q / 8) 0 / 2 ^ (8*(q%8))%256=_
   rw[patch_at _ _ _ _ hql,if_pos (by omega)]
   unfold anew rawByte
   rw[show b0+q / 8-(b0+from' / 8)=i / 8 by omega,show q%8=i%8 by omega,h1,show b0+q / 8=b0+from' / 8+i / 8 by omega]
   by_cases hc:from'≤q∧q<from'+l.length
   ·rw[if_pos hc,if_pos (by omega),show i-from'%8=q-from' by omega]
   ·rw[if_neg hc,if_neg (by omega)]
  ·rw[if_neg (by omega)]
   unfold rawByte
   rw[patch_at _ _ _ _ hql,if_neg (by omega)]
theorem size36:(Tryz.prog.info? 33).map (·.size)=some 1:=by
 obtain ⟨i0,hi,hy0,hy1,hy2⟩:=info_parts Tryz.info33
 rw[hi];simp [hy1]
theorem size5:(Tryz.prog.info? 5).map (·.size)=some 1:=by
 obtain ⟨i0,hi,hy0,hy1,hy2⟩:=info_parts Tryz.info5
 rw[hi];simp [hy1]
theorem wcells_length (l:List Nat):(wcells l).length=l.length:=by simp [wcells]
theorem wcells_one (l:List Nat):∀ u∈wcells l,u.oneCell'=true:=by
 intro u hu
 obtain ⟨c,_,rfl⟩:=List.mem_map.1 hu
 rfl
theorem setbytes_yes {p bw bh:Nat}{ws:List Nat}{hs:List Bool}{used:Nat} (k from':Nat) (l:List Nat) (a:Option Addr) (cap:Nat) (w:World) (h:Ar w p bw bh ws hs used) (hh:Heads ws hs used) (he:(objRes ws hs used k).2.2.2=0) (hn:from'+l.length≤8*(objRes ws hs used k).2.2.1) (hB:Bytes w a l) (hsl:Small l):
  Calls Tryz.prog 196 #[.pointer (some ⟨p,0,none⟩),.int .i64 k,.int .i64 from',.slice a l.length cap] w fun e w'=>∃ ws',e=.returned (.int .i64 0)∧Ar w' p bw bh ws' hs used∧But [bw] w w'∧Written ws ws' (k+1+(objRes ws hs used k).2.1) (objRes ws hs used k).2.2.1 from' l:=by
 have HR:=hide (run_yes k from' l.length w h hh he hn)
 have hu:=h.u2
 have hz:=h.sz
 have hs24:=obj_raws ws hs used k
 generalize (objRes ws hs used k).2.1=r at *
 generalize (objRes ws hs used k).2.2.1=s at *
 obtain ⟨m,hm⟩:∃ m,m=Larder.wn (from'+l.length)-from' / 8:=⟨_,rfl⟩
 have hms:from' / 8+m≤s:=by rw[hm];unfold Larder.wn;omega
 have hm8:from'%8+l.length≤8*m:=by rw[hm];unfold Larder.wn;omega
 have hm0:m=0→from'%8=0:=by rw[hm];unfold Larder.wn;omega
 rw[← hm] at HR
 have HUP:Hid (∀ off w1,Below w.heap.size w w1→k+1+r+s≤used→(0<m→off=k+1+r+from' / 8)→Calls Tryz.prog 198 #[.slice (some ⟨bw,off,none⟩) m m,.int .i64 ((8*m:Nat):Int)] w1 fun e w'=>∃ v,e=.returned (.tuple #[v,.int .i64 0])∧OwnB w' w1.heap.size v (Larder.unpackL (runL ws (k+1+r+from' / 8) m) (8*m))∧Below w1.heap.size w1 w'):=hide (fun off w1 hb hfit ho=>by
  obtain ⟨h1,h2⟩:=(h.below hb).run off (k+1+r+from' / 8) m ho (by omega)
  have h3:=unpack_yes (some ⟨bw,off,none⟩) m (8*m) w1 (runL ws (k+1+r+from' / 8) m) (by omega) (by rw[runL_length];unfold Larder.wn;omega) h1 h2
  rw[runL_length] at h3
  exact h3)
 have HWR:Hid (k+1+r+s≤used→Written ws (patch ws (k+1+r+from' / 8) (anew ws (k+1+r+from' / 8) m (from'%8) l)) (k+1+r) s from' l):=hide (fun hfit=>written_anew ws (k+1+r) s from' m l hsl (by omega) hn hm)
 have HAL:=hide (anew_length ws (k+1+r+from' / 8) m (from'%8) l)
 have HAT:=hide (anew_lt ws (k+1+r+from' / 8) m (from'%8) l hsl)
 have HPK:Hid (∀ (a1:Option Addr) (c1:Nat) (w3:World),Bytes w3 a1 (patch (Larder.unpackL (runL ws (k+1+r+from' / 8) m) (8*m)) (from'%8) l)→Calls Tryz.prog 200 #[.slice a1 (8*m) c1] w3 fun e w'=>∃ v,e=.returned v∧OwnW w' w3.heap.size v (anew ws (k+1+r+from' / 8) m (from'%8) l)∧Below w3.heap.size w3 w'):=hide (fun a1 c1 w3 hb=>by
  have h1:=pack_any a1 c1 w3 _ (by rw[patch_length,Larder.unpackL_length];omega) hb (small_patch _ (Larder.unpackL_small _ _) hsl)
  rw[patch_length,Larder.unpackL_length] at h1
  exact h1)
 have hUL:=Larder.unpackL_length (runL ws (k+1+r+from' / 8) m) (8*m)
 generalize Larder.unpackL (runL ws (k+1+r+from' / 8) m) (8*m)=U at *
 generalize anew ws (k+1+r+from' / 8) m (from'%8) l=N at *
 obtain ⟨sk,hsk⟩:∃ sk,sk=from'%8:=⟨_,rfl⟩
 have hmod:(from':Int)%8=(sk:Int):=by omega
 have htmod:(from':Int).tmod 8=(sk:Int):=by rw[Int.tmod_eq_emod_of_nonneg (by omega)];exact hmod
 rw[← hsk] at HPK hm8 hm0
 have hsk8:sk<8:=by omega
 rw[show ((8*m:Nat):Int)=8*(m:Int) from by omega] at HUP
 have HUL:=hide hUL
 have HH:=hide h
 have HB:=hide hB
 have hm20:m≤1048576*16:=by omega
 have HMS:=hide hms
 clear h hh he hm hsk hms hUL hB
 go_enter Tryz.func196,Tryz.ntmps196
 go_wp2_with fail
 refine (unhide HR).mono ?_
 rintro e w1 ⟨⟨off,rfl,hoff⟩,hb1,hfit⟩
 have HC:=hide (unhide HUP off w1 hb1 hfit hoff)
 have HOF:=hide hoff
 clear hoff
 go_wp2_with fail
 refine (unhide HC).mono ?_
 rintro e w2 ⟨v,rfl,hown,hb2⟩
 have hb12:=hb1.trans (hb2.mono hb1.size)
 have HB2:=hide hb12
 by_cases h0:m=0
 ·have hsk0:=hm0 h0
  have hl0:l=[]:=List.eq_nil_of_length_eq_zero (by omega)
  subst h0
  subst hsk0
  subst hl0
  have CN1:∀ d dLen dCap w',(Builtin.copy_ #[22,22] 3 #[.slice d dLen dCap,.slice a 0 cap]).run Tryz.prog w'=.ok (goInt 0) w':=fun d dLen dCap w'=>run_copy_none w' 22 22 3 5 d a dLen dCap 0 cap Tryz.underlying22 size5 (Nat.zero_min _)
  have CN2:∀ d s sLen sCap w',(Builtin.copy_ #[61,61] 3 #[.slice d 0 0,.slice s sLen sCap]).run Tryz.prog w'=.ok (goInt 0) w':=fun d s sLen sCap w'=>run_copy_none w' 61 61 3 33 d s 0 0 sLen sCap Tryz.underlying61 size36 (Nat.min_zero _)
  have hN:N=[]:=List.eq_nil_of_length_eq_zero (unhide HAL)
  subst hN
  have HWN:Hid (Written ws ws (k+1+r) s from' []):=hide (written_nil _ _ _ _)
  have hU:=unhide HUL
  have hU0:U=[]:=List.eq_nil_of_length_eq_zero (by omega)
  subst hU0
  have HEND:Hid (∀ w3,Below w2.heap.size w2 w3→Ar w3 p bw bh ws hs used∧But [bw] w w3∧Written ws ws (k+1+r) s from' []):=hide (fun w3 hb3=>⟨((unhide HH).below hb12).below hb3,But.of_below (hb12.trans (hb3.mono hb12.size)),unhide HWN⟩)
  have HPP:Hid (∀ (a1:Option Addr) (c1:Nat),Calls Tryz.prog 200 #[.slice a1 0 c1] w2 fun e w'=>∃ v,e=.returned v∧OwnW w' w2.heap.size v []∧Below w2.heap.size w2 w'):=hide (fun a1 c1=>unhide HPK a1 c1 w2 (by rw[patch_nil];exact .inl rfl))
  rcases hown.2 with ⟨rfl,h0⟩|⟨g,c1,cur,rfl,hbb,hg,hn2,hm2,hs2,ht2⟩
  ·clear hown hb1 hb2 hb12
   go_wp2_with fail
   refine (unhide HPP none 0).mono ?_
   rintro e w3 ⟨v,rfl,hv,hb3⟩
   obtain ⟨a2,c2,rfl,_⟩:=hv.shape
   clear hv
   go_wp2
   go_ret
   exact ⟨ws,rfl,unhide HEND w3 hb3⟩
  ·clear hown hb1 hb2 hb12 hg hs2 ht2 hn2
   have hcm:c1≤9223372036854775807:=by unfold maxLen at hm2;omega
   by_cases hsc:0=c1
   ·subst hsc
    go_wp2_with fail
    refine (unhide HPP _ _).mono ?_
    rintro e w3 ⟨v,rfl,hv,hb3⟩
    obtain ⟨a2,c2,rfl,_⟩:=hv.shape
    clear hv
    go_wp2
    go_ret
    exact ⟨ws,rfl,unhide HEND w3 hb3⟩
   ·go_wp2_with fail
    refine (unhide HPP _ _).mono ?_
    rintro e w3 ⟨v,rfl,hv,hb3⟩
    obtain ⟨a2,c2,rfl,_⟩:=hv.shape
    clear hv
    go_wp2
    go_ret
    exact ⟨ws,rfl,unhide HEND w3 hb3⟩
 ·have ho:=unhide HOF (by omega)
  subst ho
  rcases hown.2 with ⟨rfl,h0'⟩|⟨g,c1,cur,rfl,hbb,hg,hn2,hm2,hs2,ht2⟩
  ·have:=unhide HUL;omega
  have hgl:=(Array.getElem?_eq_some_iff.1 hg).1
  have hUl:=unhide HUL
  rw[hUl] at hn2
  have hcap:8*m≤c1:=hn2
  have hcm:c1≤9223372036854775807:=by unfold maxLen at hm2;omega
  have hgw:w.heap.size≤g:=Nat.le_trans hb1.size hbb
  have hgc:∀ j,j<8*m→w2.cell? ⟨g,j,none⟩=some (.int .u8 (U.getD j 0:Nat)):=fun j hj=>by
   rw[World.ownsRow.cellAt hown j (by omega),cellsOf_at _ _ (by omega)]
  have hgf:∀ j,w2.frozen? ⟨g,j,none⟩=false:=fun j=>by simp [World.frozen?,hg]
  have hc1:(Builtin.copy_ #[22,22] 3 #[.slice (some ⟨g,sk,none⟩) (8*m-sk) (c1-sk),.slice a l.length cap]).run Tryz.prog w2=.ok (goInt l.length) (w2.setCells g sk (cellsOf l)):=by
   by_cases hl0:l.length=0
   ·have:l=[]:=List.eq_nil_of_length_eq_zero hl0
    subst this
    exact run_copy_none w2 22 22 3 5 _ a _ _ 0 cap Tryz.underlying22 size5 (Nat.zero_min _)
   ·rcases unhide HB with h|⟨b,o,rfl,hbl,hcl⟩
    ·rw[h] at hl0;simp at hl0
    ·have h1:=run_copy_cells (P:=Tryz.prog) w2 22 22 3 5 g sk (8*m-sk) (c1-sk) ⟨b,o,none⟩ l.length cap (cellsOf l) Tryz.underlying22 size5 (by rw[cellsOf_length];show _=min _ _;omega)
      (fun j v hv=>by
       obtain ⟨hj,rfl⟩:=cellsOf_get l j v hv
       rw[add_plain,hb12.cell (p:=⟨b,o+j,none⟩) hbl]
       exact hcl j hj)
      (fun j hj=>by rw[cellsOf_length] at hj;rw[hgc (sk+j) (by omega)];rfl) (fun j _=>hgf _) (cellsOf_one l)
     rw[cellsOf_length] at h1
     exact h1
  have hpb:Bytes (w2.setCells g sk (cellsOf l)) (some ⟨g,0,none⟩) (patch U sk l):=by
   refine .inr ⟨g,0,rfl,?_,fun i hi=>?_⟩
   ·have:=(But.sets (B:=[g]) g (by simp) (cellsOf l) sk w2 (But.refl _ _)).size
    omega
   ·rw[patch_length,hUl] at hi
    rw[patch_at _ _ _ _ (by omega),Nat.zero_add]
    by_cases hin:sk≤i∧i<sk+l.length
    ·rw[if_pos hin]
     have h1:=World.cell?_setCells_in g (cellsOf l) sk w2 (fun j hj=>by rw[cellsOf_length] at hj;rw[hgc _ (by omega)];rfl) (i-sk) (by rw[cellsOf_length];omega)
     rw[show sk+(i-sk)=i by omega] at h1
     rw[h1]
     have h2:=cellsOf_at l (i-sk) (by omega)
     rw[List.getElem?_eq_getElem (by rw[cellsOf_length];omega)] at h2
     exact h2
    ·rw[if_neg hin,World.cell?_setCells_out g (cellsOf l) sk w2 ⟨g,i,none⟩ (fun _ _=>by show i<sk∨sk+(cellsOf l).length≤i;rw[cellsOf_length];omega)]
     exact hgc i hi
  have hb3:Below w.heap.size w (w2.setCells g sk (cellsOf l)):=below_setCells hgw _ _ hb12
  have HPP:=hide (unhide HPK (some ⟨g,0,none⟩) c1 _ hpb)
  obtain ⟨w3,hw3⟩:∃ w3,w3=w2.setCells g sk (cellsOf l):=⟨_,rfl⟩
  rw[← hw3] at hc1 hb3 HPP
  have HB3:=hide hb3
  have hscap:¬ sk=c1:=by omega
  clear hown hb1 hb2 hb12 hg hs2 ht2 hm2 hn2 HUP HR hgc hgf hpb hb3 hw3
  go_wp2_with fail
  refine (unhide HPP).mono ?_
  rintro e w4 ⟨v,rfl,hv,hb4⟩
  have hb4':=(unhide HB3).trans (hb4.mono (unhide HB3).size)
  have hA:=(unhide HH).below hb4'
  obtain ⟨a2,c2,rfl,hW⟩:=hv.shape
  rcases hW with h|⟨b2,o2,rfl,hb2l,hcl2⟩
  ·have:=unhide HAL;rw[h] at this;simp at this;omega
  have hNl:=unhide HAL
  have hms:=unhide HMS
  have hc2:=run_copy_cells (P:=Tryz.prog) w4 61 61 3 33 bw (k+1+r+from' / 8) m m ⟨b2,o2,none⟩ N.length c2 (wcells N) Tryz.underlying61 size36 (by rw[wcells_length];show _=min _ _;omega)
   (fun j v hv=>by
    have hj:j<N.length:=by have:=(List.getElem?_eq_some_iff.1 hv).1;rwa [wcells_length] at this
    rw[wcells_at N j hj] at hv
    rw[add_plain,← hv]
    exact hcl2 j hj)
   (fun j hj=>by rw[wcells_length] at hj;rw[hA.ww _ (by omega)];rfl) (fun j hj=>by rw[wcells_length] at hj;exact hA.wf _ (by omega)) (wcells_one N)
  rw[wcells_length] at hc2
  have HE:Hid (Ar (w4.setCells bw (k+1+r+from' / 8) (wcells N)) p bw bh (patch ws (k+1+r+from' / 8) N) hs used∧But [bw] w (w4.setCells bw (k+1+r+from' / 8) (wcells N))∧Written ws (patch ws (k+1+r+from' / 8) N) (k+1+r) s from' l):=
   hide ⟨hA.puts _ N (by omega) (unhide HAT),But.sets bw (by simp) _ _ _ (But.of_below hb4'),unhide HWR hfit⟩
  generalize w4.setCells bw (k+1+r+from' / 8) (wcells N)=w5 at *
  rw[hNl] at hc2 ⊢
  clear hv hb4 hb4' hA hcl2 hms
  go_wp2
  go_ret
  exact ⟨_,rfl,unhide HE⟩
theorem setbytes_no {p bw bh:Nat}{ws:List Nat}{hs:List Bool}{used:Nat} (at' from':Int) (a:Option Addr) (n cap:Nat) (w:World) (hf1:from'≤9223372036854775807) (hf2:-9223372036854775808≤from') (h:Ar w p bw bh ws hs used) (hh:Heads ws hs used) (f:Nat) (hf:f=spanErr ws hs used at' from' n) (hne:f≠0):
  Calls Tryz.prog 196 #[.pointer (some ⟨p,0,none⟩),.int .i64 at',.int .i64 from',.slice a n cap] w fun e w'=>e=.returned (.int .i64 f)∧Below w.heap.size w w':=by
 have HR:=hide (run_no at' from' n w hf1 hf2 h hh f hf hne)
 have e1:((f:Int) == 0)=false:=by rw[beq_eq_false_iff_ne];omega
 clear h hh hf hne
 go_enter Tryz.func196,Tryz.ntmps196
 go_wp2_with fail
 refine (unhide HR).mono ?_
 rintro e w1 ⟨rfl,hb1⟩
 go_wp2
 go_ret
 exact ⟨rfl,hb1⟩
end Go.Proofs.YtnfbaapbpgbgpaaGreat
