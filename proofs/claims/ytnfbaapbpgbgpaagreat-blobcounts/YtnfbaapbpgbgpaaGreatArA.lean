import Derived.Test.YtnfbaapbpgbgpaaGreatRows
import Derived.Laws.OwnMore
import Derived.WalkKit
import Derived.WalkLawsBesides
import Derived.WalkSpells
import Derived.ProofKit
import Derived.OpenShut
import Derived.ShutString
import Derived.ChangeOld
import Derived.Below
import Derived.Laws.BytesArg
import Derived.Laws.BitsAllLaws
import Derived.Deep.QuietTactic
import Derived.BigQuiet
import Derived.WalkSmall
import Derived.Lib.SliceRun
import Derived.Deep.OwnRows
import Derived.Laws.IdiomCopy
namespace Go.Proofs.YtnfbaapbpgbgpaaGreat
open Go.ChangeShapes Go.WideShapes Go.ChangeAt Go.RowKit
set_option linter.unusedVariables false
theorem hide {p:Prop} (h:p):Hid p:=h
theorem unhide {p:Prop} (h:Hid p):p:=h.out
def Bytes (w:World) (a:Option Addr) (l:List Nat):Prop:=
 l=[]∨∃ b off,a=some ⟨b,off,none⟩∧b<w.heap.size∧∀ i,i<l.length→w.cell? ⟨b,off+i,none⟩=some (.int .u8 (l.getD i 0:Nat))
def Small (l:List Nat):Prop:=∀ i,i<l.length→l.getD i 0<256
theorem Bytes.below {w w':World}{a:Option Addr}{l:List Nat} (h:Bytes w a l) (hb:Below w.heap.size w w'):Bytes w' a l:=by
 rcases h with h|⟨b,off,rfl,hlt,hc⟩
 ·exact .inl h
 ·exact .inr ⟨b,off,rfl,Nat.lt_of_lt_of_le hlt hb.size,fun i hi=>(hb.cell (p:=⟨b,off+i,none⟩) hlt).trans (hc i hi)⟩
theorem ret_int {k:IntKind}{a b:Int} (h:a=b):Ending.returned (.int k a)=.returned (.int k b):=by rw[h]
theorem ret_bool {a b:Bool} (h:a=b):Ending.returned (.bool a)=.returned (.bool b):=by rw[h]
theorem ret_two {k k':IntKind}{a b a' b':Int} (h:a=b) (h':a'=b'):Ending.returned (.tuple #[.int k a,.int k' a'])=.returned (.tuple #[.int k b,.int k' b']):=by rw[h,h']
def wordsI (n:Int):Int:=if n<1 then 0 else (n-1) / 8+1
theorem words_any (n:Int) (w:World) (h1:-9223372036854775808≤n) (h2:n≤9223372036854775807):Calls Tryz.prog 38 #[.int .i64 n] w fun e w'=>e=.returned (.int .i64 (wordsI n))∧w'=w:=by
 by_cases h:n<1
 ·have HW:Hid (wordsI n=0):=by unfold wordsI;rw[if_pos h];rfl
  go_enter Tryz.func38,Tryz.ntmps38
  go_wp2
  go_ret
  exact ⟨ret_int (unhide HW).symm,rfl⟩
 ·have HW:Hid (wordsI n=(n-1) / 8+1):=by unfold wordsI;rw[if_neg h];rfl
  go_enter Tryz.func38,Tryz.ntmps38
  go_wp2
  go_ret
  exact ⟨ret_int (unhide HW).symm,rfl⟩
theorem byteAt_any (n:Nat) (w:World) (h2:n≤9223372036854775807):Calls Tryz.prog 201 #[.int .i64 n] w fun e w'=>e=.returned (.int .i64 (8*(n%8):Nat))∧w'=w:=by
 go_enter Tryz.func201,Tryz.ntmps201
 go_wp2
 go_ret
 exact ⟨ret_int (by omega),rfl⟩
theorem count_yes (n:Int) (w:World) (h1:0≤n) (h2:n≤1048576):Calls Tryz.prog 115 #[.int .i64 n] w fun e w'=>e=.returned (.bool true)∧w'=w:=by
 go_enter Tryz.func115,Tryz.ntmps115
 go_wp2
 go_ret
 exact ⟨ret_bool (by simp_all),rfl⟩
theorem count_no (n:Int) (w:World) (h:n<0∨1048576<n):Calls Tryz.prog 115 #[.int .i64 n] w fun e w'=>e=.returned (.bool false)∧w'=w:=by
 rcases h with h|h
 ·have hd:decide (0≤n)=false:=by simp;omega
  go_enter Tryz.func115,Tryz.ntmps115
  go_wp2
  go_ret
  exact ⟨rfl,rfl⟩
 ·have h0:(0:Int)≤n:=by omega
  go_enter Tryz.func115,Tryz.ntmps115
  go_wp2
  go_ret
  exact ⟨ret_bool (by simp;omega),rfl⟩
def Fits (k r s:Int):Prop:=1≤k∧k≤255∧0≤r∧r≤1048576∧0≤s∧s≤1048576
theorem or_join (a b i:Nat) (ha:a<2 ^ i) (hb:b*2 ^ i<18446744073709551616) (hi:a<18446744073709551616):
  bits BinOp.or IntKind.u64 (a:Int) ((b:Int)*2 ^ i)=((b*2 ^ i+a:Nat):Int):=by
 have e:=u64_or_nat a (b*2 ^ i) hi hb
 have j:a ||| b*2 ^ i=b*2 ^ i+a:=by
  rw[Nat.or_comm];exact nat_join i _ _ (Nat.mul_mod_left _ _) ha
 rw[j] at e
 rw[← e]
 congr 1
theorem or_parts (k r s:Nat) (hk:k≤255) (hr:r≤1048576) (hs:s≤1048576):
  bits BinOp.or IntKind.u64 (bits BinOp.or IntKind.u64 (k:Int) ((r:Int)*256)) ((s:Int)*4294967296)=(k:Int)+256*r+4294967296*s:=by
 have e1:=or_join k r 8 (by omega) (by omega) (by omega)
 have e2:=or_join (r*2 ^ 8+k) s 32 (by omega) (by omega) (by omega)
 rw[show (2:Int) ^ 8=256 from by decide] at e1
 rw[show (2:Int) ^ 32=4294967296 from by decide] at e2
 rw[e1,e2];omega
set_option maxHeartbeats 400000 in
theorem head_yes (k r s:Int) (w:World) (h:Fits k r s):Calls Tryz.prog 79 #[.int .i64 k,.int .i64 r,.int .i64 s] w fun e w'=>e=.returned (.tuple #[.int .u64 (k+256*r+4294967296*s),.int .i64 0])∧w'=w:=by
 obtain ⟨h1,h2,h3,h4,h5,h6⟩:=h
 have HO:Hid (bits BinOp.or IntKind.u64 (bits BinOp.or IntKind.u64 k (r*256)) (s*4294967296)=k+256*r+4294967296*s):=by
  obtain ⟨k,rfl⟩:=Int.eq_ofNat_of_zero_le (show 0≤k by omega)
  obtain ⟨r,rfl⟩:=Int.eq_ofNat_of_zero_le h3
  obtain ⟨s,rfl⟩:=Int.eq_ofNat_of_zero_le h5
  exact or_parts k r s (by omega) (by omega) (by omega)
 go_enter Tryz.func79,Tryz.ntmps79
 go_wp2_with fail
 refine (count_yes r w h3 h4).mono ?_
 rintro e w1 ⟨rfl,rfl⟩
 go_wp2_with fail
 refine (count_yes s _ h5 h6).mono ?_
 rintro e w2 ⟨rfl,rfl⟩
 go_wp2
 go_ret2
 exact ⟨ret_two (unhide HO) rfl,rfl⟩
set_option maxHeartbeats 400000 in
theorem head_no (k r s:Int) (w:World) (h:¬ Fits k r s):Calls Tryz.prog 79 #[.int .i64 k,.int .i64 r,.int .i64 s] w fun e w'=>e=.returned (.tuple #[.int .u64 0,.int .i64 10])∧w'=w:=by
 by_cases h1:k<1
 ·go_enter Tryz.func79,Tryz.ntmps79
  go_wp2
  go_ret2
  exact ⟨rfl,rfl⟩
 by_cases h2:255<k
 ·go_enter Tryz.func79,Tryz.ntmps79
  go_wp2
  go_ret2
  exact ⟨rfl,rfl⟩
 have h1':decide (k<1)=false:=by simp;omega
 have h2':decide (255<k)=false:=by simp;omega
 by_cases h3:r<0∨1048576<r
 ·clear h
  go_enter Tryz.func79,Tryz.ntmps79
  go_wp2_with fail
  refine (count_no r w h3).mono ?_
  rintro e w1 ⟨rfl,rfl⟩
  go_wp2
  go_ret2
  exact ⟨rfl,rfl⟩
 ·have h5:s<0∨1048576<s:=by unfold Fits at h;omega
  clear h
  go_enter Tryz.func79,Tryz.ntmps79
  go_wp2_with fail
  refine (count_yes r w (by omega) (by omega)).mono ?_
  rintro e w1 ⟨rfl,rfl⟩
  go_wp2_with fail
  refine (count_no s _ h5).mono ?_
  rintro e w2 ⟨rfl,rfl⟩
  go_wp2
  go_ret2
  exact ⟨rfl,rfl⟩
theorem and_low (x i:Nat) (hx:x<18446744073709551616) (hi:2 ^ i-1<18446744073709551616):bits BinOp.and IntKind.u64 (x:Int) ((2 ^ i-1:Nat):Int)=((x%2 ^ i:Nat):Int):=by
 have e:=u64_and_nat x (2 ^ i-1) hx hi
 rw[Nat.and_two_pow_sub_one_eq_mod] at e
 exact e
theorem wrap64_small (n:Nat) (h:n<9223372036854775808):wrap64 (n:Int)=(n:Int):=by
 unfold wrap64
 omega
set_option maxHeartbeats 400000 in
theorem part_8 (x:Nat) (w:World) (hx:x<18446744073709551616):Calls Tryz.prog 175 #[.int .u64 x,.int .i64 0,.int .i64 8] w fun e w'=>e=.returned (.int .i64 ((x%256:Nat):Int))∧∃ n,w'=w.drewN n:=by
 have HA:Hid (wrap64 (bits BinOp.and IntKind.u64 (x:Int) 255)=((x%256:Nat):Int)):=by
  have e:=and_low x 8 hx (by decide)
  have e2:bits BinOp.and IntKind.u64 (x:Int) 255=((x%256:Nat):Int):=e
  show _=_
  rw[e2];exact wrap64_small _ (by omega)
 go_enter Tryz.func175,Tryz.ntmps175
 go_wp2
 go_quiet (fail)
 go_wp2
 go_ret
 exact ⟨ret_int (unhide HA),_,rfl⟩
theorem mask24 (y:Nat) (z:Int) (hz:z=(y:Int)) (hy:y<18446744073709551616):wrap64 (bits BinOp.and IntKind.u64 z 16777215)=((y%16777216:Nat):Int):=by
 have e:=and_low y 24 hy (by decide)
 have e2:bits BinOp.and IntKind.u64 (y:Int) 16777215=((y%16777216:Nat):Int):=e
 rw[hz,e2];exact wrap64_small _ (by omega)
set_option maxHeartbeats 400000 in
theorem part_24 (x:Nat) (w:World) (hx:x<18446744073709551616):Calls Tryz.prog 175 #[.int .u64 x,.int .i64 8,.int .i64 24] w fun e w'=>e=.returned (.int .i64 ((x / 256%16777216:Nat):Int))∧∃ n,w'=w.drewN n:=by
 have HA:=hide (mask24 (x / 256) ((x:Int) / 256) (by omega) (by omega))
 go_enter Tryz.func175,Tryz.ntmps175
 go_wp2
 go_quiet (fail)
 go_wp2
 go_ret
 exact ⟨ret_int (unhide HA),_,rfl⟩
set_option maxHeartbeats 400000 in
theorem part_32 (x:Nat) (w:World) (hx:x<18446744073709551616):Calls Tryz.prog 175 #[.int .u64 x,.int .i64 32,.int .i64 24] w fun e w'=>e=.returned (.int .i64 ((x / 4294967296%16777216:Nat):Int))∧∃ n,w'=w.drewN n:=by
 have HA:=hide (mask24 (x / 4294967296) ((x:Int) / 4294967296) (by omega) (by omega))
 go_enter Tryz.func175,Tryz.ntmps175
 go_wp2
 go_quiet (fail)
 go_wp2
 go_ret
 exact ⟨ret_int (unhide HA),_,rfl⟩
def IsHead (x:Nat):Prop:=Fits (x%256:Nat) (x / 256%16777216:Nat) (x / 4294967296%16777216:Nat)∧x<72057594037927936
set_option maxHeartbeats 400000 in
theorem split_any (x:Nat) (w:World) (hx:x<18446744073709551616):Calls Tryz.prog 174 #[.int .u64 x] w fun e w'=>Below w.heap.size w w'∧
  ((IsHead x∧e=.returned (.tuple #[.int .i64 (x%256:Nat),.int .i64 (x / 256%16777216:Nat),.int .i64 (x / 4294967296%16777216:Nat),.int .i64 0]))∨
   (¬ IsHead x∧e=.returned (.tuple #[.int .i64 0,.int .i64 0,.int .i64 0,.int .i64 10]))):=by
 go_enter Tryz.func174,Tryz.ntmps174
 go_wp2_with fail
 refine (part_8 x w hx).mono ?_
 rintro e w1 ⟨rfl,n1,rfl⟩
 go_wp2_with fail
 refine (part_24 x _ hx).mono ?_
 rintro e w1 ⟨rfl,n2,rfl⟩
 go_wp2_with fail
 refine (part_32 x _ hx).mono ?_
 rintro e w1 ⟨rfl,n3,rfl⟩
 go_wp2_with fail
 by_cases hf:Fits (x%256:Nat) (x / 256%16777216:Nat) (x / 4294967296%16777216:Nat)
 ·refine (head_yes _ _ _ _ hf).mono ?_
  rintro e w1 ⟨rfl,rfl⟩
  obtain ⟨h1,h2,h3,h4,h5,h6⟩:=hf
  by_cases hlt:x<72057594037927936
  ·have hb:(((x%256:Nat):Int)+256*((x / 256%16777216:Nat):Int)+4294967296*((x / 4294967296%16777216:Nat):Int) == (x:Int))=true:=by rw[beq_iff_eq];omega
   go_wp2
   exact bodyPost_ret (v:=.tuple #[.int .i64 (x%256:Nat),.int .i64 (x / 256%16777216:Nat),.int .i64 (x / 4294967296%16777216:Nat),.int .i64 0]) (by simp [results,Tryz.results174,go_sem]) rfl ⟨below_drewN (Below.refl _ _) _,.inl ⟨⟨⟨h1,h2,h3,h4,h5,h6⟩,hlt⟩,rfl⟩⟩
  ·have hb:(((x%256:Nat):Int)+256*((x / 256%16777216:Nat):Int)+4294967296*((x / 4294967296%16777216:Nat):Int) == (x:Int))=false:=by rw[beq_eq_false_iff_ne];omega
   go_wp2
   exact bodyPost_ret (v:=.tuple #[.int .i64 0,.int .i64 0,.int .i64 0,.int .i64 10]) (by simp [results,Tryz.results174,go_sem]) rfl ⟨below_drewN (Below.refl _ _) _,.inr ⟨fun h=>hlt h.2,rfl⟩⟩
 ·refine (head_no _ _ _ _ hf).mono ?_
  rintro e w1 ⟨rfl,rfl⟩
  have HF:=hide hf
  clear hf
  go_wp2
  exact bodyPost_ret (v:=.tuple #[.int .i64 0,.int .i64 0,.int .i64 0,.int .i64 10]) (by simp [results,Tryz.results174,go_sem]) rfl ⟨below_drewN (Below.refl _ _) _,.inr ⟨fun h=>unhide HF h.1,rfl⟩⟩
set_option maxRecDepth 100000
set_option maxHeartbeats 1000000
structure But (B:List Nat) (w w':World):Prop where
 os:w'.os=w.os
 tape:w'.tape=w.tape
 output:w'.output=w.output
 size:w.heap.size≤w'.heap.size
 block:∀ j,j<w.heap.size→j ∉ B→w'.heap[j]?=w.heap[j]?
theorem But.refl (B:List Nat) (w:World):But B w w:=⟨rfl,rfl,rfl,Nat.le_refl _,fun _ _ _=>rfl⟩
theorem But.trans {B:List Nat}{a b c:World} (h:But B a b) (k:But B b c):But B a c:=
 ⟨k.os.trans h.os,k.tape.trans h.tape,k.output.trans h.output,Nat.le_trans h.size k.size,fun j hj hB=>(k.block j (Nat.lt_of_lt_of_le hj h.size) hB).trans (h.block j hj hB)⟩
theorem But.of_below {B:List Nat}{w w':World} (h:Below w.heap.size w w'):But B w w':=⟨h.os,h.tape,h.output,h.size,fun j hj _=>h.block j hj⟩
theorem But.cell {B:List Nat}{w w':World} (h:But B w w') {q:Addr} (hq:q.block<w.heap.size) (hB:q.block ∉ B):w'.cell? q=w.cell? q:=by
 unfold World.cell?;rw[h.block _ hq hB]
theorem But.frozen {B:List Nat}{w w':World} (h:But B w w') {q:Addr} (hq:q.block<w.heap.size) (hB:q.block ∉ B):w'.frozen? q=w.frozen? q:=by
 unfold World.frozen?;rw[h.block _ hq hB]
theorem But.set {B:List Nat}{w w':World} (h:But B w w') (q:Addr) (hB:q.block∈B) (v:Value):But B w (w'.setCell q v):=
 ⟨h.os,h.tape,h.output,by simp;exact h.size,fun j hj hn=>(Below.heap_setCell w' q v j (fun e=>hn (e ▸ hB))).trans (h.block j hj hn)⟩
structure Ar (w:World) (p bw bh:Nat) (ws:List Nat) (hs:List Bool) (used:Nat):Prop where
 c0:w.cell? ⟨p,0,none⟩=some (.slice (some ⟨bw,0,none⟩) ws.length ws.length)
 c1:w.cell? ⟨p,1,none⟩=some (.slice (some ⟨bh,0,none⟩) ws.length ws.length)
 c2:w.cell? ⟨p,2,none⟩=some (.int .i64 used)
 f2:w.frozen? ⟨p,2,none⟩=false
 ww:∀ j,j<ws.length→w.cell? ⟨bw,j,none⟩=some (.int .u64 (ws.getD j 0:Nat))
 wf:∀ j,j<ws.length→w.frozen? ⟨bw,j,none⟩=false
 hh:∀ j,j<ws.length→w.cell? ⟨bh,j,none⟩=some (.bool (hs.getD j false))
 hf:∀ j,j<ws.length→w.frozen? ⟨bh,j,none⟩=false
 hl:hs.length=ws.length
 ne1:p≠bw
 ne2:p≠bh
 ne3:bw≠bh
 lp:p<w.heap.size
 lw:bw<w.heap.size
 lh:bh<w.heap.size
 u1:1≤used
 u2:used≤ws.length
 sz:ws.length≤1048576
 small:∀ j,j<ws.length→ws.getD j 0<18446744073709551616
theorem Ar.but {B:List Nat}{w w':World}{p bw bh:Nat}{ws:List Nat}{hs:List Bool}{used:Nat} (h:Ar w p bw bh ws hs used) (k:But B w w') (h1:p ∉ B) (h2:bw ∉ B) (h3:bh ∉ B):Ar w' p bw bh ws hs used where
 c0:=(k.cell (q:=⟨p,0,none⟩) h.lp h1).trans h.c0
 c1:=(k.cell (q:=⟨p,1,none⟩) h.lp h1).trans h.c1
 c2:=(k.cell (q:=⟨p,2,none⟩) h.lp h1).trans h.c2
 f2:=(k.frozen (q:=⟨p,2,none⟩) h.lp h1).trans h.f2
 ww j hj:=(k.cell (q:=⟨bw,j,none⟩) h.lw h2).trans (h.ww j hj)
 wf j hj:=(k.frozen (q:=⟨bw,j,none⟩) h.lw h2).trans (h.wf j hj)
 hh j hj:=(k.cell (q:=⟨bh,j,none⟩) h.lh h3).trans (h.hh j hj)
 hf j hj:=(k.frozen (q:=⟨bh,j,none⟩) h.lh h3).trans (h.hf j hj)
 hl:=h.hl
 ne1:=h.ne1
 ne2:=h.ne2
 ne3:=h.ne3
 lp:=Nat.lt_of_lt_of_le h.lp k.size
 lw:=Nat.lt_of_lt_of_le h.lw k.size
 lh:=Nat.lt_of_lt_of_le h.lh k.size
 u1:=h.u1
 u2:=h.u2
 sz:=h.sz
 small:=h.small
theorem Ar.below {w w':World}{p bw bh:Nat}{ws:List Nat}{hs:List Bool}{used:Nat} (h:Ar w p bw bh ws hs used) (k:Below w.heap.size w w'):Ar w' p bw bh ws hs used:=
 h.but (But.of_below (B:=[]) k) (by simp) (by simp) (by simp)
def Begins (hs:List Bool) (used:Nat) (at':Int):Prop:=1≤at'∧at'<used∧hs.getD at'.toNat false=true
theorem begins_yes {p bw bh:Nat}{ws:List Nat}{hs:List Bool}{used:Nat} (k:Nat) (w:World) (h:Ar w p bw bh ws hs used) (hb:Begins hs used k):
  Calls Tryz.prog 172 #[.pointer (some ⟨p,0,none⟩),.int .i64 k] w fun e w'=>e=.returned (.bool true)∧w'=w:=by
 obtain ⟨hb1,hb2,hb3⟩:=hb
 have e1:decide ((1:Int)≤(k:Int))=true:=decide_eq_true (by omega)
 have e2:decide ((k:Int)<(used:Int))=true:=decide_eq_true (by omega)
 have c1:=h.c1
 have c2:=h.c2
 have hlt:k<ws.length:=by have:=h.u2;omega
 have hk:=h.hh k hlt
 rw[Int.toNat_natCast] at hb3
 rw[hb3] at hk
 have hz:=h.sz
 clear h
 go_enter Tryz.func172,Tryz.ntmps172
 go_wp2
 go_ret
 exact ⟨rfl,rfl⟩
theorem begins_no {p bw bh:Nat}{ws:List Nat}{hs:List Bool}{used:Nat} (at':Int) (w:World) (h:Ar w p bw bh ws hs used) (hb:¬ Begins hs used at'):
  Calls Tryz.prog 172 #[.pointer (some ⟨p,0,none⟩),.int .i64 at'] w fun e w'=>e=.returned (.bool false)∧w'=w:=by
 have c1:=h.c1
 have c2:=h.c2
 by_cases h1:(1:Int)≤at'
 ·have e1:decide ((1:Int)≤at')=true:=decide_eq_true h1
  by_cases h2:at'<used
  ·obtain ⟨k,rfl⟩:=Int.eq_ofNat_of_zero_le (show (0:Int)≤at' by omega)
   have e2:decide ((k:Int)<(used:Int))=true:=decide_eq_true h2
   have hlt:k<ws.length:=by have:=h.u2;omega
   have hk:=h.hh k hlt
   have hf:hs.getD k false=false:=by
    cases e:hs.getD k false with
    | false=>rfl
    | true=>exact absurd ⟨h1,h2,by rw[Int.toNat_natCast];exact e⟩ hb
   rw[hf] at hk
   have hz:=h.sz
   clear h hb
   go_enter Tryz.func172,Tryz.ntmps172
   go_wp2
   go_ret
   exact ⟨rfl,rfl⟩
  ·have e2:decide (at'<(used:Int))=false:=decide_eq_false h2
   clear h hb
   go_enter Tryz.func172,Tryz.ntmps172
   go_wp2
   go_ret
   exact ⟨rfl,rfl⟩
 ·have e1:decide ((1:Int)≤at')=false:=decide_eq_false h1
  clear h hb
  go_enter Tryz.func172,Tryz.ntmps172
  go_wp2
  go_ret
  exact ⟨rfl,rfl⟩
theorem top_bit (x:Nat) (hx:x<18446744073709551616):(bits BinOp.and IntKind.u64 (x:Int) 9223372036854775808 != 0)=decide (9223372036854775808≤x):=by
 have h:=u64_and_nat x 9223372036854775808 hx (by decide)
 have e:bits BinOp.and IntKind.u64 (x:Int) 9223372036854775808=((x &&& 9223372036854775808:Nat):Int):=h
 have h2:x &&& 9223372036854775808=(x.testBit 63).toNat*9223372036854775808:=by
  apply Nat.eq_of_testBit_eq
  intro i
  rw[Nat.testBit_and,show (9223372036854775808:Nat)=2 ^ 63 from rfl,Nat.testBit_two_pow]
  by_cases hi:63=i
  ·subst hi
   cases x.testBit 63 with
   | true=>rw[Bool.toNat_true,Nat.one_mul,Nat.testBit_two_pow];simp
   | false=>simp
  ·rw[decide_eq_false hi,Bool.and_false]
   cases x.testBit 63 with
   | true=>rw[Bool.toNat_true,Nat.one_mul,Nat.testBit_two_pow,decide_eq_false hi]
   | false=>simp
 have h3:x.testBit 63=decide (9223372036854775808≤x):=by
  rw[Nat.testBit_eq_decide_div_mod_eq]
  apply decide_eq_decide.2
  omega
 rw[e,h2,h3]
 by_cases hc:9223372036854775808≤x
 ·rw[decide_eq_true hc];rfl
 ·rw[decide_eq_false hc];rfl
theorem moved_any (x:Nat) (hx:x<18446744073709551616) (w:World):
  Calls Tryz.prog 173 #[.int .u64 x] w fun e w'=>e=.returned (.bool (decide (9223372036854775808≤x)))∧w'=w:=by
 go_enter Tryz.func173,Tryz.ntmps173
 go_wp2
 go_ret
 exact ⟨ret_bool (top_bit x hx),rfl⟩
def objRes (ws:List Nat) (hs:List Bool) (used:Nat) (at':Int):Nat × Nat × Nat × Nat:=
 if 1≤at'∧at'<used∧hs.getD at'.toNat false=true then
  (if 9223372036854775808≤ws.getD at'.toNat 0 then (0,0,0,26) else (ws.getD at'.toNat 0%256,ws.getD at'.toNat 0 / 256%16777216,ws.getD at'.toNat 0 / 4294967296%16777216,0))
 else (0,0,0,23)
def Heads (ws:List Nat) (hs:List Bool) (used:Nat):Prop:=∀ k,k<used→hs.getD k false=true→ws.getD k 0<9223372036854775808→IsHead (ws.getD k 0)∧k+1+ws.getD k 0 / 256%16777216+ws.getD k 0 / 4294967296%16777216≤used
theorem object_any {p bw bh:Nat}{ws:List Nat}{hs:List Bool}{used:Nat} (at':Int) (w:World) (h:Ar w p bw bh ws hs used) (hh:Heads ws hs used):
  Calls Tryz.prog 157 #[.pointer (some ⟨p,0,none⟩),.int .i64 at'] w fun e w'=>e=.returned (.tuple #[.int .i64 ((objRes ws hs used at').1:Nat),.int .i64 ((objRes ws hs used at').2.1:Nat),.int .i64 ((objRes ws hs used at').2.2.1:Nat),.int .i64 ((objRes ws hs used at').2.2.2:Nat)])∧Below w.heap.size w w':=by
 unfold objRes
 by_cases hb:1≤at'∧at'<used∧hs.getD at'.toNat false=true
 ·rw[if_pos hb]
  obtain ⟨k,rfl⟩:=Int.eq_ofNat_of_zero_le (show (0:Int)≤at' by omega)
  have HB:=hide (begins_yes k w h hb)
  rw[Int.toNat_natCast] at hb ⊢
  have hlt:k<ws.length:=by have:=h.u2;omega
  have hk:=h.ww k hlt
  have c0:=h.c0
  have hx:=h.small k hlt
  have hz:=h.sz
  have hhk:=hh k (by omega) hb.2.2
  obtain ⟨x,hxe⟩:∃ x,x=ws.getD k 0:=⟨_,rfl⟩
  rw[← hxe] at hk hx hhk ⊢
  have HM:=hide (moved_any x hx w)
  by_cases hm:9223372036854775808≤x
  ·rw[if_pos hm]
   rw[decide_eq_true hm] at HM
   clear h hh hb hhk hxe
   go_enter Tryz.func157,Tryz.ntmps157
   go_wp2_with fail
   refine (unhide HB).mono ?_
   rintro e w' ⟨rfl,hw'⟩
   obtain rfl:=hw'.symm
   go_wp2_with fail
   refine (unhide HM).mono ?_
   rintro e w' ⟨rfl,hw'⟩
   obtain rfl:=hw'.symm
   go_wp2
   exact bodyPost_ret (v:=.tuple #[.int .i64 0,.int .i64 0,.int .i64 0,.int .i64 26]) (by simp [results,Tryz.results157,go_sem]) rfl ⟨rfl,Below.refl _ _⟩
  ·rw[if_neg hm]
   rw[decide_eq_false hm] at HM
   have HS:=hide (split_any x w hx)
   have hhead:=hide (hhk (by omega)).1
   clear h hh hb hhk hxe
   go_enter Tryz.func157,Tryz.ntmps157
   go_wp2_with fail
   refine (unhide HB).mono ?_
   rintro e w' ⟨rfl,hw'⟩
   obtain rfl:=hw'.symm
   go_wp2_with fail
   refine (unhide HM).mono ?_
   rintro e w' ⟨rfl,hw'⟩
   obtain rfl:=hw'.symm
   go_wp2_with fail
   refine (unhide HS).mono ?_
   rintro e w1 ⟨hb1,⟨_,rfl⟩|⟨hno,rfl⟩⟩
   ·go_wp2
    exact bodyPost_ret (v:=.tuple #[.int .i64 (x%256:Nat),.int .i64 (x / 256%16777216:Nat),.int .i64 (x / 4294967296%16777216:Nat),.int .i64 0]) (by simp [results,Tryz.results157,go_sem]) rfl ⟨rfl,hb1⟩
   ·exact absurd (unhide hhead) hno
 ·rw[if_neg hb]
  have HB:=hide (begins_no at' w h hb)
  clear h hh hb
  go_enter Tryz.func157,Tryz.ntmps157
  go_wp2_with fail
  refine (unhide HB).mono ?_
  rintro e w' ⟨rfl,hw'⟩
  obtain rfl:=hw'.symm
  go_wp2
  exact bodyPost_ret (v:=.tuple #[.int .i64 0,.int .i64 0,.int .i64 0,.int .i64 23]) (by simp [results,Tryz.results157,go_sem]) rfl ⟨rfl,Below.refl _ _⟩
theorem span_any {p bw bh:Nat}{ws:List Nat}{hs:List Bool}{used:Nat} (k n:Nat) (w:World) (h:Ar w p bw bh ws hs used) (hn:k+n≤ws.length):
  Calls Tryz.prog 169 #[.pointer (some ⟨p,0,none⟩),.int .i64 k,.int .i64 n] w fun e w'=>(∃ off,e=.returned (.slice (some ⟨bw,off,none⟩) n n)∧(0<n→off=k))∧w'=w:=by
 have c0:=h.c0
 have hz:=h.sz
 clear h
 by_cases h0:n=0
 ·subst h0
  go_enter Tryz.func169,Tryz.ntmps169
  go_wp2
  go_ret
  exact ⟨⟨_,rfl,fun h=>absurd h (by omega)⟩,rfl⟩
 ·have hsub:k+n-k=n:=by omega
  go_enter Tryz.func169,Tryz.ntmps169
  go_wp2
  go_ret
  refine ⟨⟨k,?_,fun _=>rfl⟩,rfl⟩
  show Ending.returned (.slice (some ⟨bw,k,none⟩) (k+n-k) (k+n-k))=_
  rw[hsub]
theorem fields_yes {p bw bh:Nat}{ws:List Nat}{hs:List Bool}{used:Nat} (k:Nat) (w:World) (h:Ar w p bw bh ws hs used) (hh:Heads ws hs used) (he:(objRes ws hs used k).2.2.2=0):
  Calls Tryz.prog 168 #[.pointer (some ⟨p,0,none⟩),.int .i64 k] w fun e w'=>(∃ off,e=.returned (.tuple #[.slice (some ⟨bw,off,none⟩) ((objRes ws hs used k).2.1+(objRes ws hs used k).2.2.1) ((objRes ws hs used k).2.1+(objRes ws hs used k).2.2.1),.int .i64 ((objRes ws hs used k).2.1:Nat),.int .i64 0])∧
   (0<(objRes ws hs used k).2.1+(objRes ws hs used k).2.2.1→off=k+1))∧Below w.heap.size w w'∧k+1+(objRes ws hs used k).2.1+(objRes ws hs used k).2.2.1≤used:=by
 have HO:=object_any (k:Int) w h hh
 have hfit:k+1+(objRes ws hs used k).2.1+(objRes ws hs used k).2.2.1≤used:=by
  unfold objRes at he ⊢
  by_cases hb:1≤(k:Int)∧(k:Int)<used∧hs.getD (k:Int).toNat false=true
  ·rw[if_pos hb] at he ⊢
   by_cases hm:9223372036854775808≤ws.getD (k:Int).toNat 0
   ·rw[if_pos hm] at he;exact absurd he (by decide)
   ·rw[if_neg hm] at he ⊢
    rw[Int.toNat_natCast] at *
    exact (hh k (by omega) hb.2.2 (by omega)).2
  ·rw[if_neg hb] at he;exact absurd he (by decide)
 obtain ⟨kd,hkd⟩:∃ x,x=(objRes ws hs used k).1:=⟨_,rfl⟩
 obtain ⟨r,hr⟩:∃ x,x=(objRes ws hs used k).2.1:=⟨_,rfl⟩
 obtain ⟨s,hsr⟩:∃ x,x=(objRes ws hs used k).2.2.1:=⟨_,rfl⟩
 rw[he,← hkd,← hr,← hsr] at HO
 rw[← hr,← hsr] at hfit ⊢
 have hu:=h.u2
 have hz:=h.sz
 have HSP:Hid (∀ w',Below w.heap.size w w'→Calls Tryz.prog 169 #[.pointer (some ⟨p,0,none⟩),.int .i64 ((k:Int)+1),.int .i64 ((r:Int)+s)] w' fun e w''=>(∃ off,e=.returned (.slice (some ⟨bw,off,none⟩) (r+s) (r+s))∧(0<r+s→off=k+1))∧w''=w'):=hide (fun w' hb=>by
  have h1:=span_any (k+1) (r+s) w' (h.below hb) (by omega)
  have e1:((k+1:Nat):Int)=(k:Int)+1:=by omega
  have e2:((r+s:Nat):Int)=(r:Int)+s:=by omega
  rw[e1,e2] at h1
  exact h1)
 have HOO:=hide HO
 clear HO h hh he hkd hr hsr
 go_enter Tryz.func168,Tryz.ntmps168
 go_wp2_with fail
 refine (unhide HOO).mono ?_
 rintro e w1 ⟨rfl,hb1⟩
 go_wp2_with fail
 refine (unhide HSP w1 hb1).mono ?_
 rintro e w' ⟨⟨off,rfl,hoff⟩,hw'⟩
 obtain rfl:=hw'.symm
 have HF:=hide hoff
 clear hoff
 go_wp2
 go_ret3
 exact ⟨⟨off,rfl,unhide HF⟩,hb1,hfit⟩
theorem fields_no {p bw bh:Nat}{ws:List Nat}{hs:List Bool}{used:Nat} (at':Int) (w:World) (h:Ar w p bw bh ws hs used) (hh:Heads ws hs used) (f:Nat) (hf:f=(objRes ws hs used at').2.2.2) (he:¬ f=0):
  Calls Tryz.prog 168 #[.pointer (some ⟨p,0,none⟩),.int .i64 at'] w fun e w'=>e=.returned (.tuple #[.slice none 0 0,.int .i64 0,.int .i64 f])∧Below w.heap.size w w':=by
 have HO:=object_any at' w h hh
 rw[← hf] at HO
 have e1:((f:Int) == 0)=false:=by rw[beq_eq_false_iff_ne];omega
 generalize (objRes ws hs used at').1=x1 at HO
 generalize (objRes ws hs used at').2.1=x2 at HO
 generalize (objRes ws hs used at').2.2.1=x3 at HO
 have HOO:=hide HO
 clear HO h hh he hf
 go_enter Tryz.func168,Tryz.ntmps168
 go_wp2_with fail
 refine (unhide HOO).mono ?_
 rintro e w1 ⟨rfl,hb1⟩
 go_wp2
 go_ret3
 exact ⟨rfl,hb1⟩
def fieldErr (ws:List Nat) (hs:List Bool) (used:Nat) (at' i:Int):Nat:=
 if (objRes ws hs used at').2.2.2≠0 then (objRes ws hs used at').2.2.2
 else if 0≤i∧i<((objRes ws hs used at').2.1+(objRes ws hs used at').2.2.1:Nat) then 0 else 24
theorem obj_nat {ws:List Nat}{hs:List Bool}{used:Nat}{at':Int} (h:(objRes ws hs used at').2.2.2=0):∃ k:Nat,at'=k∧1≤k:=by
 unfold objRes at h
 by_cases hb:1≤at'∧at'<used∧hs.getD at'.toNat false=true
 ·exact ⟨at'.toNat,by omega,by omega⟩
 ·rw[if_neg hb] at h;exact absurd h (by decide)
theorem field_yes {p bw bh:Nat}{ws:List Nat}{hs:List Bool}{used:Nat} (k j:Nat) (w:World) (h:Ar w p bw bh ws hs used) (hh:Heads ws hs used) (he:(objRes ws hs used k).2.2.2=0) (hj:j<(objRes ws hs used k).2.1+(objRes ws hs used k).2.2.1):
  Calls Tryz.prog 199 #[.pointer (some ⟨p,0,none⟩),.int .i64 k,.int .i64 j] w fun e w'=>e=.returned (.tuple #[.pointer (some ⟨bw,k+1+j,none⟩),.int .i64 0])∧Below w.heap.size w w'∧k+1+j<used:=by
 have HF:=hide (fields_yes k w h hh he)
 have hu:=h.u2
 have hz:=h.sz
 generalize (objRes ws hs used k).2.1=r at *
 generalize (objRes ws hs used k).2.2.1=s at *
 clear h hh he
 have e1:decide ((j:Int)<0)=false:=decide_eq_false (by omega)
 go_enter Tryz.func199,Tryz.ntmps199
 go_wp2_with fail
 refine (unhide HF).mono ?_
 rintro e w1 ⟨⟨off,rfl,hoff⟩,hb1,hfit⟩
 have ho:off=k+1:=hoff (by omega)
 subst ho
 have e2:decide (((r+s:Nat):Int)≤(j:Int))=false:=decide_eq_false (by omega)
 clear hoff
 go_wp2
 go_ret2
 exact ⟨rfl,hb1,by omega⟩
theorem field_no {p bw bh:Nat}{ws:List Nat}{hs:List Bool}{used:Nat} (at' i:Int) (w:World) (h:Ar w p bw bh ws hs used) (hh:Heads ws hs used) (f:Nat) (hf:f=fieldErr ws hs used at' i) (hne:f≠0):
  Calls Tryz.prog 199 #[.pointer (some ⟨p,0,none⟩),.int .i64 at',.int .i64 i] w fun e w'=>e=.returned (.tuple #[.pointer none,.int .i64 f])∧Below w.heap.size w w':=by
 unfold fieldErr at hf
 have e1:((f:Int) == 0)=false:=by rw[beq_eq_false_iff_ne];omega
 by_cases h0:(objRes ws hs used at').2.2.2≠0
 ·rw[if_pos h0] at hf
  have HF:=hide (fields_no at' w h hh f hf hne)
  clear h hh hf h0 hne
  go_enter Tryz.func199,Tryz.ntmps199
  go_wp2_with fail
  refine (unhide HF).mono ?_
  rintro e w1 ⟨rfl,hb1⟩
  go_wp2
  go_ret2
  exact ⟨rfl,hb1⟩
 ·rw[if_neg h0] at hf
  have he:(objRes ws hs used at').2.2.2=0:=by omega
  obtain ⟨k,rfl,hk1⟩:=obj_nat he
  have HF:=hide (fields_yes k w h hh he)
  have hu:=h.u2
  have hz:=h.sz
  generalize (objRes ws hs used k).2.1=r at *
  generalize (objRes ws hs used k).2.2.1=s at *
  by_cases hi:0≤i∧i<((r+s:Nat):Int)
  ·rw[if_pos hi] at hf;exact absurd hf hne
  ·rw[if_neg hi] at hf
   subst hf
   clear h hh he h0 hne e1
   by_cases hn:i<0
   ·have e2:decide (i<0)=true:=decide_eq_true hn
    go_enter Tryz.func199,Tryz.ntmps199
    go_wp2_with fail
    refine (unhide HF).mono ?_
    rintro e w1 ⟨⟨off,rfl,hoff⟩,hb1,hfit⟩
    clear hoff
    go_wp2
    go_ret2
    exact ⟨rfl,hb1⟩
   ·have e2:decide (i<0)=false:=decide_eq_false hn
    have e3:decide (((r+s:Nat):Int)≤i)=true:=decide_eq_true (by omega)
    go_enter Tryz.func199,Tryz.ntmps199
    go_wp2_with fail
    refine (unhide HF).mono ?_
    rintro e w1 ⟨⟨off,rfl,hoff⟩,hb1,hfit⟩
    clear hoff
    go_wp2
    go_ret2
    exact ⟨rfl,hb1⟩
theorem get_yes {p bw bh:Nat}{ws:List Nat}{hs:List Bool}{used:Nat} (k j:Nat) (w:World) (h:Ar w p bw bh ws hs used) (hh:Heads ws hs used) (he:(objRes ws hs used k).2.2.2=0) (hj:j<(objRes ws hs used k).2.1+(objRes ws hs used k).2.2.1):
  Calls Tryz.prog 194 #[.pointer (some ⟨p,0,none⟩),.int .i64 k,.int .i64 j] w fun e w'=>e=.returned (.tuple #[.int .u64 (ws.getD (k+1+j) 0:Nat),.int .i64 0])∧Below w.heap.size w w':=by
 have HF:=hide (field_yes k j w h hh he hj)
 have HC:Hid (∀ w',Below w.heap.size w w'→k+1+j<used→w'.cell? ⟨bw,k+1+j,none⟩=some (.int .u64 (ws.getD (k+1+j) 0:Nat))):=hide (fun w' hb hl=>(h.below hb).ww _ (by have:=h.u2;omega))
 generalize ws.getD (k+1+j) 0=x at *
 clear h hh he hj
 go_enter Tryz.func194,Tryz.ntmps194
 go_wp2_with fail
 refine (unhide HF).mono ?_
 rintro e w1 ⟨rfl,hb1,hl⟩
 have hc:=unhide HC w1 hb1 hl
 go_wp2
 go_ret2
 exact ⟨rfl,hb1⟩
theorem get_no {p bw bh:Nat}{ws:List Nat}{hs:List Bool}{used:Nat} (at' i:Int) (w:World) (h:Ar w p bw bh ws hs used) (hh:Heads ws hs used) (f:Nat) (hf:f=fieldErr ws hs used at' i) (hne:f≠0):
  Calls Tryz.prog 194 #[.pointer (some ⟨p,0,none⟩),.int .i64 at',.int .i64 i] w fun e w'=>e=.returned (.tuple #[.int .u64 0,.int .i64 f])∧Below w.heap.size w w':=by
 have HF:=hide (field_no at' i w h hh f hf hne)
 have e1:((f:Int) == 0)=false:=by rw[beq_eq_false_iff_ne];omega
 clear h hh hf hne
 go_enter Tryz.func194,Tryz.ntmps194
 go_wp2_with fail
 refine (unhide HF).mono ?_
 rintro e w1 ⟨rfl,hb1⟩
 go_wp2
 go_ret2
 exact ⟨rfl,hb1⟩
theorem getD_set (l:List Nat) (q v j:Nat) (hq:q<l.length):(l.set q v).getD j 0=if j=q then v else l.getD j 0:=by
 rw[List.getD_eq_getElem?_getD,List.getElem?_set,List.getD_eq_getElem?_getD]
 by_cases h:q=j
 ·subst h;simp [hq]
 ·rw[if_neg h,if_neg (fun e=>h e.symm)]
theorem Ar.put {w:World}{p bw bh:Nat}{ws:List Nat}{hs:List Bool}{used:Nat} (h:Ar w p bw bh ws hs used) (q v:Nat) (hq:q<ws.length) (hv:v<18446744073709551616):Ar (w.setCell ⟨bw,q,none⟩ (.int .u64 (v:Int))) p bw bh (ws.set q v) hs used:=by
 have hb:But [bw] w (w.setCell ⟨bw,q,none⟩ (.int .u64 (v:Int))):=(But.refl _ _).set ⟨bw,q,none⟩ (by simp) _
 have n1:p ∉ [bw]:=by simp;exact h.ne1
 have n3:bh ∉ [bw]:=by simp;exact Ne.symm h.ne3
 refine { c0:=?_,c1:=?_,c2:=?_,f2:=?_,ww:=?_,wf:=?_,hh:=?_,hf:=?_,hl:=?_,ne1:=h.ne1,ne2:=h.ne2,ne3:=h.ne3,lp:=?_,lw:=?_,lh:=?_,u1:=h.u1,u2:=?_,sz:=?_,small:=?_ }
 ·rw[hb.cell (q:=⟨p,0,none⟩) h.lp n1,List.length_set];exact h.c0
 ·rw[hb.cell (q:=⟨p,1,none⟩) h.lp n1,List.length_set];exact h.c1
 ·rw[hb.cell (q:=⟨p,2,none⟩) h.lp n1];exact h.c2
 ·rw[hb.frozen (q:=⟨p,2,none⟩) h.lp n1];exact h.f2
 ·intro j hj
  rw[List.length_set] at hj
  rw[getD_set ws q v j hq]
  by_cases e:j=q
  ·subst e;rw[if_pos rfl];exact World.cell?_setCell_same' w _ _ (by rw[h.ww j hj];rfl)
  ·rw[if_neg e,World.cell?_setCell_other _ _ _ _ (fun e'=>e (by injection e' with e1 e2;exact e2.symm))];exact h.ww j hj
 ·intro j hj
  rw[List.length_set] at hj
  rw[World.frozen?_setCell];exact h.wf j hj
 ·intro j hj
  rw[List.length_set] at hj
  rw[hb.cell (q:=⟨bh,j,none⟩) h.lh n3];exact h.hh j hj
 ·intro j hj
  rw[List.length_set] at hj
  rw[hb.frozen (q:=⟨bh,j,none⟩) h.lh n3];exact h.hf j hj
 ·rw[List.length_set];exact h.hl
 ·exact Nat.lt_of_lt_of_le h.lp hb.size
 ·exact Nat.lt_of_lt_of_le h.lw hb.size
 ·exact Nat.lt_of_lt_of_le h.lh hb.size
 ·rw[List.length_set];exact h.u2
 ·rw[List.length_set];exact h.sz
 ·intro j hj
  rw[List.length_set] at hj
  rw[getD_set ws q v j hq]
  split
  ·exact hv
  ·exact h.small j hj
theorem set_yes {p bw bh:Nat}{ws:List Nat}{hs:List Bool}{used:Nat} (k j v:Nat) (w:World) (hv:v<18446744073709551616) (h:Ar w p bw bh ws hs used) (hh:Heads ws hs used) (he:(objRes ws hs used k).2.2.2=0) (hj:j<(objRes ws hs used k).2.1+(objRes ws hs used k).2.2.1):
  Calls Tryz.prog 195 #[.pointer (some ⟨p,0,none⟩),.int .i64 k,.int .i64 j,.int .u64 v] w fun e w'=>e=.returned (.int .i64 0)∧Ar w' p bw bh (ws.set (k+1+j) v) hs used∧But [bw] w w':=by
 have HF:=hide (field_yes k j w h hh he hj)
 have HP:Hid (∀ w',Below w.heap.size w w'→k+1+j<used→Ar w' p bw bh ws hs used):=hide (fun w' hb hl=>h.below hb)
 have hu:=h.u2
 have HH:=hide h
 clear h hh he hj
 go_enter Tryz.func195,Tryz.ntmps195
 go_wp2_with fail
 refine (unhide HF).mono ?_
 rintro e w1 ⟨rfl,hb1,hl⟩
 have ha:=unhide HP w1 hb1 hl
 have hc:=ha.ww (k+1+j) (by omega)
 have hf:=ha.wf (k+1+j) (by omega)
 have HA:=hide ha
 clear ha
 go_wp2
 go_ret
 exact ⟨rfl,(unhide HA).put _ v (by omega) hv,(But.of_below hb1).set _ (by simp) _⟩
theorem set_no {p bw bh:Nat}{ws:List Nat}{hs:List Bool}{used:Nat} (at' i:Int) (v:Nat) (w:World) (h:Ar w p bw bh ws hs used) (hh:Heads ws hs used) (f:Nat) (hf:f=fieldErr ws hs used at' i) (hne:f≠0):
  Calls Tryz.prog 195 #[.pointer (some ⟨p,0,none⟩),.int .i64 at',.int .i64 i,.int .u64 v] w fun e w'=>e=.returned (.int .i64 f)∧Below w.heap.size w w':=by
 have HF:=hide (field_no at' i w h hh f hf hne)
 have e1:((f:Int) == 0)=false:=by rw[beq_eq_false_iff_ne];omega
 clear h hh hf hne
 go_enter Tryz.func195,Tryz.ntmps195
 go_wp2_with fail
 refine (unhide HF).mono ?_
 rintro e w1 ⟨rfl,hb1⟩
 go_wp2
 go_ret
 exact ⟨rfl,hb1⟩
theorem used_any {p bw bh:Nat}{ws:List Nat}{hs:List Bool}{used:Nat} (w:World) (h:Ar w p bw bh ws hs used):
  Calls Tryz.prog 64 #[.pointer (some ⟨p,0,none⟩)] w fun e w'=>e=.returned (.int .i64 used)∧w'=w:=by
 have c2:=h.c2
 clear h
 go_enter Tryz.func64,Tryz.ntmps64
 go_wp2
 go_ret
 exact ⟨rfl,rfl⟩
theorem size_any {p bw bh:Nat}{ws:List Nat}{hs:List Bool}{used:Nat} (w:World) (h:Ar w p bw bh ws hs used):
  Calls Tryz.prog 63 #[.pointer (some ⟨p,0,none⟩)] w fun e w'=>e=.returned (.int .i64 ws.length)∧w'=w:=by
 have c0:=h.c0
 clear h
 go_enter Tryz.func63,Tryz.ntmps63
 go_wp2
 go_ret
 exact ⟨rfl,rfl⟩
theorem Tryz.info33:(Tryz.prog.info? 33).map (fun i=>(i.zero,i.size,i.bytes))=some (some (.int .u64 0),1,8):=by kernel_rfl
theorem Tryz.info4:(Tryz.prog.info? 4).map (fun i=>(i.zero,i.size,i.bytes))=some (some (.bool false),1,1):=by kernel_rfl
theorem made_at (z:Value) (n j:Nat) (h:j<n):(madeCells #[z] n)[j]?=some z:=by
 unfold madeCells
 rw[Array.getElem?_map,Array.getElem?_range,if_pos h]
 simp [Nat.mod_one]
theorem rep_at {α:Type} (n j:Nat) (a d:α) (h:j<n):(List.replicate n a).getD j d=a:=by
 rw[List.getD_eq_getElem?_getD,List.getElem?_replicate,if_pos h];rfl
theorem Ar.fresh {w:World}{p bw bh n:Nat} (h1:1≤n) (h2:n≤1048576) (n1:p≠bw) (n2:p≠bh) (n3:bw≠bh)
  (hp:w.heap[p]?=some (.cells #[.slice (some ⟨bw,0,none⟩) n n,.slice (some ⟨bh,0,none⟩) n n,.int .i64 1] 159 (0,0)))
  (hw:w.heap[bw]?=some (.cells (madeCells #[.int .u64 0] n) 33 (0,0))) (hh:w.heap[bh]?=some (.cells (madeCells #[.bool false] n) 4 (0,0))):
  Ar w p bw bh (List.replicate n 0) (List.replicate n false) 1:=by
 have L:(List.replicate n 0).length=n:=by simp
 refine { c0:=?_,c1:=?_,c2:=?_,f2:=?_,ww:=?_,wf:=?_,hh:=?_,hf:=?_,hl:=?_,ne1:=n1,ne2:=n2,ne3:=n3,lp:=(Array.getElem?_eq_some_iff.1 hp).1,lw:=(Array.getElem?_eq_some_iff.1 hw).1,lh:=(Array.getElem?_eq_some_iff.1 hh).1,u1:=Nat.le_refl _,u2:=by rw[L];exact h1,sz:=by rw[L];exact h2,small:=?_ }
 ·rw[L];simp [World.cell?,hp]
 ·rw[L];simp [World.cell?,hp]
 ·simp [World.cell?,hp]
 ·simp [World.frozen?,hp]
 ·intro j hj;rw[L] at hj;rw[rep_at n j 0 0 hj];simp [World.cell?,hw,made_at _ n j hj]
 ·intro j hj;simp [World.frozen?,hw]
 ·intro j hj;rw[L] at hj;rw[rep_at n j false false hj];simp [World.cell?,hh,made_at _ n j hj]
 ·intro j hj;simp [World.frozen?,hh]
 ·simp
 ·intro j hj;rw[L] at hj;rw[rep_at n j 0 0 hj];decide
theorem three_allocs (w:World) (a b c:Obj):(((w.alloc a).alloc b).alloc c).heap[w.heap.size]?=some a∧(((w.alloc a).alloc b).alloc c).heap[w.heap.size+1]?=some b∧(((w.alloc a).alloc b).alloc c).heap[w.heap.size+1+1]?=some c:=by
 have s1:(w.alloc a).heap.size=w.heap.size+1:=by simp
 have s2:((w.alloc a).alloc b).heap.size=w.heap.size+1+1:=by simp
 have b1:Below (w.alloc a).heap.size (w.alloc a) (((w.alloc a).alloc b).alloc c):=((Below.refl _ _).alloc (Nat.le_refl _) _).alloc (by simp) _
 have b2:Below ((w.alloc a).alloc b).heap.size ((w.alloc a).alloc b) (((w.alloc a).alloc b).alloc c):=(Below.refl _ _).alloc (Nat.le_refl _) _
 refine ⟨(b1.block w.heap.size (by omega)).trans (heap_alloc_new _ _),?_,?_⟩
 ·have h:=heap_alloc_new (w.alloc a) b
  rw[s1] at h
  exact (b2.block (w.heap.size+1) (by omega)).trans h
 ·have h:=heap_alloc_new ((w.alloc a).alloc b) c
  rw[s2] at h
  exact h
theorem new_yes (n:Nat) (h1:1≤n) (h2:n≤1048576) (w:World):
  Calls Tryz.prog 78 #[.int .i64 n] w fun e w'=>∃ p bw bh,e=.returned (.tuple #[.pointer (some ⟨p,0,none⟩),.int .i64 0])∧Ar w' p bw bh (List.replicate n 0) (List.replicate n false) 1∧w.heap.size≤p∧w.heap.size≤bw∧w.heap.size≤bh∧Below w.heap.size w w':=by
 have m1:=fun w'=>run_make_row' (P:=Tryz.prog) 61 33 (.int .u64 0) 8 Tryz.underlying61 Tryz.info33 rfl .i64 .i64 n (by omega) (by omega) w'
 have m2:=fun w'=>run_make_row' (P:=Tryz.prog) 157 4 (.bool false) 1 Tryz.underlying157 Tryz.info4 rfl .i64 .i64 n (by omega) (by omega) w'
 have e1:decide ((n:Int)<1)=false:=decide_eq_false (by omega)
 have e2:decide (1048576<(n:Int))=false:=decide_eq_false (by omega)
 go_enter Tryz.func78,Tryz.ntmps78
 go_wp2
 go_region
 all_goals go_wp2
 ·go_ret2
  obtain ⟨q1,q2,q3⟩:=three_allocs w (.cells (madeCells #[.int .u64 0] n) 33) (.cells (madeCells #[.bool false] n) 4) (.cells #[.slice (some ⟨w.heap.size,0,none⟩) n n,.slice (some ⟨w.heap.size+1,0,none⟩) n n,.int .i64 1] 159)
  exact ⟨w.heap.size+1+1,w.heap.size,w.heap.size+1,rfl,Ar.fresh h1 h2 (by omega) (by omega) (by omega) q3 q1 q2,by omega,by omega,by omega,((((Below.refl _ _).alloc (Nat.le_refl _) _).alloc (by simp) _).alloc (by simp;omega) _).drew⟩
 ·go_ret2
  obtain ⟨q1,q2,q3⟩:=three_allocs w (.cells (madeCells #[.bool false] n) 4) (.cells (madeCells #[.int .u64 0] n) 33) (.cells #[.slice (some ⟨w.heap.size+1,0,none⟩) n n,.slice (some ⟨w.heap.size,0,none⟩) n n,.int .i64 1] 159)
  exact ⟨w.heap.size+1+1,w.heap.size+1,w.heap.size,rfl,Ar.fresh h1 h2 (by omega) (by omega) (by omega) q3 q2 q1,by omega,by omega,by omega,((((Below.refl _ _).alloc (Nat.le_refl _) _).alloc (by simp) _).alloc (by simp;omega) _).drew⟩
def mark (hs:List Bool) (u n:Nat):List Bool:=(List.range hs.length).map fun j=>if j=u then true else if u≤j∧j<u+n then false else hs.getD j false
def laid (ws:List Nat) (u n x:Nat):List Nat:=(List.range ws.length).map fun j=>if j=u then x else if u≤j∧j<u+n then 0 else ws.getD j 0
theorem mark_length (hs:List Bool) (u n:Nat):(mark hs u n).length=hs.length:=by simp [mark]
theorem laid_length (ws:List Nat) (u n x:Nat):(laid ws u n x).length=ws.length:=by simp [laid]
theorem mark_at (hs:List Bool) (u n j:Nat) (hj:j<hs.length):(mark hs u n).getD j false=if j=u then true else if u≤j∧j<u+n then false else hs.getD j false:=by
 unfold mark
 rw[List.getD_eq_getElem?_getD,List.getElem?_map,List.getElem?_range hj];rfl
theorem laid_at (ws:List Nat) (u n x j:Nat) (hj:j<ws.length):(laid ws u n x).getD j 0=if j=u then x else if u≤j∧j<u+n then 0 else ws.getD j 0:=by
 unfold laid
 rw[List.getD_eq_getElem?_getD,List.getElem?_map,List.getElem?_range hj];rfl
theorem Ar.drawn {w:World}{p bw bh:Nat}{ws:List Nat}{hs:List Bool}{used:Nat} (h:Ar w p bw bh ws hs used) (n:Nat):Ar (w.drewN n) p bw bh ws hs used:=
 { c0:=h.c0,c1:=h.c1,c2:=h.c2,f2:=h.f2,ww:=h.ww,wf:=h.wf,hh:=h.hh,hf:=h.hf,hl:=h.hl,ne1:=h.ne1,ne2:=h.ne2,ne3:=h.ne3,lp:=h.lp,lw:=h.lw,lh:=h.lh,u1:=h.u1,u2:=h.u2,sz:=h.sz,small:=h.small }
theorem Ar.grown {w:World}{p bw bh:Nat}{ws:List Nat}{hs:List Bool}{used:Nat} (h:Ar w p bw bh ws hs used) (u:Nat) (h1:1≤u) (h2:u≤ws.length):Ar (w.setCell ⟨p,2,none⟩ (.int .i64 (u:Int))) p bw bh ws hs u:=by
 have hb:But [p] w (w.setCell ⟨p,2,none⟩ (.int .i64 (u:Int))):=(But.refl _ _).set ⟨p,2,none⟩ (by simp) _
 have n1:bw ∉ [p]:=by simp;exact Ne.symm h.ne1
 have n2:bh ∉ [p]:=by simp;exact Ne.symm h.ne2
 exact {
  c0:=(World.cell?_setCell_other _ _ _ _ (by simp)).trans h.c0
  c1:=(World.cell?_setCell_other _ _ _ _ (by simp)).trans h.c1
  c2:=World.cell?_setCell_same' w _ _ (by rw[h.c2];rfl)
  f2:=(World.frozen?_setCell ..).trans h.f2
  ww:=fun j hj=>(hb.cell (q:=⟨bw,j,none⟩) h.lw n1).trans (h.ww j hj)
  wf:=fun j hj=>(hb.frozen (q:=⟨bw,j,none⟩) h.lw n1).trans (h.wf j hj)
  hh:=fun j hj=>(hb.cell (q:=⟨bh,j,none⟩) h.lh n2).trans (h.hh j hj)
  hf:=fun j hj=>(hb.frozen (q:=⟨bh,j,none⟩) h.lh n2).trans (h.hf j hj)
  hl:=h.hl,ne1:=h.ne1,ne2:=h.ne2,ne3:=h.ne3
  lp:=Nat.lt_of_lt_of_le h.lp hb.size
  lw:=Nat.lt_of_lt_of_le h.lw hb.size
  lh:=Nat.lt_of_lt_of_le h.lh hb.size
  u1:=h1,u2:=h2,sz:=h.sz,small:=h.small }
theorem But.sets {B:List Nat}{w:World} (b:Nat) (hb:b∈B):∀ (vs:List Value) (o:Nat) (w':World),But B w w'→But B w (w'.setCells b o vs)
 | [],_,_,h=>h
 | v :: vs,o,w',h=>But.sets b hb vs (o+1) _ (h.set ⟨b,o,none⟩ hb v)
theorem sets_in (w:World) (b o n:Nat) (z:Value) (hc:∀ j,j<n→(w.cell? ⟨b,o+j,none⟩).isSome=true) (j:Nat) (h1:o≤j) (h2:j<o+n):(w.setCells b o (List.replicate n z)).cell? ⟨b,j,none⟩=some z:=by
 have h:=World.cell?_setCells_in b (List.replicate n z) o w (by simpa using hc) (j-o) (by simp;omega)
 rw[show o+(j-o)=j by omega] at h
 rw[h];simp
theorem sets_out (w:World) (b o n:Nat) (z:Value) (j:Nat) (h:j<o∨o+n≤j):(w.setCells b o (List.replicate n z)).cell? ⟨b,j,none⟩=w.cell? ⟨b,j,none⟩:=
 World.cell?_setCells_out b _ o w ⟨b,j,none⟩ (fun _ _=>by simpa using h)
theorem Ar.marked {w:World}{p bw bh:Nat}{ws:List Nat}{hs:List Bool}{used:Nat} (h:Ar w p bw bh ws hs used) (u n:Nat) (hn:u+n≤ws.length) (hn1:1≤n):
  Ar ((w.setCells bh u (List.replicate n (.bool false))).setCell ⟨bh,u,none⟩ (.bool true)) p bw bh ws (mark hs u n) used∧But [bh] w ((w.setCells bh u (List.replicate n (.bool false))).setCell ⟨bh,u,none⟩ (.bool true)):=by
 have hb0:=But.sets (B:=[bh]) bh (by simp) (List.replicate n (Value.bool false)) u w (But.refl [bh] w)
 have hb:But [bh] w ((w.setCells bh u (List.replicate n (.bool false))).setCell ⟨bh,u,none⟩ (.bool true)):=hb0.set ⟨bh,u,none⟩ (by simp) _
 have n1:p ∉ [bh]:=by simp;exact h.ne2
 have n2:bw ∉ [bh]:=by simp;exact h.ne3
 have hc:∀ j,j<n→(w.cell? ⟨bh,u+j,none⟩).isSome=true:=fun j hj=>by rw[h.hh _ (by omega)];rfl
 refine ⟨{ c0:=(hb.cell (q:=⟨p,0,none⟩) h.lp n1).trans h.c0,c1:=(hb.cell (q:=⟨p,1,none⟩) h.lp n1).trans h.c1,c2:=(hb.cell (q:=⟨p,2,none⟩) h.lp n1).trans h.c2,f2:=(hb.frozen (q:=⟨p,2,none⟩) h.lp n1).trans h.f2,ww:=fun j hj=>(hb.cell (q:=⟨bw,j,none⟩) h.lw n2).trans (h.ww j hj),wf:=fun j hj=>(hb.frozen (q:=⟨bw,j,none⟩) h.lw n2).trans (h.wf j hj),hh:=?_,hf:=?_,hl:=by rw[mark_length];exact h.hl,ne1:=h.ne1,ne2:=h.ne2,ne3:=h.ne3,lp:=Nat.lt_of_lt_of_le h.lp hb.size,lw:=Nat.lt_of_lt_of_le h.lw hb.size,lh:=Nat.lt_of_lt_of_le h.lh hb.size,u1:=h.u1,u2:=h.u2,sz:=h.sz,small:=h.small },hb⟩
 ·intro j hj
  rw[mark_at hs u n j (by rw[h.hl];exact hj)]
  by_cases e:j=u
  ·subst e
   rw[if_pos rfl]
   exact World.cell?_setCell_same' _ _ _ (by rw[sets_in w bh j n _ hc j (Nat.le_refl _) (by omega)];rfl)
  ·rw[if_neg e,World.cell?_setCell_other _ _ _ _ (fun e'=>e (by injection e' with e1 e2;exact e2.symm))]
   by_cases hr:u≤j∧j<u+n
   ·rw[if_pos hr,sets_in w bh u n _ hc j hr.1 hr.2]
   ·rw[if_neg hr,sets_out w bh u n _ j (by omega)];exact h.hh j hj
 ·intro j hj
  rw[World.frozen?_setCell,World.frozen?_setCells];exact h.hf j hj
theorem Ar.headed {w:World}{p bw bh:Nat}{ws:List Nat}{hs:List Bool}{used:Nat} (h:Ar w p bw bh ws hs used) (u n x:Nat) (hn:u+n≤ws.length) (hn1:1≤n) (hx:x<18446744073709551616):
  Ar ((w.setCells bw u (List.replicate n (.int .u64 0))).setCell ⟨bw,u,none⟩ (.int .u64 (x:Int))) p bw bh (laid ws u n x) hs used∧But [bw] w ((w.setCells bw u (List.replicate n (.int .u64 0))).setCell ⟨bw,u,none⟩ (.int .u64 (x:Int))):=by
 have hb0:=But.sets (B:=[bw]) bw (by simp) (List.replicate n (Value.int .u64 0)) u w (But.refl [bw] w)
 have hb:But [bw] w ((w.setCells bw u (List.replicate n (.int .u64 0))).setCell ⟨bw,u,none⟩ (.int .u64 (x:Int))):=hb0.set ⟨bw,u,none⟩ (by simp) _
 have n1:p ∉ [bw]:=by simp;exact h.ne1
 have n3:bh ∉ [bw]:=by simp;exact Ne.symm h.ne3
 have hc:∀ j,j<n→(w.cell? ⟨bw,u+j,none⟩).isSome=true:=fun j hj=>by rw[h.ww _ (by omega)];rfl
 have L:=laid_length ws u n x
 refine ⟨{ c0:=by rw[L];exact (hb.cell (q:=⟨p,0,none⟩) h.lp n1).trans h.c0,c1:=by rw[L];exact (hb.cell (q:=⟨p,1,none⟩) h.lp n1).trans h.c1,c2:=(hb.cell (q:=⟨p,2,none⟩) h.lp n1).trans h.c2,f2:=(hb.frozen (q:=⟨p,2,none⟩) h.lp n1).trans h.f2,ww:=?_,wf:=?_,hh:=?_,hf:=?_,hl:=by rw[L];exact h.hl,ne1:=h.ne1,ne2:=h.ne2,ne3:=h.ne3,lp:=Nat.lt_of_lt_of_le h.lp hb.size,lw:=Nat.lt_of_lt_of_le h.lw hb.size,lh:=Nat.lt_of_lt_of_le h.lh hb.size,u1:=h.u1,u2:=by rw[L];exact h.u2,sz:=by rw[L];exact h.sz,small:=?_ },hb⟩
 ·intro j hj
  rw[L] at hj
  rw[laid_at ws u n x j hj]
  by_cases e:j=u
  ·subst e
   rw[if_pos rfl]
   exact World.cell?_setCell_same' _ _ _ (by rw[sets_in w bw j n _ hc j (Nat.le_refl _) (by omega)];rfl)
  ·rw[if_neg e,World.cell?_setCell_other _ _ _ _ (fun e'=>e (by injection e' with e1 e2;exact e2.symm))]
   by_cases hr:u≤j∧j<u+n
   ·rw[if_pos hr,sets_in w bw u n _ hc j hr.1 hr.2];rfl
   ·rw[if_neg hr,sets_out w bw u n _ j (by omega)];exact h.ww j hj
 ·intro j hj
  rw[L] at hj
  rw[World.frozen?_setCell,World.frozen?_setCells];exact h.wf j hj
 ·intro j hj;rw[L] at hj;exact (hb.cell (q:=⟨bh,j,none⟩) h.lh n3).trans (h.hh j hj)
 ·intro j hj;rw[L] at hj;exact (hb.frozen (q:=⟨bh,j,none⟩) h.lh n3).trans (h.hf j hj)
 ·intro j hj
  rw[L] at hj
  rw[laid_at ws u n x j hj]
  split
  ·exact hx
  ·split
   ·decide
   ·exact h.small j hj
theorem grow_full {p bw bh:Nat}{ws:List Nat}{hs:List Bool}{used:Nat} (n:Nat) (w:World) (h:Ar w p bw bh ws hs used) (hn:ws.length<used+n) (hn2:n≤4194304):
  Calls Tryz.prog 152 #[.pointer (some ⟨p,0,none⟩),.int .i64 n] w fun e w'=>e=.returned (.tuple #[.int .i64 0,.slice none 0 0,.int .i64 22])∧Below w.heap.size w w':=by
 have c0:=h.c0
 have c2:=h.c2
 have hu:=h.u2
 have hz:=h.sz
 have e1:decide ((ws.length:Int)-(used:Int)<(n:Int))=true:=decide_eq_true (by omega)
 clear h
 go_enter Tryz.func152,Tryz.ntmps152
 go_wp2
 go_quiet (fail)
 go_wp2
 go_ret3
 exact ⟨rfl,⟨rfl,rfl,rfl,Nat.le_refl _,fun _ _=>rfl⟩⟩
theorem grow_yes {p bw bh:Nat}{ws:List Nat}{hs:List Bool}{used:Nat} (n:Nat) (w:World) (h:Ar w p bw bh ws hs used) (hn:used+n≤ws.length) (hn1:1≤n):
  Calls Tryz.prog 152 #[.pointer (some ⟨p,0,none⟩),.int .i64 n] w fun e w'=>e=.returned (.tuple #[.int .i64 used,.slice (some ⟨bw,used,none⟩) n n,.int .i64 0])∧Ar w' p bw bh ws (mark hs used n) (used+n)∧But [p,bh] w w':=by
 have c0:=h.c0
 have c1:=h.c1
 have c2:=h.c2
 have f2:=h.f2
 have hu:=h.u2
 have hz:=h.sz
 have e1:decide ((ws.length:Int)-(used:Int)<(n:Int))=false:=decide_eq_false (by omega)
 have HH:=hide h
 clear h
 go_enter Tryz.func152,Tryz.ntmps152
 go_wp2
 go_quiet (fail)
 go_wp2
 obtain ⟨w1,hw1⟩:∃ w1,w1=(w.drewN nq).setCell ⟨p,2,none⟩ (.int .i64 ((used:Int)+n)):=⟨_,rfl⟩
 rw[← hw1]
 have ec:((used+n:Nat):Int)=(used:Int)+n:=by omega
 have hA1:Ar w1 p bw bh ws hs (used+n):=by
  have h:=((unhide HH).drawn nq).grown (used+n) (by omega) hn
  rw[ec] at h
  rw[hw1];exact h
 have hB1:But [p] w w1:=by
  rw[hw1]
  have hd:But [p] w (w.drewN nq):=⟨rfl,rfl,rfl,Nat.le_refl _,fun _ _ _=>rfl⟩
  exact hd.set ⟨p,2,none⟩ (by simp) _
 have d1:=hA1.c1
 have d2:=hA1.c2
 rw[ec] at d2
 have hclr:=fun ty=>Lib.run_clear_slice (P:=Tryz.prog) w1.drew 157 4 ty (.bool false) Tryz.underlying157 (fun w=>Tryz.zeroValue4 w) rfl rfl bh used n (ws.length-used) hn1 (fun j hj=>by
  show (w1.cell? ⟨bh,used+j,none⟩).isSome=true
  rw[hA1.hh _ (by omega)];rfl) (fun j hj=>hA1.hf _ (by omega))
 have HA1:=hide hA1
 have HB1:=hide hB1
 have hA1':Ar w1.drew p bw bh ws hs (used+n):=hA1.drawn 1
 have hsub:used+n-used=n:=by omega
 clear hw1 hA1 hB1 c0 c1 c2 f2 HH
 have HM:=hide ((hA1').marked used n (by omega) hn1)
 clear hA1'
 go_region
 obtain ⟨w2,hw2⟩:∃ w2,w2=w1.drew.setCells bh used (List.replicate n (.bool false)):=⟨_,rfl⟩
 rw[← hw2] at HM
 have g0:w2.cell? ⟨p,1,none⟩=some (.slice (some ⟨bh,0,none⟩) ws.length ws.length):=by
  have:=(unhide HM).1.c1
  rwa [World.cell?_setCell_other _ _ _ _ (by intro e;injection e with e1 e2;exact (unhide HA1).ne2 e1.symm)] at this
 have g1:w2.cell? ⟨bh,used,none⟩=some (.bool false):=by
  rw[hw2];exact sets_in w1.drew bh used n _ (fun j hj=>by show (w1.cell? ⟨bh,used+j,none⟩).isSome=true;rw[(unhide HA1).hh _ (by omega)];rfl) used (Nat.le_refl _) (by omega)
 have g2:w2.frozen? ⟨bh,used,none⟩=false:=by rw[hw2,World.frozen?_setCells];exact (unhide HA1).hf used (by omega)
 rw[← hw2]
 clear hw2 hclr d1 d2
 go_wp2_with fail
 have HSP:=hide (span_any used n _ (unhide HM).1 (by omega))
 refine (unhide HSP).mono ?_
 rintro e w' ⟨⟨off,rfl,hoff⟩,hw'⟩
 obtain rfl:=hw'.symm
 have ho:off=used:=hoff (by omega)
 subst ho
 clear hoff
 go_wp2
 go_ret3
 refine ⟨rfl,(unhide HM).1,?_⟩
 have k1:=unhide HB1
 have k2:=(unhide HM).2
 exact ⟨k2.os.trans k1.os,k2.tape.trans k1.tape,k2.output.trans k1.output,Nat.le_trans k1.size k2.size,fun j hj hn=>(k2.block j (Nat.lt_of_lt_of_le hj k1.size) (fun hm=>hn (by simp at hm ⊢;exact .inr hm))).trans (k1.block j hj (fun hm=>hn (by simp at hm ⊢;exact .inl hm)))⟩
theorem alloc_full {p bw bh:Nat}{ws:List Nat}{hs:List Bool}{used:Nat} (k r s:Nat) (w:World) (h:Ar w p bw bh ws hs used) (hf:Fits k r s) (hn:ws.length<used+(1+r+s)):
  Calls Tryz.prog 119 #[.pointer (some ⟨p,0,none⟩),.int .i64 k,.int .i64 r,.int .i64 s] w fun e w'=>e=.returned (.tuple #[.int .i64 0,.int .i64 22])∧Below w.heap.size w w':=by
 have HH:=hide (head_yes k r s w hf)
 obtain ⟨f1,f2,f3,f4,f5,f6⟩:=hf
 have HG:=hide (grow_full (1+r+s) w h hn (by omega))
 have ec:((1+r+s:Nat):Int)=1+(r:Int)+s:=by omega
 rw[ec] at HG
 clear h hn
 go_enter Tryz.func119,Tryz.ntmps119
 go_wp2_with fail
 refine (unhide HH).mono ?_
 rintro e w' ⟨rfl,hw'⟩
 obtain rfl:=hw'.symm
 go_wp2_with fail
 refine (unhide HG).mono ?_
 rintro e w1 ⟨rfl,hb1⟩
 go_wp2
 go_ret2
 exact ⟨rfl,hb1⟩
theorem alloc_yes {p bw bh:Nat}{ws:List Nat}{hs:List Bool}{used:Nat} (k r s:Nat) (w:World) (h:Ar w p bw bh ws hs used) (hf:Fits k r s) (hn:used+(1+r+s)≤ws.length):
  Calls Tryz.prog 119 #[.pointer (some ⟨p,0,none⟩),.int .i64 k,.int .i64 r,.int .i64 s] w fun e w'=>e=.returned (.tuple #[.int .i64 used,.int .i64 0])∧
   Ar w' p bw bh (laid ws used (1+r+s) (k+256*r+4294967296*s)) (mark hs used (1+r+s)) (used+(1+r+s))∧But [p,bw,bh] w w':=by
 have HH:=hide (head_yes k r s w hf)
 obtain ⟨f1,f2,f3,f4,f5,f6⟩:=hf
 have HG:=hide (grow_yes (1+r+s) w h hn (by omega))
 obtain ⟨n,hnn⟩:∃ n,n=1+r+s:=⟨_,rfl⟩
 obtain ⟨x,hx⟩:∃ x,x=k+256*r+4294967296*s:=⟨_,rfl⟩
 have hx64:x<18446744073709551616:=by omega
 have ex:(k:Int)+256*(r:Int)+4294967296*(s:Int)=(x:Int):=by omega
 have ec:1+(r:Int)+(s:Int)=(n:Int):=by omega
 rw[← hnn] at HG hn ⊢
 rw[← hx]
 have hz:=h.sz
 have hn1:1≤n:=by omega
 clear h hnn hx
 go_enter Tryz.func119,Tryz.ntmps119
 go_wp2_with fail
 refine (unhide HH).mono ?_
 rintro e w' ⟨rfl,hw'⟩
 obtain rfl:=hw'.symm
 go_wp2_with fail
 refine (unhide HG).mono ?_
 rintro e w1 ⟨rfl,hA1,hB1⟩
 have hclr:=fun ty=>Lib.run_clear_slice (P:=Tryz.prog) w1 61 33 ty (.int .u64 0) Tryz.underlying61 (fun w=>Tryz.zeroValue33 w) rfl rfl bw used n n hn1 (fun j hj=>by
  rw[hA1.ww _ (by omega)];rfl) (fun j hj=>hA1.wf _ (by omega))
 have HM:=hide (hA1.headed used n x hn hn1 hx64)
 obtain ⟨w2,hw2⟩:∃ w2,w2=w1.setCells bw used (List.replicate n (.int .u64 0)):=⟨_,rfl⟩
 rw[← hw2] at hclr HM
 have g1:w2.cell? ⟨bw,used,none⟩=some (.int .u64 0):=by
  rw[hw2];exact sets_in w1 bw used n _ (fun j hj=>by rw[hA1.ww _ (by omega)];rfl) used (Nat.le_refl _) (by omega)
 have g2:w2.frozen? ⟨bw,used,none⟩=false:=by rw[hw2,World.frozen?_setCells];exact hA1.wf used (by omega)
 have HB1:=hide hB1
 clear hw2 hA1 hB1
 go_wp2
 go_ret2
 refine ⟨rfl,(unhide HM).1,?_⟩
 have k1:=unhide HB1
 have k2:=(unhide HM).2
 exact ⟨k2.os.trans k1.os,k2.tape.trans k1.tape,k2.output.trans k1.output,Nat.le_trans k1.size k2.size,fun j hj hn=>(k2.block j (Nat.lt_of_lt_of_le hj k1.size) (fun hm=>hn (by simp at hm ⊢;exact .inr (.inl hm)))).trans (k1.block j hj (fun hm=>hn (by simp at hm ⊢;rcases hm with h|h;exact .inl h;exact .inr (.inr h))))⟩
end Go.Proofs.YtnfbaapbpgbgpaaGreat
