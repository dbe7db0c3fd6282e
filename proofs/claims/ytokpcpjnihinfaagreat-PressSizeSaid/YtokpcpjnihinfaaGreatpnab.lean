/-
  Words and walks.
-/
import Derived.Deep.QuietTactic
import Derived.BigQuiet
import Derived.Laws.CopyOwn
import Derived.StillTailTactics
import Derived.Laws.Rows
import Derived.BigRegion
import Derived.Lib.AppendZeros
import Derived.LoopN
import Derived.Deep.MidRow
import Derived.Deep.SlicePairs
import Derived.Lib.SmallJoins
import Derived.Deep.RegionLaw
import Derived.Shelf.Abstract
import Derived.Great.BuildSlice
import Derived.Laws.Tables
import Derived.Deep.DeepCutAuto
import Derived.Deep.WholeRow
import Derived.StillTail
import Derived.Deep.Quiet
import Derived.OneCell
import Derived.Test.YtokpcpjnihinfaaGreatpnaa
set_option maxRecDepth 100000
set_option maxHeartbeats 16000000
namespace Go.Proofs.YtokpcpjnihinfaaGreat
open Go.RowKit
theorem need_is(k L:Nat)(w:World)(h:k≤9223372036854775800)(hL:L=(k+7)/8):
  Calls Tryz.prog 53 #[.int .i64 (k:Int)] w fun e w'=>e=.returned (.int .i64 (L:Int))∧w=w':=by
 subst hL;exact need_any k w h
theorem sz5:(Tryz.prog.info? 5).map (·.size)=some 1:=by kernel_rfl
def zext(n:Nat)(f:Nat→Nat)(j:Nat):Nat:=if j<n then f j else 0
theorem splice_zeros(L n:Nat)(f:Nat→Nat)(hn:n≤L):splice (madeCells #[.int .u8 0] L).toList 0 (bytesL n f)=bytesL L (zext n f):=by
 rw[toList_madeCells_one]
 apply List.ext_getElem?
 intro j
 rw[bytesL_get]
 have hl:(bytesL n f).length=n:=by simp[bytesL]
 simp only[splice,List.take_zero,List.nil_append,Nat.zero_add,List.getElem?_append,hl,bytesL_get,List.getElem?_drop,List.getElem?_replicate,zext]
 by_cases h1:j<n
 ·simp[h1];omega
 ·by_cases h2:j<L
  ·simp[h1,h2];omega
  ·simp[h1,h2];omega
theorem copy_src{w w':World}{B n:Nat}{A:Option Addr}{f:Nat→Nat}(h:RdB w B A n f)(hb:Below B w w'):
  0<(bytesL n f).length→∃ad,A=some ad∧∀j v,(bytesL n f)[j]?=some v→w'.cell? (ad.add j)=some v:=by
 intro hp
 have hl:(bytesL n f).length=n:=by simp[bytesL]
 rw[hl]at hp
 obtain⟨b,o,rfl,hlt,hc⟩:=h.2 hp
 refine⟨_,rfl,fun j v hv=>?_⟩
 rw[bytesL_get]at hv
 by_cases hj:j<n
 ·rw[if_pos hj]at hv
  injection hv with hv
  subst hv
  have e:(⟨b,o,none⟩:Addr).add j=⟨b,o+j,none⟩:=by unfold Addr.add;split<;>simp_all
  rw[e,hb.cell (p:=⟨b,o+j,none⟩) hlt];exact hc j hj
 ·rw[if_neg hj]at hv;cases hv
theorem begin_any(w:World)(A:Option Addr)(n c:Nat)(f:Nat→Nat)(k m L:Nat)(hr:RdB w w.heap.size A n f)(hk:k≤8388608)(hm:m≤64)(hn:n≤L)(hL:L=(k+m+7)/8):
  Calls Tryz.prog 79 #[.agg #[.slice A n c,.int .i64 (k:Int)],.int .i64 (m:Int)] w fun e w'=>e=.returned (.agg #[.slice (some ⟨w.heap.size+1+1,0,none⟩) L L,.int .i64 (k:Int)])∧
   Below w.heap.size w w'∧Row w' (w.heap.size+1+1) L (zext n f):=by
 obtain⟨i0,hi,hz0,hz1,hz2⟩:=info_parts info5
 have hL1:L≤2000000:=by omega
 have hmk:∀u:World,(Instr.makeSlice 22 (.int .i64 (L:Int)) (.int .i64 (L:Int))).run Tryz.prog u=
   .ok (.slice (some ⟨u.heap.size,0,none⟩) L L) (u.alloc (.cells (madeCells #[.int .u8 0] L) 5)):=fun u=>by
  have h:=run_make (P:=Tryz.prog) u 22 5 i0 (.int .u8 0) Tryz.underlying22 hi hz0 .i64 .i64 (L:Int) (L:Int) (by omega) (Int.le_refl _) (by rw[hz2];omega) (by omega)
  rw[Int.toNat_natCast]at h
  simpa[hz1,Value.cells]using h
 have HL:=Lib.hid hL
 have HR:=Lib.hid hr
 clear hL hr
 go_enter Tryz.func79,Tryz.ntmps79
 go_wp2_with (first
  |(go_at_call 53;refine(need_is (k+m) L _ (by omega) HL.out).mono ?_;rintro e w' ⟨rfl,rfl⟩)
  |(with_reducible refine wpList_copy_splice rfl (.tmp 12) (.tmp 14) 22 22 rfl 5 Tryz.underlying22 sz5 _ _ _ _ _ _ rfl rfl (w.heap.size+1+1) 0 (madeCells #[.int .u8 0] L).toList 5 ?c1 (bytesL n f) ?c2 ?c3 ?c4 (bytesL_one n f) (w.heap.size+1+1) _ (Below.refl _ _) (Nat.le_refl _) ?c5))
 case c1=>rw[Array.toArray_toList];simpa using heap_alloc_new ((w.alloc (.cells #[.slice A n c,.int .i64 (k:Int)] 30)).alloc (.cells #[.slice none 0 0,.int .i64 0] 120)) (.cells (madeCells #[.int .u8 0] L) 5)
 case c2=>simp[bytesL,Nat.min_eq_left hn]
 case c3=>exact copy_src HR.out (((((Below.refl _ _).alloc (Nat.le_refl _) _).alloc (by simp) _).alloc (by simp;omega) _))
 case c4=>simp[bytesL,size_madeCells];omega
 case c5=>
  intro w4 hg4 hb4
  have HB:=Lib.hid hb4
  have hsz:w.heap.size+1+1<w4.heap.size:=by have:=hb4.size;simp at this;omega
  obtain⟨hc,hfz⟩:=bcell hb4
  have k1:=(hc w.heap.size 1 (by omega)).trans (by go_simp:_=some (Value.int .i64 (k:Int)))
  have k2:=(hc (w.heap.size+1) 0 (by omega)).trans (by go_simp:_=some (Value.slice none 0 0))
  have k3:=(hc (w.heap.size+1) 1 (by omega)).trans (by go_simp:_=some (Value.int .i64 0))
  have k4:=(hfz (w.heap.size+1) 0 (by omega)).trans (by go_simp:_=false)
  have k5:=(hfz (w.heap.size+1) 1 (by omega)).trans (by go_simp:_=false)
  clear hb4 hc hfz
  go_wp2
  refine bodyPost_ret (v:=.agg #[.slice (some ⟨w.heap.size+1+1,0,none⟩) L L,.int .i64 (k:Int)]) ?_ rfl ⟨rfl,?_,?_⟩
  ·simp[results,Tryz.results79,go_sem,k2,k3]
  ·exact((((((Below.refl _ _).alloc (Nat.le_refl _) _).alloc (by simp) _).alloc (by simp;omega) _).trans (HB.out.mono (by omega))).setCell (by simp) _).setCell (by simp) _
  ·unfold Row
   rw[Below.heap_setCell _ _ _ _ (by simp),Below.heap_setCell _ _ _ _ (by simp),←splice_zeros L n f hn]
   exact hg4.out
def PenAt(w:World)(p g L k:Nat):Prop:=w.heap[p]?=some (.cells #[.slice (some ⟨g,0,none⟩) L L,.int .i64 (k:Int)] 120 (0,0))
end Go.Proofs.YtokpcpjnihinfaaGreat
namespace Go.Proofs.YtokpcpjnihinfaaGreat
open Go.RowKit
theorem emod_u8(x:Nat)(h:x<256):(x:Int)%256=(x:Int):=by omega
theorem push_any(w:World)(p g L k:Nat)(f:Nat→Nat)(x:Nat)(hx:x<2)(hp:PenAt w p g L k)(hrow:Row w g L f)(hne:p≠g)(hk:k<8*L)(hL:L≤2000000)(hf:f (k/8)<2^(k%8)):
  Calls Tryz.prog 80 #[.pointer (some ⟨p,0,none⟩),.int .u32 (x:Int)] w fun e w'=>e=.returned (.tuple #[])∧w'=(((w.setCell ⟨g,k/8,none⟩ (.int .u8 ((f (k/8)+x*2^(k%8):Nat):Int))).setCell ⟨p,1,none⟩ (.int .i64 ((k+1:Nat):Int))).drew):=by
 have c0:w.cell? ⟨p,0,none⟩=some (.slice (some ⟨g,0,none⟩) L L):=by rw[cell_of_row w p 0 _ 120 (0,0) hp];rfl
 have c1:w.cell? ⟨p,1,none⟩=some (.int .i64 (k:Int)):=by rw[cell_of_row w p 1 _ 120 (0,0) hp];rfl
 have c2:=hrow.cell (j:=k/8) (by omega)
 have z1:w.frozen? ⟨p,1,none⟩=false:=by unfold PenAt at hp;simp[World.frozen?,hp]
 have z2:=hrow.frozen (k/8)
 have hlt:k/8<L:=by omega
 have HF:=Lib.hid hf;have HP:=Lib.hid hp;have HR:=Lib.hid hrow
 clear hf hp hrow
 have hv:bits .or .u8 ((f (k/8):Nat):Int) ((x:Int)*2^(k%8)%256)=((f (k/8)+x*2^(k%8):Nat):Int):=by
  have h8:k%8<8:=Nat.mod_lt _ (by omega)
  have h1:2^(k%8)*2≤256:=by
   have:=Nat.pow_le_pow_right (n:=2) (by omega) (show k%8+1≤8 by omega)
   rw[Nat.pow_succ]at this;simpa using this
  have h2:x*2^(k%8)≤1*2^(k%8):=Nat.mul_le_mul_right _ (by omega)
  have h3:=HF.out
  rw[cast_shl,emod_u8 _ (by omega),u8_or _ _ (by omega) (by omega),Nat.or_comm,or_add _ _ (k%8) h3 (Nat.dvd_mul_left _ _),Nat.add_comm]
 have HV:=Lib.hid hv
 clear hv
 go_enter Tryz.func80,Tryz.ntmps80
 go_wp2
 go_region
 go_wp2
 go_end0
 rw[HV.out]
 exact⟨rfl,rfl⟩
def stepF(f:Nat→Nat)(k b:Nat):Nat→Nat:=upd f (k/8) (f (k/8)+b*2^(k%8))
def putF(f:Nat→Nat)(k v:Nat):Nat→(Nat→Nat)
 |0=>f
 |i+1=>stepF (putF f k v i) (k+i) (v/2^i%2)
def Clean(f:Nat→Nat)(k:Nat):Prop:=(∀j,f j<256)∧(∀j,k/8<j→f j=0)∧f (k/8)<2^(k%8)
theorem Clean.step{f:Nat→Nat}{k b:Nat}(h:Clean f k)(hb:b<2):Clean (stepF f k b) (k+1):=by
 obtain⟨h1,h2,h3⟩:=h
 have h8:k%8<8:=Nat.mod_lt _ (by omega)
 have hp:2^(k%8)*2≤256:=by
  have:=Nat.pow_le_pow_right (n:=2) (by omega) (show k%8+1≤8 by omega)
  rw[Nat.pow_succ]at this;simpa using this
 have hq:b*2^(k%8)≤1*2^(k%8):=Nat.mul_le_mul_right _ (by omega)
 refine⟨fun j=>?_,fun j hj=>?_,?_⟩
 ·unfold stepF upd;split
  ·omega
  ·exact h1 j
 ·unfold stepF upd
  rw[if_neg (by omega)]
  exact h2 j (by omega)
 ·unfold stepF upd
  by_cases e:k%8=7
  ·rw[if_neg (by omega),h2 _ (by omega)];exact Nat.two_pow_pos _
  ·rw[if_pos (by omega),show(k+1)%8=k%8+1 by omega,Nat.pow_succ];omega
theorem Clean.put{f:Nat→Nat}{k:Nat}(h:Clean f k)(v:Nat):∀i,Clean (putF f k v i) (k+i)
 |0=>h
 |i+1=>(Clean.put h v i).step (Nat.mod_lt _ (by omega))
theorem push_step(w:World)(p g L k:Nat)(f:Nat→Nat)(x:Nat)(y:Int)(hy:y=(x:Int))(hx:x<2)(hp:PenAt w p g L k)(hrow:Row w g L f)(hne:p≠g)(hk:k<8*L)(hL:L≤2000000)(hf:Clean f k):
  Calls Tryz.prog 80 #[.pointer (some ⟨p,0,none⟩),.int .u32 y] w fun e w'=>e=.returned (.tuple #[])∧PenAt w' p g L (k+1)∧Row w' g L (stepF f k x)∧∀B,B≤p→B≤g→Below B w w':=by
 subst hy
 refine(push_any w p g L k f x hx hp hrow hne hk hL hf.2.2).mono ?_
 rintro e w' ⟨rfl,rfl⟩
 refine⟨rfl,?_,?_,fun B h1 h2=>(((Below.refl _ _).setCell h2 _).setCell h1 _).drew⟩
 ·have h1:PenAt (w.setCell ⟨g,k/8,none⟩ (.int .u8 ((f (k/8)+x*2^(k%8):Nat):Int))) p g L k:=(Below.heap_setCell w ⟨g,k/8,none⟩ _ p hne).trans hp
  show(World.setCell _ _ _).heap[p]?=_
  unfold PenAt at h1
  simp[World.setCell,Array.getElem?_modify]at h1⊢
  simp[h1]
 ·exact(hrow.set (k/8) _).other (p:=⟨p,1,none⟩) (fun e=>hne e.symm) _
theorem write_any(w:World)(A:Option Addr)(n c:Nat)(f:Nat→Nat)(k m L v:Nat)(hr:RdB w w.heap.size A n f)(hcl:Clean (zext n f) k)(hk:k≤8388608)(hm:m≤32)(hn:n≤L)(hL:L=(k+m+7)/8)(hv:v<4294967296):
  Calls Tryz.prog 62 #[.agg #[.slice A n c,.int .i64 (k:Int)],.int .u32 (v:Int),.int .i64 (m:Int)] w fun e w'=>∃g,e=.returned (.agg #[.slice (some ⟨g,0,none⟩) L L,.int .i64 ((k+m:Nat):Int)])∧
   w.heap.size≤g∧Below w.heap.size w w'∧Row w' g L (putF (zext n f) k v m):=by
 have hL1:L≤2000000:=by omega
 have hkL:k+m≤8*L:=by omega
 have HL:=Lib.hid hL
 have HR:=Lib.hid hr
 have HC:=Lib.hid hcl
 clear hL hr hcl
 go_enter Tryz.func62,Tryz.ntmps62
 go_wp2_with fail
 refine(begin_any _ A n c f k m L (HR.out.below (((Below.refl _ _).alloc (Nat.le_refl _) _).alloc (by simp) _) (Nat.le_refl _)|>.more (by simp;omega)) hk (by omega) hn HL.out).mono ?_
 rintro e w2 ⟨rfl,hb,hrow⟩
 have HB:=Lib.hid hb
 have HROW:=Lib.hid hrow
 have hlt:=hrow.lt
 simp only[World.size_alloc]at hlt
 clear hb hrow
 go_wp2
 go_loopw [13] (fun i wr=>∃j:Nat,j≤m∧i=.int .i64 j∧PenAt wr w2.heap.size (w.heap.size+1+1+1+1) L (k+j)∧Row wr (w.heap.size+1+1+1+1) L (putF (zext n f) k v j)∧Below (w.heap.size+1+1) w2 wr) (fun i _=>m-(intOf i).toNat)
 case atStart=>
  refine⟨0,Nat.zero_le _,rfl,heap_alloc_new _ _,?_,?_⟩
  ·exact(Row.alloc (by simpa using HROW.out) _:Row _ _ L (zext n f))
  ·exact(Below.refl _ _).alloc (by omega) _
 case round=>
  obtain⟨j,hj,rfl,hp,hrow,hbel⟩:=hrel
  have HP:=Lib.hid hp
  have HW:=Lib.hid hrow
  have HBL:=Lib.hid hbel
  clear hp hrow hbel
  by_cases hlt2:j<m
  ·go_wp2_with fail
   refine(push_step _ _ _ L (k+j) _ (v/2^j%2) _ (bit_cast v j hv) (Nat.mod_lt _ (by omega)) HP.out HW.out (by omega) (by omega) hL1 (HC.out.put v j)).mono ?_
   rintro e w5 ⟨rfl,h1,h2,h3⟩
   have h4:=Lib.hid (HBL.out.trans (h3 (w.heap.size+1+1) (by omega) (by omega)))
   have h5:=Lib.hid h1
   have h6:=Lib.hid h2
   clear h1 h2 h3
   go_wp2
   go_roundw
   case rel=>exact⟨j+1,hlt2,by go_num,h5.out,h6.out,h4.out⟩
   case measure=>simp[intOf];omega
  ·obtain rfl:j=m:=by omega
   have d0:wr.cell? ⟨w2.heap.size,0,none⟩=some (.slice (some ⟨w.heap.size+1+1+1+1,0,none⟩) L L):=by rw[cell_of_row _ _ 0 _ 120 (0,0) HP.out];rfl
   have d1:wr.cell? ⟨w2.heap.size,1,none⟩=some (.int .i64 ((k+j:Nat):Int)):=by rw[cell_of_row _ _ 1 _ 120 (0,0) HP.out];rfl
   obtain⟨hc,hfz⟩:=bcell (HB.out.mono (B':=w.heap.size+1+1) (by simp)|>.trans HBL.out)
   have k2:=(hc (w.heap.size+1) 0 (by omega)).trans (by go_simp:_=some (Value.slice none 0 0))
   have k3:=(hc (w.heap.size+1) 1 (by omega)).trans (by go_simp:_=some (Value.int .i64 0))
   have k4:=(hfz (w.heap.size+1) 0 (by omega)).trans (by go_simp:_=false)
   have k5:=(hfz (w.heap.size+1) 1 (by omega)).trans (by go_simp:_=false)
   clear hc hfz
   go_wp2
   refine bodyPost_ret (v:=.agg #[.slice (some ⟨w.heap.size+1+1+1+1,0,none⟩) L L,.int .i64 ((k+j:Nat):Int)]) ?_ rfl ⟨_,rfl,by omega,?_,?_⟩
   ·simp[results,Tryz.results62,go_sem,k2,k3]
   ·exact((((Below.refl _ _).alloc (Nat.le_refl _) _).alloc (by simp) _).trans ((HB.out.mono (by simp;omega)).trans (HBL.out.mono (by omega)))).setCell (by simp) _|>.setCell (by simp) _
   ·exact(HW.out.other (p:=⟨w.heap.size+1,0,none⟩) (by simp;omega) _).other (p:=⟨w.heap.size+1,1,none⟩) (by simp;omega) _
end Go.Proofs.YtokpcpjnihinfaaGreat
namespace Go.Proofs.YtokpcpjnihinfaaGreat
def bitsT:List (Nat×Nat)→Nat
 |[]=>0
 |x::l=>x.2+bitsT l
def putsF(f:Nat→Nat)(k:Nat):List (Nat×Nat)→Nat→Nat
 |[]=>f
 |x::l=>putsF (putF f k x.1 x.2) (k+x.2) l
theorem bitsT_app:∀a b,bitsT (a++b)=bitsT a+bitsT b
 |[],b=>by simp[bitsT]
 |x::a,b=>by simp only[List.cons_append,bitsT,bitsT_app a b];omega
theorem putsF_app(f:Nat→Nat)(k:Nat):∀a b,putsF f k (a++b)=putsF (putsF f k a) (k+bitsT a) b
 |[],b=>by simp[bitsT,putsF]
 |x::a,b=>by
  simp only[List.cons_append,bitsT,putsF]
  rw[putsF_app _ _ a b,Nat.add_assoc]
theorem Clean.puts{f:Nat→Nat}{k:Nat}(h:Clean f k):∀l,Clean (putsF f k l) (k+bitsT l)
 |[]=>h
 |x::l=>by
  have:=(h.put x.1 x.2).puts l
  simp only[putsF,bitsT]
  rwa[Nat.add_assoc]at this
def codP(F:Nat→Nat)(n i:Nat):Nat×Nat:=(turnN (codeB F n i) (F i),F i)
def symA(t:Tok):Nat:=if t.n=0 then t.x else(lgS t.n).toNat
def symB(t:Tok):Nat:=(frS t.d).toNat
def tokP(F:Nat→Nat)(n:Nat)(G:Nat→Nat)(m:Nat)(t:Tok):List (Nat×Nat):=
 if t.n=0 then[codP F n t.x]else[codP F n (lgS t.n).toNat,((lgX t.n).toNat,(lgB t.n).toNat),codP G m (frS t.d).toNat,((frX t.d).toNat,(frB t.d).toNat)]
def toksP(F:Nat→Nat)(n:Nat)(G:Nat→Nat)(m:Nat)(l:List Tok):List (Nat×Nat):=l.flatMap (tokP F n G m)++[codP F n 256]
def fixA(i:Nat):Nat:=if 256≤i∧i≤279 then 7 else if 144≤i∧i≤255 then 9 else 8
def fixB(_:Nat):Nat:=5
def ordN(i:Nat):Nat:=[16,17,18,0,8,7,9,6,10,5,11,4,12,3,13,2,14,1,15].getD i 0
def cntA(l:List Tok)(i:Nat):Nat:=(if i=256 then 1 else 0)+l.countP fun t=>decide (symA t=i)
def cntB(l:List Tok)(i:Nat):Nat:=l.countP fun t=>decide (t.n≠0∧symB t=i)
theorem cntA_one(l:List Tok)(t:Tok)(i:Nat):cntA (l++[t]) i=cntA l i+if symA t=i then 1 else 0:=by
 unfold cntA;rw[List.countP_append,List.countP_singleton];simp only[decide_eq_true_eq];omega
theorem cntB_one(l:List Tok)(t:Tok)(i:Nat):cntB (l++[t]) i=cntB l i+if t.n≠0∧symB t=i then 1 else 0:=by
 unfold cntB;rw[List.countP_append,List.countP_singleton];simp only[decide_eq_true_eq]
theorem cntA_le(l:List Tok)(i:Nat):cntA l i≤l.length+1:=by
 have:=List.countP_le_length (p:=fun t=>decide (symA t=i)) (l:=l)
 unfold cntA;split<;>omega
theorem cntB_le(l:List Tok)(i:Nat):cntB l i≤l.length:=List.countP_le_length
theorem cntA_pos{l:List Tok}{t:Tok}(h:t∈l):0<cntA l (symA t):=by
 have:0<l.countP fun u=>decide (symA u=symA t):=List.countP_pos_iff.2 ⟨t,h,by simp⟩
 unfold cntA;omega
theorem cntB_pos{l:List Tok}{t:Tok}(h:t∈l)(hn:t.n≠0):0<cntB l (symB t):=List.countP_pos_iff.2 ⟨t,h,by simp[hn]⟩
theorem cntA_end(l:List Tok):0<cntA l 256:=by unfold cntA;rw[if_pos rfl];omega
def frqL(c:Nat→Nat)(n:Nat):List Int:=(List.range n).map fun i=>((c i:Nat):Int)
theorem frqL_length(c:Nat→Nat)(n:Nat):(frqL c n).length=n:=by simp[frqL]
theorem frqL_get(c:Nat→Nat){n i:Nat}(h:i<n):(frqL c n).getD i 0=((c i:Nat):Int):=by
 unfold frqL;rw[List.getD_eq_getElem?_getD];simp[h]
theorem freq_frq(c:Nat→Nat){n i:Nat}(h:i<n):freqN (frqL c n) i=c i:=by unfold freqN;rw[frqL_get c h];rfl
theorem ask_frq{c:Nat→Nat}{n:Nat}{most:Nat}(h1:1≤most)(h2:most≤15)(hn:n≤320)(hn2:n≤2^most)(hc:∀i,c i≤1073741824):askE (frqL c n) (most:Int)=0:=by
 unfold askE
 rw[frqL_length,if_neg (by omega),if_neg (by omega),if_neg,if_neg]
 ·have:=nI_le (freqN (frqL c n)) n
  rw[Int.toNat_natCast];omega
 ·unfold badL
  simp only[decide_eq_true_eq]
  rintro⟨j,hj,hb⟩
  rw[frqL_get c hj]at hb
  unfold badI at hb
  simp only[decide_eq_true_eq]at hb
  have:=hc j
  omega
def lenM(c:Nat→Nat)(n most:Nat):Nat→Nat:=outL (frqL c n) (most:Int)
theorem lenM_may{c:Nat→Nat}{n:Nat}{most:Nat}(h1:1≤most)(h2:most≤15)(hn:n≤320)(hn2:n≤2^most)(hc:∀i,c i≤1073741824):
  (∀i,lenM c n most i≤most)∧allN (lenM c n most) n≤32768∧(∀i,i<n→(0<lenM c n most i↔0<c i))∧lenM c n most=lenB (freqN (frqL c n)) n most∧nI (freqN (frqL c n)) n≤2^most:=by
 have ha:=ask_frq h1 h2 hn hn2 hc
 obtain⟨h3,h4,h5⟩:=out_may ha
 rw[frqL_length]at h4 h5
 obtain⟨_,_,_,_,g5,_⟩:=check_ok h4
 have hnI:nI (freqN (frqL c n)) n≤2^most:=Nat.le_trans (nI_le _ _) hn2
 have e:lenM c n most=lenB (freqN (frqL c n)) n most:=by
  funext i;unfold lenM outL;rw[if_pos ha,frqL_length,Int.toNat_natCast]
 refine⟨fun i=>by rw[e];exact lenB_le _ (by omega) i,g5,fun i hi=>?_,e,hnI⟩
 rw[e]
 constructor
 ·intro g
  rcases Nat.eq_zero_or_pos (c i)with h0|h0
  ·unfold lenB at g;rw[freq_frq c hi,if_pos h0]at g;omega
  ·exact h0
 ·intro g;exact(lenB_bd (by omega) hnI hi (by rw[freq_frq c hi];exact g)).1
def cutN(f:Nat→Nat)(least:Nat):Nat→Nat
 |0=>least
 |k+1=>if least≤k∧f k≠0 then k+1 else cutN f least k
theorem cutN_ge(f:Nat→Nat)(least:Nat):∀n,least≤cutN f least n
 |0=>Nat.le_refl _
 |k+1=>by
  simp only[cutN]
  split
  ·omega
  ·exact cutN_ge f least k
theorem cutN_le(f:Nat→Nat)(least:Nat):∀n,least≤n→cutN f least n≤n
 |0,h=>h
 |k+1,h=>by
  simp only[cutN]
  split
  ·omega
  ·rename_i g
   rcases Nat.eq_or_lt_of_le h with e|e
   ·have:∀j,j≤k→cutN f least j=least:=by
     intro j
     induction j with
     |zero=>intro _;rfl
     |succ j ih=>intro hj;simp only[cutN];rw[if_neg (by omega)];exact ih (by omega)
    rw[this k (Nat.le_refl _)];omega
   ·exact Nat.le_trans (cutN_le f least k (by omega)) (by omega)
theorem cutN_in(f:Nat→Nat)(least:Nat):∀n i,i<n→f i≠0→i<cutN f least n
 |0,i,h,_=>absurd h (by omega)
 |k+1,i,h,hf=>by
  simp only[cutN]
  split
  ·omega
  ·rename_i g
   rcases Nat.eq_or_lt_of_le (Nat.le_of_lt_succ h)with e|e
   ·subst e
    have:=cutN_ge f least i
    have:¬least≤i:=fun h2=>g ⟨h2,hf⟩
    omega
   ·exact cutN_in f least k i e hf
theorem allN_mono(f:Nat→Nat){a b:Nat}(h:a≤b):allN f a≤allN f b:=by
 induction b with
 |zero=>rw[show a=0 by omega];exact Nat.le_refl _
 |succ b ih=>
  rcases Nat.eq_or_lt_of_le h with h|h
  ·subst h;exact Nat.le_refl _
  ·exact Nat.le_trans (ih (by omega)) (Nat.le_add_right _ _)
def lnA(l:List Tok):Nat→Nat:=lenM (cntA l) 286 15
def lnB(l:List Tok):Nat→Nat:=lenM (cntB l) 30 15
def nA(l:List Tok):Nat:=cutN (lnA l) 257 286
def nB(l:List Tok):Nat:=cutN (lnB l) 1 30
def allF(l:List Tok):Nat→Nat:=cat (lnA l) (nA l) (lnB l)
def runD(l:List Tok):List (Int×Int):=ofU (allF l) (nA l+nB l) 0
def cntR(l:List (Int×Int))(i:Nat):Nat:=l.countP fun r=>decide (r.1=(i:Int))
theorem cntR_one(l:List (Int×Int))(r:Int×Int)(i:Nat):cntR (l++[r]) i=cntR l i+if r.1=(i:Int)then 1 else 0:=by
 unfold cntR;rw[List.countP_append,List.countP_singleton];simp only[decide_eq_true_eq]
theorem cntR_le(l:List (Int×Int))(i:Nat):cntR l i≤l.length:=List.countP_le_length
def lnR(l:List Tok):Nat→Nat:=lenM (cntR (runD l)) 19 7
def rowR(l:List Tok)(i:Nat):Nat:=lnR l (ordN i)
def nR(l:List Tok):Nat:=cutN (rowR l) 4 19
def runP(F:Nat→Nat)(r:Int×Int):List (Nat×Nat):=[codP F 19 r.1.toNat,(r.2.toNat,(bitV r.1).toNat)]
def dynP(l:List Tok):List (Nat×Nat):=
 [(nA l-257,5),(nB l-1,5),(nR l-4,4)]++((List.range (nR l)).map fun i=>(rowR l i,3))++(runD l).flatMap (runP (lnR l))
def padN(a:Nat):Nat:=(8-(a+3)%8)%8
def stoP(a n:Nat)(r:Nat→Nat):List (Nat×Nat):=List.replicate (padN a) (0,1)++[(n,16),(65535-n,16)]++((List.range n).map fun i=>(r i,8))
def blkP(a kind n:Nat)(r:Nat→Nat)(l:List Tok)(last:Bool):List (Nat×Nat):=
 [(if last then 1 else 0,1),(kind,2)]++(if kind=1 then toksP fixA 288 fixB 32 l else if kind=2 then dynP l++toksP (lnA l) (nA l) (lnB l) (nB l) l else stoP a n r)
def askW(kind n:Nat)(l:List Tok):Int:=if 2<kind then 2 else if 65535<n∨65535<l.length then 4 else if l.all mayT then 0 else 8
theorem sym_lt{t:Tok}(h:mayT t=true)(hx:t.x<256):symA t<286∧(t.n=0→symA t=t.x)∧(t.n≠0→lgE t.n=0∧frE t.d=0∧257≤symA t∧symB t<30):=by
 unfold mayT at h
 simp only[decide_eq_true_eq]at h
 unfold symA symB
 by_cases h0:t.n=0
 ·rw[if_pos h0];exact⟨by omega,fun _=>rfl,fun g=>absurd h0 g⟩
 ·rw[if_neg h0]
  obtain⟨_,_,h3,h4,h5,h6⟩:t.n≠0∧t.x=0∧3≤t.n∧t.n≤258∧1≤t.d∧t.d≤32768:=by
   rcases h with⟨a,_⟩|h
   ·exact absurd a h0
   ·exact h
  have e1:lgE t.n=0:=if_pos ⟨h3,h4⟩
  have e2:frE t.d=0:=if_pos ⟨h5,h6⟩
  have a1:=(atN_spec (T:=longT) (n:=t.n.toNat) (show 3≤t.n.toNat by omega) 29 (by omega)).1
  have a2:=(atN_spec (T:=farT) (n:=t.d.toNat) (show 1≤t.d.toNat by omega) 30 (by omega)).1
  have s1:lgS t.n=((257+lgI t.n:Nat):Int):=if_pos ⟨h3,h4⟩
  have s2:frS t.d=((frI t.d:Nat):Int):=if_pos ⟨h5,h6⟩
  have b1:lgI t.n<29:=a1
  have b2:frI t.d<30:=a2
  refine⟨by omega,fun g=>absurd g h0,fun _=>⟨e1,e2,by omega,by omega⟩⟩
theorem dyn_ok(l:List Tok)(hl:l.length≤1000000):
  (∀i,lnA l i≤15)∧(∀i,lnB l i≤15)∧allN (lnA l) (nA l)≤32768∧allN (lnB l) (nB l)≤32768∧257≤nA l∧nA l≤286∧1≤nB l∧nB l≤30∧
  (∀i,i<286→0<cntA l i→i<nA l∧0<lnA l i)∧(∀i,i<30→0<cntB l i→i<nB l∧0<lnB l i):=by
 obtain⟨a1,a2,a3,_,_⟩:=lenM_may (c:=cntA l) (n:=286) (most:=15) (by omega) (by omega) (by omega) (by decide) (fun i=>by have:=cntA_le l i;omega)
 obtain⟨b1,b2,b3,_,_⟩:=lenM_may (c:=cntB l) (n:=30) (most:=15) (by omega) (by omega) (by omega) (by decide) (fun i=>by have:=cntB_le l i;omega)
 have c1:=cutN_ge (lnA l) 257 286
 have c2:=cutN_le (lnA l) 257 286 (by omega)
 have d1:=cutN_ge (lnB l) 1 30
 have d2:=cutN_le (lnB l) 1 30 (by omega)
 refine⟨a1,b1,Nat.le_trans (allN_mono _ c2) a2,Nat.le_trans (allN_mono _ d2) b2,c1,c2,d1,d2,fun i hi h=>?_,fun i hi h=>?_⟩
 ·have:=(a3 i hi).2 h
  exact⟨cutN_in _ _ _ i hi (by unfold lnA;omega),this⟩
 ·have:=(b3 i hi).2 h
  exact⟨cutN_in _ _ _ i hi (by unfold lnB;omega),this⟩
theorem all_le(l:List Tok)(hl:l.length≤1000000)(i:Nat):allF l i≤15:=by
 obtain⟨h1,h2,_⟩:=dyn_ok l hl
 unfold allF cat;split
 ·exact h1 _
 ·exact h2 _
end Go.Proofs.YtokpcpjnihinfaaGreat
namespace Go.Proofs.YtokpcpjnihinfaaGreat
open Go.RowKit
def ByR(w:World)(B:Nat)(A:Option Addr)(n c:Nat)(f:Nat→Nat):Prop:=RdB w B A n f∧(A=none→c=0)∧n≤c∧c≤maxLen
theorem ByR.below{w w':World}{B B' n c:Nat}{A:Option Addr}{f:Nat→Nat}(h:ByR w B A n c f)(hb:Below B' w w')(hB:B≤B'):ByR w' B A n c f:=⟨h.1.below hb hB,h.2⟩
theorem ByR.more{w:World}{B B' n c:Nat}{A:Option Addr}{f:Nat→Nat}(h:ByR w B A n c f)(hB:B≤B'):ByR w B' A n c f:=⟨h.1.more hB,h.2⟩
theorem ByR.nil(w:World)(B:Nat)(f:Nat→Nat)(hf:∀j,f j<256):ByR w B none 0 0 f:=⟨⟨hf,fun h=>by omega⟩,fun _=>rfl,Nat.le_refl _,by unfold maxLen;omega⟩
theorem ByR.of_own{w:World}{base n c:Nat}{A:Option Addr}{f:Nat→Nat}(h:w.ownsRow base 5 1 (.slice A n c) n (bytesL n f))(hf:∀j,f j<256):ByR w w.heap.size A n c f:=by
 refine⟨RdB.of_own h hf,?_⟩
 rcases h.2 with⟨hv,h0⟩|⟨g,cap,cur,hv,_,_,h1,h2,_⟩
 ·injection hv with h3 h4 h5
  exact⟨fun _=>h5,by omega,by unfold maxLen;omega⟩
 ·injection hv with h3 h4 h5
  exact⟨(fun h=>by rw[h]at h3;cases h3),by omega,by omega⟩
theorem open_byr{H:Type}{enc:TypeId×Value→H}{W:World}{base:Nat}{sp:Nat→Bool}{hd:Bool}{a:Option Addr}{len cap:Nat}{d:DataW H}{p:List MemPlace}
  (h:∃fuel,DataW.trod enc Tryz.prog W base sp hd fuel 22 (Value.slice a len cap).cells.toList=some (d,p)):∃f,ByR W W.heap.size a len cap f:=by
 obtain⟨f,h1,h2,h3,h4⟩:=open_bytes h
 exact⟨f,h1,h2,h3,h4⟩
theorem ByR.drop{w:World}{B n c p:Nat}{a:Addr}{A2:Option Addr}{f:Nat→Nat}(h:ByR w B (some a) n c f)(hp:p≤n)(hA:(if c=p then some a else some (a.add p))=A2):ByR w B A2 (n-p) (c-p) (fun j=>f (j+p)):=by
 obtain⟨h1,h2,h3,h4⟩:=h
 refine⟨⟨fun j=>h1.1 _,fun hn=>?_⟩,fun h=>?_,by omega,by omega⟩
 ·obtain⟨b,o,e,hb,hcc⟩:=h1.2 (by omega)
  cases e
  rw[if_neg (by omega)]at hA
  have e:(⟨b,o,none⟩:Addr).add p=⟨b,o+p,none⟩:=by unfold Addr.add;split<;>simp_all
  rw[e]at hA
  refine⟨b,o+p,hA.symm,hb,fun j hj=>?_⟩
  have:=hcc (j+p) (by omega)
  rw[show o+p+j=o+(j+p) by omega]
  exact this
 ·rw[h]at hA;split at hA<;>cases hA
theorem ByR.drew{w:World}{B n c:Nat}{A:Option Addr}{f:Nat→Nat}(h:ByR w B A n c f):ByR w.drew B A n c f:=h
theorem grow_any(w:World)(n:Nat)(hn:n≤1000000000000):
  Calls Tryz.prog 60 #[.slice none 0 0,.int .i64 (n:Int)] w fun e w'=>∃A c,e=.returned (.slice A 0 c)∧w'.ownsRow w.heap.size 5 1 (.slice A 0 c) 0 []∧Below w.heap.size w w':=by
 rcases Nat.eq_zero_or_pos n with h0|h0
 ·subst h0
  go_enter Tryz.func60,Tryz.ntmps60
  go_wp2
  go_ret
  exact⟨none,0,rfl,World.ownsRow_nil _ _ _ _,Below.refl _ _⟩
 ·obtain⟨i0,hi,hz0,hz1,hz2⟩:=info_parts infoU8
  have hrun:=Lib.run_append_nil_zeros (P:=Tryz.prog) w 22 3 22 5 i0 (.int .u8 0) .i64 .i64 Tryz.underlying22 Tryz.underlying3 hi hz0 n h0 (by omega) (by omega) (by rw[hz2];omega)
  have hge:=grownCap_ge w n 0 5
  have hle:=grownCap_le_maxLen w n 0 5 (by unfold maxLen;omega)
  obtain⟨c,hc⟩:∃c,c=grownCap w n 0 5:=⟨_,rfl⟩
  rw[←hc]at hrun hge hle
  obtain⟨Z,hZ⟩:∃Z,Z=(Builtin.zeroCells (Value.int .u8 0).cells n++Builtin.zeroCells (Value.int .u8 0).cells (c-n)):=⟨_,rfl⟩
  rw[←hZ]at hrun
  have hZs:Z.size=c*1:=by rw[hZ];simp[size_zeroCells,Value.cells];omega
  have hown:=World.ownsRow_made (base:=w.heap.size) (e:=5) (size:=1) w.drew Z c (Nat.le_refl _) hle hZs
  have hbl:Below w.heap.size w (w.drew.alloc (.cells Z 5)):=(Below.refl w.heap.size w).drew.alloc (Nat.le_refl _) _
  obtain⟨w1,hw1⟩:∃w1,w1=w.drew.alloc (.cells Z 5):=⟨_,rfl⟩
  rw[←hw1]at hrun hown hbl
  have HR:=Lib.hid hrun;have HO:=Lib.hid hown;have HB:=Lib.hid hbl
  unfold maxLen at hle
  clear hrun hown hbl hZ hZs hw1 hc hi hz0 hz1 hz2
  have hp:(0:Int)<(n:Int):=by omega
  go_enter Tryz.func60,Tryz.ntmps60
  go_wp2_with (at_builtin;refine Lib.wpList_append_run _ rfl _ _ _ _ rfl _ _ rfl rfl _ _ HR.out ?_)
  go_ret
  exact⟨_,_,rfl,HO.out,HB.out⟩
theorem bytesL_ext{n:Nat}{f g:Nat→Nat}(h:∀j,j<n→f j=g j):bytesL n f=bytesL n g:=by
 unfold bytesL
 exact List.map_congr_left fun j hj=>by rw[h j (List.mem_range.1 hj)]
def sumU(n:Nat→Nat):Nat→Nat
 |0=>0
 |k+1=>sumU n k+n k
def catU(n:Nat→Nat)(f:Nat→Nat→Nat):Nat→Nat→Nat
 |0,_=>0
 |k+1,j=>cat (catU n f k) (sumU n k) (f k) j
theorem catU_lt{n:Nat→Nat}{f:Nat→Nat→Nat}(hf:∀i j,f i j<256):∀k j,catU n f k j<256
 |0,_=>by show 0<256;omega
 |k+1,j=>by show cat _ _ _ _<256;exact cat_lt (catU_lt hf k) (hf k) j
theorem sumU_mono(n:Nat→Nat){a b:Nat}(h:a≤b):sumU n a≤sumU n b:=by
 induction h with
 |refl=>exact Nat.le_refl _
 |step _ ih=>exact Nat.le_trans ih (Nat.le_add_right _ _)
def RowsB(w:World)(B:Nat)(A:Option Addr)(k:Nat)(n:Nat→Nat)(f:Nat→Nat→Nat):Prop:=
 0<k→∃b o,A=some ⟨b,o,none⟩∧b<B∧∀i,i<k→∃Ai ci,w.cell? ⟨b,o+i,none⟩=some (.slice Ai (n i) ci)∧RdB w B Ai (n i) (f i)∧(Ai=none→ci=0)
theorem RowsB.below{w w':World}{B B' k:Nat}{A:Option Addr}{n:Nat→Nat}{f:Nat→Nat→Nat}(h:RowsB w B A k n f)(hb:Below B' w w')(hB:B≤B'):RowsB w' B A k n f:=fun hk=>by
 obtain⟨b,o,h1,h2,h3⟩:=h hk
 refine⟨b,o,h1,h2,fun i hi=>?_⟩
 obtain⟨Ai,ci,q1,q2,q3⟩:=h3 i hi
 exact⟨Ai,ci,by rw[hb.cell (p:=⟨b,o+i,none⟩) (by show b<B';omega)];exact q1,q2.below hb hB,q3⟩
theorem concat_any(w:World)(A:Option Addr)(k c:Nat)(n:Nat→Nat)(f:Nat→Nat→Nat)(hf:∀i j,f i j<256)(hr:RowsB w w.heap.size A k n f)(hk:k≤1000000)(hs:sumU n k≤1000000000):
  Calls Tryz.prog 45 #[.slice A k c] w fun e w'=>∃A' c',e=.returned (.slice A' (sumU n k) c')∧ByR w' w'.heap.size A' (sumU n k) c' (catU n f k)∧Below w.heap.size w w'∧(∀b,A'.map (·.block)=some b→w.heap.size≤b):=by
 have HR:=Lib.hid hr;have HF:=Lib.hid hf;have HS:=Lib.hid hs
 obtain⟨N,hN⟩:∃N,N=sumU n k:=⟨_,rfl⟩
 rw[←hN]at hs⊢
 have HN:=Lib.hid hN
 clear hr hf hN
 go_enter Tryz.func45,Tryz.ntmps45
 go_wp2_with fail
 go_loopw [3,11] (fun s i wr=>∃j q:Nat,j≤k∧i=.int .i64 (j:Int)∧s=.int .i64 (q:Int)∧Hid (q=sumU n j)∧w=wr) (fun _ i _=>k-(intOf i).toNat)
 case atStart=>exact⟨0,0,Nat.zero_le _,rfl,rfl,Lib.hid rfl,rfl⟩
 case round=>
  obtain⟨j,q,hj,rfl,rfl,HQ,rfl⟩:=hrel
  by_cases hlt:j<k
  ·have hlti:(j:Int)<(k:Int):=by omega
   obtain⟨b,o,rfl,hb,hcc⟩:=HR.out (by omega)
   obtain⟨Ai,ci,c1,_,_⟩:=hcc j hlt
   have hq1:sumU n (j+1)=q+n j:=by rw[HQ.out];rfl
   have hq2:=sumU_mono n (show j+1≤k by omega)
   have hq3:=HS.out
   obtain⟨m,hm⟩:∃m,m=n j:=⟨_,rfl⟩
   rw[←hm]at c1 hq1
   have hqm:q+m≤1000000000:=by omega
   have hnn:¬((q:Int)+(m:Int)<0):=by omega
   have HQ1:=Lib.hid hq1
   clear hcc hq1 hq2 hq3 hm
   go_wp2
   go_roundw
   case rel=>exact⟨j+1,q+m,by omega,by go_num,by go_num,Lib.hid HQ1.out.symm,trivial⟩
   case measure=>simp[intOf];omega
  ·obtain rfl:j=k:=by omega
   have hlti:¬(j:Int)<(j:Int):=by omega
   have hqN:q=N:=by rw[HQ.out,HN.out]
   subst hqN
   go_wp2_with fail
   refine(grow_any _ q (by omega)).mono ?_
   rintro e w1 ⟨A1,c1,rfl,ho1,hb1⟩
   have HO1:=Lib.hid ho1;have HB1:=Lib.hid hb1
   clear ho1 hb1
   go_wp2_with fail
   go_loopw [6,27] (fun s i wr=>∃(t p:Nat) (At:Option Addr) (ct:Nat),t≤j∧i=.int .i64 (t:Int)∧s=.slice At p ct∧Hid (p=sumU n t)∧Hid (wr.ownsRow w.heap.size 5 1 (.slice At p ct) p (bytesL p (catU n f t)))∧Hid (Below w.heap.size w wr)) (fun _ i _=>j-(intOf i).toNat)
   case atStart=>exact⟨0,0,A1,c1,Nat.zero_le _,rfl,rfl,Lib.hid rfl,HO1,HB1⟩
   case round=>
    obtain⟨t,p,At,ct,ht,rfl,rfl,HP,HO,HB⟩:=hrel
    by_cases hlt2:t<j
    ·have hlti2:(t:Int)<(j:Int):=by omega
     obtain⟨b,o,rfl,hb,hcc⟩:=(HR.out.below HB.out (Nat.le_refl _)) (by omega)
     obtain⟨Ai,ci,k1,k2,k3⟩:=hcc t hlt2
     have hq1:sumU n (t+1)=p+n t:=by rw[HP.out];rfl
     have hq2:=sumU_mono n (show t+1≤j by omega)
     have hq3:=HS.out
     obtain⟨A',c',w',r1,r2,r3⟩:=run_more wr w.heap.size _ (.slice At p ct) p _ HO.out Ai (n t) ci (f t) k2 (by omega) 22 k3 HB.out.size
     obtain⟨m,hm⟩:∃m,m=n t:=⟨_,rfl⟩
     rw[←hm]at k1 r1 r2 hq1
     have e1:cat (catU n f t) p (f t)=catU n f (t+1):=by funext x;rw[HP.out];rfl
     rw[e1]at r2
     have HQ1:=Lib.hid hq1;have R1:=Lib.hid r1;have R2:=Lib.hid r2;have R3:=Lib.hid (HB.out.trans r3)
     clear hcc hq1 hq2 hq3 r1 r2 r3 k2 k3 hm e1
     go_wp2_with (at_builtin;refine wpList_append_run rfl (.tmp 31) (.tmp 32) 22 rfl (.slice At p ct) (.slice Ai m ci) (.slice A' (p+m) c') w' rfl rfl R1.out ?_)
     go_roundw
     case rel=>exact⟨t+1,p+m,A',c',by omega,by go_num,rfl,Lib.hid HQ1.out.symm,R2,R3⟩
     case measure=>simp[intOf];omega
    ·obtain rfl:t=j:=by omega
     have hlti2:¬(t:Int)<(t:Int):=by omega
     have hpq:p=q:=by rw[HP.out,HN.out]
     subst hpq
     go_wp2
     go_ret
     exact⟨At,ct,rfl,ByR.of_own HO.out (catU_lt HF.out t),HB.out,fun b hb=>by subst hb;exact own_ge HO.out b.block rfl⟩
end Go.Proofs.YtokpcpjnihinfaaGreat
namespace Go.Proofs.YtokpcpjnihinfaaGreat
open Go.RowKit Go.ChangeShapes Go.WideShapes Go.ChangeAt Go.Joins
def num0:Nat×Nat:=(0,0)
def numC(r:Nat×Nat):List Value:=[.int .u32 (r.1:Int),.int .i64 (r.2:Int)]
def numsL:List (Nat×Nat)→List Value
 |[]=>[]
 |r::l=>numC r++numsL l
theorem numsL_length:∀l,(numsL l).length=l.length*2
 |[]=>rfl
 |r::l=>by simp only[numsL,List.length_append,List.length_cons,numsL_length l];simp[numC];omega
theorem numsL_get:∀(l:List (Nat×Nat)) (j i:Nat),j<l.length→i<2→(numsL l)[j*2+i]?=(numC (l.getD j num0))[i]?
 |[],j,i,h,_=>absurd h (by simp)
 |r::l,0,i,_,hi=>by
  simp only[numsL,Nat.zero_mul,Nat.zero_add]
  rw[List.getElem?_append_left (by simpa[numC]using hi)]
  rfl
 |r::l,j+1,i,h,hi=>by
  simp only[numsL]
  rw[List.getElem?_append_right (by simp[numC];omega)]
  have e:(j+1)*2+i-(numC r).length=j*2+i:=by simp[numC];omega
  rw[e,numsL_get l j i (by simpa using h) hi]
  rfl
def RdN(w:World)(B:Nat)(A:Option Addr)(l:List (Nat×Nat)):Prop:=SrcL w B 2 A l.length (numsL l)
theorem RdN.at{w:World}{B:Nat}{A:Option Addr}{l:List (Nat×Nat)}(h:RdN w B A l){k:Nat}(hk:k<l.length):∃b o,A=some ⟨b,o,none⟩∧b<B∧∀j,j<l.length→
  w.cell? ⟨b,o+j*2,none⟩=some (.int .u32 ((l.getD j num0).1:Int))∧w.cell? ⟨b,o+j*2+1,none⟩=some (.int .i64 ((l.getD j num0).2:Int)):=by
 obtain⟨b,o,h1,h2,h3⟩:=h.2 (by omega)
 refine⟨b,o,h1,h2,fun j hj=>⟨?_,?_⟩⟩
 ·have:=h3 (j*2+0) _ ((numsL_get l j 0 hj (by omega)).trans rfl)
  simpa using this
 ·have:=h3 (j*2+1) _ ((numsL_get l j 1 hj (by omega)).trans rfl)
  rw[show o+j*2+1=o+(j*2+1) by omega];exact this
theorem RdN.range{w:World}{B:Nat}{A:Option Addr}{l:List (Nat×Nat)}(h:RdN w B A l){b o:Nat}(hA:A=some ⟨b,o,none⟩){j:Nat}(hj:j<l.length):w.rangeAt b (o+j*2) (numC (l.getD j num0)):=by
 obtain⟨b',o',h1,_,h3⟩:=h.at hj
 rw[hA]at h1
 injection h1 with h1
 injection h1 with hb ho _
 subst hb;subst ho
 obtain⟨c0,c1⟩:=h3 j hj
 intro i v hv
 rcases i with _|_|i
 ·simp[numC]at hv;subst hv;exact c0
 ·simp[numC]at hv;subst hv;exact c1
 ·simp[numC]at hv
theorem own_keepG{w w':World}{base:Nat}{e:TypeId}{sz:Nat}{v:Value}{n:Nat}{xs:List Value}(h:w.ownsRow base e sz v n xs)(hb:Below w.heap.size w w'):w'.ownsRow base e sz v n xs:=by
 obtain⟨h1,h2⟩:=h
 refine⟨h1,?_⟩
 rcases h2 with h2|⟨g,cap,cur,hv,hg,hh,r⟩
 ·exact .inl h2
 ·exact .inr ⟨g,cap,cur,hv,hg,(hb.block g (Array.getElem?_eq_some_iff.1 hh).1).trans hh,r⟩
end Go.Proofs.YtokpcpjnihinfaaGreat
namespace Go.Proofs.YtokpcpjnihinfaaGreat
open Go.RowKit
theorem step_call{ops:Array Oper}{o:Oper}{a:Act}{w:World}{K:Act→World→Prop}{Q:Exit→Act→World→Prop}{E:Prop}(hgd:o.guard=none)(f:FuncId)(xs:Array Operand)(ts:Array TypeId)
  (ho:o.op=.call {callee:=.value (.func f),args:=xs,argTypes:=ts}) (eg:∀args w,(callFunc f args).run Tryz.prog w=.ok (.enter f args) w) (args:Array Value) (hx:xs.map a.eval=args) {R:Ending→World→Prop} (hc:Calls Tryz.prog f args w R)
  (h:∀e w',R e w'→∃v,e=.returned v∧K (a.put o.dst v) w'):
  if Region.wanted o (yielded ops a.tmps)=true then Oper.wp Tryz.prog o a w K Q else E:=by
 have hw:Region.wanted o (yielded ops a.tmps)=true:=by simp[Region.wanted,hgd]
 rw[if_pos hw]
 unfold Oper.wp
 have hrun:(execOp a.eval o).run Tryz.prog w=.ok (.enter f args) w:=by
  simp[execOp,ho,resolve,invoke,hx,go_sem,eg,Deferred.ofValue]
 rw[hrun]
 refine hc.mono fun e w' hr=>?_
 obtain⟨v,rfl,hk⟩:=h e w' hr
 exact hk
theorem step_call_on{ops:Array Oper}{o:Oper}{a:Act}{w:World}{K:Act→World→Prop}{Q:Exit→Act→World→Prop}{E:Prop}(hw:Region.wanted o (yielded ops a.tmps)=true)(f:FuncId)(xs:Array Operand)(ts:Array TypeId)
  (ho:o.op=.call {callee:=.value (.func f),args:=xs,argTypes:=ts}) (eg:∀args w,(callFunc f args).run Tryz.prog w=.ok (.enter f args) w) (args:Array Value) (hx:xs.map a.eval=args) {R:Ending→World→Prop} (hc:Calls Tryz.prog f args w R)
  (h:∀e w',R e w'→∃v,e=.returned v∧K (a.put o.dst v) w'):
  if Region.wanted o (yielded ops a.tmps)=true then Oper.wp Tryz.prog o a w K Q else E:=by
 rw[if_pos hw]
 unfold Oper.wp
 have hrun:(execOp a.eval o).run Tryz.prog w=.ok (.enter f args) w:=by
  simp[execOp,ho,resolve,invoke,hx,go_sem,eg,Deferred.ofValue]
 rw[hrun]
 refine hc.mono fun e w' hr=>?_
 obtain⟨v,rfl,hk⟩:=h e w' hr
 exact hk
theorem box_set2{w:World}{X:Nat}{x y p q:Value}(h0:w.cell? ⟨X,0,none⟩=some x)(h1:w.cell? ⟨X,1,none⟩=some y):
  ((w.setCell ⟨X,0,none⟩ p).setCell ⟨X,1,none⟩ q).cell? ⟨X,0,none⟩=some p∧((w.setCell ⟨X,0,none⟩ p).setCell ⟨X,1,none⟩ q).cell? ⟨X,1,none⟩=some q:=
 ⟨(World.cell?_setCell_other _ _ _ _ (by simp)).trans (World.cell?_setCell_same _ _ _ h0),World.cell?_setCell_same _ _ _ ((World.cell?_setCell_other _ _ _ _ (by simp)).trans h1)⟩
end Go.Proofs.YtokpcpjnihinfaaGreat
namespace Go.Proofs.YtokpcpjnihinfaaGreat
open Go.RowKit
theorem results_tmp4{fn:Func}{t u v x:Tmp}(h:fn.results=#[.tmp t,.tmp u,.tmp v,.tmp x])(tmps:Array Value)(P:Program)(w:World):
  (results fn tmps).run P w=.ok (.tuple #[tmps.getD t undef,tmps.getD u undef,tmps.getD v undef,tmps.getD x undef]) w:=by
 simp[results,h,go_sem]
def tblL(T:Nat→Int)(n:Nat):List Value:=(List.range n).map fun i=>.int .i64 (T i)
def tblA(T:Nat→Int)(n:Nat):Array Value:=(tblL T n).toArray
theorem tblA_size(T:Nat→Int)(n:Nat):(tblA T n).size=n:=by simp[tblA,tblL]
theorem tblA_one(T:Nat→Int)(n:Nat):(tblA T n).all (·.oneCell')=true:=
 all_oneCell_toArray fun u hu=>by
  unfold tblL at hu
  obtain⟨i,_,rfl⟩:=List.mem_map.1 hu;rfl
theorem tblA_get(T:Nat→Int)(n i:Nat)(h:i<n):(tblA T n)[i]?=some (.int .i64 (T i)):=by simp[tblA,tblL,h]
theorem tbl_ext{T T':Nat→Int}{n:Nat}(h:∀i,i<n→T i=T' i):tblA T n=tblA T' n:=by
 unfold tblA tblL
 congr 1
 exact List.map_congr_left fun i hi=>by rw[h i (List.mem_range.1 hi)]
theorem tbl_set(T:Nat→Int)(n i:Nat)(x:Int):(tblA T n).setIfInBounds i (.int .i64 x)=tblA (fun k=>if k=i then x else T k) n:=by
 apply Array.ext_getElem?
 intro k
 rw[Array.getElem?_setIfInBounds,tblA_size]
 rcases Nat.lt_or_ge k n with h|h
 ·rw[tblA_get _ _ _ h]
  by_cases e:i=k
  ·subst e;rw[if_pos rfl,if_pos h,tblA_get _ _ _ h,if_pos rfl]
  ·rw[if_neg e,tblA_get _ _ _ h,if_neg (fun g:k=i=>e g.symm)]
 ·have h1:(tblA T n)[k]?=none:=Array.getElem?_eq_none (by rw[tblA_size];exact h)
  have h2:(tblA (fun k=>if k=i then x else T k) n)[k]?=none:=Array.getElem?_eq_none (by rw[tblA_size];exact h)
  rw[h1,h2]
  by_cases e:i=k
  ·subst e;rw[if_pos rfl,if_neg (by omega)]
  ·rw[if_neg e]
theorem tbl_cell{w:World}{g:Nat}{T:Nat→Int}{n:Nat}{t:TypeId}(hg:w.heap[g]?=some (.cells (tblA T n) t (0,0))){i:Nat}(h:i<n):w.cell? ⟨g,i,none⟩=some (.int .i64 (T i)):=
 (cell_of_row w g _ _ _ (0,0) hg).trans (tblA_get T n i h)
end Go.Proofs.YtokpcpjnihinfaaGreat
namespace Go.Proofs.YtokpcpjnihinfaaGreat
open Go.RowKit
theorem below_row9{B:Nat}{a w:World}(h:Below B a w){g:Nat}(hp:B≤g)(cs:Array Value):Below B a (w.setRow g cs):=
 ⟨h.os,h.tape,h.output,by rw[size_setRow];exact h.size,fun k hk=>(setRow_other w g k cs (by omega)).trans (h.block k hk)⟩
def mkV(w:World)(z cs:Array Value)(t:TypeId):World:=(w.alloc (.cells z t)).setRow w.heap.size cs
theorem mkV_row(w:World)(z cs:Array Value)(t:TypeId):(mkV w z cs t).heap[w.heap.size]?=some (.cells cs t (0,0)):=setRow_heap _ _ _ _ _ _ (heap_alloc_new w _)
theorem mkV_below(w:World)(z cs:Array Value)(t:TypeId):Below w.heap.size w (mkV w z cs t):=below_row9 ((Below.refl _ _).alloc (Nat.le_refl _) _) (Nat.le_refl _) cs
theorem mkV_size(w:World)(z cs:Array Value)(t:TypeId):(mkV w z cs t).heap.size=w.heap.size+1:=by unfold mkV;rw[size_setRow];simp
end Go.Proofs.YtokpcpjnihinfaaGreat
namespace Go.Proofs.YtokpcpjnihinfaaGreat
open Go.RowKit
theorem decN{p:Prop}[Decidable p](h:¬p):decide p=false:=by simp[h]
theorem decY{p:Prop}[Decidable p](h:p):decide p=true:=by simp[h]
def p2N(k:Nat):Nat:=2^k
end Go.Proofs.YtokpcpjnihinfaaGreat
namespace Go.Proofs.YtokpcpjnihinfaaGreat
open Go.RowKit
theorem infoOrd:(Tryz.prog.info? 193).map (fun i=>(i.zero,i.size))=some (some (.agg (tblA (fun _=>0) 19)),19):=by kernel_rfl
theorem szO19(T:Nat→Int):(Tryz.prog.info? 193).map (·.size)=some (tblA T 19).size:=by rw[tblA_size];kernel_rfl
theorem flatOrd:(([16,17,18,0,8,7,9,6,10,5,11,4,12,3,13,2,14,1,15]:List Int).map (Value.int .i64)).toArray=tblA (fun i=>(ordN i:Int)) 19:=by kernel_rfl
end Go.Proofs.YtokpcpjnihinfaaGreat
namespace Go.Proofs.YtokpcpjnihinfaaGreat
open Go.RowKit
def lowB(l:List Oper)(n:Nat):Bool:=(List.range n).all fun i=>match l[i]? with
 |some o=>o.guard.isNone&&o.after.all fun e=> !Region.binds .any e||decide (e.on<i)
 |none=>false
def doneA(n g:Nat):Array Bool:=(List.replicate n true++List.replicate g false).toArray
def sinkF(l:List Oper)(m n:Nat):Bool:=(List.range n).all fun i=>decide (i<m)||(List.range (n+1)).any fun j=>decide (i<j)&&Region.waitsFor .any l.toArray j i
def splitB(l:List Oper)(m n:Nat):Bool:=Region.noSelect l.toArray&&Region.noSelect (l.take n).toArray&&Region.lexFrom .any (l.take n).toArray (n-m) m (doneA m (n-m))&&decide (n<l.length)&&sinkF l m n&&Region.chainB .any l.toArray n&&lowB l n&&Region.seqB .any l.toArray (l.length-n) n (doneA n (l.length-n))
theorem tail_late{l:List Oper}{m n:Nat}{listed:Array Bool}(hs:sinkF l m n=true)(hc:Region.chainB .any l.toArray n=true)(hn:n<l.length)(inv:HeadInv .any l.toArray n listed)(hm:∀i,i<m→listed.getD i false=true){i:Nat}(hi:i<n)(hu:listed.getD i true=false):
  ∀t,n≤t→t∉Region.ready .any l.toArray listed:=by
 have hsz:listed.size=l.length:=by rw[inv.size];simp
 have key:∀(d i:Nat),d=n-i→i≤n→listed.getD i true=false→n∈Region.ready .any l.toArray listed→i=n:=by
  intro d
  induction d using Nat.strongRecOn with
  |_ d ih=>
   intro i hd hi hu hr
   rcases Nat.eq_or_lt_of_le hi with e|hi
   ·exact e
   ·exfalso
    have hmi:¬i<m:=fun h=>by have:=hm i h;rw[getD_both hu]at this;cases this
    have h1:=List.all_eq_true.1 hs i (List.mem_range.2 hi)
    simp only[Bool.or_eq_true,decide_eq_true_eq]at h1
    rcases h1 with h1|h1
    ·exact hmi h1
    ·obtain⟨j,hj,hj2⟩:=List.any_eq_true.1 h1
     simp only[Bool.and_eq_true,decide_eq_true_eq]at hj2
     obtain⟨oj,hoj,e,he,hb,hon⟩:=Region.waitsFor_spec hj2.2
     have hjn:j≤n:=by have:=List.mem_range.1 hj;omega
     cases hl:listed.getD j false with
     |true=>
      have h2:=inv.closed j oj hoj hl e he hb
      rw[hon,getD_both hu]at h2;cases h2
     |false=>
      have hjt:=ih (n-j) (by omega) j rfl hjn (getD_in (by omega) hl) hr
      subst hjt
      obtain⟨_,ot,hot,hall⟩:=mem_ready.1 hr
      rw[hoj]at hot;cases hot
      have h2:=hall e he hb
      rw[hon,getD_both hu]at h2;cases h2
 intro t ht hr
 by_cases htn:t=n
 ·subst htn
  have:=key (t-i) i rfl (by omega) hu hr
  omega
 ·obtain⟨_,ot,hot,hall⟩:=mem_ready.1 hr
  have htl:t<l.length:=by have:=(Array.getElem?_eq_some_iff.1 hot).1;simpa using this
  have h1:=List.all_eq_true.1 hc t (List.mem_range.2 (by simpa using htl))
  simp only[Bool.or_eq_true,decide_eq_true_eq]at h1
  rcases h1 with h1|h1
  ·omega
  ·obtain⟨o',ho',e,he,hb,hon⟩:=Region.waitsFor_spec h1
   rw[hot]at ho';cases ho'
   have h2:=hall e he hb
   rw[hon,getD_both (inv.tail (t-1) (by omega) (by simp;omega))]at h2;cases h2
theorem lowB_spec{l:List Oper}{n i:Nat}(h:lowB l n=true)(hi:i<n):∃o,l[i]?=some o∧o.guard=none∧∀e∈o.after,Region.binds .any e=true→e.on<i:=by
 have h1:=List.all_eq_true.1 h i (List.mem_range.2 hi)
 split at h1
 ·rename_i o ho
  simp only[Bool.and_eq_true]at h1
  refine⟨o,ho,by simpa using h1.1,fun e he hb=>?_⟩
  have h2:=Array.all_eq_true_iff_forall_mem.1 h1.2 e he
  simp only[hb,Bool.not_true,Bool.false_or,decide_eq_true_eq]at h2
  exact h2
 ·cases h1
theorem wanted_free{o:Oper}(h:o.guard=none)(y:Nat→Option Bool):Region.wanted o y=true:=by simp[Region.wanted,h]
theorem split_done{n g:Nat}{listed:Array Bool}(hsz:listed.size=n+g)(h1:∀i,i<n→listed.getD i true=true)(h2:∀t,n≤t→t<n+g→listed.getD t true=false):listed=doneA n g:=by
 apply Array.ext_getElem?
 intro i
 unfold doneA
 rcases Nat.lt_or_ge i n with h|h
 ·have:=h1 i h
  have hs:i<listed.size:=by omega
  have e:listed[i]?=some true:=by
   rw[Array.getElem?_eq_getElem hs]
   simp[hs]at this
   rw[this]
  rw[e,List.getElem?_toArray,List.getElem?_append_left (by simpa using h),List.getElem?_replicate,if_pos h]
 ·rcases Nat.lt_or_ge i (n+g)with h'|h'
  ·have:=h2 i h h'
   have hs:i<listed.size:=by omega
   have e:listed[i]?=some false:=by
    rw[Array.getElem?_eq_getElem hs]
    simp[hs]at this
    rw[this]
   rw[e,List.getElem?_toArray,List.getElem?_append_right (by simpa using h),List.length_replicate,List.getElem?_replicate,if_pos (by omega)]
  ·rw[Array.getElem?_eq_none (by omega),List.getElem?_toArray,List.getElem?_eq_none (by simp;omega)]
theorem split_any{P:Program}{C:World→Prop}{Q:Exit→Act→World→Prop}{l:List Oper}{m n:Nat}(hn:n<l.length)(hs:sinkF l m n=true)(hc:Region.chainB .any l.toArray n=true)(hlow:lowB l n=true)
  (hseq:Region.seqB .any l.toArray (l.length-n) n (doneA n (l.length-n))=true):
  ∀(f:Nat) (s:List Nat) (listed lh:Array Bool) (a:Act) (w:World),s.length=f→s.Nodup→(∀i,i∈s↔i<n∧listed.getD i true=false)→HeadInv .any l.toArray n listed→(∀i,i<m→listed.getD i false=true)→(∀i,i<n→lh.getD i true=listed.getD i true∧lh.getD i false=listed.getD i false)→C w→
   wpAnyQ P .any (l.take n).toArray C (fun a'=>∀w',C w'→wpList P l.toArray Q (l.drop n) a' w') f lh a→wpAny P .any l.toArray Q (f+(l.length-n)) listed a w
 |0,s,listed,lh,a,w,hf,_,hmem,inv,_,_,hw,h=>by
  have hs0:s=[]:=List.length_eq_zero_iff.1 hf
  subst hs0
  have h1:∀i,i<n→listed.getD i true=true:=fun i hi=>by
   cases e:listed.getD i true with
   |true=>rfl
   |false=>exact absurd ((hmem i).2 ⟨hi,e⟩) (by simp)
  have hsz:=inv.size
  have he:=split_done (n:=n) (g:=l.length-n) (listed:=listed) (by rw[hsz];simp;omega) h1 (fun t ht ht2=>inv.tail t ht (by simp;omega))
  subst he
  have h3:=wpAny_of_seq (P:=P) (md:=.any) (Q':=Q) (l.drop n) n (doneA n (l.length-n)) a w (fun j=>by simp[List.getElem?_drop]) (by rw[List.length_drop];exact hseq) (h.2 w hw)
  rw[List.length_drop]at h3
  rw[Nat.zero_add];exact h3
 |f+1,s,listed,lh,a,w,hf,hnd,hmem,inv,hmm,hlh,hw,h=>by
  rw[show f+1+(l.length-n)=(f+(l.length-n))+1 by omega]
  obtain⟨x,hx⟩:∃x,x∈s:=List.exists_mem_of_length_pos (by omega)
  obtain⟨hxn,hxu⟩:=(hmem x).1 hx
  have hready:∀i,i∈Region.ready .any l.toArray listed→i<n:=fun i hi=>by
   rcases Nat.lt_or_ge i n with g|g
   ·exact g
   ·exact absurd hi (tail_late hs hc hn inv hmm hxn hxu i g)
  have hhead:∀i,i<n→(i∈Region.ready .any l.toArray listed↔i∈Region.ready .any (l.take n).toArray lh):=fun i hi=>by
   obtain⟨o,ho,hg,hlo⟩:=lowB_spec hlow hi
   rw[mem_ready,mem_ready]
   have e1:l.toArray[i]?=some o:=by simpa using ho
   have e2:(l.take n).toArray[i]?=some o:=by simp[hi,ho]
   rw[e1,e2,(hlh i hi).1]
   constructor
   ·rintro⟨h0,o',ho',hall⟩
    cases ho'
    exact⟨h0,o,rfl,fun e he hb=>by rw[(hlh e.on (by have:=hlo e he hb;omega)).2];exact hall e he hb⟩
   ·rintro⟨h0,o',ho',hall⟩
    cases ho'
    exact⟨h0,o,rfl,fun e he hb=>by have:=hall e he hb;rwa[(hlh e.on (by have:=hlo e he hb;omega)).2]at this⟩
  refine⟨fun h0=>?_,fun i hi=>?_⟩
  ·exfalso
   have hleast:∀(d y:Nat),y=d→y<n→listed.getD y true=false→∃z,z∈Region.ready .any l.toArray listed:=by
    intro d
    induction d using Nat.strongRecOn with
    |_ d ih=>
     intro y hy hyn hyu
     obtain⟨o,ho,_,hlo⟩:=lowB_spec hlow hyn
     by_cases hall:∀e∈o.after,Region.binds .any e=true→listed.getD e.on false=true
     ·exact⟨y,mem_ready.2 ⟨hyu,o,by simpa using ho,hall⟩⟩
     ·have hex:∃e,e∈o.after∧Region.binds .any e=true∧listed.getD e.on false≠true:=by
       apply Classical.byContradiction
       intro hno
       exact hall fun e he hb=>Classical.byContradiction fun hne=>hno ⟨e,he,hb,hne⟩
      obtain⟨e,he,hb,hne⟩:=hex
      have hlt:=hlo e he hb
      have hsz:=inv.size
      refine ih e.on (by omega) e.on rfl (by omega) (getD_in (by rw[hsz];simp;omega) (by simpa using hne))
   obtain⟨z,hz⟩:=hleast x x rfl hxn hxu
   rw[h0]at hz;cases hz
  ·have hin:=hready i hi
   have h1:=h.2 i ((hhead i hin).1 hi)
   obtain⟨o,ho,hg,_⟩:=lowB_spec hlow hin
   have e1:l.toArray[i]?=some o:=by simpa using ho
   have e2:(l.take n).toArray[i]?=some o:=by simp[hin,ho]
   have hiu:=(mem_ready.1 hi).1
   have his:i∈s:=(hmem i).2 ⟨hin,hiu⟩
   unfold wpOp
   simp only[e1]
   rw[if_pos (wanted_free hg _)]
   unfold qOp at h1
   simp only[e2]at h1
   rw[if_pos (wanted_free hg _)]at h1
   refine .inl (Oper.wp_of_quiet hw (fun a' w' hw' hk=>?_) h1)
   refine split_any hn hs hc hlow hseq f (s.erase i) (listed.setIfInBounds i true) (lh.setIfInBounds i true) a' w' (by rw[List.length_erase_of_mem his];omega) (hnd.erase i) (fun j=>?_) (inv.set hi hin) (fun j hj=>getD_set_true (hmm j hj)) (fun j hj=>?_) hw' hk
   ·rw[hnd.mem_erase_iff]
    by_cases hji:j=i
    ·subst hji
     have hsz:=inv.size
     have hlt:j<listed.size:=by rw[hsz];simp;omega
     constructor
     ·intro hh;exact absurd rfl hh.1
     ·rintro⟨_,hh⟩;simp[hlt]at hh
    ·rw[getD_set_ne true (Ne.symm hji),hmem j]
     constructor
     ·intro hh;exact hh.2
     ·intro hh;exact⟨hji,hh⟩
   ·by_cases hji:j=i
    ·subst hji
     have hsz:=inv.size
     have hlt:j<listed.size:=by rw[hsz];simp;omega
     have hlt2:j<lh.size:=by
      rcases Nat.lt_or_ge j lh.size with g|g
      ·exact g
      ·have:=(hlh j hj).1
       rw[hiu]at this
       simp[Array.getElem?_eq_none g]at this
     simp[hlt,hlt2]
    ·rw[getD_set_ne true (Ne.symm hji),getD_set_ne true (Ne.symm hji),getD_set_ne false (Ne.symm hji),getD_set_ne false (Ne.symm hji)]
     exact hlh j hj
theorem doneA_get(n g i:Nat)(d:Bool):(doneA n g).getD i d=if i<n then true else if i<n+g then false else d:=by
 unfold doneA
 rcases Nat.lt_or_ge i n with h|h
 ·rw[if_pos h]
  have e:(List.replicate n true++List.replicate g false).toArray[i]?=some true:=by
   rw[List.getElem?_toArray,List.getElem?_append_left (by simpa using h),List.getElem?_replicate,if_pos h]
  rw[Array.getD_eq_getD_getElem?,e];rfl
 ·rw[if_neg (by omega)]
  rcases Nat.lt_or_ge i (n+g)with h'|h'
  ·rw[if_pos h']
   have e:(List.replicate n true++List.replicate g false).toArray[i]?=some false:=by
    rw[List.getElem?_toArray,List.getElem?_append_right (by simpa using h),List.length_replicate,List.getElem?_replicate,if_pos (by omega)]
   rw[Array.getD_eq_getD_getElem?,e];rfl
  ·rw[if_neg (by omega)]
   have e:(List.replicate n true++List.replicate g false).toArray[i]?=none:=by
    rw[List.getElem?_toArray,List.getElem?_eq_none (by simp;omega)]
   rw[Array.getD_eq_getD_getElem?,e];rfl
theorem split_from{P:Program}{C:World→Prop}{Q:Exit→Act→World→Prop}{l:List Oper}{m n:Nat}(hB:splitB l m n=true)(hmn:m≤n)(hlow0:∀j oj,l[j]?=some oj→j<m→∀e∈oj.after,Region.binds .any e=true→e.on<m){a:Act}{w:World}(hC:C w)
  (h:wpQuiet P (l.take n).toArray C (fun a'=>∀w',C w'→wpList P l.toArray Q (l.drop n) a' w') ((l.take n).drop m) a):wpAny P .any l.toArray Q (l.length-m) (doneA m (l.length-m)) a w:=by
 simp only[splitB,Bool.and_eq_true,decide_eq_true_eq]at hB
 obtain⟨⟨⟨⟨⟨⟨⟨_,hsel⟩,hlex⟩,hn⟩,hs⟩,hc⟩,hlow⟩,hseq⟩:=hB
 have htl:((l.take n).drop m).length=n-m:=by simp;omega
 have hq:=wpAnyQ_lex (C:=C) (md:=.any) hsel ((l.take n).drop m) m (doneA m (n-m)) a (by simp) (by rw[htl];exact hlex) h
 rw[htl]at hq
 have hinv:HeadInv .any l.toArray n (doneA m (l.length-m)):=by
  refine⟨by simp[doneA];omega,fun j oj hj hl e he hb=>?_,fun t ht ht2=>?_⟩
  ·rw[doneA_get]at hl
   have hjm:j<m:=by
    rcases Nat.lt_or_ge j m with g|g
    ·exact g
    ·rw[if_neg (by omega)]at hl;split at hl<;>cases hl
   rw[doneA_get,if_pos (hlow0 j oj (by simpa using hj) hjm e he hb)]
  ·rw[doneA_get,if_neg (by omega),if_pos (by simp at ht2;omega)]
 have:=split_any (Q:=Q) (m:=m) hn hs hc hlow hseq (n-m) ((List.range n).drop m) (doneA m (l.length-m)) (doneA m (n-m)) a w (by simp) (List.nodup_range.sublist (List.drop_sublist _ _)) (fun i=>by
   rw[doneA_get]
   constructor
   ·intro hi
    obtain⟨k,hk,hk2⟩:=List.mem_iff_getElem.1 hi
    simp at hk hk2
    rw[if_neg (by omega),if_pos (by omega)]
    exact⟨by omega,rfl⟩
   ·rintro⟨hi,hu⟩
    have hmi:m≤i:=by
     rcases Nat.lt_or_ge i m with g|g
     ·rw[if_pos g]at hu;cases hu
     ·exact g
    exact List.mem_iff_getElem.2 ⟨i-m,by simp;omega,by simp;omega⟩) hinv (fun i hi=>by rw[doneA_get,if_pos hi]) (fun i hi=>by
   simp only[doneA_get]
   constructor
   ·by_cases g:i<m
    ·rw[if_pos g,if_pos g]
    ·rw[if_neg g,if_neg g,if_pos (by omega),if_pos (by omega)]
   ·by_cases g:i<m
    ·rw[if_pos g,if_pos g]
    ·rw[if_neg g,if_neg g,if_pos (by omega),if_pos (by omega)]) hC hq
 rw[show n-m+(l.length-n)=l.length-m by omega]at this
 exact this
theorem quiet_build{P:Program}{C:World→Prop}{K:Act→Prop}{a:Act}{o:Oper}(t:TypeId)(parts:Array (Nat×Operand))(ho:o.op=.build t parts)(d:Option Tmp)(hd:o.dst=d)(cells:Array Value)
  (hf:P.built t (parts.map fun(i,x)=>(i,a.eval x)).toList=some cells) (hk:K (a.put d (.agg cells))):o.quiet P a C K:=by
 subst hd
 exact⟨_,fun w hw=>by
  unfold Oper.quietAt execOp
  simp only[ho,Sem.run_bind,run_build w t _ cells hf,Result.andThen_ok]
  exact⟨rfl,rfl⟩,hk⟩
theorem wp_region_split1{P:Program}{id:Nat}{Q:Exit→Act→World→Prop}{a:Act}{w:World}{o:Oper}{l:List Oper}(n:Nat)(C:World→Prop)(hm:P.follows .mixedOrders=true)(hB:splitB (o::l) 1 (n+1)=true)(hC:C w.drew)
  (x:Operand) (ho:o.op=.move x) (hg:o.guard=none) (ha:o.after=#[]) (hf:Region.free .any (o::l).toArray (Array.replicate (l.length+1) false) 0=true) (hQ:∀c a' w',Q (.panic c) (a'.put o.dst (a.eval x)) w'→Q (.panic c) a' w')
  (h:wpQuiet P ((o::l).take (n+1)).toArray C (fun a'=>∀w',C w'→wpList P (o::l).toArray Q (l.drop n) a' w') (l.take n) (a.put o.dst (a.eval x))):(Code.region id (o::l).toArray true).wp P Q a w:=by
 refine wp_region_any hm ?_
 have hB':=hB
 simp only[splitB,Bool.and_eq_true,decide_eq_true_eq]at hB'
 obtain⟨⟨⟨⟨⟨⟨⟨hsel,_⟩,_⟩,_⟩,_⟩,_⟩,_⟩,_⟩:=hB'
 have h1:=split_from (Q:=Q) (a:=a.put o.dst (a.eval x)) (w:=w.drew) hB (by omega) (fun j oj hj hj1 e he hb=>by
  obtain rfl:j=0:=by omega
  have:oj=o:=by simpa using hj.symm
  rw[this,ha]at he
  simp at he) hC (by simpa using h)
 have e1:(o::l).toArray.size=l.length+1:=by simp
 rw[e1]
 refine wpAny_take (i:=0) (oi:=o) (v:=a.eval x) (by simp) hsel hf ?_ hQ (.inl ⟨by simp[Region.wanted,hg],fun w'=>by simp[execOp,ho]⟩) ?_
 ·have:0∈Region.ready .any (o::l).toArray (Array.replicate (l.length+1) false):=mem_ready.2 ⟨by simp,o,by simp,fun e he=>by rw[ha]at he;simp at he⟩
  simpa using this
 ·have e2:(Array.replicate (l.length+1) false).setIfInBounds 0 true=doneA 1 ((o::l).length-1):=by
   apply Array.ext_getElem?
   intro i
   unfold doneA
   rcases i with _|i
   ·simp
   ·simp[Array.getElem?_replicate,List.getElem?_replicate]
  rw[e2]
  exact h1
theorem wp_split_after1{P:Program}{id:Nat}{Q:Exit→Act→World→Prop}{a:Act}{w:World}{o:Oper}{l:List Oper}(n m:Nat)(U:World)(hU:Below m U w)(hm:P.follows .mixedOrders=true)(hB:splitB (o::l) 1 (n+1)=true)
  (x:Operand) (v:Value) (hv:a.eval x=v) (d:Option Tmp) (hd:o.dst=d) (ho:o.op=.move x) (hg:o.guard=none) (ha:o.after=#[]) (hf:Region.free .any (o::l).toArray (Array.replicate (l.length+1) false) 0=true) (hQ:∀c a' w',Q (.panic c) (a'.put d v) w'→Q (.panic c) a' w')
  (h:wpQuiet P ((o::l).take (n+1)).toArray (fun V=>∃p:After m U,V=p.w) (fun a'=>∀V,(∃p:After m U,V=p.w)→wpList P (o::l).toArray Q (l.drop n) a' V) (l.take n) (a.put d v)):(Code.region id (o::l).toArray true).wp P Q a w:=by
 subst hv;subst hd
 exact wp_region_split1 n _ hm hB ⟨⟨_,hU.drew⟩,rfl⟩ x ho hg ha hf hQ h
end Go.Proofs.YtokpcpjnihinfaaGreat
namespace Go.Proofs.YtokpcpjnihinfaaGreat
open Go.RowKit Go.ChangeShapes Go.WideShapes Go.ChangeAt Go.Joins
def tok0:Tok:=⟨0,0,0⟩
def tokC(t:Tok):List Value:=[.int .u8 (t.x:Int),.int .i64 t.d,.int .i64 t.n]
def toksL:List Tok→List Value
 |[]=>[]
 |t::l=>tokC t++toksL l
theorem toksL_length:∀l,(toksL l).length=l.length*3
 |[]=>rfl
 |t::l=>by simp only[toksL,List.length_append,List.length_cons,toksL_length l];simp[tokC];omega
theorem toksL_app:∀l m,toksL (l++m)=toksL l++toksL m
 |[],_=>rfl
 |t::l,m=>by simp[toksL,toksL_app l m]
theorem toksL_get:∀(l:List Tok) (j i:Nat),j<l.length→i<3→(toksL l)[j*3+i]?=(tokC (l.getD j tok0))[i]?
 |[],j,i,h,_=>absurd h (by simp)
 |t::l,0,i,_,hi=>by
  simp only[toksL,Nat.zero_mul,Nat.zero_add]
  rw[List.getElem?_append_left (by simpa[tokC]using hi)]
  rfl
 |t::l,j+1,i,h,hi=>by
  simp only[toksL]
  rw[List.getElem?_append_right (by simp[tokC];omega)]
  have e:(j+1)*3+i-(tokC t).length=j*3+i:=by simp[tokC];omega
  rw[e,toksL_get l j i (by simpa using h) hi]
  rfl
theorem infoTok:(Tryz.prog.info? 128).map (fun i=>(i.zero,i.size,i.bytes))=some (some (.agg #[.int .u8 0,.int .i64 0,.int .i64 0]),3,24):=by kernel_rfl
theorem szTok:(Tryz.prog.info? 128).map (·.size)=some 3:=by kernel_rfl
def RdT(w:World)(B:Nat)(A:Option Addr)(l:List Tok):Prop:=SrcL w B 3 A l.length (toksL l)
theorem RdT.below{w w':World}{B B':Nat}{A:Option Addr}{l:List Tok}(h:RdT w B A l)(hb:Below B' w w')(hB:B≤B'):RdT w' B A l:=SrcL.below h hb hB
theorem RdT.more{w:World}{B B':Nat}{A:Option Addr}{l:List Tok}(h:RdT w B A l)(hB:B≤B'):RdT w B' A l:=SrcL.more h hB
theorem RdT.nil(w:World)(B:Nat)(A:Option Addr):RdT w B A []:=SrcL.none_ w B 3 A
theorem RdT.of_own{w:World}{base c n:Nat}{A:Option Addr}{l:List Tok}(h:w.ownsRow base 128 3 (.slice A n c) n (toksL l)):n=l.length∧RdT w w.heap.size A l:=by
 have h1:=SrcL.of_own h
 have h2:=h1.1
 rw[toksL_length]at h2
 obtain rfl:n=l.length:=by omega
 exact⟨rfl,h1⟩
theorem RdT.at{w:World}{B:Nat}{A:Option Addr}{l:List Tok}(h:RdT w B A l){k:Nat}(hk:k<l.length):∃b o,A=some ⟨b,o,none⟩∧b<B∧∀j,j<l.length→
  w.cell? ⟨b,o+j*3,none⟩=some (.int .u8 ((l.getD j tok0).x:Int))∧w.cell? ⟨b,o+j*3+1,none⟩=some (.int .i64 (l.getD j tok0).d)∧w.cell? ⟨b,o+j*3+2,none⟩=some (.int .i64 (l.getD j tok0).n):=by
 obtain⟨b,o,h1,h2,h3⟩:=h.2 (by omega)
 refine⟨b,o,h1,h2,fun j hj=>⟨?_,?_,?_⟩⟩
 ·have:=h3 (j*3+0) _ ((toksL_get l j 0 hj (by omega)).trans rfl)
  simpa using this
 ·have:=h3 (j*3+1) _ ((toksL_get l j 1 hj (by omega)).trans rfl)
  rw[show o+j*3+1=o+(j*3+1) by omega];exact this
 ·have:=h3 (j*3+2) _ ((toksL_get l j 2 hj (by omega)).trans rfl)
  rw[show o+j*3+2=o+(j*3+2) by omega];exact this
theorem RdT.range{w:World}{B:Nat}{A:Option Addr}{l:List Tok}(h:RdT w B A l){b o:Nat}(hA:A=some ⟨b,o,none⟩){j:Nat}(hj:j<l.length):w.rangeAt b (o+j*3) (tokC (l.getD j tok0)):=by
 obtain⟨b',o',h1,_,h3⟩:=h.at hj
 rw[hA]at h1
 injection h1 with h1
 injection h1 with hb ho _
 subst hb;subst ho
 obtain⟨c0,c1,c2⟩:=h3 j hj
 intro i v hv
 rcases i with _|_|_|i
 ·simp[tokC]at hv;subst hv;exact c0
 ·simp[tokC]at hv;subst hv;exact c1
 ·simp[tokC]at hv;subst hv;exact c2
 ·simp[tokC]at hv
end Go.Proofs.YtokpcpjnihinfaaGreat
namespace Go.Proofs.YtokpcpjnihinfaaGreat
open Go.RowKit
theorem bitsT_take_le(l:List (Nat×Nat))(i:Nat):bitsT (l.take i)≤bitsT l:=by
 have:=bitsT_app (l.take i) (l.drop i)
 rw[List.take_append_drop]at this
 omega
end Go.Proofs.YtokpcpjnihinfaaGreat
namespace Go.Proofs.YtokpcpjnihinfaaGreat
open Go.RowKit
theorem below_drawN{B:Nat}{a w:World}(h:Below B a w)(n:Nat):Below B a (w.drewN n):=⟨h.os,h.tape,h.output,h.size,h.block⟩
def RowC(w:World)(g n:Nat)(x l:Nat→Nat):Prop:=
 ∃cur:Array Value,w.heap[g]?=some (.cells cur 176 (0,0))∧∀j,j<n→cur[j*2]?=some (.int .u32 (x j:Int))∧cur[j*2+1]?=some (.int .u8 (l j:Int))
theorem RowC.lt{w:World}{g n:Nat}{x l:Nat→Nat}(h:RowC w g n x l):g<w.heap.size:=by
 obtain⟨cur,h1,_⟩:=h;exact(Array.getElem?_eq_some_iff.1 h1).1
theorem RowC.cell{w:World}{g n:Nat}{x l:Nat→Nat}(h:RowC w g n x l){j:Nat}(hj:j<n):w.cell? ⟨g,j*2,none⟩=some (.int .u32 (x j:Int))∧w.cell? ⟨g,j*2+1,none⟩=some (.int .u8 (l j:Int)):=by
 obtain⟨cur,h1,h2⟩:=h
 rw[cell_of_row w g _ _ _ (0,0) h1,cell_of_row w g _ _ _ (0,0) h1];exact h2 j hj
theorem RowC.frozen{w:World}{g n:Nat}{x l:Nat→Nat}(h:RowC w g n x l)(j:Nat):w.frozen? ⟨g,j,none⟩=false:=by
 obtain⟨cur,h1,_⟩:=h;exact frozen_of_row w g j _ _ h1
theorem RowC.ext{w:World}{g n:Nat}{x l x' l':Nat→Nat}(h:RowC w g n x l)(ex:∀j,j<n→x j=x' j)(el:∀j,j<n→l j=l' j):RowC w g n x' l':=by
 obtain⟨cur,h1,h2⟩:=h;exact⟨cur,h1,fun j hj=>by rw[←ex j hj,←el j hj];exact h2 j hj⟩
theorem RowC.below{w w':World}{g n B:Nat}{x l:Nat→Nat}(h:RowC w g n x l)(hb:Below B w w')(hg:g<B):RowC w' g n x l:=by
 obtain⟨cur,h1,h2⟩:=h;exact⟨cur,(hb.block g hg).trans h1,h2⟩
theorem RowC.other{w:World}{g n:Nat}{x l:Nat→Nat}(h:RowC w g n x l){p:Addr}(hp:g≠p.block)(u:Value):RowC (w.setCell p u) g n x l:=by
 obtain⟨cur,h1,h2⟩:=h;exact⟨cur,(Below.heap_setCell w p u g hp).trans h1,h2⟩
theorem RowC.set{w:World}{g n:Nat}{x l:Nat→Nat}(h:RowC w g n x l)(i a b:Nat):RowC ((w.setCell ⟨g,i*2,none⟩ (.int .u32 (a:Int))).setCell ⟨g,i*2+1,none⟩ (.int .u8 (b:Int))) g n (upd x i a) (upd l i b):=by
 obtain⟨cur,h1,h2⟩:=h
 refine⟨(cur.setIfInBounds (i*2) (.int .u32 (a:Int))).setIfInBounds (i*2+1) (.int .u8 (b:Int)),heap_setCell_same _ g _ _ _ _ (heap_setCell_same w g _ cur _ _ h1),fun j hj=>?_⟩
 have hs:j*2+1<cur.size:=by
  rcases Nat.lt_or_ge (j*2+1) cur.size with h|h
  ·exact h
  ·have:=(h2 j hj).2;rw[Array.getElem?_eq_none h]at this;cases this
 have h3:=h2 j hj
 simp only[Array.getElem?_setIfInBounds,Array.size_setIfInBounds,upd]
 by_cases e:j=i
 ·subst e
  constructor
  ·rw[if_neg (by omega),if_pos rfl,if_pos (by omega),if_pos rfl]
  ·rw[if_pos rfl,if_pos (by omega),if_pos rfl]
 ·constructor
  ·rw[if_neg (by omega),if_neg (by omega),if_neg e];exact h3.1
  ·rw[if_neg (by omega),if_neg (by omega),if_neg e];exact h3.2
def OutC(base:Nat)(w:World)(A:Option Addr)(n:Nat)(x l:Nat→Nat):Prop:=n=0∨∃g,A=some ⟨g,0,none⟩∧base≤g∧RowC w g n x l
def zeroN(_:Nat):Nat:=0
theorem infoCode:(Tryz.prog.info? 176).map (fun i=>(i.zero,i.size,i.bytes))=some (some (.agg #[.int .u32 0,.int .u8 0]),2,8):=by kernel_rfl
theorem rowC_made(w:World)(n:Nat):RowC (w.alloc (.cells (madeCells #[.int .u32 0,.int .u8 0] (n*2)) 176)) w.heap.size n zeroN zeroN:=by
 refine⟨_,heap_alloc_new w _,fun j hj=>?_⟩
 unfold madeCells zeroN
 have e1:j*2%2=0:=by omega
 have e2:(j*2+1)%2=1:=by omega
 constructor
 ·simp[show j*2<n*2 by omega,e1]
 ·simp[show j*2+1<n*2 by omega,e2]
end Go.Proofs.YtokpcpjnihinfaaGreat
namespace Go.Proofs.YtokpcpjnihinfaaGreat
open Go.RowKit
theorem szCodeL(a b:Value):(Tryz.prog.info? 176).map (·.size)=some [a,b].length:=by kernel_rfl
end Go.Proofs.YtokpcpjnihinfaaGreat
