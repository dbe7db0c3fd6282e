/-
  Words and walks.
-/
import Derived.BigRegion
import Derived.BigQuiet
import Derived.Great.BuildSlice
import Derived.Test.YtokpcpjnihinfaaGreatpnaa
import Derived.Test.YtokpcpjnihinfaaGreatpnab
import Derived.Test.YtokpcpjnihinfaaGreatpnac
import Derived.Test.YtokpcpjnihinfaaGreatpnaj
import Derived.Test.YtokpcpjnihinfaaGreatpnam
import Derived.Test.YtokpcpjnihinfaaGreatpnao
set_option maxRecDepth 100000
set_option maxHeartbeats 16000000
namespace Go.Proofs.YtokpcpjnihinfaaGreat
open Go.RowKit Go.ChangeShapes Go.WideShapes Go.ChangeAt Go.Joins
theorem cutN_least(f:Nat→Nat)(least:Nat):∀n,n≤least→cutN f least n=least
 |0,_=>rfl
 |k+1,h=>by simp only[cutN];rw[if_neg (by omega)];exact cutN_least f least k (by omega)
theorem cut11_any(w:World)(A:Option Addr)(n c:Nat)(f:Nat→Nat)(least:Nat)(hr:RdB w w.heap.size A n f)(hnc:n≤c)(hn:n≤1000)(hl:least≤n):
  Calls Tryz.prog 132 #[.slice A n c,.int .i64 (least:Int)] w fun e w'=>e=.returned (.slice A (cutN f least n) c)∧w=w':=by
 have HR:=Lib.hid hr
 obtain⟨C,hC⟩:∃C,C=cutN f least n:=⟨_,rfl⟩
 rw[←hC]
 have HC:=Lib.hid hC
 clear hr hC
 go_enter Tryz.func132,Tryz.ntmps132
 go_wp2_with fail
 go_loopw [5] (fun nv wr=>∃k:Nat,least≤k∧k≤n∧nv=.int .i64 (k:Int)∧Hid (C=cutN f least k)∧w=wr) (fun nv _=>(intOf nv).toNat)
 case atStart=>exact⟨n,hl,Nat.le_refl _,rfl,HC,rfl⟩
 case round=>
  obtain⟨k,hk1,hk2,rfl,HK,rfl⟩:=hrel
  by_cases h1:least<k
  ·have hi1:(least:Int)<(k:Int):=by omega
   obtain⟨b,o,rfl,hb,hc⟩:=HR.out.2 (by omega)
   obtain⟨j,rfl⟩:∃j,k=j+1:=⟨k-1,by omega⟩
   have c1:=hc j (by omega)
   have hj:((j+1:Nat):Int)-1=(j:Int):=by omega
   have hjn:(j:Int)<(n:Int):=by omega
   obtain⟨x,hx⟩:∃x,x=f j:=⟨_,rfl⟩
   have hxl:x<256:=by rw[hx];exact HR.out.1 j
   rw[←hx]at c1
   have HX:=Lib.hid hx
   clear hc hx
   by_cases h2:x=0
   ·subst h2
    have hcn:C=cutN f least j:=by
     rw[HK.out];simp only[cutN];rw[if_neg (by rw[←HX.out];omega)]
    have HCN:=Lib.hid hcn
    clear hcn
    go_wp2
    go_roundw
    case rel=>exact⟨j,by omega,by omega,by go_num,HCN,trivial⟩
    case measure=>simp[intOf]
   ·have hxi:((x:Int)==0)=false:=by rw[beq_eq_false_iff_ne];omega
    have hcn:C=j+1:=by
     rw[HK.out];simp only[cutN];rw[if_pos ⟨by omega,by rw[←HX.out];exact h2⟩]
    subst hcn
    have hjc:((j+1:Nat):Int)≤(c:Int):=by omega
    have hjc2:j+1≤c:=by omega
    go_wp2
    go_ret
    exact⟨rfl,rfl⟩
  ·obtain rfl:k=least:=by omega
   have hi1:¬(k:Int)<(k:Int):=by omega
   have hcn:C=k:=by rw[HK.out];exact cutN_least f k k (Nat.le_refl _)
   subst hcn
   have hjc:(C:Int)≤(c:Int):=by omega
   have hjc2:C≤c:=by omega
   go_wp2
   go_ret
   exact⟨rfl,rfl⟩
def cstN(T f:Nat→Nat):Nat→Nat
 |0=>0
 |i+1=>cstN T f i+T i*f i
theorem cstN_le{T f:Nat→Nat}{M:Nat}(hT:∀i,T i≤M)(hf:∀i,f i≤256):∀n,cstN T f n≤n*(M*256)
 |0=>Nat.zero_le _
 |n+1=>by
  have h1:=cstN_le hT hf n
  have h2:=Nat.mul_le_mul (hT n) (hf n)
  show cstN T f n+T n*f n≤_
  rw[Nat.add_mul,Nat.one_mul];omega
def RdJ(w:World)(b o n:Nat)(T:Nat→Nat):Prop:=∀i,i<n→w.cell? ⟨b,o+i,none⟩=some (.int .i64 ((T i:Nat):Int))
theorem cost11_any(w:World)(b o n c:Nat)(T:Nat→Nat)(A2:Option Addr)(m c2:Nat)(f:Nat→Nat)(hT:RdJ w b o n T)(hb:b<w.heap.size)(hTb:∀i,T i≤1000001)(hn:n≤1000)(hr:RdB w w.heap.size A2 m f)(k:Nat)(hk:k=min m n):
  Calls Tryz.prog 128 #[.slice (some ⟨b,o,none⟩) n c,.slice A2 m c2] w fun e w'=>e=.returned (.int .i64 ((cstN T f k:Nat):Int))∧Below w.heap.size w w':=by
 have HT:=Lib.hid hT;have HR:=Lib.hid hr;have HTB:=Lib.hid hTb
 clear hT hr hTb
 rcases Nat.lt_or_ge m n with hmn|hmn
 case' inl=>(have hkm:k=m:=by omega);clear hk;obtain rfl:=hkm
 case' inr=>(have hkm:k=n:=by omega);clear hk;obtain rfl:=hkm
 all_goals(
  go_enter Tryz.func128,Tryz.ntmps128
  go_wp2_with fail
  go_loopw [5,12] (fun sv iv wr=>∃i:Nat,i≤k∧iv=.int .i64 (i:Int)∧sv=.int .i64 ((cstN T f i:Nat):Int)∧Hid (Below w.heap.size w wr)) (fun _ iv _=>k-(intOf iv).toNat)
  case atStart=>exact⟨0,Nat.zero_le _,rfl,rfl,Lib.hid (Below.refl _ _)⟩
  case round=>
   obtain⟨i,hi,rfl,rfl,HB⟩:=hrel
   by_cases hlt:i<k
   ·have hlti:(i:Int)<(k:Int):=by omega
    first|(have hltn:(i:Int)<(n:Int):=by omega)|skip
    first|(have hltm:(i:Int)<(m:Int):=by omega)|skip
    obtain⟨b2,o2,rfl,hb2,hc2⟩:=HR.out.2 (by omega)
    have k1:wr.cell? ⟨b,o+i,none⟩=some (.int .i64 ((T i:Nat):Int)):=(HB.out.cell (p:=⟨b,o+i,none⟩) hb).trans (HT.out i (by omega))
    have k2:wr.cell? ⟨b2,o2+i,none⟩=some (.int .u8 ((f i:Nat):Int)):=(HB.out.cell (p:=⟨b2,o2+i,none⟩) hb2).trans (hc2 i (by omega))
    have hcl:=cstN_le HTB.out (fun j=>Nat.le_of_lt (HR.out.1 j)) i
    have hTi:=HTB.out i
    have hfi:=HR.out.1 i
    have hp:=Nat.mul_le_mul hTi (Nat.le_of_lt hfi)
    have hS:cstN T f (i+1)=cstN T f i+T i*f i:=rfl
    obtain⟨S,hSe⟩:∃S,S=cstN T f i:=⟨_,rfl⟩
    obtain⟨x,hx⟩:∃x,x=T i:=⟨_,rfl⟩
    obtain⟨y,hy⟩:∃y,y=f i:=⟨_,rfl⟩
    rw[←hSe,←hx,←hy]at hS
    rw[←hSe]at hcl⊢
    rw[←hx]at k1 hTi hp
    rw[←hy]at k2 hfi hp
    obtain⟨z,hz⟩:∃z,z=x*y:=⟨_,rfl⟩
    have hzi:(x:Int)*(y:Int)=(z:Int):=by rw[hz,Int.natCast_mul]
    rw[←hz]at hS hp
    have hSb:S≤256001000000:=by
     have:=Nat.mul_le_mul (show i≤1000 by omega) (Nat.le_refl (1000001*256))
     omega
    have HS:=Lib.hid hS
    have hw1:IntKind.i64.wrap ((x:Int)*(y:Int))=(z:Int):=by rw[hzi,IntWalk.i64_in _ ⟨by omega,by omega⟩]
    clear hS hcl hSe hx hy hz hc2
    go_wp2
    go_region
    go_wp2
    go_roundw
    case rel=>exact⟨i+1,by omega,by go_num,by rw[HS.out];go_num,Lib.hid HB.out.drew⟩
    case measure=>simp[intOf];omega
   ·obtain rfl:i=k:=by omega
    have hlti:¬(i:Int)<(i:Int):=by omega
    go_wp2
    go_ret
    exact⟨rfl,HB.out⟩)
end Go.Proofs.YtokpcpjnihinfaaGreat
namespace Go.Proofs.YtokpcpjnihinfaaGreat
open Go.RowKit
def RowA(w:World)(g n:Nat)(f:Nat→Nat):Prop:=∃(cur:Array Value) (t:TypeId),w.heap[g]?=some (.cells cur t (0,0))∧∀j,j<n→cur[j]?=some (.int .u8 (f j:Int))
theorem RowA.lt{w:World}{g n:Nat}{f:Nat→Nat}(h:RowA w g n f):g<w.heap.size:=by
 obtain⟨cur,t,h,_⟩:=h;exact(Array.getElem?_eq_some_iff.1 h).1
theorem RowA.cell{w:World}{g n:Nat}{f:Nat→Nat}(h:RowA w g n f){j:Nat}(hj:j<n):w.cell? ⟨g,j,none⟩=some (.int .u8 (f j:Int)):=by
 obtain⟨cur,t,h,hc⟩:=h
 rw[cell_of_row w g j _ _ (0,0) h];exact hc j hj
theorem RowA.frozen{w:World}{g n:Nat}{f:Nat→Nat}(h:RowA w g n f)(j:Nat):w.frozen? ⟨g,j,none⟩=false:=by
 obtain⟨cur,t,h,_⟩:=h;exact frozen_of_row w g j _ _ h
theorem RowA.set{w:World}{g n:Nat}{f:Nat→Nat}(h:RowA w g n f)(i x:Nat):RowA (w.setCell ⟨g,i,none⟩ (.int .u8 (x:Int))) g n (upd f i x):=by
 obtain⟨cur,t,h,hc⟩:=h
 refine⟨cur.setIfInBounds i (.int .u8 (x:Int)),t,heap_setCell_same w g i _ _ _ h,fun j hj=>?_⟩
 have h1:=hc j hj
 have hs:j<cur.size:=(Array.getElem?_eq_some_iff.1 h1).1
 rw[Array.getElem?_setIfInBounds]
 unfold upd
 by_cases e:j=i
 ·subst e;rw[if_pos rfl,if_pos hs,if_pos rfl]
 ·rw[if_neg (fun g=>e g.symm),if_neg e];exact h1
theorem RowA.below{w w':World}{g n B:Nat}{f:Nat→Nat}(h:RowA w g n f)(hb:Below B w w')(hg:g<B):RowA w' g n f:=by
 obtain⟨cur,t,h,hc⟩:=h;exact⟨cur,t,(hb.block g hg).trans h,hc⟩
end Go.Proofs.YtokpcpjnihinfaaGreat
namespace Go.Proofs.YtokpcpjnihinfaaGreat
open Go.RowKit Go.ChangeShapes Go.WideShapes Go.ChangeAt Go.Joins
theorem index_ord(T:Nat→Int){k:Nat}(hk:k<19)(w:World):(Instr.index 193 (.agg (tblA T 19)) (.int .i64 (k:Int))).run Tryz.prog w=.ok (.int .i64 (T k)) w:=by
 have hce:Tryz.prog.cellsOf 3=1:=by kernel_rfl
 have hg:=tblA_get T 19 k hk
 simp[Instr.index,run_underlying Tryz.underlying193,asIntOf,go_sem]
 rw[if_pos hk,hg];rfl
theorem infoShort:(Tryz.prog.info? 236).map (fun i=>(i.zero,i.size))=some (some (.agg (bytesL 19 (fun _=>0)).toArray),19):=by kernel_rfl
theorem ordered_any(w:World)(A:Option Addr)(c:Nat)(f:Nat→Nat)(hr:RdB w w.heap.size A 19 f):
  Calls Tryz.prog 135 #[.slice A 19 c] w fun e w'=>e=.returned (.slice (some ⟨w.heap.size,0,none⟩) (cutN (fun i=>f (ordN i)) 4 19) 19)∧RowA w' w.heap.size 19 (fun i=>f (ordN i))∧Below w.heap.size w w':=by
 obtain⟨C,hC⟩:∃C,C=cutN (fun i=>f (ordN i)) 4 19:=⟨_,rfl⟩
 rw[←hC]
 have HC:=Lib.hid hC
 clear hC
 have hz:=(zero_of_info infoShort).1
 obtain⟨Z,hZ⟩:∃Z,Z=(bytesL 19 (fun _=>0)).toArray:=⟨_,rfl⟩
 rw[←hZ]at hz
 obtain⟨h,hh⟩:∃h,h=w.heap.size:=⟨_,rfl⟩
 obtain⟨W1,hW1⟩:∃W,W=w.alloc (.cells Z 236):=⟨_,rfl⟩
 have hb1:Below h w W1:=by rw[hW1,hh];exact(Below.refl _ _).alloc (Nat.le_refl _) _
 have hr1:RowA W1 h 19 (fun _=>0):=⟨Z,236,by rw[hW1,hh];exact heap_alloc_new w _,fun j hj=>by rw[hZ,List.getElem?_toArray,bytesL_get,if_pos hj]⟩
 rw[←hh]at hr⊢
 obtain⟨T,hT⟩:∃T:Nat→Int,T=fun i=>(ordN i:Int):=⟨_,rfl⟩
 have hord:=order_con W1
 rw[←hT]at hord
 have HORD:=Lib.hid hord;have HR:=Lib.hid hr;have HB1:=Lib.hid hb1;have HR1:=Lib.hid hr1;have HW1:=Lib.hid hW1;have HH:=Lib.hid hh;have HT:=Lib.hid hT
 clear hord hr hb1 hr1 hW1 hh hT hZ
 go_enter Tryz.func135,Tryz.ntmps135
 go_wp2_with (first|rw[←HW1.out,←HH.out]|fail)
 refine HORD.out.mono ?_
 rintro e w2 ⟨rfl,hb2⟩
 have hlt1:=HR1.out.lt
 have HB2:=Lib.hid (HB1.out.trans (hb2.mono (by omega)));have HR2:=Lib.hid (HR1.out.below hb2 hlt1)
 clear hb2 hlt1
 go_wp2_with fail
 go_loopw [7] (fun iv wr=>∃i:Nat,i≤19∧iv=.int .i64 (i:Int)∧Hid (RowA wr h 19 (fun j=>if j<i then f (ordN j)else 0))∧Hid (Below h w wr)) (fun iv _=>19-(intOf iv).toNat)
 case atStart=>exact⟨0,by omega,rfl,Lib.hid (by simpa using HR2.out),HB2⟩
 case round=>
  obtain⟨i,hi,rfl,HRW,HB⟩:=hrel
  by_cases hlt:i<19
  ·have hlti:(i:Int)<19:=by omega
   have hix:=fun u=>index_ord T hlt u
   have hTi:T i=((ordN i:Nat):Int):=by rw[HT.out]
   rw[hTi]at hix
   have hol:=ord_lt i
   obtain⟨q,hq⟩:∃q,q=ordN i:=⟨_,rfl⟩
   rw[←hq]at hix hol
   obtain⟨b,o,rfl,hb,hc⟩:=HR.out.2 (by omega)
   have k1:=(HB.out.cell (p:=⟨b,o+q,none⟩) hb).trans (hc q hol)
   have hfl:=HR.out.1 q
   obtain⟨x,hx⟩:∃x,x=f q:=⟨_,rfl⟩
   rw[←hx]at k1 hfl
   have z1:=HRW.out.frozen i
   have c1:=HRW.out.cell hlt
   have hql:(q:Int)<19:=by omega
   have hs:=HRW.out.set i x
   have e:upd (fun j=>if j<i then f (ordN j)else 0) i x=fun j=>if j<i+1 then f (ordN j)else 0:=by
    funext j;unfold upd
    by_cases h1:j=i
    ·rw[if_pos h1,if_pos (by omega),h1,hx,hq]
    ·rw[if_neg h1]
     show(if j<i then f (ordN j)else 0)=_
     by_cases h2:j<i
     ·rw[if_pos h2,if_pos (by omega)]
     ·rw[if_neg h2,if_neg (by omega)]
   rw[e]at hs
   have HS:=Lib.hid hs
   have hhl:h<wr.heap.size:=HRW.out.lt
   have hle:w.heap.size≤h:=by rw[HH.out];exact Nat.le_refl _
   clear hs e hx hq hTi hc
   go_wp2
   go_roundw
   case rel=>exact⟨i+1,by omega,by go_num,HS,Lib.hid (HB.out.setCell (Nat.le_refl _) _)⟩
   case measure=>simp[intOf];omega
  ·obtain rfl:i=19:=by omega
   have hlti:¬((19:Nat):Int)<19:=by omega
   have hrd:RdB wr wr.heap.size (some ⟨h,0,none⟩) 19 (fun i=>f (ordN i)):=⟨fun j=>HR.out.1 _,fun _=>⟨h,0,rfl,HRW.out.lt,fun j hj=>by rw[Nat.zero_add,HRW.out.cell hj,if_pos hj]⟩⟩
   have hct:=cut11_any wr (some ⟨h,0,none⟩) 19 19 (fun i=>f (ordN i)) 4 hrd (Nat.le_refl _) (by omega) (by omega)
   rw[←HC.out]at hct
   have HCT:=Lib.hid hct
   have HRF:Hid (RowA wr h 19 (fun i=>f (ordN i))):=by
    obtain⟨cur,t,h1,h2⟩:=HRW.out
    exact Lib.hid ⟨cur,t,h1,fun j hj=>by rw[h2 j hj];show some (Value.int .u8 (((if j<19 then f (ordN j)else 0:Nat)):Int))=_;rw[if_pos hj]⟩
   clear hct hrd
   go_wp2_with fail
   refine HCT.out.mono ?_
   rintro e w3 ⟨rfl,rfl⟩
   go_wp2
   go_ret
   exact⟨rfl,HRF.out,HB.out⟩
end Go.Proofs.YtokpcpjnihinfaaGreat
namespace Go.Proofs.YtokpcpjnihinfaaGreat
open Go.RowKit
def RowT(w:World)(g n:Nat)(T:Nat→Nat)(t:TypeId):Prop:=w.heap[g]?=some (.cells (tblA (fun i=>((T i:Nat):Int)) n) t (0,0))
theorem RowT.lt{w:World}{g n:Nat}{T:Nat→Nat}{t:TypeId}(h:RowT w g n T t):g<w.heap.size:=(Array.getElem?_eq_some_iff.1 h).1
theorem RowT.cell{w:World}{g n:Nat}{T:Nat→Nat}{t:TypeId}(h:RowT w g n T t){i:Nat}(hi:i<n):w.cell? ⟨g,i,none⟩=some (.int .i64 ((T i:Nat):Int)):=by
 rw[cell_of_row w g i _ _ (0,0) h];exact tblA_get _ n i hi
theorem RowT.frozen{w:World}{g n:Nat}{T:Nat→Nat}{t:TypeId}(h:RowT w g n T t)(i:Nat):w.frozen? ⟨g,i,none⟩=false:=frozen_of_row w g i _ _ h
theorem RowT.below{w w':World}{g n B:Nat}{T:Nat→Nat}{t:TypeId}(h:RowT w g n T t)(hb:Below B w w')(hg:g<B):RowT w' g n T t:=(hb.block g hg).trans h
theorem RowT.drew{w:World}{g n:Nat}{T:Nat→Nat}{t:TypeId}(h:RowT w g n T t):RowT w.drew g n T t:=h
theorem RowT.set{w:World}{g n:Nat}{T T':Nat→Nat}{t:TypeId}(h:RowT w g n T t)(i x:Nat)(he:∀k,k<n→(if k=i then x else T k)=T' k):RowT (w.setCell ⟨g,i,none⟩ (.int .i64 (x:Int))) g n T' t:=by
 unfold RowT
 rw[heap_setCell_same w g i _ _ _ h,tbl_set]
 refine congrArg (fun a=>some (Obj.cells a t (0,0))) (tbl_ext fun k hk=>?_)
 rw[←he k hk]
 split<;>rfl
theorem RowT.rd{w:World}{g n:Nat}{T:Nat→Nat}{t:TypeId}(h:RowT w g n T t)(o m:Nat)(hm:o+m≤n):RdI w w.heap.size (some ⟨g,o,none⟩) (frqL (fun i=>T (o+i)) m):=by
 refine⟨by simp[intsL,frqL],fun _=>⟨g,o,rfl,h.lt,fun j u hu=>?_⟩⟩
 have hj:j<m:=by
  rcases Nat.lt_or_ge j m with k|k
  ·exact k
  ·rw[List.getElem?_eq_none (by simpa[intsL,frqL]using k)]at hu;cases hu
 rw[h.cell (show o+j<n by omega),←hu]
 simp[intsL,frqL,hj]
end Go.Proofs.YtokpcpjnihinfaaGreat
namespace Go.Proofs.YtokpcpjnihinfaaGreat
open Go.RowKit Go.ChangeShapes Go.WideShapes Go.ChangeAt Go.Joins
theorem len_ask{c:Nat→Nat}{n most:Nat}(h1:1≤most)(h2:most≤15)(hn:n≤320)(hn2:n≤2^most)(hc:∀i,c i≤1073741824):lenO (frqL c n) (most:Int)=n∧outL (frqL c n) (most:Int)=lenM c n most:=by
 refine⟨?_,rfl⟩
 unfold lenO
 rw[if_pos (ask_frq h1 h2 hn hn2 hc),frqL_length]
theorem shortest_any(w:World)(A:Option Addr)(m c:Nat)(l:List (Int×Int))(hm:m=l.length)(hr:RdU w w.heap.size A l)(hm2:m≤1000000)(hs:∀r∈l,0≤r.1∧r.1≤18):
  Calls Tryz.prog 134 #[.slice A m c] w fun e w'=>∃A' c',e=.returned (.slice A' 19 c')∧RdB w' w'.heap.size A' 19 (lenM (cntR l) 19 7)∧19≤c'∧c'≤1000∧(A'=none→c'=0)∧(∀b o,A'=some ⟨b,o,none⟩→w.heap.size≤b)∧Below w.heap.size w w':=by
 have hz:=(zero_of_info infoOrd).1
 obtain⟨Z,hZ⟩:∃Z:Nat→Int,Z=fun _=>0:=⟨_,rfl⟩
 rw[←hZ]at hz
 obtain⟨h,hh⟩:∃h,h=w.heap.size:=⟨_,rfl⟩
 obtain⟨W1,hW1⟩:∃W,W=w.alloc (.cells (tblA Z 19) 193):=⟨_,rfl⟩
 have hb1:Below h w W1:=by rw[hW1,hh];exact(Below.refl _ _).alloc (Nat.le_refl _) _
 have hr1:RowT W1 h 19 (cntR (l.take 0)) 193:=by
  unfold RowT
  rw[hW1,hh,heap_alloc_new,hZ]
  refine congrArg (fun a=>some (Obj.cells a 193 (0,0))) (tbl_ext fun k hk=>?_)
  simp[cntR]
 have HM:=Lib.hid hm;have HR:=Lib.hid hr;have HS:=Lib.hid hs;have HB1:=Lib.hid hb1;have HR1:=Lib.hid hr1;have HW1:=Lib.hid hW1;have HH:=Lib.hid hh
 clear hm hr hs hb1 hr1 hW1 hh hZ
 go_enter Tryz.func134,Tryz.ntmps134
 go_wp2_with (first|rw[←HW1.out,←HH.out]|fail)
 go_loopw [10] (fun iv wr=>∃i:Nat,i≤m∧iv=.int .i64 (i:Int)∧Hid (RowT wr h 19 (cntR (l.take i)) 193)∧Hid (Below h w wr)) (fun iv _=>m-(intOf iv).toNat)
 case atStart=>exact⟨0,Nat.zero_le _,rfl,HR1,HB1⟩
 case round=>
  obtain⟨i,hi,rfl,HRW,HB⟩:=hrel
  have hle:w.heap.size=h:=HH.out.symm
  by_cases hlt:i<m
  ·have hlti:(i:Int)<(m:Int):=by omega
   have hil:i<l.length:=by rw[←HM.out];exact hlt
   have htw:RdU wr h A l:=by have:=HR.out;rw[hle]at this;exact this.below HB.out (Nat.le_refl _)
   obtain⟨b,o,rfl,hbl,hc⟩:=htw.at hil
   have hrg:=htw.range rfl hil
   obtain⟨s0,s18⟩:=HS.out _ (run_mem hil)
   have htk:=runs_take hil
   obtain⟨⟨s,x⟩,ht⟩:∃t,t=l.getD i run0:=⟨_,rfl⟩
   rw[←ht]at hrg s0 s18 htk
   dsimp only at s0 s18
   obtain⟨q,rfl⟩:=Int.eq_ofNat_of_zero_le s0
   obtain⟨W3,hW3⟩:∃W3,W3=mkV wr #[.int .i64 0,.int .i64 0] #[.int .i64 (q:Int),.int .i64 x] 192:=⟨_,rfl⟩
   have hb3:Below wr.heap.size wr W3:=by rw[hW3];exact mkV_below _ _ _ _
   have hrow:W3.heap[wr.heap.size]?=some (.cells #[.int .i64 (q:Int),.int .i64 x] 192 (0,0)):=by rw[hW3];exact mkV_row wr _ _ _
   have y0:W3.cell? ⟨wr.heap.size,0,none⟩=some (.int .i64 (q:Int)):=(cell_of_row W3 _ 0 _ _ (0,0) hrow).trans rfl
   have hr3:=HRW.out.below hb3 HRW.out.lt
   have hq19:q<19:=by omega
   have hql:(q:Int)<19:=by omega
   have k1:=hr3.cell hq19
   have z1:=hr3.frozen q
   have hcl:=cntR_le (l.take i) q
   have htl:(l.take i).length≤1000000:=by rw[List.length_take];have:=HM.out;omega
   obtain⟨C,hC⟩:∃C,C=cntR (l.take i) q:=⟨_,rfl⟩
   have hset:=hr3.set (T':=cntR (l.take (i+1))) q (C+1) (fun k _=>by
    rw[htk,cntR_one,hC]
    by_cases hk:k=q
    ·subst hk;rw[if_pos rfl,if_pos rfl]
    ·rw[if_neg hk,if_neg (by dsimp only;omega)];omega)
   rw[←hC]at k1 hcl
   have HRG:=Lib.hid (show wr.rangeAt b (o+i*2) [.int .i64 (q:Int),.int .i64 x]from hrg)
   have HSET:=Lib.hid hset;have HB3:=Lib.hid (HB.out.trans (hb3.mono (by have:=HRW.out.lt;omega)));have HW3:=Lib.hid hW3
   have hC1:C≤1000000:=by omega
   have eC:((C+1:Nat):Int)=(C:Int)+1:=by omega
   rw[eC]at hset
   have HSET2:=Lib.hid hset
   have hgl:h<wr.heap.size:=HRW.out.lt
   clear hrg hset hb3 hrow hW3 htk ht hC hcl htl hr3 hc htw HSET
   go_wp2_with (first|refine wpList_load_mid rfl _ _ rfl b (o+i*2) rfl [.int .i64 (q:Int),.int .i64 x] _ HRG.out Tryz.underlying192 rfl szRun ?_|refine wpList_store_rowTo rfl _ _ _ rfl rfl wr.heap.size #[.int .i64 (q:Int),.int .i64 x] rfl rfl 192 #[.int .i64 0,.int .i64 0] (heap_alloc_new wr _) szRun rfl (by simp[Value.oneCell']) ?_;change wpList _ _ _ _ _ (mkV wr #[.int .i64 0,.int .i64 0] #[.int .i64 (q:Int),.int .i64 x] 192);rw[←HW3.out])
   go_roundw
   case rel=>exact⟨i+1,by omega,by go_num,HSET2,Lib.hid (HB3.out.setCell (Nat.le_refl _) _)⟩
   case measure=>simp[intOf];omega
  ·obtain rfl:i=m:=by omega
   have hlti:¬(i:Int)<(i:Int):=by omega
   have hrw:=HRW.out
   rw[HM.out,List.take_length]at hrw
   have hrd:=hrw.rd 0 19 (by omega)
   rw[show(fun i=>cntR l (0+i))=cntR l from funext fun i=>by rw[Nat.zero_add]]at hrd
   have hcb:∀j,cntR l j≤1000000:=fun j=>by have:=cntR_le l j;have:=HM.out;omega
   have hlr:=lengths_room wr (some ⟨h,0,none⟩) 19 (frqL (cntR l) 19) 7 hrd (fun h=>by cases h) (by rw[frqL_length];omega) (fun j hj=>by rw[frqL_length]at hj;rw[frqL_get _ hj];have:=hcb j;omega) (by omega) (by omega)
   obtain⟨e1,e2⟩:=len_ask (c:=cntR l) (n:=19) (most:=7) (by omega) (by omega) (by omega) (by decide) (fun j=>by have:=hcb j;omega)
   rw[show((7:Nat):Int)=7 from rfl]at e1 e2
   rw[frqL_length,e1,e2]at hlr
   have HLR:=Lib.hid hlr
   clear hlr e1 e2 hcb hrd hrw
   go_wp2_with fail
   refine HLR.out.mono ?_
   rintro e w3 ⟨A',c',rfl,hb3,hrd3,hc1,hc2,hc3,hc4⟩
   have HC4:=Lib.hid hc4
   have HRD3:=Lib.hid hrd3;have HC3:=Lib.hid hc3;have HB3:=Lib.hid (HB.out.trans (hb3.mono (by have:=HRW.out.lt;omega)))
   clear hrd3 hc3 hb3 hc4
   go_wp2
   go_ret
   exact⟨A',c',rfl,HRD3.out,hc1,hc2,HC3.out,fun b o e=>by have:=HC4.out b o e;have:=HB.out.size;omega,by rw[hle];exact HB3.out⟩
end Go.Proofs.YtokpcpjnihinfaaGreat
namespace Go.Proofs.YtokpcpjnihinfaaGreat
open Go.RowKit
def smC(M:Nat→Nat):Nat→Nat
 |0=>0
 |b+1=>smC M b+M b
def smS(M:Nat→Nat):Nat→Nat
 |0=>0
 |b+1=>smS M b+M b*p2N b
def kdC(l m f s o:Int)(M:Nat→Nat):Nat→Int:=fun i=>if i=0 then l else if i=1 then m else if i=2 then f else if i=3 then s else if i<18 then((M (i-4):Nat):Int)else o
def kdA(l m f s o:Int)(M:Nat→Nat):Array Value:=tblA (kdC l m f s o M) 19
theorem infoKd:(Tryz.prog.info? 198).map (fun i=>(i.zero,i.size))=some (some (.agg (kdA 0 0 0 0 0 (fun _=>0))),19):=by kernel_rfl
theorem szKd(T:Nat→Int):(Tryz.prog.info? 198).map (·.size)=some (tblA T 19).size:=by rw[tblA_size];kernel_rfl
def Knd(w:World)(g:Nat)(l m f s o:Int)(M:Nat→Nat):Prop:=w.heap[g]?=some (.cells (kdA l m f s o M) 198 (0,0))
section
variable {w w':World} {g:Nat} {l m f s o:Int} {M:Nat→Nat}
theorem Knd.lt(h:Knd w g l m f s o M):g<w.heap.size:=(Array.getElem?_eq_some_iff.1 h).1
theorem Knd.at(h:Knd w g l m f s o M){i:Nat}(hi:i<19):w.cell? ⟨g,i,none⟩=some (.int .i64 (kdC l m f s o M i)):=tbl_cell h hi
theorem Knd.least(h:Knd w g l m f s o M):w.cell? ⟨g,0,none⟩=some (.int .i64 l):=h.at (i:=0) (by omega)
theorem Knd.most(h:Knd w g l m f s o M):w.cell? ⟨g,1,none⟩=some (.int .i64 m):=h.at (i:=1) (by omega)
theorem Knd.first(h:Knd w g l m f s o M):w.cell? ⟨g,2,none⟩=some (.int .i64 f):=h.at (i:=2) (by omega)
theorem Knd.last(h:Knd w g l m f s o M):w.cell? ⟨g,3,none⟩=some (.int .i64 s):=h.at (i:=3) (by omega)
theorem Knd.own(h:Knd w g l m f s o M):w.cell? ⟨g,18,none⟩=some (.int .i64 o):=h.at (i:=18) (by omega)
theorem Knd.many(h:Knd w g l m f s o M){b:Nat}(hb:b<14):w.cell? ⟨g,4+b,none⟩=some (.int .i64 ((M b:Nat):Int)):=by
 have:=h.at (i:=4+b) (by omega)
 have e:kdC l m f s o M (4+b)=((M b:Nat):Int):=by
  unfold kdC
  rw[if_neg (by omega),if_neg (by omega),if_neg (by omega),if_neg (by omega),if_pos (by omega),show 4+b-4=b by omega]
 rw[e]at this;exact this
theorem Knd.frozen(h:Knd w g l m f s o M)(j:Nat):w.frozen? ⟨g,j,none⟩=false:=frozen_of_row w g j _ _ h
theorem Knd.below{B:Nat}(h:Knd w g l m f s o M)(hb:Below B w w')(hg:g<B):Knd w' g l m f s o M:=(hb.block g hg).trans h
theorem Knd.drew(h:Knd w g l m f s o M):Knd w.drew g l m f s o M:=h
theorem Knd.drewN(h:Knd w g l m f s o M)(k:Nat):Knd (w.drewN k) g l m f s o M:=h
end
theorem knd_new(w:World)(l m f s o:Int)(M:Nat→Nat):Knd (w.alloc (.cells (kdA l m f s o M) 198)) w.heap.size l m f s o M:=heap_alloc_new w _
theorem belowN9{B:Nat}{a w:World}(h:Below B a w)(n:Nat):Below B a (w.drewN n):=⟨h.os,h.tape,h.output,h.size,h.block⟩
theorem sh9(z b:Nat)(hz:z≤40000)(hb:b<14):wrap64 ((z:Int)*2^b)=((z*p2N b:Nat):Int)∧z*p2N b≤327680000:=by
 have e:(z:Int)*2^b=((z*2^b:Nat):Int):=by rw[Int.natCast_mul,Int.natCast_pow];rfl
 have h1:2^b≤2^13:=Nat.pow_le_pow_right (by omega) (by omega)
 have h2:z*2^b≤40000*2^13:=Nat.mul_le_mul hz h1
 have h3:40000*2^13=327680000:=rfl
 rw[e]
 unfold p2N
 generalize z*2^b=x at h2
 unfold wrap64
 omega
theorem smC_mono(M:Nat→Nat){i:Nat}:∀d,smC M i≤smC M (i+d)
 |0=>Nat.le_refl _
 |d+1=>Nat.le_trans (smC_mono M d) (Nat.le_add_right _ _)
theorem smS_mono(M:Nat→Nat){i:Nat}:∀d,smS M i≤smS M (i+d)
 |0=>Nat.le_refl _
 |d+1=>Nat.le_trans (smS_mono M d) (Nat.le_add_right _ _)
theorem smC_le(M:Nat→Nat){i j:Nat}(h:i≤j):smC M i≤smC M j:=by
 have:=smC_mono M (i:=i) (j-i);rwa[show i+(j-i)=j by omega]at this
theorem smS_le(M:Nat→Nat){i j:Nat}(h:i≤j):smS M i≤smS M j:=by
 have:=smS_mono M (i:=i) (j-i);rwa[show i+(j-i)=j by omega]at this
structure KndOk (l m f s o:Int) (M:Nat→Nat):Prop where
 l0:0≤l∧l≤1000
 f0:0≤f∧f≤1000
 o0:0≤o∧o≤1000
 s0:s≤1100
 m0:m<l+((smS M 14:Nat):Int)
 sC:(o=0∧s<f+((smC M 14:Nat):Int))∨(o≠0∧s≤f+((smC M 14:Nat):Int))
 C14:smC M 14≤40
 S14:smS M 14≤40000
theorem many_le{M:Nat→Nat}{b:Nat}(hb:b<14):smC M b+M b≤smC M 14∧smS M b+M b*p2N b≤smS M 14:=
 ⟨smC_le M (i:=b+1) (by omega),smS_le M (i:=b+1) (by omega)⟩
end Go.Proofs.YtokpcpjnihinfaaGreat
namespace Go.Proofs.YtokpcpjnihinfaaGreat
open Go.RowKit
section
variable {w:World} {g:Nat} {l m f s o:Int} {M:Nat→Nat}
theorem Knd.setMany(h:Knd w g l m f s o M){j:Nat}(hj:j<14)(x:Nat):Knd (w.setCell ⟨g,4+j,none⟩ (.int .i64 (x:Int))) g l m f s o (fun i=>if i=j then x else M i):=by
 unfold Knd kdA
 rw[heap_setCell_same w g (4+j) _ _ _ h]
 unfold kdA
 rw[tbl_set]
 refine congrArg (fun a=>some (Obj.cells a 198 (0,0))) (tbl_ext fun i hi=>?_)
 unfold kdC
 by_cases e:i=4+j
 ·subst e
  rw[if_pos rfl,if_neg (by omega),if_neg (by omega),if_neg (by omega),if_neg (by omega),if_pos (by omega)]
  show(x:Int)=((if 4+j-4=j then x else M (4+j-4):Nat):Int)
  rw[if_pos (by omega)]
 ·rw[if_neg e]
  by_cases h4:i<4
  ·have:i=0∨i=1∨i=2∨i=3:=by omega
   rcases this with rfl|rfl|rfl|rfl<;>rfl
  ·rw[if_neg (show¬i=0 by omega),if_neg (show¬i=1 by omega),if_neg (show¬i=2 by omega),if_neg (show¬i=3 by omega),if_neg (show¬i=0 by omega),if_neg (show¬i=1 by omega),if_neg (show¬i=2 by omega),if_neg (show¬i=3 by omega)]
   show _=(if i<18 then((if i-4=j then x else M (i-4):Nat):Int)else o)
   rw[if_neg (show¬i-4=j by omega)]
theorem Knd.setAt(h:Knd w g l m f s o M){l' m' f' s' o':Int}(k:Nat)(x:Int)(he:∀i,i<19→(if i=k then x else kdC l m f s o M i)=kdC l' m' f' s' o' M i):Knd (w.setCell ⟨g,k,none⟩ (.int .i64 x)) g l' m' f' s' o' M:=by
 unfold Knd kdA
 rw[heap_setCell_same w g k _ _ _ h]
 unfold kdA
 rw[tbl_set]
 exact congrArg (fun a=>some (Obj.cells a 198 (0,0))) (tbl_ext he)
theorem Knd.setMost(h:Knd w g l m f s o M)(x:Int):Knd (w.setCell ⟨g,1,none⟩ (.int .i64 x)) g l x f s o M:=
 h.setAt 1 x fun i hi=>by
  unfold kdC
  by_cases e:i=1
  ·subst e;rfl
  ·rw[if_neg e];by_cases e0:i=0
   ·subst e0;rfl
   ·rw[if_neg e0,if_neg e,if_neg e0,if_neg e]
theorem Knd.setLast(h:Knd w g l m f s o M)(x:Int):Knd (w.setCell ⟨g,3,none⟩ (.int .i64 x)) g l m f x o M:=
 h.setAt 3 x fun i hi=>by
  unfold kdC
  by_cases e:i=3
  ·subst e;rfl
  ·rw[if_neg e,if_neg e,if_neg e]
theorem Knd.setOwn(h:Knd w g l m f s o M)(x:Int):Knd (w.setCell ⟨g,18,none⟩ (.int .i64 x)) g l m f s x M:=
 h.setAt 18 x fun i hi=>by
  unfold kdC
  by_cases e:i=18
  ·subst e;rfl
  ·rw[if_neg e]
   by_cases e0:i<18
   ·rw[if_pos e0,if_pos e0]
   ·omega
theorem Knd.other(h:Knd w g l m f s o M){p:Addr}(hp:g≠p.block)(u:Value):Knd (w.setCell p u) g l m f s o M:=(Below.heap_setCell w p u g hp).trans h
end
theorem built_kd(a b c d:Int):Tryz.prog.built 198 [(0,.int .i64 a),(1,.int .i64 b),(2,.int .i64 c),(3,.int .i64 d)]=some (kdA a b c d 0 (fun _=>0)):=by kernel_rfl
def fstM(L:List Nat)(j:Nat):Nat→Nat:=fun i=>if i<j then L.getD i 0 else 0
theorem fstM_next(L:List Nat)(j:Nat):(fun i=>if i=j then L.getD j 0 else fstM L j i)=fstM L (j+1):=by
 funext i
 unfold fstM
 by_cases e:i=j
 ·subst e;rw[if_pos rfl,if_pos (by omega)]
 ·rw[if_neg e]
  by_cases h:i<j
  ·rw[if_pos h,if_pos (by omega)]
  ·rw[if_neg h,if_neg (by omega)]
theorem fstM_all(L:List Nat):fstM L L.length=fun i=>L.getD i 0:=by
 funext i
 unfold fstM
 by_cases h:i<L.length
 ·rw[if_pos h]
 ·rw[if_neg h,List.getD_eq_getElem?_getD,List.getElem?_eq_none (by omega)];rfl
def lsM(L:List Nat):Nat→Nat:=fun i=>L.getD i 0
theorem filled9_any(w:World)(l f:Int)(A:Option Addr)(cap N:Nat)(L:List Nat)(hN:N=L.length)(hN14:N≤14)(hr:RdI w w.heap.size A (natsI L))(hl:0≤l∧l≤1000)(hf:0≤f∧f≤1000)(hS:smS (lsM L) N≤40000)(hC:smC (lsM L) N≤40):
  Calls Tryz.prog 149 #[.int .i64 l,.int .i64 f,.slice A N cap] w fun e w'=>e=.returned (.agg (kdA l (l-1+((smS (lsM L) N:Nat):Int)) f (f-1+((smC (lsM L) N:Nat):Int)) 0 (lsM L)))∧Below w.heap.size w w':=by
 have hz:=(zero_of_info infoKd).1
 have HR:=Lib.hid hr;have HS:=Lib.hid hS;have HC:=Lib.hid hC;have HN:=Lib.hid hN
 obtain⟨hl0,hl1⟩:=hl
 obtain⟨hf0,hf1⟩:=hf
 clear hr hS hC hN
 obtain⟨V,hV⟩:∃V,V=mkV (w.alloc (.cells (kdA 0 0 0 0 0 (fun _=>0)) 198)) (kdA 0 0 0 0 0 (fun _=>0)) (kdA l (l-1) f (f-1) 0 (fun _=>0)) 198:=⟨_,rfl⟩
 have v1:Knd V (w.heap.size+1) l (l-1) f (f-1) 0 (fun _=>0):=by
  have:=mkV_row (w.alloc (.cells (kdA 0 0 0 0 0 (fun _=>0)) 198)) (kdA 0 0 0 0 0 (fun _=>0)) (kdA l (l-1) f (f-1) 0 (fun _=>0)) 198
  rw[World.size_alloc,←hV]at this;exact this
 have bV:=mkV_below (w.alloc (.cells (kdA 0 0 0 0 0 (fun _=>0)) 198)) (kdA 0 0 0 0 0 (fun _=>0)) (kdA l (l-1) f (f-1) 0 (fun _=>0)) 198
 rw[←hV]at bV
 have v0:Knd V w.heap.size 0 0 0 0 0 (fun _=>0):=(knd_new w 0 0 0 0 0 (fun _=>0)).below bV (by simp)
 have b0:Below w.heap.size w V:=((Below.refl _ _).alloc (Nat.le_refl _) _).trans (bV.mono (by simp))
 have hn:=(heap_alloc_new (w.alloc (.cells (kdA 0 0 0 0 0 (fun _=>0)) 198)) (.cells (kdA 0 0 0 0 0 (fun _=>0)) 198))
 rw[World.size_alloc]at hn
 have hVe:((w.alloc (.cells (kdA 0 0 0 0 0 (fun _=>0)) 198)).alloc (.cells (kdA 0 0 0 0 0 (fun _=>0)) 198)).setRow (w.heap.size+1) (kdA l (l-1) f (f-1) 0 (fun _=>0))=V:=by
  rw[hV];unfold mkV;rw[World.size_alloc]
 have V0:=Lib.hid v0;have V1:=Lib.hid v1;have B0:=Lib.hid b0;have HVN:=Lib.hid hn;have HVE:=Lib.hid hVe
 clear v0 v1 b0 hn hVe bV hV
 go_enter Tryz.func149,Tryz.ntmps149
 go_wp2_with (first
  |(refine wpList_buildTo rfl 198 #[(0,.tmp 10),(1,.tmp 12),(2,.tmp 13),(3,.tmp 15)] rfl (some 16) rfl (kdA l (l-1) f (f-1) 0 (fun _=>0)) ?_ ?_;focus(simpa[Act.eval]using built_kd l (l-1) f (f-1)))
  |(refine wpList_store_rowTo rfl _ _ _ rfl rfl (w.heap.size+1) (kdA l (l-1) f (f-1) 0 (fun _=>0)) rfl rfl 198 (kdA 0 0 0 0 0 (fun _=>0)) HVN.out (szKd _) rfl (tblA_one _ _) ?_;rw[HVE.out])
  |fail)
 go_loopw [19] (fun iv wr=>∃j S C:Nat,j≤N∧S≤40000∧C≤40∧iv=.int .i64 (j:Int)∧Hid (S=smS (lsM L) j)∧Hid (C=smC (lsM L) j)∧Hid (Knd wr w.heap.size 0 0 0 0 0 (fun _=>0))∧Hid (Knd wr (w.heap.size+1) l (l-1+(S:Int)) f (f-1+(C:Int)) 0 (fstM L j))∧Hid (Below w.heap.size w wr)) (fun iv _=>N-(intOf iv).toNat)
 case atStart=>
  refine⟨0,0,0,Nat.zero_le _,by omega,by omega,rfl,Lib.hid rfl,Lib.hid rfl,V0,Lib.hid ?_,B0⟩
  have h0:fstM L 0=fun _=>0:=funext fun i=>if_neg (by omega)
  rw[h0]
  simpa using V1.out
 case round=>
  obtain⟨j,S,C,hj,hS,hC,rfl,HSS,HCC,K0,K1,HBR⟩:=hrel
  by_cases hlt:j<N
  ·have hj14:j<14:=by omega
   obtain⟨b,o,rfl,_,hc⟩:=(HR.out.below HBR.out (Nat.le_refl _)).at (k:=j) (by rw[natsI_length,←HN.out];exact hlt)
   have e1:=hc j (by rw[natsI_length,←HN.out];exact hlt)
   rw[natsI_get]at e1
   obtain⟨q,hq⟩:∃q,q=L.getD j 0:=⟨_,rfl⟩
   rw[←hq]at e1
   have HQ:=Lib.hid hq
   clear hq hc
   have r1:=K1.out.many hj14
   have r2:=K1.out.frozen (4+j)
   have s1:=K1.out.setMany hj14 q
   have r3:=s1.most
   have r4:=s1.frozen 1
   have s2:=(s1.setMost (wrap64 (l-1+(S:Int)+wrap64 ((q:Int)*2^j)))).drew
   have r5:=s2.last
   have r6:=s2.frozen 3
   have s3:=s2.setLast (f-1+(C:Int)+(q:Int))
   have t3:=(((K0.out.other (p:=⟨w.heap.size+1,4+j,none⟩) (by simp) (.int .i64 (q:Int))).other (p:=⟨w.heap.size+1,1,none⟩) (by simp) (.int .i64 (wrap64 (l-1+(S:Int)+wrap64 ((q:Int)*2^j))))).drew).other (p:=⟨w.heap.size+1,3,none⟩) (by simp) (.int .i64 (f-1+(C:Int)+(q:Int)))
   have b3:=((((HBR.out.setCell (p:=⟨w.heap.size+1,4+j,none⟩) (by simp) (.int .i64 (q:Int))).setCell (p:=⟨w.heap.size+1,1,none⟩) (by simp) (.int .i64 (wrap64 (l-1+(S:Int)+wrap64 ((q:Int)*2^j))))).drew)).setCell (p:=⟨w.heap.size+1,3,none⟩) (by simp) (.int .i64 (f-1+(C:Int)+(q:Int)))
   have S3:=Lib.hid s3;have T3:=Lib.hid t3;have B3:=Lib.hid b3
   clear s1 s2 s3 t3 b3
   have hq40:q≤40:=by
    have h1:smC (lsM L) (j+1)≤smC (lsM L) N:=smC_le _ (by omega)
    have h2:smC (lsM L) (j+1)=smC (lsM L) j+q:=by rw[HQ.out];rfl
    have:=HC.out;omega
   go_wp2
   go_region
   all_goals(
    go_wp2
    go_roundw
    case rel=>
     obtain⟨g1,g2⟩:=sh9 q j (by omega) hj14
     have hS1:smS (lsM L) (j+1)=S+q*p2N j:=by rw[HSS.out,HQ.out];rfl
     have hS2:smS (lsM L) (j+1)≤40000:=Nat.le_trans (smS_le _ (by omega)) HS.out
     have hC1:smC (lsM L) (j+1)=C+q:=by rw[HCC.out,HQ.out];rfl
     have hC2:smC (lsM L) (j+1)≤40:=Nat.le_trans (smC_le _ (by omega)) HC.out
     have hv1:wrap64 (l-1+(S:Int)+wrap64 ((q:Int)*2^j))=l-1+((S+q*p2N j:Nat):Int):=by rw[g1];unfold wrap64;omega
     have hv2:f-1+(C:Int)+(q:Int)=f-1+((C+q:Nat):Int):=by omega
     have s3:=S3.out;have t3:=T3.out;have b3:=B3.out
     rw[hv1,hv2]at s3
     have hM:(fun i=>if i=j then q else fstM L j i)=fstM L (j+1):=by rw[HQ.out];exact fstM_next L j
     rw[hM]at s3
     rw[hv1,hv2]at t3 b3
     rw[hv1,hv2]
     exact⟨j+1,S+q*p2N j,C+q,by omega,by omega,by omega,by go_num,Lib.hid hS1.symm,Lib.hid hC1.symm,Lib.hid t3,Lib.hid s3,Lib.hid b3⟩
    case measure=>simp[intOf];omega)
  ·obtain rfl:j=N:=by omega
   obtain⟨m1,hm1⟩:∃m1,m1=l-1+(S:Int):=⟨_,rfl⟩
   obtain⟨s1,hs1⟩:∃s1,s1=f-1+(C:Int):=⟨_,rfl⟩
   have k1:=K1.out
   rw[←hm1,←hs1]at k1
   have K2:=Lib.hid k1;have HM1:=Lib.hid hm1;have HS1:=Lib.hid hs1
   clear k1 hm1 hs1 K1
   go_wp2_with (first
    |(refine wpList_load_row rfl _ _ rfl (w.heap.size+1) rfl _ (kdA l m1 f s1 0 (fstM L j)) (0,0) _ K2.out Tryz.underlying198 rfl (szKd _) ?_)
    |(refine wpList_store_rowTo rfl _ _ _ rfl rfl w.heap.size (kdA l m1 f s1 0 (fstM L j)) rfl rfl 198 (kdA 0 0 0 0 0 (fun _=>0)) K0.out (szKd _) rfl (tblA_one _ _) ?_)
    |fail)
   refine bodyPost_ret (v:=.agg (kdA l m1 f s1 0 (fstM L j))) ?_ rfl ⟨?_,below_row9 HBR.out (Nat.le_refl _) _⟩
   ·exact results_cell_row rfl _ _ w.heap.size _ _ (0,0) _ rfl (setRow_heap _ _ _ _ _ _ K0.out) Tryz.underlying198 rfl (szKd _)
   ·have hM:fstM L j=lsM L:=by rw[HN.out];exact fstM_all L
    rw[hM,HM1.out,HS1.out,HSS.out,HCC.out]
def longL:List Nat:=[8,4,4,4,4,4]
def farL:List Nat:=[4,2,2,2,2,2,2,2,2,2,2,2,2,2]
theorem made_row(w:World)(Z:Array Value)(T:TypeId)(L:List Nat)(cs:Array Value)(h:cs.toList=intsL (natsI L)):
  RdI ((w.alloc (.cells Z T)).alloc (.cells cs 3)) ((w.alloc (.cells Z T)).alloc (.cells cs 3)).heap.size (some ⟨w.heap.size+1,0,none⟩) (natsI L)∧
  ((w.alloc (.cells Z T)).alloc (.cells cs 3)).heap[w.heap.size]?=some (.cells Z T (0,0))∧Below w.heap.size w ((w.alloc (.cells Z T)).alloc (.cells cs 3))∧w.heap.size<((w.alloc (.cells Z T)).alloc (.cells cs 3)).heap.size:=by
 have h1:=rdI_new (w.alloc (.cells Z T)) (natsI L) cs h
 have h2:((w.alloc (.cells Z T)).alloc (.cells cs 3)).heap[w.heap.size]?=some (.cells Z T (0,0)):=(Below.heap_alloc _ _ _ (by simp)).trans (heap_alloc_new w _)
 refine⟨?_,h2,((Below.refl _ _).alloc (Nat.le_refl _) _).alloc (by simp) _,by simp;omega⟩
 rw[World.size_alloc w]at h1
 exact h1
theorem fars9_any(w:World):Calls Tryz.prog 127 #[] w fun e w'=>e=.returned (.agg (kdA 1 32768 0 29 0 (lsM farL)))∧Below w.heap.size w w':=by
 have hz:=(zero_of_info infoKd).1
 obtain⟨hr,v0,b0,hlt⟩:=made_row w (kdA 0 0 0 0 0 (fun _=>0)) 198 farL #[.int .i64 4,.int .i64 2,.int .i64 2,.int .i64 2,.int .i64 2,.int .i64 2,.int .i64 2,.int .i64 2,.int .i64 2,.int .i64 2,.int .i64 2,.int .i64 2,.int .i64 2,.int .i64 2] rfl
 have hfl:=filled9_any _ 1 0 _ 14 14 farL rfl (by omega) hr (by omega) (by omega) (by decide) (by decide)
 have e1:(1:Int)-1+((smS (lsM farL) 14:Nat):Int)=32768:=by decide
 have e2:(0:Int)-1+((smC (lsM farL) 14:Nat):Int)=29:=by decide
 rw[e1,e2]at hfl
 obtain⟨V,hV⟩:∃V,V=((w.alloc (.cells (kdA 0 0 0 0 0 (fun _=>0)) 198)).alloc (.cells #[.int .i64 4,.int .i64 2,.int .i64 2,.int .i64 2,.int .i64 2,.int .i64 2,.int .i64 2,.int .i64 2,.int .i64 2,.int .i64 2,.int .i64 2,.int .i64 2,.int .i64 2,.int .i64 2] 3)):=⟨_,rfl⟩
 rw[←hV]at hfl v0 b0 hlt
 have HF:=Lib.hid hfl;have V0:=Lib.hid v0;have B0:=Lib.hid b0;have HV:=Lib.hid hV.symm;have HLT:=Lib.hid hlt
 clear hfl v0 b0 hV hr e1 e2 hlt
 obtain⟨X,hX⟩:∃X,X=kdA 1 32768 0 29 0 (lsM farL):=⟨_,rfl⟩
 obtain⟨x1,x2⟩:X.size=19∧X.all (·.oneCell')=true:=by rw[hX];exact⟨tblA_size _ _,tblA_one _ _⟩
 have x3:(Tryz.prog.info? 198).map (·.size)=some X.size:=by rw[hX];exact szKd _
 rw[←hX]at HF⊢
 clear hX
 go_enter Tryz.func127,Tryz.ntmps127
 go_wp2_with fail
 rw[HV.out]
 refine HF.out.mono ?_
 rintro e w1 ⟨rfl,hb1⟩
 have hk1:=(hb1.block w.heap.size HLT.out).trans V0.out
 have K1:=Lib.hid hk1;have HB1:=Lib.hid (B0.out.trans (hb1.mono (Nat.le_of_lt HLT.out)))
 clear hk1 hb1
 go_wp2_with (first
  |(refine wpList_store_rowTo rfl _ _ _ rfl rfl w.heap.size X rfl rfl 198 (kdA 0 0 0 0 0 (fun _=>0)) K1.out x3 (by rw[x1];rfl) x2 ?_)
  |fail)
 refine bodyPost_ret (v:=.agg X) ?_ rfl ⟨rfl,below_row9 HB1.out (Nat.le_refl _) _⟩
 exact results_cell_row rfl _ _ w.heap.size _ _ (0,0) _ rfl (setRow_heap _ _ _ _ _ _ K1.out) Tryz.underlying198 rfl x3
end Go.Proofs.YtokpcpjnihinfaaGreat
namespace Go.Proofs.YtokpcpjnihinfaaGreat
open Go.RowKit
theorem longs9_any(w:World):Calls Tryz.prog 125 #[] w fun e w'=>e=.returned (.agg (kdA 3 258 257 285 258 (lsM longL)))∧Below w.heap.size w w':=by
 have hz:=(zero_of_info infoKd).1
 obtain⟨hr,v0,b0,hlt⟩:=made_row w (kdA 0 0 0 0 0 (fun _=>0)) 198 longL #[.int .i64 8,.int .i64 4,.int .i64 4,.int .i64 4,.int .i64 4,.int .i64 4] rfl
 have hfl:=filled9_any _ 3 257 _ 6 6 longL rfl (by omega) hr (by omega) (by omega) (by decide) (by decide)
 have e1:(3:Int)-1+((smS (lsM longL) 6:Nat):Int)=258:=by decide
 have e2:(257:Int)-1+((smC (lsM longL) 6:Nat):Int)=284:=by decide
 rw[e1,e2]at hfl
 obtain⟨V,hV⟩:∃V,V=((w.alloc (.cells (kdA 0 0 0 0 0 (fun _=>0)) 198)).alloc (.cells #[.int .i64 8,.int .i64 4,.int .i64 4,.int .i64 4,.int .i64 4,.int .i64 4] 3)):=⟨_,rfl⟩
 rw[←hV]at hfl v0 b0 hlt
 have HF:=Lib.hid hfl;have V0:=Lib.hid v0;have B0:=Lib.hid b0;have HV:=Lib.hid hV.symm;have HLT:=Lib.hid hlt
 clear hfl v0 b0 hV hr e1 e2 hlt
 obtain⟨MM,hMM⟩:∃MM,MM=lsM longL:=⟨_,rfl⟩
 rw[←hMM]at HF⊢
 clear hMM
 go_enter Tryz.func125,Tryz.ntmps125
 go_wp2_with fail
 rw[HV.out]
 refine HF.out.mono ?_
 rintro e w1 ⟨rfl,hb1⟩
 have hk1:Knd w1 w.heap.size 0 0 0 0 0 (fun _=>0):=(hb1.block w.heap.size HLT.out).trans V0.out
 have bb1:Below w.heap.size w w1:=B0.out.trans (hb1.mono (Nat.le_of_lt HLT.out))
 have hne:w.heap.size≠w1.heap.size:=by have:=hk1.lt;omega
 obtain⟨U,hU⟩:∃U,U=mkV w1 (kdA 0 0 0 0 0 (fun _=>0)) (kdA 3 258 257 284 0 MM) 198:=⟨_,rfl⟩
 have u1:Knd U w1.heap.size 3 258 257 284 0 MM:=by rw[hU];exact mkV_row _ _ _ _
 have bU:Below w1.heap.size w1 U:=by rw[hU];exact mkV_below _ _ _ _
 have u0:Knd U w.heap.size 0 0 0 0 0 (fun _=>0):=hk1.below bU hk1.lt
 have f1:=u1.frozen 18
 have k1:=u1.own
 have u2:=u1.setOwn 258
 have f2:=u2.frozen 3
 have k2:=u2.last
 have u3:=u2.setLast 285
 have z3:=(u0.other (p:=⟨w1.heap.size,18,none⟩) hne (.int .i64 258)).other (p:=⟨w1.heap.size,3,none⟩) hne (.int .i64 285)
 have bb3:=((bb1.trans (bU.mono bb1.size)).setCell (p:=⟨w1.heap.size,18,none⟩) bb1.size (.int .i64 258)).setCell (p:=⟨w1.heap.size,3,none⟩) bb1.size (.int .i64 285)
 have HU:=Lib.hid hU.symm;have U3:=Lib.hid u3;have Z3:=Lib.hid z3;have BB3:=Lib.hid bb3
 clear hk1 bb1 hne hU u1 bU u0 u2 u3 z3 bb3 hb1
 go_wp2_with (first
  |(refine wpList_store_rowTo rfl _ _ _ rfl rfl w1.heap.size (kdA 3 258 257 284 0 MM) rfl rfl 198 (kdA 0 0 0 0 0 (fun _=>0)) (heap_alloc_new w1 _) (szKd _) rfl (tblA_one _ _) ?_;change wpList _ _ _ _ _ (mkV w1 (kdA 0 0 0 0 0 (fun _=>0)) (kdA 3 258 257 284 0 MM) 198);rw[HU.out])
  |(refine wpList_load_row rfl _ _ rfl w1.heap.size rfl _ (kdA 3 258 257 285 258 MM) (0,0) _ U3.out Tryz.underlying198 rfl (szKd _) ?_)
  |(refine wpList_store_rowTo rfl _ _ _ rfl rfl w.heap.size (kdA 3 258 257 285 258 MM) rfl rfl 198 (kdA 0 0 0 0 0 (fun _=>0)) Z3.out (szKd _) rfl (tblA_one _ _) ?_)
  |fail)
 refine bodyPost_ret (v:=.agg (kdA 3 258 257 285 258 MM)) ?_ rfl ⟨rfl,below_row9 BB3.out (Nat.le_refl _) _⟩
 exact results_cell_row rfl _ _ w.heap.size _ _ (0,0) _ rfl (setRow_heap _ _ _ _ _ _ Z3.out) Tryz.underlying198 rfl (szKd _)
theorem long_ok9:KndOk 3 258 257 285 258 (lsM longL):=⟨by omega,by omega,by omega,by omega,by decide,.inr (by decide),by decide,by decide⟩
theorem far_ok9:KndOk 1 32768 0 29 0 (lsM farL):=⟨by omega,by omega,by omega,by omega,by decide,.inl (by decide),by decide,by decide⟩
theorem long_tab:∀b,b<14→∀z,z<lsM longL b→smC (lsM longL) b+z<28∧longT (smC (lsM longL) b+z)=3+(smS (lsM longL) b+z*p2N b)∧longX (smC (lsM longL) b+z)=b:=by decide+kernel
theorem far_tab:∀b,b<14→∀z,z<lsM farL b→smC (lsM farL) b+z<30∧farT (smC (lsM farL) b+z)=1+(smS (lsM farL) b+z*p2N b)∧farX (smC (lsM farL) b+z)=b:=by decide+kernel
end Go.Proofs.YtokpcpjnihinfaaGreat
namespace Go.Proofs.YtokpcpjnihinfaaGreat
open Go.RowKit
theorem i64_and(a b:Nat)(ha:a<9223372036854775808)(hb:b<9223372036854775808):bits .and .i64 (a:Int) (b:Int)=((a&&&b:Nat):Int):=by
 have hx:a&&&b<2^63:=Nat.and_lt_two_pow _ (by omega)
 show IntKind.i64.wrap ((BitVec.ofInt 64 (a:Int)&&&BitVec.ofInt 64 (b:Int)).toNat:Int)=_
 rw[BitVec.toNat_and,ofInt_nat 64 a (by omega),ofInt_nat 64 b (by omega),IntKind.wrap_i64]
 have e:(2:Nat)^63=9223372036854775808:=rfl
 generalize a&&&b=x at hx⊢
 omega
theorem mask9(z b:Nat)(hz:z≤40000)(hb:b<14):bits .and .i64 (z:Int) (wrap64 (wrap64 ((2:Int)^b)-1))=((z%p2N b:Nat):Int):=by
 have e:(2:Int)^b=((2^b:Nat):Int):=by rw[Int.natCast_pow];rfl
 have h1:2^b≤2^13:=Nat.pow_le_pow_right (by omega) (by omega)
 have h0:0<2^b:=Nat.pow_pos (by omega)
 have e2:wrap64 (wrap64 ((2:Int)^b)-1)=((2^b-1:Nat):Int):=by
  rw[e]
  generalize 2^b=x at h1 h0
  unfold wrap64
  omega
 rw[e2,i64_and z _ (by omega) (by omega),Nat.and_two_pow_sub_one_eq_mod]
 rfl
def SyOut(l m f s o:Int)(M:Nat→Nat)(n:Int)(e:Ending):Prop:=
 if n<l∨m<n then e=.returned (.tuple #[.int .i64 0,.int .i64 0,.int .i64 0,.int .i64 2])else
 if n=o then e=.returned (.tuple #[.int .i64 s,.int .i64 0,.int .i64 0,.int .i64 0])else
 ∃b z:Nat,b<14∧z<M b*p2N b∧n=l+((smS M b+z:Nat):Int)∧e=.returned (.tuple #[.int .i64 (f+((smC M b+z/p2N b:Nat):Int)),.int .i64 (b:Int),.int .i64 ((z%p2N b:Nat):Int),.int .i64 0])
theorem symbol9_any(w:World)(l m f s o:Int)(M:Nat→Nat)(hk:KndOk l m f s o M)(n:Int):
  Calls Tryz.prog 126 #[.agg (kdA l m f s o M),.int .i64 n] w fun e w'=>SyOut l m f s o M n e∧Below w.heap.size w w':=by
 have hkn:=knd_new w l m f s o M
 have hb:Below w.heap.size w (w.alloc (.cells (kdA l m f s o M) 198)):=(Below.refl _ _).alloc (Nat.le_refl _) _
 have k0:=hkn.least
 have k1:=hkn.most
 have k2:=hkn.first
 have k3:=hkn.last
 have k4:=hkn.own
 have HKN:=Lib.hid hkn;have HB:=Lib.hid hb;have HK:=Lib.hid hk
 clear hkn hb hk
 by_cases y0:n<l
 ·have d0:decide (n<l)=true:=decY y0
  go_enter Tryz.func126,Tryz.ntmps126
  go_wp2
  refine bodyPost_ret (results_tmp4 rfl _ _ _) rfl ?_
  exact⟨by unfold SyOut;rw[if_pos (.inl y0)];rfl,HB.out⟩
 have d0:decide (n<l)=false:=decN y0
 by_cases y1:m<n
 ·have d1:decide (m<n)=true:=decY y1
  go_enter Tryz.func126,Tryz.ntmps126
  go_wp2
  refine bodyPost_ret (results_tmp4 rfl _ _ _) rfl ?_
  exact⟨by unfold SyOut;rw[if_pos (.inr y1)];rfl,HB.out⟩
 have d1:decide (m<n)=false:=decN y1
 have hno:¬(n<l∨m<n):=by omega
 by_cases y2:n=o
 ·subst y2
  have d2:(n==n)=true:=by simp
  have HN:=Lib.hid hno
  clear hno
  go_enter Tryz.func126,Tryz.ntmps126
  go_wp2
  refine bodyPost_ret (results_tmp4 rfl _ _ _) rfl ?_
  exact⟨by unfold SyOut;rw[if_neg HN.out,if_pos rfl];rfl,HB.out⟩
 have d2:(n==o)=false:=by simpa using y2
 obtain⟨hl0,hl1⟩:=HK.out.l0
 obtain⟨hf0,hf1⟩:=HK.out.f0
 have hS14:=HK.out.S14
 have hm0:=HK.out.m0
 have hnl:0≤n-l∧n-l≤40000∧n-l<((smS M 14:Nat):Int):=by omega
 obtain⟨hn1,hn2,hn3⟩:=hnl
 have HN:=Lib.hid hno;have H3:=Lib.hid hn3;have HO:=Lib.hid y2
 clear hS14 hm0 hno hn3 y2
 go_enter Tryz.func126,Tryz.ntmps126
 go_wp2
 go_quiet (fail)
 go_wp2
 go_loopw [4,5,8] (fun sv bv fv wr=>∃b z C:Nat,b<14∧z≤40000∧C≤40∧sv=.int .i64 (f+(C:Int))∧bv=.int .i64 (b:Int)∧fv=.int .i64 (z:Int)∧Hid (C=smC M b)∧Hid (n=l+((smS M b+z:Nat):Int))∧Hid (Knd wr w.heap.size l m f s o M)∧Hid (Below w.heap.size w wr)) (fun _ bv _ _=>14-(intOf bv).toNat)
 case atStart=>
  refine⟨0,(n-l).toNat,0,by omega,by omega,by omega,by simp,rfl,?_,Lib.hid rfl,Lib.hid ?_,Lib.hid (HKN.out.drewN _),Lib.hid (belowN9 HB.out _)⟩
  ·exact val_int (by omega)
  ·show n=l+((0+(n-l).toNat:Nat):Int);omega
 case round=>
  obtain⟨b,z,C,hb,hz,hC,rfl,rfl,rfl,HCC,HY,HKR,HBR⟩:=hrel
  have c1:=HKR.out.many hb
  obtain⟨q,hq⟩:∃q,q=M b:=⟨_,rfl⟩
  rw[←hq]at c1
  have HQ:=Lib.hid hq
  clear hq
  have hq40:q≤40:=by
   rw[HQ.out]
   have:=(many_le (M:=M) hb).1
   have:=HK.out.C14;omega
  obtain⟨g1,g2⟩:=sh9 q b (by omega) hb
  obtain⟨P,hP⟩:∃P,P=q*p2N b:=⟨_,rfl⟩
  rw[←hP]at g1 g2
  have HP:=Lib.hid hP;have G1:=Lib.hid g1
  clear hP g1
  by_cases hlt:P≤z
  ·have hlt2:(P:Int)≤(z:Int):=by omega
   have hd:decide (wrap64 ((q:Int)*2^b)≤(z:Int))=true:=by rw[G1.out];exact decY hlt2
   go_wp2
   go_roundw
   case rel=>
    have hb13:b+1<14:=by
     rcases Nat.lt_or_ge (b+1) 14 with h|h
     ·exact h
     ·exfalso
      have e13:b=13:=by omega
      have h1:=H3.out;have h2:=HY.out
      have h3:smS M 14=smS M 13+M 13*p2N 13:=rfl
      have h4:=HP.out
      rw[e13]at h2 h4 HQ
      rw[HQ.out]at h4
      omega
    have hS1:smS M (b+1)=smS M b+P:=by rw[HP.out,HQ.out];rfl
    have hC1:smC M (b+1)=C+q:=by rw[HQ.out,HCC.out];rfl
    have hC2:smC M (b+1)≤40:=Nat.le_trans (smC_le M (by omega)) HK.out.C14
    refine⟨b+1,z-P,C+q,hb13,by omega,by omega,val_int (by omega),by go_num,val_int ?_,Lib.hid hC1.symm,Lib.hid ?_,HKR,HBR⟩
    ·rw[G1.out];unfold wrap64;omega
    ·rw[HY.out,hS1];omega
   case measure=>simp[intOf];omega
  ·have hd:decide (wrap64 ((q:Int)*2^b)≤(z:Int))=false:=by rw[G1.out];exact decN (by omega)
   have hsv:(z:Int)/2^b=((z/p2N b:Nat):Int)∧z/p2N b≤40000:=by
    have e:(2:Int)^b=((2^b:Nat):Int):=by rw[Int.natCast_pow];rfl
    refine⟨by rw[e];rfl,Nat.le_trans (Nat.div_le_self _ _) hz⟩
   have HSV:=Lib.hid hsv
   clear hsv
   go_wp2
   go_quiet (fail)
   go_wp2
   refine bodyPost_ret (results_tmp4 rfl _ _ _) rfl ?_
   refine⟨?_,belowN9 HBR.out _⟩
   unfold SyOut
   rw[if_neg HN.out,if_neg HO.out]
   refine⟨b,z,hb,by rw[←HQ.out,←HP.out];omega,HY.out,?_⟩
   have e1:wrap64 (f+(C:Int)+(z:Int)/2^b)=f+((smC M b+z/p2N b:Nat):Int):=by
    rw[HSV.out.1,←HCC.out]
    have:=HSV.out.2
    generalize z/p2N b=x at this
    unfold wrap64;omega
   rw[e1,mask9 z b hz hb]
   rfl
end Go.Proofs.YtokpcpjnihinfaaGreat
namespace Go.Proofs.YtokpcpjnihinfaaGreat
open Go.RowKit
theorem sy_long{n:Int}{e:Ending}(h:SyOut 3 258 257 285 258 (lsM longL) n e):e=.returned (.tuple #[.int .i64 (lgS n),.int .i64 (lgB n),.int .i64 (lgX n),.int .i64 (lgE n)]):=by
 unfold SyOut at h
 by_cases h1:n<3∨258<n
 ·rw[if_pos h1]at h
  have hk:¬(3≤n∧n≤258):=by omega
  unfold lgS lgB lgX lgE
  rw[if_neg hk,if_neg hk,if_neg hk,if_neg hk];exact h
 ·rw[if_neg h1]at h
  have hk:3≤n∧n≤258:=by omega
  by_cases h2:n=258
  ·rw[if_pos h2]at h
   subst h2;exact h
  ·rw[if_neg h2]at h
   obtain⟨b,z,hb,hz,hn,he⟩:=h
   have hp:0<p2N b:=Nat.pow_pos (by omega)
   have hd:z/p2N b<lsM longL b:=Nat.div_lt_of_lt_mul (by rw[Nat.mul_comm];exact hz)
   obtain⟨g1,g2,g3⟩:=long_tab b hb _ hd
   have hm:=Nat.mod_lt z hp
   have hdm:=Nat.div_add_mod z (p2N b)
   rw[Nat.mul_comm]at hdm
   obtain⟨i,hi⟩:∃i,i=smC (lsM longL) b+z/p2N b:=⟨_,rfl⟩
   rw[←hi]at g1 g2 g3 he
   obtain⟨x,hx⟩:∃x,x=z%p2N b:=⟨_,rfl⟩
   rw[←hx]at hm hdm he
   have hT:n=((longT i+x:Nat):Int):=by omega
   have h27:¬(i=27∧x=31):=by
    rintro⟨rfl,rfl⟩
    have e1:longT 27=227:=rfl
    omega
   obtain⟨q1,_,_⟩:=long_back (i:=i) (x:=x) (by omega) (by rw[g3];exact hm) h27
   have eI:lgI n=i:=by rw[hT];exact q1
   have e2:n.toNat-longT i=x:=by omega
   unfold lgS lgB lgX lgE
   rw[if_pos hk,if_pos hk,if_pos hk,if_pos hk,eI,g3,e2,he]
   rw[show((257:Int)+(i:Int))=((257+i:Nat):Int) by omega]
theorem sy_far{n:Int}{e:Ending}(h:SyOut 1 32768 0 29 0 (lsM farL) n e):e=.returned (.tuple #[.int .i64 (frS n),.int .i64 (frB n),.int .i64 (frX n),.int .i64 (frE n)]):=by
 unfold SyOut at h
 by_cases h1:n<1∨32768<n
 ·rw[if_pos h1]at h
  have hk:¬(1≤n∧n≤32768):=by omega
  unfold frS frB frX frE
  rw[if_neg hk,if_neg hk,if_neg hk,if_neg hk];exact h
 ·rw[if_neg h1]at h
  have hk:1≤n∧n≤32768:=by omega
  rw[if_neg (by omega)]at h
  obtain⟨b,z,hb,hz,hn,he⟩:=h
  have hp:0<p2N b:=Nat.pow_pos (by omega)
  have hd:z/p2N b<lsM farL b:=Nat.div_lt_of_lt_mul (by rw[Nat.mul_comm];exact hz)
  obtain⟨g1,g2,g3⟩:=far_tab b hb _ hd
  have hm:=Nat.mod_lt z hp
  have hdm:=Nat.div_add_mod z (p2N b)
  rw[Nat.mul_comm]at hdm
  obtain⟨i,hi⟩:∃i,i=smC (lsM farL) b+z/p2N b:=⟨_,rfl⟩
  rw[←hi]at g1 g2 g3 he
  obtain⟨x,hx⟩:∃x,x=z%p2N b:=⟨_,rfl⟩
  rw[←hx]at hm hdm he
  have hT:n=((farT i+x:Nat):Int):=by omega
  obtain⟨q1,_,_⟩:=far_back (i:=i) (x:=x) (by omega) (by rw[g3];exact hm)
  have eI:frI n=i:=by rw[hT];exact q1
  have e2:n.toNat-farT i=x:=by omega
  unfold frS frB frX frE
  rw[if_pos hk,if_pos hk,if_pos hk,if_pos hk,eI,g3,e2,he]
  rw[Int.zero_add]
theorem long9_any(w:World)(n:Int):Calls Tryz.prog 99 #[.int .i64 n] w fun e w'=>e=.returned (.tuple #[.int .i64 (lgS n),.int .i64 (lgB n),.int .i64 (lgX n),.int .i64 (lgE n)])∧Below w.heap.size w w':=by
 obtain⟨X,hX⟩:∃X,X=kdA 3 258 257 285 258 (lsM longL):=⟨_,rfl⟩
 have hs:=fun v=>symbol9_any v 3 258 257 285 258 (lsM longL) long_ok9 n
 have hk:=longs9_any w
 rw[←hX]at hk hs
 have HM:=Lib.hid hk;have HS:=Lib.hid hs
 obtain⟨z0,hz0⟩:∃z,z=lgS n:=⟨_,rfl⟩;obtain⟨z1,hz1⟩:∃z,z=lgB n:=⟨_,rfl⟩;obtain⟨z2,hz2⟩:∃z,z=lgX n:=⟨_,rfl⟩;obtain⟨z3,hz3⟩:∃z,z=lgE n:=⟨_,rfl⟩
 have hy:∀e,SyOut 3 258 257 285 258 (lsM longL) n e→e=.returned (.tuple #[.int .i64 z0,.int .i64 z1,.int .i64 z2,.int .i64 z3]):=fun e h=>by rw[hz0,hz1,hz2,hz3];exact sy_long h
 rw[←hz0,←hz1,←hz2,←hz3]
 have HY:=Lib.hid hy
 clear hz0 hz1 hz2 hz3 hX hk hs hy
 go_enter Tryz.func99,Tryz.ntmps99
 go_wp2_with fail
 refine HM.out.mono ?_
 rintro e w1 ⟨rfl,hb1⟩
 have HB1:=Lib.hid hb1
 clear hb1
 go_wp2_with fail
 refine(HS.out w1).mono ?_
 rintro e w2 ⟨he,hb2⟩
 obtain rfl:=HY.out _ he
 have HB2:=Lib.hid (HB1.out.trans (hb2.mono HB1.out.size))
 clear hb2 he
 go_wp2
 refine bodyPost_ret (results_tmp4 rfl _ _ _) rfl ?_
 exact⟨rfl,HB2.out⟩
theorem far9_any(w:World)(n:Int):Calls Tryz.prog 100 #[.int .i64 n] w fun e w'=>e=.returned (.tuple #[.int .i64 (frS n),.int .i64 (frB n),.int .i64 (frX n),.int .i64 (frE n)])∧Below w.heap.size w w':=by
 obtain⟨X,hX⟩:∃X,X=kdA 1 32768 0 29 0 (lsM farL):=⟨_,rfl⟩
 have hs:=fun v=>symbol9_any v 1 32768 0 29 0 (lsM farL) far_ok9 n
 have hk:=fars9_any w
 rw[←hX]at hk hs
 have HM:=Lib.hid hk;have HS:=Lib.hid hs
 obtain⟨z0,hz0⟩:∃z,z=frS n:=⟨_,rfl⟩;obtain⟨z1,hz1⟩:∃z,z=frB n:=⟨_,rfl⟩;obtain⟨z2,hz2⟩:∃z,z=frX n:=⟨_,rfl⟩;obtain⟨z3,hz3⟩:∃z,z=frE n:=⟨_,rfl⟩
 have hy:∀e,SyOut 1 32768 0 29 0 (lsM farL) n e→e=.returned (.tuple #[.int .i64 z0,.int .i64 z1,.int .i64 z2,.int .i64 z3]):=fun e h=>by rw[hz0,hz1,hz2,hz3];exact sy_far h
 rw[←hz0,←hz1,←hz2,←hz3]
 have HY:=Lib.hid hy
 clear hz0 hz1 hz2 hz3 hX hk hs hy
 go_enter Tryz.func100,Tryz.ntmps100
 go_wp2_with fail
 refine HM.out.mono ?_
 rintro e w1 ⟨rfl,hb1⟩
 have HB1:=Lib.hid hb1
 clear hb1
 go_wp2_with fail
 refine(HS.out w1).mono ?_
 rintro e w2 ⟨he,hb2⟩
 obtain rfl:=HY.out _ he
 have HB2:=Lib.hid (HB1.out.trans (hb2.mono HB1.out.size))
 clear hb2 he
 go_wp2
 refine bodyPost_ret (results_tmp4 rfl _ _ _) rfl ?_
 exact⟨rfl,HB2.out⟩
end Go.Proofs.YtokpcpjnihinfaaGreat
namespace Go.Proofs.YtokpcpjnihinfaaGreat
open Go.RowKit Go.ChangeShapes Go.WideShapes Go.ChangeAt Go.Joins
def extK(t:Tok):Nat:=if t.n=0 then 0 else(lgB t.n).toNat+(frB t.d).toNat
def extT(l:List Tok):Nat:=(l.map extK).sum
theorem extT_one(l:List Tok)(t:Tok):extT (l++[t])=extT l+extK t:=by unfold extT;simp
def cntL(l:List Tok)(i:Nat):Nat:=if i<286 then l.countP (fun t=>decide (symA t=i))else if i<316 then cntB l (i-286)else extT l
theorem cntL_one(l:List Tok)(t:Tok)(i:Nat):cntL (l++[t]) i=cntL l i+(if i<286 then(if symA t=i then 1 else 0)else if i<316 then(if t.n≠0∧symB t=i-286 then 1 else 0)else extK t):=by
 unfold cntL
 split
 ·rw[List.countP_append,List.countP_singleton];simp only[decide_eq_true_eq]
 ·split
  ·rw[cntB_one]
  ·rw[extT_one]
theorem cntL_le(l:List Tok)(i:Nat)(hi:i<316):cntL l i≤l.length:=by
 unfold cntL
 split
 ·exact List.countP_le_length
 ·exact cntB_le _ _
theorem extK_le{t:Tok}(h:mayT t=true)(hx:t.x<256):extK t≤18:=by
 unfold extK
 by_cases h0:t.n=0
 ·rw[if_pos h0];omega
 ·rw[if_neg h0]
  obtain⟨hE1,hE2,_⟩:=(sym_lt h hx).2.2 h0
  obtain⟨_,_,_,_,_,_,p3,p4⟩:=long_there hE1
  obtain⟨_,_,_,_,_,_,q3,q4⟩:=far_there hE2
  omega
theorem extT_le:∀l:List Tok,(∀t∈l,mayT t=true∧t.x<256)→extT l≤18*l.length
 |[],_=>by simp[extT]
 |t::l,h=>by
  have h1:=extK_le (h t List.mem_cons_self).1 (h t List.mem_cons_self).2
  have h2:=extT_le l fun u hu=>h u (List.mem_cons_of_mem _ hu)
  have e:extT (t::l)=extK t+extT l:=by simp[extT]
  rw[e,List.length_cons];omega
def cntE(l:List Tok)(i:Nat):Nat:=if i=256 then 1 else cntL l i
theorem cntE_A{l:List Tok}(h:∀t∈l,mayT t=true∧t.x<256){i:Nat}(hi:i<286):cntE l i=cntA l i:=by
 unfold cntE cntA cntL
 by_cases e:i=256
 ·subst e
  rw[if_pos rfl,if_pos rfl]
  have:l.countP (fun t=>decide (symA t=256))=0:=by
   rw[List.countP_eq_zero]
   intro t ht
   obtain⟨_,h1,h2⟩:=sym_lt (h t ht).1 (h t ht).2
   have hx:=(h t ht).2
   simp only[decide_eq_true_eq]
   by_cases h0:t.n=0
   ·have:=h1 h0;omega
   ·have:=(h2 h0).2.2.1;omega
  omega
 ·rw[if_neg e,if_pos hi,if_neg e];omega
theorem cntE_B(l:List Tok){i:Nat}(hi:i<30):cntE l (286+i)=cntB l i:=by
 unfold cntE cntL
 rw[if_neg (by omega),if_neg (by omega),if_pos (by omega),show 286+i-286=i by omega]
theorem cntE_X(l:List Tok):cntE l 316=extT l:=by
 unfold cntE cntL
 rw[if_neg (by omega),if_neg (by omega),if_neg (by omega)]
theorem builtCounts:Tryz.prog.built 159 []=some (tblA (fun _=>0) 317):=by kernel_rfl
theorem count11_any(w:World)(A:Option Addr)(m c:Nat)(l:List Tok)(hm:m=l.length)(hr:RdT w w.heap.size A l)(hm2:m≤1000000)(hok:∀t∈l,mayT t=true∧t.x<256):
  Calls Tryz.prog 77 #[.slice A m c] w fun e w'=>e=.returned (.pointer (some ⟨w.heap.size,0,none⟩))∧RowT w' w.heap.size 317 (cntE l) 159∧Below w.heap.size w w':=by
 have hbu:=builtCounts
 obtain⟨Z,hZ⟩:∃Z:Array Value,Z=tblA (fun _=>0) 317:=⟨_,rfl⟩
 rw[←hZ]at hbu
 obtain⟨h,hh⟩:∃h,h=w.heap.size:=⟨_,rfl⟩
 obtain⟨W1,hW1⟩:∃W,W=w.alloc (.cells Z 159):=⟨_,rfl⟩
 have hb1:Below h w W1:=by rw[hW1,hh];exact(Below.refl _ _).alloc (Nat.le_refl _) _
 have hr1:RowT W1 h 317 (cntL (l.take 0)) 159:=by
  unfold RowT
  rw[hW1,hh,heap_alloc_new,hZ]
  refine congrArg (fun a=>some (Obj.cells a 159 (0,0))) (tbl_ext fun k hk=>?_)
  simp[cntL,cntB,extT]
 rw[←hh]at hr⊢
 have HM:=Lib.hid hm;have HR:=Lib.hid hr;have HOK:=Lib.hid hok;have HB1:=Lib.hid hb1;have HR1:=Lib.hid hr1;have HW1:=Lib.hid hW1;have HH:=Lib.hid hh;have HBU:=Lib.hid hbu
 clear hm hr hok hb1 hr1 hW1 hh hZ hbu
 go_enter Tryz.func77,Tryz.ntmps77
 go_wp2_with (first|(refine wpList_buildTo rfl 159 #[] rfl (some 14) rfl Z ?_ ?_;focus(simpa[Act.eval]using HBU.out))|rw[←HW1.out,←HH.out]|fail)
 go_loopw [18] (fun iv wr=>∃i:Nat,i≤m∧iv=.int .i64 (i:Int)∧Hid (RowT wr h 317 (cntL (l.take i)) 159)∧Hid (Below h w wr)) (fun iv _=>m-(intOf iv).toNat)
 case atStart=>exact⟨0,Nat.zero_le _,rfl,HR1,HB1⟩
 case round=>
  obtain⟨i,hi,rfl,HRW,HB⟩:=hrel
  have hle:w.heap.size=h:=HH.out.symm
  have hgl:h<wr.heap.size:=HRW.out.lt
  by_cases hlt:i<m
  ·have hlti:(i:Int)<(m:Int):=by omega
   have hil:i<l.length:=by rw[←HM.out];exact hlt
   have htw:RdT wr h A l:=HR.out.below HB.out (Nat.le_refl _)
   obtain⟨b,o,rfl,hbl,hc⟩:=htw.at hil
   have hrg:=htw.range rfl hil
   have hmem:l.getD i tok0∈l:=by rw[List.getD_eq_getElem?_getD,List.getElem?_eq_getElem hil];exact List.getElem_mem hil
   obtain⟨hmy,hx8⟩:=HOK.out _ hmem
   have htk:=take_one hil
   have htl:(l.take i).length≤1000000:=by rw[List.length_take];omega
   have hokt:∀t∈l.take i,mayT t=true∧t.x<256:=fun t ht=>HOK.out t (List.mem_of_mem_take ht)
   have hxt:=extT_le _ hokt
   obtain⟨t,ht⟩:∃t,t=l.getD i tok0:=⟨_,rfl⟩
   rw[←ht]at hrg hmy hx8 htk
   have hstep:=cntL_one (l.take i) t
   rw[←htk]at hstep
   have hcl:=cntL_le (l.take i)
   have hcx:cntL (l.take i) 316=extT (l.take i):=by unfold cntL;rw[if_neg (by omega),if_neg (by omega)]
   obtain⟨C,hC⟩:∃C,C=cntL (l.take i):=⟨_,rfl⟩
   have hr:=HRW.out
   rw[←hC]at hstep hcl hcx hr
   obtain⟨W3,hW3⟩:∃W3,W3=mkV wr #[.int .u8 0,.int .i64 0,.int .i64 0] (tokC t).toArray 128:=⟨_,rfl⟩
   have hb3:Below wr.heap.size wr W3:=by rw[hW3];exact mkV_below _ _ _ _
   have hrow:W3.heap[wr.heap.size]?=some (.cells (tokC t).toArray 128 (0,0)):=by rw[hW3];exact mkV_row wr _ _ _
   have y0:W3.cell? ⟨wr.heap.size,0,none⟩=some (.int .u8 (t.x:Int)):=(cell_of_row W3 _ 0 _ _ (0,0) hrow).trans rfl
   have y1:W3.cell? ⟨wr.heap.size,1,none⟩=some (.int .i64 t.d):=(cell_of_row W3 _ 1 _ _ (0,0) hrow).trans rfl
   have y2:W3.cell? ⟨wr.heap.size,2,none⟩=some (.int .i64 t.n):=(cell_of_row W3 _ 2 _ _ (0,0) hrow).trans rfl
   have hr3:=hr.below hb3 hr.lt
   have HRG:=Lib.hid hrg;have HSTEP:=Lib.hid hstep;have HCL:=Lib.hid hcl;have HCX:=Lib.hid hcx;have HXT:=Lib.hid hxt;have HMY:=Lib.hid hmy;have HR3:=Lib.hid hr3;have HB3:=Lib.hid (HB.out.trans (hb3.mono (by omega)));have HW3:=Lib.hid hW3
   have hhs:wr.heap.size<W3.heap.size:=(Array.getElem?_eq_some_iff.1 hrow).1
   by_cases h0:t.n=0
   ·have hn0:(t.n==0)=true:=by rw[h0];rfl
    obtain⟨hs1,hs2,_⟩:=sym_lt hmy hx8
    have hsx:=hs2 h0
    have k1:=hr3.cell (i:=t.x) (by omega)
    have z1:=hr3.frozen t.x
    have hcb:=hcl t.x (by omega)
    have hset:=hr3.set (T':=cntL (l.take (i+1))) t.x (C t.x+1) (fun k hk=>by
     rw[hstep k,hsx]
     have e1:extK t=0:=by unfold extK;rw[if_pos h0]
     rw[e1]
     by_cases hkx:k=t.x
     ·subst hkx;rw[if_pos rfl,if_pos (by omega),if_pos rfl]
     ·rw[if_neg hkx]
      by_cases h1:k<286
      ·rw[if_pos h1,if_neg (fun e=>hkx e.symm)];rfl
      ·rw[if_neg h1]
       by_cases h2:k<316
       ·rw[if_pos h2,if_neg (fun e=>e.1 h0)];rfl
       ·rw[if_neg h2];rfl)
    obtain⟨q,hq⟩:∃q,q=t.x:=⟨_,rfl⟩
    obtain⟨V,hV⟩:∃V,V=C q:=⟨_,rfl⟩
    rw[←hq]at k1 z1 hcb hset y0 hx8
    rw[←hV]at k1 hset hcb
    have eV:((V+1:Nat):Int)=(V:Int)+1:=by omega
    rw[eV]at hset
    have hVb:V≤1000000:=by omega
    have hq86:(q:Int)<286:=by omega
    have HSET:=Lib.hid hset.drew
    clear hrg hstep hcl hcx hxt hr3 hb3 hrow hW3 htk ht hC htl hokt htw hc hr hset hV hq hs1 hs2 hsx hmem hmy HCL
    go_wp2_with (first|refine wpList_load_mid rfl _ _ rfl b (o+i*3) rfl (tokC t) _ HRG.out Tryz.underlying128 rfl szTok ?_|refine wpList_store_rowTo rfl _ _ _ rfl rfl wr.heap.size (tokC t).toArray rfl rfl 128 #[.int .u8 0,.int .i64 0,.int .i64 0] (heap_alloc_new wr _) (szTokA _) rfl (tokA_one _) ?_;change wpList _ _ _ _ _ (mkV wr #[.int .u8 0,.int .i64 0,.int .i64 0] (tokC t).toArray 128);rw[←HW3.out])
    go_region
    go_wp2
    go_roundw
    case rel=>exact⟨i+1,by omega,by go_num,HSET,Lib.hid (HB3.out.setCell (Nat.le_refl _) _).drew⟩
    case measure=>simp[intOf];omega
   ·have hn0:(t.n==0)=false:=by rw[beq_eq_false_iff_ne];exact h0
    obtain⟨_,_,hs3⟩:=sym_lt hmy hx8
    obtain⟨hE1,hE2,hs4,hs5⟩:=hs3 h0
    have hs1:=(sym_lt hmy hx8).1
    obtain⟨_,_,_,_,_,_,p3,p4⟩:=long_there hE1
    obtain⟨_,_,_,_,_,_,q3,q4⟩:=far_there hE2
    obtain⟨S,hS⟩:∃S,S=symA t:=⟨_,rfl⟩
    obtain⟨D,hD⟩:∃D,D=symB t:=⟨_,rfl⟩
    have eS:lgS t.n=(S:Int):=by
     have h5:3≤t.n∧t.n≤258:=lg_ok hE1
     have:0≤lgS t.n:=by unfold lgS;rw[if_pos h5];omega
     rw[hS];unfold symA;rw[if_neg h0];omega
    have eD:frS t.d=(D:Int):=by
     have h5:1≤t.d∧t.d≤32768:=fr_ok hE2
     have:0≤frS t.d:=by unfold frS;rw[if_pos h5];omega
     rw[hD];unfold symB;omega
    obtain⟨u,eu⟩:=Int.eq_ofNat_of_zero_le p3
    obtain⟨v,ev⟩:=Int.eq_ofNat_of_zero_le q3
    have hek:extK t=u+v:=by unfold extK;rw[if_neg h0,eu,ev];rfl
    have hlg:=fun V:World=>long9_any V t.n
    have hfr:=fun V:World=>far9_any V t.d
    rw[eS,eu,hE1]at hlg
    rw[eD,ev,hE2]at hfr
    rw[eu]at p4;rw[ev]at q4
    rw[←hS]at hs1 hs4;rw[←hD]at hs5
    have hcS:=hcl S (by omega)
    have hcD:=hcl (286+D) (by omega)
    obtain⟨VS,hVS⟩:∃V,V=C S:=⟨_,rfl⟩
    obtain⟨VD,hVD⟩:∃V,V=C (286+D):=⟨_,rfl⟩
    obtain⟨VX,hVX⟩:∃V,V=C 316:=⟨_,rfl⟩
    rw[←hVS]at hcS;rw[←hVD]at hcD;rw[←hVX]at hcx
    have hVSb:VS≤1000000:=by omega
    have hVDb:VD≤1000000:=by omega
    have hVXb:VX≤18000000:=by omega
    have HLG:=Lib.hid hlg;have HFR:=Lib.hid hfr;have HVS:=Lib.hid hVS;have HVD:=Lib.hid hVD;have HVX:=Lib.hid hVX;have HEK:=Lib.hid hek;have HS:=Lib.hid hS;have HD:=Lib.hid hD
    clear hlg hfr hVS hVD hVX hek hS hD eS eD eu ev hE1 hE2 hs3 hcS hcD hcx hrg hstep hcl hxt hr3 hb3 hrow hW3 htk ht hC htl hokt htw hc hr hmem hmy HCL HCX HXT y0 hx8
    go_wp2_with (first|refine wpList_load_mid rfl _ _ rfl b (o+i*3) rfl (tokC t) _ HRG.out Tryz.underlying128 rfl szTok ?_|refine wpList_store_rowTo rfl _ _ _ rfl rfl wr.heap.size (tokC t).toArray rfl rfl 128 #[.int .u8 0,.int .i64 0,.int .i64 0] (heap_alloc_new wr _) (szTokA _) rfl (tokA_one _) ?_;change wpList _ _ _ _ _ (mkV wr #[.int .u8 0,.int .i64 0,.int .i64 0] (tokC t).toArray 128);rw[←HW3.out]|fail)
    refine(HLG.out W3).mono ?_
    rintro e w4 ⟨rfl,hb4⟩
    have y1':=(hb4.cell (p:=⟨wr.heap.size,1,none⟩) hhs).trans y1
    have HR4:=Lib.hid (HR3.out.below hb4 (by have:=HB3.out.size;omega));have HB4:=Lib.hid (HB3.out.trans (hb4.mono (by have:=HR3.out.lt;omega)))
    clear hb4 y1 y2 HR3 HB3 hhs
    go_wp2_with fail
    refine(HFR.out w4).mono ?_
    rintro e w5 ⟨rfl,hb5⟩
    have hr5:=HR4.out.below hb5 HR4.out.lt
    have HB5:=Lib.hid (HB4.out.trans (hb5.mono (by have:=HR4.out.lt;omega)))
    clear hb5 y1' HR4 HB4
    have k1:=hr5.cell (i:=S) (by omega)
    have z1:=hr5.frozen S
    rw[←HVS.out]at k1
    have hr6:=(hr5.set (T':=fun k=>if k=S then VS+1 else C k) S (VS+1) (fun _ _=>rfl)).drew
    have eVS:((VS+1:Nat):Int)=(VS:Int)+1:=by omega
    rw[eVS]at hr6
    obtain⟨W6,hW6⟩:∃W,W=(w5.setCell ⟨h,S,none⟩ (.int .i64 ((VS:Int)+1))).drew:=⟨_,rfl⟩
    rw[←hW6]at hr6
    have k2:=hr6.cell (i:=286+D) (by omega)
    rw[if_neg (by omega),←HVD.out]at k2
    have z2:=hr6.frozen (286+D)
    have hr7:=(hr6.set (T':=fun k=>if k=286+D then VD+1 else if k=S then VS+1 else C k) (286+D) (VD+1) (fun _ _=>rfl)).drew
    have eVD:((VD+1:Nat):Int)=(VD:Int)+1:=by omega
    rw[eVD]at hr7
    obtain⟨W7,hW7⟩:∃W,W=(W6.setCell ⟨h,286+D,none⟩ (.int .i64 ((VD:Int)+1))).drew:=⟨_,rfl⟩
    rw[←hW7]at hr7
    have k3:=hr7.cell (i:=316) (by omega)
    rw[if_neg (by omega),if_neg (by omega),←HVX.out]at k3
    have z3:=hr7.frozen 316
    have hr8:=hr7.set (T':=cntL (l.take (i+1))) 316 (VX+(u+v)) (fun k hk=>by
     rw[HSTEP.out k,HEK.out,←HS.out,←HD.out]
     by_cases h1:k=316
     ·subst h1;rw[if_pos rfl,if_neg (by omega),if_neg (by omega),HVX.out]
     ·rw[if_neg h1]
      by_cases h2:k=286+D
      ·rw[if_pos h2,if_neg (by omega),if_pos (by omega),if_pos ⟨h0,by omega⟩,HVD.out,h2]
      ·rw[if_neg h2]
       by_cases h3:k=S
       ·rw[if_pos h3,if_pos (by omega),if_pos h3.symm,HVS.out,h3]
       ·rw[if_neg h3]
        by_cases h4:k<286
        ·rw[if_pos h4,if_neg (fun e=>h3 e.symm)];rfl
        ·rw[if_neg h4,if_pos (by omega),if_neg (fun e=>h2 (by omega))];rfl)
    have eVX:((VX+(u+v):Nat):Int)=(VX:Int)+((u:Int)+(v:Int)):=by omega
    rw[eVX]at hr8
    have hb6:Below h w W6:=by rw[hW6];exact(HB5.out.setCell (Nat.le_refl _) _).drew
    have hb7:Below h w W7:=by rw[hW7];exact(hb6.setCell (Nat.le_refl _) _).drew
    have HR8:=Lib.hid hr8;have HB8:=Lib.hid (hb7.setCell (p:=⟨h,316,none⟩) (Nat.le_refl _) (.int .i64 ((VX:Int)+((u:Int)+(v:Int)))));have HW6:=Lib.hid hW6;have HW7:=Lib.hid hW7
    have hSi:(S:Int)<286:=by omega
    have hDi:(D:Int)<30:=by omega
    clear hr5 hr6 hr7 hr8 hb6 hb7 hW6 hW7 eVS eVD eVX
    go_wp2
    go_region
    rw[←HW6.out]
    go_wp2
    go_region
    rw[←HW7.out]
    go_wp2
    go_roundw
    case rel=>exact⟨i+1,by omega,by go_num,HR8,HB8⟩
    case measure=>simp[intOf];omega
  ·obtain rfl:i=m:=by omega
   have hlti:¬(i:Int)<(i:Int):=by omega
   have hr:=HRW.out
   rw[HM.out,List.take_length]at hr
   have k1:=hr.cell (i:=256) (by omega)
   have z1:=hr.frozen 256
   have hset:=hr.set (T':=cntE l) 256 1 (fun k _=>by unfold cntE;rfl)
   have HSET:=Lib.hid hset
   clear hset hr
   go_wp2
   go_ret
   exact⟨rfl,HSET.out,HB.out.setCell (Nat.le_refl _) _⟩
end Go.Proofs.YtokpcpjnihinfaaGreat
namespace Go.Proofs.YtokpcpjnihinfaaGreat
open Go.RowKit Go.ChangeShapes Go.WideShapes Go.ChangeAt Go.Joins
theorem frq_ext{c d:Nat→Nat}{n:Nat}(h:∀i,i<n→c i=d i):frqL c n=frqL d n:=by
 unfold frqL
 exact List.map_congr_left fun i hi=>by rw[h i (List.mem_range.1 hi)]
theorem RdB.part{w:World}{B n m:Nat}{A:Option Addr}{f:Nat→Nat}(h:RdB w B A n f)(hm:m≤n):RdB w B A m f:=⟨h.1,fun h0=>by
 obtain⟨b,o,e,hb,hc⟩:=h.2 (by omega)
 exact⟨b,o,e,hb,fun j hj=>hc j (by omega)⟩⟩
theorem least11_any(w:World)(g:Nat)(l:List Tok)(hg:RowT w g 317 (cntE l) 159)(hl:l.length≤1000000)(hok:∀t∈l,mayT t=true∧t.x<256):
  Calls Tryz.prog 108 #[.pointer (some ⟨g,0,none⟩)] w fun e w'=>∃A1 c1 A2 c2,e=.returned (.tuple #[.slice A1 (nA l) c1,.slice A2 (nB l) c2])∧ByR w' w'.heap.size A1 (nA l) c1 (lnA l)∧ByR w' w'.heap.size A2 (nB l) c2 (lnB l)∧(∀b o,A1=some ⟨b,o,none⟩→w.heap.size≤b)∧(∀b o,A2=some ⟨b,o,none⟩→w.heap.size≤b)∧Below w.heap.size w w':=by
 obtain⟨e1,e2⟩:=len_ask (c:=cntA l) (n:=286) (most:=15) (by omega) (by omega) (by omega) (by decide) (fun i=>by have:=cntA_le l i;omega)
 obtain⟨e3,e4⟩:=len_ask (c:=cntB l) (n:=30) (most:=15) (by omega) (by omega) (by omega) (by decide) (fun i=>by have:=cntB_le l i;omega)
 rw[show((15:Nat):Int)=15 from rfl]at e1 e2 e3 e4
 obtain⟨_,_,_,_,a1,a2,b1,b2,_⟩:=dyn_ok l hl
 have hr1:RdI w w.heap.size (some ⟨g,0,none⟩) (frqL (cntA l) 286):=by
  have:=hg.rd 0 286 (by omega)
  rwa[frq_ext (d:=cntA l) (fun i hi=>by rw[Nat.zero_add];exact cntE_A hok hi)]at this
 have hr2:RdI w w.heap.size (some ⟨g,286,none⟩) (frqL (cntB l) 30):=by
  have:=hg.rd 286 30 (by omega)
  rwa[frq_ext (d:=cntB l) (fun i hi=>cntE_B l hi)]at this
 have h1:=lengths_room w (some ⟨g,0,none⟩) 286 (frqL (cntA l) 286) 15 hr1 (fun h=>by cases h) (by rw[frqL_length];omega) (fun j hj=>by rw[frqL_length]at hj;rw[frqL_get _ hj];have:=cntA_le l j;omega) (by omega) (by omega)
 rw[frqL_length,e1,e2]at h1
 have h2:=fun(V:World) (hV:Below w.heap.size w V)=>lengths_room V (some ⟨g,286,none⟩) 30 (frqL (cntB l) 30) 15 ((hr2.below hV (Nat.le_refl _)).more hV.size) (fun h=>by cases h) (by rw[frqL_length];omega) (fun j hj=>by rw[frqL_length]at hj;rw[frqL_get _ hj];have:=cntB_le l j;omega) (by omega) (by omega)
 rw[frqL_length,e3,e4]at h2
 have H1:=Lib.hid h1;have H2:=Lib.hid h2
 have nAe:nA l=cutN (lenM (cntA l) 286 15) 257 286:=rfl
 have nBe:nB l=cutN (lenM (cntB l) 30 15) 1 30:=rfl
 have lAe:lnA l=lenM (cntA l) 286 15:=rfl
 have lBe:lnB l=lenM (cntB l) 30 15:=rfl
 rw[←lAe]at nAe
 rw[←lBe]at nBe
 obtain⟨nl,hnl⟩:∃n,n=nA l:=⟨_,rfl⟩
 obtain⟨nd,hnd⟩:∃n,n=nB l:=⟨_,rfl⟩
 obtain⟨F,hF⟩:∃F,F=lnA l:=⟨_,rfl⟩
 obtain⟨G,hG⟩:∃F,F=lnB l:=⟨_,rfl⟩
 rw[←lAe,←hF]at h1
 rw[←lBe,←hG]at h2
 rw[←hnl,←hF]at nAe
 rw[←hnd,←hG]at nBe
 rw[←hnl]at a1 a2
 rw[←hnd]at b1 b2
 rw[←hnl,←hnd,←hF,←hG]
 have H1:=Lib.hid h1;have H2:=Lib.hid h2;have HNA:=Lib.hid nAe;have HNB:=Lib.hid nBe
 clear h1 h2 e1 e2 e3 e4 hr1 hr2 nAe nBe lAe lBe hnl hnd hF hG hg hok
 go_enter Tryz.func108,Tryz.ntmps108
 go_wp2_with fail
 refine H1.out.mono ?_
 rintro e w1 ⟨A1,c1,rfl,hb1,hr1,p1,p2,p3,p4⟩
 have HP4:=Lib.hid p4
 have HB1:=Lib.hid hb1;have HR1:=Lib.hid hr1;have HP3:=Lib.hid p3
 have HL2:=Lib.hid (H2.out w1 hb1)
 clear hb1 hr1 p3 p4 H1 H2
 go_wp2_with fail
 refine HL2.out.mono ?_
 rintro e w2 ⟨A2,c2,rfl,hb2,hr2,q1,q2,q3,q4⟩
 have HQ4:Hid (∀b o,A2=some ⟨b,o,none⟩→w.heap.size≤b):=Lib.hid fun b o e=>Nat.le_trans HB1.out.size (q4 b o e)
 have HR12:=Lib.hid ((HR1.out.below hb2 (Nat.le_refl _)).more hb2.size);have HB2:=Lib.hid (HB1.out.trans (hb2.mono HB1.out.size));have HR2:=Lib.hid hr2;have HQ3:=Lib.hid q3
 clear hb2 hr2 q3 q4 HL2 HB1 HR1
 have hc1:=cut11_any w2 A1 286 c1 F 257 HR12.out p1 (by omega) (by omega)
 have hc2:=cut11_any w2 A2 30 c2 G 1 HR2.out q1 (by omega) (by omega)
 rw[←HNA.out]at hc1
 rw[←HNB.out]at hc2
 have HC1:=Lib.hid hc1;have HC2:=Lib.hid hc2
 clear hc1 hc2
 go_wp2_with fail
 refine HC1.out.mono ?_
 rintro e w3 ⟨rfl,rfl⟩
 go_wp2_with fail
 refine HC2.out.mono ?_
 rintro e w4 ⟨rfl,rfl⟩
 go_wp2
 go_ret2
 exact⟨A1,c1,A2,c2,rfl,⟨HR12.out.part a2,HP3.out,by omega,by unfold maxLen;omega⟩,⟨HR2.out.part b2,HQ3.out,by omega,by unfold maxLen;omega⟩,HP4.out,HQ4.out,HB2.out⟩
theorem check11_any(w:World)(kind:Nat)(A1:Option Addr)(rn rc:Nat)(A2:Option Addr)(m c2:Nat)(l:List Tok)(hkd:kind<256)(hm:m=l.length)(hr:RdT w w.heap.size A2 l)(hm2:m≤1000000)(hrn:rn≤1000000)(hin:∀t∈l,TokIn t):
  Calls Tryz.prog 76 #[.int .u8 (kind:Int),.slice A1 rn rc,.slice A2 m c2] w fun e w'=>e=.returned (.int .i64 (askW kind rn l))∧Below w.heap.size w w':=by
 obtain⟨E,hE⟩:∃E,E=askW kind rn l:=⟨_,rfl⟩
 rw[←hE]
 have HE:=Lib.hid hE;have HR:=Lib.hid hr;have HM:=Lib.hid hm;have HIN:=Lib.hid hin
 have HB0:=Lib.hid (Below.refl w.heap.size w)
 clear hE hr hm hin
 by_cases y0:2<kind
 ·have d0:decide (2<(kind:Int))=true:=by simp;omega
  obtain rfl:E=2:=by rw[HE.out];unfold askW;rw[if_pos y0]
  go_enter Tryz.func76,Tryz.ntmps76
  go_wp2
  go_ret
  exact⟨rfl,HB0.out⟩
 have d0:decide (2<(kind:Int))=false:=decN0 (by omega)
 by_cases y1:65535<rn
 ·have d1:decide (65535<(rn:Int))=true:=decY0 (by omega)
  obtain rfl:E=4:=by rw[HE.out];unfold askW;rw[if_neg y0,if_pos (.inl y1)]
  go_enter Tryz.func76,Tryz.ntmps76
  go_wp2
  go_ret
  exact⟨rfl,HB0.out⟩
 have d1:decide (65535<(rn:Int))=false:=decN0 (by omega)
 by_cases y2:65535<m
 ·have d2:decide (65535<(m:Int))=true:=decY0 (by omega)
  obtain rfl:E=4:=by rw[HE.out];unfold askW;rw[if_neg y0,if_pos (.inr (by rw[←HM.out];exact y2))]
  go_enter Tryz.func76,Tryz.ntmps76
  go_wp2
  go_ret
  exact⟨rfl,HB0.out⟩
 have d2:decide (65535<(m:Int))=false:=decN0 (by omega)
 have hE2:E=if l.all mayT then 0 else 8:=by rw[HE.out];unfold askW;rw[if_neg y0,if_neg (by rw[←HM.out];omega)]
 have HE2:=Lib.hid hE2
 clear hE2 HE
 go_enter Tryz.func76,Tryz.ntmps76
 go_wp2_with fail
 go_loopw [22] (fun iv wr=>∃i:Nat,i≤m∧iv=.int .i64 (i:Int)∧Hid ((l.take i).all mayT=true)∧Hid (Below w.heap.size w wr)) (fun iv _=>m-(intOf iv).toNat)
 case atStart=>exact⟨0,Nat.zero_le _,rfl,Lib.hid (by simp),HB0⟩
 case round=>
  obtain⟨i,hi,rfl,HA,HB⟩:=hrel
  by_cases hlt:i<m
  ·have hlti:(i:Int)<(m:Int):=by omega
   have hil:i<l.length:=by rw[←HM.out];exact hlt
   have htw:=HR.out.below HB.out (Nat.le_refl _)
   obtain⟨b,o,rfl,hbl,hc⟩:=htw.at hil
   have hrg:=htw.range rfl hil
   have hmem:l.getD i tok0∈l:=by rw[List.getD_eq_getElem?_getD,List.getElem?_eq_getElem hil];exact List.getElem_mem hil
   have hti:=HIN.out _ hmem
   have htk:=take_one hil
   obtain⟨t,ht⟩:∃t,t=l.getD i tok0:=⟨_,rfl⟩
   rw[←ht]at hrg hti htk hmem
   obtain⟨W3,hW3⟩:∃W3,W3=mkV wr #[.int .u8 0,.int .i64 0,.int .i64 0] (tokC t).toArray 128:=⟨_,rfl⟩
   have hb3:Below wr.heap.size wr W3:=by rw[hW3];exact mkV_below _ _ _ _
   have hrow:W3.heap[wr.heap.size]?=some (.cells (tokC t).toArray 128 (0,0)):=by rw[hW3];exact mkV_row wr _ _ _
   have htk8:=tok8_any W3 t hti
   have HRG:=Lib.hid hrg;have HB3:=Lib.hid (HB.out.trans (hb3.mono HB.out.size));have HW3:=Lib.hid hW3;have HROW:=Lib.hid hrow;have HTK8:=Lib.hid htk8;have HTK:=Lib.hid htk;have HMEM:=Lib.hid hmem
   clear hrg hb3 hrow hW3 htk ht htw hc hmem hti htk8
   go_wp2_with (first|refine wpList_load_mid rfl _ _ rfl b (o+i*3) rfl (tokC t) _ HRG.out Tryz.underlying128 rfl szTok ?_|refine wpList_store_rowTo rfl _ _ _ rfl rfl wr.heap.size (tokC t).toArray rfl rfl 128 #[.int .u8 0,.int .i64 0,.int .i64 0] (heap_alloc_new wr _) (szTokA _) rfl (tokA_one _) ?_;change wpList _ _ _ _ _ (mkV wr #[.int .u8 0,.int .i64 0,.int .i64 0] (tokC t).toArray 128);rw[←HW3.out]|refine wpList_load_row rfl _ _ rfl wr.heap.size rfl _ (tokC t).toArray (0,0) _ HROW.out Tryz.underlying128 rfl (szTokA _) ?_|fail)
   refine HTK8.out.mono ?_
   rintro e w4 ⟨rfl,hb4⟩
   have HB4:=Lib.hid (HB3.out.trans (hb4.mono HB3.out.size))
   clear hb4
   by_cases hmy:mayT t=true
   ·have e0:tokE t=0:=by unfold tokE;rw[if_pos hmy]
    rw[e0]
    have hall:(l.take (i+1)).all mayT=true:=by rw[HTK.out,List.all_append,HA.out];simp[hmy]
    have HALL:=Lib.hid hall
    clear hall
    go_wp2
    go_roundw
    case rel=>exact⟨i+1,by omega,by go_num,HALL,HB4⟩
    case measure=>simp[intOf];omega
   ·have e0:tokE t=8:=by unfold tokE;rw[if_neg hmy]
    rw[e0]
    obtain rfl:E=8:=by
     rw[HE2.out,if_neg]
     intro h
     exact hmy (List.all_eq_true.1 h t HMEM.out)
    go_wp2
    go_ret
    exact⟨rfl,HB4.out⟩
  ·obtain rfl:i=m:=by omega
   have hlti:¬(i:Int)<(i:Int):=by omega
   have ha:=HA.out
   rw[HM.out,List.take_length]at ha
   obtain rfl:E=0:=by rw[HE2.out,if_pos ha]
   clear ha
   go_wp2
   go_ret
   exact⟨rfl,HB.out⟩
theorem cbits11_any(w:World)(g:Nat)(l:List Tok)(hg:RowT w g 317 (cntE l) 159)(hl:l.length≤1000000)(hok:∀t∈l,mayT t=true∧t.x<256)(A1:Option Addr)(n1 c1:Nat)(F:Nat→Nat)(A2:Option Addr)(n2 c2:Nat)(G:Nat→Nat)(h1:RdB w w.heap.size A1 n1 F)(h2:RdB w w.heap.size A2 n2 G)(k1 k2:Nat)(hk1:k1=min n1 286)(hk2:k2=min n2 30):
  Calls Tryz.prog 101 #[.pointer (some ⟨g,0,none⟩),.slice A1 n1 c1,.slice A2 n2 c2] w fun e w'=>e=.returned (.int .i64 ((cstN (cntA l) F k1+cstN (cntB l) G k2+extT l:Nat):Int))∧Below w.heap.size w w':=by
 have hA:∀i,cntA l i≤1000001:=fun i=>by have:=cntA_le l i;omega
 have hB:∀i,cntB l i≤1000000:=fun i=>by have:=cntB_le l i;omega
 have hgl:=hg.lt
 have r1:∀V,Below w.heap.size w V→RdJ V g 0 286 (cntA l):=fun V hV i hi=>by
  rw[Nat.zero_add,(hg.below hV hgl).cell (by omega),cntE_A hok hi]
 have r2:∀V,Below w.heap.size w V→RdJ V g 286 30 (cntB l):=fun V hV i hi=>by
  rw[(hg.below hV hgl).cell (by omega),cntE_B l hi]
 have x3:∀V,Below w.heap.size w V→V.cell? ⟨g,316,none⟩=some (.int .i64 ((extT l:Nat):Int)):=fun V hV=>by
  rw[(hg.below hV hgl).cell (by omega),cntE_X]
 have s1:=cstN_le hA (fun j=>Nat.le_of_lt (h1.1 j)) k1
 have s2:=cstN_le hB (fun j=>Nat.le_of_lt (h2.1 j)) k2
 have s3:=extT_le l hok
 obtain⟨S1,hS1⟩:∃S,S=cstN (cntA l) F k1:=⟨_,rfl⟩
 obtain⟨S2,hS2⟩:∃S,S=cstN (cntB l) G k2:=⟨_,rfl⟩
 obtain⟨S3,hS3⟩:∃S,S=extT l:=⟨_,rfl⟩
 have T1:Hid (∀V,Below w.heap.size w V→Calls Tryz.prog 128 #[.slice (some ⟨g,0,none⟩) 286 286,.slice A1 n1 c1] V fun e w'=>e=.returned (.int .i64 (S1:Int))∧Below w.heap.size w w'):=Lib.hid fun V hV=>by
  rw[hS1]
  exact(cost11_any V g 0 286 286 (cntA l) A1 n1 c1 F (r1 V hV) (by have:=hV.size;omega) hA (by omega) ((h1.below hV (Nat.le_refl _)).more hV.size) k1 hk1).mono fun _ _ ⟨e,b⟩=>⟨e,hV.trans (b.mono hV.size)⟩
 have T2:Hid (∀V,Below w.heap.size w V→Calls Tryz.prog 128 #[.slice (some ⟨g,286,none⟩) 30 30,.slice A2 n2 c2] V fun e w'=>e=.returned (.int .i64 (S2:Int))∧Below w.heap.size w w'):=Lib.hid fun V hV=>by
  rw[hS2]
  exact(cost11_any V g 286 30 30 (cntB l) A2 n2 c2 G (r2 V hV) (by have:=hV.size;omega) (fun i=>by have:=hB i;omega) (by omega) ((h2.below hV (Nat.le_refl _)).more hV.size) k2 hk2).mono fun _ _ ⟨e,b⟩=>⟨e,hV.trans (b.mono hV.size)⟩
 have hm1:k1*(1000001*256)≤286*(1000001*256):=Nat.mul_le_mul_right _ (by omega)
 have hm2:k2*(1000000*256)≤30*(1000000*256):=Nat.mul_le_mul_right _ (by omega)
 rw[←hS1]at s1
 rw[←hS2]at s2
 rw[←hS3]at s3
 have q1:S1≤74000000000:=by omega
 have q2:S2≤8000000000:=by omega
 have q3:S3≤18000000:=by omega
 have k0:∀p:After w.heap.size w,p.w.cell? ⟨g,316,none⟩=some (.int .i64 (S3:Int)):=fun p=>by rw[hS3];exact x3 p.w p.h
 rw[←hS1,←hS2,←hS3]
 clear hS1 hS2 hS3 s1 s2 s3 hm1 hm2 r1 r2 x3 hA hB hg hok h1 h2 hk1 hk2
 go_enter Tryz.func101,Tryz.ntmps101
 go_wp2
 refine wp_region_after w.heap.size w (Below.refl _ _) (by kernel_rfl) (by kernel_rfl) ?_
 repeat (go_big_quiet_step (first|(with_reducible exact call_after T1.out _)|(with_reducible exact call_after T2.out _)))
 refine wpQuiet_nil ?_
 rintro V ⟨⟨V,hV⟩,rfl⟩
 go_wp2
 go_ret
 exact⟨by first|rfl|go_num,hV⟩
end Go.Proofs.YtokpcpjnihinfaaGreat
namespace Go.Proofs.YtokpcpjnihinfaaGreat
open Go.RowKit Go.ChangeShapes Go.WideShapes Go.ChangeAt Go.Joins
theorem built_numP(v n:Int):Tryz.prog.built 169 [(0,.int .u32 v),(1,.int .i64 n)]=some #[.int .u32 v,.int .i64 n]:=by kernel_rfl
theorem put_lit(w:World)(S:Nat→Prop)(B g:Nat)(f:Nat→Nat)(K:Nat)(P:List (Nat×Nat))(m:Nat)(hm:m=P.length)(cs:Array Value)(hcs:cs.toList=numsL P)(h:RowAt w S B g f K)(hm2:m≤1000)(hfit:∀x∈P,FitN x)(hk:K+bitsT P≤16000000):
  Calls Tryz.prog 105 #[.pointer (some ⟨g,0,none⟩),.slice (some ⟨w.heap.size,0,none⟩) m m] (w.alloc (.cells cs 169)) fun e w'=>e=.returned (.tuple #[])∧RowAt w' S B g (putsF f K P) (K+bitsT P)∧KpB S w w'∧Below B w w':=by
 have hb:=(Below.refl w.heap.size w).alloc (Nat.le_refl _) (.cells cs 169)
 have hsz:cs.size=m*2:=by rw[←Array.length_toList,hcs,numsL_length,hm]
 have hrd:RdN (w.alloc (.cells cs 169)) (w.alloc (.cells cs 169)).heap.size (some ⟨w.heap.size,0,none⟩) P:=by
  have:=SrcL.new w 2 m cs 169 hsz
  rw[hcs,hm]at this
  exact this
 refine(put11_any _ _ B g f K (some ⟨w.heap.size,0,none⟩) m m P (h.grow hb) hrd (fun b o _ e=>?_) hm hm2 hfit hk).mono fun e w' ⟨h1,h2,h3,h4⟩=>⟨h1,h2.less fun _ k=>.inl k,(KpB.below h.top hb).tr (h3.less fun _ k=>.inl k),(hb.mono h.size).trans h4⟩
 injection e with e
 injection e with e1
 refine .inr ?_
 simp only[World.size_alloc];omega
theorem rowbits_any(w:World)(S:Nat→Prop)(B g:Nat)(f:Nat→Nat)(K:Nat)(h:RowAt w S B g f K)(hK:K≤16000000):
  Calls Tryz.prog 87 #[.pointer (some ⟨g,0,none⟩)] w fun e w'=>e=.returned (.int .i64 (K:Int))∧w'=w.drew:=by
 obtain⟨_,A,c,hq⟩:=h
 obtain⟨z0,_,z2,_,_,_⟩:=hq.cells
 obtain⟨L,hL⟩:∃L,L=K/8:=⟨_,rfl⟩
 obtain⟨q,hqq⟩:∃q,q=K%8:=⟨_,rfl⟩
 rw[←hL]at z0
 rw[←hqq]at z2
 have hKe:K=8*L+q:=by omega
 have hLb:L≤2000000:=by omega
 have hqb:q<8:=by omega
 clear hq hL hqq hK
 subst hKe
 go_enter Tryz.func87,Tryz.ntmps87
 go_wp2
 go_region
 go_wp2
 go_ret
 exact⟨by first|rfl|go_num,rfl⟩
theorem size11_any(w:World)(S:Nat→Prop)(B g:Nat)(f:Nat→Nat)(K n p:Nat)(h:RowAt w S B g f K)(hn:n≤65535)(hK:K≤15000000)(hp:p=(8-K%8)%8):
  Calls Tryz.prog 106 #[.pointer (some ⟨g,0,none⟩),.int .i64 (n:Int)] w fun e w'=>e=.returned (.tuple #[])∧RowAt w' S B g (putsF f K [(0,p),(n,16),(65535-n,16)]) (K+bitsT [(0,p),(n,16),(65535-n,16)])∧KpB S w w'∧Below B w w':=by
 have hp8:p<8:=by omega
 have hbt:bitsT [(0,p),(n,16),(65535-n,16)]=p+32:=by simp[bitsT]
 have hput:=put_lit w S B g f K [(0,p),(n,16),(65535-n,16)] 3 rfl #[.int .u32 0,.int .i64 (p:Int),.int .u32 (n:Int),.int .i64 16,.int .u32 ((65535-n:Nat):Int),.int .i64 16] rfl h (by omega) (fun x hx=>by
  simp only[List.mem_cons,List.not_mem_nil,or_false]at hx
  rcases hx with rfl|rfl|rfl
  ·exact fit_mk (Nat.two_pow_pos _) (by omega)
  ·exact fit_mk (by omega) (by omega)
  ·exact fit_mk (by omega) (by omega)) (by rw[hbt];omega)
 obtain⟨_,A,c,hq⟩:=h
 obtain⟨_,_,z2,_,_,_⟩:=hq.cells
 obtain⟨q,hqq⟩:∃q,q=K%8:=⟨_,rfl⟩
 rw[←hqq]at z2 hp
 have hq8:q<8:=by omega
 have hm1:((8:Int)-(q:Int)).tmod 8=(p:Int):=by rw[Int.tmod_eq_emod_of_nonneg (by omega)];omega
 have hm2:((8:Int)-(q:Int))%8=(p:Int):=by omega
 have hm3:(65535:Int)-(n:Int)=((65535-n:Nat):Int):=by omega
 obtain⟨y,hy⟩:∃y,y=65535-n:=⟨_,rfl⟩
 rw[←hy]at hput hm3⊢
 have hyb:y≤65535:=by omega
 have HPUT:=Lib.hid hput
 clear hput hq hqq hp hbt hy
 go_enter Tryz.func106,Tryz.ntmps106
 go_wp2_with (first
  |(refine wpList_buildTo rfl 169 #[(0,.const (.int .u32 0)),(1,.tmp 12)] rfl (some 13) rfl #[.int .u32 0,.int .i64 (p:Int)] ?_ ?_;focus(simpa[Act.eval]using built_numP 0 (p:Int)))
  |(refine wpList_buildTo rfl 169 #[(0,.tmp 15),(1,.const (.int .i64 16))] rfl (some 16) rfl #[.int .u32 (n:Int),.int .i64 16] ?_ ?_;focus(simpa[Act.eval]using built_numP (n:Int) 16))
  |(refine wpList_buildTo rfl 169 #[(0,.tmp 19),(1,.const (.int .i64 16))] rfl (some 20) rfl #[.int .u32 (y:Int),.int .i64 16] ?_ ?_;focus(simpa[Act.eval]using built_numP (y:Int) 16))
  |fail)
 refine HPUT.out.mono ?_
 rintro e w1 ⟨rfl,h1,h2,h3⟩
 have H1:=Lib.hid h1;have H2:=Lib.hid h2;have H3:=Lib.hid h3
 clear h1 h2 h3
 go_wp2
 go_end0
 exact⟨rfl,H1.out,H2.out,H3.out⟩
end Go.Proofs.YtokpcpjnihinfaaGreat
namespace Go.Proofs.YtokpcpjnihinfaaGreat
open Go.RowKit Go.ChangeShapes Go.WideShapes Go.ChangeAt Go.Joins
theorem szRow(a b c:Value):(Tryz.prog.info? 131).map (·.size)=some #[a,b,c].size:=by kernel_rfl
theorem set3_row{w:World}{b:Nat}{a0 a1 a2:Value}{t:TypeId}(hz:w.heap[b]?=some (.cells #[a0,a1,a2] t (0,0)))(x y z:Value):(((w.setCell ⟨b,0,none⟩ x).setCell ⟨b,1,none⟩ y).setCell ⟨b,2,none⟩ z).heap[b]?=some (.cells #[x,y,z] t (0,0)):=by
 have h1:=heap_setCell_same w b 0 _ _ x hz
 have h2:=heap_setCell_same _ b 1 _ _ y h1
 have h3:=heap_setCell_same _ b 2 _ _ z h2
 rw[h3];simp
theorem own_set3{w:World}{base sz n b:Nat}{e:TypeId}{v:Value}{xs:List Value}(h:w.ownsRow base e sz v n xs)(hb:b<base)(x y z:Value):(((w.setCell ⟨b,0,none⟩ x).setCell ⟨b,1,none⟩ y).setCell ⟨b,2,none⟩ z).ownsRow base e sz v n xs:=by
 have hne:∀j,v.ownBlock=some j→j≠b:=fun j hj=>by have:=(own_blk_lt h j hj).1;omega
 exact own_blk (own_blk (own_blk h fun j hj=>Below.heap_setCell _ _ _ j (hne j hj)) fun j hj=>Below.heap_setCell _ _ _ j (hne j hj)) fun j hj=>Below.heap_setCell _ _ _ j (hne j hj)
theorem behind11_any(w:World)(A:Option Addr)(n c:Nat)(f:Nat→Nat)(k:Nat)(hr:ByR w w.heap.size A n c f)(hk:k≤8388608)(hn:n=(k+7)/8):
  Calls Tryz.prog 82 #[.agg #[.slice A n c,.int .i64 (k:Int)]] w fun e w'=>∃A' c',e=.returned (.agg #[.slice A' (k/8) c',.int .u64 ((zext n f (k/8):Nat):Int),.int .i64 ((k%8:Nat):Int)])∧w'.ownsRow w.heap.size 5 1 (.slice A' (k/8) c') (k/8) (bytesL (k/8) (zext n f))∧Below w.heap.size w w':=by
 obtain⟨L,hL⟩:∃L,L=k/8:=⟨_,rfl⟩
 obtain⟨q,hq⟩:∃q,q=k%8:=⟨_,rfl⟩
 obtain⟨W1,hW1⟩:∃W,W=w.alloc (.cells #[.slice A n c,.int .i64 (k:Int)] 30):=⟨_,rfl⟩
 obtain⟨h,hh⟩:∃h,h=w.heap.size:=⟨_,rfl⟩
 obtain⟨W2,hW2⟩:∃W,W=W1.alloc (.cells #[.slice none 0 0,.int .u64 0,.int .i64 0] 131):=⟨_,rfl⟩
 have h1:W1.heap[h]?=some (.cells #[.slice A n c,.int .i64 (k:Int)] 30 (0,0)):=by rw[hW1,hh];exact heap_alloc_new w _
 have s1:W1.heap.size=h+1:=by rw[hW1,hh];simp
 have b12:Below W1.heap.size W1 W2:=by rw[hW2];exact(Below.refl _ _).alloc (Nat.le_refl _) _
 have b1:Below h w W1:=by rw[hW1,hh];exact(Below.refl _ _).alloc (Nat.le_refl _) _
 have b2:Below h w W2:=b1.trans (b12.mono (by omega))
 have s2:W2.heap.size=h+2:=by rw[hW2];simp[s1]
 have h2:W2.heap[h]?=some (.cells #[.slice A n c,.int .i64 (k:Int)] 30 (0,0)):=(b12.block h (by omega)).trans h1
 have g2:W2.heap[h+1]?=some (.cells #[.slice none 0 0,.int .u64 0,.int .i64 0] 131 (0,0)):=by rw[hW2,←s1];exact heap_alloc_new W1 _
 rw[←hL,←hq,←hh]
 rw[←hh]at hr
 have HR0:=Lib.hid hr
 have hr2:=(hr.below b2 (Nat.le_refl _)).more (show h≤W2.heap.size by omega)
 have p0:W2.cell? ⟨h,0,none⟩=some (.slice A n c):=(cell_of_row W2 _ 0 _ _ (0,0) h2).trans rfl
 have p1:W2.cell? ⟨h,1,none⟩=some (.int .i64 (k:Int)):=(cell_of_row W2 _ 1 _ _ (0,0) h2).trans rfl
 have hLn:L≤n:=by omega
 have hnc:=hr.2.2.1
 have hcl:=fun(V:World) (hV:Below W2.heap.size W2 V)=>clone8_any V A L c f ⟨((hr2.below hV (Nat.le_refl _)).more hV.size).1.part hLn,hr2.2.1,by omega,hr2.2.2.2⟩ (by omega)
 have hkq:(k:Int)/8=(L:Int):=by omega
 have hkq2:(k:Int).tdiv 8=(L:Int):=by rw[Int.tdiv_eq_ediv_of_nonneg (by omega)];omega
 have hkm:(k:Int)%8=(q:Int):=by omega
 have hkm2:(k:Int).tmod 8=(q:Int):=by rw[Int.tmod_eq_emod_of_nonneg (by omega)];omega
 have hLc:L≤c:=by omega
 have hLc2:¬(c:Int)<(L:Int):=by omega
 have hs2:h<W2.heap.size:=by omega
 have hX:(W2.alloc (.cells #[.slice none 0 0,.int .u64 0,.int .i64 0] 131)).heap[h+2]?=some (.cells #[.slice none 0 0,.int .u64 0,.int .i64 0] 131 (0,0)):=by rw[←s2];exact heap_alloc_new W2 _
 have HCL:=Lib.hid hcl;have HR:=Lib.hid hr2;have HW1:=Lib.hid hW1;have HW2:=Lib.hid hW2;have HH:=Lib.hid hh;have HB2:=Lib.hid b2;have G2:=Lib.hid g2;have HL:=Lib.hid hL;have HQ:=Lib.hid hq;have HN:=Lib.hid hn;have HS1:=Lib.hid s1
 have bd:Below W2.heap.size W2 W2.drew:=(Below.refl _ _).drew
 clear hcl hr hr2 hW1 hW2 hh h1 h2 g2 b12 b1 b2 hL hq hn s1
 go_enter Tryz.func82,Tryz.ntmps82
 go_wp2_with (first|rw[←HW1.out,←HH.out,←HW2.out]|fail)
 go_cut [4] (fun v4 wx=>∃X A' c',v4=.pointer (some ⟨X,0,none⟩)∧wx.heap[X]?=some (.cells #[.slice A' L c',.int .u64 0,.int .i64 (q:Int)] 131 (0,0))∧wx.ownsRow W2.heap.size 5 1 (.slice A' L c') L (bytesL L f)∧W2.heap.size≤X∧Below W2.heap.size W2 wx)
 case first=>
  go_region_law ((refine step_call rfl 63 _ _ rfl (enters_of Tryz.func63 (by kernel_rfl) rfl) (#[.slice A L c]) (by simp[Act.put,Act.eval,List.setIfInBounds_toArray,List.set_cons_zero,List.set_cons_succ]) (HCL.out _ (by first|assumption|exact bd.alloc (Nat.le_refl _) _|exact((Below.refl W2.heap.size W2).alloc (Nat.le_refl _) _).drew)) ?_;rintro e w6 ⟨A',c',rfl,ho6,hb6⟩;(first|(have p1':=(hb6.cell (p:=⟨h,1,none⟩) (by first|exact hs2|(simp;omega))).trans p1)|(have p1':=(hb6.cell (p:=⟨h,1,none⟩) (by first|exact hs2|(simp;omega))).trans (((Below.refl W2.heap.size W2).alloc (Nat.le_refl _) _).cell (p:=⟨h,1,none⟩) hs2|>.trans p1))|skip);(first|(have hz:=(hb6.block (h+2) (by simp;omega)).trans hX;have hz0:=(cell_of_row w6 (h+2) 0 _ _ (0,0) hz).trans rfl;have hz1:=(cell_of_row w6 (h+2) 1 _ _ (0,0) hz).trans rfl;have hz2:=(cell_of_row w6 (h+2) 2 _ _ (0,0) hz).trans rfl;have hy0:=frozen_of_row w6 (h+2) 0 _ _ hz;have hy1:=frozen_of_row w6 (h+2) 1 _ _ hz;have hy2:=frozen_of_row w6 (h+2) 2 _ _ hz)|skip);have hw6:h<w6.heap.size:=(by have:=hb6.size;simp at this;omega);refine⟨_,rfl,?_⟩))
  all_goals(
   go_wp2_with fail
   go_meet
   first
    |(refine⟨w6.heap.size,A',c',rfl,?_⟩
      have k1:=ho6.alloc (.cells #[.slice A' L c',.int .u64 0,.int .i64 (q:Int)] 131)
      have k2:=(hb6.mono (show W2.heap.size≤_ by simp)).alloc hb6.size (.cells #[.slice A' L c',.int .u64 0,.int .i64 (q:Int)] 131)
      refine⟨heap_alloc_new w6 _,ownsRow_base k1 (by simp),hb6.size,bd.trans k2⟩)
    |(refine⟨h+2,A',c',rfl,?_⟩
      have k1:=own_set3 (b:=h+2) ho6 (by simp;omega) (.slice A' L c') (.int .u64 0) (.int .i64 (q:Int))
      have k2:=(((hb6.mono (show W2.heap.size≤_ by simp)).setCell (p:=⟨h+2,0,none⟩) (by show W2.heap.size≤h+2;omega) (.slice A' L c')).setCell (p:=⟨h+2,1,none⟩) (by show W2.heap.size≤h+2;omega) (.int .u64 0)).setCell (p:=⟨h+2,2,none⟩) (by show W2.heap.size≤h+2;omega) (.int .i64 (q:Int))
      refine⟨set3_row hz _ _ _,ownsRow_base k1 (by simp),by omega,?_⟩
      exact(((Below.refl W2.heap.size W2).alloc (Nat.le_refl _) _).drew).trans k2))
 case rest=>
  obtain⟨X,A',c',rfl,hx,ho,hX2,hb⟩:=hcut
  obtain⟨wx,rfl⟩:∃wx:World,wx=wc:=⟨_,rfl⟩
  have hlt2:h+1<wx.heap.size:=by have:=hb.size;omega
  have e0:=(cell_of_row wx X 0 _ _ (0,0) hx).trans rfl
  have e2:wx.cell? ⟨X,2,none⟩=some (.int .i64 (q:Int)):=(cell_of_row wx X 2 _ _ (0,0) hx).trans rfl
  have f1:=frozen_of_row wx X 1 _ _ hx
  have e1:wx.cell? ⟨X,1,none⟩=some (.int .u64 0):=(cell_of_row wx X 1 _ _ (0,0) hx).trans rfl
  have p0':wx.cell? ⟨h,0,none⟩=some (.slice A n c):=(hb.cell (p:=⟨h,0,none⟩) hs2).trans p0
  have g2:=(hb.block (h+1) (by omega)).trans G2.out
  have HX2:=Lib.hid hX2
  have hXh:h+2≤X:=by omega
  have hext:zext n f L=if 0<q then f L else 0:=by
   unfold zext
   have h1:=HL.out;have h2:=HQ.out;have h3:=HN.out
   by_cases h0:0<q
   ·rw[if_pos h0,if_pos (by omega)]
   ·rw[if_neg h0,if_neg (by omega)]
  have hown:∀{V:World},V.ownsRow W2.heap.size 5 1 (.slice A' L c') L (bytesL L f)→V.ownsRow h 5 1 (.slice A' L c') L (bytesL L (zext n f)):=fun{V} hV=>by
   have h1:=ownsRow_base hV (show h≤W2.heap.size by omega)
   rwa[bytesL_ext (g:=zext n f) (fun j hj=>by unfold zext;rw[if_pos (by omega)])]at h1
  have HOWN:=Lib.hid ho;have HEX:=Lib.hid hext;have HWN:Hid (∀V:World,V.ownsRow W2.heap.size 5 1 (.slice A' L c') L (bytesL L f)→V.ownsRow h 5 1 (.slice A' L c') L (bytesL L (zext n f))):=Lib.hid fun V hV=>hown hV;have HBX:=Lib.hid (HB2.out.trans (hb.mono (by omega)));have HX:=Lib.hid hx;have HG2:=Lib.hid g2
  clear hX2 ho hext hown hb hx g2 p0 p1 bd e0
  by_cases hq0:0<q
  ·have dq:decide (0<(q:Int))=true:=decY0 (by omega)
   have hLlt:L<n:=by have:=HL.out;have:=HQ.out;have:=HN.out;omega
   have hLi:(L:Int)<(n:Int):=by omega
   obtain⟨b,o,rfl,hbl,hc⟩:=HR0.out.1.2 (by omega)
   have kb:=(HBX.out.cell (p:=⟨b,o+L,none⟩) hbl).trans (hc L hLlt)
   have hz0:zext n f L=f L:=by rw[HEX.out,if_pos hq0]
   obtain⟨y,hy⟩:∃y,y=f L:=⟨_,rfl⟩
   have hyb:y<256:=by rw[hy];exact HR0.out.1.1 L
   rw[←hy]at kb hz0
   obtain⟨U,hU⟩:∃U,U=wx.setCell ⟨X,1,none⟩ (.int .u64 (y:Int)):=⟨_,rfl⟩
   have hux:U.heap[X]?=some (.cells #[.slice A' L c',.int .u64 (y:Int),.int .i64 (q:Int)] 131 (0,0)):=by rw[hU];exact(heap_setCell_same wx X 1 _ _ _ HX.out).trans (by simp)
   have hug:U.heap[h+1]?=some (.cells #[.slice none 0 0,.int .u64 0,.int .i64 0] 131 (0,0)):=by rw[hU];exact(Below.heap_setCell wx _ _ (h+1) (by show h+1≠X;omega)).trans HG2.out
   have huo:U.ownsRow h 5 1 (.slice A' L c') L (bytesL L (zext n f)):=by rw[hU];exact HWN.out _ (own_blk HOWN.out fun j hj=>Below.heap_setCell wx _ _ j (own_type HOWN.out HX.out (by kernel_rfl)<|hj.trans<|congrArg some ·))
   have hub:Below h w U:=by rw[hU];exact HBX.out.setCell (by show h≤X;omega) _
   have hne:∀j,(Value.slice A' L c').ownBlock=some j→j≠h+1:=fun j hj=>by have:=(own_blk_lt HOWN.out j hj).1;omega
   have HUX:=Lib.hid hux;have HUG:=Lib.hid hug;have HUO:=Lib.hid huo;have HUB:=Lib.hid hub;have HU:=Lib.hid hU;have HZ0:=Lib.hid hz0;have HNE:=Lib.hid hne
   clear hux hug huo hub hU hz0 hy hc hne
   go_wp2_with (first
    |(refine wpList_load_row rfl _ _ rfl X rfl _ #[.slice A' L c',.int .u64 (y:Int),.int .i64 (q:Int)] (0,0) _ (by rw[←HU.out];exact HUX.out) Tryz.underlying131 rfl (szRow _ _ _) ?_;rw[←HU.out])
    |(refine wpList_store_rowTo rfl _ _ _ rfl rfl (h+1) #[.slice A' L c',.int .u64 (y:Int),.int .i64 (q:Int)] rfl rfl 131 #[.slice none 0 0,.int .u64 0,.int .i64 0] HUG.out (szRow _ _ _) rfl (by simp[Value.oneCell']) ?_)
    |fail)
   rw[HZ0.out]
   refine bodyPost_ret (v:=.agg #[.slice A' L c',.int .u64 (y:Int),.int .i64 (q:Int)]) ?_ rfl ⟨A',c',rfl,own_blk HUO.out fun j hj=>setRow_other _ _ _ _ (HNE.out j hj),below_row8 HUB.out (by omega) _⟩
   exact results_cell_row rfl _ _ (h+1) _ _ (0,0) _ rfl (setRow_heap _ _ _ _ _ _ HUG.out) Tryz.underlying131 rfl (szRow _ _ _)
  ·obtain rfl:q=0:=by omega
   have dq:decide (0<((0:Nat):Int))=false:=decN0 (by omega)
   have hz0:zext n f L=0:=by rw[HEX.out,if_neg (by omega)]
   have hne:∀j,(Value.slice A' L c').ownBlock=some j→j≠h+1:=fun j hj=>by have:=(own_blk_lt HOWN.out j hj).1;omega
   have HZ0:=Lib.hid hz0;have HNE:=Lib.hid hne
   clear hz0 hne
   go_wp2_with (first
    |(refine wpList_load_row rfl _ _ rfl X rfl _ #[.slice A' L c',.int .u64 0,.int .i64 ((0:Nat):Int)] (0,0) _ HX.out Tryz.underlying131 rfl (szRow _ _ _) ?_)
    |(refine wpList_store_rowTo rfl _ _ _ rfl rfl (h+1) #[.slice A' L c',.int .u64 0,.int .i64 ((0:Nat):Int)] rfl rfl 131 #[.slice none 0 0,.int .u64 0,.int .i64 0] HG2.out (szRow _ _ _) rfl (by simp[Value.oneCell']) ?_)
    |fail)
   rw[HZ0.out]
   refine bodyPost_ret (v:=.agg #[.slice A' L c',.int .u64 0,.int .i64 ((0:Nat):Int)]) ?_ rfl ⟨A',c',rfl,own_blk (HWN.out _ HOWN.out) fun j hj=>setRow_other _ _ _ _ (HNE.out j hj),below_row8 HBX.out (by omega) _⟩
   exact results_cell_row rfl _ _ (h+1) _ _ (0,0) _ rfl (setRow_heap _ _ _ _ _ _ HG2.out) Tryz.underlying131 rfl (szRow _ _ _)
end Go.Proofs.YtokpcpjnihinfaaGreat
