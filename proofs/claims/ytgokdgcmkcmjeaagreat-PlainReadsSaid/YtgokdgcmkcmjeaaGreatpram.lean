/-
  Words and walks.
-/
import Derived.BigRegion
import Derived.BigQuiet
import Derived.Great.BuildSlice
import Derived.Test.YtgokdgcmkcmjeaaGreatpraa
import Derived.Test.YtgokdgcmkcmjeaaGreatprad
import Derived.Test.YtgokdgcmkcmjeaaGreatprai
set_option maxRecDepth 100000
set_option maxHeartbeats 16000000
namespace Go.Proofs.YtgokdgcmkcmjeaaGreat
open Go.RowKit
def smC(M:Nat→Nat):Nat→Nat
 |0=>0
 |b+1=>smC M b+M b
def smS(M:Nat→Nat):Nat→Nat
 |0=>0
 |b+1=>smS M b+M b*p2N b
def kdC(l m f s o:Int)(M:Nat→Nat):Nat→Int:=fun i=>if i=0 then l else if i=1 then m else if i=2 then f else if i=3 then s else if i<18 then((M (i-4):Nat):Int)else o
def kdA(l m f s o:Int)(M:Nat→Nat):Array Value:=tblA (kdC l m f s o M) 19
theorem infoKd:(Tryz.prog.info? 173).map (fun i=>(i.zero,i.size))=some (some (.agg (kdA 0 0 0 0 0 (fun _=>0))),19):=by kernel_rfl
theorem szKd(T:Nat→Int):(Tryz.prog.info? 173).map (·.size)=some (tblA T 19).size:=by rw[tblA_size];kernel_rfl
def Knd(w:World)(g:Nat)(l m f s o:Int)(M:Nat→Nat):Prop:=w.heap[g]?=some (.cells (kdA l m f s o M) 173 (0,0))
section
variable {w w':World} {g:Nat} {l m f s o:Int} {M:Nat→Nat}
theorem Knd.lt(h:Knd w g l m f s o M):g<w.heap.size:=(Array.getElem?_eq_some_iff.1 h).1
theorem Knd.at(h:Knd w g l m f s o M){i:Nat}(hi:i<19):w.cell? ⟨g,i,none⟩=some (.int .i64 (kdC l m f s o M i)):=tbl_cell h hi
theorem Knd.least(h:Knd w g l m f s o M):w.cell? ⟨g,0,none⟩=some (.int .i64 l):=h.at (i:=0) (by omega)
theorem Knd.most(h:Knd w g l m f s o M):w.cell? ⟨g,1,none⟩=some (.int .i64 m):=h.at (i:=1) (by omega)
theorem Knd.first(h:Knd w g l m f s o M):w.cell? ⟨g,2,none⟩=some (.int .i64 f):=h.at (i:=2) (by omega)
theorem Knd.last(h:Knd w g l m f s o M):w.cell? ⟨g,3,none⟩=some (.int .i64 s):=h.at (i:=3) (by omega)
theorem Knd.own(h:Knd w g l m f s o M):w.cell? ⟨g,18,none⟩=some (.int .i64 o):=h.at (i:=18) (by omega)
theorem Knd.many(h:Knd w g l m f s o M){b:Nat}(hb:b<14):w.cell? ⟨g,4+b,none⟩=some (.int .i64 ((M b:Nat):Int)):=by
 have:=h.at (i:=4+b) (by omega)
 have e:kdC l m f s o M (4+b)=((M b:Nat):Int):=by
  unfold kdC
  rw[if_neg (by omega),if_neg (by omega),if_neg (by omega),if_neg (by omega),if_pos (by omega),show 4+b-4=b by omega]
 rw[e]at this;exact this
theorem Knd.frozen(h:Knd w g l m f s o M)(j:Nat):w.frozen? ⟨g,j,none⟩=false:=frozen_of_row w g j _ _ h
theorem Knd.below{B:Nat}(h:Knd w g l m f s o M)(hb:Below B w w')(hg:g<B):Knd w' g l m f s o M:=(hb.block g hg).trans h
theorem Knd.drew(h:Knd w g l m f s o M):Knd w.drew g l m f s o M:=h
theorem Knd.drewN(h:Knd w g l m f s o M)(k:Nat):Knd (w.drewN k) g l m f s o M:=h
end
theorem knd_new(w:World)(l m f s o:Int)(M:Nat→Nat):Knd (w.alloc (.cells (kdA l m f s o M) 173)) w.heap.size l m f s o M:=heap_alloc_new w _
theorem has9_any(w:World)(l m f s o:Int)(M:Nat→Nat)(y:Int)(h:Bool)(hh:h=decide (f≤y∧y≤s)):
  Calls Tryz.prog 151 #[.agg (kdA l m f s o M),.int .i64 y] w fun e w'=>e=.returned (.bool h)∧Below w.heap.size w w':=by
 have hk:=knd_new w l m f s o M
 have hb:Below w.heap.size w (w.alloc (.cells (kdA l m f s o M) 173)):=(Below.refl _ _).alloc (Nat.le_refl _) _
 have k2:=hk.first
 have k3:=hk.last
 obtain⟨a,ha⟩:∃a,a=decide (f≤y):=⟨_,rfl⟩
 obtain⟨c,hc⟩:∃c,c=decide (y≤s):=⟨_,rfl⟩
 have hh2:h=(a&&c):=by rw[hh,ha,hc];simp
 have HB:=Lib.hid hb;have HH:=Lib.hid hh2
 clear hk hb hh hh2
 have ha1:decide (f≤y)=a:=ha.symm
 have hc1:decide (y≤s)=c:=hc.symm
 clear ha hc
 rcases a with _|_
 ·go_enter Tryz.func151,Tryz.ntmps151
  go_wp2
  go_ret
  exact⟨by rw[HH.out];rfl,HB.out⟩
 ·go_enter Tryz.func151,Tryz.ntmps151
  go_wp2
  go_ret
  exact⟨by rw[HH.out];rfl,HB.out⟩
theorem belowN9{B:Nat}{a w:World}(h:Below B a w)(n:Nat):Below B a (w.drewN n):=⟨h.os,h.tape,h.output,h.size,h.block⟩
theorem sh9(z b:Nat)(hz:z≤40000)(hb:b<14):wrap64 ((z:Int)*2^b)=((z*p2N b:Nat):Int)∧z*p2N b≤327680000:=by
 have e:(z:Int)*2^b=((z*2^b:Nat):Int):=by rw[Int.natCast_mul,Int.natCast_pow];rfl
 have h1:2^b≤2^13:=Nat.pow_le_pow_right (by omega) (by omega)
 have h2:z*2^b≤40000*2^13:=Nat.mul_le_mul hz h1
 have h3:40000*2^13=327680000:=rfl
 rw[e]
 unfold p2N
 generalize z*2^b=x at h2
 unfold wrap64
 omega
def BgOut(l f:Int)(M:Nat→Nat)(y:Int)(e:Ending):Prop:=
 ∃b z:Nat,b<14∧z<M b∧y=f+((smC M b+z:Nat):Int)∧e=.returned (.tuple #[.int .i64 (l+((smS M b+z*p2N b:Nat):Int)),.int .i64 (b:Int)])
theorem smC_mono(M:Nat→Nat){i:Nat}:∀d,smC M i≤smC M (i+d)
 |0=>Nat.le_refl _
 |d+1=>Nat.le_trans (smC_mono M d) (Nat.le_add_right _ _)
theorem smS_mono(M:Nat→Nat){i:Nat}:∀d,smS M i≤smS M (i+d)
 |0=>Nat.le_refl _
 |d+1=>Nat.le_trans (smS_mono M d) (Nat.le_add_right _ _)
theorem smC_le(M:Nat→Nat){i j:Nat}(h:i≤j):smC M i≤smC M j:=by
 have:=smC_mono M (i:=i) (j-i);rwa[show i+(j-i)=j by omega]at this
theorem smS_le(M:Nat→Nat){i j:Nat}(h:i≤j):smS M i≤smS M j:=by
 have:=smS_mono M (i:=i) (j-i);rwa[show i+(j-i)=j by omega]at this
theorem begin9_own(w:World)(l m f s o:Int)(M:Nat→Nat)(ho:o≠0):
  Calls Tryz.prog 152 #[.agg (kdA l m f s o M),.int .i64 s] w fun e w'=>e=.returned (.tuple #[.int .i64 o,.int .i64 0])∧Below w.heap.size w w':=by
 have hk:=knd_new w l m f s o M
 have hb:Below w.heap.size w (w.alloc (.cells (kdA l m f s o M) 173)):=(Below.refl _ _).alloc (Nat.le_refl _) _
 have k2:=hk.own
 have k3:=hk.last
 have h1:(o !=0)=true:=by simpa using ho
 have h2:(s==s)=true:=by simp
 have HB:=Lib.hid hb
 clear hk hb ho
 go_enter Tryz.func152,Tryz.ntmps152
 go_wp2
 go_ret2
 exact⟨rfl,HB.out⟩
theorem begin9_any(w:World)(l m f s o:Int)(M:Nat→Nat)(y:Int)(hown:o=0∨y≠s)(hl:0≤l∧l≤1000)(hf:0≤f∧f≤1000)(h1:f≤y)(h2:y<f+((smC M 14:Nat):Int))(hC:smC M 14≤40)(hS:smS M 14≤40000):
  Calls Tryz.prog 152 #[.agg (kdA l m f s o M),.int .i64 y] w fun e w'=>BgOut l f M y e∧Below w.heap.size w w':=by
 have hk:=knd_new w l m f s o M
 have hb:Below w.heap.size w (w.alloc (.cells (kdA l m f s o M) 173)):=(Below.refl _ _).alloc (Nat.le_refl _) _
 have k2:=hk.own
 have k3:=hk.last
 have k4:=hk.least
 have k5:=hk.first
 obtain⟨B1,hB1⟩:∃B1,B1=(o !=0):=⟨_,rfl⟩
 obtain⟨B2,hB2⟩:∃B2,B2=(y==s):=⟨_,rfl⟩
 have hyb:y≤1040:=by omega
 have hB:B1=false∨B2=false:=by
  rcases hown with e|e
  ·left;rw[hB1,e];rfl
  ·right;rw[hB2];simpa using e
 have e1:=hB1.symm
 have e2:=hB2.symm
 have HB:=Lib.hid hb;have HC:=Lib.hid hC;have HS:=Lib.hid hS;have HK:=Lib.hid hk;have H2:=Lib.hid h2;have HBB:=Lib.hid hB
 clear hb hC hS hk h2 hB1 hB2 hown hB
 rcases B1 with _|_<;>rcases B2 with _|_
 case true.true=>rcases HBB.out with h|h<;>cases h
 all_goals(
  clear HBB
  go_enter Tryz.func152,Tryz.ntmps152
  go_wp2
  go_quiet (fail)
  go_wp2
  go_loopw [4,5,6] (fun lv bv fv wr=>∃b z S:Nat,b<14∧z≤40∧S≤40000∧lv=.int .i64 (l+(S:Int))∧bv=.int .i64 (b:Int)∧fv=.int .i64 (z:Int)∧Hid (S=smS M b)∧Hid (y=f+((smC M b+z:Nat):Int))∧Hid (Knd wr w.heap.size l m f s o M)∧Hid (Below w.heap.size w wr)) (fun _ bv _ _=>14-(intOf bv).toNat)
  case atStart=>
   refine⟨0,(y-f).toNat,0,by omega,?_,by omega,by simp,rfl,?_,Lib.hid rfl,Lib.hid ?_,Lib.hid (HK.out.drewN _),Lib.hid (belowN9 HB.out _)⟩
   ·have:=H2.out;have:=HC.out;omega
   ·exact val_int (by omega)
   ·show y=f+((0+(y-f).toNat:Nat):Int);omega
  case round=>
   obtain⟨b,z,S,hb,hz,hS,rfl,rfl,rfl,HSS,HY,HKR,HBR⟩:=hrel
   have c1:=HKR.out.many hb
   obtain⟨q,hq⟩:∃q,q=M b:=⟨_,rfl⟩
   rw[←hq]at c1
   have HQ:=Lib.hid hq
   clear hq
   have hq40:q≤40:=by
    rw[HQ.out]
    have:smC M (b+1)≤smC M 14:=smC_le M (by omega)
    have h3:smC M (b+1)=smC M b+M b:=rfl
    have:=HC.out;omega
   by_cases hlt:q≤z
   ·have hlt2:(q:Int)≤(z:Int):=by omega
    have hd:decide ((q:Int)≤(z:Int))=true:=decY hlt2
    have hd2:decide (q≤z)=true:=decY hlt
    go_wp2
    go_roundw
    case rel=>
     obtain⟨g1,g2⟩:=sh9 q b (by omega) hb
     have hb13:b+1<14:=by
      rcases Nat.lt_or_ge (b+1) 14 with h|h
      ·exact h
      ·exfalso
       have e13:b=13:=by omega
       have h1:=H2.out;have h2:=HY.out
       have h3:smC M 14=smC M 13+M 13:=rfl
       rw[e13]at h2 HQ
       have:=HQ.out
       omega
     have hS1:smS M (b+1)=S+q*p2N b:=by rw[HSS.out,HQ.out];rfl
     have hS2:smS M (b+1)≤40000:=Nat.le_trans (smS_le M (by omega)) HS.out
     have hC1:smC M (b+1)=smC M b+q:=by rw[HQ.out];rfl
     refine⟨b+1,z-q,S+q*p2N b,hb13,by omega,by omega,val_int ?_,by go_num,val_int (by omega),Lib.hid hS1.symm,Lib.hid ?_,HKR,HBR⟩
     ·rw[g1];unfold wrap64;omega
     ·rw[HY.out,hC1];omega
    case measure=>simp[intOf];omega
   ·have hd:decide ((q:Int)≤(z:Int))=false:=decN (by omega)
    have hd2:decide (q≤z)=false:=decN hlt
    go_wp2
    go_ret2
    obtain⟨g1,g2⟩:=sh9 z b (by omega) hb
    refine⟨⟨b,z,hb,by rw[←HQ.out];omega,HY.out,?_⟩,HBR.out⟩
    rw[g1,←HSS.out]
    have e:wrap64 (l+(S:Int)+((z*p2N b:Nat):Int))=l+((S+z*p2N b:Nat):Int):=by unfold wrap64;omega
    rw[e]
    rfl)
def BgN(l f s o:Int)(M:Nat→Nat)(y L:Int)(b:Nat):Prop:=
 (o≠0∧y=s∧L=o∧b=0)∨((o=0∨y≠s)∧∃z:Nat,b<14∧z<M b∧y=f+((smC M b+z:Nat):Int)∧L=l+((smS M b+z*p2N b:Nat):Int))
structure KndOk (l m f s o:Int) (M:Nat→Nat):Prop where
 l0:0≤l∧l≤1000
 f0:0≤f∧f≤1000
 o0:0≤o∧o≤1000
 s0:s≤1100
 m0:m<l+((smS M 14:Nat):Int)
 sC:(o=0∧s<f+((smC M 14:Nat):Int))∨(o≠0∧s≤f+((smC M 14:Nat):Int))
 C14:smC M 14≤40
 S14:smS M 14≤40000
theorem many_le{M:Nat→Nat}{b:Nat}(hb:b<14):smC M b+M b≤smC M 14∧smS M b+M b*p2N b≤smS M 14:=
 ⟨smC_le M (i:=b+1) (by omega),smS_le M (i:=b+1) (by omega)⟩
theorem bg_le{l m f s o:Int}{M:Nat→Nat}(hk:KndOk l m f s o M){y L:Int}{b:Nat}(h:BgN l f s o M y L b):0≤L∧L≤42000∧b<14:=by
 have h1:=hk.l0;have h2:=hk.o0;have h3:=hk.S14
 rcases h with⟨_,_,rfl,rfl⟩|⟨_,z,hb,hz,_,rfl⟩
 ·omega
 ·have h4:=(many_le (M:=M) hb).2
  have h5:z*p2N b≤M b*p2N b:=Nat.mul_le_mul_right _ (by omega)
  omega
theorem begin9_all(w:World)(l m f s o:Int)(M:Nat→Nat)(hk:KndOk l m f s o M)(y:Int)(hy:f≤y∧y≤s):
  Calls Tryz.prog 152 #[.agg (kdA l m f s o M),.int .i64 y] w fun e w'=>(∃(L:Int) (b:Nat),BgN l f s o M y L b∧e=.returned (.tuple #[.int .i64 L,.int .i64 (b:Int)]))∧Below w.heap.size w w':=by
 by_cases h:o≠0∧y=s
 ·obtain⟨h1,rfl⟩:=h
  refine(begin9_own w l m f y o M h1).mono ?_
  rintro e w' ⟨rfl,hb⟩
  exact⟨⟨o,0,.inl ⟨h1,rfl,rfl,rfl⟩,rfl⟩,hb⟩
 ·have h2:o=0∨y≠s:=by
   by_cases h0:o=0
   ·exact .inl h0
   ·exact .inr fun e=>h ⟨h0,e⟩
  have hC:=hk.sC
  refine(begin9_any w l m f s o M y h2 hk.l0 hk.f0 hy.1 (by rcases h2 with e|e<;>omega) hk.C14 hk.S14).mono ?_
  rintro e w' ⟨⟨b,z,h3,h4,h5,rfl⟩,hb⟩
  exact⟨⟨_,b,.inr ⟨h2,z,h3,h4,h5,rfl⟩,rfl⟩,hb⟩
end Go.Proofs.YtgokdgcmkcmjeaaGreat
namespace Go.Proofs.YtgokdgcmkcmjeaaGreat
open Go.RowKit
section
variable {w:World} {g:Nat} {l m f s o:Int} {M:Nat→Nat}
theorem Knd.setMany(h:Knd w g l m f s o M){j:Nat}(hj:j<14)(x:Nat):Knd (w.setCell ⟨g,4+j,none⟩ (.int .i64 (x:Int))) g l m f s o (fun i=>if i=j then x else M i):=by
 unfold Knd kdA
 rw[heap_setCell_same w g (4+j) _ _ _ h]
 unfold kdA
 rw[tbl_set]
 refine congrArg (fun a=>some (Obj.cells a 173 (0,0))) (tbl_ext fun i hi=>?_)
 unfold kdC
 by_cases e:i=4+j
 ·subst e
  rw[if_pos rfl,if_neg (by omega),if_neg (by omega),if_neg (by omega),if_neg (by omega),if_pos (by omega)]
  show(x:Int)=((if 4+j-4=j then x else M (4+j-4):Nat):Int)
  rw[if_pos (by omega)]
 ·rw[if_neg e]
  by_cases h4:i<4
  ·have:i=0∨i=1∨i=2∨i=3:=by omega
   rcases this with rfl|rfl|rfl|rfl<;>rfl
  ·rw[if_neg (show¬i=0 by omega),if_neg (show¬i=1 by omega),if_neg (show¬i=2 by omega),if_neg (show¬i=3 by omega),if_neg (show¬i=0 by omega),if_neg (show¬i=1 by omega),if_neg (show¬i=2 by omega),if_neg (show¬i=3 by omega)]
   show _=(if i<18 then((if i-4=j then x else M (i-4):Nat):Int)else o)
   rw[if_neg (show¬i-4=j by omega)]
theorem Knd.setAt(h:Knd w g l m f s o M){l' m' f' s' o':Int}(k:Nat)(x:Int)(he:∀i,i<19→(if i=k then x else kdC l m f s o M i)=kdC l' m' f' s' o' M i):Knd (w.setCell ⟨g,k,none⟩ (.int .i64 x)) g l' m' f' s' o' M:=by
 unfold Knd kdA
 rw[heap_setCell_same w g k _ _ _ h]
 unfold kdA
 rw[tbl_set]
 exact congrArg (fun a=>some (Obj.cells a 173 (0,0))) (tbl_ext he)
theorem Knd.setMost(h:Knd w g l m f s o M)(x:Int):Knd (w.setCell ⟨g,1,none⟩ (.int .i64 x)) g l x f s o M:=
 h.setAt 1 x fun i hi=>by
  unfold kdC
  by_cases e:i=1
  ·subst e;rfl
  ·rw[if_neg e];by_cases e0:i=0
   ·subst e0;rfl
   ·rw[if_neg e0,if_neg e,if_neg e0,if_neg e]
theorem Knd.setLast(h:Knd w g l m f s o M)(x:Int):Knd (w.setCell ⟨g,3,none⟩ (.int .i64 x)) g l m f x o M:=
 h.setAt 3 x fun i hi=>by
  unfold kdC
  by_cases e:i=3
  ·subst e;rfl
  ·rw[if_neg e,if_neg e,if_neg e]
theorem Knd.setOwn(h:Knd w g l m f s o M)(x:Int):Knd (w.setCell ⟨g,18,none⟩ (.int .i64 x)) g l m f s x M:=
 h.setAt 18 x fun i hi=>by
  unfold kdC
  by_cases e:i=18
  ·subst e;rfl
  ·rw[if_neg e]
   by_cases e0:i<18
   ·rw[if_pos e0,if_pos e0]
   ·omega
theorem Knd.other(h:Knd w g l m f s o M){p:Addr}(hp:g≠p.block)(u:Value):Knd (w.setCell p u) g l m f s o M:=(Below.heap_setCell w p u g hp).trans h
end
theorem built_kd(a b c d:Int):Tryz.prog.built 173 [(0,.int .i64 a),(1,.int .i64 b),(2,.int .i64 c),(3,.int .i64 d)]=some (kdA a b c d 0 (fun _=>0)):=by kernel_rfl
def fstM(L:List Nat)(j:Nat):Nat→Nat:=fun i=>if i<j then L.getD i 0 else 0
theorem fstM_next(L:List Nat)(j:Nat):(fun i=>if i=j then L.getD j 0 else fstM L j i)=fstM L (j+1):=by
 funext i
 unfold fstM
 by_cases e:i=j
 ·subst e;rw[if_pos rfl,if_pos (by omega)]
 ·rw[if_neg e]
  by_cases h:i<j
  ·rw[if_pos h,if_pos (by omega)]
  ·rw[if_neg h,if_neg (by omega)]
theorem fstM_all(L:List Nat):fstM L L.length=fun i=>L.getD i 0:=by
 funext i
 unfold fstM
 by_cases h:i<L.length
 ·rw[if_pos h]
 ·rw[if_neg h,List.getD_eq_getElem?_getD,List.getElem?_eq_none (by omega)];rfl
def lsM(L:List Nat):Nat→Nat:=fun i=>L.getD i 0
theorem filled9_any(w:World)(l f:Int)(A:Option Addr)(cap N:Nat)(L:List Nat)(hN:N=L.length)(hN14:N≤14)(hr:RdI w w.heap.size A (natsI L))(hl:0≤l∧l≤1000)(hf:0≤f∧f≤1000)(hS:smS (lsM L) N≤40000)(hC:smC (lsM L) N≤40):
  Calls Tryz.prog 150 #[.int .i64 l,.int .i64 f,.slice A N cap] w fun e w'=>e=.returned (.agg (kdA l (l-1+((smS (lsM L) N:Nat):Int)) f (f-1+((smC (lsM L) N:Nat):Int)) 0 (lsM L)))∧Below w.heap.size w w':=by
 have hz:=(zero_of_info infoKd).1
 have HR:=Lib.hid hr;have HS:=Lib.hid hS;have HC:=Lib.hid hC;have HN:=Lib.hid hN
 obtain⟨hl0,hl1⟩:=hl
 obtain⟨hf0,hf1⟩:=hf
 clear hr hS hC hN
 obtain⟨V,hV⟩:∃V,V=mkV (w.alloc (.cells (kdA 0 0 0 0 0 (fun _=>0)) 173)) (kdA 0 0 0 0 0 (fun _=>0)) (kdA l (l-1) f (f-1) 0 (fun _=>0)) 173:=⟨_,rfl⟩
 have v1:Knd V (w.heap.size+1) l (l-1) f (f-1) 0 (fun _=>0):=by
  have:=mkV_row (w.alloc (.cells (kdA 0 0 0 0 0 (fun _=>0)) 173)) (kdA 0 0 0 0 0 (fun _=>0)) (kdA l (l-1) f (f-1) 0 (fun _=>0)) 173
  rw[World.size_alloc,←hV]at this;exact this
 have bV:=mkV_below (w.alloc (.cells (kdA 0 0 0 0 0 (fun _=>0)) 173)) (kdA 0 0 0 0 0 (fun _=>0)) (kdA l (l-1) f (f-1) 0 (fun _=>0)) 173
 rw[←hV]at bV
 have v0:Knd V w.heap.size 0 0 0 0 0 (fun _=>0):=(knd_new w 0 0 0 0 0 (fun _=>0)).below bV (by simp)
 have b0:Below w.heap.size w V:=((Below.refl _ _).alloc (Nat.le_refl _) _).trans (bV.mono (by simp))
 have hn:=(heap_alloc_new (w.alloc (.cells (kdA 0 0 0 0 0 (fun _=>0)) 173)) (.cells (kdA 0 0 0 0 0 (fun _=>0)) 173))
 rw[World.size_alloc]at hn
 have hVe:((w.alloc (.cells (kdA 0 0 0 0 0 (fun _=>0)) 173)).alloc (.cells (kdA 0 0 0 0 0 (fun _=>0)) 173)).setRow (w.heap.size+1) (kdA l (l-1) f (f-1) 0 (fun _=>0))=V:=by
  rw[hV];unfold mkV;rw[World.size_alloc]
 have V0:=Lib.hid v0;have V1:=Lib.hid v1;have B0:=Lib.hid b0;have HVN:=Lib.hid hn;have HVE:=Lib.hid hVe
 clear v0 v1 b0 hn hVe bV hV
 go_enter Tryz.func150,Tryz.ntmps150
 go_wp2_with (first
  |(refine wpList_buildTo rfl 173 #[(0,.tmp 10),(1,.tmp 12),(2,.tmp 13),(3,.tmp 15)] rfl (some 16) rfl (kdA l (l-1) f (f-1) 0 (fun _=>0)) ?_ ?_;focus(simpa[Act.eval]using built_kd l (l-1) f (f-1)))
  |(refine wpList_store_rowTo rfl _ _ _ rfl rfl (w.heap.size+1) (kdA l (l-1) f (f-1) 0 (fun _=>0)) rfl rfl 173 (kdA 0 0 0 0 0 (fun _=>0)) HVN.out (szKd _) rfl (tblA_one _ _) ?_;rw[HVE.out])
  |fail)
 go_loopw [19] (fun iv wr=>∃j S C:Nat,j≤N∧S≤40000∧C≤40∧iv=.int .i64 (j:Int)∧Hid (S=smS (lsM L) j)∧Hid (C=smC (lsM L) j)∧Hid (Knd wr w.heap.size 0 0 0 0 0 (fun _=>0))∧Hid (Knd wr (w.heap.size+1) l (l-1+(S:Int)) f (f-1+(C:Int)) 0 (fstM L j))∧Hid (Below w.heap.size w wr)) (fun iv _=>N-(intOf iv).toNat)
 case atStart=>
  refine⟨0,0,0,Nat.zero_le _,by omega,by omega,rfl,Lib.hid rfl,Lib.hid rfl,V0,Lib.hid ?_,B0⟩
  have h0:fstM L 0=fun _=>0:=funext fun i=>if_neg (by omega)
  rw[h0]
  simpa using V1.out
 case round=>
  obtain⟨j,S,C,hj,hS,hC,rfl,HSS,HCC,K0,K1,HBR⟩:=hrel
  by_cases hlt:j<N
  ·have hj14:j<14:=by omega
   obtain⟨b,o,rfl,_,hc⟩:=(HR.out.below HBR.out (Nat.le_refl _)).at (k:=j) (by rw[natsI_length,←HN.out];exact hlt)
   have e1:=hc j (by rw[natsI_length,←HN.out];exact hlt)
   rw[natsI_get]at e1
   obtain⟨q,hq⟩:∃q,q=L.getD j 0:=⟨_,rfl⟩
   rw[←hq]at e1
   have HQ:=Lib.hid hq
   clear hq hc
   have r1:=K1.out.many hj14
   have r2:=K1.out.frozen (4+j)
   have s1:=K1.out.setMany hj14 q
   have r3:=s1.most
   have r4:=s1.frozen 1
   have s2:=(s1.setMost (wrap64 (l-1+(S:Int)+wrap64 ((q:Int)*2^j)))).drew
   have r5:=s2.last
   have r6:=s2.frozen 3
   have s3:=s2.setLast (f-1+(C:Int)+(q:Int))
   have t3:=(((K0.out.other (p:=⟨w.heap.size+1,4+j,none⟩) (by simp) (.int .i64 (q:Int))).other (p:=⟨w.heap.size+1,1,none⟩) (by simp) (.int .i64 (wrap64 (l-1+(S:Int)+wrap64 ((q:Int)*2^j))))).drew).other (p:=⟨w.heap.size+1,3,none⟩) (by simp) (.int .i64 (f-1+(C:Int)+(q:Int)))
   have b3:=((((HBR.out.setCell (p:=⟨w.heap.size+1,4+j,none⟩) (by simp) (.int .i64 (q:Int))).setCell (p:=⟨w.heap.size+1,1,none⟩) (by simp) (.int .i64 (wrap64 (l-1+(S:Int)+wrap64 ((q:Int)*2^j))))).drew)).setCell (p:=⟨w.heap.size+1,3,none⟩) (by simp) (.int .i64 (f-1+(C:Int)+(q:Int)))
   have S3:=Lib.hid s3;have T3:=Lib.hid t3;have B3:=Lib.hid b3
   clear s1 s2 s3 t3 b3
   have hq40:q≤40:=by
    have h1:smC (lsM L) (j+1)≤smC (lsM L) N:=smC_le _ (by omega)
    have h2:smC (lsM L) (j+1)=smC (lsM L) j+q:=by rw[HQ.out];rfl
    have:=HC.out;omega
   go_wp2
   go_region
   all_goals(
    go_wp2
    go_roundw
    case rel=>
     obtain⟨g1,g2⟩:=sh9 q j (by omega) hj14
     have hS1:smS (lsM L) (j+1)=S+q*p2N j:=by rw[HSS.out,HQ.out];rfl
     have hS2:smS (lsM L) (j+1)≤40000:=Nat.le_trans (smS_le _ (by omega)) HS.out
     have hC1:smC (lsM L) (j+1)=C+q:=by rw[HCC.out,HQ.out];rfl
     have hC2:smC (lsM L) (j+1)≤40:=Nat.le_trans (smC_le _ (by omega)) HC.out
     have hv1:wrap64 (l-1+(S:Int)+wrap64 ((q:Int)*2^j))=l-1+((S+q*p2N j:Nat):Int):=by rw[g1];unfold wrap64;omega
     have hv2:f-1+(C:Int)+(q:Int)=f-1+((C+q:Nat):Int):=by omega
     have s3:=S3.out;have t3:=T3.out;have b3:=B3.out
     rw[hv1,hv2]at s3
     have hM:(fun i=>if i=j then q else fstM L j i)=fstM L (j+1):=by rw[HQ.out];exact fstM_next L j
     rw[hM]at s3
     rw[hv1,hv2]at t3 b3
     rw[hv1,hv2]
     exact⟨j+1,S+q*p2N j,C+q,by omega,by omega,by omega,by go_num,Lib.hid hS1.symm,Lib.hid hC1.symm,Lib.hid t3,Lib.hid s3,Lib.hid b3⟩
    case measure=>simp[intOf];omega)
  ·obtain rfl:j=N:=by omega
   obtain⟨m1,hm1⟩:∃m1,m1=l-1+(S:Int):=⟨_,rfl⟩
   obtain⟨s1,hs1⟩:∃s1,s1=f-1+(C:Int):=⟨_,rfl⟩
   have k1:=K1.out
   rw[←hm1,←hs1]at k1
   have K2:=Lib.hid k1;have HM1:=Lib.hid hm1;have HS1:=Lib.hid hs1
   clear k1 hm1 hs1 K1
   go_wp2_with (first
    |(refine wpList_load_row rfl _ _ rfl (w.heap.size+1) rfl _ (kdA l m1 f s1 0 (fstM L j)) (0,0) _ K2.out Tryz.underlying173 rfl (szKd _) ?_)
    |(refine wpList_store_rowTo rfl _ _ _ rfl rfl w.heap.size (kdA l m1 f s1 0 (fstM L j)) rfl rfl 173 (kdA 0 0 0 0 0 (fun _=>0)) K0.out (szKd _) rfl (tblA_one _ _) ?_)
    |fail)
   refine bodyPost_ret (v:=.agg (kdA l m1 f s1 0 (fstM L j))) ?_ rfl ⟨?_,below_row9 HBR.out (Nat.le_refl _) _⟩
   ·exact results_cell_row rfl _ _ w.heap.size _ _ (0,0) _ rfl (setRow_heap _ _ _ _ _ _ K0.out) Tryz.underlying173 rfl (szKd _)
   ·have hM:fstM L j=lsM L:=by rw[HN.out];exact fstM_all L
    rw[hM,HM1.out,HS1.out,HSS.out,HCC.out]
def longL:List Nat:=[8,4,4,4,4,4]
def farL:List Nat:=[4,2,2,2,2,2,2,2,2,2,2,2,2,2]
theorem made_row(w:World)(Z:Array Value)(T:TypeId)(L:List Nat)(cs:Array Value)(h:cs.toList=intsL (natsI L)):
  RdI ((w.alloc (.cells Z T)).alloc (.cells cs 3)) ((w.alloc (.cells Z T)).alloc (.cells cs 3)).heap.size (some ⟨w.heap.size+1,0,none⟩) (natsI L)∧
  ((w.alloc (.cells Z T)).alloc (.cells cs 3)).heap[w.heap.size]?=some (.cells Z T (0,0))∧Below w.heap.size w ((w.alloc (.cells Z T)).alloc (.cells cs 3))∧w.heap.size<((w.alloc (.cells Z T)).alloc (.cells cs 3)).heap.size:=by
 have h1:=rdI_new (w.alloc (.cells Z T)) (natsI L) cs h
 have h2:((w.alloc (.cells Z T)).alloc (.cells cs 3)).heap[w.heap.size]?=some (.cells Z T (0,0)):=(Below.heap_alloc _ _ _ (by simp)).trans (heap_alloc_new w _)
 refine⟨?_,h2,((Below.refl _ _).alloc (Nat.le_refl _) _).alloc (by simp) _,by simp;omega⟩
 rw[World.size_alloc w]at h1
 exact h1
theorem fars9_any(w:World):Calls Tryz.prog 106 #[] w fun e w'=>e=.returned (.agg (kdA 1 32768 0 29 0 (lsM farL)))∧Below w.heap.size w w':=by
 have hz:=(zero_of_info infoKd).1
 obtain⟨hr,v0,b0,hlt⟩:=made_row w (kdA 0 0 0 0 0 (fun _=>0)) 173 farL #[.int .i64 4,.int .i64 2,.int .i64 2,.int .i64 2,.int .i64 2,.int .i64 2,.int .i64 2,.int .i64 2,.int .i64 2,.int .i64 2,.int .i64 2,.int .i64 2,.int .i64 2,.int .i64 2] rfl
 have hfl:=filled9_any _ 1 0 _ 14 14 farL rfl (by omega) hr (by omega) (by omega) (by decide) (by decide)
 have e1:(1:Int)-1+((smS (lsM farL) 14:Nat):Int)=32768:=by decide
 have e2:(0:Int)-1+((smC (lsM farL) 14:Nat):Int)=29:=by decide
 rw[e1,e2]at hfl
 obtain⟨V,hV⟩:∃V,V=((w.alloc (.cells (kdA 0 0 0 0 0 (fun _=>0)) 173)).alloc (.cells #[.int .i64 4,.int .i64 2,.int .i64 2,.int .i64 2,.int .i64 2,.int .i64 2,.int .i64 2,.int .i64 2,.int .i64 2,.int .i64 2,.int .i64 2,.int .i64 2,.int .i64 2,.int .i64 2] 3)):=⟨_,rfl⟩
 rw[←hV]at hfl v0 b0 hlt
 have HF:=Lib.hid hfl;have V0:=Lib.hid v0;have B0:=Lib.hid b0;have HV:=Lib.hid hV.symm;have HLT:=Lib.hid hlt
 clear hfl v0 b0 hV hr e1 e2 hlt
 obtain⟨X,hX⟩:∃X,X=kdA 1 32768 0 29 0 (lsM farL):=⟨_,rfl⟩
 obtain⟨x1,x2⟩:X.size=19∧X.all (·.oneCell')=true:=by rw[hX];exact⟨tblA_size _ _,tblA_one _ _⟩
 have x3:(Tryz.prog.info? 173).map (·.size)=some X.size:=by rw[hX];exact szKd _
 rw[←hX]at HF⊢
 clear hX
 go_enter Tryz.func106,Tryz.ntmps106
 go_wp2_with fail
 rw[HV.out]
 refine HF.out.mono ?_
 rintro e w1 ⟨rfl,hb1⟩
 have hk1:=(hb1.block w.heap.size HLT.out).trans V0.out
 have K1:=Lib.hid hk1;have HB1:=Lib.hid (B0.out.trans (hb1.mono (Nat.le_of_lt HLT.out)))
 clear hk1 hb1
 go_wp2_with (first
  |(refine wpList_store_rowTo rfl _ _ _ rfl rfl w.heap.size X rfl rfl 173 (kdA 0 0 0 0 0 (fun _=>0)) K1.out x3 (by rw[x1];rfl) x2 ?_)
  |fail)
 refine bodyPost_ret (v:=.agg X) ?_ rfl ⟨rfl,below_row9 HB1.out (Nat.le_refl _) _⟩
 exact results_cell_row rfl _ _ w.heap.size _ _ (0,0) _ rfl (setRow_heap _ _ _ _ _ _ K1.out) Tryz.underlying173 rfl x3
end Go.Proofs.YtgokdgcmkcmjeaaGreat
namespace Go.Proofs.YtgokdgcmkcmjeaaGreat
open Go.RowKit
theorem longs9_any(w:World):Calls Tryz.prog 103 #[] w fun e w'=>e=.returned (.agg (kdA 3 258 257 285 258 (lsM longL)))∧Below w.heap.size w w':=by
 have hz:=(zero_of_info infoKd).1
 obtain⟨hr,v0,b0,hlt⟩:=made_row w (kdA 0 0 0 0 0 (fun _=>0)) 173 longL #[.int .i64 8,.int .i64 4,.int .i64 4,.int .i64 4,.int .i64 4,.int .i64 4] rfl
 have hfl:=filled9_any _ 3 257 _ 6 6 longL rfl (by omega) hr (by omega) (by omega) (by decide) (by decide)
 have e1:(3:Int)-1+((smS (lsM longL) 6:Nat):Int)=258:=by decide
 have e2:(257:Int)-1+((smC (lsM longL) 6:Nat):Int)=284:=by decide
 rw[e1,e2]at hfl
 obtain⟨V,hV⟩:∃V,V=((w.alloc (.cells (kdA 0 0 0 0 0 (fun _=>0)) 173)).alloc (.cells #[.int .i64 8,.int .i64 4,.int .i64 4,.int .i64 4,.int .i64 4,.int .i64 4] 3)):=⟨_,rfl⟩
 rw[←hV]at hfl v0 b0 hlt
 have HF:=Lib.hid hfl;have V0:=Lib.hid v0;have B0:=Lib.hid b0;have HV:=Lib.hid hV.symm;have HLT:=Lib.hid hlt
 clear hfl v0 b0 hV hr e1 e2 hlt
 obtain⟨MM,hMM⟩:∃MM,MM=lsM longL:=⟨_,rfl⟩
 rw[←hMM]at HF⊢
 clear hMM
 go_enter Tryz.func103,Tryz.ntmps103
 go_wp2_with fail
 rw[HV.out]
 refine HF.out.mono ?_
 rintro e w1 ⟨rfl,hb1⟩
 have hk1:Knd w1 w.heap.size 0 0 0 0 0 (fun _=>0):=(hb1.block w.heap.size HLT.out).trans V0.out
 have bb1:Below w.heap.size w w1:=B0.out.trans (hb1.mono (Nat.le_of_lt HLT.out))
 have hne:w.heap.size≠w1.heap.size:=by have:=hk1.lt;omega
 obtain⟨U,hU⟩:∃U,U=mkV w1 (kdA 0 0 0 0 0 (fun _=>0)) (kdA 3 258 257 284 0 MM) 173:=⟨_,rfl⟩
 have u1:Knd U w1.heap.size 3 258 257 284 0 MM:=by rw[hU];exact mkV_row _ _ _ _
 have bU:Below w1.heap.size w1 U:=by rw[hU];exact mkV_below _ _ _ _
 have u0:Knd U w.heap.size 0 0 0 0 0 (fun _=>0):=hk1.below bU hk1.lt
 have f1:=u1.frozen 18
 have k1:=u1.own
 have u2:=u1.setOwn 258
 have f2:=u2.frozen 3
 have k2:=u2.last
 have u3:=u2.setLast 285
 have z3:=(u0.other (p:=⟨w1.heap.size,18,none⟩) hne (.int .i64 258)).other (p:=⟨w1.heap.size,3,none⟩) hne (.int .i64 285)
 have bb3:=((bb1.trans (bU.mono bb1.size)).setCell (p:=⟨w1.heap.size,18,none⟩) bb1.size (.int .i64 258)).setCell (p:=⟨w1.heap.size,3,none⟩) bb1.size (.int .i64 285)
 have HU:=Lib.hid hU.symm;have U3:=Lib.hid u3;have Z3:=Lib.hid z3;have BB3:=Lib.hid bb3
 clear hk1 bb1 hne hU u1 bU u0 u2 u3 z3 bb3 hb1
 go_wp2_with (first
  |(refine wpList_store_rowTo rfl _ _ _ rfl rfl w1.heap.size (kdA 3 258 257 284 0 MM) rfl rfl 173 (kdA 0 0 0 0 0 (fun _=>0)) (heap_alloc_new w1 _) (szKd _) rfl (tblA_one _ _) ?_;change wpList _ _ _ _ _ (mkV w1 (kdA 0 0 0 0 0 (fun _=>0)) (kdA 3 258 257 284 0 MM) 173);rw[HU.out])
  |(refine wpList_load_row rfl _ _ rfl w1.heap.size rfl _ (kdA 3 258 257 285 258 MM) (0,0) _ U3.out Tryz.underlying173 rfl (szKd _) ?_)
  |(refine wpList_store_rowTo rfl _ _ _ rfl rfl w.heap.size (kdA 3 258 257 285 258 MM) rfl rfl 173 (kdA 0 0 0 0 0 (fun _=>0)) Z3.out (szKd _) rfl (tblA_one _ _) ?_)
  |fail)
 refine bodyPost_ret (v:=.agg (kdA 3 258 257 285 258 MM)) ?_ rfl ⟨rfl,below_row9 BB3.out (Nat.le_refl _) _⟩
 exact results_cell_row rfl _ _ w.heap.size _ _ (0,0) _ rfl (setRow_heap _ _ _ _ _ _ Z3.out) Tryz.underlying173 rfl (szKd _)
theorem long_ok9:KndOk 3 258 257 285 258 (lsM longL):=⟨by omega,by omega,by omega,by omega,by decide,.inr (by decide),by decide,by decide⟩
theorem far_ok9:KndOk 1 32768 0 29 0 (lsM farL):=⟨by omega,by omega,by omega,by omega,by decide,.inl (by decide),by decide,by decide⟩
theorem long_tab:∀b,b<14→∀z,z<lsM longL b→smC (lsM longL) b+z<28∧longT (smC (lsM longL) b+z)=3+(smS (lsM longL) b+z*p2N b)∧longX (smC (lsM longL) b+z)=b:=by decide+kernel
theorem far_tab:∀b,b<14→∀z,z<lsM farL b→smC (lsM farL) b+z<30∧farT (smC (lsM farL) b+z)=1+(smS (lsM farL) b+z*p2N b)∧farX (smC (lsM farL) b+z)=b:=by decide+kernel
theorem bg_long{y L:Int}{b:Nat}(hy:257≤y∧y≤285)(h:BgN 3 257 285 258 (lsM longL) y L b):L=((longT (y-257).toNat:Nat):Int)∧b=longX (y-257).toNat:=by
 rcases h with⟨_,rfl,rfl,rfl⟩|⟨_,z,hb,hz,hy2,hL⟩
 ·exact⟨rfl,rfl⟩
 ·obtain⟨h1,h2,h3⟩:=long_tab b hb z hz
  have e:(y-257).toNat=smC (lsM longL) b+z:=by omega
  rw[e,h2,h3,hL]
  exact⟨by omega,rfl⟩
theorem bg_far{y L:Int}{b:Nat}(hy:0≤y∧y≤29)(h:BgN 1 0 29 0 (lsM farL) y L b):L=((farT y.toNat:Nat):Int)∧b=farX y.toNat:=by
 rcases h with⟨h0,_⟩|⟨_,z,hb,hz,hy2,hL⟩
 ·exact absurd rfl h0
 ·obtain⟨h1,h2,h3⟩:=far_tab b hb z hz
  have e:y.toNat=smC (lsM farL) b+z:=by omega
  rw[e,h2,h3,hL]
  exact⟨by omega,rfl⟩
end Go.Proofs.YtgokdgcmkcmjeaaGreat
namespace Go.Proofs.YtgokdgcmkcmjeaaGreat
open Go.RowKit
def BtOut(l f s o:Int)(M:Nat→Nat)(y:Int)(e:Ending):Prop:=
 if f≤y∧y≤s then∃(L:Int) (b:Nat),BgN l f s o M y L b∧e=.returned (.tuple #[.int .i64 (b:Int),.int .i64 0])else e=.returned (.tuple #[.int .i64 0,.int .i64 90])
theorem bits9_any(w:World)(l m f s o:Int)(M:Nat→Nat)(hk:KndOk l m f s o M)(y:Int):
  Calls Tryz.prog 104 #[.agg (kdA l m f s o M),.int .i64 y] w fun e w'=>BtOut l f s o M y e∧Below w.heap.size w w':=by
 obtain⟨h,hh⟩:∃h,h=decide (f≤y∧y≤s):=⟨_,rfl⟩
 have hkn:=knd_new w l m f s o M
 have hb:Below w.heap.size w (w.alloc (.cells (kdA l m f s o M) 173)):=(Below.refl _ _).alloc (Nat.le_refl _) _
 have hhas:=has9_any (w.alloc (.cells (kdA l m f s o M) 173)) l m f s o M y h hh
 have hlt:=hkn.lt
 have HKN:=Lib.hid hkn;have HB:=Lib.hid hb;have HH:=Lib.hid hh;have HHAS:=Lib.hid hhas;have HK:=Lib.hid hk;have HLT:=Lib.hid hlt
 clear hkn hb hh hhas hk hlt
 go_enter Tryz.func104,Tryz.ntmps104
 go_wp2_with (first
  |(refine wpList_load_row rfl _ _ rfl w.heap.size rfl _ (kdA l m f s o M) (0,0) _ HKN.out Tryz.underlying173 rfl (szKd _) ?_)
  |fail)
 refine HHAS.out.mono ?_
 rintro e w1 ⟨rfl,hb1⟩
 have hk1:Knd w1 w.heap.size l m f s o M:=HKN.out.below hb1 HLT.out
 have hb2:=HB.out.trans (hb1.mono (Nat.le_of_lt HLT.out))
 have HK1:=Lib.hid hk1;have HB1:=Lib.hid hb2
 clear hk1 hb1 hb2
 rcases h with _|_
 ·have hn:¬(f≤y∧y≤s):=by have:=HH.out;simpa using this
  go_wp2
  go_ret2
  exact⟨by unfold BtOut;rw[if_neg hn];rfl,HB1.out⟩
 ·have hy:f≤y∧y≤s:=by have:=HH.out;simpa using this
  have hbg:=begin9_all w1 l m f s o M HK.out y hy
  have HBG:=Lib.hid hbg;have HY:=Lib.hid hy
  have HSZ:=Lib.hid (show w.heap.size≤w1.heap.size from HB1.out.size)
  clear hbg hy
  go_wp2_with (first
   |(refine wpList_load_row rfl _ _ rfl w.heap.size rfl _ (kdA l m f s o M) (0,0) _ HK1.out Tryz.underlying173 rfl (szKd _) ?_)
   |fail)
  refine HBG.out.mono ?_
  rintro e w2 ⟨⟨L,b,hbn,rfl⟩,hb3⟩
  have HBN:=Lib.hid hbn;have HB3:=Lib.hid (HB1.out.trans (hb3.mono HSZ.out))
  clear hbn hb3
  go_wp2
  go_ret2
  exact⟨by unfold BtOut;rw[if_pos HY.out];exact⟨L,b,HBN.out,rfl⟩,HB3.out⟩
def NmOut(l f s o:Int)(M:Nat→Nat)(y x:Int)(e:Ending):Prop:=
 if f≤y∧y≤s then∃(L:Int) (b:Nat),BgN l f s o M y L b∧((x<0∨(p2N b:Int)≤x)∧e=.returned (.tuple #[.int .i64 0,.int .i64 2])∨
  (0≤x∧x<(p2N b:Int))∧((L+x=o∧y≠s)∧e=.returned (.tuple #[.int .i64 0,.int .i64 90])∨¬(L+x=o∧y≠s)∧e=.returned (.tuple #[.int .i64 (L+x),.int .i64 0])))
 else e=.returned (.tuple #[.int .i64 0,.int .i64 90])
theorem number9_any(w:World)(l m f s o:Int)(M:Nat→Nat)(hk:KndOk l m f s o M)(y x:Int):
  Calls Tryz.prog 105 #[.agg (kdA l m f s o M),.int .i64 y,.int .i64 x] w fun e w'=>NmOut l f s o M y x e∧Below w.heap.size w w':=by
 obtain⟨h,hh⟩:∃h,h=decide (f≤y∧y≤s):=⟨_,rfl⟩
 have hkn:=knd_new w l m f s o M
 have hb:Below w.heap.size w (w.alloc (.cells (kdA l m f s o M) 173)):=(Below.refl _ _).alloc (Nat.le_refl _) _
 have hhas:=has9_any (w.alloc (.cells (kdA l m f s o M) 173)) l m f s o M y h hh
 have hlt:=hkn.lt
 have HKN:=Lib.hid hkn;have HB:=Lib.hid hb;have HH:=Lib.hid hh;have HHAS:=Lib.hid hhas;have HK:=Lib.hid hk;have HLT:=Lib.hid hlt
 clear hkn hb hh hhas hk hlt
 go_enter Tryz.func105,Tryz.ntmps105
 go_wp2_with (first
  |(refine wpList_load_row rfl _ _ rfl w.heap.size rfl _ (kdA l m f s o M) (0,0) _ HKN.out Tryz.underlying173 rfl (szKd _) ?_)
  |fail)
 refine HHAS.out.mono ?_
 rintro e w1 ⟨rfl,hb1⟩
 have hk1:Knd w1 w.heap.size l m f s o M:=HKN.out.below hb1 HLT.out
 have hb2:=HB.out.trans (hb1.mono (Nat.le_of_lt HLT.out))
 have HK1:=Lib.hid hk1;have HB1:=Lib.hid hb2
 clear hk1 hb1 hb2
 rcases h with _|_
 ·have hn:¬(f≤y∧y≤s):=by have:=HH.out;simpa using this
  go_wp2
  go_ret2
  exact⟨by unfold NmOut;rw[if_neg hn];rfl,HB1.out⟩
 ·have hy:f≤y∧y≤s:=by have:=HH.out;simpa using this
  have hbg:=begin9_all w1 l m f s o M HK.out y hy
  have HBG:=Lib.hid hbg;have HY:=Lib.hid hy
  have HSZ:=Lib.hid (show w.heap.size≤w1.heap.size from HB1.out.size)
  clear hbg hy
  go_wp2_with (first
   |(refine wpList_load_row rfl _ _ rfl w.heap.size rfl _ (kdA l m f s o M) (0,0) _ HK1.out Tryz.underlying173 rfl (szKd _) ?_)
   |fail)
  refine HBG.out.mono ?_
  rintro e w2 ⟨⟨L,b,hbn,rfl⟩,hb3⟩
  have hk2:Knd w2 w.heap.size l m f s o M:=HK1.out.below hb3 HK1.out.lt
  have k2:=hk2.own
  have k3:=hk2.last
  obtain⟨hL0,hL1,hb14⟩:=bg_le HK.out hbn
  have HBN:=Lib.hid hbn;have HB3:=Lib.hid (HB1.out.trans (hb3.mono HSZ.out))
  clear hbn hb3 hk2
  have hp:wrap64 ((2:Int)^b)=((p2N b:Nat):Int)∧p2N b≤8192:=by
   have h1:2^b≤2^13:=Nat.pow_le_pow_right (by omega) (by omega)
   have e:(2:Int)^b=((2^b:Nat):Int):=by rw[Int.natCast_pow];rfl
   rw[e]
   unfold p2N
   generalize 2^b=z at h1
   unfold wrap64
   omega
  obtain⟨P,hP⟩:∃P,P=p2N b:=⟨_,rfl⟩
  rw[←hP]at hp
  obtain⟨hp1,hp2⟩:=hp
  have HP:=Lib.hid hP;have HP1:=Lib.hid hp1
  clear hP hp1
  have key:∀e,((x<0∨(P:Int)≤x)∧e=Ending.returned (.tuple #[.int .i64 0,.int .i64 2])∨(0≤x∧x<(P:Int))∧((L+x=o∧y≠s)∧e=.returned (.tuple #[.int .i64 0,.int .i64 90])∨¬(L+x=o∧y≠s)∧e=.returned (.tuple #[.int .i64 (L+x),.int .i64 0])))→NmOut l f s o M y x e:=fun e he=>by
   unfold NmOut;rw[if_pos HY.out];rw[HP.out]at he;exact⟨L,b,HBN.out,he⟩
  have KEY:=Lib.hid key
  clear key
  by_cases hx0:x<0
  ·have hd:decide (x<0)=true:=decY hx0
   go_wp2
   go_ret2
   exact⟨KEY.out _ (.inl ⟨.inl hx0,rfl⟩),HB3.out⟩
  ·have hd:decide (x<0)=false:=decN hx0
   by_cases hx1:(P:Int)≤x
   ·have hd1:decide ((P:Int)≤x)=true:=decY hx1
    have hd2:decide (wrap64 ((2:Int)^b)≤x)=true:=by rw[HP1.out];exact hd1
    go_wp2
    go_ret2
    exact⟨KEY.out _ (.inl ⟨.inr hx1,rfl⟩),HB3.out⟩
   ·have hd1:decide ((P:Int)≤x)=false:=decN hx1
    have hd2:decide (wrap64 ((2:Int)^b)≤x)=false:=by rw[HP1.out];exact hd1
    obtain⟨B1,hB1⟩:∃B1,B1=(L+x==o):=⟨_,rfl⟩
    obtain⟨B2,hB2⟩:∃B2,B2=(y !=s):=⟨_,rfl⟩
    have e1:=hB1.symm
    have e2:=hB2.symm
    have hBB:(L+x=o∧y≠s)↔(B1&&B2)=true:=by rw[hB1,hB2];simp
    have HBB:=Lib.hid hBB
    clear hB1 hB2 hBB
    rcases B1 with _|_<;>rcases B2 with _|_
    all_goals(
     go_wp2
     go_ret2
     refine⟨KEY.out _ (.inr ⟨⟨by omega,by omega⟩,?_⟩),HB3.out⟩
     first
      |exact .inl ⟨HBB.out.2 rfl,rfl⟩
      |exact .inr ⟨fun h=>absurd (HBB.out.1 h) (by decide),rfl⟩)
end Go.Proofs.YtgokdgcmkcmjeaaGreat
namespace Go.Proofs.YtgokdgcmkcmjeaaGreat
open Go.RowKit
theorem bt_long{y:Int}{e:Ending}(h:BtOut 3 257 285 258 (lsM longL) y e):e=.returned (.tuple #[.int .i64 (lbV y),.int .i64 (lbE y)]):=by
 unfold BtOut at h
 unfold lbV lbE
 by_cases hy:257≤y∧y≤285
 ·rw[if_pos hy]at h⊢
  obtain⟨L,b,hb,rfl⟩:=h
  rw[if_pos hy,(bg_long hy hb).2]
 ·rw[if_neg hy]at h⊢
  rw[if_neg hy];exact h
theorem bt_far{y:Int}{e:Ending}(h:BtOut 1 0 29 0 (lsM farL) y e):e=.returned (.tuple #[.int .i64 (fbV y),.int .i64 (fbE y)]):=by
 unfold BtOut at h
 unfold fbV fbE
 by_cases hy:0≤y∧y≤29
 ·rw[if_pos hy]at h⊢
  obtain⟨L,b,hb,rfl⟩:=h
  rw[if_pos hy,(bg_far hy hb).2]
 ·rw[if_neg hy]at h⊢
  rw[if_neg hy];exact h
theorem nm_long{y x:Int}{e:Ending}(h:NmOut 3 257 285 258 (lsM longL) y x e):e=.returned (.tuple #[.int .i64 (loV y x),.int .i64 (loE y x)]):=by
 unfold NmOut at h
 by_cases hy:257≤y∧y≤285
 ·rw[if_pos hy]at h
  obtain⟨L,b,hb,h⟩:=h
  obtain⟨rfl,rfl⟩:=bg_long hy hb
  have ep:p2N (longX (y-257).toNat)=2^longX (y-257).toNat:=rfl
  rw[ep]at h
  rcases h with⟨h1,rfl⟩|⟨h1,h⟩
  ·have hE:loE y x=2:=by unfold loE;rw[if_pos hy,if_pos h1]
   have hV:loV y x=0:=by unfold loV;rw[if_neg (by rw[hE];decide)]
   rw[hE,hV]
  ·have hneg:¬(x<0∨((2^longX (y-257).toNat:Nat):Int)≤x):=by omega
   have hiff:((((longT (y-257).toNat:Nat):Int)+x=258∧y≠285))↔(y=284∧x=31):=by
    obtain⟨X,rfl⟩:=Int.eq_ofNat_of_zero_le h1.1
    obtain⟨i,hi⟩:∃i,i=(y-257).toNat:=⟨_,rfl⟩
    rw[←hi]at h1⊢
    have hx:X<2^longX i:=by omega
    constructor
    ·rintro⟨a,c⟩
     have h28:i<28:=by omega
     by_cases e27:i=27
     ·subst e27
      have e1:longT 27=227:=rfl
      omega
     ·exfalso
      have hn:=long_next i h28 e27
      have hr:=longs_rise.mono (i:=i+1) (27-(i+1)) (by omega)
      rw[show i+1+(27-(i+1))=27 by omega]at hr
      have e1:longT 27=227:=rfl
      omega
    ·rintro⟨a,c⟩
     have e27:i=27:=by omega
     subst e27
     have e1:longT 27=227:=rfl
     omega
   rcases h with⟨h2,rfl⟩|⟨h2,rfl⟩
   ·have hE:loE y x=90:=by unfold loE;rw[if_pos hy,if_neg hneg,if_pos (hiff.1 h2)]
    have hV:loV y x=0:=by unfold loV;rw[if_neg (by rw[hE];decide)]
    rw[hE,hV]
   ·have hE:loE y x=0:=by unfold loE;rw[if_pos hy,if_neg hneg,if_neg (fun g=>h2 (hiff.2 g))]
    have hV:loV y x=((longT (y-257).toNat:Nat):Int)+x:=by unfold loV;rw[if_pos hE]
    rw[hE,hV]
 ·rw[if_neg hy]at h
  have hE:loE y x=90:=by unfold loE;rw[if_neg hy]
  have hV:loV y x=0:=by unfold loV;rw[if_neg (by rw[hE];decide)]
  rw[hE,hV];exact h
theorem nm_far{y x:Int}{e:Ending}(h:NmOut 1 0 29 0 (lsM farL) y x e):e=.returned (.tuple #[.int .i64 (foV y x),.int .i64 (foE y x)]):=by
 unfold NmOut at h
 by_cases hy:0≤y∧y≤29
 ·rw[if_pos hy]at h
  obtain⟨L,b,hb,h⟩:=h
  obtain⟨rfl,rfl⟩:=bg_far hy hb
  have ep:p2N (farX y.toNat)=2^farX y.toNat:=rfl
  rw[ep]at h
  have hpos:1≤farT y.toNat:=by
   have h1:=fars_rise.mono (i:=0) y.toNat (by omega)
   have e0:farT 0=1:=rfl
   rw[Nat.zero_add]at h1
   omega
  rcases h with⟨h1,rfl⟩|⟨h1,h⟩
  ·have hE:foE y x=2:=by unfold foE;rw[if_pos hy,if_pos h1]
   have hV:foV y x=0:=by unfold foV;rw[if_neg (by rw[hE];decide)]
   rw[hE,hV]
  ·have hneg:¬(x<0∨((2^farX y.toNat:Nat):Int)≤x):=by omega
   rcases h with⟨h2,rfl⟩|⟨h2,rfl⟩
   ·omega
   ·have hE:foE y x=0:=by unfold foE;rw[if_pos hy,if_neg hneg]
    have hV:foV y x=((farT y.toNat:Nat):Int)+x:=by unfold foV;rw[if_pos hE]
    rw[hE,hV]
 ·rw[if_neg hy]at h
  have hE:foE y x=90:=by unfold foE;rw[if_neg hy]
  have hV:foV y x=0:=by unfold foV;rw[if_neg (by rw[hE];decide)]
  rw[hE,hV];exact h
theorem lbit9_any(w:World)(n:Int):Calls Tryz.prog 65 #[.int .i64 n] w fun e w'=>e=.returned (.tuple #[.int .i64 (lbV n),.int .i64 (lbE n)])∧Below w.heap.size w w':=by
 obtain⟨X,hX⟩:∃X,X=kdA 3 258 257 285 258 (lsM longL):=⟨_,rfl⟩
 have hs:=fun v=>bits9_any v 3 258 257 285 258 (lsM longL) long_ok9 n
 have hk:=longs9_any w
 rw[←hX]at hk hs
 have HM:=Lib.hid hk;have HS:=Lib.hid hs
 obtain⟨z0,hz0⟩:∃z,z=lbV n:=⟨_,rfl⟩;obtain⟨z1,hz1⟩:∃z,z=lbE n:=⟨_,rfl⟩
 have hy:∀e,BtOut 3 257 285 258 (lsM longL) n e→e=.returned (.tuple #[.int .i64 z0,.int .i64 z1]):=fun e h=>by rw[hz0,hz1];exact bt_long h
 rw[←hz0,←hz1]
 have HY:=Lib.hid hy
 clear hz0 hz1 hX hk hs hy
 go_enter Tryz.func65,Tryz.ntmps65
 go_wp2_with fail
 refine HM.out.mono ?_
 rintro e w1 ⟨rfl,hb1⟩
 have HB1:=Lib.hid hb1
 clear hb1
 go_wp2_with fail
 refine(HS.out w1).mono ?_
 rintro e w2 ⟨he,hb2⟩
 obtain rfl:=HY.out _ he
 have HB2:=Lib.hid (HB1.out.trans (hb2.mono HB1.out.size))
 clear hb2 he
 go_wp2
 go_ret2
 exact⟨rfl,HB2.out⟩
theorem fbit9_any(w:World)(n:Int):Calls Tryz.prog 67 #[.int .i64 n] w fun e w'=>e=.returned (.tuple #[.int .i64 (fbV n),.int .i64 (fbE n)])∧Below w.heap.size w w':=by
 obtain⟨X,hX⟩:∃X,X=kdA 1 32768 0 29 0 (lsM farL):=⟨_,rfl⟩
 have hs:=fun v=>bits9_any v 1 32768 0 29 0 (lsM farL) far_ok9 n
 have hk:=fars9_any w
 rw[←hX]at hk hs
 have HM:=Lib.hid hk;have HS:=Lib.hid hs
 obtain⟨z0,hz0⟩:∃z,z=fbV n:=⟨_,rfl⟩;obtain⟨z1,hz1⟩:∃z,z=fbE n:=⟨_,rfl⟩
 have hy:∀e,BtOut 1 0 29 0 (lsM farL) n e→e=.returned (.tuple #[.int .i64 z0,.int .i64 z1]):=fun e h=>by rw[hz0,hz1];exact bt_far h
 rw[←hz0,←hz1]
 have HY:=Lib.hid hy
 clear hz0 hz1 hX hk hs hy
 go_enter Tryz.func67,Tryz.ntmps67
 go_wp2_with fail
 refine HM.out.mono ?_
 rintro e w1 ⟨rfl,hb1⟩
 have HB1:=Lib.hid hb1
 clear hb1
 go_wp2_with fail
 refine(HS.out w1).mono ?_
 rintro e w2 ⟨he,hb2⟩
 obtain rfl:=HY.out _ he
 have HB2:=Lib.hid (HB1.out.trans (hb2.mono HB1.out.size))
 clear hb2 he
 go_wp2
 go_ret2
 exact⟨rfl,HB2.out⟩
theorem lof9_any(w:World)(n x:Int):Calls Tryz.prog 66 #[.int .i64 n,.int .i64 x] w fun e w'=>e=.returned (.tuple #[.int .i64 (loV n x),.int .i64 (loE n x)])∧Below w.heap.size w w':=by
 obtain⟨X,hX⟩:∃X,X=kdA 3 258 257 285 258 (lsM longL):=⟨_,rfl⟩
 have hs:=fun v=>number9_any v 3 258 257 285 258 (lsM longL) long_ok9 n x
 have hk:=longs9_any w
 rw[←hX]at hk hs
 have HM:=Lib.hid hk;have HS:=Lib.hid hs
 obtain⟨z0,hz0⟩:∃z,z=loV n x:=⟨_,rfl⟩;obtain⟨z1,hz1⟩:∃z,z=loE n x:=⟨_,rfl⟩
 have hy:∀e,NmOut 3 257 285 258 (lsM longL) n x e→e=.returned (.tuple #[.int .i64 z0,.int .i64 z1]):=fun e h=>by rw[hz0,hz1];exact nm_long h
 rw[←hz0,←hz1]
 have HY:=Lib.hid hy
 clear hz0 hz1 hX hk hs hy
 go_enter Tryz.func66,Tryz.ntmps66
 go_wp2_with fail
 refine HM.out.mono ?_
 rintro e w1 ⟨rfl,hb1⟩
 have HB1:=Lib.hid hb1
 clear hb1
 go_wp2_with fail
 refine(HS.out w1).mono ?_
 rintro e w2 ⟨he,hb2⟩
 obtain rfl:=HY.out _ he
 have HB2:=Lib.hid (HB1.out.trans (hb2.mono HB1.out.size))
 clear hb2 he
 go_wp2
 go_ret2
 exact⟨rfl,HB2.out⟩
theorem fof9_any(w:World)(n x:Int):Calls Tryz.prog 68 #[.int .i64 n,.int .i64 x] w fun e w'=>e=.returned (.tuple #[.int .i64 (foV n x),.int .i64 (foE n x)])∧Below w.heap.size w w':=by
 obtain⟨X,hX⟩:∃X,X=kdA 1 32768 0 29 0 (lsM farL):=⟨_,rfl⟩
 have hs:=fun v=>number9_any v 1 32768 0 29 0 (lsM farL) far_ok9 n x
 have hk:=fars9_any w
 rw[←hX]at hk hs
 have HM:=Lib.hid hk;have HS:=Lib.hid hs
 obtain⟨z0,hz0⟩:∃z,z=foV n x:=⟨_,rfl⟩;obtain⟨z1,hz1⟩:∃z,z=foE n x:=⟨_,rfl⟩
 have hy:∀e,NmOut 1 0 29 0 (lsM farL) n x e→e=.returned (.tuple #[.int .i64 z0,.int .i64 z1]):=fun e h=>by rw[hz0,hz1];exact nm_far h
 rw[←hz0,←hz1]
 have HY:=Lib.hid hy
 clear hz0 hz1 hX hk hs hy
 go_enter Tryz.func68,Tryz.ntmps68
 go_wp2_with fail
 refine HM.out.mono ?_
 rintro e w1 ⟨rfl,hb1⟩
 have HB1:=Lib.hid hb1
 clear hb1
 go_wp2_with fail
 refine(HS.out w1).mono ?_
 rintro e w2 ⟨he,hb2⟩
 obtain rfl:=HY.out _ he
 have HB2:=Lib.hid (HB1.out.trans (hb2.mono HB1.out.size))
 clear hb2 he
 go_wp2
 go_ret2
 exact⟨rfl,HB2.out⟩
end Go.Proofs.YtgokdgcmkcmjeaaGreat
namespace Go.Proofs.YtgokdgcmkcmjeaaGreat
open Go.RowKit Go.ChangeShapes Go.WideShapes Go.ChangeAt Go.Joins
theorem strR_step{N:Nat}{l:List (Int×Int)}{i:Nat}(h:i<l.length)(out:List Nat):strR N (l.drop i) out=
  if(l.getD i run0).1<0∨18<(l.getD i run0).1∨(l.getD i run0).2<0∨(2^bitsR (l.getD i run0).1:Nat)≤(l.getD i run0).2 then(8,[])else
   if((l.getD i run0).1=16∧out=[])∨N<out.length+timesR (l.getD i run0).1 (l.getD i run0).2 then(100,[])else strR N (l.drop (i+1)) (out++List.replicate (timesR (l.getD i run0).1 (l.getD i run0).2) (valR (l.getD i run0).1 out)):=by
 have e:l.drop i=l.getD i run0::l.drop (i+1):=by
  rw[List.drop_eq_getElem_cons h,List.getD_eq_getElem?_getD,List.getElem?_eq_getElem h];rfl
 rw[e]
 obtain⟨s,x⟩:=l.getD i run0
 rfl
theorem rep_one(out:List Nat)(k v:Nat):bytesL (out.length+k) (lst (out++List.replicate k v))=bytesL (out.length+k) (lst (out++List.replicate (k+1) v))∧lst (out++List.replicate (k+1) v) (out.length+k)=v:=by
 have h:=lst_one (out++List.replicate k v) v
 have e:out++List.replicate k v++[v]=out++List.replicate (k+1) v:=by rw[List.append_assoc,List.replicate_succ']
 rw[e,List.length_append,List.length_replicate]at h
 exact h
theorem bitsR_le(s:Int):bitsR s≤7:=by
 unfold bitsR
 split
 ·omega
 ·split
  ·omega
  ·split<;>omega
theorem timesR_le{s x:Int}(h:x<128):timesR s x≤139:=by
 unfold timesR
 split
 ·omega
 ·split<;>omega
theorem valR_lt{s:Int}{out:List Nat}(h:∀x∈out,x<256):valR s out<256:=by
 unfold valR
 split
 ·cases hl:out.getLast? with
  |none=>show 0<256;omega
  |some z=>exact h z (List.mem_of_getLast? hl)
 ·split<;>omega
theorem last_lst(out:List Nat):out.getLast?.getD 0=lst out (out.length-1):=by
 unfold lst
 rw[List.getLast?_eq_getElem?,List.getD_eq_getElem?_getD]
end Go.Proofs.YtgokdgcmkcmjeaaGreat
