/-
  Words and walks.
-/
import Derived.BigRegion
import Derived.BigQuiet
import Derived.Great.BuildSlice
import Derived.Laws.StructEq
import Derived.Deep.DeepCutAuto
import Derived.Deep.RegionWith
import Derived.Test.YtcmpmighjglnpaaGreattaaa
import Derived.Test.YtcmpmighjglnpaaGreattaab
import Derived.Test.YtcmpmighjglnpaaGreattaad
import Derived.Test.YtcmpmighjglnpaaGreattaaj
set_option maxRecDepth 100000
set_option maxHeartbeats 16000000
namespace Go.Proofs.YtcmpmighjglnpaaGreat
open Go.RowKit
section
variable {w:World} {g:Nat} {l m f s o:Int} {M:Nat→Nat}
theorem Knd.setMany(h:Knd w g l m f s o M){j:Nat}(hj:j<14)(x:Nat):Knd (w.setCell ⟨g,4+j,none⟩ (.int .i64 (x:Int))) g l m f s o (fun i=>if i=j then x else M i):=by
 unfold Knd kdA
 rw[heap_setCell_same w g (4+j) _ _ _ h]
 unfold kdA
 rw[tbl_set]
 refine congrArg (fun a=>some (Obj.cells a 187 (0,0))) (tbl_ext fun i hi=>?_)
 unfold kdC
 by_cases e:i=4+j
 ·subst e
  rw[if_pos rfl,if_neg (by omega),if_neg (by omega),if_neg (by omega),if_neg (by omega),if_pos (by omega)]
  show(x:Int)=((if 4+j-4=j then x else M (4+j-4):Nat):Int)
  rw[if_pos (by omega)]
 ·rw[if_neg e]
  by_cases h4:i<4
  ·have:i=0∨i=1∨i=2∨i=3:=by omega
   rcases this with rfl|rfl|rfl|rfl<;>rfl
  ·rw[if_neg (show¬i=0 by omega),if_neg (show¬i=1 by omega),if_neg (show¬i=2 by omega),if_neg (show¬i=3 by omega),if_neg (show¬i=0 by omega),if_neg (show¬i=1 by omega),if_neg (show¬i=2 by omega),if_neg (show¬i=3 by omega)]
   show _=(if i<18 then((if i-4=j then x else M (i-4):Nat):Int)else o)
   rw[if_neg (show¬i-4=j by omega)]
theorem Knd.setAt(h:Knd w g l m f s o M){l' m' f' s' o':Int}(k:Nat)(x:Int)(he:∀i,i<19→(if i=k then x else kdC l m f s o M i)=kdC l' m' f' s' o' M i):Knd (w.setCell ⟨g,k,none⟩ (.int .i64 x)) g l' m' f' s' o' M:=by
 unfold Knd kdA
 rw[heap_setCell_same w g k _ _ _ h]
 unfold kdA
 rw[tbl_set]
 exact congrArg (fun a=>some (Obj.cells a 187 (0,0))) (tbl_ext he)
theorem Knd.setMost(h:Knd w g l m f s o M)(x:Int):Knd (w.setCell ⟨g,1,none⟩ (.int .i64 x)) g l x f s o M:=
 h.setAt 1 x fun i hi=>by
  unfold kdC
  by_cases e:i=1
  ·subst e;rfl
  ·rw[if_neg e];by_cases e0:i=0
   ·subst e0;rfl
   ·rw[if_neg e0,if_neg e,if_neg e0,if_neg e]
theorem Knd.setLast(h:Knd w g l m f s o M)(x:Int):Knd (w.setCell ⟨g,3,none⟩ (.int .i64 x)) g l m f x o M:=
 h.setAt 3 x fun i hi=>by
  unfold kdC
  by_cases e:i=3
  ·subst e;rfl
  ·rw[if_neg e,if_neg e,if_neg e]
theorem Knd.setOwn(h:Knd w g l m f s o M)(x:Int):Knd (w.setCell ⟨g,18,none⟩ (.int .i64 x)) g l m f s x M:=
 h.setAt 18 x fun i hi=>by
  unfold kdC
  by_cases e:i=18
  ·subst e;rfl
  ·rw[if_neg e]
   by_cases e0:i<18
   ·rw[if_pos e0,if_pos e0]
   ·omega
theorem Knd.other(h:Knd w g l m f s o M){p:Addr}(hp:g≠p.block)(u:Value):Knd (w.setCell p u) g l m f s o M:=(Below.heap_setCell w p u g hp).trans h
end
theorem built_kd(a b c d:Int):Tryz.prog.built 187 [(0,.int .i64 a),(1,.int .i64 b),(2,.int .i64 c),(3,.int .i64 d)]=some (kdA a b c d 0 (fun _=>0)):=by kernel_rfl
def fstM(L:List Nat)(j:Nat):Nat→Nat:=fun i=>if i<j then L.getD i 0 else 0
theorem fstM_next(L:List Nat)(j:Nat):(fun i=>if i=j then L.getD j 0 else fstM L j i)=fstM L (j+1):=by
 funext i
 unfold fstM
 by_cases e:i=j
 ·subst e;rw[if_pos rfl,if_pos (by omega)]
 ·rw[if_neg e]
  by_cases h:i<j
  ·rw[if_pos h,if_pos (by omega)]
  ·rw[if_neg h,if_neg (by omega)]
theorem fstM_all(L:List Nat):fstM L L.length=fun i=>L.getD i 0:=by
 funext i
 unfold fstM
 by_cases h:i<L.length
 ·rw[if_pos h]
 ·rw[if_neg h,List.getD_eq_getElem?_getD,List.getElem?_eq_none (by omega)];rfl
def lsM(L:List Nat):Nat→Nat:=fun i=>L.getD i 0
theorem filled9_any(w:World)(l f:Int)(A:Option Addr)(cap N:Nat)(L:List Nat)(hN:N=L.length)(hN14:N≤14)(hr:RdI w w.heap.size A (natsI L))(hl:0≤l∧l≤1000)(hf:0≤f∧f≤1000)(hS:smS (lsM L) N≤40000)(hC:smC (lsM L) N≤40):
  Calls Tryz.prog 146 #[.int .i64 l,.int .i64 f,.slice A N cap] w fun e w'=>e=.returned (.agg (kdA l (l-1+((smS (lsM L) N:Nat):Int)) f (f-1+((smC (lsM L) N:Nat):Int)) 0 (lsM L)))∧Below w.heap.size w w':=by
 have hz:=(zero_of_info infoKd).1
 have HR:=Lib.hid hr;have HS:=Lib.hid hS;have HC:=Lib.hid hC;have HN:=Lib.hid hN
 obtain⟨hl0,hl1⟩:=hl
 obtain⟨hf0,hf1⟩:=hf
 clear hr hS hC hN
 obtain⟨V,hV⟩:∃V,V=mkV (w.alloc (.cells (kdA 0 0 0 0 0 (fun _=>0)) 187)) (kdA 0 0 0 0 0 (fun _=>0)) (kdA l (l-1) f (f-1) 0 (fun _=>0)) 187:=⟨_,rfl⟩
 have v1:Knd V (w.heap.size+1) l (l-1) f (f-1) 0 (fun _=>0):=by
  have:=mkV_row (w.alloc (.cells (kdA 0 0 0 0 0 (fun _=>0)) 187)) (kdA 0 0 0 0 0 (fun _=>0)) (kdA l (l-1) f (f-1) 0 (fun _=>0)) 187
  rw[World.size_alloc,←hV]at this;exact this
 have bV:=mkV_below (w.alloc (.cells (kdA 0 0 0 0 0 (fun _=>0)) 187)) (kdA 0 0 0 0 0 (fun _=>0)) (kdA l (l-1) f (f-1) 0 (fun _=>0)) 187
 rw[←hV]at bV
 have v0:Knd V w.heap.size 0 0 0 0 0 (fun _=>0):=(knd_new w 0 0 0 0 0 (fun _=>0)).below bV (by simp)
 have b0:Below w.heap.size w V:=((Below.refl _ _).alloc (Nat.le_refl _) _).trans (bV.mono (by simp))
 have hn:=(heap_alloc_new (w.alloc (.cells (kdA 0 0 0 0 0 (fun _=>0)) 187)) (.cells (kdA 0 0 0 0 0 (fun _=>0)) 187))
 rw[World.size_alloc]at hn
 have hVe:((w.alloc (.cells (kdA 0 0 0 0 0 (fun _=>0)) 187)).alloc (.cells (kdA 0 0 0 0 0 (fun _=>0)) 187)).setRow (w.heap.size+1) (kdA l (l-1) f (f-1) 0 (fun _=>0))=V:=by
  rw[hV];unfold mkV;rw[World.size_alloc]
 have V0:=Lib.hid v0;have V1:=Lib.hid v1;have B0:=Lib.hid b0;have HVN:=Lib.hid hn;have HVE:=Lib.hid hVe
 clear v0 v1 b0 hn hVe bV hV
 go_enter Tryz.func146,Tryz.ntmps146
 go_wp2_with (first
  |(refine wpList_buildTo rfl 187 #[(0,.tmp 10),(1,.tmp 12),(2,.tmp 13),(3,.tmp 15)] rfl (some 16) rfl (kdA l (l-1) f (f-1) 0 (fun _=>0)) ?_ ?_;focus(simpa[Act.eval]using built_kd l (l-1) f (f-1)))
  |(refine wpList_store_rowTo rfl _ _ _ rfl rfl (w.heap.size+1) (kdA l (l-1) f (f-1) 0 (fun _=>0)) rfl rfl 187 (kdA 0 0 0 0 0 (fun _=>0)) HVN.out (szKd _) rfl (tblA_one _ _) ?_;rw[HVE.out])
  |fail)
 go_loopw [19] (fun iv wr=>∃j S C:Nat,j≤N∧S≤40000∧C≤40∧iv=.int .i64 (j:Int)∧Hid (S=smS (lsM L) j)∧Hid (C=smC (lsM L) j)∧Hid (Knd wr w.heap.size 0 0 0 0 0 (fun _=>0))∧Hid (Knd wr (w.heap.size+1) l (l-1+(S:Int)) f (f-1+(C:Int)) 0 (fstM L j))∧Hid (Below w.heap.size w wr)) (fun iv _=>N-(intOf iv).toNat)
 case atStart=>
  refine⟨0,0,0,Nat.zero_le _,by omega,by omega,rfl,Lib.hid rfl,Lib.hid rfl,V0,Lib.hid ?_,B0⟩
  have h0:fstM L 0=fun _=>0:=funext fun i=>if_neg (by omega)
  rw[h0]
  simpa using V1.out
 case round=>
  obtain⟨j,S,C,hj,hS,hC,rfl,HSS,HCC,K0,K1,HBR⟩:=hrel
  by_cases hlt:j<N
  ·have hj14:j<14:=by omega
   obtain⟨b,o,rfl,_,hc⟩:=(HR.out.below HBR.out (Nat.le_refl _)).at (k:=j) (by rw[natsI_length,←HN.out];exact hlt)
   have e1:=hc j (by rw[natsI_length,←HN.out];exact hlt)
   rw[natsI_get]at e1
   obtain⟨q,hq⟩:∃q,q=L.getD j 0:=⟨_,rfl⟩
   rw[←hq]at e1
   have HQ:=Lib.hid hq
   clear hq hc
   have r1:=K1.out.many hj14
   have r2:=K1.out.frozen (4+j)
   have s1:=K1.out.setMany hj14 q
   have r3:=s1.most
   have r4:=s1.frozen 1
   have s2:=(s1.setMost (wrap64 (l-1+(S:Int)+wrap64 ((q:Int)*2^j)))).drew
   have r5:=s2.last
   have r6:=s2.frozen 3
   have s3:=s2.setLast (f-1+(C:Int)+(q:Int))
   have t3:=(((K0.out.other (p:=⟨w.heap.size+1,4+j,none⟩) (by simp) (.int .i64 (q:Int))).other (p:=⟨w.heap.size+1,1,none⟩) (by simp) (.int .i64 (wrap64 (l-1+(S:Int)+wrap64 ((q:Int)*2^j))))).drew).other (p:=⟨w.heap.size+1,3,none⟩) (by simp) (.int .i64 (f-1+(C:Int)+(q:Int)))
   have b3:=((((HBR.out.setCell (p:=⟨w.heap.size+1,4+j,none⟩) (by simp) (.int .i64 (q:Int))).setCell (p:=⟨w.heap.size+1,1,none⟩) (by simp) (.int .i64 (wrap64 (l-1+(S:Int)+wrap64 ((q:Int)*2^j))))).drew)).setCell (p:=⟨w.heap.size+1,3,none⟩) (by simp) (.int .i64 (f-1+(C:Int)+(q:Int)))
   have S3:=Lib.hid s3;have T3:=Lib.hid t3;have B3:=Lib.hid b3
   clear s1 s2 s3 t3 b3
   have hq40:q≤40:=by
    have h1:smC (lsM L) (j+1)≤smC (lsM L) N:=smC_le _ (by omega)
    have h2:smC (lsM L) (j+1)=smC (lsM L) j+q:=by rw[HQ.out];rfl
    have:=HC.out;omega
   go_wp2
   go_region
   all_goals(
    go_wp2
    go_roundw
    case rel=>
     obtain⟨g1,g2⟩:=sh9 q j (by omega) hj14
     have hS1:smS (lsM L) (j+1)=S+q*p2N j:=by rw[HSS.out,HQ.out];rfl
     have hS2:smS (lsM L) (j+1)≤40000:=Nat.le_trans (smS_le _ (by omega)) HS.out
     have hC1:smC (lsM L) (j+1)=C+q:=by rw[HCC.out,HQ.out];rfl
     have hC2:smC (lsM L) (j+1)≤40:=Nat.le_trans (smC_le _ (by omega)) HC.out
     have hv1:wrap64 (l-1+(S:Int)+wrap64 ((q:Int)*2^j))=l-1+((S+q*p2N j:Nat):Int):=by rw[g1];unfold wrap64;omega
     have hv2:f-1+(C:Int)+(q:Int)=f-1+((C+q:Nat):Int):=by omega
     have s3:=S3.out;have t3:=T3.out;have b3:=B3.out
     rw[hv1,hv2]at s3
     have hM:(fun i=>if i=j then q else fstM L j i)=fstM L (j+1):=by rw[HQ.out];exact fstM_next L j
     rw[hM]at s3
     rw[hv1,hv2]at t3 b3
     rw[hv1,hv2]
     exact⟨j+1,S+q*p2N j,C+q,by omega,by omega,by omega,by go_num,Lib.hid hS1.symm,Lib.hid hC1.symm,Lib.hid t3,Lib.hid s3,Lib.hid b3⟩
    case measure=>simp[intOf];omega)
  ·obtain rfl:j=N:=by omega
   obtain⟨m1,hm1⟩:∃m1,m1=l-1+(S:Int):=⟨_,rfl⟩
   obtain⟨s1,hs1⟩:∃s1,s1=f-1+(C:Int):=⟨_,rfl⟩
   have k1:=K1.out
   rw[←hm1,←hs1]at k1
   have K2:=Lib.hid k1;have HM1:=Lib.hid hm1;have HS1:=Lib.hid hs1
   clear k1 hm1 hs1 K1
   go_wp2_with (first
    |(refine wpList_load_row rfl _ _ rfl (w.heap.size+1) rfl _ (kdA l m1 f s1 0 (fstM L j)) (0,0) _ K2.out Tryz.underlying187 rfl (szKd _) ?_)
    |(refine wpList_store_rowTo rfl _ _ _ rfl rfl w.heap.size (kdA l m1 f s1 0 (fstM L j)) rfl rfl 187 (kdA 0 0 0 0 0 (fun _=>0)) K0.out (szKd _) rfl (tblA_one _ _) ?_)
    |fail)
   refine bodyPost_ret (v:=.agg (kdA l m1 f s1 0 (fstM L j))) ?_ rfl ⟨?_,below_row9 HBR.out (Nat.le_refl _) _⟩
   ·exact results_cell_row rfl _ _ w.heap.size _ _ (0,0) _ rfl (setRow_heap _ _ _ _ _ _ K0.out) Tryz.underlying187 rfl (szKd _)
   ·have hM:fstM L j=lsM L:=by rw[HN.out];exact fstM_all L
    rw[hM,HM1.out,HS1.out,HSS.out,HCC.out]
def longL:List Nat:=[8,4,4,4,4,4]
def farL:List Nat:=[4,2,2,2,2,2,2,2,2,2,2,2,2,2]
theorem made_row(w:World)(Z:Array Value)(T:TypeId)(L:List Nat)(cs:Array Value)(h:cs.toList=intsL (natsI L)):
  RdI ((w.alloc (.cells Z T)).alloc (.cells cs 3)) ((w.alloc (.cells Z T)).alloc (.cells cs 3)).heap.size (some ⟨w.heap.size+1,0,none⟩) (natsI L)∧
  ((w.alloc (.cells Z T)).alloc (.cells cs 3)).heap[w.heap.size]?=some (.cells Z T (0,0))∧Below w.heap.size w ((w.alloc (.cells Z T)).alloc (.cells cs 3))∧w.heap.size<((w.alloc (.cells Z T)).alloc (.cells cs 3)).heap.size:=by
 have h1:=rdI_new (w.alloc (.cells Z T)) (natsI L) cs h
 have h2:((w.alloc (.cells Z T)).alloc (.cells cs 3)).heap[w.heap.size]?=some (.cells Z T (0,0)):=(Below.heap_alloc _ _ _ (by simp)).trans (heap_alloc_new w _)
 refine⟨?_,h2,((Below.refl _ _).alloc (Nat.le_refl _) _).alloc (by simp) _,by simp;omega⟩
 rw[World.size_alloc w]at h1
 exact h1
theorem fars9_any(w:World):Calls Tryz.prog 133 #[] w fun e w'=>e=.returned (.agg (kdA 1 32768 0 29 0 (lsM farL)))∧Below w.heap.size w w':=by
 have hz:=(zero_of_info infoKd).1
 obtain⟨hr,v0,b0,hlt⟩:=made_row w (kdA 0 0 0 0 0 (fun _=>0)) 187 farL #[.int .i64 4,.int .i64 2,.int .i64 2,.int .i64 2,.int .i64 2,.int .i64 2,.int .i64 2,.int .i64 2,.int .i64 2,.int .i64 2,.int .i64 2,.int .i64 2,.int .i64 2,.int .i64 2] rfl
 have hfl:=filled9_any _ 1 0 _ 14 14 farL rfl (by omega) hr (by omega) (by omega) (by decide) (by decide)
 have e1:(1:Int)-1+((smS (lsM farL) 14:Nat):Int)=32768:=by decide
 have e2:(0:Int)-1+((smC (lsM farL) 14:Nat):Int)=29:=by decide
 rw[e1,e2]at hfl
 obtain⟨V,hV⟩:∃V,V=((w.alloc (.cells (kdA 0 0 0 0 0 (fun _=>0)) 187)).alloc (.cells #[.int .i64 4,.int .i64 2,.int .i64 2,.int .i64 2,.int .i64 2,.int .i64 2,.int .i64 2,.int .i64 2,.int .i64 2,.int .i64 2,.int .i64 2,.int .i64 2,.int .i64 2,.int .i64 2] 3)):=⟨_,rfl⟩
 rw[←hV]at hfl v0 b0 hlt
 have HF:=Lib.hid hfl;have V0:=Lib.hid v0;have B0:=Lib.hid b0;have HV:=Lib.hid hV.symm;have HLT:=Lib.hid hlt
 clear hfl v0 b0 hV hr e1 e2 hlt
 obtain⟨X,hX⟩:∃X,X=kdA 1 32768 0 29 0 (lsM farL):=⟨_,rfl⟩
 obtain⟨x1,x2⟩:X.size=19∧X.all (·.oneCell')=true:=by rw[hX];exact⟨tblA_size _ _,tblA_one _ _⟩
 have x3:(Tryz.prog.info? 187).map (·.size)=some X.size:=by rw[hX];exact szKd _
 rw[←hX]at HF⊢
 clear hX
 go_enter Tryz.func133,Tryz.ntmps133
 go_wp2_with fail
 rw[HV.out]
 refine HF.out.mono ?_
 rintro e w1 ⟨rfl,hb1⟩
 have hk1:=(hb1.block w.heap.size HLT.out).trans V0.out
 have K1:=Lib.hid hk1;have HB1:=Lib.hid (B0.out.trans (hb1.mono (Nat.le_of_lt HLT.out)))
 clear hk1 hb1
 go_wp2_with (first
  |(refine wpList_store_rowTo rfl _ _ _ rfl rfl w.heap.size X rfl rfl 187 (kdA 0 0 0 0 0 (fun _=>0)) K1.out x3 (by rw[x1];rfl) x2 ?_)
  |fail)
 refine bodyPost_ret (v:=.agg X) ?_ rfl ⟨rfl,below_row9 HB1.out (Nat.le_refl _) _⟩
 exact results_cell_row rfl _ _ w.heap.size _ _ (0,0) _ rfl (setRow_heap _ _ _ _ _ _ K1.out) Tryz.underlying187 rfl x3
end Go.Proofs.YtcmpmighjglnpaaGreat
namespace Go.Proofs.YtcmpmighjglnpaaGreat
open Go.RowKit
theorem longs9_any(w:World):Calls Tryz.prog 130 #[] w fun e w'=>e=.returned (.agg (kdA 3 258 257 285 258 (lsM longL)))∧Below w.heap.size w w':=by
 have hz:=(zero_of_info infoKd).1
 obtain⟨hr,v0,b0,hlt⟩:=made_row w (kdA 0 0 0 0 0 (fun _=>0)) 187 longL #[.int .i64 8,.int .i64 4,.int .i64 4,.int .i64 4,.int .i64 4,.int .i64 4] rfl
 have hfl:=filled9_any _ 3 257 _ 6 6 longL rfl (by omega) hr (by omega) (by omega) (by decide) (by decide)
 have e1:(3:Int)-1+((smS (lsM longL) 6:Nat):Int)=258:=by decide
 have e2:(257:Int)-1+((smC (lsM longL) 6:Nat):Int)=284:=by decide
 rw[e1,e2]at hfl
 obtain⟨V,hV⟩:∃V,V=((w.alloc (.cells (kdA 0 0 0 0 0 (fun _=>0)) 187)).alloc (.cells #[.int .i64 8,.int .i64 4,.int .i64 4,.int .i64 4,.int .i64 4,.int .i64 4] 3)):=⟨_,rfl⟩
 rw[←hV]at hfl v0 b0 hlt
 have HF:=Lib.hid hfl;have V0:=Lib.hid v0;have B0:=Lib.hid b0;have HV:=Lib.hid hV.symm;have HLT:=Lib.hid hlt
 clear hfl v0 b0 hV hr e1 e2 hlt
 obtain⟨MM,hMM⟩:∃MM,MM=lsM longL:=⟨_,rfl⟩
 rw[←hMM]at HF⊢
 clear hMM
 go_enter Tryz.func130,Tryz.ntmps130
 go_wp2_with fail
 rw[HV.out]
 refine HF.out.mono ?_
 rintro e w1 ⟨rfl,hb1⟩
 have hk1:Knd w1 w.heap.size 0 0 0 0 0 (fun _=>0):=(hb1.block w.heap.size HLT.out).trans V0.out
 have bb1:Below w.heap.size w w1:=B0.out.trans (hb1.mono (Nat.le_of_lt HLT.out))
 have hne:w.heap.size≠w1.heap.size:=by have:=hk1.lt;omega
 obtain⟨U,hU⟩:∃U,U=mkV w1 (kdA 0 0 0 0 0 (fun _=>0)) (kdA 3 258 257 284 0 MM) 187:=⟨_,rfl⟩
 have u1:Knd U w1.heap.size 3 258 257 284 0 MM:=by rw[hU];exact mkV_row _ _ _ _
 have bU:Below w1.heap.size w1 U:=by rw[hU];exact mkV_below _ _ _ _
 have u0:Knd U w.heap.size 0 0 0 0 0 (fun _=>0):=hk1.below bU hk1.lt
 have f1:=u1.frozen 18
 have k1:=u1.own
 have u2:=u1.setOwn 258
 have f2:=u2.frozen 3
 have k2:=u2.last
 have u3:=u2.setLast 285
 have z3:=(u0.other (p:=⟨w1.heap.size,18,none⟩) hne (.int .i64 258)).other (p:=⟨w1.heap.size,3,none⟩) hne (.int .i64 285)
 have bb3:=((bb1.trans (bU.mono bb1.size)).setCell (p:=⟨w1.heap.size,18,none⟩) bb1.size (.int .i64 258)).setCell (p:=⟨w1.heap.size,3,none⟩) bb1.size (.int .i64 285)
 have HU:=Lib.hid hU.symm;have U3:=Lib.hid u3;have Z3:=Lib.hid z3;have BB3:=Lib.hid bb3
 clear hk1 bb1 hne hU u1 bU u0 u2 u3 z3 bb3 hb1
 go_wp2_with (first
  |(refine wpList_store_rowTo rfl _ _ _ rfl rfl w1.heap.size (kdA 3 258 257 284 0 MM) rfl rfl 187 (kdA 0 0 0 0 0 (fun _=>0)) (heap_alloc_new w1 _) (szKd _) rfl (tblA_one _ _) ?_;change wpList _ _ _ _ _ (mkV w1 (kdA 0 0 0 0 0 (fun _=>0)) (kdA 3 258 257 284 0 MM) 187);rw[HU.out])
  |(refine wpList_load_row rfl _ _ rfl w1.heap.size rfl _ (kdA 3 258 257 285 258 MM) (0,0) _ U3.out Tryz.underlying187 rfl (szKd _) ?_)
  |(refine wpList_store_rowTo rfl _ _ _ rfl rfl w.heap.size (kdA 3 258 257 285 258 MM) rfl rfl 187 (kdA 0 0 0 0 0 (fun _=>0)) Z3.out (szKd _) rfl (tblA_one _ _) ?_)
  |fail)
 refine bodyPost_ret (v:=.agg (kdA 3 258 257 285 258 MM)) ?_ rfl ⟨rfl,below_row9 BB3.out (Nat.le_refl _) _⟩
 exact results_cell_row rfl _ _ w.heap.size _ _ (0,0) _ rfl (setRow_heap _ _ _ _ _ _ Z3.out) Tryz.underlying187 rfl (szKd _)
theorem long_ok9:KndOk 3 258 257 285 258 (lsM longL):=⟨by omega,by omega,by omega,by omega,by decide,.inr (by decide),by decide,by decide⟩
theorem far_ok9:KndOk 1 32768 0 29 0 (lsM farL):=⟨by omega,by omega,by omega,by omega,by decide,.inl (by decide),by decide,by decide⟩
theorem long_tab:∀b,b<14→∀z,z<lsM longL b→smC (lsM longL) b+z<28∧longT (smC (lsM longL) b+z)=3+(smS (lsM longL) b+z*p2N b)∧longX (smC (lsM longL) b+z)=b:=by decide+kernel
theorem far_tab:∀b,b<14→∀z,z<lsM farL b→smC (lsM farL) b+z<30∧farT (smC (lsM farL) b+z)=1+(smS (lsM farL) b+z*p2N b)∧farX (smC (lsM farL) b+z)=b:=by decide+kernel
theorem bg_long{y L:Int}{b:Nat}(hy:257≤y∧y≤285)(h:BgN 3 257 285 258 (lsM longL) y L b):L=((longT (y-257).toNat:Nat):Int)∧b=longX (y-257).toNat:=by
 rcases h with⟨_,rfl,rfl,rfl⟩|⟨_,z,hb,hz,hy2,hL⟩
 ·exact⟨rfl,rfl⟩
 ·obtain⟨h1,h2,h3⟩:=long_tab b hb z hz
  have e:(y-257).toNat=smC (lsM longL) b+z:=by omega
  rw[e,h2,h3,hL]
  exact⟨by omega,rfl⟩
theorem bg_far{y L:Int}{b:Nat}(hy:0≤y∧y≤29)(h:BgN 1 0 29 0 (lsM farL) y L b):L=((farT y.toNat:Nat):Int)∧b=farX y.toNat:=by
 rcases h with⟨h0,_⟩|⟨_,z,hb,hz,hy2,hL⟩
 ·exact absurd rfl h0
 ·obtain⟨h1,h2,h3⟩:=far_tab b hb z hz
  have e:y.toNat=smC (lsM farL) b+z:=by omega
  rw[e,h2,h3,hL]
  exact⟨by omega,rfl⟩
end Go.Proofs.YtcmpmighjglnpaaGreat
namespace Go.Proofs.YtcmpmighjglnpaaGreat
open Go.RowKit
def BtOut(l f s o:Int)(M:Nat→Nat)(y:Int)(e:Ending):Prop:=
 if f≤y∧y≤s then∃(L:Int) (b:Nat),BgN l f s o M y L b∧e=.returned (.tuple #[.int .i64 (b:Int),.int .i64 0])else e=.returned (.tuple #[.int .i64 0,.int .i64 90])
theorem bits9_any(w:World)(l m f s o:Int)(M:Nat→Nat)(hk:KndOk l m f s o M)(y:Int):
  Calls Tryz.prog 131 #[.agg (kdA l m f s o M),.int .i64 y] w fun e w'=>BtOut l f s o M y e∧Below w.heap.size w w':=by
 obtain⟨h,hh⟩:∃h,h=decide (f≤y∧y≤s):=⟨_,rfl⟩
 have hkn:=knd_new w l m f s o M
 have hb:Below w.heap.size w (w.alloc (.cells (kdA l m f s o M) 187)):=(Below.refl _ _).alloc (Nat.le_refl _) _
 have hhas:=has9_any (w.alloc (.cells (kdA l m f s o M) 187)) l m f s o M y h hh
 have hlt:=hkn.lt
 have HKN:=Lib.hid hkn;have HB:=Lib.hid hb;have HH:=Lib.hid hh;have HHAS:=Lib.hid hhas;have HK:=Lib.hid hk;have HLT:=Lib.hid hlt
 clear hkn hb hh hhas hk hlt
 go_enter Tryz.func131,Tryz.ntmps131
 go_wp2_with (first
  |(refine wpList_load_row rfl _ _ rfl w.heap.size rfl _ (kdA l m f s o M) (0,0) _ HKN.out Tryz.underlying187 rfl (szKd _) ?_)
  |fail)
 refine HHAS.out.mono ?_
 rintro e w1 ⟨rfl,hb1⟩
 have hk1:Knd w1 w.heap.size l m f s o M:=HKN.out.below hb1 HLT.out
 have hb2:=HB.out.trans (hb1.mono (Nat.le_of_lt HLT.out))
 have HK1:=Lib.hid hk1;have HB1:=Lib.hid hb2
 clear hk1 hb1 hb2
 rcases h with _|_
 ·have hn:¬(f≤y∧y≤s):=by have:=HH.out;simpa using this
  go_wp2
  go_ret2
  exact⟨by unfold BtOut;rw[if_neg hn];rfl,HB1.out⟩
 ·have hy:f≤y∧y≤s:=by have:=HH.out;simpa using this
  have hbg:=begin9_all w1 l m f s o M HK.out y hy
  have HBG:=Lib.hid hbg;have HY:=Lib.hid hy
  have HSZ:=Lib.hid (show w.heap.size≤w1.heap.size from HB1.out.size)
  clear hbg hy
  go_wp2_with (first
   |(refine wpList_load_row rfl _ _ rfl w.heap.size rfl _ (kdA l m f s o M) (0,0) _ HK1.out Tryz.underlying187 rfl (szKd _) ?_)
   |fail)
  refine HBG.out.mono ?_
  rintro e w2 ⟨⟨L,b,hbn,rfl⟩,hb3⟩
  have HBN:=Lib.hid hbn;have HB3:=Lib.hid (HB1.out.trans (hb3.mono HSZ.out))
  clear hbn hb3
  go_wp2
  go_ret2
  exact⟨by unfold BtOut;rw[if_pos HY.out];exact⟨L,b,HBN.out,rfl⟩,HB3.out⟩
def NmOut(l f s o:Int)(M:Nat→Nat)(y x:Int)(e:Ending):Prop:=
 if f≤y∧y≤s then∃(L:Int) (b:Nat),BgN l f s o M y L b∧((x<0∨(p2N b:Int)≤x)∧e=.returned (.tuple #[.int .i64 0,.int .i64 2])∨
  (0≤x∧x<(p2N b:Int))∧((L+x=o∧y≠s)∧e=.returned (.tuple #[.int .i64 0,.int .i64 90])∨¬(L+x=o∧y≠s)∧e=.returned (.tuple #[.int .i64 (L+x),.int .i64 0])))
 else e=.returned (.tuple #[.int .i64 0,.int .i64 90])
theorem number9_any(w:World)(l m f s o:Int)(M:Nat→Nat)(hk:KndOk l m f s o M)(y x:Int):
  Calls Tryz.prog 132 #[.agg (kdA l m f s o M),.int .i64 y,.int .i64 x] w fun e w'=>NmOut l f s o M y x e∧Below w.heap.size w w':=by
 obtain⟨h,hh⟩:∃h,h=decide (f≤y∧y≤s):=⟨_,rfl⟩
 have hkn:=knd_new w l m f s o M
 have hb:Below w.heap.size w (w.alloc (.cells (kdA l m f s o M) 187)):=(Below.refl _ _).alloc (Nat.le_refl _) _
 have hhas:=has9_any (w.alloc (.cells (kdA l m f s o M) 187)) l m f s o M y h hh
 have hlt:=hkn.lt
 have HKN:=Lib.hid hkn;have HB:=Lib.hid hb;have HH:=Lib.hid hh;have HHAS:=Lib.hid hhas;have HK:=Lib.hid hk;have HLT:=Lib.hid hlt
 clear hkn hb hh hhas hk hlt
 go_enter Tryz.func132,Tryz.ntmps132
 go_wp2_with (first
  |(refine wpList_load_row rfl _ _ rfl w.heap.size rfl _ (kdA l m f s o M) (0,0) _ HKN.out Tryz.underlying187 rfl (szKd _) ?_)
  |fail)
 refine HHAS.out.mono ?_
 rintro e w1 ⟨rfl,hb1⟩
 have hk1:Knd w1 w.heap.size l m f s o M:=HKN.out.below hb1 HLT.out
 have hb2:=HB.out.trans (hb1.mono (Nat.le_of_lt HLT.out))
 have HK1:=Lib.hid hk1;have HB1:=Lib.hid hb2
 clear hk1 hb1 hb2
 rcases h with _|_
 ·have hn:¬(f≤y∧y≤s):=by have:=HH.out;simpa using this
  go_wp2
  go_ret2
  exact⟨by unfold NmOut;rw[if_neg hn];rfl,HB1.out⟩
 ·have hy:f≤y∧y≤s:=by have:=HH.out;simpa using this
  have hbg:=begin9_all w1 l m f s o M HK.out y hy
  have HBG:=Lib.hid hbg;have HY:=Lib.hid hy
  have HSZ:=Lib.hid (show w.heap.size≤w1.heap.size from HB1.out.size)
  clear hbg hy
  go_wp2_with (first
   |(refine wpList_load_row rfl _ _ rfl w.heap.size rfl _ (kdA l m f s o M) (0,0) _ HK1.out Tryz.underlying187 rfl (szKd _) ?_)
   |fail)
  refine HBG.out.mono ?_
  rintro e w2 ⟨⟨L,b,hbn,rfl⟩,hb3⟩
  have hk2:Knd w2 w.heap.size l m f s o M:=HK1.out.below hb3 HK1.out.lt
  have k2:=hk2.own
  have k3:=hk2.last
  obtain⟨hL0,hL1,hb14⟩:=bg_le HK.out hbn
  have HBN:=Lib.hid hbn;have HB3:=Lib.hid (HB1.out.trans (hb3.mono HSZ.out))
  clear hbn hb3 hk2
  have hp:wrap64 ((2:Int)^b)=((p2N b:Nat):Int)∧p2N b≤8192:=by
   have h1:2^b≤2^13:=Nat.pow_le_pow_right (by omega) (by omega)
   have e:(2:Int)^b=((2^b:Nat):Int):=by rw[Int.natCast_pow];rfl
   rw[e]
   unfold p2N
   generalize 2^b=z at h1
   unfold wrap64
   omega
  obtain⟨P,hP⟩:∃P,P=p2N b:=⟨_,rfl⟩
  rw[←hP]at hp
  obtain⟨hp1,hp2⟩:=hp
  have HP:=Lib.hid hP;have HP1:=Lib.hid hp1
  clear hP hp1
  have key:∀e,((x<0∨(P:Int)≤x)∧e=Ending.returned (.tuple #[.int .i64 0,.int .i64 2])∨(0≤x∧x<(P:Int))∧((L+x=o∧y≠s)∧e=.returned (.tuple #[.int .i64 0,.int .i64 90])∨¬(L+x=o∧y≠s)∧e=.returned (.tuple #[.int .i64 (L+x),.int .i64 0])))→NmOut l f s o M y x e:=fun e he=>by
   unfold NmOut;rw[if_pos HY.out];rw[HP.out]at he;exact⟨L,b,HBN.out,he⟩
  have KEY:=Lib.hid key
  clear key
  by_cases hx0:x<0
  ·have hd:decide (x<0)=true:=decY hx0
   go_wp2
   go_ret2
   exact⟨KEY.out _ (.inl ⟨.inl hx0,rfl⟩),HB3.out⟩
  ·have hd:decide (x<0)=false:=decN hx0
   by_cases hx1:(P:Int)≤x
   ·have hd1:decide ((P:Int)≤x)=true:=decY hx1
    have hd2:decide (wrap64 ((2:Int)^b)≤x)=true:=by rw[HP1.out];exact hd1
    go_wp2
    go_ret2
    exact⟨KEY.out _ (.inl ⟨.inr hx1,rfl⟩),HB3.out⟩
   ·have hd1:decide ((P:Int)≤x)=false:=decN hx1
    have hd2:decide (wrap64 ((2:Int)^b)≤x)=false:=by rw[HP1.out];exact hd1
    obtain⟨B1,hB1⟩:∃B1,B1=(L+x==o):=⟨_,rfl⟩
    obtain⟨B2,hB2⟩:∃B2,B2=(y !=s):=⟨_,rfl⟩
    have e1:=hB1.symm
    have e2:=hB2.symm
    have hBB:(L+x=o∧y≠s)↔(B1&&B2)=true:=by rw[hB1,hB2];simp
    have HBB:=Lib.hid hBB
    clear hB1 hB2 hBB
    rcases B1 with _|_<;>rcases B2 with _|_
    all_goals(
     go_wp2
     go_ret2
     refine⟨KEY.out _ (.inr ⟨⟨by omega,by omega⟩,?_⟩),HB3.out⟩
     first
      |exact .inl ⟨HBB.out.2 rfl,rfl⟩
      |exact .inr ⟨fun h=>absurd (HBB.out.1 h) (by decide),rfl⟩)
end Go.Proofs.YtcmpmighjglnpaaGreat
namespace Go.Proofs.YtcmpmighjglnpaaGreat
open Go.RowKit
theorem bt_long{y:Int}{e:Ending}(h:BtOut 3 257 285 258 (lsM longL) y e):e=.returned (.tuple #[.int .i64 (lbV y),.int .i64 (lbE y)]):=by
 unfold BtOut at h
 unfold lbV lbE
 by_cases hy:257≤y∧y≤285
 ·rw[if_pos hy]at h⊢
  obtain⟨L,b,hb,rfl⟩:=h
  rw[if_pos hy,(bg_long hy hb).2]
 ·rw[if_neg hy]at h⊢
  rw[if_neg hy];exact h
theorem bt_far{y:Int}{e:Ending}(h:BtOut 1 0 29 0 (lsM farL) y e):e=.returned (.tuple #[.int .i64 (fbV y),.int .i64 (fbE y)]):=by
 unfold BtOut at h
 unfold fbV fbE
 by_cases hy:0≤y∧y≤29
 ·rw[if_pos hy]at h⊢
  obtain⟨L,b,hb,rfl⟩:=h
  rw[if_pos hy,(bg_far hy hb).2]
 ·rw[if_neg hy]at h⊢
  rw[if_neg hy];exact h
theorem nm_long{y x:Int}{e:Ending}(h:NmOut 3 257 285 258 (lsM longL) y x e):e=.returned (.tuple #[.int .i64 (loV y x),.int .i64 (loE y x)]):=by
 unfold NmOut at h
 by_cases hy:257≤y∧y≤285
 ·rw[if_pos hy]at h
  obtain⟨L,b,hb,h⟩:=h
  obtain⟨rfl,rfl⟩:=bg_long hy hb
  have ep:p2N (longX (y-257).toNat)=2^longX (y-257).toNat:=rfl
  rw[ep]at h
  rcases h with⟨h1,rfl⟩|⟨h1,h⟩
  ·have hE:loE y x=2:=by unfold loE;rw[if_pos hy,if_pos h1]
   have hV:loV y x=0:=by unfold loV;rw[if_neg (by rw[hE];decide)]
   rw[hE,hV]
  ·have hneg:¬(x<0∨((2^longX (y-257).toNat:Nat):Int)≤x):=by omega
   have hiff:((((longT (y-257).toNat:Nat):Int)+x=258∧y≠285))↔(y=284∧x=31):=by
    obtain⟨X,rfl⟩:=Int.eq_ofNat_of_zero_le h1.1
    obtain⟨i,hi⟩:∃i,i=(y-257).toNat:=⟨_,rfl⟩
    rw[←hi]at h1⊢
    have hx:X<2^longX i:=by omega
    constructor
    ·rintro⟨a,c⟩
     have h28:i<28:=by omega
     by_cases e27:i=27
     ·subst e27
      have e1:longT 27=227:=rfl
      omega
     ·exfalso
      have hn:=long_next i h28 e27
      have hr:=longs_rise.mono (i:=i+1) (27-(i+1)) (by omega)
      rw[show i+1+(27-(i+1))=27 by omega]at hr
      have e1:longT 27=227:=rfl
      omega
    ·rintro⟨a,c⟩
     have e27:i=27:=by omega
     subst e27
     have e1:longT 27=227:=rfl
     omega
   rcases h with⟨h2,rfl⟩|⟨h2,rfl⟩
   ·have hE:loE y x=90:=by unfold loE;rw[if_pos hy,if_neg hneg,if_pos (hiff.1 h2)]
    have hV:loV y x=0:=by unfold loV;rw[if_neg (by rw[hE];decide)]
    rw[hE,hV]
   ·have hE:loE y x=0:=by unfold loE;rw[if_pos hy,if_neg hneg,if_neg (fun g=>h2 (hiff.2 g))]
    have hV:loV y x=((longT (y-257).toNat:Nat):Int)+x:=by unfold loV;rw[if_pos hE]
    rw[hE,hV]
 ·rw[if_neg hy]at h
  have hE:loE y x=90:=by unfold loE;rw[if_neg hy]
  have hV:loV y x=0:=by unfold loV;rw[if_neg (by rw[hE];decide)]
  rw[hE,hV];exact h
theorem nm_far{y x:Int}{e:Ending}(h:NmOut 1 0 29 0 (lsM farL) y x e):e=.returned (.tuple #[.int .i64 (foV y x),.int .i64 (foE y x)]):=by
 unfold NmOut at h
 by_cases hy:0≤y∧y≤29
 ·rw[if_pos hy]at h
  obtain⟨L,b,hb,h⟩:=h
  obtain⟨rfl,rfl⟩:=bg_far hy hb
  have ep:p2N (farX y.toNat)=2^farX y.toNat:=rfl
  rw[ep]at h
  have hpos:1≤farT y.toNat:=by
   have h1:=fars_rise.mono (i:=0) y.toNat (by omega)
   have e0:farT 0=1:=rfl
   rw[Nat.zero_add]at h1
   omega
  rcases h with⟨h1,rfl⟩|⟨h1,h⟩
  ·have hE:foE y x=2:=by unfold foE;rw[if_pos hy,if_pos h1]
   have hV:foV y x=0:=by unfold foV;rw[if_neg (by rw[hE];decide)]
   rw[hE,hV]
  ·have hneg:¬(x<0∨((2^farX y.toNat:Nat):Int)≤x):=by omega
   rcases h with⟨h2,rfl⟩|⟨h2,rfl⟩
   ·omega
   ·have hE:foE y x=0:=by unfold foE;rw[if_pos hy,if_neg hneg]
    have hV:foV y x=((farT y.toNat:Nat):Int)+x:=by unfold foV;rw[if_pos hE]
    rw[hE,hV]
 ·rw[if_neg hy]at h
  have hE:foE y x=90:=by unfold foE;rw[if_neg hy]
  have hV:foV y x=0:=by unfold foV;rw[if_neg (by rw[hE];decide)]
  rw[hE,hV];exact h
theorem lbit9_any(w:World)(n:Int):Calls Tryz.prog 106 #[.int .i64 n] w fun e w'=>e=.returned (.tuple #[.int .i64 (lbV n),.int .i64 (lbE n)])∧Below w.heap.size w w':=by
 obtain⟨X,hX⟩:∃X,X=kdA 3 258 257 285 258 (lsM longL):=⟨_,rfl⟩
 have hs:=fun v=>bits9_any v 3 258 257 285 258 (lsM longL) long_ok9 n
 have hk:=longs9_any w
 rw[←hX]at hk hs
 have HM:=Lib.hid hk;have HS:=Lib.hid hs
 obtain⟨z0,hz0⟩:∃z,z=lbV n:=⟨_,rfl⟩;obtain⟨z1,hz1⟩:∃z,z=lbE n:=⟨_,rfl⟩
 have hy:∀e,BtOut 3 257 285 258 (lsM longL) n e→e=.returned (.tuple #[.int .i64 z0,.int .i64 z1]):=fun e h=>by rw[hz0,hz1];exact bt_long h
 rw[←hz0,←hz1]
 have HY:=Lib.hid hy
 clear hz0 hz1 hX hk hs hy
 go_enter Tryz.func106,Tryz.ntmps106
 go_wp2_with fail
 refine HM.out.mono ?_
 rintro e w1 ⟨rfl,hb1⟩
 have HB1:=Lib.hid hb1
 clear hb1
 go_wp2_with fail
 refine(HS.out w1).mono ?_
 rintro e w2 ⟨he,hb2⟩
 obtain rfl:=HY.out _ he
 have HB2:=Lib.hid (HB1.out.trans (hb2.mono HB1.out.size))
 clear hb2 he
 go_wp2
 go_ret2
 exact⟨rfl,HB2.out⟩
theorem fbit9_any(w:World)(n:Int):Calls Tryz.prog 108 #[.int .i64 n] w fun e w'=>e=.returned (.tuple #[.int .i64 (fbV n),.int .i64 (fbE n)])∧Below w.heap.size w w':=by
 obtain⟨X,hX⟩:∃X,X=kdA 1 32768 0 29 0 (lsM farL):=⟨_,rfl⟩
 have hs:=fun v=>bits9_any v 1 32768 0 29 0 (lsM farL) far_ok9 n
 have hk:=fars9_any w
 rw[←hX]at hk hs
 have HM:=Lib.hid hk;have HS:=Lib.hid hs
 obtain⟨z0,hz0⟩:∃z,z=fbV n:=⟨_,rfl⟩;obtain⟨z1,hz1⟩:∃z,z=fbE n:=⟨_,rfl⟩
 have hy:∀e,BtOut 1 0 29 0 (lsM farL) n e→e=.returned (.tuple #[.int .i64 z0,.int .i64 z1]):=fun e h=>by rw[hz0,hz1];exact bt_far h
 rw[←hz0,←hz1]
 have HY:=Lib.hid hy
 clear hz0 hz1 hX hk hs hy
 go_enter Tryz.func108,Tryz.ntmps108
 go_wp2_with fail
 refine HM.out.mono ?_
 rintro e w1 ⟨rfl,hb1⟩
 have HB1:=Lib.hid hb1
 clear hb1
 go_wp2_with fail
 refine(HS.out w1).mono ?_
 rintro e w2 ⟨he,hb2⟩
 obtain rfl:=HY.out _ he
 have HB2:=Lib.hid (HB1.out.trans (hb2.mono HB1.out.size))
 clear hb2 he
 go_wp2
 go_ret2
 exact⟨rfl,HB2.out⟩
theorem lof9_any(w:World)(n x:Int):Calls Tryz.prog 107 #[.int .i64 n,.int .i64 x] w fun e w'=>e=.returned (.tuple #[.int .i64 (loV n x),.int .i64 (loE n x)])∧Below w.heap.size w w':=by
 obtain⟨X,hX⟩:∃X,X=kdA 3 258 257 285 258 (lsM longL):=⟨_,rfl⟩
 have hs:=fun v=>number9_any v 3 258 257 285 258 (lsM longL) long_ok9 n x
 have hk:=longs9_any w
 rw[←hX]at hk hs
 have HM:=Lib.hid hk;have HS:=Lib.hid hs
 obtain⟨z0,hz0⟩:∃z,z=loV n x:=⟨_,rfl⟩;obtain⟨z1,hz1⟩:∃z,z=loE n x:=⟨_,rfl⟩
 have hy:∀e,NmOut 3 257 285 258 (lsM longL) n x e→e=.returned (.tuple #[.int .i64 z0,.int .i64 z1]):=fun e h=>by rw[hz0,hz1];exact nm_long h
 rw[←hz0,←hz1]
 have HY:=Lib.hid hy
 clear hz0 hz1 hX hk hs hy
 go_enter Tryz.func107,Tryz.ntmps107
 go_wp2_with fail
 refine HM.out.mono ?_
 rintro e w1 ⟨rfl,hb1⟩
 have HB1:=Lib.hid hb1
 clear hb1
 go_wp2_with fail
 refine(HS.out w1).mono ?_
 rintro e w2 ⟨he,hb2⟩
 obtain rfl:=HY.out _ he
 have HB2:=Lib.hid (HB1.out.trans (hb2.mono HB1.out.size))
 clear hb2 he
 go_wp2
 go_ret2
 exact⟨rfl,HB2.out⟩
theorem fof9_any(w:World)(n x:Int):Calls Tryz.prog 109 #[.int .i64 n,.int .i64 x] w fun e w'=>e=.returned (.tuple #[.int .i64 (foV n x),.int .i64 (foE n x)])∧Below w.heap.size w w':=by
 obtain⟨X,hX⟩:∃X,X=kdA 1 32768 0 29 0 (lsM farL):=⟨_,rfl⟩
 have hs:=fun v=>number9_any v 1 32768 0 29 0 (lsM farL) far_ok9 n x
 have hk:=fars9_any w
 rw[←hX]at hk hs
 have HM:=Lib.hid hk;have HS:=Lib.hid hs
 obtain⟨z0,hz0⟩:∃z,z=foV n x:=⟨_,rfl⟩;obtain⟨z1,hz1⟩:∃z,z=foE n x:=⟨_,rfl⟩
 have hy:∀e,NmOut 1 0 29 0 (lsM farL) n x e→e=.returned (.tuple #[.int .i64 z0,.int .i64 z1]):=fun e h=>by rw[hz0,hz1];exact nm_far h
 rw[←hz0,←hz1]
 have HY:=Lib.hid hy
 clear hz0 hz1 hX hk hs hy
 go_enter Tryz.func109,Tryz.ntmps109
 go_wp2_with fail
 refine HM.out.mono ?_
 rintro e w1 ⟨rfl,hb1⟩
 have HB1:=Lib.hid hb1
 clear hb1
 go_wp2_with fail
 refine(HS.out w1).mono ?_
 rintro e w2 ⟨he,hb2⟩
 obtain rfl:=HY.out _ he
 have HB2:=Lib.hid (HB1.out.trans (hb2.mono HB1.out.size))
 clear hb2 he
 go_wp2
 go_ret2
 exact⟨rfl,HB2.out⟩
end Go.Proofs.YtcmpmighjglnpaaGreat
namespace Go.Proofs.YtcmpmighjglnpaaGreat
open Go.RowKit Go.ChangeShapes Go.WideShapes Go.ChangeAt Go.Joins
theorem strR_step{N:Nat}{l:List (Int×Int)}{i:Nat}(h:i<l.length)(out:List Nat):strR N (l.drop i) out=
  if(l.getD i run0).1<0∨18<(l.getD i run0).1∨(l.getD i run0).2<0∨(2^bitsR (l.getD i run0).1:Nat)≤(l.getD i run0).2 then(8,[])else
   if((l.getD i run0).1=16∧out=[])∨N<out.length+timesR (l.getD i run0).1 (l.getD i run0).2 then(100,[])else strR N (l.drop (i+1)) (out++List.replicate (timesR (l.getD i run0).1 (l.getD i run0).2) (valR (l.getD i run0).1 out)):=by
 have e:l.drop i=l.getD i run0::l.drop (i+1):=by
  rw[List.drop_eq_getElem_cons h,List.getD_eq_getElem?_getD,List.getElem?_eq_getElem h];rfl
 rw[e]
 obtain⟨s,x⟩:=l.getD i run0
 rfl
theorem rep_one(out:List Nat)(k v:Nat):bytesL (out.length+k) (lst (out++List.replicate k v))=bytesL (out.length+k) (lst (out++List.replicate (k+1) v))∧lst (out++List.replicate (k+1) v) (out.length+k)=v:=by
 have h:=lst_one (out++List.replicate k v) v
 have e:out++List.replicate k v++[v]=out++List.replicate (k+1) v:=by rw[List.append_assoc,List.replicate_succ']
 rw[e,List.length_append,List.length_replicate]at h
 exact h
theorem bitsR_le(s:Int):bitsR s≤7:=by
 unfold bitsR
 split
 ·omega
 ·split
  ·omega
  ·split<;>omega
theorem timesR_le{s x:Int}(h:x<128):timesR s x≤139:=by
 unfold timesR
 split
 ·omega
 ·split<;>omega
theorem valR_lt{s:Int}{out:List Nat}(h:∀x∈out,x<256):valR s out<256:=by
 unfold valR
 split
 ·cases hl:out.getLast? with
  |none=>show 0<256;omega
  |some z=>exact h z (List.mem_of_getLast? hl)
 ·split<;>omega
theorem last_lst(out:List Nat):out.getLast?.getD 0=lst out (out.length-1):=by
 unfold lst
 rw[List.getLast?_eq_getElem?,List.getD_eq_getElem?_getD]
end Go.Proofs.YtcmpmighjglnpaaGreat
namespace Go.Proofs.YtcmpmighjglnpaaGreat
open Go.RowKit Go.ChangeShapes Go.WideShapes Go.ChangeAt Go.Joins
theorem lbits10_any(w:World)(s:Int):Calls Tryz.prog 152 #[.int .i64 s] w fun e w'=>e=.returned (.tuple #[.int .i64 (bitV s),.int .i64 (bitE s)])∧w=w':=by
 by_cases y0:s<0
 ·skip
  have e1:bitV s=0:=by unfold bitV;rw[if_neg (by omega)]
  have e2:bitE s=2:=by unfold bitE;rw[if_neg (by omega)]
  rw[e1,e2]
  have d0:decide (s<0)=true:=decY0 y0
  clear e1 e2 y0
  go_enter Tryz.func152,Tryz.ntmps152
  go_wp2
  go_ret2
  exact⟨rfl,rfl⟩
 have d0:decide (s<0)=false:=decN0 y0
 by_cases y1:19≤s
 ·skip
  have e1:bitV s=0:=by unfold bitV;rw[if_neg (by omega)]
  have e2:bitE s=2:=by unfold bitE;rw[if_neg (by omega)]
  rw[e1,e2]
  have d1:decide (19≤s)=true:=decY0 y1
  clear e1 e2 y0 y1
  go_enter Tryz.func152,Tryz.ntmps152
  go_wp2
  go_ret2
  exact⟨rfl,rfl⟩
 have d1:decide (19≤s)=false:=decN0 y1
 by_cases y16:s=16
 ·skip
  have e1:bitV s=2:=by unfold bitV bitsR;rw[if_pos (by omega),if_pos y16];rfl
  have e2:bitE s=0:=by unfold bitE;rw[if_pos (by omega)]
  rw[e1,e2]
  have d16:(s==16)=true:=by simp[y16]
  clear e1 e2 y0 y1 y16
  go_enter Tryz.func152,Tryz.ntmps152
  go_wp2
  go_ret2
  exact⟨rfl,rfl⟩
 have d16:(s==16)=false:=by simp[y16]
 by_cases y17:s=17
 ·skip
  have e1:bitV s=3:=by unfold bitV bitsR;rw[if_pos (by omega),if_neg y16,if_pos y17];rfl
  have e2:bitE s=0:=by unfold bitE;rw[if_pos (by omega)]
  rw[e1,e2]
  have d17:(s==17)=true:=by simp[y17]
  clear e1 e2 y0 y1 y16 y17
  go_enter Tryz.func152,Tryz.ntmps152
  go_wp2
  go_ret2
  exact⟨rfl,rfl⟩
 have d17:(s==17)=false:=by simp[y17]
 by_cases y18:s=18
 ·skip
  have e1:bitV s=7:=by unfold bitV bitsR;rw[if_pos (by omega),if_neg y16,if_neg y17,if_pos y18];rfl
  have e2:bitE s=0:=by unfold bitE;rw[if_pos (by omega)]
  rw[e1,e2]
  have d18:(s==18)=true:=by simp[y18]
  clear e1 e2 y0 y1 y16 y17 y18
  go_enter Tryz.func152,Tryz.ntmps152
  go_wp2
  go_ret2
  exact⟨rfl,rfl⟩
 have d18:(s==18)=false:=by simp[y18]
 have e1:bitV s=0:=by unfold bitV bitsR;rw[if_pos (by omega),if_neg y16,if_neg y17,if_neg y18];rfl
 have e2:bitE s=0:=by unfold bitE;rw[if_pos (by omega)]
 rw[e1,e2]
 skip
 clear e1 e2 y0 y1 y16 y17 y18
 go_enter Tryz.func152,Tryz.ntmps152
 go_wp2
 go_ret2
 exact⟨rfl,rfl⟩
def mayU(s x:Int):Prop:=¬(s<0∨18<s∨x<0∨(2^bitsR s:Nat)≤x)
instance (s x:Int):Decidable (mayU s x):=by unfold mayU;infer_instance
theorem mayU_dec{s x:Int}{k p:Nat}(hs:¬(s<0∨18<s))(eb:bitsR s=k)(hp:2^k=p):decide (mayU s x)=decide (0≤x∧x<(p:Int)):=by
 apply decide_eq_decide.2
 unfold mayU
 rw[eb,hp]
 constructor<;>(intro q;omega)
theorem below_drewN{B:Nat}{a w:World}(h:Below B a w)(n:Nat):Below B a (w.drewN n):=⟨h.os,h.tape,h.output,h.size,h.block⟩
theorem may10_any(w:World)(s x:Int):Calls Tryz.prog 153 #[.agg #[.int .i64 s,.int .i64 x]] w fun e w'=>e=.returned (.bool (decide (mayU s x)))∧Below w.heap.size w w':=by
 obtain⟨M,hM⟩:∃M,M=decide (mayU s x):=⟨_,rfl⟩
 rw[←hM]
 have HM:=Lib.hid hM
 clear hM
 have HBI:=Lib.hid (fun w=>lbits10_any w s)
 have HB:=Lib.hid ((Below.refl w.heap.size w).alloc (Nat.le_refl _) (.cells #[.int .i64 s,.int .i64 x] 166))
 by_cases s0:s<0∨18<s
 ·have e1:bitE s=2:=by unfold bitE;rw[if_neg (by omega)]
  obtain rfl:M=false:=by rw[HM.out];exact decN0 (fun q=>by unfold mayU at q;omega)
  rw[e1]at HBI
  obtain⟨bv,hbv⟩:∃bv,bv=bitV s:=⟨_,rfl⟩
  rw[←hbv]at HBI
  clear HM e1 hbv s0
  go_enter Tryz.func153,Tryz.ntmps153
  go_wp2_with fail
  refine(HBI.out _).mono ?_
  rintro e w2 ⟨rfl,rfl⟩
  go_wp2
  go_quiet (fail)
  go_wp2
  go_ret
  exact⟨rfl,below_drewN HB.out _⟩
 have e1:bitE s=0:=by unfold bitE;rw[if_pos (by omega)]
 have e2:bitV s=(bitsR s:Nat):=by unfold bitV;rw[if_pos (by omega)]
 rw[e1,e2]at HBI
 clear e1 e2
 by_cases y16:s=16
 ·skip
  have eb:bitsR s=2:=by unfold bitsR;rw[if_pos y16]
  rw[eb]at HBI
  have hm:M=decide (0≤x∧x<(4:Int)):=by rw[HM.out];exact mayU_dec s0 eb rfl
  have HM2:=Lib.hid hm
  clear hm eb s0 HM y16
  by_cases x0:x<0
  ·have dx:decide (0≤x)=false:=decN0 (by omega)
   obtain rfl:M=false:=by rw[HM2.out];exact decN0 (fun q=>absurd q.1 (by omega))
   clear HM2 x0
   go_enter Tryz.func153,Tryz.ntmps153
   go_wp2_with fail
   refine(HBI.out _).mono ?_
   rintro e w2 ⟨rfl,rfl⟩
   go_wp2
   go_quiet (fail)
   go_wp2
   go_ret
   exact⟨rfl,below_drewN HB.out _⟩
  have dx:decide (0≤x)=true:=decY0 (by omega)
  obtain⟨B,hBe⟩:∃B,B=decide (x<4):=⟨_,rfl⟩
  have hmb:M=B:=by rw[HM2.out,hBe];exact decide_eq_decide.2 ⟨fun q=>q.2,fun q=>⟨by omega,q⟩⟩
  subst hmb
  have dx1:decide (x<4)=M:=hBe.symm
  clear HM2 x0 hBe
  go_enter Tryz.func153,Tryz.ntmps153
  go_wp2_with fail
  refine(HBI.out _).mono ?_
  rintro e w2 ⟨rfl,rfl⟩
  go_wp2
  go_quiet (fail)
  go_wp2
  go_ret
  exact⟨rfl,below_drewN HB.out _⟩
 by_cases y17:s=17
 ·skip
  have eb:bitsR s=3:=by unfold bitsR;rw[if_neg y16,if_pos y17]
  rw[eb]at HBI
  have hm:M=decide (0≤x∧x<(8:Int)):=by rw[HM.out];exact mayU_dec s0 eb rfl
  have HM2:=Lib.hid hm
  clear hm eb s0 HM y16 y17
  by_cases x0:x<0
  ·have dx:decide (0≤x)=false:=decN0 (by omega)
   obtain rfl:M=false:=by rw[HM2.out];exact decN0 (fun q=>absurd q.1 (by omega))
   clear HM2 x0
   go_enter Tryz.func153,Tryz.ntmps153
   go_wp2_with fail
   refine(HBI.out _).mono ?_
   rintro e w2 ⟨rfl,rfl⟩
   go_wp2
   go_quiet (fail)
   go_wp2
   go_ret
   exact⟨rfl,below_drewN HB.out _⟩
  have dx:decide (0≤x)=true:=decY0 (by omega)
  obtain⟨B,hBe⟩:∃B,B=decide (x<8):=⟨_,rfl⟩
  have hmb:M=B:=by rw[HM2.out,hBe];exact decide_eq_decide.2 ⟨fun q=>q.2,fun q=>⟨by omega,q⟩⟩
  subst hmb
  have dx1:decide (x<8)=M:=hBe.symm
  clear HM2 x0 hBe
  go_enter Tryz.func153,Tryz.ntmps153
  go_wp2_with fail
  refine(HBI.out _).mono ?_
  rintro e w2 ⟨rfl,rfl⟩
  go_wp2
  go_quiet (fail)
  go_wp2
  go_ret
  exact⟨rfl,below_drewN HB.out _⟩
 by_cases y18:s=18
 ·skip
  have eb:bitsR s=7:=by unfold bitsR;rw[if_neg y16,if_neg y17,if_pos y18]
  rw[eb]at HBI
  have hm:M=decide (0≤x∧x<(128:Int)):=by rw[HM.out];exact mayU_dec s0 eb rfl
  have HM2:=Lib.hid hm
  clear hm eb s0 HM y16 y17 y18
  by_cases x0:x<0
  ·have dx:decide (0≤x)=false:=decN0 (by omega)
   obtain rfl:M=false:=by rw[HM2.out];exact decN0 (fun q=>absurd q.1 (by omega))
   clear HM2 x0
   go_enter Tryz.func153,Tryz.ntmps153
   go_wp2_with fail
   refine(HBI.out _).mono ?_
   rintro e w2 ⟨rfl,rfl⟩
   go_wp2
   go_quiet (fail)
   go_wp2
   go_ret
   exact⟨rfl,below_drewN HB.out _⟩
  have dx:decide (0≤x)=true:=decY0 (by omega)
  obtain⟨B,hBe⟩:∃B,B=decide (x<128):=⟨_,rfl⟩
  have hmb:M=B:=by rw[HM2.out,hBe];exact decide_eq_decide.2 ⟨fun q=>q.2,fun q=>⟨by omega,q⟩⟩
  subst hmb
  have dx1:decide (x<128)=M:=hBe.symm
  clear HM2 x0 hBe
  go_enter Tryz.func153,Tryz.ntmps153
  go_wp2_with fail
  refine(HBI.out _).mono ?_
  rintro e w2 ⟨rfl,rfl⟩
  go_wp2
  go_quiet (fail)
  go_wp2
  go_ret
  exact⟨rfl,below_drewN HB.out _⟩
 have eb:bitsR s=0:=by unfold bitsR;rw[if_neg y16,if_neg y17,if_neg y18]
 rw[eb]at HBI
 have hm:M=decide (0≤x∧x<(1:Int)):=by rw[HM.out];exact mayU_dec s0 eb rfl
 have HM2:=Lib.hid hm
 clear hm eb s0 HM y16 y17 y18
 by_cases x0:x<0
 ·have dx:decide (0≤x)=false:=decN0 (by omega)
  obtain rfl:M=false:=by rw[HM2.out];exact decN0 (fun q=>absurd q.1 (by omega))
  clear HM2 x0
  go_enter Tryz.func153,Tryz.ntmps153
  go_wp2_with fail
  refine(HBI.out _).mono ?_
  rintro e w2 ⟨rfl,rfl⟩
  go_wp2
  go_quiet (fail)
  go_wp2
  go_ret
  exact⟨rfl,below_drewN HB.out _⟩
 have dx:decide (0≤x)=true:=decY0 (by omega)
 obtain⟨B,hBe⟩:∃B,B=decide (x<1):=⟨_,rfl⟩
 have hmb:M=B:=by rw[HM2.out,hBe];exact decide_eq_decide.2 ⟨fun q=>q.2,fun q=>⟨by omega,q⟩⟩
 subst hmb
 have dx1:decide (x<1)=M:=hBe.symm
 clear HM2 x0 hBe
 go_enter Tryz.func153,Tryz.ntmps153
 go_wp2_with fail
 refine(HBI.out _).mono ?_
 rintro e w2 ⟨rfl,rfl⟩
 go_wp2
 go_quiet (fail)
 go_wp2
 go_ret
 exact⟨rfl,below_drewN HB.out _⟩
end Go.Proofs.YtcmpmighjglnpaaGreat
namespace Go.Proofs.YtcmpmighjglnpaaGreat
open Go.RowKit Go.ChangeShapes Go.WideShapes Go.ChangeAt Go.Joins
def valD(s:Int)(v:Nat):Nat:=if s=16 then v else if s<16 then s.toNat else 0
theorem does10_any(w:World)(s:Int)(x v:Nat)(hx:x≤1000)(hs:0≤s∧s≤18):Calls Tryz.prog 154 #[.agg #[.int .i64 s,.int .i64 (x:Int)],.int .u8 (v:Int)] w fun e w'=>e=.returned (.tuple #[.int .u8 (valD s v:Nat),.int .i64 ((timesR s (x:Int):Nat):Int)])∧Below w.heap.size w w':=by
 have HB:=Lib.hid ((Below.refl w.heap.size w).alloc (Nat.le_refl _) (.cells #[.int .i64 s,.int .i64 (x:Int)] 166))
 by_cases y16:s=16
 ·have e1:timesR s (x:Int)=x+3:=by unfold timesR;rw[if_pos (.inl y16),Int.toNat_natCast]
  have e2:valD s v=v:=by unfold valD;rw[if_pos y16]
  rw[e1,e2]
  have d16:(s==16)=true:=by simp[y16]
  have ex:(3:Int)+(x:Int)=((x+3:Nat):Int):=by omega
  obtain⟨u,hu⟩:∃u,u=x+3:=⟨_,rfl⟩
  rw[←hu]at ex⊢
  clear e1 e2 hu hs y16
  go_enter Tryz.func154,Tryz.ntmps154
  go_wp2
  go_ret2
  exact⟨rfl,HB.out⟩
 have d16:(s==16)=false:=by simp[y16]
 by_cases y17:s=17
 ·have e1:timesR s (x:Int)=x+3:=by unfold timesR;rw[if_pos (.inr y17),Int.toNat_natCast]
  have e2:valD s v=0:=by unfold valD;rw[if_neg y16,if_neg (by omega)]
  rw[e1,e2]
  have d17:(s==17)=true:=by simp[y17]
  have ex:(3:Int)+(x:Int)=((x+3:Nat):Int):=by omega
  obtain⟨u,hu⟩:∃u,u=x+3:=⟨_,rfl⟩
  rw[←hu]at ex⊢
  clear e1 e2 hu hs y16 y17
  go_enter Tryz.func154,Tryz.ntmps154
  go_wp2
  go_ret2
  exact⟨rfl,HB.out⟩
 have d17:(s==17)=false:=by simp[y17]
 by_cases y18:s=18
 ·have e1:timesR s (x:Int)=x+11:=by unfold timesR;rw[if_neg (by omega),if_pos y18,Int.toNat_natCast]
  have e2:valD s v=0:=by unfold valD;rw[if_neg y16,if_neg (by omega)]
  rw[e1,e2]
  have d18:(s==18)=true:=by simp[y18]
  obtain⟨z,hz⟩:∃z,z=x+8:=⟨_,rfl⟩
  have ez:(x:Int)+8=(z:Int):=by omega
  have ex:(3:Int)+(z:Int)=((x+11:Nat):Int):=by omega
  obtain⟨u,hu⟩:∃u,u=x+11:=⟨_,rfl⟩
  rw[←hu]at ex⊢
  clear e1 e2 hu hs y16 y17 y18 hz
  go_enter Tryz.func154,Tryz.ntmps154
  go_wp2
  go_ret2
  exact⟨rfl,HB.out⟩
 have d18:(s==18)=false:=by simp[y18]
 have e1:timesR s (x:Int)=1:=by unfold timesR;rw[if_neg (by omega),if_neg y18]
 obtain⟨V,rfl⟩:=Int.eq_ofNat_of_zero_le hs.1
 have e2:valD (V:Int) v=V:=by unfold valD;rw[if_neg y16,if_pos (by omega),Int.toNat_natCast]
 rw[e1,e2]
 have hV:V<16:=by omega
 have hmm:(V:Int)%256=(V:Int):=by omega
 have hmw:IntKind.u8.wrap (V:Int)=(V:Int):=by rw[IntKind.wrap_u8];omega
 clear e1 e2 y16 y17 y18 hs
 go_enter Tryz.func154,Tryz.ntmps154
 go_wp2
 go_ret2
 exact⟨rfl,HB.out⟩
end Go.Proofs.YtcmpmighjglnpaaGreat
namespace Go.Proofs.YtcmpmighjglnpaaGreat
open Go.RowKit
structure BoxW (w:World) (X:Nat) (x y:Value):Prop where
 lt:X<w.heap.size
 c0:w.cell? ⟨X,0,none⟩=some x
 c1:w.cell? ⟨X,1,none⟩=some y
 f0:w.frozen? ⟨X,0,none⟩=false
 f1:w.frozen? ⟨X,1,none⟩=false
theorem BoxW.new(U:World)(x y:Value)(t:TypeId):BoxW (U.alloc (.cells #[x,y] t)) U.heap.size x y:=by
 have hn:=heap_alloc_new U (.cells #[x,y] t)
 refine⟨by simp,?_,?_,?_,?_⟩
 ·exact(cell_of_row (U.alloc (.cells #[x,y] t)) _ 0 _ t (0,0) hn).trans rfl
 ·exact(cell_of_row (U.alloc (.cells #[x,y] t)) _ 1 _ t (0,0) hn).trans rfl
 ·exact frozen_of_row (U.alloc (.cells #[x,y] t)) _ 0 _ _ hn
 ·exact frozen_of_row (U.alloc (.cells #[x,y] t)) _ 1 _ _ hn
theorem BoxW.below{w w':World}{X B:Nat}{x y:Value}(h:BoxW w X x y)(hb:Below B w w')(hB:X<B):BoxW w' X x y:=
 ⟨Nat.lt_of_lt_of_le h.lt hb.size,(hb.cell (p:=⟨X,0,none⟩) hB).trans h.c0,(hb.cell (p:=⟨X,1,none⟩) hB).trans h.c1,(hb.frozen (p:=⟨X,0,none⟩) hB).trans h.f0,(hb.frozen (p:=⟨X,1,none⟩) hB).trans h.f1⟩
end Go.Proofs.YtcmpmighjglnpaaGreat
namespace Go.Proofs.YtcmpmighjglnpaaGreat
open Go.RowKit Go.ChangeShapes Go.WideShapes Go.ChangeAt Go.Joins
theorem runRange{w:World}{X:Nat}{s x:Int}(h0:w.cell? ⟨X,0,none⟩=some (.int .i64 s))(h1:w.cell? ⟨X,1,none⟩=some (.int .i64 x)):w.rangeAt X 0 (runC (s,x)):=by
 intro i v hv
 rcases i with _|_|i
 ·simp[runC]at hv;subst hv;exact h0
 ·simp[runC]at hv;subst hv;exact h1
 ·simp[runC]at hv
end Go.Proofs.YtcmpmighjglnpaaGreat
