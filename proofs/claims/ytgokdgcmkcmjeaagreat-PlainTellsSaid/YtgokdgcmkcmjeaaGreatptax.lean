/-
  Words and walks.
-/
import Derived.Test.YtgokdgcmkcmjeaaGreatptad
import Derived.Test.YtgokdgcmkcmjeaaGreatptae
import Derived.Test.YtgokdgcmkcmjeaaGreatptaw
set_option maxRecDepth 100000
set_option maxHeartbeats 16000000
namespace Go.Proofs.YtgokdgcmkcmjeaaGreat
open Go.RowKit
theorem beg_end{g:Nat→Nat}{L a:Nat}(h:8*L<a+3):begR g L a=(blk0,0,10):=by unfold begR;rw[if_pos h]
theorem beg_v{g:Nat→Nat}{L a v:Nat}(h:¬8*L<a+3)(hv:v=numN g a 3):begR g L a=begW v g L (a+3):=by unfold begR;rw[if_neg h,hv]
theorem rowW_set{w:World}{g n:Nat}{f:Nat→Nat}(h:RowW w g n f){p:Addr}(hp:g≠p.block)(u:Value):RowW (w.setCell p u) g n f:=by
 obtain⟨cur,h1,h2⟩:=h;exact⟨cur,(Below.heap_setCell w p u g hp).trans h1,h2⟩
theorem below_set13{B:Nat}{a w:World}(h:Below B a w)(p:Addr)(hp:B≤p.block)(u:Value):Below B a (w.setCell p u):=h.setCell hp u
def blkK(k:Nat)(last:Bool):Blk13:=⟨k,last,0,nof13,0,nof13,0⟩
theorem built_blkK(k:Nat)(b:Bool):Tryz.prog.built 73 [(1,.bool b),(0,.int .u8 (k:Int))]=some (blkC (blkK k b) none 0 none 0):=by kernel_rfl
theorem rbeg13_any(w:World)(A:Option Addr)(l c:Nat)(g:Nat→Nat)(hg:RdB w w.heap.size A l g)(hl:l≤1000000)(a:Nat)(ha:a≤8*l):
  Calls Tryz.prog 27 #[.slice A l c,.int .i64 (a:Int)] w fun e w'=>BlkD w.heap.size (begR g l a) e w'∧Below w.heap.size w w':=by
 obtain⟨h,hh⟩:∃h,h=w.heap.size:=⟨_,rfl⟩
 obtain⟨Z,hZ⟩:∃Z,Z=z5:=⟨_,rfl⟩
 obtain⟨W1,hW1⟩:∃W1,W1=w.alloc (.cells Z 73):=⟨_,rfl⟩
 have hb1:Below h w W1:=by rw[hW1,hh];exact(Below.refl _ _).alloc (Nat.le_refl _) _
 have t1:BoxC W1 h Z 73:=by rw[hW1,hh];exact BoxC.new w _ _
 have s1:W1.heap.size=h+1:=by rw[hW1,hh];simp
 obtain⟨R,hR⟩:∃R,R=begR g l a:=⟨_,rfl⟩
 rw[←hR]
 have HG:=Lib.hid hg;have HT1:=Lib.hid t1;have HB1:=Lib.hid hb1;have HH:=Lib.hid hh;have HW1:=Lib.hid hW1;have HS1:=Lib.hid s1
 have HTK:Hid (∀V,Below h w V→Calls Tryz.prog 57 #[.slice A l c,.int .i64 (a:Int),.int .i64 3] V fun e w'=>e=.returned (.tuple #[.int .u32 (takeV g l (a:Int) ((3:Nat):Int):Nat),.int .i64 (takeE l (a:Int) ((3:Nat):Int))])∧V=w'):=Lib.hid fun V hV=>rtake_any V V.heap.size A l c g (a:Int) ((3:Nat):Int) ((hg.below (by rw[←hh];exact hV) (Nat.le_refl _)).more (by have:=hV.size;exact this)) (by omega) (by omega)
 obtain⟨tk1,tk2⟩:=take13 (g:=g) (l:=l) (a:=a) (n:=3) (by omega)
 rw[tk1]at HTK
 have HZS:Hid (Z.size=5):=Lib.hid (by rw[hZ];rfl)
 have HZO:Hid (Z.all (·.oneCell')=true):=Lib.hid (by rw[hZ];simp[z5,Value.oneCell'])
 have HZE:=Lib.hid hZ
 have HZB:Hid (Tryz.prog.built 73 []=some Z):=Lib.hid (by rw[hZ];exact built_blk0)
 have hzb:∀u:World,(zeroValue 73).run Tryz.prog u=.ok (.agg Z) u:=by rw[hZ];exact(zero_of_info infoBlk13).1
 clear hg t1 hb1 hW1 tk1 hh hZ s1
 by_cases y0:8*l<a+3
 ·rw[if_pos y0]at HTK
  obtain⟨TV,hTV⟩:∃v,v=takeV g l (a:Int) ((3:Nat):Int):=⟨_,rfl⟩
  rw[←hTV]at HTK
  have hres:R=(blk0,0,10):=by rw[hR];exact beg_end y0
  have HRES:=Lib.hid hres
  clear y0 tk2 hTV hres hR
  go_enter Tryz.func27,Tryz.ntmps27
  go_wp2_with (first|(rw[←HW1.out,←HH.out])|fail)
  refine(HTK.out W1 HB1.out).mono ?_
  rintro e w9 ⟨rfl,rfl⟩
  go_wp2_with (first
   |(refine wpList_buildTo rfl 73 #[] rfl (some 22) rfl Z ?_ ?_;focus(simpa[Act.eval]using HZB.out))
   |(refine wpList_store_rowTo rfl _ _ _ rfl rfl h Z rfl rfl 73 Z HT1.out (szBlk5 _ HZS.out) rfl HZO.out ?_)
   |fail)
  refine bodyPost_ret ((cell_blk2 rfl _ _ h _ HZS.out rfl (setRow_heap _ _ _ _ _ _ HT1.out)).trans rfl) rfl ⟨?_,?_⟩
  ·rw[HZE.out];exact BlkD.none HRES.out (by decide)
  ·rw[←HH.out];exact below_rowU13 HB1.out (Nat.le_refl _) _
 rw[if_neg y0,tk2 y0]at HTK
 have hv8:numN g a 3<8:=numN_lt g a 3
 obtain⟨v,hv⟩:∃v,v=numN g a 3:=⟨_,rfl⟩
 rw[←hv]at HTK hv8
 have hres:R=begW v g l (a+3):=by rw[hR];exact beg_v y0 hv
 obtain⟨kd,hkd⟩:∃k,k=v/2:=⟨_,rfl⟩
 obtain⟨r,hr⟩:∃k,k=v%2:=⟨_,rfl⟩
 obtain⟨b,hb⟩:∃b,b=decide (v%2=1):=⟨_,rfl⟩
 have ek:(v:Int)/2=(kd:Int):=by omega
 have er:(v:Int)%2=(r:Int):=by omega
 have hk4:kd≤3:=by omega
 have eb:decide ((r:Int)=1)=b:=by rw[hb,hr];by_cases q:v%2=1<;>simp[q]<;>omega
 have eq1:((r:Int)==1)=b:=by rw[←eb];rfl
 have eb':decide (r=1)=b:=by rw[hb,hr]
 have ek8:(kd:Int)%256=(kd:Int):=by omega
 have hres2:R=if kd=3 then(blk0,0,130)else if kd=2 then dynR b g l (a+3)else if kd=1 then(⟨1,b,0,fixA,288,fixB,32⟩,a+3,0)else stoR b g l ((a+3+7)/8*8):=by rw[hres,hkd,hb];rfl
 have HRES2:=Lib.hid hres2
 obtain⟨X,hX⟩:∃X,X=blkC (blkK kd b) none 0 none 0:=⟨_,rfl⟩
 have HXB:Hid (Tryz.prog.built 73 [(1,.bool b),(0,.int .u8 (kd:Int))]=some X):=Lib.hid (by rw[hX];exact built_blkK kd b)
 have HXS:Hid (X.size=5):=Lib.hid (by rw[hX];rfl)
 have HXO:Hid (X.all (·.oneCell')=true):=Lib.hid (by rw[hX];simp[blkC,Value.oneCell'])
 have HXE:=Lib.hid hX
 obtain⟨W2,hW2⟩:∃W,W=mkV W1 Z X 73:=⟨_,rfl⟩
 have hb2:Below W1.heap.size W1 W2:=by rw[hW2];exact mkV_below _ _ _ _
 have x2:BoxC W2 (h+1) X 73:=by have:=mkV_row W1 Z X 73;rw[HS1.out]at this;rw[hW2];exact this
 have t2:=HT1.out.below hb2 (by rw[HS1.out];omega)
 have HX2:=Lib.hid x2;have HT2:=Lib.hid t2;have HB2:=Lib.hid (HB1.out.trans (hb2.mono (by rw[HS1.out];omega)));have HW2:=Lib.hid hW2
 have c0:W2.cell? ⟨h+1,0,none⟩=some (.int .u8 (kd:Int)):=by rw[x2.cell,hX];rfl
 clear tk2 hv hres hR hkd hr hb hres2 hX hW2 hb2 x2 t2
 go_enter Tryz.func27,Tryz.ntmps27
 go_wp2_with (first|(rw[←HW1.out,←HH.out])|fail)
 refine(HTK.out W1 HB1.out).mono ?_
 rintro e w9 ⟨rfl,rfl⟩
 have SZ2:Hid (W2.heap.size=h+2):=Lib.hid (by rw[HW2.out,mkV_size,HS1.out])
 by_cases k3:kd=3
 ·have q3:((kd:Int)==3)=true:=by rw[k3];rfl
  have hr3:R=(blk0,0,130):=by rw[HRES2.out,if_pos k3]
  have HR3:=Lib.hid hr3
  clear hr3 k3
  go_wp2_with (first
  |(refine wpList_buildTo rfl 73 #[(1,.tmp 26),(0,.tmp 29)] rfl (some 30) rfl X ?_ ?_;focus(simpa[Act.eval,eq1]using HXB.out))
  |(refine wpList_store_rowTo rfl _ _ _ rfl rfl W1.heap.size X rfl rfl 73 Z (heap_alloc_new W1 _) (szBlk5 _ HXS.out) (by rw[HZS.out,HXS.out]) HXO.out ?_;change wpList _ _ _ _ _ (mkV W1 Z X 73);rw[←HW2.out,HS1.out])
   |(refine wpList_buildTo rfl 73 #[] rfl (some 36) rfl Z ?_ ?_;focus(simpa[Act.eval]using HZB.out))
   |(refine wpList_store_rowTo rfl _ _ _ rfl rfl h Z rfl rfl 73 Z HT2.out (szBlk5 _ HZS.out) rfl HZO.out ?_)
   |fail)
  refine bodyPost_ret ((cell_blk2 rfl _ _ h _ HZS.out rfl (setRow_heap _ _ _ _ _ _ HT2.out)).trans rfl) rfl ⟨?_,?_⟩
  ·rw[HZE.out];exact BlkD.none HR3.out (by decide)
  ·rw[←HH.out];exact below_rowU13 HB2.out (Nat.le_refl _) _
 have q3:((kd:Int)==3)=false:=beq_eq_false_iff_ne.2 (by omega)
 by_cases k2:kd=2
 ·have q2:((kd:Int)==2)=true:=by rw[k2];rfl
  obtain⟨D,hD⟩:∃D,D=dynR b g l (a+3):=⟨_,rfl⟩
  have hr3:R=D:=by rw[HRES2.out,if_neg k3,if_pos k2,hD]
  have hdy:=rdyn13_any W2 b A l c g ((HG.out.below (HH.out▸HB2.out) (Nat.le_refl _)).more (HH.out▸HB2.out.size)) hl (a+3) (by omega)
  rw[←hD,show blkC (blkZ b) none 0 none 0=X by rw[HXE.out,k2];rfl]at hdy
  rw[show(((a+3:Nat)):Int)=(a:Int)+3 by omega]at hdy
  have HDY:=Lib.hid hdy
  have HR3:=Lib.hid hr3
  clear hr3 k3 k2 hD hdy
  go_wp2_with (first
  |(refine wpList_buildTo rfl 73 #[(1,.tmp 26),(0,.tmp 29)] rfl (some 30) rfl X ?_ ?_;focus(simpa[Act.eval,eq1]using HXB.out))
  |(refine wpList_store_rowTo rfl _ _ _ rfl rfl W1.heap.size X rfl rfl 73 Z (heap_alloc_new W1 _) (szBlk5 _ HXS.out) (by rw[HZS.out,HXS.out]) HXO.out ?_;change wpList _ _ _ _ _ (mkV W1 Z X 73);rw[←HW2.out,HS1.out])
   |(refine wpList_load_row rfl _ _ rfl (h+1) rfl _ X (0,0) _ HX2.out Tryz.underlying73 rfl (szBlk5 _ HXS.out) ?_)
   |fail)
  refine HDY.out.mono ?_
  rintro e w3 ⟨⟨A1,c1,A2,c2,rfl,r1,r2,n1,n2,hin⟩,hb3⟩
  obtain⟨Y,hY⟩:∃Y,Y=blkC D.1 A1 c1 A2 c2:=⟨_,rfl⟩
  rw[←hY]
  have HYS:Hid (Y.size=5):=Lib.hid (by rw[hY];rfl)
  have HYO:Hid (Y.all (·.oneCell')=true):=Lib.hid (by rw[hY];simp[blkC,Value.oneCell'])
  have HYE:=Lib.hid hY
  obtain⟨p,hp⟩:∃p,p=D.2.1:=⟨_,rfl⟩
  obtain⟨f,hf⟩:∃p,p=D.2.2:=⟨_,rfl⟩
  rw[←hp,←hf]
  obtain⟨W4,hW4⟩:∃W,W=mkV w3 Z Y 73:=⟨_,rfl⟩
  obtain⟨s3,hs3⟩:∃s,s=w3.heap.size:=⟨_,rfl⟩
  have hb4:Below w3.heap.size w3 W4:=by rw[hW4];exact mkV_below _ _ _ _
  have x4:BoxC W4 s3 Y 73:=by rw[hW4,hs3];exact mkV_row w3 Z Y _
  have hsz:h+2≤w3.heap.size:=by have:=hb3.size;rw[SZ2.out]at this;exact this
  have t4:BoxC W4 h Z 73:=(HT2.out.below hb3 (by rw[SZ2.out];omega)).below hb4 (by omega)
  have HB4:Hid (Below h w W4):=Lib.hid ((HB2.out.trans (hb3.mono (by rw[SZ2.out];omega))).trans (hb4.mono (by omega)))
  have HX4:=Lib.hid x4;have HT4:=Lib.hid t4;have HW4:=Lib.hid hW4;have HS3:=Lib.hid hs3;have HP:=Lib.hid hp;have HF:=Lib.hid hf;have HSZ:=Lib.hid hsz
  have R1:=Lib.hid r1;have R2:=Lib.hid r2;have N1:=Lib.hid n1;have N2:=Lib.hid n2;have HIN:=Lib.hid hin;have HBL4:=Lib.hid hb4
  clear hY hp hf hW4 hs3 hb4 x4 t4 hsz r1 r2 n1 n2 hin hb3
  go_wp2_with (first
   |(refine wpList_store_rowTo rfl _ _ _ rfl rfl w3.heap.size Y rfl rfl 73 Z (heap_alloc_new w3 _) (szBlk5 _ HYS.out) (by rw[HZS.out,HYS.out]) HYO.out ?_;change wpList _ _ _ _ _ (mkV w3 Z Y 73);rw[←HW4.out,←HS3.out])
   |(refine wpList_load_row rfl _ _ rfl s3 rfl _ Y (0,0) _ HX4.out Tryz.underlying73 rfl (szBlk5 _ HYS.out) ?_)
   |(refine wpList_store_rowTo rfl _ _ _ rfl rfl h Y rfl rfl 73 Z HT4.out (szBlk5 _ HYS.out) (by rw[HZS.out,HYS.out]) HYO.out ?_)
   |fail)
  refine bodyPost_ret ((cell_blk2 rfl _ _ h _ HYS.out rfl (setRow_heap _ _ _ _ _ _ HT4.out)).trans rfl) rfl ⟨?_,?_⟩
  ·rw[HR3.out]
   have hmv:∀bb,bb<w3.heap.size→bb≠h→bb<(W4.setRow h Y).heap.size∧(W4.setRow h Y).heap[bb]?=w3.heap[bb]?:=fun bb h1 h2=>⟨by rw[size_setRow];have:=HBL4.out.size;omega,(setRow_other _ _ _ _ h2).trans (HBL4.out.block bb h1)⟩
   refine⟨A1,c1,A2,c2,by rw[HYE.out,←HP.out,←HF.out];rfl,?_,?_,?_,?_,HIN.out⟩
   ·exact R1.out.move fun bb o e h0=>hmv bb (rd_lt R1.out h0 e) (by have:=N1.out bb o h0 e;rw[SZ2.out]at this;omega)
   ·exact R2.out.move fun bb o e h0=>hmv bb (rd_lt R2.out h0 e) (by have:=N2.out bb o h0 e;rw[SZ2.out]at this;omega)
   ·intro bb o h0 e
    have:=N1.out bb o h0 e;rw[SZ2.out]at this;rw[←HH.out];omega
   ·intro bb o h0 e
    have:=N2.out bb o h0 e;rw[SZ2.out]at this;rw[←HH.out];omega
  ·rw[←HH.out];exact below_rowU13 HB4.out (Nat.le_refl _) _
 have q2:((kd:Int)==2)=false:=beq_eq_false_iff_ne.2 (by omega)
 by_cases k1:kd=1
 ·have q1:((kd:Int)==1)=true:=by rw[k1];rfl
  have hr3:R=(⟨1,b,0,fixA,288,fixB,32⟩,a+3,0):=by rw[HRES2.out,if_neg k3,if_neg k2,if_pos k1]
  have HR3:=Lib.hid hr3
  have HXE1:Hid (X=#[.int .u8 1,.bool b,.int .i64 0,.slice none 0 0,.slice none 0 0]):=Lib.hid (by rw[HXE.out,k1];rfl)
  clear hr3 k3 k2 k1
  go_wp2_with (first
  |(refine wpList_buildTo rfl 73 #[(1,.tmp 26),(0,.tmp 29)] rfl (some 30) rfl X ?_ ?_;focus(simpa[Act.eval,eq1]using HXB.out))
  |(refine wpList_store_rowTo rfl _ _ _ rfl rfl W1.heap.size X rfl rfl 73 Z (heap_alloc_new W1 _) (szBlk5 _ HXS.out) (by rw[HZS.out,HXS.out]) HXO.out ?_;change wpList _ _ _ _ _ (mkV W1 Z X 73);rw[←HW2.out,HS1.out])
   |fail)
  obtain⟨g1,hg1⟩:∃g,g=W2.heap.size:=⟨_,rfl⟩
  have hcl:=rlongs11_any W2
  rw[←hg1]at hcl
  have l1:h+2≤g1:=by have:=SZ2.out;omega
  have HCL:=Lib.hid hcl
  clear hcl
  refine HCL.out.mono ?_
  rintro e w5 ⟨rfl,m1,hb⟩
  have hb:=hg1▸hb
  have x5:=HX2.out.below hb HX2.out.lt
  have t5:=HT2.out.below hb HT2.out.lt
  have s3:w5.cell? ⟨h+1,3,none⟩=some (.slice none 0 0):=by rw[x5.cell,HXE1.out];rfl
  have f3:w5.frozen? ⟨h+1,3,none⟩=false:=x5.free
  obtain⟨w6,hw6⟩:∃W,W=w5.setCell ⟨h+1,3,none⟩ (.slice (some ⟨g1,0,none⟩) 288 288):=⟨_,rfl⟩
  obtain⟨X6,hX6⟩:∃Y:Array Value,Y=#[.int .u8 1,.bool b,.int .i64 0,.slice (some ⟨g1,0,none⟩) 288 288,.slice none 0 0]:=⟨_,rfl⟩
  have HX6:Hid (BoxC w6 (h+1) X6 73):=Lib.hid (by
   have a:=x5.set 3 (.slice (some ⟨g1,0,none⟩) 288 288)
   rw[HXE1.out]at a
   rw[hw6,hX6];exact a)
  have HT6:Hid (BoxC w6 h Z 73):=Lib.hid (by rw[hw6];exact t5.other (by show h≠h+1;omega) _)
  have HM1:Hid (RowW w6 g1 288 fixA):=Lib.hid (by rw[hw6];exact rowW_set m1 (by show g1≠h+1;omega) _)
  have HB6:Hid (Below h w w6):=Lib.hid (by rw[hw6];exact below_set13 (HB2.out.trans (hb.mono (by have:=SZ2.out;omega))) _ (by show h≤h+1;omega) _)
  have HS6:Hid (h+2≤w6.heap.size):=Lib.hid (by have:=HX6.out.lt;omega)
  have HL1:=Lib.hid l1;have HW6:=Lib.hid hw6;have HXE6:=Lib.hid hX6
  clear hw6 hX6 x5 t5 m1 l1 hb
  clear hg1
  go_wp2_with (first|(rw[←HW6.out])|fail)
  obtain⟨g2,hg2⟩:∃g,g=w6.heap.size:=⟨_,rfl⟩
  have hcl:=rfars11_any w6
  rw[←hg2]at hcl
  have l2:h+2≤g2:=by have:=HS6.out;omega
  have HCL:=Lib.hid hcl
  clear hcl
  refine HCL.out.mono ?_
  rintro e w7 ⟨rfl,m2,hb⟩
  have hb:=hg2▸hb
  have x7:=HX6.out.below hb HX6.out.lt
  have t7:=HT6.out.below hb HT6.out.lt
  have m7:=HM1.out.below hb HM1.out.lt
  have s4:w7.cell? ⟨h+1,4,none⟩=some (.slice none 0 0):=by rw[x7.cell,HXE6.out];rfl
  have f4:w7.frozen? ⟨h+1,4,none⟩=false:=x7.free
  obtain⟨w8,hw8⟩:∃W,W=w7.setCell ⟨h+1,4,none⟩ (.slice (some ⟨g2,0,none⟩) 32 32):=⟨_,rfl⟩
  obtain⟨Y,hY⟩:∃Y:Array Value,Y=blkC ⟨1,b,0,fixA,288,fixB,32⟩ (some ⟨g1,0,none⟩) 288 (some ⟨g2,0,none⟩) 32:=⟨_,rfl⟩
  have HX8:Hid (BoxC w8 (h+1) Y 73):=Lib.hid (by
   have a:=x7.set 4 (.slice (some ⟨g2,0,none⟩) 32 32)
   rw[HXE6.out]at a
   rw[hw8,hY];exact a)
  have HT8:Hid (BoxC w8 h Z 73):=Lib.hid (by rw[hw8];exact t7.other (by show h≠h+1;omega) _)
  have HM8:Hid (RowW w8 g1 288 fixA):=Lib.hid (by rw[hw8];exact rowW_set m7 (by show g1≠h+1;have:=HL1.out;omega) _)
  have HN8:Hid (RowW w8 g2 32 fixB):=Lib.hid (by rw[hw8];exact rowW_set m2 (by show g2≠h+1;omega) _)
  have HB8:Hid (Below h w w8):=Lib.hid (by rw[hw8];exact below_set13 (HB6.out.trans (hb.mono (by have:=HS6.out;omega))) _ (by show h≤h+1;omega) _)
  have HYS:Hid (Y.size=5):=Lib.hid (by rw[hY];rfl)
  have HYO:Hid (Y.all (·.oneCell')=true):=Lib.hid (by rw[hY];simp[blkC,Value.oneCell'])
  have HL2:=Lib.hid l2;have HW8:=Lib.hid hw8;have HYE:=Lib.hid hY
  clear hw8 hY x7 t7 m7 m2 l2 hb
  clear hg2
  go_wp2_with (first
   |(rw[←HW8.out])
   |(refine wpList_load_row rfl _ _ rfl (h+1) rfl _ Y (0,0) _ HX8.out Tryz.underlying73 rfl (szBlk5 _ HYS.out) ?_)
   |(refine wpList_store_rowTo rfl _ _ _ rfl rfl h Y rfl rfl 73 Z HT8.out (szBlk5 _ HYS.out) (by rw[HZS.out,HYS.out]) HYO.out ?_)
   |fail)
  refine bodyPost_ret ((cell_blk2 rfl _ _ h _ HYS.out rfl (setRow_heap _ _ _ _ _ _ HT8.out)).trans rfl) rfl ⟨?_,?_⟩
  ·rw[HR3.out]
   have r1:=HM8.out.rd (fun j=>by have:=fixA_le j;omega)
   have r2:=HN8.out.rd (fun j=>by have:=fixB_le j;omega)
   refine⟨some ⟨g1,0,none⟩,288,some ⟨g2,0,none⟩,32,by rw[HYE.out];rfl,?_,?_,?_,?_,fun _=>⟨by show(1:Nat)≤2;omega,by show(0:Nat)≤65535;omega,fun _=>⟨by show(288:Nat)≤320;omega,fun j _=>fixA_le j,allA⟩,fun _=>⟨by show(32:Nat)≤320;omega,fun j _=>fixB_le j,allB⟩⟩⟩
   ·exact r1.move fun bb o e h0=>by
     have hl:=rd_lt r1 h0 e;injection e with e;injection e with e1 _ _;subst e1
     exact⟨by rw[size_setRow];exact hl,setRow_other _ _ _ _ (by have:=HL1.out;omega)⟩
   ·exact r2.move fun bb o e h0=>by
     have hl:=rd_lt r2 h0 e;injection e with e;injection e with e1 _ _;subst e1
     exact⟨by rw[size_setRow];exact hl,setRow_other _ _ _ _ (by have:=HL2.out;omega)⟩
   ·intro bb o _ e;injection e with e;injection e with e1 _ _;subst e1;rw[←HH.out];have:=HL1.out;omega
   ·intro bb o _ e;injection e with e;injection e with e1 _ _;subst e1;rw[←HH.out];have:=HL2.out;omega
  ·rw[←HH.out];exact below_rowU13 HB8.out (Nat.le_refl _) _
 have q1:((kd:Int)==1)=false:=beq_eq_false_iff_ne.2 (by omega)
 have k0:kd=0:=by omega
 obtain⟨T,hT⟩:∃T,T=(a+3+7)/8*8:=⟨_,rfl⟩
 have hT8:T%8=0:=by omega
 have hTa:a+3≤T∧T<a+11:=by omega
 have hTl:T≤8*l:=by omega
 have hr3:R=stoR b g l T:=by rw[HRES2.out,if_neg k3,if_neg k2,if_neg k1,hT]
 have HR3:=Lib.hid hr3
 have HXE1:Hid (X=#[.int .u8 0,.bool b,.int .i64 0,.slice none 0 0,.slice none 0 0]):=Lib.hid (by rw[HXE.out,k0];rfl)
 have HTK2:Hid (Calls Tryz.prog 57 #[.slice A l c,.int .i64 (T:Int),.int .i64 32] W2 fun e w'=>e=.returned (.tuple #[.int .u32 (takeV g l (T:Int) ((32:Nat):Int):Nat),.int .i64 (takeE l (T:Int) ((32:Nat):Int))])∧W2=w'):=Lib.hid (rtake_any W2 W2.heap.size A l c g (T:Int) ((32:Nat):Int) ((HG.out.below (HH.out▸HB2.out) (Nat.le_refl _)).more (HH.out▸HB2.out.size)) (by omega) (by omega))
 obtain⟨tk1,tk2⟩:=take13 (g:=g) (l:=l) (a:=T) (n:=32) (by omega)
 rw[tk1]at HTK2
 have HTT:=Lib.hid hTa
 clear hr3 k3 k2 k1 k0 hT tk1 y0 ha
 go_wp2_with (first
  |(refine wpList_buildTo rfl 73 #[(1,.tmp 26),(0,.tmp 29)] rfl (some 30) rfl X ?_ ?_;focus(simpa[Act.eval,eq1]using HXB.out))
  |(refine wpList_store_rowTo rfl _ _ _ rfl rfl W1.heap.size X rfl rfl 73 Z (heap_alloc_new W1 _) (szBlk5 _ HXS.out) (by rw[HZS.out,HXS.out]) HXO.out ?_;change wpList _ _ _ _ _ (mkV W1 Z X 73);rw[←HW2.out,HS1.out])
  |fail)
 go_loopw [1] (fun iv wr=>∃i:Nat,iv=.int .i64 (i:Int)∧Hid (a+3≤i∧i≤T)∧Hid (wr=W2)) (fun iv _=>T-(intOf iv).toNat)
 case atStart=>exact⟨a+3,by go_num,Lib.hid ⟨Nat.le_refl _,HTT.out.1⟩,Lib.hid rfl⟩
 case round=>
  obtain⟨i,rfl,HI,HWR⟩:=hrel
  have hwr:=HWR.out.symm
  subst hwr
  by_cases hi:i=T
  ·subst hi
   have hm:(i:Int)%8=0:=by omega
   have hmb:((i:Int)%8==0)=true:=by rw[hm];rfl
   have hmn:((i:Int)%8 !=0)=false:=by rw[hm];rfl
   have hmt:decide ((i:Int)%8=0)=true:=decY hm
   by_cases y5:8*l<i+32
   ·rw[if_pos y5]at HTK2
    obtain⟨TV,hTV⟩:∃v,v=takeV g l (i:Int) ((32:Nat):Int):=⟨_,rfl⟩
    rw[←hTV]at HTK2
    have HR4:Hid (R=(blk0,0,10)):=Lib.hid (by rw[HR3.out];unfold stoR;rw[if_pos y5])
    clear y5 tk2 hTV
    go_wp2_with fail
    refine HTK2.out.mono ?_
    rintro e w9 ⟨rfl,rfl⟩
    go_wp2_with (first
     |(refine wpList_buildTo rfl 73 #[] rfl (some 73) rfl Z ?_ ?_;focus(simpa[Act.eval]using HZB.out))
     |(refine wpList_store_rowTo rfl _ _ _ rfl rfl h Z rfl rfl 73 Z HT2.out (szBlk5 _ HZS.out) rfl HZO.out ?_)
     |fail)
    refine bodyPost_ret ((cell_blk2 rfl _ _ h _ HZS.out rfl (setRow_heap _ _ _ _ _ _ HT2.out)).trans rfl) rfl ⟨?_,?_⟩
    ·rw[HZE.out];exact BlkD.none HR4.out (by decide)
    ·rw[←HH.out];exact below_rowU13 HB2.out (Nat.le_refl _) _
   rw[if_neg y5,tk2 y5]at HTK2
   obtain⟨x,hx⟩:∃x,x=numN g i 32:=⟨_,rfl⟩
   have hx32:numN g i 32<4294967296:=numN_lt g i 32
   rw[←hx]at HTK2 hx32
   have hr4:R=stoV b x (i+32):=by rw[HR3.out];unfold stoR;rw[if_neg y5,hx]
   obtain⟨lo,hlo⟩:∃q,q=x%65536:=⟨_,rfl⟩
   obtain⟨up,hup⟩:∃q,q=x/65536:=⟨_,rfl⟩
   have elo:(x:Int)%65536=(lo:Int):=by omega
   have eup:(x:Int)/65536=(up:Int):=by omega
   have hlo6:lo≤65535:=by omega
   have hup6:up≤65535:=by omega
   have hr5:R=if lo+up≠65535 then(blk0,0,131)else(⟨0,b,lo,nof13,0,nof13,0⟩,i+32,0):=by rw[hr4,hlo,hup];rfl
   have HR5:=Lib.hid hr5
   have s2:W2.cell? ⟨h+1,2,none⟩=some (.int .i64 0):=by rw[HX2.out.cell,HXE1.out];rfl
   have f2:W2.frozen? ⟨h+1,2,none⟩=false:=HX2.out.free
   obtain⟨W3,hW3⟩:∃W,W=W2.setCell ⟨h+1,2,none⟩ (.int .i64 (lo:Int)):=⟨_,rfl⟩
   obtain⟨Y,hY⟩:∃Y:Array Value,Y=blkC ⟨0,b,lo,nof13,0,nof13,0⟩ none 0 none 0:=⟨_,rfl⟩
   have HX3:Hid (BoxC W3 (h+1) Y 73):=Lib.hid (by
    have a:=HX2.out.set 2 (.int .i64 (lo:Int))
    rw[HXE1.out]at a
    rw[hW3,hY];exact a)
   have HT3:Hid (BoxC W3 h Z 73):=Lib.hid (by rw[hW3];exact HT2.out.other (by show h≠h+1;omega) _)
   have HB3:Hid (Below h w W3):=Lib.hid (by rw[hW3];exact below_set13 HB2.out _ (by show h≤h+1;omega) _)
   have HYS:Hid (Y.size=5):=Lib.hid (by rw[hY];rfl)
   have HYO:Hid (Y.all (·.oneCell')=true):=Lib.hid (by rw[hY];simp[blkC,Value.oneCell'])
   have HYE:=Lib.hid hY
   have c2:W3.cell? ⟨h+1,2,none⟩=some (.int .i64 (lo:Int)):=by rw[HX3.out.cell,hY];rfl
   have HW3:=Lib.hid hW3
   clear y5 tk2 hx hr4 hlo hup hr5 hW3 hY
   by_cases y6:lo+up=65535
   ·have u1:((lo:Int)+(up:Int)==65535)=true:=by rw[show(lo:Int)+(up:Int)=65535 by omega];rfl
    have u2:((lo:Int)+(up:Int) !=65535)=false:=by simp[bne,u1]
    have u3:(lo:Int)+(up:Int)=65535:=by omega
    have HR6:Hid (R=(⟨0,b,lo,nof13,0,nof13,0⟩,i+32,0)):=Lib.hid (by rw[HR5.out,if_neg (fun h=>h y6)])
    clear y6
    go_wp2_with fail
    refine HTK2.out.mono ?_
    rintro e w9 ⟨rfl,rfl⟩
    go_wp2_with (first
     |(rw[←HW3.out])
     |(refine wpList_load_row rfl _ _ rfl (h+1) rfl _ Y (0,0) _ HX3.out Tryz.underlying73 rfl (szBlk5 _ HYS.out) ?_)
     |(refine wpList_store_rowTo rfl _ _ _ rfl rfl h Y rfl rfl 73 Z HT3.out (szBlk5 _ HYS.out) (by rw[HZS.out,HYS.out]) HYO.out ?_)
     |fail)
    refine bodyPost_ret ((cell_blk2 rfl _ _ h _ HYS.out rfl (setRow_heap _ _ _ _ _ _ HT3.out)).trans rfl) rfl ⟨?_,?_⟩
    ·rw[HR6.out]
     exact⟨none,0,none,0,by rw[HYE.out];rfl,rd_nof _ _ _,rd_nof _ _ _,(fun _ _ h=>absurd h (by show¬0<0;omega)),(fun _ _ h=>absurd h (by show¬0<0;omega)),fun _=>⟨by show(0:Nat)≤2;omega,hlo6,fun h=>absurd rfl h,fun h=>absurd rfl h⟩⟩
    ·rw[←HH.out];exact below_rowU13 HB3.out (Nat.le_refl _) _
   have u0:¬(lo:Int)+(up:Int)=65535:=by omega
   have u1:((lo:Int)+(up:Int)==65535)=false:=beq_eq_false_iff_ne.2 u0
   have u2:((lo:Int)+(up:Int) !=65535)=true:=by simp[bne,u1]
   have HR6:Hid (R=(blk0,0,131)):=Lib.hid (by rw[HR5.out,if_pos y6])
   clear y6
   go_wp2_with fail
   refine HTK2.out.mono ?_
   rintro e w9 ⟨rfl,rfl⟩
   go_wp2_with (first
    |(rw[←HW3.out])
    |(refine wpList_buildTo rfl 73 #[] rfl (some 86) rfl Z ?_ ?_;focus(simpa[Act.eval]using HZB.out))
    |(refine wpList_store_rowTo rfl _ _ _ rfl rfl h Z rfl rfl 73 Z HT3.out (szBlk5 _ HZS.out) rfl HZO.out ?_)
    |fail)
   refine bodyPost_ret ((cell_blk2 rfl _ _ h _ HZS.out rfl (setRow_heap _ _ _ _ _ _ HT3.out)).trans rfl) rfl ⟨?_,?_⟩
   ·rw[HZE.out];exact BlkD.none HR6.out (by decide)
   ·rw[←HH.out];exact below_rowU13 HB3.out (Nat.le_refl _) _
  ·have HNE:=Lib.hid hi
   have hm:(i:Int)%8≠0:=by have h1:=HI.out;have h2:=HTT.out;omega
   have hib:i≤8000000:=by have h1:=HI.out;omega
   have hmb:((i:Int)%8==0)=false:=beq_eq_false_iff_ne.2 hm
   have hmn:((i:Int)%8 !=0)=true:=by simp[bne,hmb]
   have hmt:decide ((i:Int)%8=0)=false:=decN hm
   go_wp2
   go_roundw
   case rel=>exact⟨i+1,by go_num,Lib.hid ⟨by have:=HI.out;omega,by have:=HI.out;have:=HNE.out;omega⟩,by first|exact Lib.hid rfl|exact Lib.hid trivial⟩
   case measure=>have:=HI.out;have:=HNE.out;simp[intOf];omega
end Go.Proofs.YtgokdgcmkcmjeaaGreat
