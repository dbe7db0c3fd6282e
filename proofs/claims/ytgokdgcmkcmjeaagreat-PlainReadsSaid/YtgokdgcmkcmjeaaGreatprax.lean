/-
  Words and walks.
-/
import Derived.Lib.AppendZeros
import Derived.LoopN
import Derived.Deep.MidRow
import Derived.OneCell
import Derived.BigRegion
import Derived.StillTailTactics
import Derived.Deep.RegionLaw
import Derived.Deep.QuietTactic
import Derived.BigQuiet
import Derived.Lib.SmallJoins
import Derived.ShutString
import Derived.ChangeOld
import Derived.Great.BuildSlice
import Derived.Test.YtgokdgcmkcmjeaaGreatpraa
import Derived.Test.YtgokdgcmkcmjeaaGreatprab
import Derived.Test.YtgokdgcmkcmjeaaGreatprad
import Derived.Test.YtgokdgcmkcmjeaaGreatprae
import Derived.Test.YtgokdgcmkcmjeaaGreatprag
import Derived.Test.YtgokdgcmkcmjeaaGreatprai
import Derived.Test.YtgokdgcmkcmjeaaGreatpraq
import Derived.Test.YtgokdgcmkcmjeaaGreatprar
import Derived.Test.YtgokdgcmkcmjeaaGreatpras
import Derived.Test.YtgokdgcmkcmjeaaGreatpraw
set_option maxRecDepth 100000
set_option maxHeartbeats 16000000
namespace Go.Proofs.YtgokdgcmkcmjeaaGreat
open Go.RowKit
def blkT(kd:Nat)(last:Bool)(left:Nat)(c1 c2:Nat→Int)(v1 v2:Value):Array Value:=(.int .u8 (kd:Int)::.bool last::.int .i64 (left:Int)::(trL c1 v1++trL c2 v2)).toArray
theorem infoBlkT:(Tryz.prog.info? 28).map (fun i=>(i.zero,i.size))=some (some (.agg (blkT 0 false 0 (fun _=>0) (fun _=>0) (.slice none 0 0) (.slice none 0 0))),37):=by kernel_rfl
theorem built_blkT(k:Nat)(b:Bool)(l:Nat):Tryz.prog.built 28 [(0,.int .u8 (k:Int)),(1,.bool b),(2,.int .i64 (l:Int))]=some (blkT k b l (fun _=>0) (fun _=>0) (.slice none 0 0) (.slice none 0 0)):=by kernel_rfl
theorem blkT_size(k:Nat)(b:Bool)(l:Nat)(c1 c2:Nat→Int)(v1 v2:Value):(blkT k b l c1 c2 v1 v2).size=37:=by simp[blkT,trL,cntV]
theorem szBlkT(cs:Array Value)(h:cs.size=37):(Tryz.prog.info? 28).map (·.size)=some cs.size:=by rw[h];exact(zero_of_info infoBlkT).2
def setL:Nat→List Value→Array Value→Array Value
 |_,[],cs=>cs
 |o,v::r,cs=>setL (o+1) r (cs.setIfInBounds o v)
theorem BoxC.setCells{g:Nat}{t:TypeId}:∀(vs:List Value) (o:Nat) (w:World) (cs:Array Value),BoxC w g cs t→BoxC (w.setCells g o vs) g (setL o vs cs) t
 |[],_,_,_,h=>h
 |v::r,o,_,_,h=>BoxC.setCells r (o+1) _ _ (h.set o v)
theorem set_longs(k:Nat)(b:Bool)(l:Nat)(c1 c2 d:Nat→Int)(v1 v2 u:Value):setL 3 (trL d u) (blkT k b l c1 c2 v1 v2)=blkT k b l d c2 u v2:=by kernel_rfl
theorem set_fars(k:Nat)(b:Bool)(l:Nat)(c1 c2 d:Nat→Int)(v1 v2 u:Value):setL 20 (trL d u) (blkT k b l c1 c2 v1 v2)=blkT k b l c1 d v1 u:=by kernel_rfl
theorem there_box{w:World}{g:Nat}{cs:Array Value}{t:TypeId}(h:BoxC w g cs t)(o n:Nat)(hn:o+n≤cs.size):w.there g o n:=fun j hj=>by
 refine⟨?_,h.free⟩
 rw[h.cell,Array.getElem?_eq_getElem (by omega)];rfl
theorem below_setCells{B:Nat}{a:World}{g:Nat}(hg:B≤g):∀(vs:List Value) (o:Nat) (w:World),Below B a w→Below B a (w.setCells g o vs)
 |[],_,_,h=>h
 |v::r,o,_,h=>below_setCells hg r (o+1) _ (h.setCell hg v)
theorem setCells_other{g i:Nat}(hi:i≠g):∀(vs:List Value) (o:Nat) (w:World),(w.setCells g o vs).heap[i]?=w.heap[i]?
 |[],_,_=>rfl
 |v::r,o,w=>(setCells_other hi r (o+1) (w.setCell ⟨g,o,none⟩ v)).trans (Below.heap_setCell w ⟨g,o,none⟩ v i hi)
theorem blkT_one(k:Nat)(b:Bool)(l:Nat)(c1 c2:Nat→Int)(v1 v2:Value)(h1:v1.oneCell'=true)(h2:v2.oneCell'=true):(blkT k b l c1 c2 v1 v2).all (·.oneCell')=true:=by
 have ht:∀(c:Nat→Int) (v:Value),v.oneCell'=true→∀x∈trL c v,x.oneCell'=true:=fun c v h x hx=>by
  rcases List.mem_append.1 hx with hx|hx
  ·obtain⟨i,_,rfl⟩:=List.mem_map.1 hx;rfl
  ·rw[List.mem_singleton.1 hx];exact h
 refine all_oneCell_toArray fun x hx=>?_
 rcases List.mem_cons.1 hx with rfl|hx
 ·rfl
 rcases List.mem_cons.1 hx with rfl|hx
 ·rfl
 rcases List.mem_cons.1 hx with rfl|hx
 ·rfl
 rcases List.mem_append.1 hx with hx|hx
 ·exact ht _ _ h1 x hx
 ·exact ht _ _ h2 x hx
def tcO(kd:Nat)(F:Nat→Nat)(n:Nat):Nat→Int:=if kd=0 then fun _=>0 else fun m=>(tcN F m n:Int)
def syO(kd:Nat)(F:Nat→Nat)(n:Nat):List Int:=if kd=0 then[]else natsI (symL F n 15)
def OfD(base:Nat)(k:Blk13)(v:Value)(w':World):Prop:=
 ∃v1 v2,v=.agg (blkT k.kind k.last k.left (tcO k.kind k.F k.n) (tcO k.kind k.G k.m) v1 v2)∧OwnS w' base v1 (syO k.kind k.F k.n)∧OwnS w' base v2 (syO k.kind k.G k.m)
theorem rof13_any(w:World)(k:Blk13)(A1:Option Addr)(c1:Nat)(A2:Option Addr)(c2:Nat)(hk:BlkIn k)(r1:RdB w w.heap.size A1 k.n k.F)(r2:RdB w w.heap.size A2 k.m k.G):
  Calls Tryz.prog 28 #[.agg (blkC k A1 c1 A2 c2)] w fun e w'=>∃v,e=.returned v∧OfD w.heap.size k v w'∧Below w.heap.size w w':=by
 obtain⟨h,hh⟩:∃h,h=w.heap.size:=⟨_,rfl⟩
 obtain⟨X,hX⟩:∃X,X=blkC k A1 c1 A2 c2:=⟨_,rfl⟩
 rw[←hX]
 obtain⟨Z,hZ⟩:∃Z,Z=blkT 0 false 0 (fun _=>0) (fun _=>0) (.slice none 0 0) (.slice none 0 0):=⟨_,rfl⟩
 obtain⟨Y,hY⟩:∃Y,Y=(blkT k.kind k.last k.left (fun _=>0) (fun _=>0) (.slice none 0 0) (.slice none 0 0)):=⟨_,rfl⟩
 obtain⟨W1,hW1⟩:∃W1,W1=(w.alloc (.cells X 73)).alloc (.cells Z 28):=⟨_,rfl⟩
 have hb1:Below h w W1:=by rw[hW1,hh];exact((Below.refl _ _).alloc (Nat.le_refl _) _).alloc (by simp) _
 have x1:BoxC W1 h X 73:=by rw[hW1,hh];exact(BoxC.new w _ _).old _
 have z1:BoxC W1 (h+1) Z 28:=by rw[hW1,hh];have:=BoxC.new (w.alloc (.cells X 73)) Z 28;rwa[World.size_alloc]at this
 have s1:W1.heap.size=h+2:=by rw[hW1,hh];simp
 obtain⟨W2,hW2⟩:∃W,W=mkV W1 Z Y 28:=⟨_,rfl⟩
 have hb2:Below W1.heap.size W1 W2:=by rw[hW2];exact mkV_below _ _ _ _
 have y2:BoxC W2 (h+2) Y 28:=by have:=mkV_row W1 Z Y 28;rw[s1]at this;rw[hW2];exact this
 have x2:=x1.below hb2 (by omega)
 have z2:=z1.below hb2 (by omega)
 have hB2:=hb1.trans (hb2.mono (by omega:h≤W1.heap.size))
 have s2:W2.heap.size=h+3:=by rw[hW2,mkV_size,s1]
 have a0:W1.cell? ⟨h,0,none⟩=some (.int .u8 (k.kind:Int)):=by rw[x1.cell,hX];rfl
 have a1:W1.cell? ⟨h,1,none⟩=some (.bool k.last):=by rw[x1.cell,hX];rfl
 have a2:W1.cell? ⟨h,2,none⟩=some (.int .i64 (k.left:Int)):=by rw[x1.cell,hX];rfl
 have b0:W2.cell? ⟨h,0,none⟩=some (.int .u8 (k.kind:Int)):=by rw[x2.cell,hX];rfl
 have b3:W2.cell? ⟨h,3,none⟩=some (.slice A1 k.n c1):=by rw[x2.cell,hX];rfl
 have HXE:=Lib.hid hX;have HYE:=Lib.hid hY
 have HYB:Hid (Tryz.prog.built 28 [(0,.int .u8 (k.kind:Int)),(1,.bool k.last),(2,.int .i64 (k.left:Int))]=some Y):=Lib.hid (by rw[hY];exact built_blkT _ _ _)
 have HYS:Hid (Y.size=37):=Lib.hid (by rw[hY];exact blkT_size ..)
 have HZS:Hid (Z.size=37):=Lib.hid (by rw[hZ];exact blkT_size ..)
 have HYO:Hid (Y.all (·.oneCell')=true):=Lib.hid (by rw[hY];exact blkT_one _ _ _ _ _ _ _ rfl rfl)
 have hzb:∀u:World,(zeroValue 28).run Tryz.prog u=.ok (.agg Z) u:=by rw[hZ];exact(zero_of_info infoBlkT).1
 have HW1:=Lib.hid hW1;have HW2:=Lib.hid hW2;have HH:=Lib.hid hh;have HS1:=Lib.hid s1;have HS2:=Lib.hid s2;have HX2:=Lib.hid x2;have HY2:=Lib.hid y2;have HZ2:=Lib.hid z2;have HB2:=Lib.hid hB2;have HK:=Lib.hid hk
 have R1:=Lib.hid r1;have R2:=Lib.hid r2
 clear hX hY hZ hW1 hW2 hh s1 s2 x1 z1 x2 y2 z2 hB2 hb1 hb2 hk r1 r2
 by_cases k0:k.kind=0
 ·have q0:((k.kind:Int)==0)=true:=by rw[k0];rfl
  have q1:((k.kind:Int) !=0)=false:=by simp[bne,q0]
  have HOF:Hid (∀W':World,OfD h k (.agg Y) W'):=Lib.hid fun W'=>⟨(.slice none 0 0),(.slice none 0 0),by rw[HYE.out];unfold tcO;rw[if_pos k0,if_pos k0],by unfold syO;rw[if_pos k0];exact World.ownsRow_nil ..,by unfold syO;rw[if_pos k0];exact World.ownsRow_nil ..⟩
  clear k0
  go_enter Tryz.func28,Tryz.ntmps28
  go_wp2_with (first
  |(rw[←HW1.out,←HH.out])
  |(refine wpList_buildTo rfl 28 #[(0,.tmp 5),(1,.tmp 7),(2,.tmp 9)] rfl (some 10) rfl Y ?_ ?_;focus(simpa[Act.eval]using HYB.out))
  |(refine wpList_store_rowTo rfl _ _ _ rfl rfl W1.heap.size Y rfl rfl 28 Z (heap_alloc_new W1 _) (szBlkT _ HYS.out) (by rw[HZS.out,HYS.out]) HYO.out ?_;change wpList _ _ _ _ _ (mkV W1 Z Y 28);rw[←HW2.out,HS1.out])
   |(refine wpList_load_row rfl _ _ rfl (h+2) rfl _ Y (0,0) _ HY2.out Tryz.underlying28 rfl (szBlkT _ HYS.out) ?_)
   |(refine wpList_store_rowTo rfl _ _ _ rfl rfl (h+1) Y rfl rfl 28 Z HZ2.out (szBlkT _ HYS.out) (by rw[HZS.out,HYS.out]) HYO.out ?_)
   |fail)
  refine bodyPost_ret (v:=.agg Y) ?_ rfl ⟨_,rfl,by rw[←HH.out];exact HOF.out _,by rw[←HH.out];exact below_rowU13 HB2.out (by omega) _⟩
  exact results_cell_row rfl _ _ (h+1) _ _ (0,0) _ rfl (setRow_heap _ _ _ _ _ _ HZ2.out) Tryz.underlying28 rfl (szBlkT _ HYS.out)
 have kn:¬(k.kind:Int)=0:=by omega
 have q0:((k.kind:Int)==0)=false:=beq_eq_false_iff_ne.2 kn
 have q1:((k.kind:Int) !=0)=true:=by simp[bne,q0]
 have n1:k.n≤320:=(HK.out.F k0).top
 have n2:k.m≤320:=(HK.out.G k0).top
 have HC1:=Lib.hid (grown_any W2 A1 k.n c1 k.F ((R1.out.below (HH.out▸HB2.out) (Nat.le_refl _)).more (HH.out▸HB2.out.size)) (by omega))
 have HK0:=Lib.hid k0
 clear k0 kn
 go_enter Tryz.func28,Tryz.ntmps28
 go_wp2_with (first
  |(rw[←HW1.out,←HH.out])
  |(refine wpList_buildTo rfl 28 #[(0,.tmp 5),(1,.tmp 7),(2,.tmp 9)] rfl (some 10) rfl Y ?_ ?_;focus(simpa[Act.eval]using HYB.out))
  |(refine wpList_store_rowTo rfl _ _ _ rfl rfl W1.heap.size Y rfl rfl 28 Z (heap_alloc_new W1 _) (szBlkT _ HYS.out) (by rw[HZS.out,HYS.out]) HYO.out ?_;change wpList _ _ _ _ _ (mkV W1 Z Y 28);rw[←HW2.out,HS1.out])
  |fail)
 refine HC1.out.mono ?_
 rintro e w3 ⟨v1,rfl,o1,hb3⟩
 obtain⟨t1,ht1⟩:∃t:Nat→Int,t=fun m=>(tcN k.F m k.n:Int):=⟨_,rfl⟩
 rw[←ht1]
 obtain⟨G1,hG1⟩:∃G,G=trA t1 v1:=⟨_,rfl⟩
 rw[←hG1]
 have one1:=o1.one
 have y3:=HY2.out.below hb3 HY2.out.lt
 have x3:=HX2.out.below hb3 HX2.out.lt
 have z3:=HZ2.out.below hb3 HZ2.out.lt
 have hs3:h+3≤w3.heap.size:=by have:=hb3.size;rw[HS2.out]at this;exact this
 obtain⟨w4,hw4⟩:∃W,W=w3.setCells (h+2) 3 G1.toList:=⟨_,rfl⟩
 obtain⟨Y4,hY4⟩:∃V,V=blkT k.kind k.last k.left t1 (fun _=>0) v1 (.slice none 0 0):=⟨_,rfl⟩
 have y4:BoxC w4 (h+2) Y4 28:=by
  have a:=y3.setCells G1.toList 3
  rw[hG1,show(trA t1 v1).toList=trL t1 v1 from rfl,HYE.out,set_longs,←hY4]at a
  rw[hw4,hG1];exact a
 have x4:BoxC w4 h X 73:=by rw[hw4];exact(setCells_other (by omega) _ _ _).trans x3
 have z4:BoxC w4 (h+1) Z 28:=by rw[hw4];exact(setCells_other (by omega) _ _ _).trans z3
 have HO1:Hid (OwnS w4 (h+3) v1 (natsI (symL k.F k.n 15))):=Lib.hid (by
  rw[HS2.out]at o1
  rw[hw4];exact own_blk o1 fun j hj=>setCells_other (by have:=(own_blk_lt o1 j hj).1;omega) _ _ _)
 have HB4:Hid (Below h w w4):=Lib.hid (by rw[hw4];exact below_setCells (by omega) _ _ _ (HB2.out.trans (hb3.mono (by rw[HS2.out];omega))))
 have sz4:w3.heap.size≤w4.heap.size:=by rw[hw4];exact(below_setCells (B:=h) (by omega) _ _ _ (Below.refl h w3)).size
 have b4:w4.cell? ⟨h,4,none⟩=some (.slice A2 k.m c2):=by rw[x4.cell,HXE.out];rfl
 have b3':w3.cell? ⟨h,3,none⟩=some (.slice A1 k.n c1):=by rw[x3.cell,HXE.out];rfl
 have HTH:Hid (w3.there (h+2) 3 G1.size):=Lib.hid (there_box y3 3 _ (by rw[hG1,trA_size,HYS.out];omega))
 have HG1S:Hid ((Tryz.prog.info? 26).map (·.size)=some G1.size):=Lib.hid (by rw[hG1,trA_size];exact szTree)
 have HG1O:Hid (G1.all (·.oneCell')=true):=Lib.hid (by rw[hG1];exact trA_one _ _ one1)
 have HC2:=Lib.hid (grown_any w4 A2 k.m c2 k.G ((R2.out.below (HH.out▸HB4.out) (Nat.le_refl _)).more (HH.out▸HB4.out.size)) (by omega))
 have HW4:=Lib.hid hw4;have HY4:=Lib.hid y4;have HX4:=Lib.hid x4;have HZ4:=Lib.hid z4;have HYE4:=Lib.hid hY4;have HT1:=Lib.hid ht1;have HV1:=Lib.hid one1
 have HSZ4:Hid (h+3≤w4.heap.size):=Lib.hid (by omega)
 clear hw4 y4 x4 z4 hY4 ht1 hG1 o1 hb3 y3 x3 z3 hs3 sz4 one1
 go_wp2_with (first
  |(refine wpList_store_mid rfl _ _ _ rfl (h+2) 3 G1 rfl rfl HTH.out HG1S.out HG1O.out ?_;rw[←HW4.out])
  |fail)
 refine HC2.out.mono ?_
 rintro e w5 ⟨v2,rfl,o2,hb5⟩
 obtain⟨t2,ht2⟩:∃t:Nat→Int,t=fun m=>(tcN k.G m k.m:Int):=⟨_,rfl⟩
 rw[←ht2]
 obtain⟨G2,hG2⟩:∃G,G=trA t2 v2:=⟨_,rfl⟩
 rw[←hG2]
 have one2:=o2.one
 have y5:=HY4.out.below hb5 HY4.out.lt
 have z5':=HZ4.out.below hb5 HZ4.out.lt
 have p1:OwnS w5 (h+3) v1 (natsI (symL k.F k.n 15)):=own_keepG HO1.out hb5
 obtain⟨w6,hw6⟩:∃W,W=w5.setCells (h+2) 20 G2.toList:=⟨_,rfl⟩
 obtain⟨Y6,hY6⟩:∃V,V=blkT k.kind k.last k.left t1 t2 v1 v2:=⟨_,rfl⟩
 have HY6:Hid (BoxC w6 (h+2) Y6 28):=Lib.hid (by
  have a:=y5.setCells G2.toList 20
  rw[hG2,show(trA t2 v2).toList=trL t2 v2 from rfl,HYE4.out,set_fars,←hY6]at a
  rw[hw6,hG2];exact a)
 have HZ6:Hid (BoxC w6 (h+1) Z 28):=Lib.hid (by rw[hw6];exact(setCells_other (by omega) _ _ _).trans z5')
 have hsz:=HSZ4.out
 have HO6:Hid (OwnS w6 (h+3) v1 (natsI (symL k.F k.n 15))∧OwnS w6 (h+3) v2 (natsI (symL k.G k.m 15))):=Lib.hid (by
  rw[hw6]
  exact⟨own_blk p1 fun j hj=>setCells_other (by have:=(own_blk_lt p1 j hj).1;omega) _ _ _,ownsRow_lower (own_blk o2 fun j hj=>setCells_other (by have:=(own_blk_lt o2 j hj).1;omega) _ _ _) hsz⟩)
 have HB6:Hid (Below h w w6):=Lib.hid (by rw[hw6];exact below_setCells (by omega) _ _ _ (HB4.out.trans (hb5.mono (by omega))))
 have HTH2:Hid (w5.there (h+2) 20 G2.size):=Lib.hid (there_box y5 20 _ (by rw[hG2,trA_size,HYE4.out,blkT_size];omega))
 have HG2S:Hid ((Tryz.prog.info? 26).map (·.size)=some G2.size):=Lib.hid (by rw[hG2,trA_size];exact szTree)
 have HG2O:Hid (G2.all (·.oneCell')=true):=Lib.hid (by rw[hG2];exact trA_one _ _ one2)
 have HY6S:Hid (Y6.size=37):=Lib.hid (by rw[hY6];exact blkT_size ..)
 have HY6O:Hid (Y6.all (·.oneCell')=true):=Lib.hid (by rw[hY6];exact blkT_one _ _ _ _ _ _ _ HV1.out one2)
 have HW6:=Lib.hid hw6;have HYE6:=Lib.hid hY6;have HT2:=Lib.hid ht2
 clear hw6 hY6 ht2 hG2 o2 hb5 y5 z5' p1 one2 hsz
 go_wp2_with (first
  |(refine wpList_store_mid rfl _ _ _ rfl (h+2) 20 G2 rfl rfl HTH2.out HG2S.out HG2O.out ?_;rw[←HW6.out])
  |(refine wpList_load_row rfl _ _ rfl (h+2) rfl _ Y6 (0,0) _ HY6.out Tryz.underlying28 rfl (szBlkT _ HY6S.out) ?_)
  |(refine wpList_store_rowTo rfl _ _ _ rfl rfl (h+1) Y6 rfl rfl 28 Z HZ6.out (szBlkT _ HY6S.out) (by rw[HZS.out,HY6S.out]) HY6O.out ?_)
  |fail)
 refine bodyPost_ret (v:=.agg Y6) ?_ rfl ⟨_,rfl,?_,by rw[←HH.out];exact below_rowU13 HB6.out (by omega) _⟩
 ·exact results_cell_row rfl _ _ (h+1) _ _ (0,0) _ rfl (setRow_heap _ _ _ _ _ _ HZ6.out) Tryz.underlying28 rfl (szBlkT _ HY6S.out)
 ·rw[←HH.out]
  have hk0:=HK0.out
  refine⟨v1,v2,by rw[HYE6.out,HT1.out,HT2.out];unfold tcO;rw[if_neg hk0,if_neg hk0],?_,?_⟩
  ·unfold syO;rw[if_neg hk0]
   exact ownsRow_lower (own_blk HO6.out.1 fun j hj=>setRow_other _ _ _ _ (by have:=(own_blk_lt HO6.out.1 j hj).1;omega)) (by omega)
  ·unfold syO;rw[if_neg hk0]
   exact ownsRow_lower (own_blk HO6.out.2 fun j hj=>setRow_other _ _ _ _ (by have:=(own_blk_lt HO6.out.2 j hj).1;omega)) (by omega)
end Go.Proofs.YtgokdgcmkcmjeaaGreat
namespace Go.Proofs.YtgokdgcmkcmjeaaGreat
open Go.RowKit
theorem extB_is(far:Bool)(y:Nat):(if far then fbV (y:Int)else lbV (y:Int))=((extB far y:Nat):Int)∧extB far y≤13:=by
 unfold extB
 cases far
 ·have:=(lb_is (y:Int)).2;simp only[Bool.false_eq_true,if_false];omega
 ·have:=(fb_is (y:Int)).2;simp only[if_true];omega
theorem pnuml_any(w:World)(p:Nat)(A:Option Addr)(l c:Nat)(g:Nat→Nat)(s:Rz)(h:Rdr w p A l c s)(S:Nat→Prop)(hS:S p)(hg:RdF S w A l g)(hl:l≤1000000)(hs:s.1≤8*l)(y:Nat):
  Calls Tryz.prog 64 #[.pointer (some ⟨p,0,none⟩),.int .i64 (y:Int),.func (.func 65) #[] #[],.func (.func 66) #[] #[]] w fun e w'=>e=.returned (.int .i64 (nuV false y g l s))∧Rdr w' p A l c (nuS false y g l s)∧Fr (At p) w w':=by
 have HSP:Hid (∀j,At p j→S j):=Lib.hid fun j (e:j=p)=>e▸hS
 have HE:=Lib.hid fun V=>lbit9_any V (y:Int)
 have HO:=Lib.hid fun V x=>lof9_any V (y:Int) x
 have e1:=(extB_is false y).1
 have h13:=(extB_is false y).2
 simp only[Bool.false_eq_true,if_false]at e1
 rw[e1]at HE
 have d1:extE false y=lbE (y:Int):=rfl
 rw[←d1]at HE
 have d2:∀x:Nat,ofE false y x=loE (y:Int) (x:Int):=fun _=>rfl
 have d3:∀x:Nat,ofV false y x=loV (y:Int) (x:Int):=fun _=>rfl
 have n1:nuV false y g l s=ofV false y (tkV g l (extB false y) (nu1 false y s)):=rfl
 have n2:nuS false y g l s=keepS (tkS l (extB false y) (nu1 false y s)) (ofE false y (tkV g l (extB false y) (nu1 false y s))):=rfl
 have n3:nu1 false y s=keepS s (extE false y):=rfl
 obtain⟨s1,hs1⟩:∃x,x=nu1 false y s:=⟨_,rfl⟩
 rw[←hs1]at n1 n2 n3
 have hin:s1.1≤8*l:=by rw[n3,keepS_in];exact hs
 obtain⟨b,hb⟩:∃x,x=extB false y:=⟨_,rfl⟩
 obtain⟨E,hE⟩:∃x,x=extE false y:=⟨_,rfl⟩
 rw[←hb]at HE h13 n1 n2
 rw[←hE]at HE n3
 have hV:tkV g l b s1=tkV g l b s1:=rfl
 obtain⟨x,hx⟩:∃x,x=tkV g l b s1:=⟨_,rfl⟩
 rw[←hx]at n1 n2
 have HOx:=Lib.hid fun V=>HO.out V (x:Int)
 rw[←d2,←d3]at HOx
 obtain⟨v,hv⟩:∃v,v=ofV false y x:=⟨_,rfl⟩
 obtain⟨q,hq⟩:∃v,v=ofE false y x:=⟨_,rfl⟩
 rw[←hv,←hq]at HOx
 rw[←hv]at n1
 rw[←hq]at n2
 rw[n1,n2]
 have HR:=Lib.hid h;have HG:=Lib.hid hg;have HX:=Lib.hid hx;have HN3:=Lib.hid n3
 clear h hg hx n3 n1 n2 hv hq hE hb hs1 hV d1 d2 d3 e1 HO hS hs
 go_enter Tryz.func64,Tryz.ntmps64
 go_wp2_with fail
 refine(HE.out w).mono ?_
 rintro e w1 ⟨rfl,hb1⟩
 have HR1:=Lib.hid (BoxC.below HR.out hb1 HR.out.lt:Rdr w1 p A l c s);have HF1:=Lib.hid (Fr.of (S:=At p) hb1);have HG1:=Lib.hid (HG.out.fr (Fr.of hb1))
 have HKP:=Lib.hid (pkeep_any w1 p A l c s HR1.out E)
 rw[←HN3.out]at HKP
 clear hb1 HE HR HG
 go_wp2_with fail
 refine HKP.out.mono ?_
 rintro e w2 ⟨rfl,r2,f2⟩
 have HR2:=Lib.hid r2;have HF2:=Lib.hid (HF1.out.trans f2);have HG2:=Lib.hid (HG1.out.fr (f2.mono HSP.out))
 have HT:=Lib.hid (ptake_any w2 p A l c g s1 HR2.out HG2.out.1 hl hin b (by omega))
 rw[←HX.out]at HT
 clear r2 f2 HKP HR1 HF1 HG1
 go_wp2_with fail
 refine HT.out.mono ?_
 rintro e w3 ⟨rfl,r3,f3⟩
 have HR3:=Lib.hid r3;have HF3:=Lib.hid (HF2.out.trans f3)
 clear r3 f3 HT HR2 HF2 HG2
 go_wp2_with fail
 refine(HOx.out w3).mono ?_
 rintro e w4 ⟨rfl,hb4⟩
 have HR4:=Lib.hid (BoxC.below HR3.out hb4 HR3.out.lt:Rdr w4 p A l c (tkS l b s1));have HF4:=Lib.hid (HF3.out.on hb4)
 have HKQ:=Lib.hid (pkeep_any w4 p A l c _ HR4.out q)
 clear hb4 HOx HR3 HF3
 go_wp2_with fail
 refine HKQ.out.mono ?_
 rintro e w5 ⟨rfl,r5,f5⟩
 have HR5:=Lib.hid r5;have HF5:=Lib.hid (HF4.out.trans f5)
 clear r5 f5 HKQ
 go_wp2
 go_ret
 exact⟨rfl,HR5.out,HF5.out⟩
theorem pnumf_any(w:World)(p:Nat)(A:Option Addr)(l c:Nat)(g:Nat→Nat)(s:Rz)(h:Rdr w p A l c s)(S:Nat→Prop)(hS:S p)(hg:RdF S w A l g)(hl:l≤1000000)(hs:s.1≤8*l)(y:Nat):
  Calls Tryz.prog 64 #[.pointer (some ⟨p,0,none⟩),.int .i64 (y:Int),.func (.func 67) #[] #[],.func (.func 68) #[] #[]] w fun e w'=>e=.returned (.int .i64 (nuV true y g l s))∧Rdr w' p A l c (nuS true y g l s)∧Fr (At p) w w':=by
 have HSP:Hid (∀j,At p j→S j):=Lib.hid fun j (e:j=p)=>e▸hS
 have HE:=Lib.hid fun V=>fbit9_any V (y:Int)
 have HO:=Lib.hid fun V x=>fof9_any V (y:Int) x
 have e1:=(extB_is true y).1
 have h13:=(extB_is true y).2
 simp only[if_true]at e1
 rw[e1]at HE
 have d1:extE true y=fbE (y:Int):=rfl
 rw[←d1]at HE
 have d2:∀x:Nat,ofE true y x=foE (y:Int) (x:Int):=fun _=>rfl
 have d3:∀x:Nat,ofV true y x=foV (y:Int) (x:Int):=fun _=>rfl
 have n1:nuV true y g l s=ofV true y (tkV g l (extB true y) (nu1 true y s)):=rfl
 have n2:nuS true y g l s=keepS (tkS l (extB true y) (nu1 true y s)) (ofE true y (tkV g l (extB true y) (nu1 true y s))):=rfl
 have n3:nu1 true y s=keepS s (extE true y):=rfl
 obtain⟨s1,hs1⟩:∃x,x=nu1 true y s:=⟨_,rfl⟩
 rw[←hs1]at n1 n2 n3
 have hin:s1.1≤8*l:=by rw[n3,keepS_in];exact hs
 obtain⟨b,hb⟩:∃x,x=extB true y:=⟨_,rfl⟩
 obtain⟨E,hE⟩:∃x,x=extE true y:=⟨_,rfl⟩
 rw[←hb]at HE h13 n1 n2
 rw[←hE]at HE n3
 have hV:tkV g l b s1=tkV g l b s1:=rfl
 obtain⟨x,hx⟩:∃x,x=tkV g l b s1:=⟨_,rfl⟩
 rw[←hx]at n1 n2
 have HOx:=Lib.hid fun V=>HO.out V (x:Int)
 rw[←d2,←d3]at HOx
 obtain⟨v,hv⟩:∃v,v=ofV true y x:=⟨_,rfl⟩
 obtain⟨q,hq⟩:∃v,v=ofE true y x:=⟨_,rfl⟩
 rw[←hv,←hq]at HOx
 rw[←hv]at n1
 rw[←hq]at n2
 rw[n1,n2]
 have HR:=Lib.hid h;have HG:=Lib.hid hg;have HX:=Lib.hid hx;have HN3:=Lib.hid n3
 clear h hg hx n3 n1 n2 hv hq hE hb hs1 hV d1 d2 d3 e1 HO hS hs
 go_enter Tryz.func64,Tryz.ntmps64
 go_wp2_with fail
 refine(HE.out w).mono ?_
 rintro e w1 ⟨rfl,hb1⟩
 have HR1:=Lib.hid (BoxC.below HR.out hb1 HR.out.lt:Rdr w1 p A l c s);have HF1:=Lib.hid (Fr.of (S:=At p) hb1);have HG1:=Lib.hid (HG.out.fr (Fr.of hb1))
 have HKP:=Lib.hid (pkeep_any w1 p A l c s HR1.out E)
 rw[←HN3.out]at HKP
 clear hb1 HE HR HG
 go_wp2_with fail
 refine HKP.out.mono ?_
 rintro e w2 ⟨rfl,r2,f2⟩
 have HR2:=Lib.hid r2;have HF2:=Lib.hid (HF1.out.trans f2);have HG2:=Lib.hid (HG1.out.fr (f2.mono HSP.out))
 have HT:=Lib.hid (ptake_any w2 p A l c g s1 HR2.out HG2.out.1 hl hin b (by omega))
 rw[←HX.out]at HT
 clear r2 f2 HKP HR1 HF1 HG1
 go_wp2_with fail
 refine HT.out.mono ?_
 rintro e w3 ⟨rfl,r3,f3⟩
 have HR3:=Lib.hid r3;have HF3:=Lib.hid (HF2.out.trans f3)
 clear r3 f3 HT HR2 HF2 HG2
 go_wp2_with fail
 refine(HOx.out w3).mono ?_
 rintro e w4 ⟨rfl,hb4⟩
 have HR4:=Lib.hid (BoxC.below HR3.out hb4 HR3.out.lt:Rdr w4 p A l c (tkS l b s1));have HF4:=Lib.hid (HF3.out.on hb4)
 have HKQ:=Lib.hid (pkeep_any w4 p A l c _ HR4.out q)
 clear hb4 HOx HR3 HF3
 go_wp2_with fail
 refine HKQ.out.mono ?_
 rintro e w5 ⟨rfl,r5,f5⟩
 have HR5:=Lib.hid r5;have HF5:=Lib.hid (HF4.out.trans f5)
 clear r5 f5 HKQ
 go_wp2
 go_ret
 exact⟨rfl,HR5.out,HF5.out⟩
end Go.Proofs.YtgokdgcmkcmjeaaGreat
namespace Go.Proofs.YtgokdgcmkcmjeaaGreat
open Go.RowKit
theorem cell_tok2{fn:Func}{p u:Tmp}(h:fn.results=#[.cell p 36,.tmp u])(tmps:Array Value)(w:World)(g:Nat)(cs:Array Value)(hs:cs.size=3)(hp:tmps.getD p undef=.pointer (some ⟨g,0,none⟩))(ht:w.heap[g]?=some (.cells cs 36 (0,0))):
  (results fn tmps).run Tryz.prog w=.ok (.tuple #[.agg cs,tmps.getD u undef]) w:=by
 have hp':tmps[p]?.getD undef=.pointer (some ⟨g,0,none⟩):=by simpa using hp
 have hl:=run_loadVar_row (P:=Tryz.prog) w g 36 36 cs (0,0) _ ht Tryz.underlying36 rfl (by rw[hs];exact szTok)
 simp[results,h,hp',asAddr,hl]
def tkA3(t:Tok):Array Value:=#[.int .u8 (t.x:Int),.int .i64 t.d,.int .i64 t.n]
def stpV(r:Tok×Bool×Rz):Value:=.tuple #[.agg (tkA3 r.1),.bool r.2.1]
theorem tkA3_one(t:Tok):(tkA3 t).all (·.oneCell')=true:=oneTok _ _ _
theorem stp_sto0{k:Blk13}{g:Nat→Nat}{L:Nat}{s:Rz}(h:k.kind=0)(h2:k.left=0):stT k g L s=(tokZ,true,s):=by unfold stT;rw[if_pos h,if_pos h2]
theorem stp_sto1{k:Blk13}{g:Nat→Nat}{L:Nat}{s:Rz}(h:k.kind=0)(h2:¬k.left=0):stT k g L s=(⟨tkV g L 8 s,0,0⟩,false,tkS L 8 s):=by unfold stT;rw[if_pos h,if_neg h2]
theorem stp_lit{k:Blk13}{g:Nat→Nat}{L y:Nat}{s s1:Rz}(h:¬k.kind=0)(hy:syV (readR k.F k.n g L s.1 17 0) s=y)(h1:syS (readR k.F k.n g L s.1 17 0) s=s1)(h2:y<256):stT k g L s=(⟨y,0,0⟩,false,s1):=by unfold stT;rw[if_neg h];simp only[hy,h1];rw[if_pos h2]
theorem stp_end{k:Blk13}{g:Nat→Nat}{L y:Nat}{s s1:Rz}(h:¬k.kind=0)(hy:syV (readR k.F k.n g L s.1 17 0) s=y)(h1:syS (readR k.F k.n g L s.1 17 0) s=s1)(h2:y=256):stT k g L s=(tokZ,true,s1):=by unfold stT;rw[if_neg h];simp only[hy,h1];rw[if_neg (by omega),if_pos h2]
theorem stp_cop{k:Blk13}{g:Nat→Nat}{L y z:Nat}{s s1 s2 s3:Rz}(h:¬k.kind=0)(hy:syV (readR k.F k.n g L s.1 17 0) s=y)(h1:syS (readR k.F k.n g L s.1 17 0) s=s1)(h2:¬y<256)(h3:¬y=256)(h4:nuS false y g L s1=s2)(hz:syV (readR k.G k.m g L s2.1 17 0) s2=z)(h5:syS (readR k.G k.m g L s2.1 17 0) s2=s3):
  stT k g L s=(⟨0,nuV true z g L s3,nuV false y g L s1⟩,false,nuS true z g L s3):=by unfold stT;rw[if_neg h];simp only[hy,h1,h4,hz,h5];rw[if_neg h2,if_neg h3]
theorem pstored_any(w:World)(p:Nat)(A:Option Addr)(l c:Nat)(g:Nat→Nat)(s:Rz)(h:Rdr w p A l c s)(hg:RdB w w.heap.size A l g)(hl:l≤1000000)(hs:s.1≤8*l)(k:Blk13)(h0:k.kind=0):
  Calls Tryz.prog 62 #[.pointer (some ⟨p,0,none⟩),.int .i64 (k.left:Int)] w fun e w'=>e=.returned (stpV (stT k g l s))∧Rdr w' p A l c (stT k g l s).2.2∧Fr (At p) w w':=by
 obtain⟨b,hb⟩:∃b,b=w.heap.size:=⟨_,rfl⟩
 have hp:=h.lt
 obtain⟨W1,hW1⟩:∃W1,W1=w.alloc (.cells #[.int .u8 0,.int .i64 0,.int .i64 0] 36):=⟨_,rfl⟩
 have hb1:Below b w W1:=by rw[hW1,hb];exact(Below.refl _ _).alloc (Nat.le_refl _) _
 have t1:BoxC W1 b #[.int .u8 0,.int .i64 0,.int .i64 0] 36:=by rw[hW1,hb];exact BoxC.new w _ _
 have r1:Rdr W1 p A l c s:=BoxC.below h hb1 (by omega)
 have HF1:=Lib.hid (Fr.of (S:=At p) (hb▸hb1))
 have hT:=ptake_lit W1 p A l c g s r1 ((hg.below (hb▸hb1) (Nat.le_refl _)).more hb1.size) hl hs 8 8 rfl (by omega)
 have hlt:=tkV_lt g l 8 s
 have HNA:Hid (¬At p b):=Lib.hid (by show¬b=p;omega)
 by_cases y0:k.left=0
 ·rw[stp_sto0 h0 y0,y0]
  have HR1:=Lib.hid r1;have HT1:=Lib.hid t1;have HW1:=Lib.hid hW1;have HB:=Lib.hid hb
  clear h hg hT hlt t1 hW1 hb hb1 hp r1 y0 h0 hs
  go_enter Tryz.func62,Tryz.ntmps62
  go_wp2_with (first
   |(rw[←HW1.out,←HB.out])
   |(refine wpList_buildTo rfl 36 #[] rfl (some 8) rfl #[.int .u8 0,.int .i64 0,.int .i64 0] ?_ ?_;focus(simpa[Act.eval]using built_tok0))
   |(refine wpList_store_rowTo rfl _ _ _ rfl rfl b #[.int .u8 0,.int .i64 0,.int .i64 0] rfl rfl 36 #[.int .u8 0,.int .i64 0,.int .i64 0] HT1.out szTok rfl (oneTok _ _ _) ?_)
   |fail)
  refine bodyPost_ret ((cell_tok2 rfl _ _ b _ rfl rfl (setRow_heap _ _ _ _ _ _ HT1.out)).trans rfl) rfl ⟨rfl,?_,?_⟩
  ·exact BoxC.rowO HR1.out (fun e=>HNA.out e.symm) _
  ·exact HF1.out.from (Fr.row _ b _) fun j hj=>.inr (by rw[←HB.out];exact Nat.le_of_eq hj.symm)
 ·rw[stp_sto1 h0 y0]
  obtain⟨x,hx⟩:∃x,x=tkV g l 8 s:=⟨_,rfl⟩
  rw[←hx]at hT hlt⊢
  have hx8:x<256:=hlt
  obtain⟨q,hq⟩:∃q,q=k.left:=⟨_,rfl⟩
  rw[←hq]at y0⊢
  have d0:((q:Int)==0)=false:=beq_eq_false_iff_ne.2 (by omega)
  have HT1:=Lib.hid t1;have HW1:=Lib.hid hW1;have HB:=Lib.hid hb;have HTK:=Lib.hid hT
  clear h hg hT hlt t1 hW1 hb hb1 hp r1 y0 h0 hs hx hq
  go_enter Tryz.func62,Tryz.ntmps62
  go_wp2_with (first|(rw[←HW1.out,←HB.out])|fail)
  refine HTK.out.mono ?_
  rintro e w2 ⟨rfl,r2,f2⟩
  have HR2:=Lib.hid r2;have HF2:=Lib.hid (HF1.out.trans f2);have HT2:=Lib.hid (HT1.out.fr f2 HNA.out)
  clear r2 f2 HTK
  go_wp2_with (first
   |(refine wpList_buildTo rfl 36 #[(0,.tmp 11)] rfl (some 12) rfl #[.int .u8 (x:Int),.int .i64 0,.int .i64 0] ?_ ?_;focus(simpa[Act.eval]using built_tok1p x))
   |(refine wpList_store_rowTo rfl _ _ _ rfl rfl b #[.int .u8 (x:Int),.int .i64 0,.int .i64 0] rfl rfl 36 #[.int .u8 0,.int .i64 0,.int .i64 0] HT2.out szTok rfl (oneTok _ _ _) ?_)
   |fail)
  refine bodyPost_ret ((cell_tok2 rfl _ _ b _ rfl rfl (setRow_heap _ _ _ _ _ _ HT2.out)).trans rfl) rfl ⟨rfl,?_,?_⟩
  ·exact BoxC.rowO HR2.out (fun e=>HNA.out e.symm) _
  ·exact HF2.out.from (Fr.row _ b _) fun j hj=>.inr (by rw[←HB.out];exact Nat.le_of_eq hj.symm)
theorem blk_range{w:World}{b:Nat}{kd:Nat}{last:Bool}{left:Nat}{c1 c2:Nat→Int}{v1 v2:Value}(h:BoxC w b (blkT kd last left c1 c2 v1 v2) 28):w.rangeAt b 3 (trL c1 v1)∧w.rangeAt b 20 (trL c2 v2):=by
 have hl:∀(c:Nat→Int) (v:Value),(trL c v).length=17:=fun c v=>by simp[trL,cntV]
 constructor
 ·intro j u hu
  have hj:j<17:=by rw[←hl c1 v1];exact(List.getElem?_eq_some_iff.1 hu).1
  rw[cell_of_row w b _ _ _ (0,0) h]
  show(blkT kd last left c1 c2 v1 v2)[3+j]?=some u
  unfold blkT
  rw[List.getElem?_toArray,Nat.add_comm 3 j]
  show((trL c1 v1++trL c2 v2):List Value)[j]?=some u
  rw[List.getElem?_append_left (by rw[hl];exact hj)];exact hu
 ·intro j u hu
  have hj:j<17:=by rw[←hl c2 v2];exact(List.getElem?_eq_some_iff.1 hu).1
  rw[cell_of_row w b _ _ _ (0,0) h]
  show(blkT kd last left c1 c2 v1 v2)[20+j]?=some u
  unfold blkT
  rw[List.getElem?_toArray,show 20+j=(j+17)+3 by omega]
  show((trL c1 v1++trL c2 v2):List Value)[j+17]?=some u
  rw[List.getElem?_append_right (by rw[hl];omega),hl,Nat.add_sub_cancel];exact hu
def BlkF(S:Nat→Prop)(w:World)(k:Blk13)(c1 c2:Nat→Int)(v1 v2:Value):Prop:=k.kind≠0→TrF S w (extF k.n k.F) c1 v1∧TrF S w (extF k.m k.G) c2 v2
theorem pstep_any(w:World)(p:Nat)(A:Option Addr)(l c:Nat)(g:Nat→Nat)(s:Rz)(h:Rdr w p A l c s)(S:Nat→Prop)(hS:S p)(_hSw:∀j,S j→j<w.heap.size)(hg:RdF S w A l g)(hl:l≤1000000)(hs:s.1≤8*l)(k:Blk13)(_hkd:k.kind<256)(_hkl:k.left≤65535)(hn:k.n≤320)(hm:k.m≤320)
  (c1 c2:Nat→Int) (v1 v2:Value) (h1:v1.oneCell'=true) (h2:v2.oneCell'=true) (ht:s.2=0→BlkF S w k c1 c2 v1 v2):
  Calls Tryz.prog 29 #[.pointer (some ⟨p,0,none⟩),.agg (blkT k.kind k.last k.left c1 c2 v1 v2)] w fun e w'=>e=.returned (stpV (stT k g l s))∧Rdr w' p A l c (stT k g l s).2.2∧Fr (At p) w w':=by
 obtain⟨b,hb⟩:∃b,b=w.heap.size:=⟨_,rfl⟩
 have hp:=h.lt
 obtain⟨X,hX⟩:∃X,X=blkT k.kind k.last k.left c1 c2 v1 v2:=⟨_,rfl⟩
 rw[←hX]
 obtain⟨W1,hW1⟩:∃W1,W1=(w.alloc (.cells X 28)).alloc (.cells #[.int .u8 0,.int .i64 0,.int .i64 0] 36):=⟨_,rfl⟩
 have hb1:Below b w W1:=by rw[hW1,hb];exact((Below.refl _ _).alloc (Nat.le_refl _) _).alloc (by simp) _
 have x1:BoxC W1 b X 28:=by rw[hW1,hb];exact(BoxC.new w _ _).old _
 have t1:BoxC W1 (b+1) #[.int .u8 0,.int .i64 0,.int .i64 0] 36:=by rw[hW1,hb];have:=BoxC.new (w.alloc (.cells X 28)) #[.int .u8 0,.int .i64 0,.int .i64 0] 36;rwa[World.size_alloc]at this
 have r1:Rdr W1 p A l c s:=BoxC.below h hb1 (by omega)
 have fW:∀T:Nat→Prop,Fr T w W1:=fun T=>Fr.of (hb▸hb1)
 have g1:=hg.fr (fW S)
 have HF1:=Lib.hid (fW (At p))
 have HNA:Hid (¬At p b∧¬At p (b+1)):=Lib.hid ⟨by show¬b=p;omega,by show¬b+1=p;omega⟩
 have HSP:Hid (∀j,At p j→S j):=Lib.hid fun j (e:j=p)=>e▸hS
 have q0:X[0]?=some (.int .u8 (k.kind:Int)):=by rw[hX];rfl
 have q2:X[2]?=some (.int .i64 (k.left:Int)):=by rw[hX];rfl
 have a0:W1.cell? ⟨b,0,none⟩=some (.int .u8 (k.kind:Int)):=x1.cell.trans q0
 have a2:W1.cell? ⟨b,2,none⟩=some (.int .i64 (k.left:Int)):=x1.cell.trans q2
 by_cases k0:k.kind=0
 ·have hst:=pstored_any W1 p A l c g s r1 g1.1 hl hs k k0
  obtain⟨⟨tk,en,s'⟩,hr⟩:∃r,r=stT k g l s:=⟨_,rfl⟩
  rw[←hr]at hst⊢
  have d0:((k.kind:Int)==0)=true:=by rw[k0];rfl
  obtain⟨q,hq⟩:∃q,q=k.left:=⟨_,rfl⟩
  obtain⟨kd,hkd2⟩:∃q,q=k.kind:=⟨_,rfl⟩
  rw[←hq]at hst a2
  rw[←hkd2]at a0 d0
  have HST:=Lib.hid hst;have HT1:=Lib.hid t1;have HW1:=Lib.hid hW1;have HB:=Lib.hid hb
  clear h hg hst t1 hW1 hb hb1 hp r1 k0 hs hq hkd2 x1 fW g1 q0 q2 hX ht _hSw hS _hkd _hkl hr
  go_enter Tryz.func29,Tryz.ntmps29
  go_wp2_with (first|(rw[←HW1.out,←HB.out])|fail)
  refine HST.out.mono ?_
  rintro e w2 ⟨rfl,r2,f2⟩
  have HR2:=Lib.hid r2;have HF2:=Lib.hid (HF1.out.trans f2);have HT2:=Lib.hid (HT1.out.fr f2 HNA.out.2)
  obtain⟨Y,hY⟩:∃Y,Y=tkA3 tk:=⟨_,rfl⟩
  have HYS:Hid (Y.size=3):=Lib.hid (by rw[hY];rfl)
  have HYO:Hid (Y.all (·.oneCell')=true):=Lib.hid (by rw[hY];exact tkA3_one _)
  have HYE:=Lib.hid hY
  unfold stpV
  rw[←hY]
  clear r2 f2 HST hY
  go_wp2_with (first
   |(refine wpList_store_rowTo rfl _ _ _ rfl rfl (b+1) Y rfl rfl 36 #[.int .u8 0,.int .i64 0,.int .i64 0] HT2.out (by rw[HYS.out];exact szTok) (by rw[HYS.out];rfl) HYO.out ?_)
   |fail)
  refine bodyPost_ret ((cell_tok2 rfl _ _ (b+1) Y HYS.out rfl (setRow_heap _ _ _ _ _ _ HT2.out)).trans rfl) rfl ⟨by rw[HYE.out];rfl,?_,?_⟩
  ·exact BoxC.rowO HR2.out (fun e=>HNA.out.2 e.symm) _
  ·exact HF2.out.from (Fr.row _ (b+1) _) fun j hj=>.inr (by rw[←HB.out];have:j=b+1:=hj;omega)
 have d0:((k.kind:Int)==0)=false:=beq_eq_false_iff_ne.2 (by omega)
 have hC:=psym_any W1 p A l c g s r1 g1.1 hl hs S (extF k.n k.F) c1 v1 h1 (fun e=>((ht e) k0).1.fr (fW S))
 rw[ext_read hn]at hC
 have hT2:s.2=0→TrF S W1 (extF k.m k.G) c2 v2:=fun e=>((ht e) k0).2.fr (fW S)
 have HRA:Hid (W1.rangeAt b 3 (trL c1 v1)):=Lib.hid (blk_range (hX▸x1)).1
 have HRB:Hid (∀W,Fr (At p) W1 W→W.rangeAt b 20 (trL c2 v2)):=Lib.hid fun W f=>(blk_range (hX▸x1.fr f HNA.out.1)).2
 have hin:(syS (readR k.F k.n g l s.1 17 0) s).1≤8*l:=syS_in hs
 obtain⟨y,hy⟩:∃y,y=syV (readR k.F k.n g l s.1 17 0) s:=⟨_,rfl⟩
 obtain⟨s1,hs1⟩:∃y,y=syS (readR k.F k.n g l s.1 17 0) s:=⟨_,rfl⟩
 rw[←hy,←hs1]at hC
 rw[←hs1]at hin
 have HT1:=Lib.hid t1;have HW1:=Lib.hid hW1;have HB:=Lib.hid hb;have HC:=Lib.hid hC;have HG1:=Lib.hid g1
 by_cases y1:y<256
 ·rw[stp_lit k0 hy.symm hs1.symm y1]
  have e1:decide ((y:Int)<256)=true:=decY (by omega)
  obtain⟨kd,hkd2⟩:∃q,q=k.kind:=⟨_,rfl⟩
  rw[←hkd2]at a0 d0
  clear h hg hC t1 hW1 hb hb1 hp r1 k0 hs x1 fW g1 q0 q2 hX ht _hSw hS _hkd _hkl a2 hy hs1 hT2 hkd2
  go_enter Tryz.func29,Tryz.ntmps29
  go_wp2_with (first
   |(rw[←HW1.out,←HB.out])
   |(refine wpList_load_mid rfl _ _ rfl b 3 rfl (trL c1 v1) _ HRA.out Tryz.underlying26 rfl (szTreeL13 _ _) ?_)
   |fail)
  refine HC.out.mono ?_
  rintro e w2 ⟨rfl,r2,f2⟩
  have HR2:=Lib.hid r2;have HF2:=Lib.hid (HF1.out.trans f2);have HT2:=Lib.hid (HT1.out.fr f2 HNA.out.2)
  clear r2 f2 HC
  go_wp2_with (first
   |(refine wpList_buildTo rfl 36 #[(0,.tmp 25)] rfl (some 26) rfl #[.int .u8 (y:Int),.int .i64 0,.int .i64 0] ?_ ?_;focus(simpa[Act.eval]using built_tok1p y))
   |(refine wpList_store_rowTo rfl _ _ _ rfl rfl (b+1) #[.int .u8 (y:Int),.int .i64 0,.int .i64 0] rfl rfl 36 #[.int .u8 0,.int .i64 0,.int .i64 0] HT2.out szTok rfl (oneTok _ _ _) ?_)
   |fail)
  refine bodyPost_ret ((cell_tok2 rfl _ _ (b+1) _ rfl rfl (setRow_heap _ _ _ _ _ _ HT2.out)).trans rfl) rfl ⟨rfl,?_,?_⟩
  ·exact BoxC.rowO HR2.out (fun e=>HNA.out.2 e.symm) _
  ·exact HF2.out.from (Fr.row _ (b+1) _) fun j hj=>.inr (by rw[←HB.out];have:j=b+1:=hj;omega)
 have e1:decide ((y:Int)<256)=false:=decN (by omega)
 by_cases y2:y=256
 ·rw[stp_end k0 hy.symm hs1.symm y2]
  have e2:((y:Int)==256)=true:=by rw[y2];rfl
  obtain⟨kd,hkd2⟩:∃q,q=k.kind:=⟨_,rfl⟩
  rw[←hkd2]at a0 d0
  clear h hg hC t1 hW1 hb hb1 hp r1 k0 hs x1 fW g1 q0 q2 hX ht _hSw hS _hkd _hkl a2 hy hs1 hT2 hkd2 y1 y2
  go_enter Tryz.func29,Tryz.ntmps29
  go_wp2_with (first
   |(rw[←HW1.out,←HB.out])
   |(refine wpList_load_mid rfl _ _ rfl b 3 rfl (trL c1 v1) _ HRA.out Tryz.underlying26 rfl (szTreeL13 _ _) ?_)
   |fail)
  refine HC.out.mono ?_
  rintro e w2 ⟨rfl,r2,f2⟩
  have HR2:=Lib.hid r2;have HF2:=Lib.hid (HF1.out.trans f2);have HT2:=Lib.hid (HT1.out.fr f2 HNA.out.2)
  clear r2 f2 HC
  go_wp2_with (first
   |(refine wpList_buildTo rfl 36 #[] rfl (some 29) rfl #[.int .u8 0,.int .i64 0,.int .i64 0] ?_ ?_;focus(simpa[Act.eval]using built_tok0))
   |(refine wpList_store_rowTo rfl _ _ _ rfl rfl (b+1) #[.int .u8 0,.int .i64 0,.int .i64 0] rfl rfl 36 #[.int .u8 0,.int .i64 0,.int .i64 0] HT2.out szTok rfl (oneTok _ _ _) ?_)
   |fail)
  refine bodyPost_ret ((cell_tok2 rfl _ _ (b+1) _ rfl rfl (setRow_heap _ _ _ _ _ _ HT2.out)).trans rfl) rfl ⟨rfl,?_,?_⟩
  ·exact BoxC.rowO HR2.out (fun e=>HNA.out.2 e.symm) _
  ·exact HF2.out.from (Fr.row _ (b+1) _) fun j hj=>.inr (by rw[←HB.out];have:j=b+1:=hj;omega)
 have e2:((y:Int)==256)=false:=beq_eq_false_iff_ne.2 (by omega)
 obtain⟨s2,hs2⟩:∃q,q=nuS false y g l s1:=⟨_,rfl⟩
 obtain⟨z,hz⟩:∃q,q=syV (readR k.G k.m g l s2.1 17 0) s2:=⟨_,rfl⟩
 obtain⟨s3,hs3⟩:∃q,q=syS (readR k.G k.m g l s2.1 17 0) s2:=⟨_,rfl⟩
 rw[stp_cop k0 hy.symm hs1.symm y1 y2 hs2.symm hz.symm hs3.symm]
 have hin2:s2.1≤8*l:=by rw[hs2];exact nuS_in hin
 have hin3:s3.1≤8*l:=by rw[hs3];exact syS_in hin2
 have he2:s2.2=0→s.2=0:=fun e=>by
  rcases Int.decEq s.2 0 with n|n
  ·exfalso
   have:s2.2=s.2:=by rw[hs2,hs1,syS_err n,nuS_err n]
   exact n (this▸e)
  ·exact n
 have HT2F:Hid (s2.2=0→TrF S W1 (extF k.m k.G) c2 v2):=Lib.hid fun e=>hT2 (he2 e)
 have HN1:=Lib.hid fun(W:World) (r:Rdr W p A l c s1) (q:RdF S W A l g)=>pnuml_any W p A l c g s1 r S hS q hl hin y
 have HN2:=Lib.hid fun(W:World) (r:Rdr W p A l c s3) (q:RdF S W A l g)=>pnumf_any W p A l c g s3 r S hS q hl hin3 z
 have HC2:=Lib.hid fun(W:World) (r:Rdr W p A l c s2) (q:RdF S W A l g) (t:s2.2=0→TrF S W (extF k.m k.G) c2 v2)=>psym_any W p A l c g s2 r q.1 hl hin2 S (extF k.m k.G) c2 v2 h2 t
 rw[ext_read hm,←hz,←hs3]at HC2
 rw[←hs2]at HN1
 obtain⟨lo,hlo⟩:∃q,q=nuV false y g l s1:=⟨_,rfl⟩
 obtain⟨di,hdi⟩:∃q,q=nuV true z g l s3:=⟨_,rfl⟩
 obtain⟨s4,hs4⟩:∃q,q=nuS true z g l s3:=⟨_,rfl⟩
 rw[←hlo]at HN1⊢
 rw[←hdi,←hs4]at HN2⊢
 obtain⟨kd,hkd2⟩:∃q,q=k.kind:=⟨_,rfl⟩
 rw[←hkd2]at a0 d0
 clear h hg hC t1 hW1 hb hb1 hp r1 k0 hs x1 fW g1 q0 q2 hX ht _hSw hS _hkd _hkl a2 hy hs1 hT2 hkd2 y1 y2 hlo hdi hs4 hs3 hz hs2 hin hin2 hin3 he2
 go_enter Tryz.func29,Tryz.ntmps29
 go_wp2_with (first
  |(rw[←HW1.out,←HB.out])
  |(refine wpList_load_mid rfl _ _ rfl b 3 rfl (trL c1 v1) _ HRA.out Tryz.underlying26 rfl (szTreeL13 _ _) ?_)
  |fail)
 refine HC.out.mono ?_
 rintro e w2 ⟨rfl,r2,f2⟩
 have HR2:=Lib.hid r2;have HF2:=Lib.hid f2;have HG2:=Lib.hid (HG1.out.fr (f2.mono HSP.out))
 have HNA2:=Lib.hid (HN1.out w2 r2 HG2.out)
 clear r2 f2 HC HN1
 go_wp2_with fail
 refine HNA2.out.mono ?_
 rintro e w3 ⟨rfl,r3,f3⟩
 have HF3:=Lib.hid (HF2.out.trans f3);have HG3:=Lib.hid (HG2.out.fr (f3.mono HSP.out))
 have HC3:=Lib.hid (HC2.out w3 r3 HG3.out (fun e=>(HT2F.out e).fr (HF3.out.mono HSP.out)))
 have HRB3:=Lib.hid (HRB.out w3 HF3.out)
 clear r3 f3 HNA2 HC2 HR2 HF2 HG2 HRB HT2F HRA
 go_wp2_with (first
  |(refine wpList_load_mid rfl _ _ rfl b 20 rfl (trL c2 v2) _ HRB3.out Tryz.underlying26 rfl (szTreeL13 _ _) ?_)
  |fail)
 refine HC3.out.mono ?_
 rintro e w4 ⟨rfl,r4,f4⟩
 have HF4:=Lib.hid (HF3.out.trans f4);have HG4:=Lib.hid (HG3.out.fr (f4.mono HSP.out))
 have HN4:=Lib.hid (HN2.out w4 r4 HG4.out)
 clear r4 f4 HC3 HN2 HF3 HG3 HRB3
 go_wp2_with fail
 refine HN4.out.mono ?_
 rintro e w5 ⟨rfl,r5,f5⟩
 have HR5:=Lib.hid r5;have HF5:=Lib.hid (HF4.out.trans f5);have HT5:=Lib.hid (HT1.out.fr (HF4.out.trans f5) HNA.out.2)
 clear r5 f5 HN4 HF4 HG4
 go_wp2_with (first
  |(refine wpList_buildTo rfl 36 #[(1,.tmp 39),(2,.tmp 40)] rfl (some 41) rfl #[.int .u8 0,.int .i64 di,.int .i64 lo] ?_ ?_;focus(simpa[Act.eval]using built_tok2 di lo))
  |(refine wpList_store_rowTo rfl _ _ _ rfl rfl (b+1) #[.int .u8 0,.int .i64 di,.int .i64 lo] rfl rfl 36 #[.int .u8 0,.int .i64 0,.int .i64 0] HT5.out szTok rfl (oneTok 0 _ _) ?_)
  |fail)
 refine bodyPost_ret ((cell_tok2 rfl _ _ (b+1) _ rfl rfl (setRow_heap _ _ _ _ _ _ HT5.out)).trans rfl) rfl ⟨rfl,?_,?_⟩
 ·exact BoxC.rowO HR5.out (fun e=>HNA.out.2 e.symm) _
 ·exact(HF1.out.trans HF5.out).from (Fr.row _ (b+1) _) fun j hj=>.inr (by rw[←HB.out];have:j=b+1:=hj;omega)
end Go.Proofs.YtgokdgcmkcmjeaaGreat
namespace Go.Proofs.YtgokdgcmkcmjeaaGreat
open Go.RowKit
theorem growu_any(w:World)(n:Nat)(hn:n≤1000000000000):
  Calls Tryz.prog 117 #[.slice none 0 0,.int .i64 (n:Int)] w fun e w'=>∃A c,e=.returned (.slice A 0 c)∧w'.ownsRow w.heap.size 5 1 (.slice A 0 c) 0 []∧Below w.heap.size w w':=by
 rcases Nat.eq_zero_or_pos n with h0|h0
 ·subst h0
  go_enter Tryz.func117,Tryz.ntmps117
  go_wp2
  go_ret
  exact⟨none,0,rfl,World.ownsRow_nil _ _ _ _,Below.refl _ _⟩
 ·obtain⟨i0,hi,hz0,hz1,hz2⟩:=info_parts infoU8
  have hrun:=Lib.run_append_nil_zeros (P:=Tryz.prog) w 22 3 22 5 i0 (.int .u8 0) .i64 .i64 Tryz.underlying22 Tryz.underlying3 hi hz0 n h0 (by omega) (by omega) (by rw[hz2];omega)
  have hge:=grownCap_ge w n 0 5
  have hle:=grownCap_le_maxLen w n 0 5 (by unfold maxLen;omega)
  obtain⟨c,hc⟩:∃c,c=grownCap w n 0 5:=⟨_,rfl⟩
  rw[←hc]at hrun hge hle
  obtain⟨Z,hZ⟩:∃Z,Z=(Builtin.zeroCells (Value.int .u8 0).cells n++Builtin.zeroCells (Value.int .u8 0).cells (c-n)):=⟨_,rfl⟩
  rw[←hZ]at hrun
  have hZs:Z.size=c*1:=by rw[hZ];simp[size_zeroCells,Value.cells];omega
  have hown:=World.ownsRow_made (base:=w.heap.size) (e:=5) (size:=1) w.drew Z c (Nat.le_refl _) hle hZs
  have hbl:Below w.heap.size w (w.drew.alloc (.cells Z 5)):=(Below.refl w.heap.size w).drew.alloc (Nat.le_refl _) _
  obtain⟨w1,hw1⟩:∃w1,w1=w.drew.alloc (.cells Z 5):=⟨_,rfl⟩
  rw[←hw1]at hrun hown hbl
  have HR:=Lib.hid hrun;have HO:=Lib.hid hown;have HB:=Lib.hid hbl
  unfold maxLen at hle
  clear hrun hown hbl hZ hZs hw1 hc hi hz0 hz1 hz2
  have hp:(0:Int)<(n:Int):=by omega
  go_enter Tryz.func117,Tryz.ntmps117
  go_wp2_with (at_builtin;refine Lib.wpList_append_run _ rfl _ _ _ _ rfl _ _ rfl rfl _ _ HR.out ?_)
  go_ret
  exact⟨_,_,rfl,HO.out,HB.out⟩
theorem concatu_any(w:World)(A:Option Addr)(k c:Nat)(n:Nat→Nat)(f:Nat→Nat→Nat)(hf:∀i j,f i j<256)(hr:RowsB w w.heap.size A k n f)(hk:k≤1000000)(hs:sumU n k≤1000000000):
  Calls Tryz.prog 78 #[.slice A k c] w fun e w'=>∃A' c',e=.returned (.slice A' (sumU n k) c')∧w'.ownsRow w.heap.size 5 1 (.slice A' (sumU n k) c') (sumU n k) (bytesL (sumU n k) (catU n f k))∧Below w.heap.size w w':=by
 have HR:=Lib.hid hr;have HF:=Lib.hid hf;have HS:=Lib.hid hs
 obtain⟨N,hN⟩:∃N,N=sumU n k:=⟨_,rfl⟩
 rw[←hN]at hs⊢
 have HN:=Lib.hid hN
 clear hr hf hN
 go_enter Tryz.func78,Tryz.ntmps78
 go_wp2_with fail
 go_loopw [3,11] (fun s i wr=>∃j q:Nat,j≤k∧i=.int .i64 (j:Int)∧s=.int .i64 (q:Int)∧Hid (q=sumU n j)∧w=wr) (fun _ i _=>k-(intOf i).toNat)
 case atStart=>exact⟨0,0,Nat.zero_le _,rfl,rfl,Lib.hid rfl,rfl⟩
 case round=>
  obtain⟨j,q,hj,rfl,rfl,HQ,rfl⟩:=hrel
  by_cases hlt:j<k
  ·have hlti:(j:Int)<(k:Int):=by omega
   obtain⟨b,o,rfl,hb,hcc⟩:=HR.out (by omega)
   obtain⟨Ai,ci,c1,_,_⟩:=hcc j hlt
   have hq1:sumU n (j+1)=q+n j:=by rw[HQ.out];rfl
   have hq2:=sumU_mono n (show j+1≤k by omega)
   have hq3:=HS.out
   obtain⟨m,hm⟩:∃m,m=n j:=⟨_,rfl⟩
   rw[←hm]at c1 hq1
   have hqm:q+m≤1000000000:=by omega
   have hnn:¬((q:Int)+(m:Int)<0):=by omega
   have HQ1:=Lib.hid hq1
   clear hcc hq1 hq2 hq3 hm
   go_wp2
   go_roundw
   case rel=>exact⟨j+1,q+m,by omega,by go_num,by go_num,Lib.hid HQ1.out.symm,trivial⟩
   case measure=>simp[intOf];omega
  ·obtain rfl:j=k:=by omega
   have hlti:¬(j:Int)<(j:Int):=by omega
   have hqN:q=N:=by rw[HQ.out,HN.out]
   subst hqN
   go_wp2_with fail
   refine(growu_any _ q (by omega)).mono ?_
   rintro e w1 ⟨A1,c1,rfl,ho1,hb1⟩
   have HO1:=Lib.hid ho1;have HB1:=Lib.hid hb1
   clear ho1 hb1
   go_wp2_with fail
   go_loopw [6,27] (fun s i wr=>∃(t p:Nat) (At:Option Addr) (ct:Nat),t≤j∧i=.int .i64 (t:Int)∧s=.slice At p ct∧Hid (p=sumU n t)∧Hid (wr.ownsRow w.heap.size 5 1 (.slice At p ct) p (bytesL p (catU n f t)))∧Hid (Below w.heap.size w wr)) (fun _ i _=>j-(intOf i).toNat)
   case atStart=>exact⟨0,0,A1,c1,Nat.zero_le _,rfl,rfl,Lib.hid rfl,HO1,HB1⟩
   case round=>
    obtain⟨t,p,At,ct,ht,rfl,rfl,HP,HO,HB⟩:=hrel
    by_cases hlt2:t<j
    ·have hlti2:(t:Int)<(j:Int):=by omega
     obtain⟨b,o,rfl,hb,hcc⟩:=(HR.out.below HB.out (Nat.le_refl _)) (by omega)
     obtain⟨Ai,ci,k1,k2,k3⟩:=hcc t hlt2
     have hq1:sumU n (t+1)=p+n t:=by rw[HP.out];rfl
     have hq2:=sumU_mono n (show t+1≤j by omega)
     have hq3:=HS.out
     obtain⟨A',c',w',r1,r2,r3⟩:=run_more wr w.heap.size _ (.slice At p ct) p _ HO.out Ai (n t) ci (f t) k2 (by omega) 22 k3 HB.out.size
     obtain⟨m,hm⟩:∃m,m=n t:=⟨_,rfl⟩
     rw[←hm]at k1 r1 r2 hq1
     have e1:cat (catU n f t) p (f t)=catU n f (t+1):=by funext x;rw[HP.out];rfl
     rw[e1]at r2
     have HQ1:=Lib.hid hq1;have R1:=Lib.hid r1;have R2:=Lib.hid r2;have R3:=Lib.hid (HB.out.trans r3)
     clear hcc hq1 hq2 hq3 r1 r2 r3 k2 k3 hm e1
     go_wp2_with (at_builtin;refine wpList_append_run rfl (.tmp 31) (.tmp 32) 22 rfl (.slice At p ct) (.slice Ai m ci) (.slice A' (p+m) c') w' rfl rfl R1.out ?_)
     go_roundw
     case rel=>exact⟨t+1,p+m,A',c',by omega,by go_num,rfl,Lib.hid HQ1.out.symm,R2,R3⟩
     case measure=>simp[intOf];omega
    ·obtain rfl:t=j:=by omega
     have hlti2:¬(t:Int)<(t:Int):=by omega
     have hpq:p=q:=by rw[HP.out,HN.out]
     subst hpq
     go_wp2
     go_ret
     exact⟨At,ct,rfl,HO.out,HB.out⟩
end Go.Proofs.YtgokdgcmkcmjeaaGreat
namespace Go.Proofs.YtgokdgcmkcmjeaaGreat
open Go.RowKit
def OrderCon:Prop:=∀w:World,Calls Tryz.prog 140 #[] w fun e w'=>e=.returned (.agg (tblA (fun i=>(ordN i:Int)) 19))∧Below w.heap.size w w'
def FixedCon:Prop:=∀w:World,Calls Tryz.prog 87 #[] w fun e w'=>∃A1 c1 A2 c2,e=.returned (.tuple #[.slice A1 288 c1,.slice A2 32 c2])∧
 w'.ownsRow w.heap.size 5 1 (.slice A1 288 c1) 288 (bytesL 288 fixA)∧w'.ownsRow w.heap.size 5 1 (.slice A2 32 c2) 32 (bytesL 32 fixB)∧(∀g,(Value.slice A1 288 c1).ownBlock=some g→(Value.slice A2 32 c2).ownBlock≠some g)∧Below w.heap.size w w'
end Go.Proofs.YtgokdgcmkcmjeaaGreat
