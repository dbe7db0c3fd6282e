/-
  Words and walks.
-/
import Derived.Test.YtgokdgcmkcmjeaaGreatqkaa
import Derived.Test.YtgokdgcmkcmjeaaGreatqkab
import Derived.Test.YtgokdgcmkcmjeaaGreatqkac
import Derived.Test.YtgokdgcmkcmjeaaGreatqkad
import Derived.Test.YtgokdgcmkcmjeaaGreatqkah
import Derived.Test.YtgokdgcmkcmjeaaGreatqkak
import Derived.Test.YtgokdgcmkcmjeaaGreatqkam
set_option maxRecDepth 100000
set_option maxHeartbeats 16000000
namespace Go.Proofs.YtgokdgcmkcmjeaaGreat
open Value renaming int → ae, slice → af, pointer → ag, agg → ai
open IntKind renaming i64 → ak
open Obj renaming cells → ao
open Ending renaming returned → aq
open Go renaming World → au, Addr → aw, Calls → ax, Value → ay, Program → aA, Oper → aB, TypeId → aC, wpList_store_rowTo → aD, wpList_buildTo → aE, wpList_load_row → aF, wpList_load_mid → aG, heap_alloc_new → aH, cell_of_row → aI, setRow_heap → aJ, bodyPost_ret → aL, setRow_other → aM, yielded → aN, heap_setCell_same → aO, frozen_of_row → aP
open Go.RowKit renaming intOf → aQ, Hid → aR, Below → aS
open _root_.Go.Proofs.Tryz
open Go.RowKit
def gL(g:Nat->Nat)(L:Nat)(s:Rz):Nat:=fT g L 2 (fR L 1 s)
def ij(L:Nat)(s:Rz):Rz:=fR L 2 (fR L 1 s)
def rI(g:Nat->Nat)(L:Nat)(s:Rz):Bool:=((fT g L 1 s:Nat):Int)==1
def oN(g:Nat->Nat)(L:Nat)(s:Rz):Nat:=if gL g L s=0 then o7 g L (ij L s)else 0
def nL(g:Nat->Nat)(L:Nat)(s:Rz):Rz:=if gL g L s=0 then oF g L (ij L s)else if gL g L s=1 then hH iZ 32 15 (hH iH 288 15 (ij L s))else if gL g L s=2 then pA g L (ij L s)else jv (ij L s) 130
def qL(g:Nat->Nat)(L:Nat)(s:Rz):Nat->Int:=if gL g L s=1 then ib iH 288 15 else if gL g L s=2 then qH g L (ij L s)else fun _=>0
def qM(g:Nat->Nat)(L:Nat)(s:Rz):Nat->Int:=if gL g L s=1 then ib iZ 32 15 else if gL g L s=2 then qI g L (ij L s)else fun _=>0
def qN(g:Nat->Nat)(L:Nat)(s:Rz):List Int:=if gL g L s=1 then gZ iH 288 15 else if gL g L s=2 then qJ g L (ij L s)else[]
def qO(g:Nat->Nat)(L:Nat)(s:Rz):List Int:=if gL g L s=1 then gZ iZ 32 15 else if gL g L s=2 then qK g L (ij L s)else[]
theorem RK(k:Nat)(b b':Bool)(l:Nat)(c1 c2:Nat->Int)(v1 v2:ay):(iu k b l c1 c2 v1 v2).setIfInBounds 1 (.bool b')=iu k b' l c1 c2 v1 v2:=by kernel_rfl
theorem RL(k k':Nat)(b:Bool)(l:Nat)(c1 c2:Nat->Int)(v1 v2:ay):(iu k b l c1 c2 v1 v2).setIfInBounds 0 (ae .u8 (k':Int))=iu k' b l c1 c2 v1 v2:=by kernel_rfl
theorem RN(k:Nat)(b:Bool)(l l':Nat)(c1 c2:Nat->Int)(v1 v2:ay):(iu k b l c1 c2 v1 v2).setIfInBounds 2 (ae ak (l':Int))=iu k b l' c1 c2 v1 v2:=by kernel_rfl
theorem RO(w:au)(p:Nat)(A:Option aw)(l c:Nat)(s:Rz)(h:fx w p A l c s):
  ax prog 54 #[ag (some ⟨p,0,none⟩)] w fun e w'=>∃u1 u2,e=aq (.tuple #[ai (fJ (ib iH 288 15) u1),ai (fJ (ib iZ 32 15) u2)])/\
   fx w' p A l c (hH iZ 32 15 (hH iH 288 15 s))/\iz w' w.heap.size u1 (gZ iH 288 15)/\iz w' w.heap.size u2 (gZ iZ 32 15)/\Fr (At p) w w':=
 RE w p A l c s h iH iZ (fun j=>by have:=uW j;omega) (fun j=>by have:=uX j;omega) (fun w=>(BA w).mono fun e w' ⟨A1,c1,A2,c2,h1,h2,h3,_,h5⟩=>⟨A1,c1,A2,c2,h1,h2,h3,h5⟩)
theorem RP(w:au)(p:Nat)(A:Option aw)(l c:Nat)(g:Nat->Nat)(s:Rz)(h:fx w p A l c s)(S:Nat->Prop)(hS:S p)(b3:∀j,S j->j<w.heap.size)(hg:jN S w A l g)(hl:l<=1000000)(hs:s.1<=8*l)(hlen:(ji g l (ij l s)).2.2=0->(jB g l (ij l s)).length=gK g l (ij l s)+iD g l (ij l s)):
  ax prog 25 #[ag (some ⟨p,0,none⟩)] w fun e w'=>∃u1 u2,e=aq (ai (iu (gL g l s) (rI g l s) (oN g l s) (qL g l s) (qM g l s) u1 u2))/\
   fx w' p A l c (nL g l s)/\iz w' w.heap.size u1 (qN g l s)/\iz w' w.heap.size u2 (qO g l s)/\Fr (At p) w w':=by
 have hp:=h.lt
 obtain⟨k,hk⟩:=fb (w.heap.size)
 obtain⟨Z,hZ⟩:=fb (iu 0 false 0 (fun _=>0) (fun _=>0) (af none 0 0) (af none 0 0))
 obtain⟨W1,a8⟩:=fb ((w.alloc (ao Z 28)).alloc (ao Z 28))
 have bA:aS k w W1:=by rw[a8,hk];exact(fz.alloc fe _).alloc (by simp) _
 have b4:W1.heap.size=k+2:=by rw[a8,hk];simp
 have z1:fg W1 k Z 28:=by rw[a8,hk];exact(fg.new w _ _).old _
 have y1:fg W1 (k+1) Z 28:=by rw[a8,hk];have:=fg.new (w.alloc (ao Z 28)) Z 28;rwa[World.size_alloc]at this
 have b5:=fa (fg.below h bA (by omega):fx W1 p A l c s)
 have b6:=fa (Fr.of (S:=At p) (hk▸bA))
 have cD:∀u:au,(zeroValue 28).run prog u=.ok (ai Z) u:=by rw[hZ];exact(zero_of_info By).1
 have bB:aR (Z.size=37):=fa (by rw[hZ];exact rC ..)
 have b7:=fa hZ
 have cx:=fa a8;have HK:=fa hk;have cE:=fa b4;have b8:=fa z1;have b9:=fa y1
 have HP:aR (p<k):=fa (by omega)
 have bK:aR (S p/\∀j,S j->j<k):=fa ⟨hS,by rw[hk];exact b3⟩
 have ca:aR (∀j,At p j->S j):=fa fun j (e:j=p)=>e▸hS
 have aU:aR (¬At p k/\¬At p (k+1)):=fa ⟨by show¬k=p;omega,by show¬k+1=p;omega⟩
 have cb:=fa (hg.fr (Fr.of (hk▸bA)));have cf:=fa hg
 have n1:gL g l s=fT g l 2 (fR l 1 s):=rfl
 have n2:ij l s=fR l 2 (fR l 1 s):=rfl
 have n3:rI g l s=(((fT g l 1 s:Nat):Int)==1):=rfl
 have n4:oN g l s=if gL g l s=0 then o7 g l (ij l s)else 0:=rfl
 have n5:nL g l s=if gL g l s=0 then oF g l (ij l s)else if gL g l s=1 then hH iZ 32 15 (hH iH 288 15 (ij l s))else if gL g l s=2 then pA g l (ij l s)else jv (ij l s) 130:=rfl
 have n6:qL g l s=if gL g l s=1 then ib iH 288 15 else if gL g l s=2 then qH g l (ij l s)else fun _=>0:=rfl
 have n7:qM g l s=if gL g l s=1 then ib iZ 32 15 else if gL g l s=2 then qI g l (ij l s)else fun _=>0:=rfl
 have n8:qN g l s=if gL g l s=1 then gZ iH 288 15 else if gL g l s=2 then qJ g l (ij l s)else[]:=rfl
 have n9:qO g l s=if gL g l s=1 then gZ iZ 32 15 else if gL g l s=2 then qK g l (ij l s)else[]:=rfl
 have i1:(fR l 1 s).1<=8*l:=ld hs
 have i2:(ij l s).1<=8*l:=ld i1
 have b2:fT g l 2 (fR l 1 s)<4:=mF g l 2 _
 have b1:fT g l 1 s<2:=mF g l 1 _
 obtain⟨sL,bL⟩:=fb (oN g l s)
 obtain⟨sS,bM⟩:=fb (nL g l s)
 obtain⟨C1,bN⟩:=fb (qL g l s)
 obtain⟨C2,bO⟩:=fb (qM g l s)
 obtain⟨E1,bP⟩:=fb (qN g l s)
 obtain⟨E2,bQ⟩:=fb (qO g l s)
 rw[<-bL,<-bM,<-bN,<-bO,<-bP,<-bQ]
 rw[<-bL]at n4;rw[<-bM]at n5;rw[<-bN]at n6;rw[<-bO]at n7;rw[<-bP]at n8;rw[<-bQ]at n9
 obtain⟨lb,bR⟩:=fb (rI g l s)
 obtain⟨kd,bS⟩:=fb (gL g l s)
 rw[<-bR,<-bS]
 rw[<-bR]at n3
 rw[<-bS]at n1 n4 n5 n6 n7 n8 n9
 obtain⟨q2,cg⟩:=fb (ij l s)
 rw[<-cg]at n2 n4 n5 n6 n7 n8 n9 i2 hlen
 obtain⟨q1,bT⟩:=fb (fR l 1 s)
 obtain⟨x1,bU⟩:=fb (fT g l 1 s)
 rw[<-bT]at n1 n2 i1 b2
 rw[<-bU]at n3 b1
 rw[<-n1]at b2
 have bV:=fa (qw W1 p A l c g s b5.out cb.out.1 hl hs 1 1 rfl (by omega))
 rw[<-bU,<-bT]at bV
 have bW:=fa fun V (r:fx V p A l c q1) (q:jN S V A l g)=>qw V p A l c g q1 r q.1 hl i1 2 2 rfl (by omega)
 rw[<-n1,<-n2]at bW
 have eb:((x1:Int)==1)=lb:=n3.symm
 have ch:=fa hlen
 have N4:=fa n4;have N5:=fa n5;have N6:=fa n6;have N7:=fa n7;have N8:=fa n8;have N9:=fa n9
 clear h hg hZ a8 hk bA b4 z1 y1 hp hS b3 n1 n2 n3 n4 n5 n6 n7 n8 n9 hlen bL bM bN bO bP bQ bR bS cg bT bU hs i1
 go_enter func25,ntmps25
 go_wp2_with (first|(rw[<-cx.out,<-HK.out])|fail)
 refine bV.out.mono ?_
 rintro e w2 ⟨rfl,r2,f2⟩
 have y2:=b9.out.fr f2 aU.out.2
 have k1:=y2.free (i:=1)
 have cy:=y2.cell (i:=1)
 rw[show Z[1]?=some (.bool false) by rw[b7.out];rfl]at cy
 obtain⟨W3,bC⟩:=fb (w2.setCell ⟨k+1,1,none⟩ (.bool lb))
 have y3:fg W3 (k+1) (iu 0 lb 0 (fun _=>0) (fun _=>0) (af none 0 0) (af none 0 0)) 28:=by
  have:=y2.set 1 (.bool lb);rw[b7.out,RK]at this;rw[bC];exact this
 have bD:Fr (At (k+1)) w2 W3:=by rw[bC];exact Fr.cell _ _ _ _
 have av:¬At (k+1) p:=by have:=HP.out;show¬p=k+1;omega
 have cj:=fa (r2.fr bD av)
 have ck:=fa ((b8.out.fr f2 aU.out.1).fr bD (by show¬k=k+1;omega))
 have bX:=fa ((b6.out.trans f2).from bD fun j (e:j=k+1)=>.inr (by rw[<-HK.out];omega))
 have cl:=fa (cf.out.fr (bX.out.mono ca.out))
 have cm:=fa (bW.out W3 cj.out cl.out)
 have cn:=fa bC;have cp:=fa y3
 clear r2 f2 y2 bC y3 bD av bV bW b5 b6 b8 b9 cb
 go_wp2_with fail
 rw[<-cn.out]
 refine cm.out.mono ?_
 rintro e w4 ⟨rfl,r4,f4⟩
 have y4:=cp.out.fr f4 aU.out.2
 have k2:=y4.free (i:=0)
 have cH:w4.cell? ⟨k+1,0,none⟩=some (ae .u8 0):=y4.cell (i:=0)
 obtain⟨W5,bE⟩:=fb (w4.setCell ⟨k+1,0,none⟩ (ae .u8 (kd:Int)))
 obtain⟨X,hX⟩:=fb (iu kd lb 0 (fun _=>0) (fun _=>0) (af none 0 0) (af none 0 0))
 have y5:fg W5 (k+1) X 28:=by
  have:=y4.set 0 (ae .u8 (kd:Int));rw[RL,<-hX]at this;rw[bE];exact this
 have bF:Fr (At (k+1)) w4 W5:=by rw[bE];exact Fr.cell _ _ _ _
 have av:¬At (k+1) p:=by have:=HP.out;show¬p=k+1;omega
 have bG:=fa (r4.fr bF av)
 have bH:=fa ((ck.out.fr f4 aU.out.1).fr bF (by show¬k=k+1;omega))
 have a9:=fa ((bX.out.trans f4).from bF fun j (e:j=k+1)=>.inr (by rw[<-HK.out];omega))
 have cq:=fa (cf.out.fr (a9.out.mono ca.out))
 have k3:W5.cell? ⟨k+1,0,none⟩=some (ae .u8 (kd:Int)):=by rw[y5.cell,hX];rfl
 have cr:aR (X.size=37):=fa (by rw[hX];exact rC ..)
 have bI:=fa bE;have bf:=fa y5;have bg:=fa hX
 have cC:kd<256:=by omega
 clear r4 f4 y4 bE hX y5 bF av cm cj ck bX cl cp cn
 have bj:k+2<=W5.heap.size:=bf.out.lt
 have ct:=fa bj
 have a7:aR (∀(V:au) (Y:Array ay) (st:Rz) (u1 u2:ay),fx V p A l c st->fg V (k+1) Y 28->fg V k Z 28->Fr (At p) w V->Y=iu kd lb sL C1 C2 u1 u2->st=sS->iz V k u1 E1->iz V k u2 E2->u1.oneCell'=true->u2.oneCell'=true->(∀j,u1.ownBlock=some j->j≠k)->(∀j,u2.ownBlock=some j->j≠k)->
   Y.size=37/\Y.all (·.oneCell')=true/\(∀fn:Func,fn.results=#[.cell 2 28]->∀tmps:Array ay,tmps.getD 2 undef=ag (some ⟨k,0,none⟩)->(results fn tmps).run prog (V.setRow k Y)=.ok (ai Y) (V.setRow k Y))/\
   (∃u1 u2,Ending.returned (ai Y)=aq (ai (iu kd lb sL C1 C2 u1 u2))/\fx (V.setRow k Y) p A l c sS/\iz (V.setRow k Y) w.heap.size u1 E1/\iz (V.setRow k Y) w.heap.size u2 E2/\Fr (At p) w (V.setRow k Y))):=fa (by
  intro V Y st u1 u2 hr hy hz hf hY cz o1 o2 v1 v2 n1 n2
  have cu:Y.size=37:=by rw[hY];exact rC ..
  refine⟨cu,by rw[hY];exact Hk _ _ _ _ _ _ _ v1 v2,fun fn cA tmps ht=>results_cell_row cA _ _ k _ _ (0,0) _ ht (aJ _ _ _ _ _ _ hz) underlying28 rfl (oJ _ cu),u1,u2,by rw[hY],?_,?_,?_,?_⟩
  ·rw[<-cz];exact fg.gV hr (by have:=HP.out;omega) _
  ·rw[<-HK.out];exact iB o1 fun j hj=>aM _ _ _ _ (n1 j hj)
  ·rw[<-HK.out];exact iB o2 fun j hj=>aM _ _ _ _ (n2 j hj)
  ·exact hf.from (Fr.row V k Y) fun j hj=>.inr (by rw[<-HK.out];exact Nat.le_of_eq hj.symm))
 have cB:kd=0\/kd=1\/kd=2\/kd=3:=by omega
 rcases cB with hc|hc|hc|hc
 ·subst hc;have M4:=N4.out.trans (if_pos rfl);have M5:=N5.out.trans (if_pos rfl)
  have M6:=(N6.out.trans (if_neg (by omega))).trans (if_neg (by omega));have M7:=(N7.out.trans (if_neg (by omega))).trans (if_neg (by omega));have M8:=(N8.out.trans (if_neg (by omega))).trans (if_neg (by omega));have M9:=(N9.out.trans (if_neg (by omega))).trans (if_neg (by omega))
  have aX:=fa (PQ W5 p A l c g q2 bG.out S bK.out.1 cq.out hl i2);rw[<-M4,<-M5]at aX;have HM:=fa (And.intro M6 (And.intro M7 (And.intro M8 M9)));clear M4 M5 M6 M7 M8 M9 N4 N5 N6 N7 N8 N9;have aV:aR (W5=w4.setCell ⟨k+1,0,none⟩ (ae .u8 0)):=fa bI.out;go_wp2_with fail
  rw[<-aV.out];refine aX.out.mono ?_;rintro e w6 ⟨rfl,r6,f6⟩;have y6:=bf.out.fr f6 aU.out.2;have k4:=y6.free (i:=2);have cI:w6.cell? ⟨k+1,2,none⟩=some (ae ak 0):=by rw[y6.cell,bg.out];rfl
  obtain⟨W7,ad⟩:=fb (w6.setCell ⟨k+1,2,none⟩ (ae ak (sL:Int)));obtain⟨Y,hY⟩:=fb (iu 0 lb sL (fun _=>0) (fun _=>0) (af none 0 0) (af none 0 0));have y7:fg W7 (k+1) Y 28:=by
   have:=y6.set 2 (ae ak (sL:Int));rw[bg.out,RN,<-hY]at this;rw[ad];exact this
  have bJ:Fr (At (k+1)) w6 W7:=by rw[ad];exact Fr.cell _ _ _ _
  have av:¬At (k+1) p:=by have:=HP.out;show¬p=k+1;omega
  have bY:=(bH.out.fr f6 aU.out.1).fr bJ (by show¬k=k+1;omega);have cv:=(a9.out.trans f6).from bJ fun j (e:j=k+1)=>.inr (by rw[<-HK.out];omega)
  obtain⟨a1,a2,a3,a4⟩:=a7.out W7 Y sS (af none 0 0) (af none 0 0) (r6.fr bJ av) y7 bY cv (by rw[hY,HM.out.1,HM.out.2.1]) rfl (by rw[HM.out.2.2.1];exact World.ownsRow_nil ..) (by rw[HM.out.2.2.2];exact World.ownsRow_nil ..) rfl rfl (fun j h=>by simp[Value.ownBlock]at h) (fun j h=>by simp[Value.ownBlock]at h);have H7:=fa y7;have Z7:=fa bY;have A1:=fa a1;have A2:=fa a2;have A3:=fa a3;have A4:=fa a4;have bl:=fa ad
  clear r6 f6 y6 y7 bJ av bY cv a1 a2 a3 a4 ad hY aX;go_wp2_with (first
   |(rw[<-bl.out];refine aF rfl _ _ rfl (k+1) rfl _ Y (0,0) _ H7.out underlying28 rfl (oJ _ A1.out) ?_)
   |(refine aD rfl _ _ _ rfl rfl k Y rfl rfl 28 Z Z7.out (oJ _ A1.out) (by rw[bB.out,A1.out]) A2.out ?_)
   |fail)
  exact aL (A3.out _ rfl _ rfl) rfl A4.out
 ·subst hc;have M4:=N4.out.trans (if_neg (by omega));have M5:=(N5.out.trans (if_neg (by omega))).trans (if_pos rfl);have M6:=N6.out.trans (if_pos rfl);have M7:=N7.out.trans (if_pos rfl);have M8:=N8.out.trans (if_pos rfl);have M9:=N9.out.trans (if_pos rfl)
  have aY:=fa (RO W5 p A l c q2 bG.out);rw[<-M5,<-M6,<-M7,<-M8,<-M9]at aY;have HM:=fa M4;clear M4 M5 M6 M7 M8 M9 N4 N5 N6 N7 N8 N9;have aV:aR (W5=w4.setCell ⟨k+1,0,none⟩ (ae .u8 1)):=fa bI.out;go_wp2_with fail
  rw[<-aV.out];refine aY.out.mono ?_;rintro e w6 ⟨u1,u2,rfl,r6,o1,o2,f6⟩;have y6:=bf.out.fr f6 aU.out.2;obtain⟨T1,ah⟩:=fb (fJ C1 u1);obtain⟨T2,al⟩:=fb (fJ C2 u2);rw[<-ah,<-al];obtain⟨W7,ad⟩:=fb (w6.setCells (k+1) 3 T1.toList);obtain⟨W8,aW⟩:=fb (W7.setCells (k+1) 20 T2.toList);obtain⟨Y,hY⟩:=fb (iu 1 lb 0 C1 C2 u1 u2);have y7:fg W7 (k+1) (iu 1 lb 0 C1 (fun _=>0) u1 (af none 0 0)) 28:=by
   have a:=y6.setCells T1.toList 3;rw[ah,show(fJ C1 u1).toList=iS C1 u1 from rfl,bg.out,Hh]at a;rw[ad,ah];exact a
  have y8:fg W8 (k+1) Y 28:=by
   have a:=y7.setCells T2.toList 20;rw[al,show(fJ C2 u2).toList=iS C2 u2 from rfl,Hj,<-hY]at a;rw[aW,al];exact a
  have aT:Fr (At (k+1)) w6 W8:=by
   have h1:aS (k+1) w6 W8:=by rw[aW,ad];exact vP fe _ _ _ (vP fe _ _ _ fz)
   exact⟨h1.os,h1.tape,h1.output,h1.size,fun j _ hj=>by rw[aW,ad];exact(vQ hj _ _ _).trans (vQ hj _ _ _)⟩
  have av:¬At (k+1) p:=by have:=HP.out;show¬p=k+1;omega
  have aZ:=(bH.out.fr f6 aU.out.1).fr aT (by show¬k=k+1;omega);have bn:=(a9.out.trans f6).from aT fun j (e:j=k+1)=>.inr (by rw[<-HK.out];omega)
  have bj:=ct.out;have a5:∀j,u1.ownBlock=some j->k+2<=j:=fun j hj=>by have:=(gP o1 j hj).1;omega
  have a6:∀j,u2.ownBlock=some j->k+2<=j:=fun j hj=>by have:=(gP o2 j hj).1;omega
  have v1:=o1.one;have v2:=o2.one;have p1:iz W8 k u1 E1:=lZ (iB o1 fun j hj=>aT.block j (gP o1 j hj).2 (by have:=a5 j hj;show¬j=k+1;omega)) (by omega);have p2:iz W8 k u2 E2:=lZ (iB o2 fun j hj=>aT.block j (gP o2 j hj).2 (by have:=a6 j hj;show¬j=k+1;omega)) (by omega);obtain⟨a1,a2,a3,a4⟩:=a7.out W8 Y sS u1 u2 (r6.fr aT av) y8 aZ bn (by rw[hY,HM.out]) rfl p1 p2 v1 v2 (fun j h=>by have:=a5 j h;omega) (fun j h=>by have:=a6 j h;omega);have bq:aR (w6.there (k+1) 3 T1.size):=fa (yc y6 3 _ (by rw[ah,jl,cr.out];omega));have br:aR (W7.there (k+1) 20 T2.size):=fa (yc y7 20 _ (by rw[al,jl,rC];omega));have bt:aR ((prog.info? 26).map (·.size)=some T1.size):=fa (by rw[ah,jl];exact oZ);have bu:aR ((prog.info? 26).map (·.size)=some T2.size):=fa (by rw[al,jl];exact oZ);have bx:aR (T1.all (·.oneCell')=true):=fa (by rw[ah];exact l7 _ _ v1);have bz:aR (T2.all (·.oneCell')=true):=fa (by rw[al];exact l7 _ _ v2);have H8:=fa y8;have Z8:=fa aZ;have A1:=fa a1;have A2:=fa a2;have A3:=fa a3;have A4:=fa a4;have bl:=fa ad;have bZ:=fa aW
  clear r6 f6 y6 y7 y8 aT av aZ bn a1 a2 a3 a4 ad aW hY aY ah al o1 o2 a5 a6 v1 v2 p1 p2 bj;go_wp2_with (first
   |(refine wpList_store_mid rfl _ _ _ rfl (k+1) 3 T1 rfl rfl bq.out bt.out bx.out ?_;rw[<-bl.out])
   |(refine wpList_store_mid rfl _ _ _ rfl (k+1) 20 T2 rfl rfl br.out bu.out bz.out ?_;rw[<-bZ.out])
   |(refine aF rfl _ _ rfl (k+1) rfl _ Y (0,0) _ H8.out underlying28 rfl (oJ _ A1.out) ?_)
   |(refine aD rfl _ _ _ rfl rfl k Y rfl rfl 28 Z Z8.out (oJ _ A1.out) (by rw[bB.out,A1.out]) A2.out ?_)
   |fail)
  exact aL (A3.out _ rfl _ rfl) rfl A4.out
 ·subst hc;have M4:=N4.out.trans (if_neg (by omega));have M5:=((N5.out.trans (if_neg (by omega))).trans (if_neg (by omega))).trans (if_pos rfl);have M6:=(N6.out.trans (if_neg (by omega))).trans (if_pos rfl);have M7:=(N7.out.trans (if_neg (by omega))).trans (if_pos rfl);have M8:=(N8.out.trans (if_neg (by omega))).trans (if_pos rfl);have M9:=(N9.out.trans (if_neg (by omega))).trans (if_pos rfl)
  have aY:=fa (RJ W5 p A l c g q2 bG.out S bK.out.1 (fun j hj=>by have:=bK.out.2 j hj;omega) cq.out hl i2 ch.out);rw[<-M5,<-M6,<-M7,<-M8,<-M9]at aY;have HM:=fa M4;clear M4 M5 M6 M7 M8 M9 N4 N5 N6 N7 N8 N9;have aV:aR (W5=w4.setCell ⟨k+1,0,none⟩ (ae .u8 2)):=fa bI.out;go_wp2_with fail
  rw[<-aV.out];refine aY.out.mono ?_;rintro e w6 ⟨u1,u2,rfl,r6,o1,o2,f6⟩;have y6:=bf.out.fr f6 aU.out.2;obtain⟨T1,ah⟩:=fb (fJ C1 u1);obtain⟨T2,al⟩:=fb (fJ C2 u2);rw[<-ah,<-al];obtain⟨W7,ad⟩:=fb (w6.setCells (k+1) 3 T1.toList);obtain⟨W8,aW⟩:=fb (W7.setCells (k+1) 20 T2.toList);obtain⟨Y,hY⟩:=fb (iu 2 lb 0 C1 C2 u1 u2);have y7:fg W7 (k+1) (iu 2 lb 0 C1 (fun _=>0) u1 (af none 0 0)) 28:=by
   have a:=y6.setCells T1.toList 3;rw[ah,show(fJ C1 u1).toList=iS C1 u1 from rfl,bg.out,Hh]at a;rw[ad,ah];exact a
  have y8:fg W8 (k+1) Y 28:=by
   have a:=y7.setCells T2.toList 20;rw[al,show(fJ C2 u2).toList=iS C2 u2 from rfl,Hj,<-hY]at a;rw[aW,al];exact a
  have aT:Fr (At (k+1)) w6 W8:=by
   have h1:aS (k+1) w6 W8:=by rw[aW,ad];exact vP fe _ _ _ (vP fe _ _ _ fz)
   exact⟨h1.os,h1.tape,h1.output,h1.size,fun j _ hj=>by rw[aW,ad];exact(vQ hj _ _ _).trans (vQ hj _ _ _)⟩
  have av:¬At (k+1) p:=by have:=HP.out;show¬p=k+1;omega
  have aZ:=(bH.out.fr f6 aU.out.1).fr aT (by show¬k=k+1;omega);have bn:=(a9.out.trans f6).from aT fun j (e:j=k+1)=>.inr (by rw[<-HK.out];omega)
  have bj:=ct.out;have a5:∀j,u1.ownBlock=some j->k+2<=j:=fun j hj=>by have:=(gP o1 j hj).1;omega
  have a6:∀j,u2.ownBlock=some j->k+2<=j:=fun j hj=>by have:=(gP o2 j hj).1;omega
  have v1:=o1.one;have v2:=o2.one;have p1:iz W8 k u1 E1:=lZ (iB o1 fun j hj=>aT.block j (gP o1 j hj).2 (by have:=a5 j hj;show¬j=k+1;omega)) (by omega);have p2:iz W8 k u2 E2:=lZ (iB o2 fun j hj=>aT.block j (gP o2 j hj).2 (by have:=a6 j hj;show¬j=k+1;omega)) (by omega);obtain⟨a1,a2,a3,a4⟩:=a7.out W8 Y sS u1 u2 (r6.fr aT av) y8 aZ bn (by rw[hY,HM.out]) rfl p1 p2 v1 v2 (fun j h=>by have:=a5 j h;omega) (fun j h=>by have:=a6 j h;omega);have bq:aR (w6.there (k+1) 3 T1.size):=fa (yc y6 3 _ (by rw[ah,jl,cr.out];omega));have br:aR (W7.there (k+1) 20 T2.size):=fa (yc y7 20 _ (by rw[al,jl,rC];omega));have bt:aR ((prog.info? 26).map (·.size)=some T1.size):=fa (by rw[ah,jl];exact oZ);have bu:aR ((prog.info? 26).map (·.size)=some T2.size):=fa (by rw[al,jl];exact oZ);have bx:aR (T1.all (·.oneCell')=true):=fa (by rw[ah];exact l7 _ _ v1);have bz:aR (T2.all (·.oneCell')=true):=fa (by rw[al];exact l7 _ _ v2);have H8:=fa y8;have Z8:=fa aZ;have A1:=fa a1;have A2:=fa a2;have A3:=fa a3;have A4:=fa a4;have bl:=fa ad;have bZ:=fa aW
  clear r6 f6 y6 y7 y8 aT av aZ bn a1 a2 a3 a4 ad aW hY aY ah al o1 o2 a5 a6 v1 v2 p1 p2 bj;go_wp2_with (first
   |(refine wpList_store_mid rfl _ _ _ rfl (k+1) 3 T1 rfl rfl bq.out bt.out bx.out ?_;rw[<-bl.out])
   |(refine wpList_store_mid rfl _ _ _ rfl (k+1) 20 T2 rfl rfl br.out bu.out bz.out ?_;rw[<-bZ.out])
   |(refine aF rfl _ _ rfl (k+1) rfl _ Y (0,0) _ H8.out underlying28 rfl (oJ _ A1.out) ?_)
   |(refine aD rfl _ _ _ rfl rfl k Y rfl rfl 28 Z Z8.out (oJ _ A1.out) (by rw[bB.out,A1.out]) A2.out ?_)
   |fail)
  exact aL (A3.out _ rfl _ rfl) rfl A4.out
 ·subst hc;have M4:=N4.out.trans (if_neg (by omega));have M5:=((N5.out.trans (if_neg (by omega))).trans (if_neg (by omega))).trans (if_neg (by omega))
  have M6:=(N6.out.trans (if_neg (by omega))).trans (if_neg (by omega));have M7:=(N7.out.trans (if_neg (by omega))).trans (if_neg (by omega));have M8:=(N8.out.trans (if_neg (by omega))).trans (if_neg (by omega));have M9:=(N9.out.trans (if_neg (by omega))).trans (if_neg (by omega))
  have aX:=fa (ry W5 p A l c q2 bG.out 130);rw[<-M5]at aX;have HM:=fa (And.intro M4 (And.intro M6 (And.intro M7 (And.intro M8 M9))));clear M4 M5 M6 M7 M8 M9 N4 N5 N6 N7 N8 N9;have aV:aR (W5=w4.setCell ⟨k+1,0,none⟩ (ae .u8 3)):=fa bI.out;go_wp2_with fail
  rw[<-aV.out];refine aX.out.mono ?_;rintro e w6 ⟨rfl,r6,f6⟩;have y6:=bf.out.fr f6 aU.out.2;have b0:=bH.out.fr f6 aU.out.1;have cw:=a9.out.trans f6;obtain⟨a1,a2,a3,a4⟩:=a7.out w6 X sS (af none 0 0) (af none 0 0) r6 y6 b0 cw (by rw[bg.out,HM.out.1,HM.out.2.1,HM.out.2.2.1]) rfl (by rw[HM.out.2.2.2.1];exact World.ownsRow_nil ..) (by rw[HM.out.2.2.2.2];exact World.ownsRow_nil ..) rfl rfl (fun j h=>by simp[Value.ownBlock]at h) (fun j h=>by simp[Value.ownBlock]at h);have H7:=fa y6;have Z7:=fa b0;have A1:=fa a1;have A2:=fa a2;have A3:=fa a3;have A4:=fa a4
  clear r6 f6 y6 b0 cw a1 a2 a3 a4 aX;go_wp2_with (first
   |(refine aF rfl _ _ rfl (k+1) rfl _ X (0,0) _ H7.out underlying28 rfl (oJ _ A1.out) ?_)
   |(refine aD rfl _ _ _ rfl rfl k X rfl rfl 28 Z Z7.out (oJ _ A1.out) (by rw[bB.out,A1.out]) A2.out ?_)
   |fail)
  exact aL (A3.out _ rfl _ rfl) rfl A4.out
def iw(w:au)(g n:Nat)(T:Nat->Nat)(t:aC):Prop:=w.heap[g]?=some (ao (jk (fun i=>((T i:Nat):Int)) n) t (0,0))
theorem iw.lt{w:au}{g n:Nat}{T:Nat->Nat}{t:aC}(h:iw w g n T t):g<w.heap.size:=(Array.getElem?_eq_some_iff.1 h).1
theorem iw.cell{w:au}{g n:Nat}{T:Nat->Nat}{t:aC}(h:iw w g n T t){i:Nat}(hi:i<n):w.cell? ⟨g,i,none⟩=some (ae ak ((T i:Nat):Int)):=by
 rw[aI w g i _ _ (0,0) h];exact sb _ n i hi
theorem iw.frozen{w:au}{g n:Nat}{T:Nat->Nat}{t:aC}(h:iw w g n T t)(i:Nat):w.frozen? ⟨g,i,none⟩=false:=aP w g i _ _ h
theorem iw.below{w w':au}{g n B:Nat}{T:Nat->Nat}{t:aC}(h:iw w g n T t)(hb:aS B w w')(hg:g<B):iw w' g n T t:=(hb.block g hg).trans h
theorem iw.drew{w:au}{g n:Nat}{T:Nat->Nat}{t:aC}(h:iw w g n T t):iw w.drew g n T t:=h
theorem iw.set{w:au}{g n:Nat}{T T':Nat->Nat}{t:aC}(h:iw w g n T t)(i x:Nat)(he:∀k,k<n->(if k=i then x else T k)=T' k):iw (w.setCell ⟨g,i,none⟩ (ae ak (x:Int))) g n T' t:=by
 unfold iw;rw[aO w g i _ _ _ h,zD];refine congrArg (fun a=>some (Obj.cells a t (0,0))) (uS fun k hk=>?_);rw[<-he k hk];split<;>rfl
theorem iw.rd{w:au}{g n:Nat}{T:Nat->Nat}{t:aC}(h:iw w g n T t)(o m:Nat)(hm:o+m<=n):iM w w.heap.size (some ⟨g,o,none⟩) (jR (fun i=>T (o+i)) m):=by
 refine⟨by simp[jj,jR],fun _=>⟨g,o,rfl,h.lt,fun j u hu=>?_⟩⟩;have hj:j<m:=by
  rcases Nat.lt_or_ge j m with k|k
  ·exact k
  ·rw[List.getElem?_eq_none (by simpa[jj,jR]using k)]at hu;cases hu
 rw[h.cell (show o+j<n by omega),<-hu];simp[jj,jR,hj]
open Go.ChangeShapes Go.WideShapes Go.ChangeAt Go.Joins
theorem Ci{c:Nat->Nat}{n fh:Nat}(h1:1<=fh)(h2:fh<=15)(hn:n<=320)(ad:n<=2^fh)(hc:∀i,c i<=1073741824):pF (jR c n) (fh:Int)=n/\ng (jR c n) (fh:Int)=lM c n fh:=by
 refine⟨?_,rfl⟩;unfold pF;rw[if_pos (wX h1 h2 hn ad hc),mQ]
theorem RQ(w:au)(A:Option aw)(m c:Nat)(l:List (Int×Int))(hm:m=l.length)(hr:jX w w.heap.size A l)(bJ:m<=1000000)(hs:∀r∈l,0<=r.1/\r.1<=18):
  ax prog 127 #[af A m c] w fun e w'=>∃A' c',e=aq (af A' 19 c')/\fB w' w'.heap.size A' 19 (lM (j0 l) 19 7)/\19<=c'/\c'<=1000/\(A'=none->c'=0)/\(∀b o,A'=some ⟨b,o,none⟩->w.heap.size<=b)/\aS w.heap.size w w':=by
 have hz:=(zero_of_info DW).1
 obtain⟨Z,hZ⟩:∃Z:Nat->Int,Z=fun _=>0:=⟨_,rfl⟩
 rw[<-hZ]at hz
 obtain⟨h,hh⟩:=fb (w.heap.size)
 obtain⟨W1,av⟩:=fb (w.alloc (ao (jk Z 19) 213))
 have a8:aS h w W1:=by rw[av,hh];exact fz.alloc fe _
 have a9:iw W1 h 19 (j0 (l.take 0)) 213:=by
  unfold iw;rw[av,hh,aH,hZ];refine congrArg (fun a=>some (Obj.cells a 213 (0,0))) (uS fun k hk=>?_);simp[j0]
 have HM:=fa hm;have HR:=fa hr;have HS:=fa hs;have bu:=fa a8;have bx:=fa a9;have bz:=fa av;have HH:=fa hh
 clear hm hr hs a8 a9 av hh hZ
 go_enter func127,ntmps127
 go_wp2_with (first|rw[<-bz.out,<-HH.out]|fail)
 go_loopw [10] (fun iv wr=>∃i:Nat,i<=m/\iv=ae ak (i:Int)/\aR (iw wr h 19 (j0 (l.take i)) 213)/\aR (aS h w wr)) (fun iv _=>m-(aQ iv).toNat)
 case atStart=>exact⟨0,Nat.zero_le _,rfl,bx,bu⟩
 case round=>
  obtain⟨i,hi,rfl,ah,HB⟩:=hrel;have hle:w.heap.size=h:=HH.out.symm;by_cases bA:i<m
  ·have bf:(i:Int)<(m:Int):=by omega
   have aT:i<l.length:=by rw[<-HM.out];exact bA
   have aY:jX wr h A l:=by have:=HR.out;rw[hle]at this;exact this.below HB.out fe
   obtain⟨b,o,rfl,bK,hc⟩:=aY.at aT;have aZ:=aY.range rfl aT;obtain⟨s0,bg⟩:=HS.out _ (Ed aT);have a1:=Ee aT;obtain⟨⟨s,x⟩,ht⟩:∃t,t=l.getD i ka:=⟨_,rfl⟩;rw[<-ht]at aZ s0 bg a1;dsimp only at s0 bg;obtain⟨q,rfl⟩:=Int.eq_ofNat_of_zero_le s0;obtain⟨W3,aU⟩:=fb (gi wr #[ae ak 0,ae ak 0] #[ae ak (q:Int),ae ak x] 208);have al:aS wr.heap.size wr W3:=by rw[aU];exact km _ _ _ _
   have aW:W3.heap[wr.heap.size]?=some (ao #[ae ak (q:Int),ae ak x] 208 (0,0)):=by rw[aU];exact kO wr _ _ _
   have y0:W3.cell? ⟨wr.heap.size,0,none⟩=some (ae ak (q:Int)):=(aI W3 _ 0 _ _ (0,0) aW).trans rfl;have aV:=ah.out.below al ah.out.lt;have bj:q<19:=by omega
   have bL:(q:Int)<19:=by omega
   have k1:=aV.cell bj;have z1:=aV.frozen q;have bl:=rb (l.take i) q;have bB:(l.take i).length<=1000000:=by rw[List.length_take];have:=HM.out;omega
   obtain⟨C,hC⟩:=fb (j0 (l.take i) q);have ad:=aV.set (T':=j0 (l.take (i+1))) q (C+1) (fun k _=>by
    rw[a1,Li,hC];by_cases hk:k=q
    ·subst hk;rw[if_pos rfl,if_pos rfl]
    ·rw[if_neg hk,if_neg (by dsimp only;omega)];omega)
   rw[<-hC]at k1 bl;have bC:=fa (show wr.rangeAt b (o+i*2) [ae ak (q:Int),ae ak x]from aZ);have bn:=fa ad;have a2:=fa (HB.out.trans (al.mono (by have:=ah.out.lt;omega)));have bD:=fa aU
   have bM:C<=1000000:=by omega
   have eC:((C+1:Nat):Int)=(C:Int)+1:=by omega
   rw[eC]at ad;have a3:=fa ad;have bN:h<wr.heap.size:=ah.out.lt;clear aZ ad al aW aU a1 ht hC bl bB aV hc aY bn;go_wp2_with (first|refine aG rfl _ _ rfl b (o+i*2) rfl [ae ak (q:Int),ae ak x] _ bC.out underlying208 rfl jy ?_|refine aD rfl _ _ _ rfl rfl wr.heap.size #[ae ak (q:Int),ae ak x] rfl rfl 208 #[ae ak 0,ae ak 0] (aH wr _) jy rfl (by simp[Value.oneCell']) ?_;change wpList _ _ _ _ _ (gi wr #[ae ak 0,ae ak 0] #[ae ak (q:Int),ae ak x] 208);rw[<-bD.out])
   go_roundw
   case rel=>exact⟨i+1,by omega,by go_num,a3,fa (a2.out.setCell fe _)⟩
   case measure=>simp[aQ];omega
  ·obtain rfl:i=m:=by omega
   have bf:¬(i:Int)<(i:Int):=by omega
   have a4:=ah.out;rw[HM.out,List.take_length]at a4;have a5:=a4.rd 0 19 (by omega);rw[show(fun i=>j0 l (0+i))=j0 l from funext fun i=>by rw[Nat.zero_add]]at a5;have a6:∀j,j0 l j<=1000000:=fun j=>by have:=rb l j;have:=HM.out;omega
   have a7:=BV wr (some ⟨h,0,none⟩) 19 (jR (j0 l) 19) 7 a5 (fun h=>by cases h) (by rw[mQ];omega) (fun j hj=>by rw[mQ]at hj;rw[uP _ hj];have:=a6 j;omega) (by omega) (by omega);obtain⟨e1,e2⟩:=Ci (c:=j0 l) (n:=19) (fh:=7) (by omega) (by omega) (by omega) (by decide) (fun j=>by have:=a6 j;omega);rw[show((7:Nat):Int)=7 from rfl]at e1 e2;rw[mQ,e1,e2]at a7;have bE:=fa a7;clear a7 e1 e2 a6 a5 a4;go_wp2_with fail
   refine bE.out.mono ?_;rintro e w3 ⟨A',c',rfl,al,aX,bF,bG,bq,br⟩;have bH:=fa br;have bt:=fa aX;have bI:=fa bq;have a2:=fa (HB.out.trans (al.mono (by have:=ah.out.lt;omega)))
   clear aX bq al br;go_wp2;go_ret;exact⟨A',c',rfl,bt.out,bF,bG,bI.out,fun b o e=>by have:=bH.out b o e;have:=HB.out.size;omega,by rw[hle];exact a2.out⟩
def nM(t:fi):Nat:=if t.n=0 then 0 else(iN t.n).toNat+(jo t.d).toNat
def kD(l:List fi):Nat:=(l.map nM).sum
theorem IQ(l:List fi)(t:fi):kD (l++[t])=kD l+nM t:=by unfold kD;simp
def mj(l:List fi)(i:Nat):Nat:=if i<286 then l.countP (fun t=>decide (iP t=i))else if i<316 then iq l (i-286)else kD l
theorem RS(l:List fi)(t:fi)(i:Nat):mj (l++[t]) i=mj l i+(if i<286 then(if iP t=i then 1 else 0)else if i<316 then(if t.n≠0/\kl t=i-286 then 1 else 0)else nM t):=by
 unfold mj;split
 ·rw[List.countP_append,List.countP_singleton];simp only[decide_eq_true_eq]
 ·split
  ·rw[zx]
  ·rw[IQ]
theorem RU(l:List fi)(i:Nat)(hi:i<316):mj l i<=l.length:=by
 unfold mj;split
 ·exact List.countP_le_length
 ·exact rZ _ _
theorem RW{t:fi}(h:fH t=true)(hx:t.x<256):nM t<=18:=by
 unfold nM;by_cases h0:t.n=0
 ·rw[if_pos h0];omega
 ·rw[if_neg h0];obtain⟨ad,ah,_⟩:=(mR h hx).2.2 h0;obtain⟨_,_,_,_,_,_,p3,p4⟩:=ta ad;obtain⟨_,_,_,_,_,_,q3,q4⟩:=tb ah;omega
theorem Cj:∀l:List fi,(∀t∈l,fH t=true/\t.x<256)->kD l<=18*l.length
 |[],_=>by simp[kD]
 |t::l,h=>by
  have h1:=RW (h t List.mem_cons_self).1 (h t List.mem_cons_self).2;have h2:=Cj l fun u hu=>h u (List.mem_cons_of_mem _ hu)
  have e:kD (t::l)=nM t+kD l:=by simp[kD]
  rw[e,List.length_cons];omega
def kg(l:List fi)(i:Nat):Nat:=if i=256 then 1 else mj l i
theorem IS{l:List fi}(h:∀t∈l,fH t=true/\t.x<256){i:Nat}(hi:i<286):kg l i=iC l i:=by
 unfold kg iC mj;by_cases e:i=256
 ·subst e;rw[if_pos rfl,if_pos rfl];have:l.countP (fun t=>decide (iP t=256))=0:=by
   rw[List.countP_eq_zero];intro t ht;obtain⟨_,h1,h2⟩:=mR (h t ht).1 (h t ht).2;have hx:=(h t ht).2;simp only[decide_eq_true_eq];by_cases h0:t.n=0
   ·have:=h1 h0;omega
   ·have:=(h2 h0).2.2.1;omega
  omega
 ·rw[if_neg e,if_pos hi,if_neg e];omega
theorem IT(l:List fi){i:Nat}(hi:i<30):kg l (286+i)=iq l i:=by
 unfold kg mj;rw[if_neg (by omega),if_neg (by omega),if_pos (by omega),show 286+i-286=i by omega]
theorem RX(l:List fi):kg l 316=kD l:=by
 unfold kg mj;rw[if_neg (by omega),if_neg (by omega),if_neg (by omega)]
theorem RY:prog.built 153 []=some (jk (fun _=>0) 317):=by kernel_rfl
theorem IU(w:au)(A:Option aw)(m c:Nat)(l:List fi)(hm:m=l.length)(hr:j5 w w.heap.size A l)(cE:m<=1000000)(bL:∀t∈l,fH t=true/\t.x<256):
  ax prog 46 #[af A m c] w fun e w'=>e=aq (ag (some ⟨w.heap.size,0,none⟩))/\iw w' w.heap.size 317 (kg l) 153/\aS w.heap.size w w':=by
 have bu:=RY
 obtain⟨Z,hZ⟩:∃Z:Array ay,Z=jk (fun _=>0) 317:=⟨_,rfl⟩
 rw[<-hZ]at bu
 obtain⟨h,hh⟩:=fb (w.heap.size)
 obtain⟨W1,a5⟩:=fb (w.alloc (ao Z 153))
 have bM:aS h w W1:=by rw[a5,hh];exact fz.alloc fe _
 have bN:iw W1 h 317 (mj (l.take 0)) 153:=by
  unfold iw;rw[a5,hh,aH,hZ];refine congrArg (fun a=>some (Obj.cells a 153 (0,0))) (uS fun k hk=>?_);simp[mj,iq,kD]
 rw[<-hh]at hr⊢
 have HM:=fa hm;have HR:=fa hr;have bO:=fa bL;have cb:=fa bM;have cf:=fa bN;have cg:=fa a5;have HH:=fa hh;have ch:=fa bu
 clear hm hr bL bM bN a5 hh hZ bu
 go_enter func46,ntmps46
 go_wp2_with (first|(refine aE rfl 153 #[] rfl (some 14) rfl Z ?_ ?_;focus(simpa[Act.eval]using ch.out))|rw[<-cg.out,<-HH.out]|fail)
 go_loopw [18] (fun iv wr=>∃i:Nat,i<=m/\iv=ae ak (i:Int)/\aR (iw wr h 317 (mj (l.take i)) 153)/\aR (aS h w wr)) (fun iv _=>m-(aQ iv).toNat)
 case atStart=>exact⟨0,Nat.zero_le _,rfl,cf,cb⟩
 case round=>
  obtain⟨i,hi,rfl,bx,HB⟩:=hrel;have hle:w.heap.size=h:=HH.out.symm;have cH:h<wr.heap.size:=bx.out.lt;by_cases cj:i<m
  ·have bP:(i:Int)<(m:Int):=by omega
   have aY:i<l.length:=by rw[<-HM.out];exact cj
   have a6:j5 wr h A l:=HR.out.below HB.out fe;obtain⟨b,o,rfl,cI,hc⟩:=a6.at aY;have a7:=a6.range rfl aY;have aZ:l.getD i gH∈l:=by rw[List.getD_eq_getElem?_getD,List.getElem?_eq_getElem aY];exact List.getElem_mem aY
   obtain⟨av,aU⟩:=bO.out _ aZ;have a8:=VO aY;have bQ:(l.take i).length<=1000000:=by rw[List.length_take];omega
   have a1:∀t∈l.take i,fH t=true/\t.x<256:=fun t ht=>bO.out t (List.mem_of_mem_take ht)
   have bz:=Cj _ a1;obtain⟨t,ht⟩:=fb (l.getD i gH);rw[<-ht]at a7 av aU a8;have ad:=RS (l.take i) t;rw[<-a8]at ad;have aT:=RU (l.take i);have a2:mj (l.take i) 316=kD (l.take i):=by unfold mj;rw[if_neg (by omega),if_neg (by omega)]
   obtain⟨C,hC⟩:=fb (mj (l.take i));have hr:=bx.out;rw[<-hC]at ad aT a2 hr;obtain⟨W3,a3⟩:=fb (gi wr #[ae .u8 0,ae ak 0,ae ak 0] (gY t).toArray 36);have a9:aS wr.heap.size wr W3:=by rw[a3];exact km _ _ _ _
   have al:W3.heap[wr.heap.size]?=some (ao (gY t).toArray 36 (0,0)):=by rw[a3];exact kO wr _ _ _
   have y0:W3.cell? ⟨wr.heap.size,0,none⟩=some (ae .u8 (t.x:Int)):=(aI W3 _ 0 _ _ (0,0) al).trans rfl;have y1:W3.cell? ⟨wr.heap.size,1,none⟩=some (ae ak t.d):=(aI W3 _ 1 _ _ (0,0) al).trans rfl;have y2:W3.cell? ⟨wr.heap.size,2,none⟩=some (ae ak t.n):=(aI W3 _ 2 _ _ (0,0) al).trans rfl;have aV:=hr.below a9 hr.lt;have bR:=fa a7;have bA:=fa ad;have bS:=fa aT;have ck:=fa a2;have cl:=fa bz;have cJ:=fa av;have bB:=fa aV;have bf:=fa (HB.out.trans (a9.mono (by omega)));have bT:=fa a3
   have bU:wr.heap.size<W3.heap.size:=(Array.getElem?_eq_some_iff.1 al).1;by_cases h0:t.n=0
   ·have cm:(t.n==0)=true:=by rw[h0];rfl
    obtain⟨bC,bV,_⟩:=mR av aU;have bW:=bV h0;have k1:=aV.cell (i:=t.x) (by omega);have z1:=aV.frozen t.x;have bX:=aT t.x (by omega);have ah:=aV.set (T':=mj (l.take (i+1))) t.x (C t.x+1) (fun k hk=>by
     rw[ad k,bW];have e1:nM t=0:=by unfold nM;rw[if_pos h0]
     rw[e1];by_cases bD:k=t.x
     ·subst bD;rw[if_pos rfl,if_pos (by omega),if_pos rfl]
     ·rw[if_neg bD];by_cases h1:k<286
      ·rw[if_pos h1,if_neg (fun e=>bD e.symm)];rfl
      ·rw[if_neg h1];by_cases h2:k<316
       ·rw[if_pos h2,if_neg (fun e=>e.1 h0)];rfl
       ·rw[if_neg h2];rfl)
    obtain⟨q,hq⟩:=fb (t.x);obtain⟨V,hV⟩:=fb (C q);rw[<-hq]at k1 z1 bX ah y0 aU;rw[<-hV]at k1 ah bX;have eV:((V+1:Nat):Int)=(V:Int)+1:=by omega
    rw[eV]at ah;have cK:V<=1000000:=by omega
    have cA:(q:Int)<286:=by omega
    have a4:=fa ah.drew;clear a7 ad aT a2 bz aV a9 al a3 a8 ht hC bQ a1 a6 hc hr ah hV hq bC bV bW aZ av bS;go_wp2_with (first|refine aG rfl _ _ rfl b (o+i*3) rfl (gY t) _ bR.out underlying36 rfl mT ?_|refine aD rfl _ _ _ rfl rfl wr.heap.size (gY t).toArray rfl rfl 36 #[ae .u8 0,ae ak 0,ae ak 0] (aH wr _) (sH _) rfl (tY _) ?_;change wpList _ _ _ _ _ (gi wr #[ae .u8 0,ae ak 0,ae ak 0] (gY t).toArray 36);rw[<-bT.out])
    go_region;go_wp2;go_roundw
    case rel=>exact⟨i+1,by omega,by go_num,a4,fa (bf.out.setCell fe _).drew⟩
    case measure=>simp[aQ];omega
   ·have cm:(t.n==0)=false:=by rw[beq_eq_false_iff_ne];exact h0
    obtain⟨_,_,bY⟩:=mR av aU;obtain⟨bg,bj,cn,cp⟩:=bY h0;have bC:=(mR av aU).1;obtain⟨_,_,_,_,_,_,p3,p4⟩:=ta bg;obtain⟨_,_,_,_,_,_,q3,q4⟩:=tb bj;obtain⟨S,hS⟩:=fb (iP t);obtain⟨D,hD⟩:=fb (kl t);have eS:gv t.n=(S:Int):=by
     have h5:3<=t.n/\t.n<=258:=uN bg;have:0<=gv t.n:=by unfold gv;rw[if_pos h5];omega
     rw[hS];unfold iP;rw[if_neg h0];omega
    have eD:gE t.d=(D:Int):=by
     have h5:1<=t.d/\t.d<=32768:=wT bj;have:0<=gE t.d:=by unfold gE;rw[if_pos h5];omega
     rw[hD];unfold kl;omega
    obtain⟨u,eu⟩:=Int.eq_ofNat_of_zero_le p3;obtain⟨v,ev⟩:=Int.eq_ofNat_of_zero_le q3;have bZ:nM t=u+v:=by unfold nM;rw[if_neg h0,eu,ev];rfl
    have bE:=fun V:au=>Gl V t.n
    have bF:=fun V:au=>Gm V t.d
    rw[eS,eu,bg]at bE;rw[eD,ev,bj]at bF;rw[eu]at p4;rw[ev]at q4;rw[<-hS]at bC cn;rw[<-hD]at cp;have b0:=aT S (by omega);have b1:=aT (286+D) (by omega);obtain⟨VS,bG⟩:=fb (C S);obtain⟨VD,bH⟩:=fb (C (286+D));obtain⟨VX,bI⟩:=fb (C 316);rw[<-bG]at b0;rw[<-bH]at b1;rw[<-bI]at a2;have cB:VS<=1000000:=by omega
    have cC:VD<=1000000:=by omega
    have cD:VX<=18000000:=by omega
    have cq:=fa bE;have cr:=fa bF;have b2:=fa bG;have b3:=fa bH;have b4:=fa bI;have ct:=fa bZ;have HS:=fa hS;have HD:=fa hD
    clear bE bF bG bH bI bZ hS hD eS eD eu ev bg bj bY b0 b1 a2 a7 ad aT bz aV a9 al a3 a8 ht hC bQ a1 a6 hc hr aZ av bS ck cl y0 aU;go_wp2_with (first|refine aG rfl _ _ rfl b (o+i*3) rfl (gY t) _ bR.out underlying36 rfl mT ?_|refine aD rfl _ _ _ rfl rfl wr.heap.size (gY t).toArray rfl rfl 36 #[ae .u8 0,ae ak 0,ae ak 0] (aH wr _) (sH _) rfl (tY _) ?_;change wpList _ _ _ _ _ (gi wr #[ae .u8 0,ae ak 0,ae ak 0] (gY t).toArray 36);rw[<-bT.out]|fail)
    refine(cq.out W3).mono ?_;rintro e w4 ⟨rfl,bl⟩;have cu:=(bl.cell (p:=⟨wr.heap.size,1,none⟩) bU).trans y1;have bn:=fa (bB.out.below bl (by have:=bf.out.size;omega));have b5:=fa (bf.out.trans (bl.mono (by have:=bB.out.lt;omega)))
    clear bl y1 y2 bB bf bU;go_wp2_with fail
    refine(cr.out w4).mono ?_;rintro e w5 ⟨rfl,bJ⟩;have bq:=bn.out.below bJ bn.out.lt;have cv:=fa (b5.out.trans (bJ.mono (by have:=bn.out.lt;omega)));clear bJ cu bn b5;have k1:=bq.cell (i:=S) (by omega);have z1:=bq.frozen S;rw[<-b2.out]at k1;have aW:=(bq.set (T':=fun k=>if k=S then VS+1 else C k) S (VS+1) (fun _ _=>rfl)).drew;have b6:((VS+1:Nat):Int)=(VS:Int)+1:=by omega
    rw[b6]at aW;obtain⟨W6,br⟩:=fb ((w5.setCell ⟨h,S,none⟩ (ae ak ((VS:Int)+1))).drew);rw[<-br]at aW;have k2:=aW.cell (i:=286+D) (by omega);rw[if_neg (by omega),<-b3.out]at k2;have z2:=aW.frozen (286+D);have aX:=(aW.set (T':=fun k=>if k=286+D then VD+1 else if k=S then VS+1 else C k) (286+D) (VD+1) (fun _ _=>rfl)).drew;have b7:((VD+1:Nat):Int)=(VD:Int)+1:=by omega
    rw[b7]at aX;obtain⟨W7,bt⟩:=fb ((W6.setCell ⟨h,286+D,none⟩ (ae ak ((VD:Int)+1))).drew);rw[<-bt]at aX;have k3:=aX.cell (i:=316) (by omega);rw[if_neg (by omega),if_neg (by omega),<-b4.out]at k3;have z3:=aX.frozen 316;have bK:=aX.set (T':=mj (l.take (i+1))) 316 (VX+(u+v)) (fun k hk=>by
     rw[bA.out k,ct.out,<-HS.out,<-HD.out];by_cases h1:k=316
     ·subst h1;rw[if_pos rfl,if_neg (by omega),if_neg (by omega),b4.out]
     ·rw[if_neg h1];by_cases h2:k=286+D
      ·rw[if_pos h2,if_neg (by omega),if_pos (by omega),if_pos ⟨h0,by omega⟩,b3.out,h2]
      ·rw[if_neg h2];by_cases h3:k=S
       ·rw[if_pos h3,if_pos (by omega),if_pos h3.symm,b2.out,h3]
       ·rw[if_neg h3];by_cases h4:k<286
        ·rw[if_pos h4,if_neg (fun e=>h3 e.symm)];rfl
        ·rw[if_neg h4,if_pos (by omega),if_neg (fun e=>h2 (by omega))];rfl)
    have b8:((VX+(u+v):Nat):Int)=(VX:Int)+((u:Int)+(v:Int)):=by omega
    rw[b8]at bK;have b9:aS h w W6:=by rw[br];exact(cv.out.setCell fe _).drew
    have ca:aS h w W7:=by rw[bt];exact(b9.setCell fe _).drew
    have cw:=fa bK;have cx:=fa (ca.setCell (p:=⟨h,316,none⟩) fe (ae ak ((VX:Int)+((u:Int)+(v:Int)))));have cy:=fa br;have cz:=fa bt
    have cL:(S:Int)<286:=by omega
    have cM:(D:Int)<30:=by omega
    clear bq aW aX bK b9 ca br bt b6 b7 b8;go_wp2;go_region;rw[<-cy.out];go_wp2;go_region;rw[<-cz.out];go_wp2;go_roundw
    case rel=>exact⟨i+1,by omega,by go_num,cw,cx⟩
    case measure=>simp[aQ];omega
  ·obtain rfl:i=m:=by omega
   have bP:¬(i:Int)<(i:Int):=by omega
   have hr:=bx.out;rw[HM.out,List.take_length]at hr;have k1:=hr.cell (i:=256) (by omega);have z1:=hr.frozen 256;have ah:=hr.set (T':=kg l) 256 1 (fun k _=>by unfold kg;rfl);have a4:=fa ah;clear ah hr;go_wp2;go_ret;exact⟨rfl,a4.out,HB.out.setCell fe _⟩
theorem IV{c d:Nat->Nat}{n:Nat}(h:∀i,i<n->c i=d i):jR c n=jR d n:=by
 unfold jR;exact List.map_congr_left fun i hi=>by rw[h i (List.mem_range.1 hi)]
theorem fB.part{w:au}{B n m:Nat}{A:Option aw}{f:Nat->Nat}(h:fB w B A n f)(hm:m<=n):fB w B A m f:=⟨h.1,fun h0=>by
 obtain⟨b,o,e,hb,hc⟩:=h.2 (by omega);exact⟨b,o,e,hb,fun j hj=>hc j (by omega)⟩⟩
theorem IW(w:au)(g:Nat)(l:List fi)(hg:iw w g 317 (kg l) 153)(hl:l.length<=1000000)(a6:∀t∈l,fH t=true/\t.x<256):
  ax prog 88 #[ag (some ⟨g,0,none⟩)] w fun e w'=>∃A1 c1 A2 c2,e=aq (.tuple #[af A1 (nA l) c1,af A2 (nB l) c2])/\fq w' w'.heap.size A1 (nA l) c1 (ja l)/\fq w' w'.heap.size A2 (nB l) c2 (jb l)/\(∀b o,A1=some ⟨b,o,none⟩->w.heap.size<=b)/\(∀b o,A2=some ⟨b,o,none⟩->w.heap.size<=b)/\aS w.heap.size w w':=by
 obtain⟨e1,e2⟩:=Ci (c:=iC l) (n:=286) (fh:=15) (by omega) (by omega) (by omega) (by decide) (fun i=>by have:=tj l i;omega)
 obtain⟨e3,e4⟩:=Ci (c:=iq l) (n:=30) (fh:=15) (by omega) (by omega) (by omega) (by decide) (fun i=>by have:=rZ l i;omega)
 rw[show((15:Nat):Int)=15 from rfl]at e1 e2 e3 e4
 obtain⟨_,_,_,_,a1,a2,b1,b2,_⟩:=lO l hl
 have ad:iM w w.heap.size (some ⟨g,0,none⟩) (jR (iC l) 286):=by
  have:=hg.rd 0 286 (by omega);rwa[IV (d:=iC l) (fun i hi=>by rw[Nat.zero_add];exact IS a6 hi)]at this
 have ah:iM w w.heap.size (some ⟨g,286,none⟩) (jR (iq l) 30):=by
  have:=hg.rd 286 30 (by omega);rwa[IV (d:=iq l) (fun i hi=>IT l hi)]at this
 have h1:=BV w (some ⟨g,0,none⟩) 286 (jR (iC l) 286) 15 ad (fun h=>by cases h) (by rw[mQ];omega) (fun j hj=>by rw[mQ]at hj;rw[uP _ hj];have:=tj l j;omega) (by omega) (by omega)
 rw[mQ,e1,e2]at h1
 have h2:=fun(V:au) (hV:aS w.heap.size w V)=>BV V (some ⟨g,286,none⟩) 30 (jR (iq l) 30) 15 ((ah.below hV fe).more hV.size) (fun h=>by cases h) (by rw[mQ];omega) (fun j hj=>by rw[mQ]at hj;rw[uP _ hj];have:=rZ l j;omega) (by omega) (by omega)
 rw[mQ,e3,e4]at h2
 have H1:=fa h1;have H2:=fa h2
 have al:nA l=Vj (lM (iC l) 286 15) 257 286:=rfl
 have av:nB l=Vj (lM (iq l) 30 15) 1 30:=rfl
 have aY:ja l=lM (iC l) 286 15:=rfl
 have aZ:jb l=lM (iq l) 30 15:=rfl
 rw[<-aY]at al
 rw[<-aZ]at av
 obtain⟨nl,aT⟩:=fb (nA l)
 obtain⟨nd,aU⟩:=fb (nB l)
 obtain⟨F,hF⟩:=fb (ja l)
 obtain⟨G,hG⟩:=fb (jb l)
 rw[<-aY,<-hF]at h1
 rw[<-aZ,<-hG]at h2
 rw[<-aT,<-hF]at al
 rw[<-aU,<-hG]at av
 rw[<-aT]at a1 a2
 rw[<-aU]at b1 b2
 rw[<-aT,<-aU,<-hF,<-hG]
 have H1:=fa h1;have H2:=fa h2;have bf:=fa al;have bg:=fa av
 clear h1 h2 e1 e2 e3 e4 ad ah al av aY aZ aT aU hF hG hg a6
 go_enter func88,ntmps88
 go_wp2_with fail
 refine H1.out.mono ?_
 rintro e w1 ⟨A1,c1,rfl,a3,ad,p1,p2,p3,p4⟩
 have bj:=fa p4
 have aV:=fa a3;have a7:=fa ad;have bl:=fa p3
 have a8:=fa (H2.out w1 a3)
 clear a3 ad p3 p4 H1 H2
 go_wp2_with fail
 refine a8.out.mono ?_
 rintro e w2 ⟨A2,c2,rfl,aW,ah,q1,q2,q3,q4⟩
 have bn:aR (∀b o,A2=some ⟨b,o,none⟩->w.heap.size<=b):=fa fun b o e=>Nat.le_trans aV.out.size (q4 b o e)
 have aX:=fa ((a7.out.below aW fe).more aW.size);have bq:=fa (aV.out.trans (aW.mono aV.out.size));have a9:=fa ah;have br:=fa q3
 clear aW ah q3 q4 a8 aV a7
 have a4:=BW w2 A1 286 c1 F 257 aX.out p1 (by omega) (by omega)
 have a5:=BW w2 A2 30 c2 G 1 a9.out q1 (by omega) (by omega)
 rw[<-bf.out]at a4
 rw[<-bg.out]at a5
 have bt:=fa a4;have bu:=fa a5
 clear a4 a5
 go_wp2_with fail
 refine bt.out.mono ?_
 rintro e w3 ⟨rfl,rfl⟩
 go_wp2_with fail
 refine bu.out.mono ?_
 rintro e w4 ⟨rfl,rfl⟩
 go_wp2
 go_ret2
 exact⟨A1,c1,A2,c2,rfl,⟨aX.out.part a2,bl.out,by omega,by unfold maxLen;omega⟩,⟨a9.out.part b2,br.out,by omega,by unfold maxLen;omega⟩,bj.out,bn.out,bq.out⟩
theorem IX(w:au)(kind:Nat)(A1:Option aw)(rn rc:Nat)(A2:Option aw)(m c2:Nat)(l:List fi)(bx:kind<256)(hm:m=l.length)(hr:j5 w w.heap.size A2 l)(bz:m<=1000000)(bA:rn<=1000000)(a2:∀t∈l,qz t):
  ax prog 43 #[ae .u8 (kind:Int),af A1 rn rc,af A2 m c2] w fun e w'=>e=aq (ae ak (my kind rn l))/\aS w.heap.size w w':=by
 obtain⟨E,hE⟩:=fb (my kind rn l)
 rw[<-hE]
 have HE:=fa hE;have HR:=fa hr;have HM:=fa hm;have bn:=fa a2
 have al:=fa (Below.refl w.heap.size w)
 clear hE hr hm a2
 by_cases y0:2<kind
 ·have d0:decide (2<(kind:Int))=true:=by simp;omega
  obtain rfl:E=2:=by rw[HE.out];unfold my;rw[if_pos y0]
  go_enter func43,ntmps43
  go_wp2;go_ret;exact⟨rfl,al.out⟩
 have d0:decide (2<(kind:Int))=false:=jd (by omega)
 by_cases y1:65535<rn
 ·have d1:decide (65535<(rn:Int))=true:=kc (by omega);obtain rfl:E=4:=by rw[HE.out];unfold my;rw[if_neg y0,if_pos (.inl y1)]
  go_enter func43,ntmps43
  go_wp2;go_ret;exact⟨rfl,al.out⟩
 have d1:decide (65535<(rn:Int))=false:=jd (by omega)
 by_cases y2:65535<m
 ·have d2:decide (65535<(m:Int))=true:=kc (by omega);obtain rfl:E=4:=by rw[HE.out];unfold my;rw[if_neg y0,if_pos (.inr (by rw[<-HM.out];exact y2))]
  go_enter func43,ntmps43
  go_wp2;go_ret;exact⟨rfl,al.out⟩
 have d2:decide (65535<(m:Int))=false:=jd (by omega)
 have a3:E=if l.all fH then 0 else 8:=by rw[HE.out];unfold my;rw[if_neg y0,if_neg (by rw[<-HM.out];omega)]
 have a4:=fa a3
 clear a3 HE
 go_enter func43,ntmps43
 go_wp2_with fail
 go_loopw [22] (fun iv wr=>∃i:Nat,i<=m/\iv=ae ak (i:Int)/\aR ((l.take i).all fH=true)/\aR (aS w.heap.size w wr)) (fun iv _=>m-(aQ iv).toNat)
 case atStart=>exact⟨0,Nat.zero_le _,rfl,fa (by simp),al⟩
 case round=>
  obtain⟨i,hi,rfl,HA,HB⟩:=hrel;by_cases bq:i<m
  ·have a5:(i:Int)<(m:Int):=by omega
   have ah:i<l.length:=by rw[<-HM.out];exact bq
   have aX:=HR.out.below HB.out fe;obtain⟨b,o,rfl,bB,hc⟩:=aX.at ah;have aY:=aX.range rfl ah;have ad:l.getD i gH∈l:=by rw[List.getD_eq_getElem?_getD,List.getElem?_eq_getElem ah];exact List.getElem_mem ah
   have aZ:=bn.out _ ad;have a1:=VO ah;obtain⟨t,ht⟩:=fb (l.getD i gH);rw[<-ht]at aY aZ a1 ad;obtain⟨W3,av⟩:=fb (gi wr #[ae .u8 0,ae ak 0,ae ak 0] (gY t).toArray 36);have a6:aS wr.heap.size wr W3:=by rw[av];exact km _ _ _ _
   have aU:W3.heap[wr.heap.size]?=some (ao (gY t).toArray 36 (0,0)):=by rw[av];exact kO wr _ _ _
   have aV:=GJ W3 t aZ;have br:=fa aY;have a7:=fa (HB.out.trans (a6.mono HB.out.size));have bt:=fa av;have a8:=fa aU;have a9:=fa aV;have bu:=fa a1;have bf:=fa ad
   clear aY a6 aU av a1 ht aX hc ad aZ aV;go_wp2_with (first|refine aG rfl _ _ rfl b (o+i*3) rfl (gY t) _ br.out underlying36 rfl mT ?_|refine aD rfl _ _ _ rfl rfl wr.heap.size (gY t).toArray rfl rfl 36 #[ae .u8 0,ae ak 0,ae ak 0] (aH wr _) (sH _) rfl (tY _) ?_;change wpList _ _ _ _ _ (gi wr #[ae .u8 0,ae ak 0,ae ak 0] (gY t).toArray 36);rw[<-bt.out]|refine aF rfl _ _ rfl wr.heap.size rfl _ (gY t).toArray (0,0) _ a8.out underlying36 rfl (sH _) ?_|fail)
   refine a9.out.mono ?_;rintro e w4 ⟨rfl,bg⟩;have bj:=fa (a7.out.trans (bg.mono a7.out.size));clear bg;by_cases aT:fH t=true
   ·have e0:pY t=0:=by unfold pY;rw[if_pos aT]
    rw[e0];have aW:(l.take (i+1)).all fH=true:=by rw[bu.out,List.all_append,HA.out];simp[aT]
    have bl:=fa aW;clear aW;go_wp2;go_roundw
    case rel=>exact⟨i+1,by omega,by go_num,bl,bj⟩
    case measure=>simp[aQ];omega
   ·have e0:pY t=8:=by unfold pY;rw[if_neg aT]
    rw[e0];obtain rfl:E=8:=by
     rw[a4.out,if_neg];intro h;exact aT (List.all_eq_true.1 h t bf.out)
    go_wp2;go_ret;exact⟨rfl,bj.out⟩
  ·obtain rfl:i=m:=by omega
   have a5:¬(i:Int)<(i:Int):=by omega
   have ha:=HA.out;rw[HM.out,List.take_length]at ha;obtain rfl:E=0:=by rw[a4.out,if_pos ha]
   clear ha;go_wp2;go_ret;exact⟨rfl,HB.out⟩
theorem RZ(w:au)(g:Nat)(l:List fi)(hg:iw w g 317 (kg l) 153)(hl:l.length<=1000000)(av:∀t∈l,fH t=true/\t.x<256)(A1:Option aw)(n1 c1:Nat)(F:Nat->Nat)(A2:Option aw)(n2 c2:Nat)(G:Nat->Nat)(h1:fB w w.heap.size A1 n1 F)(h2:fB w w.heap.size A2 n2 G)(k1 k2:Nat)(aU:k1=min n1 286)(aV:k2=min n2 30):
  ax prog 179 #[ag (some ⟨g,0,none⟩),af A1 n1 c1,af A2 n2 c2] w fun e w'=>e=aq (ae ak ((Vb (iC l) F k1+Vb (iq l) G k2+kD l:Nat):Int))/\aS w.heap.size w w':=by
 have hA:∀i,iC l i<=1000001:=fun i=>by have:=tj l i;omega
 have hB:∀i,iq l i<=1000000:=fun i=>by have:=rZ l i;omega
 have aT:=hg.lt
 have r1:∀V,aS w.heap.size w V->BX V g 0 286 (iC l):=fun V hV i hi=>by
  rw[Nat.zero_add,(hg.below hV aT).cell (by omega),IS av hi]
 have r2:∀V,aS w.heap.size w V->BX V g 286 30 (iq l):=fun V hV i hi=>by
  rw[(hg.below hV aT).cell (by omega),IT l hi]
 have x3:∀V,aS w.heap.size w V->V.cell? ⟨g,316,none⟩=some (ae ak ((kD l:Nat):Int)):=fun V hV=>by
  rw[(hg.below hV aT).cell (by omega),RX]
 have s1:=yq hA (fun j=>Nat.le_of_lt (h1.1 j)) k1
 have s2:=yq hB (fun j=>Nat.le_of_lt (h2.1 j)) k2
 have s3:=Cj l av
 obtain⟨S1,ad⟩:=fb (Vb (iC l) F k1)
 obtain⟨S2,ah⟩:=fb (Vb (iq l) G k2)
 obtain⟨S3,al⟩:=fb (kD l)
 have T1:aR (∀V,aS w.heap.size w V->ax prog 191 #[af (some ⟨g,0,none⟩) 286 286,af A1 n1 c1] V fun e w'=>e=aq (ae ak (S1:Int))/\aS w.heap.size w w'):=fa fun V hV=>by
  rw[ad];exact(IE V g 0 286 286 (iC l) A1 n1 c1 F (r1 V hV) (by have:=hV.size;omega) hA (by omega) ((h1.below hV fe).more hV.size) k1 aU).mono fun _ _ ⟨e,b⟩=>⟨e,hV.trans (b.mono hV.size)⟩
 have T2:aR (∀V,aS w.heap.size w V->ax prog 191 #[af (some ⟨g,286,none⟩) 30 30,af A2 n2 c2] V fun e w'=>e=aq (ae ak (S2:Int))/\aS w.heap.size w w'):=fa fun V hV=>by
  rw[ah];exact(IE V g 286 30 30 (iq l) A2 n2 c2 G (r2 V hV) (by have:=hV.size;omega) (fun i=>by have:=hB i;omega) (by omega) ((h2.below hV fe).more hV.size) k2 aV).mono fun _ _ ⟨e,b⟩=>⟨e,hV.trans (b.mono hV.size)⟩
 have aW:k1*(1000001*256)<=286*(1000001*256):=Nat.mul_le_mul_right _ (by omega)
 have aX:k2*(1000000*256)<=30*(1000000*256):=Nat.mul_le_mul_right _ (by omega)
 rw[<-ad]at s1
 rw[<-ah]at s2
 rw[<-al]at s3
 have q1:S1<=74000000000:=by omega
 have q2:S2<=8000000000:=by omega
 have q3:S3<=18000000:=by omega
 have k0:∀p:kN w.heap.size w,p.w.cell? ⟨g,316,none⟩=some (ae ak (S3:Int)):=fun p=>by rw[al];exact x3 p.w p.h
 rw[<-ad,<-ah,<-al]
 clear ad ah al s1 s2 s3 aW aX r1 r2 x3 hA hB hg av h1 h2 aU aV
 go_enter func179,ntmps179
 go_wp2
 refine qq w.heap.size w fz (by kernel_rfl) (by kernel_rfl) ?_
 repeat (go_big_quiet_step (first|(with_reducible exact mP T1.out _)|(with_reducible exact mP T2.out _)))
 refine wpQuiet_nil ?_
 rintro V ⟨⟨V,hV⟩,rfl⟩
 go_wp2
 go_ret
 exact⟨by first|rfl|go_num,hV⟩
theorem ks(v n:Int):prog.built 146 [(0,ae .u32 v),(1,ae ak n)]=some #[ae .u32 v,ae ak n]:=by kernel_rfl
theorem nN(w:au)(S:Nat->Prop)(B g:Nat)(f:Nat->Nat)(K:Nat)(P:List (Nat×Nat))(m:Nat)(hm:m=P.length)(cs:Array ay)(ad:cs.toList=VG P)(h:gq w S B g f K)(al:m<=1000)(ah:∀x∈P,pj x)(hk:K+UQ P<=16000000):
  ax prog 85 #[ag (some ⟨g,0,none⟩),af (some ⟨w.heap.size,0,none⟩) m m] (w.alloc (ao cs 146)) fun e w'=>e=aq (.tuple #[])/\gq w' S B g (fE f K P) (K+UQ P)/\fC S w w'/\aS B w w':=by
 have hb:=(Below.refl w.heap.size w).alloc fe (ao cs 146)
 have av:cs.size=m*2:=by rw[<-Array.length_toList,ad,DV,hm]
 have aT:tu (w.alloc (ao cs 146)) (w.alloc (ao cs 146)).heap.size (some ⟨w.heap.size,0,none⟩) P:=by
  have:=gR.new w 2 m cs 146 av;rw[ad,hm]at this;exact this
 refine(Pv _ _ B g f K (some ⟨w.heap.size,0,none⟩) m m P (h.grow hb) aT (fun b o _ e=>?_) hm al ah hk).mono fun e w' ⟨h1,h2,h3,h4⟩=>⟨h1,h2.less fun _ k=>.inl k,(fC.below h.top hb).tr (h3.less fun _ k=>.inl k),(hb.mono h.size).trans h4⟩
 injection e with e
 injection e with e1
 refine .inr ?_
 simp only[World.size_alloc];omega
theorem yu(w:au)(S:Nat->Prop)(B g:Nat)(f:Nat->Nat)(K:Nat)(h:gq w S B g f K)(hK:K<=16000000):
  ax prog 50 #[ag (some ⟨g,0,none⟩)] w fun e w'=>e=aq (ae ak (K:Int))/\w'=w.drew:=by
 obtain⟨_,A,c,hq⟩:=h
 obtain⟨z0,_,z2,_,_,_⟩:=hq.cells
 obtain⟨L,hL⟩:=fb (K/8)
 obtain⟨q,ad⟩:=fb (K%8)
 rw[<-hL]at z0
 rw[<-ad]at z2
 have ah:K=8*L+q:=by omega
 have al:L<=2000000:=by omega
 have av:q<8:=by omega
 clear hq hL ad hK
 subst ah
 go_enter func50,ntmps50
 go_wp2
 go_region
 go_wp2
 go_ret
 exact⟨by first|rfl|go_num,rfl⟩
theorem IY(w:au)(S:Nat->Prop)(B g:Nat)(f:Nat->Nat)(K n p:Nat)(h:gq w S B g f K)(hn:n<=65535)(hK:K<=15000000)(hp:p=(8-K%8)%8):
  ax prog 86 #[ag (some ⟨g,0,none⟩),ae ak (n:Int)] w fun e w'=>e=aq (.tuple #[])/\gq w' S B g (fE f K [(0,p),(n,16),(65535-n,16)]) (K+UQ [(0,p),(n,16),(65535-n,16)])/\fC S w w'/\aS B w w':=by
 have aU:p<8:=by omega
 have ah:UQ [(0,p),(n,16),(65535-n,16)]=p+32:=by simp[UQ]
 have ad:=nN w S B g f K [(0,p),(n,16),(65535-n,16)] 3 rfl #[ae .u32 0,ae ak (p:Int),ae .u32 (n:Int),ae ak 16,ae .u32 ((65535-n:Nat):Int),ae ak 16] rfl h (by omega) (fun x hx=>by
  simp only[List.mem_cons,List.not_mem_nil,or_false]at hx;rcases hx with rfl|rfl|rfl
  ·exact kB (Nat.two_pow_pos _) (by omega)
  ·exact kB (by omega) (by omega)
  ·exact kB (by omega) (by omega)) (by rw[ah];omega)
 obtain⟨_,A,c,hq⟩:=h
 obtain⟨_,_,z2,_,_,_⟩:=hq.cells
 obtain⟨q,al⟩:=fb (K%8)
 rw[<-al]at z2 hp
 have aV:q<8:=by omega
 have aW:((8:Int)-(q:Int)).tmod 8=(p:Int):=by rw[Int.tmod_eq_emod_of_nonneg (by omega)];omega
 have aX:((8:Int)-(q:Int))%8=(p:Int):=by omega
 have aT:(65535:Int)-(n:Int)=((65535-n:Nat):Int):=by omega
 obtain⟨y,hy⟩:=fb (65535-n)
 rw[<-hy]at ad aT⊢
 have aY:y<=65535:=by omega
 have av:=fa ad
 clear ad hq al hp ah hy
 go_enter func86,ntmps86
 go_wp2_with (first
  |(refine aE rfl 146 #[(0,.const (ae .u32 0)),(1,.tmp 12)] rfl (some 13) rfl #[ae .u32 0,ae ak (p:Int)] ?_ ?_;focus(simpa[Act.eval]using ks 0 (p:Int)))
  |(refine aE rfl 146 #[(0,.tmp 15),(1,.const (ae ak 16))] rfl (some 16) rfl #[ae .u32 (n:Int),ae ak 16] ?_ ?_;focus(simpa[Act.eval]using ks (n:Int) 16))
  |(refine aE rfl 146 #[(0,.tmp 19),(1,.const (ae ak 16))] rfl (some 20) rfl #[ae .u32 (y:Int),ae ak 16] ?_ ?_;focus(simpa[Act.eval]using ks (y:Int) 16))
  |fail)
 refine av.out.mono ?_
 rintro e w1 ⟨rfl,h1,h2,h3⟩
 have H1:=fa h1;have H2:=fa h2;have H3:=fa h3
 clear h1 h2 h3
 go_wp2
 go_end0
 exact⟨rfl,H1.out,H2.out,H3.out⟩
theorem rJ(a b c:ay):(prog.info? 99).map (·.size)=some #[a,b,c].size:=by kernel_rfl
theorem R0{w:au}{b:Nat}{a0 a1 a2:ay}{t:aC}(hz:w.heap[b]?=some (ao #[a0,a1,a2] t (0,0)))(x y z:ay):(((w.setCell ⟨b,0,none⟩ x).setCell ⟨b,1,none⟩ y).setCell ⟨b,2,none⟩ z).heap[b]?=some (ao #[x,y,z] t (0,0)):=by
 have h1:=aO w b 0 _ _ x hz;have h2:=aO _ b 1 _ _ y h1;have h3:=aO _ b 2 _ _ z h2;rw[h3];simp
theorem R6{w:au}{base sz n b:Nat}{e:aC}{v:ay}{xs:List ay}(h:w.ownsRow base e sz v n xs)(hb:b<base)(x y z:ay):(((w.setCell ⟨b,0,none⟩ x).setCell ⟨b,1,none⟩ y).setCell ⟨b,2,none⟩ z).ownsRow base e sz v n xs:=by
 have ad:∀j,v.ownBlock=some j->j≠b:=fun j hj=>by have:=(gP h j hj).1;omega
 exact iB (iB (iB h fun j hj=>Below.heap_setCell _ _ _ j (ad j hj)) fun j hj=>Below.heap_setCell _ _ _ j (ad j hj)) fun j hj=>Below.heap_setCell _ _ _ j (ad j hj)
theorem R8(w:au)(A:Option aw)(n c:Nat)(f:Nat->Nat)(k:Nat)(hr:fq w w.heap.size A n c f)(hk:k<=8388608)(hn:n=(k+7)/8):
  ax prog 44 #[ai #[af A n c,ae ak (k:Int)]] w fun e w'=>∃A' c',e=aq (ai #[af A' (k/8) c',ae .u64 ((ie n f (k/8):Nat):Int),ae ak ((k%8:Nat):Int)])/\w'.ownsRow w.heap.size 5 1 (af A' (k/8) c') (k/8) (ft (k/8) (ie n f))/\aS w.heap.size w w':=by
 obtain⟨L,hL⟩:=fb (k/8)
 obtain⟨q,hq⟩:=fb (k%8)
 obtain⟨W1,av⟩:=fb (w.alloc (ao #[af A n c,ae ak (k:Int)] 62))
 obtain⟨h,hh⟩:=fb (w.heap.size)
 obtain⟨W2,aT⟩:=fb (W1.alloc (ao #[af none 0 0,ae .u64 0,ae ak 0] 99))
 have h1:W1.heap[h]?=some (ao #[af A n c,ae ak (k:Int)] 62 (0,0)):=by rw[av,hh];exact aH w _
 have s1:W1.heap.size=h+1:=by rw[av,hh];simp
 have aZ:aS W1.heap.size W1 W2:=by rw[aT];exact fz.alloc fe _
 have b1:aS h w W1:=by rw[av,hh];exact fz.alloc fe _
 have b2:aS h w W2:=b1.trans (aZ.mono (by omega))
 have s2:W2.heap.size=h+2:=by rw[aT];simp[s1]
 have h2:W2.heap[h]?=some (ao #[af A n c,ae ak (k:Int)] 62 (0,0)):=(aZ.block h (by omega)).trans h1
 have g2:W2.heap[h+1]?=some (ao #[af none 0 0,ae .u64 0,ae ak 0] 99 (0,0)):=by rw[aT,<-s1];exact aH W1 _
 rw[<-hL,<-hq,<-hh]
 rw[<-hh]at hr
 have a5:=fa hr
 have aU:=(hr.below b2 fe).more (show h<=W2.heap.size by omega)
 have p0:W2.cell? ⟨h,0,none⟩=some (af A n c):=(aI W2 _ 0 _ _ (0,0) h2).trans rfl
 have p1:W2.cell? ⟨h,1,none⟩=some (ae ak (k:Int)):=(aI W2 _ 1 _ _ (0,0) h2).trans rfl
 have bt:L<=n:=by omega
 have bL:=hr.2.2.1
 have a6:=fun(V:au) (hV:aS W2.heap.size W2 V)=>GK V A L c f ⟨((aU.below hV fe).more hV.size).1.part bt,aU.2.1,by omega,aU.2.2.2⟩ (by omega)
 have bM:(k:Int)/8=(L:Int):=by omega
 have bH:(k:Int).tdiv 8=(L:Int):=by rw[Int.tdiv_eq_ediv_of_nonneg (by omega)];omega
 have bN:(k:Int)%8=(q:Int):=by omega
 have bI:(k:Int).tmod 8=(q:Int):=by rw[Int.tmod_eq_emod_of_nonneg (by omega)];omega
 have bO:L<=c:=by omega
 have bJ:¬(c:Int)<(L:Int):=by omega
 have aW:h<W2.heap.size:=by omega
 have hX:(W2.alloc (ao #[af none 0 0,ae .u64 0,ae ak 0] 99)).heap[h+2]?=some (ao #[af none 0 0,ae .u64 0,ae ak 0] 99 (0,0)):=by rw[<-s2];exact aH W2 _
 have bu:=fa a6;have HR:=fa aU;have bx:=fa av;have bz:=fa aT;have HH:=fa hh;have bA:=fa b2;have G2:=fa g2;have HL:=fa hL;have HQ:=fa hq;have HN:=fa hn;have bP:=fa s1
 have bd:aS W2.heap.size W2 W2.drew:=fz.drew
 clear a6 hr aU av aT hh h1 h2 g2 aZ b1 b2 hL hq hn s1
 go_enter func44,ntmps44
 go_wp2_with (first|rw[<-bx.out,<-HH.out,<-bz.out]|fail)
 go_cut [4] (fun v4 wx=>∃X A' c',v4=ag (some ⟨X,0,none⟩)/\wx.heap[X]?=some (ao #[af A' L c',ae .u64 0,ae ak (q:Int)] 99 (0,0))/\wx.ownsRow W2.heap.size 5 1 (af A' L c') L (ft L f)/\W2.heap.size<=X/\aS W2.heap.size W2 wx)
 case first=>
  go_region_law ((refine qu rfl 84 _ _ rfl (enters_of func84 (by kernel_rfl) rfl) (#[af A L c]) (by simp[Act.put,Act.eval,List.setIfInBounds_toArray,List.set_cons_zero,List.set_cons_succ]) (bu.out _ (by first|assumption|exact bd.alloc fe _|exact((Below.refl W2.heap.size W2).alloc fe _).drew)) ?_;rintro e w6 ⟨A',c',rfl,a7,ad⟩;(first|(have bB:=(ad.cell (p:=⟨h,1,none⟩) (by first|exact aW|(simp;omega))).trans p1)|(have bB:=(ad.cell (p:=⟨h,1,none⟩) (by first|exact aW|(simp;omega))).trans (((Below.refl W2.heap.size W2).alloc fe _).cell (p:=⟨h,1,none⟩) aW|>.trans p1))|skip);(first|(have hz:=(ad.block (h+2) (by simp;omega)).trans hX;have al:=(aI w6 (h+2) 0 _ _ (0,0) hz).trans rfl;have bQ:=(aI w6 (h+2) 1 _ _ (0,0) hz).trans rfl;have bR:=(aI w6 (h+2) 2 _ _ (0,0) hz).trans rfl;have bS:=aP w6 (h+2) 0 _ _ hz;have bT:=aP w6 (h+2) 1 _ _ hz;have bU:=aP w6 (h+2) 2 _ _ hz)|skip);have bV:h<w6.heap.size:=(by have:=ad.size;simp at this;omega);refine⟨_,rfl,?_⟩))
  all_goals(
   go_wp2_with fail
   go_meet;first
    |(refine⟨w6.heap.size,A',c',rfl,?_⟩
      have k1:=a7.alloc (ao #[af A' L c',ae .u64 0,ae ak (q:Int)] 99)
      have k2:=(ad.mono (show W2.heap.size<=_ by simp)).alloc ad.size (ao #[af A' L c',ae .u64 0,ae ak (q:Int)] 99)
      refine⟨aH w6 _,rj k1 (by simp),ad.size,bd.trans k2⟩)
    |(refine⟨h+2,A',c',rfl,?_⟩
      have k1:=R6 (b:=h+2) a7 (by simp;omega) (af A' L c') (ae .u64 0) (ae ak (q:Int))
      have k2:=(((ad.mono (show W2.heap.size<=_ by simp)).setCell (p:=⟨h+2,0,none⟩) (by show W2.heap.size<=h+2;omega) (af A' L c')).setCell (p:=⟨h+2,1,none⟩) (by show W2.heap.size<=h+2;omega) (ae .u64 0)).setCell (p:=⟨h+2,2,none⟩) (by show W2.heap.size<=h+2;omega) (ae ak (q:Int))
      refine⟨R0 hz _ _ _,rj k1 (by simp),by omega,?_⟩
      exact(((Below.refl W2.heap.size W2).alloc fe _).drew).trans k2))
 case rest=>
  obtain⟨X,A',c',rfl,hx,ho,a8,hb⟩:=hcut;obtain⟨wx,rfl⟩:∃wx:au,wx=wc:=⟨_,rfl⟩;have bK:h+1<wx.heap.size:=by have:=hb.size;omega
  have e0:=(aI wx X 0 _ _ (0,0) hx).trans rfl;have e2:wx.cell? ⟨X,2,none⟩=some (ae ak (q:Int)):=(aI wx X 2 _ _ (0,0) hx).trans rfl;have f1:=aP wx X 1 _ _ hx;have e1:wx.cell? ⟨X,1,none⟩=some (ae .u64 0):=(aI wx X 1 _ _ (0,0) hx).trans rfl;have bW:wx.cell? ⟨h,0,none⟩=some (af A n c):=(hb.cell (p:=⟨h,0,none⟩) aW).trans p0;have g2:=(hb.block (h+1) (by omega)).trans G2.out;have bX:=fa a8;have bY:h+2<=X:=by omega
  have aX:ie n f L=if 0<q then f L else 0:=by
   unfold ie;have h1:=HL.out;have h2:=HQ.out;have h3:=HN.out
   by_cases h0:0<q
   ·rw[if_pos h0,if_pos (by omega)]
   ·rw[if_neg h0,if_neg (by omega)]
  have aY:∀{V:au},V.ownsRow W2.heap.size 5 1 (af A' L c') L (ft L f)->V.ownsRow h 5 1 (af A' L c') L (ft L (ie n f)):=fun{V} hV=>by
   have h1:=rj hV (show h<=W2.heap.size by omega);rwa[rf (g:=ie n f) (fun j hj=>by unfold ie;rw[if_pos (by omega)])]at h1
  have ah:=fa ho;have a9:=fa aX;have bf:aR (∀V:au,V.ownsRow W2.heap.size 5 1 (af A' L c') L (ft L f)->V.ownsRow h 5 1 (af A' L c') L (ft L (ie n f))):=fa fun V hV=>aY hV;have a1:=fa (bA.out.trans (hb.mono (by omega)));have HX:=fa hx;have a2:=fa g2
  clear a8 ho aX aY hb hx g2 p0 p1 bd e0;by_cases bC:0<q
  ·have dq:decide (0<(q:Int))=true:=kc (by omega);have bg:L<n:=by have:=HL.out;have:=HQ.out;have:=HN.out;omega
   have bZ:(L:Int)<(n:Int):=by omega
   obtain⟨b,o,rfl,bD,hc⟩:=a5.out.1.2 (by omega);have kb:=(a1.out.cell (p:=⟨b,o+L,none⟩) bD).trans (hc L bg);have al:ie n f L=f L:=by rw[a9.out,if_pos bC]
   obtain⟨y,hy⟩:=fb (f L);have b0:y<256:=by rw[hy];exact a5.out.1.1 L
   rw[<-hy]at kb al;obtain⟨U,hU⟩:=fb (wx.setCell ⟨X,1,none⟩ (ae .u64 (y:Int)));have bj:U.heap[X]?=some (ao #[af A' L c',ae .u64 (y:Int),ae ak (q:Int)] 99 (0,0)):=by rw[hU];exact(aO wx X 1 _ _ _ HX.out).trans (by simp)
   have bl:U.heap[h+1]?=some (ao #[af none 0 0,ae .u64 0,ae ak 0] 99 (0,0)):=by rw[hU];exact(Below.heap_setCell wx _ _ (h+1) (by show h+1≠X;omega)).trans a2.out
   have bn:U.ownsRow h 5 1 (af A' L c') L (ft L (ie n f)):=by rw[hU];exact bf.out _ (iB ah.out fun j hj=>Below.heap_setCell wx _ _ j (me ah.out HX.out (by kernel_rfl)<|hj.trans<|congrArg some ·))
   have bq:aS h w U:=by rw[hU];exact a1.out.setCell (by show h<=X;omega) _
   have aV:∀j,(Value.slice A' L c').ownBlock=some j->j≠h+1:=fun j hj=>by have:=(gP ah.out j hj).1;omega
   have bE:=fa bj;have br:=fa bl;have bF:=fa bn;have bG:=fa bq;have HU:=fa hU;have a3:=fa al;have a4:=fa aV
   clear bj bl bn bq hU al hy hc aV;go_wp2_with (first
    |(refine aF rfl _ _ rfl X rfl _ #[af A' L c',ae .u64 (y:Int),ae ak (q:Int)] (0,0) _ (by rw[<-HU.out];exact bE.out) underlying99 rfl (rJ _ _ _) ?_;rw[<-HU.out])
    |(refine aD rfl _ _ _ rfl rfl (h+1) #[af A' L c',ae .u64 (y:Int),ae ak (q:Int)] rfl rfl 99 #[af none 0 0,ae .u64 0,ae ak 0] br.out (rJ _ _ _) rfl (by simp[Value.oneCell']) ?_)
    |fail)
   rw[a3.out];refine aL (v:=ai #[af A' L c',ae .u64 (y:Int),ae ak (q:Int)]) ?_ rfl ⟨A',c',rfl,iB bF.out fun j hj=>aM _ _ _ _ (a4.out j hj),pZ bG.out (by omega) _⟩;exact results_cell_row rfl _ _ (h+1) _ _ (0,0) _ rfl (aJ _ _ _ _ _ _ br.out) underlying99 rfl (rJ _ _ _)
  ·obtain rfl:q=0:=by omega
   have dq:decide (0<((0:Nat):Int))=false:=jd (by omega);have al:ie n f L=0:=by rw[a9.out,if_neg (by omega)]
   have aV:∀j,(Value.slice A' L c').ownBlock=some j->j≠h+1:=fun j hj=>by have:=(gP ah.out j hj).1;omega
   have a3:=fa al;have a4:=fa aV
   clear al aV;go_wp2_with (first
    |(refine aF rfl _ _ rfl X rfl _ #[af A' L c',ae .u64 0,ae ak ((0:Nat):Int)] (0,0) _ HX.out underlying99 rfl (rJ _ _ _) ?_)
    |(refine aD rfl _ _ _ rfl rfl (h+1) #[af A' L c',ae .u64 0,ae ak ((0:Nat):Int)] rfl rfl 99 #[af none 0 0,ae .u64 0,ae ak 0] a2.out (rJ _ _ _) rfl (by simp[Value.oneCell']) ?_)
    |fail)
   rw[a3.out];refine aL (v:=ai #[af A' L c',ae .u64 0,ae ak ((0:Nat):Int)]) ?_ rfl ⟨A',c',rfl,iB (bf.out _ ah.out) fun j hj=>aM _ _ _ _ (a4.out j hj),pZ a1.out (by omega) _⟩;exact results_cell_row rfl _ _ (h+1) _ _ (0,0) _ rfl (aJ _ _ _ _ _ _ a2.out) underlying99 rfl (rJ _ _ _)
theorem IZ{w:au}{base n c:Nat}{A:Option aw}{xs:List ay}(h:w.ownsRow base 5 1 (af A n c) n xs):iT w base A n:=fun h0=>by
 rcases h.2 with⟨_,h1⟩|⟨g,cap,cur,hv,hg,hh,_⟩
 ·omega
 ·injection hv with hv;exact⟨g,0,cur,hv,hg,hh⟩
theorem I3(w:au)(S:Nat->Prop)(B g:Nat)(f:Nat->Nat)(K:Nat)(h:gq w S B g f K)(hK:K<=16000000):
  ax prog 51 #[ag (some ⟨g,0,none⟩)] w fun e w'=>∃A' c' L,L=(K+7)/8/\e=aq (ai #[af A' L c',ae ak (K:Int)])/\w'.ownsRow B 5 1 (af A' L c') L (ft L f)/\aS B w w':=by
 obtain⟨W1,aW⟩:=fb (w.alloc (ao #[af none 0 0,ae ak 0] 62))
 obtain⟨x,hx⟩:=fb (w.heap.size)
 have b1:aS w.heap.size w W1:=by rw[aW];exact fz.alloc fe _
 have x1:W1.heap[x]?=some (ao #[af none 0 0,ae ak 0] 62 (0,0)):=by rw[aW,hx];exact aH w _
 have r1:=h.after b1
 have bJ:g<x:=by rw[hx];exact h.lt
 have bl:B<=x:=by rw[hx];exact h.size
 have bG:x<W1.heap.size:=(Array.getElem?_eq_some_iff.1 x1).1
 have bn:=b1.mono h.size
 have bd:aS W1.heap.size W1 W1.drew:=fz.drew
 have aX:=h.1
 clear h
 obtain⟨_,A,c,hq⟩:=r1
 obtain⟨z0,z1,z2,e0,e1,e2⟩:=hq.cells
 have r1:gq W1 S B g f K:=⟨aX,A,c,hq⟩
 have bq:=fun(V:au) (hV:aS W1.heap.size W1 V)=>yu V S B g f K (r1.after hV) hK
 obtain⟨L,hL⟩:=fb (K/8)
 obtain⟨q,aY⟩:=fb (K%8)
 obtain⟨R,hR⟩:=fb (f L)
 rw[<-hL,<-hR,<-aY]at hq
 rw[<-hL]at z0;rw[<-hL,<-hR]at z1;rw[<-aY]at z2
 have bK:L<=2000000:=by omega
 have bL:q<8:=by omega
 have bM:R<256:=by rw[hR];exact aX.1 L
 have br:=fa bq;have HQ:=fa hq;have HL:=fa hL;have bt:=fa aY;have HR:=fa hR;have bu:=fa x1;have bx:=fa bn;have bH:=fa aW;have HX:=fa hx;have bN:=fa aX
 have bO:g<W1.heap.size:=by omega
 clear bq hq hL aY hR x1 bn b1 aW hx r1 aX
 go_enter func51,ntmps51
 go_wp2_with (first|rw[<-bH.out,<-HX.out]|fail)
 go_cut [3] (fun v3 wx=>∃X,v3=ag (some ⟨X,0,none⟩)/\wx.heap[X]?=some (ao #[af A L c,ae ak (K:Int)] 62 (0,0))/\W1.heap.size<=X/\aS W1.heap.size W1 wx)
 case first=>
  go_region_law ((refine qu rfl 50 _ _ rfl (enters_of func50 (by kernel_rfl) rfl) (#[ag (some ⟨g,0,none⟩)]) (by simp[Act.put,Act.eval,List.setIfInBounds_toArray,List.set_cons_zero,List.set_cons_succ]) (br.out _ (by first|exact bd|exact bd.alloc fe _|exact((Below.refl W1.heap.size W1).alloc fe _).drew)) ?_;rintro e w6 ⟨rfl,rfl⟩;refine⟨_,rfl,?_⟩))
  all_goals(
   go_wp2_with fail
   go_meet;exact⟨_,rfl,aH W1 _,Nat.le_refl _,(fz.alloc fe _).drew.drew⟩)
 case rest=>
  obtain⟨X,rfl,hx,bz,hb⟩:=hcut;obtain⟨wx,rfl⟩:∃wx:au,wx=wc:=⟨_,rfl⟩;have ad:=HQ.out.after hb;have al:=(hb.block x bG).trans bu.out;have bP:x<X:=by omega
  have bQ:g<X:=by omega
  have bI:X<wx.heap.size:=(Array.getElem?_eq_some_iff.1 hx).1;have aZ:=bx.out.trans (hb.mono (by omega));have bR:g<wx.heap.size:=by omega
  clear z0 z1 z2 e0 e1 e2 bd br HQ bu bx hb;obtain⟨z0,z1,z2,e0,e1,e2⟩:=ad.cells;have bS:=ad.base;have ah:∀(V:au),V.ownsRow B 5 1 (af A L c) L (ft L f)->V.ownsRow B 5 1 (af A L c) L (ft L f):=fun _ h=>h
  by_cases bT:0<q
  ·have dq:decide (0<(q:Int))=true:=kc (by omega);have k0:wx.cell? ⟨X,0,none⟩=some (af A L c):=(aI wx X 0 _ _ (0,0) hx).trans rfl;have m0:=aP wx X 0 _ _ hx;obtain⟨A',c',w',bA,a4,bB,a5,_⟩:=GM wx.drew B A L c f ad.drew.own R HR.out (by omega) ad.size;have bC:(Value.slice A L c).ownBlock≠some X:=me ad.own hx (by kernel_rfl);have av:=(a5 X bI bC).trans hx;have bU:w'.frozen? ⟨X,0,none⟩=false:=aP w' X 0 _ _ av;have bV:w'.cell? ⟨X,0,none⟩=some (af A L c):=(aI w' X 0 _ _ (0,0) av).trans rfl;have a1:(Value.slice A L c).ownBlock≠some x:=me ad.own al (by kernel_rfl);have a2:=(a5 x (by have:x<wx.heap.size:=(by omega);exact this) a1).trans al;have a3:(Value.slice A' (L+1) c').ownBlock≠some X:=me a4 av (by kernel_rfl);obtain⟨U,hU⟩:=fb (w'.setCell ⟨X,0,none⟩ (af A' (L+1) c'));have bD:U.heap[X]?=some (ao #[af A' (L+1) c',ae ak (K:Int)] 62 (0,0)):=by rw[hU];exact(aO w' X 0 _ _ _ av).trans (by simp)
   have a6:U.heap[x]?=some (ao #[af none 0 0,ae ak 0] 62 (0,0)):=by rw[hU];exact(Below.heap_setCell w' _ _ x (by show x≠X;omega)).trans a2
   have a7:U.ownsRow B 5 1 (af A' (L+1) c') (L+1) (ft (L+1) f):=by rw[hU];exact iB a4 fun j hj=>Below.heap_setCell w' _ _ j (fun e=>a3 (hj.trans (congrArg some e)))
   have bE:aS B w U:=by rw[hU];exact(aZ.drew.trans bB).setCell (by show B<=X;omega) _
   have aT:∀j,(Value.slice A' (L+1) c').ownBlock=some j->j≠x:=fun j hj e=>me a7 a6 (by kernel_rfl) (hj.trans (congrArg some e))
   have bW:IntKind.u8.wrap (R:Int)=(R:Int):=by rw[IntKind.wrap_u8];omega
   have bX:(R:Int)%256=(R:Int):=by omega
   have aU:L+1=(K+7)/8:=by have:=HL.out;have:=bt.out;omega
   have bF:=fa bA;have a8:=fa bD;have aV:=fa a6;have a9:=fa a7;have bf:=fa bE;have HU:=fa hU;have bg:=fa aT;have bj:=fa aU
   clear bA a4 bB a5 bC av a1 a2 a3 bD a6 a7 bE hU aT hx al ad aZ ah bz aU;go_wp2;go_region_law ((refine uI rfl (.tmp 17) (.tmp 23) 22 22 rfl (af A L c) (af (some ⟨wx.heap.size,0,none⟩) 1 1) rfl rfl (af A' (L+1) c') w' bF.out ?_))
   all_goals(
    rw[<-HU.out];go_wp2_with (first
     |(refine aF rfl _ _ rfl X rfl _ #[af A' (L+1) c',ae ak (K:Int)] (0,0) _ a8.out underlying62 rfl l5 ?_)
     |(refine aD rfl _ _ _ rfl rfl x #[af A' (L+1) c',ae ak (K:Int)] rfl rfl 62 #[af none 0 0,ae ak 0] aV.out l5 rfl (by simp[Value.oneCell']) ?_)
     |fail)
    refine aL (v:=ai #[af A' (L+1) c',ae ak (K:Int)]) ?_ rfl ⟨A',c',L+1,bj.out,rfl,iB a9.out fun j hj=>aM _ _ _ _ (bg.out j hj),pZ bf.out bl _⟩;exact results_cell_row rfl _ _ x _ _ (0,0) _ rfl (aJ _ _ _ _ _ _ aV.out) underlying62 rfl l5)
  ·obtain rfl:q=0:=by omega
   have dq:decide (0<((0:Nat):Int))=false:=jd (by omega);have aT:∀j,(Value.slice A L c).ownBlock=some j->j≠x:=fun j hj e=>me ad.own al (by kernel_rfl) (hj.trans (congrArg some e))
   have aU:L=(K+7)/8:=by have:=HL.out;have:=bt.out;omega
   have a8:=fa hx;have aV:=fa al;have a9:=fa ad.own;have bf:=fa aZ;have bg:=fa aT;have bj:=fa aU
   clear aT hx al ad aZ ah bz aU;go_wp2_with (first
    |(refine aF rfl _ _ rfl X rfl _ #[af A L c,ae ak (K:Int)] (0,0) _ a8.out underlying62 rfl l5 ?_)
    |(refine aD rfl _ _ _ rfl rfl x #[af A L c,ae ak (K:Int)] rfl rfl 62 #[af none 0 0,ae ak 0] aV.out l5 rfl (by simp[Value.oneCell']) ?_)
    |fail)
   refine aL (v:=ai #[af A L c,ae ak (K:Int)]) ?_ rfl ⟨A,c,L,bj.out,rfl,iB a9.out fun j hj=>aM _ _ _ _ (bg.out j hj),pZ bf.out bl _⟩;exact results_cell_row rfl _ _ x _ _ (0,0) _ rfl (aJ _ _ _ _ _ _ aV.out) underlying62 rfl l5
def qP(t:Nat->Nat)(k m:Nat):Nat:=if m<k then lP t m else t m
theorem R9(t:Nat->Nat)(k:Nat):fK (qP t k) k (lP t k)=qP t (k+1):=by
 funext m;unfold fK qP;by_cases e:m=k
 ·subst e;rw[if_pos rfl,if_pos (by omega)]
 ·rw[if_neg e];by_cases h:m<k
  ·rw[if_pos h,if_pos (by omega)]
  ·rw[if_neg h,if_neg (by omega)]
theorem Sb(t:Nat->Nat)(k:Nat):qP t k k=t k:=by unfold qP;rw[if_neg (by omega)]
theorem Sc(t:Nat->Nat):qP t 0=t:=by funext m;unfold qP;rw[if_neg (by omega)]
theorem Sd(w:au)(b:Nat)(t:Nat->Nat)(ht:∀m,t m<=1000)(h:iy w b t):
  ax prog 132 #[ag (some ⟨b,0,none⟩)] w fun e w'=>e=aq (.tuple #[])/\aS b w w'/\iy w' b (lP t):=by
 have HT:=fa ht
 rw[<-Sc t]at h
 have H0:=fa h
 clear ht h
 go_enter func132,ntmps132
 go_wp2
 go_loopw [2,6] (fun l i wr=>∃k:Nat,k<=16/\i=ae ak k/\l=ae ak (lP t k:Nat)/\iy wr b (qP t k)/\aS b w wr) (fun _ i _=>16-(aQ i).toNat)
 case atStart=>exact⟨0,by omega,rfl,rfl,H0.out,Below.refl _ _⟩
 case round=>
  obtain⟨k,hk,rfl,rfl,ht,hb⟩:=hrel;have hm:=HT.out k;have av:=Mb HT.out hk;have HS:=fa (show lP t (k+1)=2*(lP t k+t k)from rfl);have ah:=fa (R9 t k);obtain⟨p,hp⟩:=fb (lP t k);have HP:=fa hp;rw[<-hp]at av HS ah⊢;clear hp;by_cases al:k<16
  ·have c1:=ht.cell al;have f1:=ht.frozen k;rw[Sb]at c1;have H1:=fa ht;have HB:=fa hb
   clear ht hb;go_wp2;go_quiet (fail)
   go_wp2;go_roundw
   case rel=>
    have ad:=H1.out.set k p;rw[ah.out]at ad;exact⟨k+1,by omega,by go_num,lX (by rw[HS.out];omega),ad,(rh HB.out _).setCell (by simp) _⟩
   case measure=>simp[aQ];omega
  ·obtain rfl:k=16:=by omega
   have H1:=fa ht;have HB:=fa hb
   clear ht hb al hk;go_wp2;go_end0;exact⟨rfl,HB.out,H1.out.ext fun i hi=>by unfold qP;rw[if_pos hi]⟩
theorem Se(w:au)(b m:Nat)(t:Nat->Nat)(hm:m<16)(ht:t m<4294967296)(h:iy w b t):
  ax prog 133 #[ag (some ⟨b,0,none⟩),ae .u8 (m:Int)] w fun e w'=>e=aq (ai #[ae .u32 (t m:Nat),ae .u8 (m:Int)])/\aS w.heap.size (w.setCell ⟨b,m,none⟩ (ae ak ((t m+1:Nat):Int))) w':=by
 have c1:=h.cell hm
 have f1:=h.frozen m
 have av:=h.lt
 have H:=fa h
 obtain⟨x,hx⟩:=fb (t m)
 rw[<-hx]at c1 ht⊢
 have HX:=fa hx
 clear h hx
 go_enter func133,ntmps133
 go_wp2
 have g1:IntKind.i64.wrap ((x:Int)+1)=((x+1:Nat):Int):=by rw[IntWalk.i64_in _ ⟨by omega,by omega⟩];rfl
 refine wp_region_still_tail 8 (by kernel_rfl) (by kernel_rfl) ?_
 simp only[List.take_succ_cons,List.take_zero,List.drop_succ_cons,List.drop_zero]
 change wpStill _ _ (World.drew _) (fun a'=>wpList _ _ _ _ a' (World.drew _)) _ _
 have ad:(m:Int)<16:=by omega
 have ah:¬(m:Int)<0:=by omega
 have al:¬(16:Int)<=m:=by omega
 repeat still_step
 refine wpStill_nil ?_
 clear ad ah al
 go_wp2
 clear g1
 have hb:aS w.heap.size (w.setCell ⟨b,m,none⟩ (ae ak ((x:Int)+1))) (w.setCell ⟨b,m,none⟩ (ae ak ((x:Int)+1))):=Below.refl _ _
 have hs:(w.setCell ⟨b,m,none⟩ (ae ak ((x:Int)+1))).heap.size=w.heap.size:=by simp[World.setCell]
 exact aL (v:=ai #[ae .u32 (x:Int),ae .u8 (m:Int)]) (by simp[results,Tryz.results133,go_sem]) rfl ⟨rfl,((hb.alloc (by omega) _).alloc (by rw[World.size_alloc];omega) _).drew⟩
def qQ(f:Nat->Nat)(n k j:Nat):Nat:=if j<k then gG f n j else 0
def qR(f:Nat->Nat)(k j:Nat):Nat:=if j<k then f j else 0
theorem I4(f:Nat->Nat)(n k:Nat):fK (qQ f n k) k (gG f n k)=qQ f n (k+1)/\fK (qR f k) k (f k)=qR f (k+1):=by
 constructor
 ·funext j;unfold fK qQ;by_cases e:j=k
  ·subst e;rw[if_pos rfl,if_pos (by omega)]
  ·rw[if_neg e];by_cases h:j<k
   ·rw[if_pos h,if_pos (by omega)]
   ·rw[if_neg h,if_neg (by omega)]
 ·funext j;unfold fK qR;by_cases e:j=k
  ·subst e;rw[if_pos rfl,if_pos (by omega)]
  ·rw[if_neg e];by_cases h:j<k
   ·rw[if_pos h,if_pos (by omega)]
   ·rw[if_neg h,if_neg (by omega)]
theorem Sf{f:Nat->Nat}{k:Nat}(n:Nat)(h:f k=0):qQ f n k=qQ f n (k+1)/\qR f k=qR f (k+1):=by
 have hc:gG f n k=0:=by unfold gG;rw[if_pos h]
 constructor
 ·funext j;unfold qQ;by_cases e:j=k
  ·subst e;rw[if_neg (by omega),if_pos (by omega),hc]
  ·by_cases h:j<k
   ·rw[if_pos h,if_pos (by omega)]
   ·rw[if_neg h,if_neg (by omega)]
 ·funext j;unfold qR;by_cases e:j=k
  ·subst e;rw[if_neg (by omega),if_pos (by omega),h]
  ·by_cases h:j<k
   ·rw[if_pos h,if_pos (by omega)]
   ·rw[if_neg h,if_neg (by omega)]
theorem Sg(w:au)(A:Option aw)(n c:Nat)(f:Nat->Nat)(fh:Int)(hr:fB w w.heap.size A n f)(hn:n<=1000000):
  ax prog 92 #[af A n c,ae ak fh] w fun e w'=>∃A' c',e=aq (.tuple #[af A' (qY f n fh) c',ae ak (fD f n fh)])/\aS w.heap.size w w'/\Lx w.heap.size w' A' (qY f n fh) (zm f n fh) f:=by
 have HR:=fa hr
 clear hr
 have aU:=AI w A n c f fh HR.out hn
 by_cases h0:fD f n fh=0
 ·obtain⟨_,bP,bQ,hb,ha,_⟩:=lk h0;have bj:=fa (show∀j,j<n->f j<=15 from fun j hj=>by have:=hb j hj;omega);have HA:=fa ha;have H0:=fa h0;have hl:qY f n fh=n:=by unfold qY;rw[if_pos h0]
  rw[h0]at aU;have a2:=fa aU;rw[hl,h0];obtain⟨i0,hi,aV,bl,bn⟩:=info_parts Ly;have bE:∀u:au,(Instr.makeSlice 107 (ae ak (n:Int)) (ae ak (n:Int))).run prog u=
    .ok (af (some ⟨u.heap.size,0,none⟩) n n) (u.alloc (ao (madeCells #[ae .u32 0,ae .u8 0] (n*2)) 159)):=fun u=>by
   have h:=run_make (P:=prog) u 107 159 i0 (ai #[ae .u32 0,ae .u8 0]) underlying107 hi aV ak ak (n:Int) (n:Int) (by omega) (Int.le_refl _) (by rw[bn];omega) (by omega)
   rw[Int.toNat_natCast]at h
   simpa[bl,Value.cells]using h
  have hz:=(zero_of_info zP).1;clear aU hb ha hl h0 hi aV bl bn;go_enter func92,ntmps92
  go_wp2_with fail
  refine a2.out.mono ?_;rintro e w1 ⟨rfl,hb⟩;have HB:=fa hb;have bq:=fa ((HR.out.below hb fe).more hb.size);clear hb;go_wp2_with fail
  refine(EK w1 A n c f bq.out hn bj.out).mono ?_;rintro e w2 ⟨rfl,hb⟩;have aW:=fa (HB.out.trans (hb.mono HB.out.size));have bF:=fa ((bq.out.below hb fe).more hb.size);clear hb;have br:iy (w2.alloc (ao (gl kX) 200)) w2.heap.size kX:=aH w2 _;have a3:=fa br;clear br;go_wp2_with (refine xl rfl _ _ _ rfl w2.heap.size (gl fun m=>tcN f m n) rfl rfl _ (gl kX) a3.out (by rw[mV];exact pO) (by rw[mV,mV]) (EH _) ?_)
  have al:=a3.out.setRow (h:=fun m=>tcN f m n);have aX:=tF ((aW.out.alloc aW.out.size (ao (gl kX) 200))) (g:=w2.heap.size) aW.out.size (gl fun m=>tcN f m n);have aY:=(bF.out.below (tF ((Below.refl w2.heap.size w2).alloc fe (ao (gl kX) 200)) (g:=w2.heap.size) fe (gl fun m=>tcN f m n)) fe);have a4:=aW.out.size;obtain⟨b,bt⟩:=fb (w2.heap.size);rw[<-bt]at al aX aY a4⊢;generalize (w2.alloc (ao (gl kX) 200)).setRow b (gl fun m=>tcN f m n)=w3 at al aX aY⊢;have a5:=fa al;have bG:=fa aX;have bH:=fa aY;clear al aX aY bt a3;refine(Sd w3 b _ (fun m=>Nat.le_trans (vf f m n) (by omega)) a5.out).mono ?_;rintro e w4 ⟨rfl,hb,ht⟩;rw[Mf]at ht;have bu:=fa (bG.out.trans (hb.mono a4));have bI:=fa (bH.out.below hb fe);have bJ:=fa ht;have bO:=ht.lt;clear hb ht;go_wp2;clear bE;go_loopw [25] (fun i wr=>∃k:Nat,k<=n/\i=ae ak k/\jD wr w4.heap.size n (qQ f n k) (qR f k)/\iy wr b (mU f n k)/\fB wr b A n f/\aS w.heap.size w wr) (fun i _=>n-(aQ i).toNat)
  case atStart=>
   refine⟨0,Nat.zero_le _,rfl,(Lz w4 n).ext (fun j _=>?_) (fun j _=>?_),bJ.out.alloc _,bI.out.below ((Below.refl w4.heap.size w4).alloc fe _) (by omega),bu.out.alloc bu.out.size _⟩
   ·unfold qQ;rw[if_neg (by omega)];rfl
   ·unfold qR;rw[if_neg (by omega)];rfl
  case round=>
   obtain⟨k,hk,rfl,av,ht,hr,hb⟩:=hrel;by_cases aT:k<n
   ·have hf:=bj.out k aT;obtain⟨ab,o,hA,_,hc⟩:=hr.2 (by omega);have a6:=hc k aT;clear hc;have bK:=av.lt;have ah:=fa av;have HT:=fa ht;have HB:=fa hb;have bx:=fa hr
    clear av ht hb hr;subst hA;by_cases hp:0<f k
    ·have hx:=KB H0.out k aT;have a7:=Mc (n:=n) hp hf;have bz:=ah.out.frozen (k*2);have bA:=ah.out.frozen (k*2+1);have bB:=(ah.out.cell aT).1;have bC:=(ah.out.cell aT).2;rw[a7]at hx;have a8:=fa a7;clear a7 bz bA bB bC;go_wp2_with fail
     refine(Se _ b (f k) _ (by omega) hx HT.out).mono ?_;rintro e wn ⟨rfl,aZ⟩;have bL:(wr.setCell ⟨b,f k,none⟩ (ae ak ((mU f n k (f k)+1:Nat):Int))).heap.size=wr.heap.size:=by simp[World.setCell]
     have a9:aS b wr wn:=((Below.refl b wr).setCell fe _).trans (aZ.mono (by omega));have ad:=(ah.out.other (p:=⟨b,f k,none⟩) (by show w4.heap.size≠b;omega) (ae ak ((mU f n k (f k)+1:Nat):Int))).below aZ bK;have al:=(HT.out.set (f k) (mU f n k (f k)+1)).below aZ (by omega);rw[Md hp]at al;have bf:=fa ad;have a5:=fa al
     have bD:=fa (bx.out.below a9 fe);have bM:=fa (HB.out.trans (a9.mono a4));have bR:=ad.lt;have bB:=(ad.cell aT).1;have bC:=(ad.cell aT).2;have bz:=ad.frozen (k*2);have bA:=ad.frozen (k*2+1);clear aZ a9 ad al bL a6;obtain⟨x,bg⟩:=fb (mU f n k (f k));rw[<-bg]at a8 hx⊢;have bS:=fa bg;clear bg;go_wp2;go_roundw
     case rel=>
      have a1:=bf.out.set k x (f k);rw[<-a8.out,(I4 f n k).1,(I4 f n k).2]at a1;refine⟨k+1,by omega,by go_num,?_,(a5.out.other (by show b≠w4.heap.size;omega) _).other (by show b≠w4.heap.size;omega) _,bD.out.below (((Below.refl b wn).setCell (by show b<=w4.heap.size;omega) _).setCell (by show b<=w4.heap.size;omega) _) fe,(bM.out.setCell (by show w.heap.size<=w4.heap.size;omega) _).setCell (by show w.heap.size<=w4.heap.size;omega) _⟩;rw[<-a8.out];exact a1
     case measure=>simp[aQ];omega
    ·have aV:f k=0:=by omega
     have bT:decide (0<((f k:Nat):Int))=false:=by simp;omega
     have HS:=fa (Me (n:=n) aV);have HP:=fa (Sf n aV);clear aV;go_wp2;go_roundw
     case rel=>
      refine⟨k+1,by omega,by go_num,?_,?_,bx.out,HB.out⟩
      ·rw[<-HP.out.1,<-HP.out.2];exact ah.out
      ·rw[<-HS.out];exact HT.out
     case measure=>simp[aQ];omega
   ·obtain rfl:k=n:=by omega
    have ah:=fa av;have HB:=fa hb
    clear av ht hb hr aT hk;go_wp2;go_ret2;refine⟨_,_,rfl,HB.out,.inr ⟨_,rfl,by omega,ah.out.ext (fun j hj=>?_) (fun j hj=>?_)⟩⟩
    ·rw[Dy H0.out j hj];unfold qQ;rw[if_pos hj]
    ·unfold qR;rw[if_pos hj]
 ·have hl:qY f n fh=0:=by unfold qY;rw[if_neg h0]
  have bN:(fD f n fh !=0)=true:=by simpa using h0
  rw[hl];obtain⟨E,hE⟩:=fb (fD f n fh);rw[<-hE]at aU bN⊢;have a2:=fa aU;clear aU h0 hl hE;go_enter func92,ntmps92
  go_wp2_with fail
  refine a2.out.mono ?_;rintro e w' ⟨rfl,hb⟩;have HB:=fa hb;clear hb;go_wp2;go_ret2;exact⟨_,_,rfl,HB.out,.inl rfl⟩
theorem I5{f:Nat->Nat}{n:Nat}:∀N,n<=N->(∀i,n<=i->i<N->f i=0)->UY f N=UY f n/\gy f N=gy f n
 |0,h,_=>by rw[show n=0 by omega];exact⟨rfl,rfl⟩
 |N+1,h,hz=>by
  rcases Nat.eq_or_lt_of_le h with e|e
  ·rw[e];exact⟨rfl,rfl⟩
  ·obtain⟨h1,h2⟩:=I5 N (by omega) fun i a b=>hz i a (by omega)
   have h0:=hz N (by omega) (by omega);simp only[UY,gy];rw[h1,h2,h0,if_neg (by omega),if_neg (by omega)];exact⟨rfl,rfl⟩
theorem Ck{f:Nat->Nat}{n N:Nat}{fh ad:Int}(h:fD f N fh=0)(hn:n<=N)(hz:∀i,n<=i->i<N->f i=0)(hm:fh<=ad)(ah:ad<=15):fD f n ad=0:=by
 obtain⟨h1,h2,h3,h4,h5,h6⟩:=lk h;obtain⟨e1,e2⟩:=I5 N hn hz;unfold fD;rw[if_neg (by omega),if_neg (by omega),if_neg]
 ·unfold oT;rw[<-e1,<-e2,if_neg (by omega),if_pos h6]
 ·unfold mm;rw[decide_eq_true_eq];rintro⟨j,hj,hb⟩;have:=h4 j (by omega);omega
theorem I6{f:Nat->Nat}{least N i:Nat}(h1:Vj f least N<=i)(h2:i<N):f i=0:=by
 rcases Nat.eq_zero_or_pos (f i)with h|h
 ·exact h
 ·have:=uQ f least N i h2 (by omega);omega
theorem Cl{c:Nat->Nat}{n fh:Nat}(h1:1<=fh)(h2:fh<=15)(hn:n<=320)(ad:n<=2^fh)(hc:∀i,c i<=1073741824):fD (lM c n fh) n (fh:Int)=0:=by
 have h:=(zn (wX h1 h2 hn ad hc)).2.1;rw[mQ]at h;exact h
theorem Sh(l:List fi)(hl:l.length<=1000000):fD (ja l) (nA l) 15=0:=by
 obtain⟨_,_,_,_,a1,a2,_⟩:=lO l hl;have h:=Cl (c:=iC l) (n:=286) (fh:=15) (by omega) (by omega) (by omega) (by decide) (fun i=>by have:=tj l i;omega);exact Ck h a2 (fun i h1 h2=>I6 h1 h2) (by omega) (by omega)
theorem Si(l:List fi)(hl:l.length<=1000000):fD (jb l) (nB l) 15=0:=by
 obtain⟨_,_,_,_,_,_,b1,b2,_⟩:=lO l hl;have h:=Cl (c:=iq l) (n:=30) (fh:=15) (by omega) (by omega) (by omega) (by decide) (fun i=>by have:=rZ l i;omega);exact Ck h b2 (fun i h1 h2=>I6 h1 h2) (by omega) (by omega)
theorem Sj(l:List fi)(hl:l.length<=1000000):fD (kW l) 19 15=0:=by
 have h:=Cl (c:=j0 (ju l)) (n:=19) (fh:=7) (by omega) (by omega) (by omega) (by decide) (fun i=>by have:=rb (ju l) i;have:=(oz l hl).2;omega);exact Ck h fe (fun i h1 h2=>absurd h1 (by omega)) (by omega) (by omega)
theorem Cm:fD iH 288 15=0:=by decide+kernel
theorem Cn:fD iZ 32 15=0:=by decide+kernel
theorem Co(w:au)(A:Option aw)(n c:Nat)(f:Nat->Nat)(hr:fB w w.heap.size A n f)(h0:0<n)(hn:n<=1000000)(hf:fD f n 15=0):
  ax prog 48 #[af A n c] w fun e w'=>∃g c',e=aq (af (some ⟨g,0,none⟩) n c')/\w.heap.size<=g/\jD w' g n (gG f n) f/\aS w.heap.size w w':=by
 have hc:=Sg w A n c f 15 hr hn
 rw[show qY f n 15=n by unfold qY;rw[if_pos hf],hf]at hc
 have HC:=fa hc
 have HF:=fa hf
 clear hc hr hf
 go_enter func48,ntmps48
 go_wp2_with fail
 refine HC.out.mono ?_
 rintro e w1 ⟨A',c',rfl,hb,ho⟩
 rcases ho with rfl|⟨g,rfl,hg,ad⟩
 ·omega
 have ah:=fa (ad.ext (x':=gG f n) (l':=f) (fun j hj=>Dy HF.out j hj) (fun _ _=>rfl));have HB:=fa hb
 clear hb ad
 go_wp2
 go_ret
 exact⟨g,c',rfl,hg,ah.out,HB.out⟩
theorem Cp{F:Nat->Nat}{n i:Nat}(h:fD F n 15=0)(hi:i<n):gG F n i<2^F i/\F i<=15:=by
 obtain⟨_,_,_,h4,h5,_⟩:=lk h;exact⟨wO hi (fun j hj=>by have:=h4 j hj;omega) h5,by have:=h4 i hi;omega⟩
theorem I7(w:au)(g n c:Nat)(F:Nat->Nat)(i:Nat)(hr:jD w g n (gG F n) F)(hF:fD F n 15=0)(hi:i<n)(_:n<=1000000):
  ax prog 49 #[af (some ⟨g,0,none⟩) n c,ae ak (i:Int)] w fun e w'=>e=aq (ai (j4 (iG F n i)).toArray)/\aS w.heap.size w w':=by
 obtain⟨h1,h2⟩:=Cp hF hi
 obtain⟨c0,c1⟩:=hr.cell hi
 obtain⟨X,hX⟩:=fb (gG F n i)
 obtain⟨Y,hY⟩:=fb (F i)
 have av:iG F n i=(Vn X Y,Y):=by unfold iG;rw[hX,hY]
 rw[av]
 rw[<-hX]at h1 c0
 rw[<-hY]at h1 h2 c1
 have aT:X<4294967296:=by
  have e:(2:Nat)^Y<=2^15:=Nat.pow_le_pow_right (by omega) h2;have e2:(2:Nat)^15=32768:=rfl;omega
 obtain⟨Z,hZ⟩:=fb (Vn X Y)
 have al:=fun V:au=>KX X Y V aT (by omega) (KT.2 ⟨by omega,h1⟩)
 rw[<-hZ]at al⊢
 obtain⟨W1,ad⟩:=fb (w.alloc (ao #[ae .u32 0,ae ak 0] 146))
 obtain⟨h,hh⟩:=fb (w.heap.size)
 obtain⟨W2,ah⟩:=fb (gi W1 #[ae .u32 0,ae .u8 0] #[ae .u32 (X:Int),ae .u8 (Y:Int)] 159)
 have b1:aS h w W1:=by rw[ad,hh];exact fz.alloc fe _
 have x1:W1.heap[h]?=some (ao #[ae .u32 0,ae ak 0] 146 (0,0)):=by rw[ad,hh];exact aH w _
 have s1:W1.heap.size=h+1:=by rw[ad,hh];simp
 have b2:aS W1.heap.size W1 W2:=by rw[ah];exact km _ _ _ _
 have r2:W2.heap[W1.heap.size]?=some (ao #[ae .u32 (X:Int),ae .u8 (Y:Int)] 159 (0,0)):=by rw[ah];exact kO W1 _ _ _
 have x2:=(b2.block h (by omega)).trans x1
 have y0:W2.cell? ⟨W1.heap.size,0,none⟩=some (ae .u32 (X:Int)):=(aI W2 _ 0 _ _ (0,0) r2).trans rfl
 have y1:W2.cell? ⟨W1.heap.size,1,none⟩=some (ae .u8 (Y:Int)):=(aI W2 _ 1 _ _ (0,0) r2).trans rfl
 have aU:W1.rangeAt g (i*2) [ae .u32 (X:Int),ae .u8 (Y:Int)]:=by
  have aV:g<h:=by rw[hh];exact hr.lt
  intro j v hv;rw[b1.cell (p:=⟨g,i*2+j,none⟩) aV];rcases j with _|_|j
  ·simp at hv;subst hv;exact c0
  ·simp at hv;subst hv;exact c1
  ·simp at hv
 have aW:=fa aU;have aX:=fa al;have aY:=fa ad;have HH:=fa hh;have aZ:=fa ah;have HB:=fa (b1.trans (b2.mono (by omega)));have X2:=fa x2;have a2:=fa s1
 have a1:(i:Int)<(n:Int):=by omega
 clear aU al ad hh ah b1 b2 x1 x2 s1 r2 hr hF hX hY hZ av h1 c0 c1
 go_enter func49,ntmps49
 go_wp2_with (first
  |(rw[<-aY.out,<-HH.out])
  |(refine aG rfl _ _ rfl g (i*2) rfl [ae .u32 (X:Int),ae .u8 (Y:Int)] _ aW.out underlying159 rfl (D5 _ _) ?_)
  |(refine aD rfl _ _ _ rfl rfl W1.heap.size #[ae .u32 (X:Int),ae .u8 (Y:Int)] rfl rfl 159 #[ae .u32 0,ae .u8 0] (aH W1 _) (D5 _ _) rfl (by simp[Value.oneCell']) ?_;change wpList _ _ _ _ _ (gi W1 #[ae .u32 0,ae .u8 0] #[ae .u32 (X:Int),ae .u8 (Y:Int)] 159);rw[<-aZ.out])
  |fail)
 refine(aX.out W2).mono ?_
 rintro e w3 ⟨rfl,rfl⟩
 go_wp2_with (first
  |(refine aE rfl 146 #[(0,.tmp 21),(1,.tmp 24)] rfl (some 25) rfl #[ae .u32 (Z:Int),ae ak (Y:Int)] ?_ ?_;focus(simpa[Act.eval]using ks (Z:Int) (Y:Int)))
  |(refine aD rfl _ _ _ rfl rfl h #[ae .u32 (Z:Int),ae ak (Y:Int)] rfl rfl 146 #[ae .u32 0,ae ak 0] X2.out (Bm (Z,Y)) rfl (GN (Z,Y)) ?_)
  |fail)
 refine aL (v:=ai #[ae .u32 (Z:Int),ae ak (Y:Int)]) ?_ rfl ⟨rfl,by rw[<-HH.out];exact pZ HB.out fe _⟩
 exact results_cell_row rfl _ _ h _ _ (0,0) _ rfl (aJ _ _ _ _ _ _ X2.out) underlying146 rfl (Bm (Z,Y))
theorem Sk{m:Nat}(h:0<m):pt m<=16384:=by
 unfold pt;have h1:(2:Nat)^1<=2^m:=Nat.pow_le_pow_right (by omega) h;exact Nat.le_trans (Nat.div_le_div_left h1 (by omega)) (by decide)
theorem I8(f:Nat->Nat):∀n,UY f n<=16384*gy f n
 |0=>Nat.le_refl _
 |n+1=>by
  have:=I8 f n;unfold UY gy;split
  ·rename_i h;have:=Sk h;omega
  ·omega
theorem I9{f:Nat->Nat}{n:Nat}{fh:Int}(h:fD f n fh=0):2<=(((gZ f n fh).length:Nat):Int)↔UY f n=32768:=by
 obtain⟨h1,h2,h3,h4,h5,h6⟩:=lk h;have e:(gZ f n fh).length=gy f n:=by
  unfold gZ;rw[if_pos h,oS,nm,vg f n (fun j hj=>by have:=h4 j hj;omega)]
 rw[e];have:=I8 f n;constructor
 ·intro h7;rcases h6 with h6|h6|h6<;>omega
 ·intro h7;omega
def VE(n:Nat)(l:List (Int×Int))(out:List Nat):Prop:=∀c,Vq n (l++c) []=Vq n c out
theorem Ja(n:Nat):VE n [] []:=fun _=>rfl
theorem Jb{n:Nat}{l:List (Int×Int)}{out:List Nat}{y x:Nat}(h:VE n l out)(hy:y<=18)(hx:x<2^fI (y:Int))(h2:¬(((y:Int)=16/\out=[])\/n<out.length+gM (y:Int) (x:Int))):
  VE n (l++[((y:Int),(x:Int))]) (out++List.replicate (gM (y:Int) (x:Int)) (nS (y:Int) out)):=fun c=>by
 rw[List.append_assoc,h]
 show Vq n (((y:Int),(x:Int))::c) out=_
 rw[Vq,if_neg (by have:((2:Nat)^fI (y:Int):Nat)=(2:Nat)^fI (y:Int):=rfl;omega),if_neg h2]
theorem Jc{n:Nat}{l:List (Int×Int)}{out:List Nat}(h:VE n l out)(hl:out.length=n)(hn:n<=320):nh l (n:Int)=(0,out):=by
 unfold nh;rw[if_neg (by omega),Int.toNat_natCast];have:=h [];rw[List.append_nil]at this;rw[this,Vq,if_pos hl]
theorem Jd{F g:Nat->Nat}{L n made:Nat}{s:Rz}(h:(o8 F g L s).2≠0):mZ F g L n made s=o8 F g L s:=by unfold mZ;rw[pa h,pa h]
theorem Je{F g:Nat->Nat}{L n:Nat}(hF:∀j,19<=j->F j=0):∀k made l s out,VE n l out->out.length=made->made<=n->s.1<=8*L->(lnS F g L n k made l s).2.2=0->n<=k+made->∃ad,VE n (lnS F g L n k made l s).1 ad/\ad.length=n
 |0,made,l,s,out,hm,hl,hn,_,_,hk=>⟨out,hm,by omega⟩
 |k+1,made,l,s,out,hm,hl,hn,hs,he,hk=>by
  by_cases h0:made<n/\s.2=0
  ·rw[Ca h0]at he⊢;obtain⟨a,e⟩:=s;obtain⟨h1,rfl⟩:made<n/\e=0:=h0;by_cases hE:(mZ F g L n made (a,0)).2=0
   ·have w1:=yt (by decide) hE;have w2:=yt (by decide) w1.1;have hy:iV F g L (a,0)<=18:=by
     show(if(0:Int)≠0 then 0 else if(UT F 320 g L a 17 0).2.2≠0 then 0 else(UT F 320 g L a 17 0).1)<=18
     rw[if_neg (fun h=>h rfl)];split
     ·omega
     ·rename_i h2;have hz:(UT F 320 g L a 17 0).2.2=0:=by omega
      obtain⟨kk,e1,e2,e3⟩:=xu 17 0 hz;have h3:=of_decide_eq_true e3;rcases Nat.lt_or_ge (UT F 320 g L a 17 0).1 19 with h4|h4
      ·omega
      ·have:=hF _ h4;omega
    have hx:mY F g L (a,0)<2^fI (iV F g L (a,0):Int):=mF _ _ _ _;have ah:¬(((iV F g L (a,0):Int)=16/\out=[])\/n<out.length+gM (iV F g L (a,0):Int) (mY F g L (a,0):Int)):=by
     have q1:=of_decide_eq_true w1.2;have q2:=of_decide_eq_true w2.2;have q3:pR F g L (a,0)=gM (iV F g L (a,0):Int) (mY F g L (a,0):Int):=rfl;rintro(⟨r1,r2⟩|r1)
     ·subst r2;simp at hl;rcases q2 with q2|q2<;>omega
     ·omega
    have q1:=of_decide_eq_true w1.2;have q3:pR F g L (a,0)=gM (iV F g L (a,0):Int) (mY F g L (a,0):Int):=rfl;have q4:=(Cb (y:=iV F g L (a,0)) (IJ F g L (a,0))).1;refine Je hF k _ _ _ _ (Jb hm hy hx ah) ?_ q1 (Cc hs) he (by omega);rw[List.length_append,List.length_replicate,hl,q3]
   ·rw[rF (fun h=>hE h.2)]at he;exact absurd he hE
  ·rw[rF h0]at he⊢;have:¬made<n:=fun h=>h0 ⟨h,he⟩
   exact⟨out,hm,by omega⟩
theorem Jf(g:Nat->Nat)(L:Nat)(s:Rz)(hs:s.1<=8*L)(h:(ji g L s).2.2=0):(jB g L s).length=gK g L s+iD g L s/\(nh (ji g L s).1 ((gK g L s+iD g L s:Nat):Int)).1=0:=by
 have b1:fT g L 5 s<32:=mF g L 5 s;have b2:fT g L 5 (qF L s)<32:=mF g L 5 _;have ad:gK g L s+iD g L s<=320:=by unfold gK iD;omega
 obtain⟨out,h1,h2⟩:=Je (F:=fG 19 (mh g L s)) (g:=g) (L:=L) (n:=gK g L s+iD g L s) (fun j hj=>tJ _ hj) (gK g L s+iD g L s) 0 [] (nK g L s) [] (Ja _) rfl (Nat.zero_le _) (Cf hs) h (by omega);have h3:=Jc h1 h2 ad;have h4:jB g L s=(nh (lnS (fG 19 (mh g L s)) g L (gK g L s+iD g L s) (gK g L s+iD g L s) 0 [] (nK g L s)).1 ((gK g L s+iD g L s:Nat):Int)).2:=rfl;have h5:ji g L s=lnS (fG 19 (mh g L s)) g L (gK g L s+iD g L s) (gK g L s+iD g L s) 0 [] (nK g L s):=rfl;rw[h4,h5,h3];exact⟨h2,rfl⟩
theorem Jg{F g:Nat->Nat}{L n:Nat}:∀k made l a out,VE n l out->out.length=made->made<=n->a<=8*L->n<=k+made->
  ((mB F g L n k a out).2.2=0->(lnS (fG 19 F) g L n k made l (a,0)).2=((mB F g L n k a out).2.1,0)/\VE n (lnS (fG 19 F) g L n k made l (a,0)).1 (mB F g L n k a out).1/\(mB F g L n k a out).1.length=n)/\
  ((mB F g L n k a out).2.2≠0->(lnS (fG 19 F) g L n k made l (a,0)).2.2=(mB F g L n k a out).2.2)
 |0,made,l,a,out,hm,hl,hn,ha,hk=>⟨fun _=>⟨rfl,hm,by show out.length=n;omega⟩,fun h=>absurd rfl h⟩
 |k+1,made,l,a,out,hm,hl,hn,ha,hk=>by
  rw[xv];by_cases h0:n<=out.length
  ·rw[if_pos h0,rF (fun h=>by omega)];exact⟨fun _=>⟨rfl,hm,by show out.length=n;omega⟩,fun h=>absurd rfl h⟩
  ·rw[if_neg h0,Ca ⟨by omega,rfl⟩];have ad:=tK (f:=F) (n:=19) (by omega) g L a 17 0;have ah:=tN (F:=F) (N:=19) (g:=g) ha;have y0:iV (fG 19 F) g L (a,0)=jM (UT F 19 g L a 17 0) (a,0):=by unfold iV;rw[ad]
   have s0:mX (fG 19 F) g L (a,0)=jf (UT F 19 g L a 17 0) (a,0):=by unfold mX;rw[ad]
   have x0:mY (fG 19 F) g L (a,0)=fT g L (fI (iV (fG 19 F) g L (a,0):Int)) (mX (fG 19 F) g L (a,0)):=rfl;have e0:o8 (fG 19 F) g L (a,0)=fR L (fI (iV (fG 19 F) g L (a,0):Int)) (mX (fG 19 F) g L (a,0)):=rfl;have t0:pR (fG 19 F) g L (a,0)=gM (iV (fG 19 F) g L (a,0):Int) (mY (fG 19 F) g L (a,0):Int):=rfl;have ee:mZ (fG 19 F) g L n made (a,0)=ig (ig (o8 (fG 19 F) g L (a,0)) (decide (0<made\/iV (fG 19 F) g L (a,0)≠16)) 132) (decide (made+pR (fG 19 F) g L (a,0)<=n)) 132:=rfl;generalize UT F 19 g L a 17 0=r at y0 s0 ah⊢;unfold vv;by_cases h1:r.2.2≠0
   ·rw[if_pos h1];refine⟨fun h=>absurd h h1,fun _=>?_⟩;have e1:mX (fG 19 F) g L (a,0)=(a,r.2.2):=by rw[s0];unfold jf;rw[if_neg (fun h=>h rfl),if_pos h1]
    have e2:o8 (fG 19 F) g L (a,0)=(a,r.2.2):=by rw[e0,e1];exact nz h1
    have e3:mZ (fG 19 F) g L n made (a,0)=(a,r.2.2):=by rw[Jd (by rw[e2];exact h1),e2]
    rw[e3,rF (s:=(a,r.2.2)) (fun h=>h1 h.2)]
   ·rw[if_neg h1];obtain⟨r1,r2,r3⟩:=ah (by omega);have yy:iV (fG 19 F) g L (a,0)=r.1:=by rw[y0];unfold jM;rw[if_neg (fun h=>h rfl),if_neg h1]
    have ss:mX (fG 19 F) g L (a,0)=(r.2.1,0):=by rw[s0];unfold jf;rw[if_neg (fun h=>h rfl),if_neg h1]
    rw[yy,ss,lf]at e0;rw[yy,ss,nY]at x0;rw[yy]at t0 ee⊢;by_cases h2:8*L<r.2.1+fI (r.1:Int)
    ·rw[if_pos h2];rw[if_pos h2]at e0;refine⟨fun h=>absurd h (by decide),fun _=>?_⟩;have e3:mZ (fG 19 F) g L n made (a,0)=(r.2.1,10):=by rw[Jd (by rw[e0];exact(show(10:Int)≠0 by decide)),e0]
     rw[e3,rF (s:=(r.2.1,10)) (fun h=>absurd h.2 (show¬(10:Int)=0 by decide))]
    ·rw[if_neg h2];rw[if_neg h2]at e0 x0;rw[x0]at t0⊢;rw[e0,t0]at ee;rw[t0];by_cases h3:((r.1:Int)=16/\out=[])\/n<out.length+gM (r.1:Int) ((UR g r.2.1 (fI (r.1:Int)):Nat):Int)
     ·rw[if_pos h3];refine⟨fun h=>absurd h (by decide),fun _=>?_⟩;have e3:(mZ (fG 19 F) g L n made (a,0)).2=132:=by
       rw[ee];by_cases c1:0<made\/r.1≠16
       ·have c2:¬made+gM (r.1:Int) ((UR g r.2.1 (fI (r.1:Int)):Nat):Int)<=n:=by
         rcases h3 with⟨q1,q2⟩|q
         ·subst q2;simp at hl;rcases c1 with c1|c1<;>omega
         ·omega
        rw[decide_eq_true c1,decide_eq_false c2];rfl
       ·rw[decide_eq_false c1];have:(ig (r.2.1+fI (r.1:Int),0) false 132:Rz)=(r.2.1+fI (r.1:Int),132):=rfl;rw[this,pa (s:=(r.2.1+fI (r.1:Int),132)) (show(132:Int)≠0 by decide)]
      rw[rF (fun h=>by rw[e3]at h;exact absurd h.2 (by decide))];exact e3
     ·rw[if_neg h3];have c1:0<made\/r.1≠16:=by
       rcases Nat.eq_zero_or_pos made with z|z
       ·right;intro e;exact h3 (.inl ⟨by omega,List.length_eq_zero_iff.1 (by omega)⟩)
       ·exact .inl z
      have c2:made+gM (r.1:Int) ((UR g r.2.1 (fI (r.1:Int)):Nat):Int)<=n:=by
       rcases Nat.lt_or_ge n (made+gM (r.1:Int) ((UR g r.2.1 (fI (r.1:Int)):Nat):Int))with z|z
       ·exact absurd (.inr (by omega)) h3
       ·exact z
      have e3:mZ (fG 19 F) g L n made (a,0)=(r.2.1+fI (r.1:Int),0):=by rw[ee,decide_eq_true c1,decide_eq_true c2];rfl
      rw[e3];have al:UR g r.2.1 (fI (r.1:Int))<2^fI (r.1:Int):=nj _ _ _;have av:UR g r.2.1 (fI (r.1:Int))<128:=by
       have h2:(2:Nat)^(fI (r.1:Int))<=2^7:=Nat.pow_le_pow_right (by omega) (xS _);have h3:(2:Nat)^7=128:=rfl;omega
      have q4:=(Cb (y:=r.1) av).1;exact Jg k _ _ _ _ (Jb hm (by omega) al h3) (by rw[List.length_append,List.length_replicate,hl]) c2 (by omega) (by omega)
theorem Sl{g:Nat->Nat}{L:Nat}{s:Rz}(h:s.2≠0):(oF g L s).2=s.2:=by
 have h1:(sn s).2≠0:=h;unfold oF;rw[nz h1,nz h1,pa h1];rfl
theorem Sm{g:Nat->Nat}{L a:Nat}{last:Bool}(_:a<=8*L):
  ((nx last g L ((a+7)/8*8)).2.2=0->oF g L (a,0)=((nx last g L ((a+7)/8*8)).2.1,0)/\o7 g L (a,0)=(nx last g L ((a+7)/8*8)).1.left)/\((nx last g L ((a+7)/8*8)).2.2≠0->(oF g L (a,0)).2=(nx last g L ((a+7)/8*8)).2.2):=by
 have e1:o7 g L (a,0)=fT g L 16 ((a+7)/8*8,0):=rfl
 have e2:oF g L (a,0)=ig (fR L 16 (fR L 16 ((a+7)/8*8,0))) (decide ((fT g L 16 (fR L 16 ((a+7)/8*8,0)):Int)=65535-(o7 g L (a,0):Int))) 131:=rfl
 generalize (a+7)/8*8=b at e1 e2⊢
 unfold nx
 by_cases h1:8*L<b+32
 ·rw[if_pos h1];refine⟨fun h=>absurd h (by decide),fun _=>?_⟩;have:(fR L 16 (fR L 16 (b,0))).2=10:=by
   rw[lf];by_cases h2:8*L<b+16
   ·rw[if_pos h2,nz (s:=(b,10)) (show(10:Int)≠0 by decide)]
   ·rw[if_neg h2,lf,if_pos (by omega)]
  rw[e2,pa (by rw[this];decide)];exact this
 ·rw[if_neg h1];have q1:fR L 16 (b,0)=(b+16,0):=by rw[lf,if_neg (by omega)]
  have q2:fR L 16 (b+16,0)=(b+32,0):=by rw[lf,if_neg (by omega)]
  have q3:fT g L 16 (b,0)=UR g b 16:=by rw[nY,if_neg (by omega)]
  have q4:fT g L 16 (b+16,0)=UR g (b+16) 16:=by rw[nY,if_neg (by omega)]
  rw[e1,q3]at e2⊢;rw[q1,q2,q4]at e2;have hs:UR g b 32=UR g b 16+2^16*UR g (b+16) 16:=oY g b 16 16;have l1:UR g b 16<65536:=nj g b 16;have l2:UR g (b+16) 16<65536:=nj g (b+16) 16;have ad:(2:Nat)^16=65536:=by decide
  rw[ad]at hs;rw[hs];have m1:(UR g b 16+65536*UR g (b+16) 16)%65536=UR g b 16:=by omega
  have m2:(UR g b 16+65536*UR g (b+16) 16)/65536=UR g (b+16) 16:=by omega
  unfold tL;rw[m1,m2];by_cases h3:UR g b 16+UR g (b+16) 16≠65535
  ·rw[if_pos h3];refine⟨fun h=>absurd h (by decide),fun _=>?_⟩;rw[e2,decide_eq_false (by omega)];rfl
  ·rw[if_neg h3];refine⟨fun _=>⟨?_,rfl⟩,fun h=>absurd rfl h⟩;rw[e2,decide_eq_true (by omega)];rfl
theorem yv{L a:Nat}:∀k,a+3*k<=8*L->shS L (a,0) k=(a+3*k,0)
 |0,_=>rfl
 |k+1,h=>by unfold shS;rw[yv k (by omega),lf,if_neg (by omega)];exact Prod.ext (by show a+3*k+3=a+3*(k+1);omega) rfl
theorem Cq{L a:Nat}(ha:a<=8*L):∀k,8*L<a+3*k->(shS L (a,0) k).2=10
 |0,h=>by omega
 |k+1,h=>by
  unfold shS;by_cases h1:8*L<a+3*k
  ·rw[nz (by rw[Cq ha k h1];decide)];exact Cq ha k h1
  ·rw[yv k (by omega),lf,if_pos (by omega)]
theorem Jh{g:Nat->Nat}{L a:Nat}:∀k,a+3*k<=8*L->ky g L (a,0) k=shR g a k
 |0,_=>rfl
 |k+1,h=>by
  unfold ky shR;rw[yv k (by omega),Jh k (by omega),nY,if_neg (by omega)]
theorem Sn(a:Nat)(x:Int):jv (a,0) x=(a,x):=if_pos rfl
theorem wk{F:Nat->Nat}{n:Nat}{fh:Int}{s:Rz}(h:s.2≠0):hH F n fh s=s:=pa h _ _
theorem Ji{g:Nat->Nat}{L a:Nat}{last:Bool}(ha:a<=8*L):
  ((kq last g L a).2.2=0->pA g L (a,0)=((kq last g L a).2.1,0)/\(kq last g L a).1.kind=2/\(kq last g L a).1.last=last/\(kq last g L a).1.left=0/\
   qH g L (a,0)=ib (kq last g L a).1.F (kq last g L a).1.n 15/\qI g L (a,0)=ib (kq last g L a).1.G (kq last g L a).1.m 15/\qJ g L (a,0)=gZ (kq last g L a).1.F (kq last g L a).1.n 15/\qK g L (a,0)=gZ (kq last g L a).1.G (kq last g L a).1.m 15/\
   fD (kq last g L a).1.F (kq last g L a).1.n 15=0/\fD (kq last g L a).1.G (kq last g L a).1.m 15=0)/\
  ((kq last g L a).2.2≠0->(pA g L (a,0)).2=(kq last g L a).2.2):=by
 have ah:=Jf g L (a,0) ha
 have e9:pA g L (a,0)=if(ji g L (a,0)).2.2≠0 then(ji g L (a,0)).2 else hH (fc ((jB g L (a,0)).drop (gK g L (a,0)))) (iD g L (a,0)) 15 (hH (fc (jB g L (a,0))) (gK g L (a,0)) 15 (ig (ji g L (a,0)).2 (decide (0<fc (jB g L (a,0)) 256)) 132)):=rfl
 have eR:ji g L (a,0)=lnS (fG 19 (mh g L (a,0))) g L (gK g L (a,0)+iD g L (a,0)) (gK g L (a,0)+iD g L (a,0)) 0 [] (nK g L (a,0)):=rfl
 have eO:jB g L (a,0)=(nh (ji g L (a,0)).1 ((gK g L (a,0)+iD g L (a,0):Nat):Int)).2:=rfl
 have e5:nK g L (a,0)=ig (hH (mh g L (a,0)) 19 7 (shS L (nJ g L (a,0)) (oM g L (a,0)))) (decide (2<=(((gZ (mh g L (a,0)) 19 7).length:Nat):Int))) 132:=rfl
 have eH:mh g L (a,0)=ky g L (nJ g L (a,0)) (oM g L (a,0)):=rfl
 have e4:nJ g L (a,0)=ig (fR L 4 (fR L 5 (fR L 5 (a,0)))) (decide (gK g L (a,0)<=286/\iD g L (a,0)<=30)) 132:=rfl
 have eC:oM g L (a,0)=fT g L 4 (fR L 5 (fR L 5 (a,0)))+4:=rfl
 have eF:iD g L (a,0)=fT g L 5 (fR L 5 (a,0))+1:=rfl
 have eL:gK g L (a,0)=fT g L 5 (a,0)+257:=rfl
 have g1:qH g L (a,0)=if(ji g L (a,0)).2.2≠0 then fun _=>0 else ib (fc (jB g L (a,0))) (gK g L (a,0)) 15:=rfl
 have g2:qI g L (a,0)=if(ji g L (a,0)).2.2≠0 then fun _=>0 else ib (fc ((jB g L (a,0)).drop (gK g L (a,0)))) (iD g L (a,0)) 15:=rfl
 have g3:qJ g L (a,0)=if(ji g L (a,0)).2.2≠0 then[]else gZ (fc (jB g L (a,0))) (gK g L (a,0)) 15:=rfl
 have g4:qK g L (a,0)=if(ji g L (a,0)).2.2≠0 then[]else gZ (fc ((jB g L (a,0)).drop (gK g L (a,0)))) (iD g L (a,0)) 15:=rfl
 generalize qH g L (a,0)=G1 at g1⊢
 generalize qI g L (a,0)=G2 at g2⊢
 generalize qJ g L (a,0)=Y1 at g3⊢
 generalize qK g L (a,0)=Y2 at g4⊢
 generalize pA g L (a,0)=S9 at e9⊢
 generalize jB g L (a,0)=O at eO ah e9 g1 g2 g3 g4
 generalize ji g L (a,0)=R at eR eO ah e9 g1 g2 g3 g4
 generalize nK g L (a,0)=s5 at e5 eR
 generalize mh g L (a,0)=H at eH e5 eR
 generalize nJ g L (a,0)=s4 at e4 eH e5
 generalize oM g L (a,0)=C at eC eH e5
 generalize iD g L (a,0)=f0 at eF e4 eR eO ah e9 g1 g2 g3 g4
 generalize gK g L (a,0)=l0 at eL e4 eR eO ah e9 g1 g2 g3 g4
 have ad:s5.2≠0->S9.2=s5.2:=fun h=>by
  have:R=([],s5):=by rw[eR,rF (fun q=>h q.2)]
  rw[e9,this,if_pos h]
 have al:s4.2≠0->S9.2=s4.2:=fun h=>by
  have av:∀k,shS L s4 k=s4:=fun k=>by
   induction k with
   |zero=>rfl
   |succ k ih=>unfold shS;rw[ih,nz h]
  have:s5=s4:=by rw[e5,av,wk h,pa h]
  rw[ad (by rw[this];exact h),this]
 unfold kq
 by_cases h0:8*L<a+14
 ·rw[if_pos h0];refine⟨fun h=>absurd h (by decide),fun _=>?_⟩;have ht:(fR L 4 (fR L 5 (fR L 5 (a,0)))).2=10:=by
   rw[lf];by_cases h1:8*L<a+5
   ·rw[if_pos h1,nz (s:=(a,10)) (show(10:Int)≠0 by decide),nz (s:=(a,10)) (show(10:Int)≠0 by decide)]
   ·rw[if_neg h1,lf];by_cases h2:8*L<a+5+5
    ·rw[if_pos h2,nz (s:=(a+5,10)) (show(10:Int)≠0 by decide)]
    ·rw[if_neg h2,lf,if_pos (by omega)]
  have:s4.2=10:=by rw[e4,pa (by rw[ht];decide)];exact ht
  rw[al (by rw[this];decide),this]
 ·rw[if_neg h0];have t1:fR L 5 (a,0)=(a+5,0):=by rw[lf,if_neg (by omega)]
  have t2:fR L 5 (a+5,0)=(a+10,0):=by rw[lf,if_neg (by omega)]
  have t3:fR L 4 (a+10,0)=(a+14,0):=by rw[lf,if_neg (by omega)]
  rw[t1,t2,t3]at e4;rw[t1,t2,nY,if_neg (by omega)]at eC;rw[t1,nY,if_neg (by omega)]at eF;rw[nY,if_neg (by omega)]at eL;have s1:UR g a 14=UR g a 5+2^5*UR g (a+5) 9:=oY g a 5 9;have s2:UR g (a+5) 9=UR g (a+5) 5+2^5*UR g (a+5+5) 4:=oY g (a+5) 5 4;rw[show a+5+5=a+10 by omega]at s2;have b1:UR g a 5<32:=nj g a 5;have b2:UR g (a+5) 5<32:=nj g (a+5) 5;have b3:UR g (a+10) 4<16:=nj g (a+10) 4;have h5:(2:Nat)^5=32:=by decide
  rw[h5]at s1 s2;have v1:UR g a 14%32+257=l0:=by omega
  have v2:UR g a 14/32%32+1=f0:=by omega
  have v3:UR g a 14/1024+4=C:=by omega
  unfold xB;rw[v1,v2,v3];by_cases h1:286<l0\/30<f0
  ·rw[if_pos h1];refine⟨fun h=>absurd h (by decide),fun _=>?_⟩;have:s4.2=132:=by rw[e4,decide_eq_false (by omega)];rfl
   rw[al (by rw[this];decide),this]
  ·rw[if_neg h1];rw[decide_eq_true (show l0<=286/\f0<=30 by omega)]at e4;have aT:s4=(a+14,0):=e4;subst aT;by_cases h2:8*L<a+14+3*C
   ·rw[if_pos h2];refine⟨fun h=>absurd h (by decide),fun _=>?_⟩;have hb:=Cq (L:=L) (a:=a+14) (by omega) C h2;have:s5.2=10:=by rw[e5,wk (by rw[hb];decide),pa (by rw[hb];decide)];exact hb
    rw[ad (by rw[this];decide),this]
   ·rw[if_neg h2];rw[yv C (by omega)]at e5;rw[Jh C (by omega)]at eH;rw[<-eH];unfold xA;by_cases h3:fD H 19 7≠0\/UY H 19≠32768
    ·rw[if_pos h3];refine⟨fun h=>absurd h (by decide),fun _=>?_⟩;have:s5.2=132:=by
      rw[e5];by_cases c1:fD H 19 7=0
      ·have c2:¬2<=(((gZ H 19 7).length:Nat):Int):=fun h=>by rcases h3 with h3|h3;exact h3 c1;exact h3 ((I9 c1).1 h)
       have:hH H 19 7 (a+14+3*C,0)=(a+14+3*C,0):=by unfold hH;rw[decide_eq_true c1];rfl
       rw[this,decide_eq_false c2];rfl
      ·have:hH H 19 7 (a+14+3*C,0)=(a+14+3*C,132):=by unfold hH;rw[decide_eq_false c1];rfl
       rw[this,pa (s:=(a+14+3*C,132)) (show(132:Int)≠0 by decide)]
     rw[ad (by rw[this];decide),this]
    ·rw[if_neg h3];have c1:fD H 19 7=0:=by omega
     have c2:=(I9 c1).2 (by omega);have aU:s5=(a+14+3*C,0):=by
      rw[e5];unfold hH;rw[decide_eq_true c1,decide_eq_true c2];rfl
     rw[aU]at eR;obtain⟨k1,k2⟩:=Jg (F:=H) (g:=g) (L:=L) (n:=l0+f0) (l0+f0) 0 [] (a+14+3*C) [] (Ja _) rfl (Nat.zero_le _) (by omega) (by omega);rw[<-eR]at k1 k2;generalize mB H g L (l0+f0) (l0+f0) (a+14+3*C) []=T at k1 k2⊢;unfold xx;by_cases h4:T.2.2≠0
     ·rw[if_pos h4];refine⟨fun h=>absurd h h4,fun _=>?_⟩;have:=k2 h4;rw[e9,if_pos (by rw[this];exact h4)];exact this
     ·rw[if_neg h4];obtain⟨j1,j2,j3⟩:=k1 (by omega);have aV:¬R.2.2≠0:=by rw[j1];exact fun h=>h rfl
      rw[if_neg aV]at e9 g1 g2 g3 g4;have hO:O=T.1:=by rw[eO,Jc j2 j3 (by omega)]
      rw[hO]at e9 g1 g2 g3 g4;rw[j1]at e9;unfold xw;by_cases h5:fc T.1 256=0\/fD (fc T.1) l0 15≠0\/fD (fc (T.1.drop l0)) f0 15≠0
      ·rw[if_pos h5];refine⟨fun h=>absurd h (by decide),fun _=>?_⟩;rw[e9];by_cases d1:0<fc T.1 256
       ·rw[decide_eq_true d1];show(hH _ _ _ (hH _ _ _ (T.2.1,0))).2=132
        by_cases d2:fD (fc T.1) l0 15=0
        ·have:hH (fc T.1) l0 15 (T.2.1,0)=(T.2.1,0):=by unfold hH;rw[decide_eq_true d2];rfl
         rw[this];unfold hH;rw[decide_eq_false (by rcases h5 with h5|h5|h5;omega;exact absurd d2 h5;exact h5)];rfl
        ·have:hH (fc T.1) l0 15 (T.2.1,0)=(T.2.1,132):=by unfold hH;rw[decide_eq_false d2];rfl
         rw[this,wk (s:=(T.2.1,132)) (show(132:Int)≠0 by decide)]
       ·rw[decide_eq_false d1];show(hH _ _ _ (hH _ _ _ (T.2.1,132))).2=132
        rw[wk (s:=(T.2.1,132)) (show(132:Int)≠0 by decide),wk (s:=(T.2.1,132)) (show(132:Int)≠0 by decide)]
      ·rw[if_neg h5];have d1:0<fc T.1 256:=by omega
       have d2:fD (fc T.1) l0 15=0:=by omega
       have d3:fD (fc (T.1.drop l0)) f0 15=0:=by omega
       refine⟨fun _=>⟨?_,rfl,rfl,rfl,g1,g2,g3,g4,d2,d3⟩,fun h=>absurd rfl h⟩;rw[e9,decide_eq_true d1];unfold hH;rw[decide_eq_true d2,decide_eq_true d3];rfl
theorem Jj{g:Nat->Nat}{L a:Nat}(_:a<=8*L):
  ((fS g L a).2.2=0->nL g L (a,0)=((fS g L a).2.1,0)/\gL g L (a,0)=(fS g L a).1.kind/\rI g L (a,0)=(fS g L a).1.last/\oN g L (a,0)=(fS g L a).1.left/\(fS g L a).1.kind<=2/\(fS g L a).1.left<=65535/\
   ((fS g L a).1.kind=0->qL g L (a,0)=(fun _=>0)/\qM g L (a,0)=(fun _=>0)/\qN g L (a,0)=[]/\qO g L (a,0)=[])/\
   ((fS g L a).1.kind≠0->(fS g L a).1.left=0/\qL g L (a,0)=ib (fS g L a).1.F (fS g L a).1.n 15/\qM g L (a,0)=ib (fS g L a).1.G (fS g L a).1.m 15/\qN g L (a,0)=gZ (fS g L a).1.F (fS g L a).1.n 15/\qO g L (a,0)=gZ (fS g L a).1.G (fS g L a).1.m 15/\
    fD (fS g L a).1.F (fS g L a).1.n 15=0/\fD (fS g L a).1.G (fS g L a).1.m 15=0))/\
  ((fS g L a).2.2≠0->(nL g L (a,0)).2=(fS g L a).2.2):=by
 have eK:gL g L (a,0)=fT g L 2 (fR L 1 (a,0)):=rfl
 have eQ:ij L (a,0)=fR L 2 (fR L 1 (a,0)):=rfl
 have eB:rI g L (a,0)=(((fT g L 1 (a,0):Nat):Int)==1):=rfl
 have eL:oN g L (a,0)=if gL g L (a,0)=0 then o7 g L (ij L (a,0))else 0:=rfl
 have eS:nL g L (a,0)=if gL g L (a,0)=0 then oF g L (ij L (a,0))else if gL g L (a,0)=1 then hH iZ 32 15 (hH iH 288 15 (ij L (a,0)))else if gL g L (a,0)=2 then pA g L (ij L (a,0))else jv (ij L (a,0)) 130:=rfl
 have f1:qL g L (a,0)=if gL g L (a,0)=1 then ib iH 288 15 else if gL g L (a,0)=2 then qH g L (ij L (a,0))else fun _=>0:=rfl
 have f2:qM g L (a,0)=if gL g L (a,0)=1 then ib iZ 32 15 else if gL g L (a,0)=2 then qI g L (ij L (a,0))else fun _=>0:=rfl
 have f3:qN g L (a,0)=if gL g L (a,0)=1 then gZ iH 288 15 else if gL g L (a,0)=2 then qJ g L (ij L (a,0))else[]:=rfl
 have f4:qO g L (a,0)=if gL g L (a,0)=1 then gZ iZ 32 15 else if gL g L (a,0)=2 then qK g L (ij L (a,0))else[]:=rfl
 generalize qL g L (a,0)=C1 at f1⊢
 generalize qM g L (a,0)=C2 at f2⊢
 generalize qN g L (a,0)=Y1 at f3⊢
 generalize qO g L (a,0)=Y2 at f4⊢
 generalize nL g L (a,0)=S at eS⊢
 generalize oN g L (a,0)=l0 at eL⊢
 generalize rI g L (a,0)=lb at eB⊢
 generalize ij L (a,0)=q at eQ eS eL f1 f2 f3 f4
 generalize gL g L (a,0)=kd at eK eS eL f1 f2 f3 f4⊢
 unfold fS
 by_cases h0:8*L<a+3
 ·rw[if_pos h0];refine⟨fun h=>absurd h (by decide),fun _=>?_⟩;have hq:q.2=10/\kd=0:=by
   rw[eQ,eK,lf];by_cases h1:8*L<a+1
   ·rw[if_pos h1,nz (s:=(a,10)) (show(10:Int)≠0 by decide),Fe (s:=(a,10)) (show(10:Int)≠0 by decide)];exact⟨rfl,rfl⟩
   ·rw[if_neg h1,lf,nY,if_pos (by omega),if_pos (by omega)];exact⟨rfl,rfl⟩
  rw[eS,if_pos hq.2,Sl (by rw[hq.1];decide)];exact hq.1
 ·rw[if_neg h0];have t1:fR L 1 (a,0)=(a+1,0):=by rw[lf,if_neg (by omega)]
  have t2:fR L 2 (a+1,0)=(a+3,0):=by rw[lf,if_neg (by omega)]
  rw[t1,t2]at eQ;rw[t1,nY,if_neg (by omega)]at eK;rw[nY,if_neg (by omega)]at eB;subst eQ;have s1:UR g a 3=UR g a 1+2^1*UR g (a+1) 2:=oY g a 1 2;have b1:UR g a 1<2:=nj g a 1;have b2:UR g (a+1) 2<4:=nj g (a+1) 2;have h2:(2:Nat)^1=2:=rfl;rw[h2]at s1;have v1:UR g a 3/2=kd:=by omega
  have v2:decide (UR g a 3%2=1)=lb:=by
   rw[eB];show _=decide ((UR g a 1:Int)=1)
   exact decide_eq_decide.2 (by omega)
  unfold sj;rw[v1,v2];by_cases k3:kd=3
  ·rw[if_pos k3];refine⟨fun h=>absurd h (by decide),fun _=>?_⟩;rw[eS,if_neg (by omega),if_neg (by omega),if_neg (by omega),Sn]
  ·rw[if_neg k3];by_cases k2:kd=2
   ·rw[if_pos k2];rw[if_neg (by omega),if_neg (by omega),if_pos k2]at eS;rw[if_neg (by omega)]at eL;rw[if_neg (by omega),if_pos k2]at f1 f2 f3 f4;obtain⟨d1,d2⟩:=Ji (g:=g) (L:=L) (a:=a+3) (last:=lb) (by omega);rw[<-eS,<-f1,<-f2,<-f3,<-f4]at d1;rw[<-eS]at d2;refine⟨fun h=>?_,d2⟩;obtain⟨c1,c2,c3,c4,c5,c6,c7,c8,c9,ad⟩:=d1 h;exact⟨c1,by omega,c3.symm,by omega,by omega,by omega,fun h=>by omega,fun _=>⟨c4,c5,c6,c7,c8,c9,ad⟩⟩
   ·rw[if_neg k2];by_cases k1:kd=1
    ·rw[if_pos k1];rw[if_neg (by omega),if_pos k1]at eS;rw[if_neg (by omega)]at eL;rw[if_pos k1]at f1 f2 f3 f4;refine⟨fun _=>?_,fun h=>absurd rfl h⟩;have hS:S=(a+3,0):=by
      rw[eS];unfold hH;rw[decide_eq_true Cm,decide_eq_true Cn];rfl
     exact⟨hS,k1,rfl,eL,by show 1<=2;omega,by show 0<=65535;omega,fun h=>absurd h (by show¬1=0;omega),fun _=>⟨rfl,f1,f2,f3,f4,Cm,Cn⟩⟩
    ·rw[if_neg k1];have k0:kd=0:=by omega
     rw[if_pos k0]at eS eL;rw[if_neg (by omega),if_neg (by omega)]at f1 f2 f3 f4;obtain⟨d1,d2⟩:=Sm (g:=g) (L:=L) (a:=a+3) (last:=lb) (by omega);rw[<-eS,<-eL]at d1;rw[<-eS]at d2;refine⟨fun h=>?_,d2⟩;obtain⟨c1,c2⟩:=d1 h;have hk:(nx lb g L ((a+3+7)/8*8)).1.kind=0/\(nx lb g L ((a+3+7)/8*8)).1.last=lb/\(nx lb g L ((a+3+7)/8*8)).1.left<=65535:=by
      unfold nx at h⊢;split at h
      ·exact absurd h (by decide)
      ·rename_i h3;rw[if_neg h3];unfold tL at h⊢;split at h
       ·exact absurd h (by decide)
       ·rename_i h4;rw[if_neg h4];refine⟨rfl,rfl,?_⟩;show UR g ((a+3+7)/8*8) 32%65536<=65535
        omega
     exact⟨c1,by omega,hk.2.1.symm,c2,by omega,hk.2.2,fun _=>⟨f1,f2,f3,f4⟩,fun h=>absurd hk.1 h⟩
structure Jk (l:List aB) (T:Nat->ay->Prop) (a0:Act) (W0 W1:au) (s:Nat) (fj:Array Bool) (a:Act) (w:au):Prop where
 size:fj.size=l.length
 tmps:a.tmps.size=a0.tmps.size
 defers:a.defers=a0.defers
 off:∀t,(∀j d,fj.getD j false=true->(l[j]?).bind (·.dst)=some d->d≠t)->a.tmps[t]?=a0.tmps[t]?
 told:∀j d,fj.getD j false=true->(l[j]?).bind (·.dst)=some d->T j (a.eval (.tmp d))
 closed:∀j oj,l[j]?=some oj->fj.getD j false=true->∀e∈oj.after,Region.binds .any e=true->fj.getD e.on false=true
 world:w=if fj.getD s false=true then W1 else W0
def yw(P:aA)(l:List aB)(T:Nat->ay->Prop)(a0:Act)(W0 W1:au)(s k:Nat)(o:aB):Prop:=
 ∀(a:Act) (w:au),(w=W0\/(w=W1/\k≠s/\Region.waitsFor .any l.toArray s k=false))->(∀t,nG l t=true->a.eval (.tmp t)=a0.eval (.tmp t))->(∀j d,Region.waitsFor .any l.toArray k j=true->(l[j]?).bind (·.dst)=some d->T j (a.eval (.tmp d)))->
  ∀(K:Act->au->Prop) (Q:Exit->Act->au->Prop),(∀v,T k v->K (a.put o.dst v) (if k=s then W1 else w))->if Region.wanted o (aN l.toArray a.tmps)=true then Oper.wp P o a w K Q else K (a.put o.dst undef) w
def ik(P:aA)(l:List aB)(T:Nat->ay->Prop)(a0:Act)(W0 W1:au)(s:Nat):Nat->List aB->Prop
 |_,[]=>True
 |k,o::r=>yw P l T a0 W0 W1 s k o/\ik P l T a0 W0 W1 s (k+1) r
theorem ik.get{P:aA}{l:List aB}{T:Nat->ay->Prop}{a0:Act}{W0 W1:au}{s:Nat}:∀{r:List aB} {k:Nat},ik P l T a0 W0 W1 s k r->∀{j:Nat} {o:aB},r[j]?=some o->yw P l T a0 W0 W1 s (k+j) o
 |[],_,_,_,_,h=>by cases h
 |_::_,k,hA,0,_,h=>by cases h;exact hA.1
 |_::r,k,hA,j+1,o,h=>by
  have:=ik.get (r:=r) hA.2 (j:=j) (by simpa using h);rw[show k+1+j=k+(j+1) by omega]at this;exact this
theorem So{P:aA}{Q:Exit->Act->au->Prop}{a0:Act}{W0 W1:au}{l:List aB}{T:Nat->ay->Prop}{s:Nat}(hs:s<l.length)(hB:Vs l a0.tmps.size=true)(aW:ik P l T a0 W0 W1 s 0 l)
  (aV:∀fj a w,Jk l T a0 W0 W1 s fj a w->(∀i,i<l.length->fj.getD i false=true)->Q .normal a w):
  ∀(f:Nat) (fj:Array Bool) (a:Act) (w:au),((List.range l.length).filter fun i=> !fj.getD i false).length=f->Jk l T a0 W0 W1 s fj a w->wpAny P .any l.toArray Q f fj a w:=by
 have a1:=hB
 simp only[Vs,Bool.and_eq_true,decide_eq_true_eq]at a1
 obtain⟨⟨a9,bf⟩,a2⟩:=a1
 have a3:∀(fj:Array Bool),fj.size=l.length->Region.ready .any l.toArray fj=[]->∀i,i<l.length->fj.getD i false=true:=fun fj bq hr i=>by
  induction i using Nat.strongRecOn with
  |_ i ih=>
   intro hi;cases hu:fj.getD i false with
   |true=>rfl
   |false=>
    exfalso;have h1:=List.all_eq_true.1 a2 i (List.mem_range.2 hi);have bg:l[i]?=some l[i]:=List.getElem?_eq_getElem hi;simp only[bg]at h1;have:i∈Region.ready .any l.toArray fj:=mem_ready.2 ⟨getD_in (by omega) hu,l[i],by simp[hi],fun e he hb=>by
     have h2:=Array.all_eq_true_iff_forall_mem.1 h1 e he;simp only[hb,Bool.not_true,Bool.false_or,decide_eq_true_eq]at h2;exact ih e.on h2 (by omega)⟩
    rw[hr]at this;cases this
 intro f
 induction f with
 |zero=>
  intro fj a w hf inv;have a4:∀i,i<l.length->fj.getD i false=true:=fun i hi=>by
   have h0:=List.length_eq_zero_iff.1 hf;have h1:=List.filter_eq_nil_iff.1 h0 i (List.mem_range.2 hi);simpa using h1
  refine⟨?_,aV fj a w inv a4⟩;apply List.eq_nil_iff_forall_not_mem.2;intro i hi;obtain⟨h0,o,ho,_⟩:=mem_ready.1 hi;have al:i<l.length:=by have:=(Array.getElem?_eq_some_iff.1 ho).1;simpa using this
  have h1:=a4 i al;rw[getD_both h0]at h1;cases h1
 |succ f ih=>
  intro fj a w hf inv;refine⟨fun h0=>aV fj a w inv (a3 fj inv.size h0),fun k hk=>?_⟩;obtain⟨h0,o,ho,ah⟩:=mem_ready.1 hk;have ad:l[k]?=some o:=by simpa using ho
  have al:k<l.length:=(List.getElem?_eq_some_iff.1 ad).1;have bj:yw P l T a0 W0 W1 s k o:=by have:=aW.get ad;rwa[Nat.zero_add]at this
  have aX:∀t,nG l t=true->a.eval (.tmp t)=a0.eval (.tmp t):=fun t ht=>by
   show a.tmps.getD t undef=a0.tmps.getD t undef
   rw[Array.getD_eq_getD_getElem?,Array.getD_eq_getD_getElem?,inv.off t (fun _ _ _ hd=>sQ ht hd)]
  have aT:∀j d,Region.waitsFor .any l.toArray k j=true->(l[j]?).bind (·.dst)=some d->T j (a.eval (.tmp d)):=fun j d hw hd=>by
   obtain⟨ok,a5,e,he,hb,aY⟩:=Region.waitsFor_spec hw;rw[ho]at a5;cases a5;exact inv.told j d (by have:=ah e he hb;rwa[aY]at this) hd
  have a6:∀d,o.dst=some d->d<a.tmps.size:=fun d hd=>by
   have h1:=List.all_eq_true.1 bf o (List.mem_of_getElem? ad);simp only[hd,decide_eq_true_eq]at h1;rw[inv.tmps];exact h1
  have a7:w=W0\/(w=W1/\k≠s/\Region.waitsFor .any l.toArray s k=false):=by
   cases av:fj.getD s false with
   |false=>left;have:=inv.world;rw[av]at this;simpa using this
   |true=>
    right;refine⟨by have:=inv.world;rw[av]at this;simpa using this,fun e=>?_,?_⟩
    ·subst e;rw[getD_both h0]at av;cases av
    ·cases hw:Region.waitsFor .any l.toArray s k with
     |false=>rfl
     |true=>
      exfalso;obtain⟨os,bl,e,he,hb,aY⟩:=Region.waitsFor_spec hw;have:=inv.closed s os (by simpa using bl) av e he hb;rw[aY,getD_both h0]at this;cases this
  have aZ:=bj a w a7 aX aT (wpAny P .any l.toArray Q f (fj.setIfInBounds k true)) Q (fun v hv=>by
   refine ih _ _ _ ?_ ⟨by simp[inv.size],?_,?_,fun t ht=>?_,fun j d hl hd=>?_,fun j oj hj hl e he hb=>?_,?_⟩
   ·have bn:((List.range l.length).filter fun i=> !(fj.setIfInBounds k true).getD i false)=((List.range l.length).filter fun i=> !fj.getD i false).erase k:=by
     rw[List.Nodup.erase_eq_filter (List.nodup_range.filter _),List.filter_filter];apply List.filter_congr;intro x hx;by_cases e:x=k
     ·subst e;have:x<fj.size:=by rw[inv.size];exact al
      simp[this]
     ·rw[getD_set_ne false (Ne.symm e)];simp[e]
    rw[bn,List.length_erase_of_mem (List.mem_filter.2 ⟨List.mem_range.2 al,by rw[getD_both h0];rfl⟩),hf];rfl
   ·unfold Act.put;cases o.dst<;>simp[inv.tmps]
   ·unfold Act.put;cases o.dst<;>exact inv.defers
   ·rw[<-inv.off t (fun j d hl hd=>ht j d (getD_set_true hl) hd)];unfold Act.put;cases hd:o.dst with
    |none=>rfl
    |some d=>
     have e:d≠t:=ht k d (by have:k<fj.size:=(by rw[inv.size];exact al);simp[this]) (by rw[ad];simpa using hd);simp[Array.getElem?_setIfInBounds_ne e]
   ·by_cases e:j=k
    ·subst e;rw[ad]at hd;have aU:o.dst=some d:=by simpa using hd
     have a8:=a6 d aU;have he:(a.put o.dst v).eval (.tmp d)=v:=by rw[aU];simp[Act.put,Act.eval,a8]
     rw[he];exact hv
    ·rw[getD_set_ne false (Ne.symm e)]at hl;have h1:=inv.told j d hl hd;have he:(a.put o.dst v).eval (.tmp d)=a.eval (.tmp d):=Act.eval_put fun d' aU hx=>by
      cases hx
      cases hj:l[j]? with
      |none=>rw[hj]at hd;cases hd
      |some y=>
       rw[hj]at hd;exact e (sR a9 hj ad (by simpa using hd) aU)
     rw[he];exact h1
   ·by_cases e':j=k
    ·subst e';rw[ad]at hj;cases hj;exact getD_set_true (ah e he hb)
    ·rw[getD_set_ne false (Ne.symm e')]at hl;exact getD_set_true (inv.closed j oj hj hl e he hb)
   ·by_cases e:k=s
    ·subst e;have:k<fj.size:=by rw[inv.size];exact al
     rw[if_pos rfl];simp[this]
    ·rw[if_neg e,getD_set_ne false e];exact inv.world)
  unfold wpOp;simp only[ho];split at aZ
  ·rename_i hw;rw[if_pos hw];exact .inl aZ
  ·rename_i hw;rw[if_neg hw];exact aZ
theorem ur{P:aA}{id:Nat}{Q:Exit->Act->au->Prop}{a0:Act}{w0:au}{l:List aB}(s:Nat)(T:Nat->ay->Prop)(W1:au)(hm:P.follows .mixedOrders=true)(hs:(decide (s<l.length)&&Vs l a0.tmps.size)=true)
  (ah:ik P l T a0 w0.drew W1 s 0 l)
  (al:∀(vals:Tmp->ay),(∀j d,(l[j]?).bind (·.dst)=some d->T j (vals d))->Q .normal (U0 (l.map (·.dst)) vals a0) W1):(Code.region id l.toArray true).wp P Q a0 w0:=by
 simp only[Bool.and_eq_true,decide_eq_true_eq]at hs
 obtain⟨av,hB⟩:=hs
 refine wp_region_any hm ?_
 have ad:∀i,(Array.replicate l.toArray.size false).getD i false=false:=fun i=>getD_replicate_false _ _
 refine So (T:=T) av hB ah (fun fj a w inv aT=>?_) l.toArray.size _ _ _ ?_ ⟨by simp,rfl,rfl,fun _ _=>rfl,(fun j d h _=>by rw[ad]at h;cases h),(fun j oj _ h=>by rw[ad]at h;cases h),by rw[ad];rfl⟩
 ·have ha:a=U0 (l.map (·.dst)) (fun d=>a.eval (.tmp d)) a0:=by
   have ht:a.tmps=(U0 (l.map (·.dst)) (fun d=>a.eval (.tmp d)) a0).tmps:=by
    apply Array.ext_getElem?;intro t;by_cases ht:some t∈l.map (·.dst)
    ·obtain⟨o,ho,hd⟩:=List.mem_map.1 ht;simp only[Vs,Bool.and_eq_true,decide_eq_true_eq]at hB;have h1:=List.all_eq_true.1 hB.1.2 o ho;simp only[hd,decide_eq_true_eq]at h1;rw[sO _ _ _ t (.inl ht) h1];have h2:t<a.tmps.size:=by rw[inv.tmps];exact h1
     simp[Act.eval,h2]
    ·rw[sP _ _ _ t ht];refine inv.off t (fun j d _ hd e=>ht ?_);cases hj:l[j]? with
     |none=>rw[hj]at hd;cases hd
     |some y=>
      rw[hj]at hd;exact List.mem_map.2 ⟨y,List.mem_of_getElem? hj,by rw[<-e];simpa using hd⟩
   have aU:a.defers=(U0 (l.map (·.dst)) (fun d=>a.eval (.tmp d)) a0).defers:=by rw[sN];exact inv.defers
   cases a with
   |mk t df=>
    generalize hp:U0 (l.map (·.dst)) (fun d=>(Act.mk t df).eval (.tmp d)) a0=p at*;cases p with
    |mk t2 aV=>simp only at ht aU;rw[ht,aU]
  have hw:=inv.world;rw[if_pos (aT s av)]at hw;rw[ha,hw];refine al _ fun j d hd=>?_
  refine inv.told j d (aT j ?_) hd;cases hj:l[j]? with
  |none=>rw[hj]at hd;cases hd
  |some _=>exact(List.getElem?_eq_some_iff.1 hj).1
 ·rw[List.filter_eq_self.2 (fun i _=>by rw[ad];rfl)];simp
theorem lV{P:aA}{l:List aB}{o:aB}{a:Act}{w W1:au}{s k:Nat}{T:ay->Prop}{K:Act->au->Prop}{Q:Exit->Act->au->Prop}{E:Prop}(ad:k≠s)(hw:Region.wanted o (aN l.toArray a.tmps)=true)(v:ay)
  (hr:(execOp a.eval o).run P w=.ok (.value v) w) (hK:∀v,T v->K (a.put o.dst v) (if k=s then W1 else w)) (hT:T v):if Region.wanted o (aN l.toArray a.tmps)=true then Oper.wp P o a w K Q else E:=by
 rw[if_pos hw]
 unfold Oper.wp
 rw[hr]
 have:=hK v hT
 rw[if_neg ad]at this
 exact this
theorem uu{P:aA}{l:List aB}{o:aB}{a:Act}{w W1:au}{s:Nat}{T:ay->Prop}{K:Act->au->Prop}{Q:Exit->Act->au->Prop}{E:Prop}(hw:Region.wanted o (aN l.toArray a.tmps)=true)(_:o.dst=none)
  (hr:(execOp a.eval o).run P w=.ok .skip W1) (hK:∀v,T v->K (a.put o.dst v) (if s=s then W1 else w)) (hT:T undef):if Region.wanted o (aN l.toArray a.tmps)=true then Oper.wp P o a w K Q else E:=by
 rw[if_pos hw]
 unfold Oper.wp
 rw[hr]
 have:=hK undef hT
 rw[if_pos rfl]at this
 exact this
theorem ik.nil{P:aA}{l:List aB}{T:Nat->ay->Prop}{a0:Act}{W0 W1:au}{s k:Nat}:ik P l T a0 W0 W1 s k []:=trivial
theorem ik.cons{P:aA}{l:List aB}{T:Nat->ay->Prop}{a0:Act}{W0 W1:au}{s k:Nat}{o:aB}{r:List aB}(h:yw P l T a0 W0 W1 s k o)(hr:ik P l T a0 W0 W1 s (k+1) r):ik P l T a0 W0 W1 s k (o::r):=⟨h,hr⟩
def uv(L:List (ay->Prop))(k:Nat):ay->Prop:=(L[k]?).getD fun _=>True
end Go.Proofs.YtgokdgcmkcmjeaaGreat
