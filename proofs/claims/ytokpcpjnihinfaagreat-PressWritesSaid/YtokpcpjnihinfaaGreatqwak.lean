/-
  Words and walks.
-/
import Derived.Test.YtokpcpjnihinfaaGreatqwaa
import Derived.Test.YtokpcpjnihinfaaGreatqwac
import Derived.Test.YtokpcpjnihinfaaGreatqwad
import Derived.Test.YtokpcpjnihinfaaGreatqwaf
import Derived.Test.YtokpcpjnihinfaaGreatqwag
import Derived.Test.YtokpcpjnihinfaaGreatqwaj
set_option maxRecDepth 100000
set_option maxHeartbeats 16000000
namespace Go.Proofs.YtokpcpjnihinfaaGreat
open Value renaming int → ae, slice → af, pointer → ag, agg → ah, bool → ai
open IntKind renaming i64 → aj
open Obj renaming cells → ak
open Ending renaming returned → ao
open Go renaming World → aq, Addr → au, Calls → aw, Value → ax, Program → az, Oper → aA, TypeId → aB, wpList_store_rowTo → aC, wpList_buildTo → aD, wpList_load_row → aE, heap_alloc_new → aG, setRow_heap → aI, bodyPost_ret → aK, setRow_other → aL
open Go.RowKit renaming Hid → aQ, Below → aR
open _root_.Go.Proofs.Tryz
open Go.RowKit Go.ChangeShapes Go.WideShapes Go.ChangeAt Go.Joins
def qR(kind n:Nat)(r:Nat->Nat)(l:List iu):List (Nat×Nat):=if kind=0 then(List.range n).map fun i=>(r i,8)else jM (px kind l) (mC kind l) (py kind l) (mD kind l) l
theorem OI(f:Nat->Nat)(k kind n:Nat)(r:Nat->Nat)(l:List iu)(last:Bool)(ad:kind<=2):
  iE f k (iM (k%8) kind n r l last)=iE (iE f k (jr k kind n l last)) (k+PR (jr k kind n l last)) (qR kind n r l)/\PR (iM (k%8) kind n r l last)=PR (jr k kind n l last)+PR (qR kind n r l):=by
 have hc:kind=0\/kind=1\/kind=2:=by omega
 rcases hc with rfl|rfl|rfl
 ·have e1:iM (k%8) 0 n r l last=[(if last then 1 else 0,1),(0,2)]++(List.replicate (kT (k%8)) (0,1)++([(n,16),(65535-n,16)]++((List.range n).map fun i=>(r i,8)))):=by
   show _++ri (k%8) n r=_
   unfold ri;rw[List.append_assoc]
  have e2:jr k 0 n l last++qR 0 n r l=[(if last then 1 else 0,1),(0,2)]++((0,kT (k%8))::([(n,16),(65535-n,16)]++((List.range n).map fun i=>(r i,8)))):=by
   have hp:(8-(k+3)%8)%8=kT (k%8):=by unfold kT;omega
   show([(if last then 1 else 0,1),(0,2)]++[(0,(8-(k+3)%8)%8),(n,16),(65535-n,16)])++((List.range n).map fun i=>(r i,8))=_
   rw[hp];rfl
  obtain⟨X,hX⟩:∃X:List (Nat×Nat),X=[(if last then 1 else 0,1),(0,2)]:=⟨_,rfl⟩;obtain⟨Y,hY⟩:∃Y:List (Nat×Nat),Y=[(n,16),(65535-n,16)]++((List.range n).map fun i=>(r i,8)):=⟨_,rfl⟩;rw[<-hX,<-hY]at e1 e2;obtain⟨h1,h2⟩:=LD (iE f k X) (k+PR X) (kT (k%8)) Y;rw[<-mj,<-jC,e2,e1];constructor
  ·rw[mj f k X,mj f k X ((0,kT (k%8))::Y),h1]
  ·rw[jC X,jC X ((0,kT (k%8))::Y),h2]
 ·rw[<-mj,<-jC];have e:iM (k%8) 1 n r l last=jr k 1 n l last++qR 1 n r l:=by
   show _=([(if last then 1 else 0,1),(1,2)]++[])++jM kg 288 lL 32 l
   unfold iM;rw[if_pos rfl,List.append_nil]
  rw[e];exact⟨rfl,rfl⟩
 ·rw[<-mj,<-jC];have e:iM (k%8) 2 n r l last=jr k 2 n l last++qR 2 n r l:=by
   show _=([(if last then 1 else 0,1),(2,2)]++lD l)++jM (jA l) (nA l) (jE l) (nB l) l
   unfold iM;rw[if_neg (show¬(2:Nat)=1 by omega),if_pos rfl,List.append_assoc]
  rw[e];exact⟨rfl,rfl⟩
theorem OJ(kind:Nat)(l:List iu)(al:kind=1\/kind=2)(hl:l.length<=65535)(ad:∀t∈l,iO t=true/\t.x<256):
  ky (px kind l) (mC kind l) 15=0/\ky (py kind l) (mD kind l) 15=0/\256<mC kind l/\mC kind l<=288/\0<mD kind l/\mD kind l<=32/\∀t∈l,jU t<mC kind l/\(t.n≠0->lK t<mD kind l):=by
 rcases al with rfl|rfl
 ·have e1:px 1 l=kg:=by unfold px;rw[if_pos rfl]
  have e2:py 1 l=lL:=by unfold py;rw[if_pos rfl]
  have e3:mC 1 l=288:=by unfold mC;rw[if_pos rfl]
  have e4:mD 1 l=32:=by unfold mD;rw[if_pos rfl]
  rw[e1,e2,e3,e4];refine⟨N7,N8,by omega,by omega,by omega,by omega,fun t ht=>?_⟩;obtain⟨h1,_,h3⟩:=mH (ad t ht).1 (ad t ht).2;exact⟨by omega,fun h=>by have:=(h3 h).2.2.2;omega⟩
 ·obtain⟨_,_,_,_,a1,a2,b1,b2,hA,hB⟩:=nc l (by omega);have e1:px 2 l=jA l:=by unfold px;rw[if_neg (show¬(2:Nat)=1 by omega),if_pos rfl]
  have e2:py 2 l=jE l:=by unfold py;rw[if_neg (show¬(2:Nat)=1 by omega),if_pos rfl]
  have e3:mC 2 l=nA l:=by unfold mC;rw[if_neg (show¬(2:Nat)=1 by omega),if_pos rfl]
  have e4:mD 2 l=nB l:=by unfold mD;rw[if_neg (show¬(2:Nat)=1 by omega),if_pos rfl]
  rw[e1,e2,e3,e4];refine⟨NZ l (by omega),N0 l (by omega),by omega,by omega,by omega,by omega,fun t ht=>?_⟩;obtain⟨h1,_,h3⟩:=mH (ad t ht).1 (ad t ht).2;exact⟨(hA _ h1 (xT ht)).1,fun h=>(hB _ (h3 h).2.2.2 (xU ht h)).1⟩
theorem OM{w w':aq}{S:Nat->Prop}{B g K n:Nat}{F r:Nat->Nat}{A A':Option au}{c c':Nat}(al:Qa F K)(h8:K%8=0)(hr:∀j,r j<256)(h:kf w S B g F (K/8) (F (K/8)) (K%8) A c)
  (ho:w'.ownsRow B 5 1 (af A' (K/8+n) c') (K/8+n) (iw (K/8+n) (qH F (K/8) n r))) (hb:aR B w w')
  (hk:∀k,k<w.heap.size->(Value.slice A (K/8) c).ownBlock≠some k->w'.heap[k]?=w.heap[k]?) (hw:∀j,(Value.slice A' (K/8+n) c').ownBlock=some j->(Value.slice A (K/8) c).ownBlock=some j\/w.heap.size<=j):
  iX (w'.setCell ⟨g,0,none⟩ (af A' (K/8+n) c')) S B g (iE F K ((List.range n).map fun i=>(r i,8))) (K+PR ((List.range n).map fun i=>(r i,8)))/\aR B w (w'.setCell ⟨g,0,none⟩ (af A' (K/8+n) c')):=by
 have ad:=al.rW ((List.range n).map fun i=>(r i,8))
 obtain⟨q1,_,q3⟩:=h.grown ho hb hk hw
 refine⟨⟨ad,A',c',?_⟩,q3⟩
 rw[Ek al h8 r hr,tY]at ad⊢
 have e1:(K+8*n)/8=K/8+n:=by omega
 have e2:(K+8*n)%8=K%8:=by omega
 have e3:qH F (K/8) n r (K/8+n)=F (K/8):=by
  have z:=al.2.2;rw[h8]at z;have e:(2:Nat)^0=1:=rfl;unfold qH;rw[if_neg (by omega),if_neg (by omega)];omega
 rw[e1,e2,e3]
 exact q1
theorem ON:KQ:=by
 intro w A n c f k kind A1 rn rc r A2 m c2 l last hp eK eL eM ec cP ed eg cQ dm;obtain⟨hm,bB,_⟩:=eg;obtain⟨E,hE⟩:=gX (rE f n k kind rn r l last);obtain⟨KK,bI⟩:=gX (uo f n k kind rn r l last);obtain⟨FF,bJ⟩:=gX (uq f n k kind rn r l last);rw[<-hE,<-bI,<-bJ];unfold uo at bI;unfold uq at bJ;rw[<-hE]at bI bJ;unfold rE at hE;have cu:∀w':aq,E≠0->aR w.heap.size w w'->D0 w w' (ao (.tuple #[ah #[af none 0 0,ae aj 0],ae aj E])) KK E FF:=fun w' h hb=>by
  have e1:KK=0:=by rw[bI,if_neg h]
  have e2:FF=fun _=>0:=by rw[bJ,if_neg h]
  subst e1;subst e2;exact⟨none,0,0,rfl,rfl,ib.nil _ _ _ (fun _=>by show 0<256;omega),hb,my.nil _ _ _⟩
 obtain⟨h,hh⟩:=gX (w.heap.size);obtain⟨W1,bN⟩:=gX ((w.alloc (ak #[af A n c,ae aj k] 30)).alloc (ak #[af none 0 0,ae aj 0] 30));have h0:W1.heap[h]?=some (ak #[af A n c,ae aj k] 30 (0,0)):=by rw[bN,hh];exact heap_alloc2_old w _ _
 have h1:W1.heap[h+1]?=some (ak #[af none 0 0,ae aj 0] 30 (0,0)):=by rw[bN,hh];exact heap_alloc2_new w _ _
 have bO:aR h w W1:=by rw[bN,hh];exact((Below.refl w.heap.size w).alloc gY _).alloc (by simp) _
 have dn:h+1<W1.heap.size:=(Array.getElem?_eq_some_iff.1 h1).1;rw[<-hh]at hp cP bB;have cg:=gW ((hp.below bO gY).more (show h<=W1.heap.size by omega));have bC:=gW ((cP.below bO gY).more (show h<=W1.heap.size by omega));have bP:=gW ((bB.below bO gY).more (show h<=W1.heap.size by omega));have eh:aQ (∀b o,0<m->A2=some ⟨b,o,none⟩->b<h):=gW fun b o h0 e=>by
  obtain⟨b',o',e',eN,_⟩:=bB.at (k:=0) (by omega);rw[e]at e';injection e' with e'
  injection e' with e1
  omega
 have bj:=gW (pZ W1 A n c f k cg.out.1);have H0:=gW h0;have H1:=gW h1;have cR:=gW bO;have bk:=gW dn;have cS:=gW bN;have HH:=gW hh
 have HE:=gW hE;have cT:=gW bI;have cU:=gW bJ;have HM:=gW hm;have dp:=gW dm;have bD:=gW cu
 clear hE bI bJ hm dm cu hp cP bB h0 h1 bO dn bN hh;obtain⟨b,hb⟩:=gX (jY f n k);rw[<-hb]at HE;cases b with
 |false=>
  have e8:E=8:=by rw[HE.out,if_pos rfl]
  have bQ:ko f n k=8:=by unfold ko;rw[<-hb];rfl
  rw[bQ]at bj;clear HE cT cU hb bQ;subst e8;go_enter func66,ntmps66
  go_wp2_with (first
   |(rw[<-cS.out,<-HH.out];refine aE rfl _ _ rfl h rfl _ #[af A n c,ae aj k] (0,0) _ H0.out underlying30 rfl lZ ?_)
   |fail)
  refine bj.out.mono ?_;rintro e w2 ⟨rfl,aT⟩;have dq:=gW ((aT.block (h+1) bk.out).trans H1.out);have dr:=gW (cR.out.trans (aT.mono (by have:=bk.out;omega)));clear aT;go_wp2_with (first
   |(refine aD rfl 30 #[] rfl (some 21) rfl #[af none 0 0,ae aj 0] ?_ ?_;focus(simpa[Act.eval]using wh))
   |(refine aC rfl _ _ _ rfl rfl (h+1) #[af none 0 0,ae aj 0] rfl rfl 30 #[af none 0 0,ae aj 0] dq.out lZ rfl (by simp[Value.oneCell']) ?_))
  refine aK (tw rfl _ _ (h+1) #[af none 0 0,ae aj 0] rfl rfl (aI _ _ _ _ _ _ dq.out)) rfl ?_;refine bD.out _ (by omega) ?_;rw[<-HH.out];exact lX dr.out (by omega) _
 |true=>
  obtain⟨K,rfl,dt,du,cv⟩:=KM cg.out.1.1 hb.symm;have bQ:ko f n (K:Int)=0:=by unfold ko;rw[<-hb];rfl
  rw[bQ]at bj;have he:=HE.out;rw[if_neg (by decide),Int.toNat_natCast]at he;have bR:=cT.out;have bS:=cU.out;rw[Int.toNat_natCast]at bR bS;have bl:=fun U hU=>FE U kind A1 rn rc A2 m c2 l ec HM.out ((bP.out.below hU gY).more (hU:aR W1.heap.size W1 U).size) cQ ed dp.out
  obtain⟨Q,hQ⟩:=gX (m9 kind rn l);rw[<-hQ]at he bl;have bl:=gW bl;have dv:=gW cv;have ei:=gW du
  clear HE cT cU hb bQ cv du;by_cases q0:Q=0
  ·subst q0;rw[if_neg (fun g=>g rfl)]at he;obtain⟨k2,n2,l2,cx⟩:=CR hQ.symm;have cV:∀t∈l,iO t=true/\t.x<256:=fun t ht=>⟨cx t ht,(dp.out t ht).1⟩
   obtain⟨bT,ch⟩:=OI (iK n f) K kind rn r l last k2;have ej:=ti (a:=K%8) (last:=last) k2 n2 bC.out.1.1 l2 cV;obtain⟨T,hT⟩:=gX (PR (iM (K%8) kind rn r l last));obtain⟨GF,bK⟩:=gX (iE (iK n f) K (iM (K%8) kind rn r l last));obtain⟨O,hO⟩:=gX (PR (jr K kind rn l last));obtain⟨QF,cW⟩:=gX (iE (iK n f) K (jr K kind rn l last));rw[<-hT]at he bR ch ej;rw[<-bK]at bS bT;rw[<-hO]at bT ch;rw[<-cW]at bT;have eO:O<=T:=by omega
   have cj:=gW cV;have dw:=gW bT;have dx:=gW ch;have HO:=gW hO;have en:=gW cW;have ck:=gW he;have dy:=gW bR;have dz:=gW bS
   have eo:=gW bC.out.1.1;clear cV bT ch hT bK hO cW he bR bS hQ cx;go_enter func66,ntmps66
   go_wp2_with (first
    |(rw[<-cS.out,<-HH.out];refine aE rfl _ _ rfl h rfl _ #[af A n c,ae aj (K:Int)] (0,0) _ H0.out underlying30 rfl lZ ?_)
    |fail)
   refine bj.out.mono ?_;rintro e w2 ⟨rfl,aT⟩;have a3:=gW (bl.out w2 aT);have aU:=gW aT;clear aT bl bj;go_wp2_with fail
   refine a3.out.mono ?_;rintro e w4 ⟨rfl,bU⟩;have ad:=aU.out.trans (bU.mono aU.out.size);have dA:=(ad.block h (by have:=bk.out;omega)).trans H0.out;have cX:=(ad.block (h+1) bk.out).trans H1.out;have dB:=(cg.out.below ad gY).more ad.size;have dC:=NN w4 A n c f K dB dt ei.out;have dD:=gW dC;have ep:=gW dA;have bV:=gW cX;have dE:=gW ((bC.out.below ad gY).more ad.size);have cy:=gW ((bP.out.below ad gY).more ad.size)
   have aY:aQ (aR h w w4):=gW (cR.out.trans (ad.mono (by have:=bk.out;omega)));have al:aQ (h+1<w4.heap.size):=gW (Array.getElem?_eq_some_iff.1 cX).1;clear dC dA cX ad bU dB a3 aU cg bC bP;go_wp2_with (first
    |(refine aE rfl _ _ rfl h rfl _ #[af A n c,ae aj (K:Int)] (0,0) _ ep.out underlying30 rfl lZ ?_)
    |fail)
   refine dD.out.mono ?_;rintro e w5 ⟨Aw,cw,rfl,cY,bm⟩;obtain⟨S,hS⟩:∃S:Nat->Prop,S=fun j=>j<w4.heap.size:=⟨_,rfl⟩
   obtain⟨W6,cl⟩:=gX (iP w5 #[af none 0 0,ae .u64 0,ae aj 0] #[af Aw (K/8) cw,ae .u64 ((iK n f (K/8):Nat):Int),ae aj ((K%8:Nat):Int)] 131);have b6:aR w5.heap.size w5 W6:=by rw[cl];exact kU _ _ _ _
   have bW:W6.heap[w5.heap.size]?=some (ak #[af Aw (K/8) cw,ae .u64 ((iK n f (K/8):Nat):Int),ae aj ((K%8:Nat):Int)] 131 (0,0)):=by rw[cl];exact lq w5 _ _ _
   have dF:iX W6 S w4.heap.size w5.heap.size (iK n f) K:=⟨dv.out,Aw,cw,⟨bm.size,by have:=b6.size;have:=bm.size;omega,by rw[hS];have:=bm.size;omega,bW,me cY b6,fun j hj=>by rw[hS];have:=(oD cY j hj).1;omega,fun j hj=>by rw[hS]at hj;have:=b6.size;have:=bm.size;omega⟩⟩;have bE:=bm.trans (b6.mono bm.size);have dG:=Fz W6 A2 m c2 l HM.out ((cy.out.below bE gY).more bE.size) cQ cj.out;have dH:aQ (∀j,j<w4.heap.size->S j):=gW fun j hj=>by rw[hS];exact hj
   have dI:=gW dG;have cZ:=gW dF;have cz:=gW bE;have er:=gW cl
   obtain⟨g,hg⟩:=gX (w5.heap.size);rw[<-hg]at cZ;have HG:=gW hg;clear dG dF bE cl b6 bW cY bm dD hS hg;go_wp2_with (first
    |(refine aC rfl _ _ _ rfl rfl w5.heap.size #[af Aw (K/8) cw,ae .u64 ((iK n f (K/8):Nat):Int),ae aj ((K%8:Nat):Int)] rfl rfl 131 #[af none 0 0,ae .u64 0,ae aj 0] (aG w5 _) (rI _ _ _) rfl (by simp[Value.oneCell']) ?_;change wpList _ _ _ _ _ (iP w5 #[af none 0 0,ae .u64 0,ae aj 0] #[af Aw (K/8) cw,ae .u64 ((iK n f (K/8):Nat):Int),ae aj ((K%8:Nat):Int)] 131);rw[<-er.out])
    |fail)
   rw[<-HG.out];refine dI.out.mono ?_;rintro e w7 ⟨rfl,cm,c8⟩;obtain⟨gc,cA⟩:=gX (W6.heap.size);rw[<-cA]at cm⊢;obtain⟨S7,cn⟩:∃S':Nat->Prop,S'=fun j=>S j\/(W6.heap.size<=j/\j<w7.heap.size):=⟨_,rfl⟩
   have cB:iX w7 S7 w4.heap.size g (iK n f) K:=by rw[cn];exact cZ.out.grow c8
   have cC:∀j,j<w4.heap.size->S7 j:=fun j hj=>by rw[cn];exact .inl (dH.out j hj)
   have cD:S7 gc:=by rw[cn];exact .inr ⟨by omega,cm.lt⟩
   have hop:=FQ w7 S7 w4.heap.size g (iK n f) K rn gc kind l last cB k2 n2 dt cD cm l2 cj.out (by rw[<-HO.out];omega);have cE:aR w4.heap.size w4 w7:=cz.out.trans (c8.mono cz.out.size);have dJ:=gW hop;have dK:=gW cC;have cF:=gW cE
   clear hop cC cD cB cn cm c8 cE cA dI cZ dH;go_wp2_with fail
   refine dJ.out.mono ?_;rintro e w8 ⟨et,eu,ev,ew,rfl,bL,bM,bn,ey,dL⟩;rw[<-HO.out,<-en.out]at bn;have aZ:=gW bn;have a4:=gW (cF.out.trans dL)
   have dM:=gW bL;have dN:=gW bM
   clear bn ey dL bL bM dJ cF;by_cases dO:kind=0
   ·subst dO;have av:=dx.out;have aS:=dw.out;have bX:qR 0 rn r l=(List.range rn).map fun i=>(r i,8):=by unfold qR;rw[if_pos rfl]
    rw[bX]at av aS;have ez:(K+O)%8=0:=by
     have e:PR [(0,(8-(K+3)%8)%8),(rn,16),(65535-rn,16)]=(8-(K+3)%8)%8+32:=by simp[PR]
     have e2:PR [((if last then 1 else 0:Nat),1),(0,2)]=3:=rfl;have e3:jr K 0 rn l last=[(if last then 1 else 0,1),(0,2)]++[(0,(8-(K+3)%8)%8),(rn,16),(65535-rn,16)]:=by unfold jr;rw[if_neg (show¬(0:Nat)=1 by omega),if_neg (show¬(0:Nat)=2 by omega)]
     rw[HO.out,e3,jC,e,e2];omega
    obtain⟨cG,Aq,cq,a5⟩:=aZ.out;have cH:ib w8 w8.heap.size A1 rn rc r:=(dE.out.below a4.out gY).more a4.out.size;obtain⟨A',c',w',bY,ho,dP,c9,dQ⟩:=wG w8 w4.heap.size Aq ((K+O)/8) cq QF a5.own A1 rn rc r (qH QF ((K+O)/8) rn r) cH (fun j hj=>by unfold qH;rw[if_pos hj]) (fun j hj=>by unfold qH;rw[if_neg (by omega),if_pos (by omega),Nat.add_sub_cancel_left]) (by omega) a5.size;obtain⟨bZ,cp⟩:=OM cG ez eo.out a5 ho dP c9 dQ;rw[<-aS,Nat.add_assoc,<-av]at bZ;obtain⟨z0,_,_,e0,_,_⟩:=a5.cells;have da:=(c9 g a5.lt a5.ne).trans a5.row;have eP:w'.frozen? ⟨g,0,none⟩=false:=frozen_of_row w' g 0 _ _ da;have dR:w'.cell? ⟨g,0,none⟩=some (af Aq ((K+O)/8) cq):=(cell_of_row w' g 0 _ _ (0,0) da).trans rfl;obtain⟨Lq,dS⟩:=gX ((K+O)/8);rw[<-dS]at bY bZ cp z0 dR;obtain⟨WX,db⟩:=gX (w'.setCell ⟨g,0,none⟩ (af A' (Lq+rn) c'));rw[<-db]at bZ cp;have eR:Lq<=2000000:=by omega
    have dT:=gW bY;have bp:=gW bZ;have bq:=gW (a4.out.trans cp);have eA:=gW db
    clear bY bZ cp db ho dP c9 dQ a5 cH cG av aS bX da dS aZ;go_wp2_with (first
     |(at_builtin;refine wpList_append_run rfl (.tmp 46) (.tmp 47) 22 rfl (af Aq Lq cq) (af A1 rn rc) (af A' (Lq+rn) c') w' rfl rfl dT.out ?_)
     |(rw[<-eA.out])
     |fail)
    have a6:=xd WX S7 w4.heap.size g GF (K+T) bp.out (by omega);have a7:=gW a6;clear a6;go_wp2_with fail
    refine a7.out.mono ?_;rintro e eB ⟨rfl,rfl⟩;have a8:WX.drew.heap[h+1]?=some (ak #[af none 0 0,ae aj 0] 30 (0,0)):=(bq.out.block (h+1) al.out).trans bV.out;have aV:=gW a8;clear a8 a7;by_cases aW:8388608<K+T
    ·have e9:E=9:=by rw[ck.out,if_pos aW]
     have br:(8388608:Int)<(K:Int)+(T:Int):=by omega
     have b0:decide ((8388608:Int)<(K:Int)+(T:Int))=true:=oM br;have dc:=gW e9;clear e9;go_wp2_with (first
      |(refine aD rfl 30 #[] rfl (some 60) rfl #[af none 0 0,ae aj 0] ?_ ?_;focus(simpa[Act.eval]using wh))
      |(refine aC rfl _ _ _ rfl rfl (h+1) #[af none 0 0,ae aj 0] rfl rfl 30 #[af none 0 0,ae aj 0] aV.out lZ rfl (by simp[Value.oneCell']) ?_))
     refine aK (tw rfl _ _ (h+1) #[af none 0 0,ae aj 0] rfl rfl (aI _ _ _ _ _ _ aV.out)) rfl ?_;have a9:=bD.out;rw[dc.out]at a9⊢;refine a9 _ (by omega) ?_;rw[<-HH.out];exact lX (aY.out.trans ((bq.out.drew).mono (by have:=al.out;omega))) (by omega) _
    ·have e0:E=0:=by rw[ck.out,if_neg aW]
     have br:¬(8388608:Int)<(K:Int)+(T:Int):=by omega
     have b0:decide ((8388608:Int)<(K:Int)+(T:Int))=false:=ni br;have bt:=gW e0;clear e0;have bu:=FI WX.drew S7 w4.heap.size g GF (K+T) bp.out.drew (by omega);obtain⟨kt,bz⟩:=gX (K+T);rw[<-bz]at bu;have eC:(K:Int)+(T:Int)=(kt:Int):=by omega
     have b1:=gW bu;have dd:=gW bz
     clear bu bz;go_wp2_with fail
     refine b1.out.mono ?_;rintro e de ⟨A',c',L,hL,rfl,ho,aX⟩;have bd:=(aX.block (h+1) al.out).trans aV.out;have b2:∀j,(Value.slice A' L c').ownBlock=some j->j≠h+1:=fun j hj=>by have:=(oD ho j hj).1;have:=al.out;omega
     have bf:=gW bd;have b3:=gW ho;have b4:=gW (bq.out.drew.trans aX);have b5:=gW hL;have df:=gW b2
     clear bd ho aX hL b2 b1;go_wp2_with (first
      |(refine aC rfl _ _ _ rfl rfl (h+1) #[af A' L c',ae aj (kt:Int)] rfl rfl 30 #[af none 0 0,ae aj 0] bf.out lZ rfl (by simp[Value.oneCell']) ?_))
     refine aK (tw rfl _ _ (h+1) #[af A' L c',ae aj (kt:Int)] rfl rfl (aI _ _ _ _ _ _ bf.out)) rfl ?_;have ek:KK=kt:=by rw[dy.out,if_pos bt.out,dd.out]
     have ef:FF=GF:=by rw[dz.out,if_pos bt.out]
     have bK:∀j,GF j<256:=bp.out.1.1;have bg:=mV b3.out (w':=de.setRow (h+1) #[af A' L c',ae aj (kt:Int)]) fun j hj=>aL _ _ _ _ (df.out j hj)
     rw[ek,ef,bt.out];have hle:w.heap.size=h:=HH.out.symm;refine⟨A',c',L,b5.out,rfl,ib.iI bg bK,?_,FH (rq bg (by rw[hle];have:=al.out;omega))⟩;rw[hle];exact lX (aY.out.trans (b4.out.mono (by have:=al.out;omega))) (by omega) _
   ·have eS:((kind:Int)==0)=false:=by rw[beq_eq_false_iff_ne];omega
    obtain⟨ca,cb,m1,m2,n1,n3,dg⟩:=OJ kind l (by omega) l2 cj.out;have bX:qR kind rn r l=jM (px kind l) (mC kind l) (py kind l) (mD kind l) l:=by unfold qR;rw[if_neg dO]
    have av:=dx.out;have aS:=dw.out;rw[bX]at av aS;have bL:=dM.out;have bM:=dN.out;obtain⟨M,hM⟩:=gX (mC kind l);obtain⟨N,hN⟩:=gX (mD kind l);obtain⟨FA,dh⟩:=gX (px kind l);obtain⟨FB,di⟩:=gX (py kind l);rw[<-hM,<-dh]at bL ca;rw[<-hN,<-di]at bM cb;rw[<-hM]at m1 m2;rw[<-hN]at n1 n3;rw[<-hM,<-hN]at dg;rw[<-hM,<-hN,<-dh,<-di]at av aS;rw[<-hM,<-hN];have dU:=zH w8 et M eu FA bL (by omega) (by omega) ca;have dV:=gW dU;have dW:=gW bM;have eD:=gW ca;have dX:=gW cb;have eE:=gW dg;have cI:=gW av;have dY:=gW aS
    clear dU bL bM ca cb dg av aS bX hM hN dh di dM dN;have eT:∀(fn:Fn) (first cap:Array ax) (w:aq),(Instr.makeFunc fn first cap).run prog w=.ok (.func fn first cap) w:=fun _ _ _ _=>rfl
    go_wp2_with fail
    refine dV.out.mono ?_;rintro e w9 ⟨ga,eF,rfl,dZ,cJ,cr⟩;have cK:=zH w9 ev N ew FB ((dW.out.below cr gY).more cr.size) (by omega) (by omega) dX.out;have cL:=gW cK;have bF:=gW cJ;have ct:=gW cr
    clear cK cJ cr dV;go_wp2_with fail
    refine cL.out.mono ?_;rintro e a1 ⟨gb,eG,rfl,eH,b7,bG⟩;have bA:aR w8.heap.size w8 a1:=ct.out.trans (bG.mono ct.out.size);obtain⟨SX,b8⟩:∃S':Nat->Prop,S'=fun j=>S7 j\/(w8.heap.size<=j/\j<a1.heap.size):=⟨_,rfl⟩
    have bH:iX a1 SX w4.heap.size g QF (K+O):=by rw[b8];exact aZ.out.grow bA
    have dj:∀j,S7 j->SX j:=fun j hj=>by rw[b8];exact .inl hj
    have a2:aR w4.heap.size w4 a1:=a4.out.trans (bA.mono a4.out.size);have b9:km a1 a1.heap.size A2 l:=(cy.out.below a2 gY).more a2.size;have ea:=bF.out.lt;have cM:=b7.lt;have cN:pM a1 SX ga M FA:=⟨bF.out.below bG bF.out.lt,by rw[b8];exact .inr ⟨dZ,by have:=bG.size;omega⟩,eD.out⟩;have cO:pM a1 SX gb N FB:=⟨b7,by rw[b8];exact .inr ⟨by have:=ct.out.size;omega,cM⟩,dX.out⟩;have dk:=Oo a1 SX w4.heap.size g QF (K+O) A2 m c2 l FA ga M eF FB gb N eG bH HM.out b9 (fun b o h0 e=>dj b (dK.out b (by have:=eh.out b o h0 e;have:=al.out;omega))) cQ cN cO (by omega) (by omega) m1 cj.out eE.out (by rw[Nat.add_assoc,<-cI.out];omega);rw[<-dY.out,Nat.add_assoc,<-cI.out]at dk;have eb:=gW dk;have cf:=gW a2;have eI:=gW dj
    clear dk a2 dj cN cO b9 bH b8 bA bG b7 dZ eH ea cM cL aZ bF ct dW;go_wp2_with fail
    refine eb.out.mono ?_;rintro e WX ⟨rfl,t1,_,t3⟩;have bp:=gW (t1.less eI.out);have bq:=gW (cf.out.trans t3)
    clear t1 t3 eb cf;have a6:=xd WX S7 w4.heap.size g GF (K+T) bp.out (by omega);have a7:=gW a6;clear a6;go_wp2_with fail
    refine a7.out.mono ?_;rintro e eB ⟨rfl,rfl⟩;have a8:WX.drew.heap[h+1]?=some (ak #[af none 0 0,ae aj 0] 30 (0,0)):=(bq.out.block (h+1) al.out).trans bV.out;have aV:=gW a8;clear a8 a7;by_cases aW:8388608<K+T
    ·have e9:E=9:=by rw[ck.out,if_pos aW]
     have br:(8388608:Int)<(K:Int)+(T:Int):=by omega
     have b0:decide ((8388608:Int)<(K:Int)+(T:Int))=true:=oM br;have dc:=gW e9;clear e9;go_wp2_with (first
      |(refine aD rfl 30 #[] rfl (some 60) rfl #[af none 0 0,ae aj 0] ?_ ?_;focus(simpa[Act.eval]using wh))
      |(refine aC rfl _ _ _ rfl rfl (h+1) #[af none 0 0,ae aj 0] rfl rfl 30 #[af none 0 0,ae aj 0] aV.out lZ rfl (by simp[Value.oneCell']) ?_))
     refine aK (tw rfl _ _ (h+1) #[af none 0 0,ae aj 0] rfl rfl (aI _ _ _ _ _ _ aV.out)) rfl ?_;have a9:=bD.out;rw[dc.out]at a9⊢;refine a9 _ (by omega) ?_;rw[<-HH.out];exact lX (aY.out.trans ((bq.out.drew).mono (by have:=al.out;omega))) (by omega) _
    ·have e0:E=0:=by rw[ck.out,if_neg aW]
     have br:¬(8388608:Int)<(K:Int)+(T:Int):=by omega
     have b0:decide ((8388608:Int)<(K:Int)+(T:Int))=false:=ni br;have bt:=gW e0;clear e0;have bu:=FI WX.drew S7 w4.heap.size g GF (K+T) bp.out.drew (by omega);obtain⟨kt,bz⟩:=gX (K+T);rw[<-bz]at bu;have eC:(K:Int)+(T:Int)=(kt:Int):=by omega
     have b1:=gW bu;have dd:=gW bz
     clear bu bz;go_wp2_with fail
     refine b1.out.mono ?_;rintro e de ⟨A',c',L,hL,rfl,ho,aX⟩;have bd:=(aX.block (h+1) al.out).trans aV.out;have b2:∀j,(Value.slice A' L c').ownBlock=some j->j≠h+1:=fun j hj=>by have:=(oD ho j hj).1;have:=al.out;omega
     have bf:=gW bd;have b3:=gW ho;have b4:=gW (bq.out.drew.trans aX);have b5:=gW hL;have df:=gW b2
     clear bd ho aX hL b2 b1;go_wp2_with (first
      |(refine aC rfl _ _ _ rfl rfl (h+1) #[af A' L c',ae aj (kt:Int)] rfl rfl 30 #[af none 0 0,ae aj 0] bf.out lZ rfl (by simp[Value.oneCell']) ?_))
     refine aK (tw rfl _ _ (h+1) #[af A' L c',ae aj (kt:Int)] rfl rfl (aI _ _ _ _ _ _ bf.out)) rfl ?_;have ek:KK=kt:=by rw[dy.out,if_pos bt.out,dd.out]
     have ef:FF=GF:=by rw[dz.out,if_pos bt.out]
     have bK:∀j,GF j<256:=bp.out.1.1;have bg:=mV b3.out (w':=de.setRow (h+1) #[af A' L c',ae aj (kt:Int)]) fun j hj=>aL _ _ _ _ (df.out j hj)
     rw[ek,ef,bt.out];have hle:w.heap.size=h:=HH.out.symm;refine⟨A',c',L,b5.out,rfl,ib.iI bg bK,?_,FH (rq bg (by rw[hle];have:=al.out;omega))⟩;rw[hle];exact lX (aY.out.trans (b4.out.mono (by have:=al.out;omega))) (by omega) _
  ·have eQ:E=Q:=by rw[he,if_pos q0]
   have eU:(Q==0)=false:=by rw[beq_eq_false_iff_ne];exact q0
   clear he bR bS hQ;go_enter func66,ntmps66
   go_wp2_with (first
    |(rw[<-cS.out,<-HH.out];refine aE rfl _ _ rfl h rfl _ #[af A n c,ae aj (K:Int)] (0,0) _ H0.out underlying30 rfl lZ ?_)
    |fail)
   refine bj.out.mono ?_;rintro e w2 ⟨rfl,aT⟩;have a3:=gW (bl.out w2 aT);have aU:=gW aT;have eJ:=gW eQ;clear aT bl bj eQ;go_wp2_with fail
   refine a3.out.mono ?_;rintro e w4 ⟨rfl,bU⟩;have ad:=aU.out.trans (bU.mono aU.out.size);have bV:=gW ((ad.block (h+1) bk.out).trans H1.out);have aY:aQ (aR h w w4):=gW (cR.out.trans (ad.mono (by have:=bk.out;omega)));clear bU ad aU a3;go_wp2_with (first
    |(refine aD rfl 30 #[] rfl (some 29) rfl #[af none 0 0,ae aj 0] ?_ ?_;focus(simpa[Act.eval]using wh))
    |(refine aC rfl _ _ _ rfl rfl (h+1) #[af none 0 0,ae aj 0] rfl rfl 30 #[af none 0 0,ae aj 0] bV.out lZ rfl (by simp[Value.oneCell']) ?_))
   refine aK (tw rfl _ _ (h+1) #[af none 0 0,ae aj 0] rfl rfl (aI _ _ _ _ _ _ bV.out)) rfl ?_;have a9:=bD.out;rw[eJ.out]at a9⊢;refine a9 _ q0 ?_;rw[<-HH.out];exact lX aY.out (by omega) _
def zM(l:List aA)(F:List Nat)(n:Nat):Bool:=(List.range n).all fun i=>F.contains i||(List.range (n+1)).any fun j=>decide (i<j)&& !F.contains j&&Region.waitsFor .any l.toArray j i
theorem OO{l:List aA}{F:List Nat}{n:Nat}{ig:Array Bool}(hs:zM l F n=true)(hc:Region.chainB .any l.toArray n=true)(hn:n<l.length)(inv:HeadInv .any l.toArray n ig){i:Nat}(hi:i<n)(aS:i∉F)(hu:ig.getD i true=false):
  ∀t,n<=t->t∉Region.ready .any l.toArray ig:=by
 have a1:ig.size=l.length:=by rw[inv.size];simp
 have key:∀(d i:Nat),d=n-i->i<=n->i∉F->ig.getD i true=false->n∈Region.ready .any l.toArray ig->i=n:=by
  intro d;induction d using Nat.strongRecOn with
  |_ d ih=>
   intro i hd hi aS hu hr;rcases Nat.eq_or_lt_of_le hi with e|hi
   ·exact e
   ·exfalso;have h1:=List.all_eq_true.1 hs i (List.mem_range.2 hi);simp only[Bool.or_eq_true]at h1;rcases h1 with h1|h1
    ·exact aS (by simpa using h1)
    ·obtain⟨j,hj,aT⟩:=List.any_eq_true.1 h1;simp only[Bool.and_eq_true,decide_eq_true_eq,Bool.not_eq_true',List.contains_eq_mem,decide_eq_false_iff_not]at aT;obtain⟨oj,aU,e,he,hb,av⟩:=Region.waitsFor_spec aT.2;have aW:j<=n:=by have:=List.mem_range.1 hj;omega
     cases hl:ig.getD j false with
     |true=>
      have h2:=inv.closed j oj aU hl e he hb;rw[av,getD_both hu]at h2;cases h2
     |false=>
      have aX:=ih (n-j) (by omega) j rfl aW aT.1.2 (getD_in (by omega) hl) hr;subst aX;obtain⟨_,ot,ad,al⟩:=mem_ready.1 hr;rw[aU]at ad;cases ad;have h2:=al e he hb;rw[av,getD_both hu]at h2;cases h2
 intro t ht hr
 by_cases aY:t=n
 ·subst aY;have:=key (t-i) i rfl (by omega) aS hu hr;omega
 ·obtain⟨_,ot,ad,al⟩:=mem_ready.1 hr;have aZ:t<l.length:=by have:=(Array.getElem?_eq_some_iff.1 ad).1;simpa using this
  have h1:=List.all_eq_true.1 hc t (List.mem_range.2 (by simpa using aZ));simp only[Bool.or_eq_true,decide_eq_true_eq]at h1;rcases h1 with h1|h1
  ·omega
  ·obtain⟨o',aV,e,he,hb,av⟩:=Region.waitsFor_spec h1;rw[ad]at aV;cases aV;have h2:=al e he hb;rw[av,getD_both (inv.tail (t-1) (by omega) (by simp;omega))]at h2;cases h2
def FU(P:az)(l:List aA)(T:Nat->ax->aq->Prop)(a0:Act)(U:aq)(Q:Exit->Act->aq->Prop)(i0:Nat):Prop:=
 ∃o0 d0,l[i0]?=some o0/\o0.guard=none/\o0.dst=some d0/\(∀v c a w,Q (.panic c) (a.put o0.dst v) w->Q (.panic c) a w)/\
  ∀(a:Act) (w:aq),aR U.heap.size U w->(∀s,oA l s=true->a.eval (.tmp s)=a0.eval (.tmp s))->(∀j d,Region.waitsFor .any l.toArray i0 j=true->(l[j]?).bind (·.dst)=some d->Up (T j) (a.eval (.tmp d)) w)->∃v,(∀w',(execOp a.eval o0).run P w'=.ok (.value v) w')/\Up (T i0) v w
theorem OP{P:az}{Q:Exit->Act->aq->Prop}{a0:Act}{U:aq}{l:List aA}{T:Nat->ax->aq->Prop}{n:Nat}{F:List Nat}(bD:∀i∈F,i<n)(hn:n<l.length)(hs:zM l F n=true)(a7:∀i∈F,vY l i=true)(bl:Region.noSelect l.toArray=true)(hF:∀i∈F,FU P l T a0 U Q i)
   (hc:Region.chainB .any l.toArray n=true)
  (bm:Region.seqB .any l.toArray (l.length-n) n (kV n (l.length-n))=true) (hB:Qj l a0.tmps.size=true) (a8:ia P l T a0 U 0 (l.take n))
  (bn:∀ig a w,ry l T a0 U ig a w->(∀i,i<n->ig.getD i false=true)->(∀i,n<=i->i<l.length->ig.getD i true=false)->wpList P l.toArray Q (l.drop n) a w):
  ∀(f:Nat) (ig:Array Bool) (a:Act) (w:aq),((List.range n).filter fun i=> !ig.getD i false).length=f->ry l T a0 U ig a w->HeadInv .any l.toArray n ig->wpAny P .any l.toArray Q (f+(l.length-n)) ig a w:=by
 have bp:=hB
 simp only[Qj,Bool.and_eq_true,decide_eq_true_eq]at bp
 obtain⟨⟨bq,br⟩,a5⟩:=bp
 intro f
 induction f with
 |zero=>
  intro ig a w hf inv hi;have bt:∀i,i<n->ig.getD i false=true:=fun i hi=>by
   have h0:=List.length_eq_zero_iff.1 hf;have h1:=List.filter_eq_nil_iff.1 h0 i (List.mem_range.2 hi);simpa using h1
  have hk:=bn ig a w inv bt (fun i h1 h2=>hi.tail i h1 (by simpa using h2));have he:=vt (n:=n) (g:=l.length-n) (ig:=ig) (by rw[inv.size];omega) (fun i h=>by
   have h1:=bt i h;cases h2:ig.getD i true with
   |true=>rfl
   |false=>rw[getD_both h2]at h1;cases h1) (fun t ht bW=>hi.tail t ht (by simp;omega))
  subst he;have h3:=wpAny_of_seq (P:=P) (md:=.any) (Q':=Q) (l.drop n) n (kV n (l.length-n)) a w (fun j=>by simp[List.getElem?_drop]) (by rw[List.length_drop];exact bm) hk;rw[List.length_drop]at h3;rw[Nat.zero_add];exact h3
 |succ f ih=>
  intro ig a w hf inv hi;rw[show f+1+(l.length-n)=(f+(l.length-n))+1 by omega];obtain⟨x,a9,aW⟩:∃x,x<n/\ig.getD x false=false:=by
   have:0<((List.range n).filter fun i=> !ig.getD i false).length:=by omega
   obtain⟨x,hx⟩:=List.exists_mem_of_length_pos this;obtain⟨h1,h2⟩:=List.mem_filter.1 hx;exact⟨x,List.mem_range.1 h1,by simpa using h2⟩
  by_cases bu:∃i0,i0∈F/\i0∈Region.ready .any l.toArray ig
  ·obtain⟨i0,aX,bd⟩:=bu;have a6:=bD i0 aX;have a7:=a7 i0 aX;obtain⟨o0,d0,bz,bE,a2,bF,bG⟩:=hF i0 aX;obtain⟨h0,o,ho,al⟩:=mem_ready.1 bd;have ad:l[i0]?=some o:=by simpa using ho
   have bH:o=o0:=by rw[bz]at ad;exact(Option.some.inj ad).symm
   subst bH;have aY:i0<l.length:=(List.getElem?_eq_some_iff.1 ad).1;have aU:∀s,oA l s=true->a.eval (.tmp s)=a0.eval (.tmp s):=fun s hs=>by
    show a.tmps.getD s undef=a0.tmps.getD s undef
    rw[Array.getD_eq_getD_getElem?,Array.getD_eq_getD_getElem?,inv.off s (fun _ _ _ hd=>su hs hd)]
   have aT:∀j d,Region.waitsFor .any l.toArray i0 j=true->(l[j]?).bind (·.dst)=some d->Up (T j) (a.eval (.tmp d)) w:=fun j d hw hd=>by
    obtain⟨ok,av,e,he,hb,aV⟩:=Region.waitsFor_spec hw;rw[ho]at av;cases av;exact inv.told j d (by have:=al e he hb;rwa[aV]at this) hd
   obtain⟨v,bI,bJ⟩:=bG a w inv.below aU aT;have aZ:d0<a.tmps.size:=by
    have h1:=List.all_eq_true.1 br o (List.mem_of_getElem? ad);simp only[a2,decide_eq_true_eq]at h1;rw[inv.tmps];exact h1
   refine wpAny_first (oi:=o) (v:=v) ho (Region.noSelect_spec bl) (bF v) (f+(l.length-n)) ig a w (fun j oj hj a1 bK bf=>?_) bd (.inl ⟨by simp[Region.wanted,bE],bI⟩) ?_
   ·have bL:j<l.length:=by have:=(Array.getElem?_eq_some_iff.1 hj).1;simpa using this
    have h1:=List.all_eq_true.1 a7 j (List.mem_range.2 bL);have bM:l[j]?=some oj:=by simpa using hj
    simp only[bz,bM,Bool.or_eq_true,beq_iff_eq]at h1;rcases h1 with((h1|h1)|h1)|h1
    ·exact absurd h1 a1
    ·obtain⟨ok,av,e,he,hb,aV⟩:=Region.waitsFor_spec h1;rw[ho]at av;cases av;have h2:=al e he hb;rw[aV,getD_both bK]at h2;cases h2
    ·obtain⟨ok,av,e,he,hb,aV⟩:=Region.waitsFor_spec h1;rw[hj]at av;cases av;exact absurd aV (bf e he hb)
    ·exact h1
   ·refine ih _ _ _ ?_ ⟨by simp[inv.size],?_,?_,inv.below,fun s hs=>?_,fun j d hl hd=>?_⟩ (hi.set bd a6)
    ·have bg:((List.range n).filter fun i=> !(ig.setIfInBounds i0 true).getD i false)=((List.range n).filter fun i=> !ig.getD i false).erase i0:=by
      rw[List.Nodup.erase_eq_filter (List.nodup_range.filter _),List.filter_filter];apply List.filter_congr;intro x hx;by_cases e:x=i0
      ·subst e;have:x<ig.size:=by rw[inv.size];exact aY
       simp[this]
      ·rw[getD_set_ne false (Ne.symm e)];simp[e]
     rw[bg,List.length_erase_of_mem (List.mem_filter.2 ⟨List.mem_range.2 a6,by rw[getD_both h0];rfl⟩),hf];rfl
    ·unfold Act.put;cases o.dst<;>simp[inv.tmps]
    ·unfold Act.put;cases o.dst<;>exact inv.defers
    ·rw[<-inv.off s (fun j d hl hd=>hs j d (getD_set_true hl) hd),a2];have e:d0≠s:=hs i0 d0 (by have:i0<ig.size:=(by rw[inv.size];exact aY);simp[this]) (by rw[ad];simpa using a2);simp[Act.put,Array.getElem?_setIfInBounds_ne e]
    ·by_cases e:j=i0
     ·subst e;rw[ad]at hd;have aS:o.dst=some d:=by simpa using hd
      have bN:d=d0:=by rw[a2]at aS;exact(Option.some.inj aS).symm
      subst bN;have he:(a.put o.dst v).eval (.tmp d)=v:=by rw[aS];simp[Act.put,Act.eval,aZ]
      rw[he];exact bJ
     ·rw[getD_set_ne false (Ne.symm e)]at hl;have h1:=inv.told j d hl hd;have he:(a.put o.dst v).eval (.tmp d)=a.eval (.tmp d):=Act.eval_put fun d' aS hx=>by
       cases hx
       cases hj:l[j]? with
       |none=>rw[hj]at hd;cases hd
       |some y=>
        rw[hj]at hd;exact e (sx bq hj ad (by simpa using hd) aS)
      rw[he];exact h1
  obtain⟨y,bO,bA,bP⟩:∃y,y<n/\y∉F/\ig.getD y false=false:=by
   have key:∀x,x<n->ig.getD x false=false->∃y,y<n/\y∉F/\ig.getD y false=false:=by
    intro x;induction x using Nat.strongRecOn with
    |_ x bQ=>
     intro a9 aW;by_cases e:x∈F
     ·have hex:∃o0:aA,l[x]?=some o0/\∃e,e∈o0.after/\Region.binds .any e=true/\ig.getD e.on false≠true:=by
       refine⟨l[x]'(by omega),List.getElem?_eq_getElem (by omega),?_⟩;apply Classical.byContradiction;intro bf;exact bu ⟨x,e,mem_ready.2 ⟨getD_in (by rw[inv.size];omega) aW,l[x]'(by omega),by simp,fun e he hb=>Classical.byContradiction fun a1=>bf ⟨e,he,hb,a1⟩⟩⟩
      obtain⟨o0,bR,e,he,hb,a1⟩:=hex;have h1:=List.all_eq_true.1 a5 x (List.mem_range.2 (by omega));simp only[bR]at h1;have h2:=Array.all_eq_true_iff_forall_mem.1 h1 e he;simp only[hb,Bool.not_true,Bool.false_or,decide_eq_true_eq]at h2;exact bQ e.on h2 (by omega) (by simpa using a1)
     ·exact⟨x,a9,e,aW⟩
   exact key x a9 aW
  have bS:ig.getD y true=false:=getD_in (by rw[inv.size];omega) bP;have a3:∀i,i∈Region.ready .any l.toArray ig->i<n:=fun i hr=>by
   rcases Nat.lt_or_ge i n with g|g
   ·exact g
   ·exact absurd hr (OO hs hc hn hi bO bA bS i g)
  refine⟨fun h0=>?_,fun k hk=>?_⟩
  ·exfalso;have bB:∀i,i<l.length->ig.getD i false=true:=fun i=>by
    induction i using Nat.strongRecOn with
    |_ i bT=>
     intro a4;cases hu:ig.getD i false with
     |true=>rfl
     |false=>
      exfalso;have h1:=List.all_eq_true.1 a5 i (List.mem_range.2 a4);have bU:l[i]?=some l[i]:=List.getElem?_eq_getElem a4;simp only[bU]at h1;have:i∈Region.ready .any l.toArray ig:=mem_ready.2 ⟨getD_in (by rw[inv.size];exact a4) hu,l[i],by simp[a4],fun e he hb=>by
       have h2:=Array.all_eq_true_iff_forall_mem.1 h1 e he;simp only[hb,Bool.not_true,Bool.false_or,decide_eq_true_eq]at h2;exact bT e.on h2 (by omega)⟩
      rw[h0]at this;cases this
   have:=bB x (by omega);rw[aW]at this;cases this
  ·have bj:=a3 k hk;obtain⟨h0,o,ho,al⟩:=mem_ready.1 hk;have ad:l[k]?=some o:=by simpa using ho
   have aY:k<l.length:=(List.getElem?_eq_some_iff.1 ad).1;have bV:tq P l T a0 U k o:=by
    have:=a8.get (j:=k) (o:=o) (by rw[List.getElem?_take_of_lt bj];exact ad);rwa[Nat.zero_add]at this
   have aU:∀s,oA l s=true->a.eval (.tmp s)=a0.eval (.tmp s):=fun s hs=>by
    show a.tmps.getD s undef=a0.tmps.getD s undef
    rw[Array.getD_eq_getD_getElem?,Array.getD_eq_getD_getElem?,inv.off s (fun _ _ _ hd=>su hs hd)]
   have aT:∀j d,Region.waitsFor .any l.toArray k j=true->(l[j]?).bind (·.dst)=some d->Up (T j) (a.eval (.tmp d)) w:=fun j d hw hd=>by
    obtain⟨ok,av,e,he,hb,aV⟩:=Region.waitsFor_spec hw;rw[ho]at av;cases av;exact inv.told j d (by have:=al e he hb;rwa[aV]at this) hd
   have aZ:∀d,o.dst=some d->d<a.tmps.size:=fun d hd=>by
    have h1:=List.all_eq_true.1 br o (List.mem_of_getElem? ad);simp only[hd,decide_eq_true_eq]at h1;rw[inv.tmps];exact h1
   have bk:=bV a w inv.below aU aT (wpAny P .any l.toArray Q (f+(l.length-n)) (ig.setIfInBounds k true)) Q (fun v w' hb hv=>by
    refine ih _ _ _ ?_ ⟨by simp[inv.size],?_,?_,inv.below.trans (hb.mono inv.below.size),fun s hs=>?_,fun j d hl hd=>?_⟩ (hi.set hk bj)
    ·have bg:((List.range n).filter fun i=> !(ig.setIfInBounds k true).getD i false)=((List.range n).filter fun i=> !ig.getD i false).erase k:=by
      rw[List.Nodup.erase_eq_filter (List.nodup_range.filter _),List.filter_filter];apply List.filter_congr;intro x hx;by_cases e:x=k
      ·subst e;have:x<ig.size:=by rw[inv.size];exact aY
       simp[this]
      ·rw[getD_set_ne false (Ne.symm e)];simp[e]
     rw[bg,List.length_erase_of_mem (List.mem_filter.2 ⟨List.mem_range.2 bj,by rw[getD_both h0];rfl⟩),hf];rfl
    ·unfold Act.put;cases o.dst<;>simp[inv.tmps]
    ·unfold Act.put;cases o.dst<;>exact inv.defers
    ·rw[<-inv.off s (fun j d hl hd=>hs j d (getD_set_true hl) hd)];unfold Act.put;cases hd:o.dst with
     |none=>rfl
     |some d=>
      have e:d≠s:=hs k d (by have:k<ig.size:=(by rw[inv.size];exact aY);simp[this]) (by rw[ad];simpa using hd);simp[Array.getElem?_setIfInBounds_ne e]
    ·by_cases e:j=k
     ·subst e;rw[ad]at hd;have aS:o.dst=some d:=by simpa using hd
      have bC:=aZ d aS;have he:(a.put o.dst v).eval (.tmp d)=v:=by rw[aS];simp[Act.put,Act.eval,bC]
      rw[he];exact hv
     ·rw[getD_set_ne false (Ne.symm e)]at hl;have h1:=inv.told j d hl hd;have he:(a.put o.dst v).eval (.tmp d)=a.eval (.tmp d):=Act.eval_put fun d' aS hx=>by
       cases hx
       cases hj:l[j]? with
       |none=>rw[hj]at hd;cases hd
       |some y=>
        rw[hj]at hd;exact e (sx bq hj ad (by simpa using hd) aS)
      rw[he];exact h1.on hb)
   unfold wpOp;simp only[ho];split at bk
   ·rename_i hw;rw[if_pos hw];exact .inl bk
   ·rename_i hw;rw[if_neg hw];exact bk
theorem xg{P:az}{o:aA}{a:Act}(x:Operand)(ho:o.op=.move x)(v:ax)(hx:a.eval x=v):∀w',(execOp a.eval o).run P w'=.ok (.value v) w':=fun w'=>by
 unfold execOp;simp only[ho,hx];rfl
theorem OQ{P:az}{o:aA}{a:Act}(t:aB)(x:Operand)(lo hi mx:Option Operand)(ho:o.op=.slice t x lo hi mx)(u v:ax)(ad al av:Option ax)(hx:a.eval x=u)(h1:lo.map a.eval=ad)(h2:hi.map a.eval=al)(h3:mx.map a.eval=av)(hr:∀w,(Instr.sliceAt t u ad al av).run P w=.ok v w):∀w',(execOp a.eval o).run P w'=.ok (.value v) w':=fun w'=>by
 unfold execOp;simp only[ho,hx,h1,h2,h3,Sem.run_bind,hr w',Result.andThen_ok];rfl
def FV(l:List aA)(F:List Nat)(n m:Nat):Bool:=(F.all fun i=>decide (i<n))&&(F.all fun i=>vY l i)&&Region.noSelect l.toArray&&decide (n<l.length)&&zM l F n&&Region.chainB .any l.toArray n&&Region.seqB .any l.toArray (l.length-n) n (kV n (l.length-n))&&Qj l m
theorem FW{P:az}{id:Nat}{Q:Exit->Act->aq->Prop}{a0:Act}{w0:aq}{l:List aA}(n:Nat)(F:List Nat)(T:Nat->ax->aq->Prop)(U:aq)(hU:aR U.heap.size U w0)(hm:P.follows .mixedOrders=true)(hB:FV l F n a0.tmps.size=true)(hF:∀i∈F,FU P l T a0 U Q i)
  (ad:ia P l T a0 U 0 (l.take n))
  (av:∀(vals:Tmp->ax) (w:aq),aR U.heap.size U w->(∀j d,((l.take n)[j]?).bind (·.dst)=some d->Up (T j) (vals d) w)->wpList P l.toArray Q (l.drop n) (P5 ((l.take n).map (·.dst)) vals a0) w):(Code.region id l.toArray true).wp P Q a0 w0:=by
 simp only[FV,Bool.and_eq_true,decide_eq_true_eq]at hB
 obtain⟨⟨⟨⟨⟨⟨⟨aW,aX⟩,aS⟩,hn⟩,hs⟩,hc⟩,aT⟩,hB⟩:=hB
 refine wp_region_any hm ?_
 have al:∀i,(Array.replicate l.toArray.size false).getD i false=false:=fun i=>getD_replicate_false _ _
 have hinv:HeadInv .any l.toArray n (Array.replicate l.toArray.size false):=⟨by simp,(fun j oj _ hl=>by rw[al]at hl;cases hl),(fun t _ ht=>by simp at ht;simp[ht])⟩
 have key:=OP (P:=P) (Q:=Q) (T:=T) (U:=U) (F:=F) (fun i hi=>of_decide_eq_true (List.all_eq_true.1 aW i hi)) hn hs (fun i hi=>List.all_eq_true.1 aX i hi) aS hF hc aT hB ad (fun ig a w inv aY aZ=>by
  have ha:a=P5 ((l.take n).map (·.dst)) (fun d=>a.eval (.tmp d)) a0:=by
   have aU:=hB;simp only[Qj,Bool.and_eq_true,decide_eq_true_eq]at aU;have ht:a.tmps=(P5 ((l.take n).map (·.dst)) (fun d=>a.eval (.tmp d)) a0).tmps:=by
    apply Array.ext_getElem?;intro s;by_cases hs:some s∈(l.take n).map (·.dst)
    ·obtain⟨o,ho,hd⟩:=List.mem_map.1 hs;have h1:=List.all_eq_true.1 aU.1.2 o (List.mem_of_mem_take ho);simp only[hd,decide_eq_true_eq]at h1;rw[sr _ _ _ s (.inl hs) h1];have h2:s<a.tmps.size:=by rw[inv.tmps];exact h1
     simp[Act.eval,h2]
    ·rw[ss _ _ _ s hs];refine inv.off s (fun j d hl hd e=>hs ?_);cases hj:l[j]? with
     |none=>rw[hj]at hd;cases hd
     |some y=>
      have a1:j<l.length:=(List.getElem?_eq_some_iff.1 hj).1;have a2:j<n:=by
       rcases Nat.lt_or_ge j n with g|g
       ·exact g
       ·have:=getD_both (aZ j g a1);rw[hl]at this;cases this
      rw[hj]at hd;exact List.mem_map.2 ⟨y,List.mem_of_getElem? (i:=j) (by rw[List.getElem?_take_of_lt a2];exact hj),by rw[<-e];simpa using hd⟩
   have aV:a.defers=(P5 ((l.take n).map (·.dst)) (fun d=>a.eval (.tmp d)) a0).defers:=by rw[sn];exact inv.defers
   cases a with
   |mk t df=>
    generalize hp:P5 ((l.take n).map (·.dst)) (fun d=>(Act.mk t df).eval (.tmp d)) a0=p at*;cases p with
    |mk t2 a3=>simp only at ht aV;rw[ht,aV]
  rw[ha];refine av _ w inv.below fun j d hd=>?_
  rcases Nat.lt_or_ge j n with g|g
  ·rw[List.getElem?_take_of_lt g]at hd;exact inv.told j d (aY j g) hd
  ·rw[List.getElem?_eq_none (by rw[List.length_take];omega)]at hd;cases hd) n (Array.replicate l.toArray.size false) a0 w0.drew (by rw[List.filter_eq_self.2 (fun i _=>by rw[al];rfl)];simp) ⟨by simp,rfl,rfl,hU.drew,fun _ _=>rfl,fun j d h _=>by rw[al]at h;cases h⟩ hinv
 rw[show n+(l.length-n)=l.toArray.size by simp;omega]at key
 exact key
theorem FX{p:iz}(gd:lS p):jY (hH p.ie) p.ie.length p.k=true:=by
 have hk:p.k=(p.k.toNat:Int):=by have:=gd.k0;omega
 rw[hk];exact Jo gd.clean gd.len (by have:=gd.k7;omega)
theorem OR{p:iz}(gd:lS p){kind:Nat}{raw:List Nat}{l:List iu}{last:Bool}(av:kind<=2)(hr:raw.length<=65535)(hb:jm raw)(hl:l.length<=65535)(ad:∀t∈l,iO t=true/\t.x<256):
  rE (hH p.ie) p.ie.length p.k kind raw.length (hH raw) l last=0/\uo (hH p.ie) p.ie.length p.k kind raw.length (hH raw) l last=(ke p.ie p.k.toNat kind raw l last).2/\uq (hH p.ie) p.ie.length p.k kind raw.length (hH raw) l last=hH (ke p.ie p.k.toNat kind raw l last).1/\(ke p.ie p.k.toNat kind raw l last).2<=4320007:=by
 have hle:=vX (k:=p.k.toNat) (kind:=kind) (raw:=raw) (l:=l) (last:=last) av (by have:=gd.k7;omega) hr hb hl ad
 have al:m9 kind raw.length l=0:=by
  unfold m9;rw[if_neg (by omega),if_neg (by omega),if_pos];exact List.all_eq_true.2 fun t ht=>(ad t ht).1
 have hE:rE (hH p.ie) p.ie.length p.k kind raw.length (hH raw) l last=0:=by
  unfold rE;rw[FX gd,if_neg (by simp),al,if_neg (by simp),if_neg (by omega)]
 refine⟨hE,?_,?_,hle⟩
 ·unfold uo;rw[hE,if_pos rfl];rfl
 ·unfold uq;rw[hE,if_pos rfl,vJ];show _=hH (oJ _ _)
  have hc:=gd.clean.rW (iM (p.k.toNat%8) kind raw.length (hH raw) l last);rw[yx,vG hc rfl]
theorem OS(w:aq)(B g:Nat)(p:iz)(out:List Nat)(Ah:Option au)(hc:Nat)(Aw:Option au)(wc:Nat)(Ap:Option au)(pc:Nat)(Ao:Option au)(oc:Nat)(U:iT w B g p out Ah hc Aw wc Ap pc Ao oc)(gd:lS p)(kind:Nat)(bp:kind<=2)(n:Nat)(aV:n<=p.wait.length)(bU:n<=65535)(hb:p.wait.length<=1000000)(bq:out.length<=90000000)
  (A2:Option au) (t c2:Nat) (l:List iu) (ht:jW w w.heap.size A2 t c2 l) (hl:l.length<=65535) (a3:∀t∈l,iO t=true/\t.x<256) (last:Bool):
  aw prog 51 #[ag (some ⟨g,0,none⟩),ae .u8 (kind:Int),ae aj (n:Int),af A2 t c2,ai last] w fun e w'=>e=ao (.tuple #[])/\(∃bV bW bX bY a9 bd bf bg,iT w' B g (mB p kind n l last).1 (out++(mB p kind n l last).2) bV bW bX bY a9 bd bf bg)/\aR B w w':=by
 obtain⟨K,hk⟩:∃K:Nat,p.k=(K:Int):=⟨p.k.toNat,by have:=gd.k0;omega⟩
 have bZ:p.k.toNat=K:=by omega
 have hs:=lr gd.ks
 obtain⟨S,hS⟩:∃S:Nat,p.s=(S:Int):=⟨p.s.toNat,by omega⟩
 have br:p.s.toNat=S:=by omega
 have hh:=gd.hist
 obtain⟨raw,ad⟩:=gX (p.wait.take n)
 have aS:raw.length=n:=by rw[ad,List.length_take,Nat.min_eq_left aV]
 have bj:jm raw:=by rw[ad];exact rF gd.bw n
 obtain⟨w1,w2,w3,w4⟩:=OR gd (kind:=kind) (raw:=raw) (l:=l) (last:=last) bp (by omega) bj hl a3
 obtain⟨Q,hQ⟩:=gX (ke p.ie p.k.toNat kind raw l last)
 rw[<-hQ]at w2 w3 w4
 have a4:Q.1.length=(Q.2+7)/8:=by rw[hQ];exact rv ..
 obtain⟨Q1,aW⟩:=gX (Q.1)
 obtain⟨QK,a5⟩:=gX (Q.2)
 obtain⟨QL,aT⟩:=gX (Q1.length)
 rw[<-aW,<-aT,<-a5]at a4
 rw[<-a5]at w2 w4
 rw[<-aW]at w3
 have bQ:jm Q1:=by
  have hc:=vL gd.clean kind raw l last;rw[<-hQ,<-aW]at hc;intro x hx;obtain⟨i,hi,rfl⟩:=List.mem_iff_getElem.1 hx;have:=hc.1 i;unfold hH at this;rwa[List.getD_eq_getElem?_getD,List.getElem?_eq_getElem hi]at this
 obtain⟨FP,bk⟩:=gX (mB p kind n l last)
 have bt:FP=({p with hist:=kq S (p.hist++raw),ie:=Q1.drop (QK/8),k:=((QK%8:Nat):Int),wait:=p.wait.drop n},Q1.take (QK/8)):=by
  rw[bk,aW,a5,hQ,ad,<-br];rfl
 rw[<-bk]
 have bu:∀t∈l,sG t:=fun t ht=>Ev (a3 t ht).1 (a3 t ht).2
 have tl:t<=1000000:=by have:=ht.1;omega
 have WR:aQ (∀V,aR w.heap.size w V->aw prog 66 #[ah #[af Ap p.ie.length pc,ae aj p.k],ae .u8 (kind:Int),af Aw n wc,af A2 t c2,ai last] V fun e w'=>∃A' c',e=ao (.tuple #[ah #[af A' QL c',ae aj (QK:Int)],ae aj 0])/\ib w' w'.heap.size A' QL c' (hH Q1)/\aR V.heap.size V w'/\mA V.heap.size A' QL):=gW fun V hV=>by
  have UV:=U.below hV;have b0:ib V V.heap.size Aw n wc (hH raw):=by
   have h1:=UV.wait;refine⟨⟨kH bj,fun h0=>?_⟩,h1.2.1,by have:=h1.2.2.1;omega,h1.2.2.2⟩;obtain⟨b,o,e1,e2,e3⟩:=h1.1.2 (by omega);exact⟨b,o,e1,e2,fun j hj=>by rw[ad,tp p.wait hj];exact e3 j (by omega)⟩
  have h1:=ON V Ap p.ie.length pc (hH p.ie) p.k kind Aw n wc (hH raw) A2 t c2 l last UV.ie (by have:=gd.len;have:=gd.k7;omega) (by omega) (by have:=gd.k7;omega) (by omega) b0 (by omega) ((ht.below hV gY).more hV.size) tl bu;rw[<-aS]at h1;rw[w1,w2,w3,aS]at h1;refine h1.mono fun e w' ⟨A',c',L,e1,e2,e3,e4,e5⟩=>?_
  have eL:L=QL:=by rw[e1,a4]
  subst eL;exact⟨A',c',e2,e3,e4,fun b o h0 e=>by
   obtain⟨g',o',cur,e6,h6,_⟩:=e5 h0;rw[e]at e6;injection e6 with e6
   injection e6 with e7 _ _
   omega⟩
 obtain⟨hn,al⟩:=gX (p.hist.length)
 obtain⟨wn,aX⟩:=gX (p.wait.length)
 obtain⟨pn,aY⟩:=gX (p.ie.length)
 obtain⟨on,bz⟩:=gX (out.length)
 have eX:jZ p Ah hc Aw wc Ap pc Ao out.length oc=#[ae aj (S:Int),ae aj p.h,ae aj p.m,ai p.z,af Ah hn hc,af Aw wn wc,af Ap pn pc,ae aj (K:Int),ai p.iH,(af Ao on oc)]:=by
  unfold jZ;rw[<-al,<-aX,<-aY,hk,hS,<-bz]
 have hx:=U.box
 rw[eX]at hx
 rw[<-aY,hk]at WR
 have bA:=U.row.2.2.1
 have b3:=U.wait.2.2.1
 have RT:aQ (∀V:aq,(Instr.sliceAt 22 (af Aw wn wc) none (some (ae aj (n:Int))) none).run prog V=.ok (af Aw n wc) V):=gW fun V=>vP Aw wn wc n (by omega) V
 obtain⟨q,hq⟩:=gX (hn+n-S)
 have b4:aQ (∀V:aq,(binOp .sub 3 (ae aj ((hn+n:Nat):Int)) (ae aj (S:Int))).run prog V=.ok (ae aj (((hn+n:Nat):Int)-(S:Int))) V):=gW fun V=>LR _ _ _ _ (by omega) (by omega) V
 have MX:aQ ((if(((hn+n:Nat):Int)-(S:Int))>0 then(((hn+n:Nat):Int)-(S:Int))else 0)=(q:Int)):=gW (by split<;>omega)
 obtain⟨A9,hA9⟩:∃A9,(if hc=q then Ah else Ah.map (·.add q))=A9:=⟨_,rfl⟩
 obtain⟨A6,hA6⟩:∃A6,(if wc=n then Aw else Aw.map (·.add n))=A6:=⟨_,rfl⟩
 have b5:aQ (∀V,(Instr.sliceAt 22 (af Ah (hn+n) hc) (some (ae aj (q:Int))) none none).run prog V=.ok (af A9 (hn+n-q) (hc-q)) V):=gW fun V=>ud Ah A9 (hn+n) hc q (by omega) hA9 V
 have bB:aQ (∀V,(Instr.sliceAt 22 (af Aw wn wc) (some (ae aj (n:Int))) none none).run prog V=.ok (af A6 (wn-n) (wc-n)) V):=gW fun V=>ud Aw A6 wn wc n (by omega) hA6 V
 have a6:(kq S (p.hist++raw)).length=hn+n-q:=by unfold kq;rw[List.length_drop,List.length_append,aS,<-al];omega
 have eT:(p.hist++p.wait).drop q=kq S (p.hist++raw)++p.wait.drop n:=by
  have e1:p.hist++p.wait=(p.hist++raw)++p.wait.drop n:=by rw[ad,List.append_assoc,List.take_append_drop]
  rw[e1,List.drop_append_of_le_length (by rw[List.length_append,aS];omega)];unfold kq;rw[List.length_append,aS,<-al,hq]
 have b6:aQ (lS p):=gW gd
 have b7:aQ (∀V,iT V B g p out Ah hc Aw wc Ap pc Ao oc->∀(A':Option au) (c':Nat),ib V V.heap.size A' QL c' (hH Q1)->jw A' QL (af Ao out.length oc)->iT ((V.setCell ⟨g,6,none⟩ (af A' QL c')).setCell ⟨g,7,none⟩ (ae aj (QK:Int))) B g {p with ie:=Q1,k:=(QK:Int)} out Ah hc Aw wc A' c' Ao oc):=gW fun V UV A' c' r nr=>
  UV.wI (p':={p with ie:=Q1,k:=(QK:Int)}) 6 7 _ _ (by unfold jZ;simp only[<-aT];rfl) UV.row UV.wait (by show ib V _ A' Q1.length c' _;rw[<-aT];exact r) UV.nr UV.nw (by show jw A' Q1.length _;rw[<-aT];exact nr)
 have b8:aQ (∀V (A7:Option au) (c7:Nat) (A8:Option au) (c8:Nat),iT V B g {p with ie:=Q1.drop (QK/8),k:=((QK%8:Nat):Int)} (out++Q1.take (QK/8)) Ah hc Aw wc A7 c7 A8 c8->iT ((V.setCell ⟨g,4,none⟩ (af A9 (hn+n-q) (hc-q))).setCell ⟨g,5,none⟩ (af A6 (wn-n) (wc-n))) B g FP.1 (out++FP.2) A9 (hc-q) A6 (wc-n) A7 c7 A8 c8):=gW fun V A7 c7 A8 c8 UV=>by
  rw[bt];have aZ:(p.wait.drop n).length=wn-n:=by rw[List.length_drop,<-aX]
  have bl:=UV.row;have bC:=UV.nr;have bm:=UV.wait;have aV:=UV.nw;have e1:({p with ie:=Q1.drop (QK/8),k:=((QK%8:Nat):Int)}:iz).hist.length=hn:=al.symm;have e2:({p with ie:=Q1.drop (QK/8),k:=((QK%8:Nat):Int)}:iz).wait.length=wn:=aX.symm;rw[e1,e2]at bl bC;rw[e2]at bm aV;have a1:ib V V.heap.size A9 (hn+wn-q) (hc-q) (hH (kq S (p.hist++raw)++p.wait.drop n)):=by
   have:=bl.from (q:=q) (by omega) hA9
   rwa[show({p with ie:=Q1.drop (QK/8),k:=((QK%8:Nat):Int)}:iz).hist++({p with ie:=Q1.drop (QK/8),k:=((QK%8:Nat):Int)}:iz).wait=p.hist++p.wait from rfl,eT]at this
  have a2:ib V V.heap.size A6 (wn-n) (wc-n) (hH (p.wait.drop n)):=bm.from (q:=n) (by omega) hA6
  have b1:=bC.from (q:=q) (by omega) hA9 bl.at
  have b2:=aV.from (q:=n) (by omega) hA6 bm.at
  exact UV.wI (p':={p with hist:=kq S (p.hist++raw),ie:=Q1.drop (QK/8),k:=((QK%8:Nat):Int),wait:=p.wait.drop n}) 4 5 _ _ (by unfold jZ;simp only[a6,aZ];rfl)
   (by show ib V _ A9 ((kq S (p.hist++raw)).length+(p.wait.drop n).length) _ _;rw[a6,aZ,show hn+n-q+(wn-n)=hn+wn-q by omega];exact a1)
   (by show ib V _ A6 (p.wait.drop n).length _ _;rw[aZ];exact a2) UV.ie
   (by show jw A9 ((kq S (p.hist++raw)).length+(p.wait.drop n).length) _;rw[a6,aZ,show hn+n-q+(wn-n)=hn+wn-q by omega];exact b1)
   (by show jw A6 (p.wait.drop n).length _;rw[aZ];exact b2) UV.np
 have b9:aQ (∀(A7:Option au) (c7:Nat) (A8:Option au) (c8:Nat) (V:aq),iT V B g {p with ie:=Q1.drop (QK/8),k:=((QK%8:Nat):Int)} (out++Q1.take (QK/8)) Ah hc Aw wc A7 c7 A8 c8->∃qn om:Nat,gZ V g #[ae aj (S:Int),ae aj p.h,ae aj p.m,ai p.z,af Ah hn hc,af Aw wn wc,af A7 qn c7,ae aj ((QK%8:Nat):Int),ai p.iH,af A8 om c8] 62):=gW fun A7 c7 A8 c8 V UV=>by
  have h1:=UV.box;unfold jZ at h1;simp only[<-al,<-aX,hS]at h1;exact⟨_,_,h1⟩
 have HX:=gW hx;have HU:=gW U;have cm:=gW a4;have cn:=gW bq;have cp:=gW w4;have cl:=gW aT
 have HT:aQ (∀V,iT V B g {p with ie:=Q1.drop (QK/8),k:=((QK%8:Nat):Int)} (out++Q1.take (QK/8)) Ah hc Aw wc Ap pc Ao oc->True):=gW fun _ _=>trivial
 have ca:aQ (∀(A7:Option au) (c7:Nat) (A8:Option au) (c8:Nat) (V:aq),iT V B g {p with ie:=Q1.drop (QK/8),k:=((QK%8:Nat):Int)} (out++Q1.take (QK/8)) Ah hc Aw wc A7 c7 A8 c8->aw prog 65 #[ag (some ⟨g,0,none⟩),ae aj (n:Int)] V fun e w'=>e=ao (af Ah (hn+n) hc)/\aR V.heap.size V w'):=gW fun A7 c7 A8 c8 V UV=>by
  have:=Ew V B g _ _ Ah hc Aw wc A7 c7 A8 c8 UV (QK%8) rfl n (by show n<=p.wait.length;omega) (by show p.hist.length+p.wait.length<=2000000;omega);rw[al];exact this
 have cb:aQ (∀V (A':Option au) (c':Nat),iT V B g {p with ie:=Q1,k:=(QK:Int)} out Ah hc Aw wc A' c' Ao oc->aw prog 48 #[ag (some ⟨g,0,none⟩)] V fun e w'=>e=ao (.tuple #[])/\(∃a9 bd bf bg,iT w' B g {p with ie:=Q1.drop (QK/8),k:=((QK%8:Nat):Int)} (out++Q1.take (QK/8)) Ah hc Aw wc a9 bd bf bg)/\aR B V w'):=gW fun V A' c' UV=>
  Es V B g _ out Ah hc Aw wc A' c' Ao oc UV QK rfl (by omega) (by show QK/8<=Q1.length;omega) (by omega)
 have av:=gW U.le
 clear HT U gd bp aV bU hb bq ht hl a3 hk bZ hs br hh ad aS bj w1 w2 w3 w4 hQ a4 aW a5 aT bQ bk bt bu tl al aX aY bz eX hx bA b3 hq hA9 hA6 a6 eT b6 hS
 go_enter func51,ntmps51
 go_wp2_with fail
 refine DW 23 19 _ rfl rfl 30 rfl (nM [fun v _=>v=ag (some ⟨g,0,none⟩),fun v _=>v=ag (some ⟨g,0,none⟩),fun v _=>v=ag (some ⟨g,0,none⟩),fun v _=>v=ag (some ⟨g,0,none⟩),fun v _=>v=ag (some ⟨g,6,none⟩),fun v _=>v=ah #[af Ap pn pc,ae aj (K:Int)],fun v _=>v=ae .u8 (kind:Int),fun v _=>v=ag (some ⟨g,0,none⟩),fun v _=>v=ag (some ⟨g,0,none⟩),fun v _=>v=ag (some ⟨g,0,none⟩),fun v _=>v=ag (some ⟨g,5,none⟩),fun v _=>v=af Aw wn wc,fun v _=>v=ae aj (n:Int),fun v _=>v=af Aw n wc,fun v _=>v=af A2 t c2,fun v _=>v=ai last,fun v W=>∃A' c',v=.tuple #[ah #[af A' QL c',ae aj (QK:Int)],ae aj 0]/\ib W W.heap.size A' QL c' (hH Q1)/\mA w.heap.size A' QL,fun v W=>∃A' c',v=.tuple #[ah #[af A' QL c',ae aj (QK:Int)],ae aj 0]/\ib W W.heap.size A' QL c' (hH Q1)/\mA w.heap.size A' QL,fun v W=>∃A' c',v=ah #[af A' QL c',ae aj (QK:Int)]/\ib W W.heap.size A' QL c' (hH Q1)/\mA w.heap.size A' QL,fun v _=>v=ae aj 0,fun v _=>v=ag (some ⟨g,0,none⟩),fun v _=>v=ag (some ⟨g,0,none⟩),fun v _=>v=ag (some ⟨g,6,none⟩)]) w ix (by kernel_rfl) (by kernel_rfl) (fun _ _ _ _ h=>h) (fun aa wv hb ha hS=>by have hs:=hS 17 11 (by kernel_rfl) rfl;obtain⟨a1,a2,e1,r1,r2⟩:=hs.here;exact⟨_,DU _ _ rfl _ (ae aj 0) e1 (fun w=>by go_simp),ij rfl⟩) ?_ ?_
 case refine_1=>
  simp only[List.take_succ_cons,List.take_zero];refine ia.cons (fun aa wv hb ha hS Kk Qq hK=>iS (ic rfl) _ rfl (ij ((ha 0 (by kernel_rfl)).trans rfl)) hK) ?_;refine ia.cons (fun aa wv hb ha hS Kk Qq hK=>iS (ic rfl) _ rfl (ij ((ha 0 (by kernel_rfl)).trans rfl)) hK) ?_;refine ia.cons (fun aa wv hb ha hS Kk Qq hK=>lU (ic rfl) _ rfl _ (hS 1 13 (by kernel_rfl) rfl).here (ij rfl) hK) ?_;refine ia.cons (fun aa wv hb ha hS Kk Qq hK=>iL (ic rfl) _ _ _ rfl _ (ag (some ⟨g,0,none⟩)) (hS 2 14 (by kernel_rfl) rfl).here (by go_simp) (ij rfl) hK) ?_;refine ia.cons (fun aa wv hb ha hS Kk Qq hK=>iL (ic rfl) _ _ _ rfl _ (ag (some ⟨g,6,none⟩)) (hS 3 15 (by kernel_rfl) rfl).here (by go_simp) (ij rfl) hK) ?_;refine ia.cons (fun aa wv hb ha hS Kk Qq hK=>nN (ic rfl) _ _ rfl g 6 (hS 4 16 (by kernel_rfl) rfl).here [af Ap pn pc,ae aj (K:Int)] _ (mg (HX.out.below hb HX.out.lt) 6 [af Ap pn pc,ae aj (K:Int)] (fun i hi=>by rcases i with _|_|i<;>first|rfl|(simp at hi;omega))) underlying30 rfl (ou _ _) (ij rfl) hK) ?_;refine ia.cons (fun aa wv hb ha hS Kk Qq hK=>iS (ic rfl) _ rfl (ij ((ha 1 (by kernel_rfl)).trans rfl)) hK) ?_;refine ia.cons (fun aa wv hb ha hS Kk Qq hK=>iS (ic rfl) _ rfl (ij ((ha 0 (by kernel_rfl)).trans rfl)) hK) ?_;refine ia.cons (fun aa wv hb ha hS Kk Qq hK=>lU (ic rfl) _ rfl _ (hS 7 19 (by kernel_rfl) rfl).here (ij rfl) hK) ?_;refine ia.cons (fun aa wv hb ha hS Kk Qq hK=>iL (ic rfl) _ _ _ rfl _ (ag (some ⟨g,0,none⟩)) (hS 8 20 (by kernel_rfl) rfl).here (by go_simp) (ij rfl) hK) ?_;refine ia.cons (fun aa wv hb ha hS Kk Qq hK=>iL (ic rfl) _ _ _ rfl _ (ag (some ⟨g,5,none⟩)) (hS 9 21 (by kernel_rfl) rfl).here (by go_simp) (ij rfl) hK) ?_;refine ia.cons (fun aa wv hb ha hS Kk Qq hK=>lu (ic rfl) _ _ rfl _ (af Aw wn wc) (hS 10 22 (by kernel_rfl) rfl).here (by have hc:wv.cell? ⟨g,5,none⟩=some (af Aw wn wc):=(HX.out.below hb HX.out.lt).cell.trans rfl;go_simp) (ij rfl) hK) ?_;refine ia.cons (fun aa wv hb ha hS Kk Qq hK=>iS (ic rfl) _ rfl (ij ((ha 2 (by kernel_rfl)).trans rfl)) hK) ?_;refine ia.cons (fun aa wv hb ha hS Kk Qq hK=>rB (ic rfl) _ _ _ _ _ rfl (af Aw wn wc) (af Aw n wc) none (some (ae aj (n:Int))) none (hS 11 23 (by kernel_rfl) rfl).here rfl (congrArg some (hS 12 24 (by kernel_rfl) rfl).here) rfl (RT.out wv) (ij rfl) hK) ?_;refine ia.cons (fun aa wv hb ha hS Kk Qq hK=>iS (ic rfl) _ rfl (ij ((ha 3 (by kernel_rfl)).trans rfl)) hK) ?_;refine ia.cons (fun aa wv hb ha hS Kk Qq hK=>iS (ic rfl) _ rfl (ij ((ha 4 (by kernel_rfl)).trans rfl)) hK) ?_;refine ia.cons (fun aa wv hb ha hS Kk Qq hK=>mq (ic rfl) 66 _ _ rfl (enters_of func66 (by kernel_rfl) rfl) #[ah #[af Ap pn pc,ae aj (K:Int)],ae .u8 (kind:Int),af Aw n wc,af A2 t c2,ai last] (by simp[(show aa.eval (.tmp 17)=ah #[af Ap pn pc,ae aj (K:Int)]from(hS 5 17 (by kernel_rfl) rfl).here),(show aa.eval (.tmp 18)=ae .u8 (kind:Int)from(hS 6 18 (by kernel_rfl) rfl).here),(show aa.eval (.tmp 25)=af Aw n wc from(hS 13 25 (by kernel_rfl) rfl).here),(show aa.eval (.tmp 26)=af A2 t c2 from(hS 14 26 (by kernel_rfl) rfl).here),(show aa.eval (.tmp 27)=ai last from(hS 15 27 (by kernel_rfl) rfl).here)]) (WR.out wv hb) (fun ee w' ⟨A',c',h1,h2,h3,h4⟩=>⟨_,h1,h3,fun W hW=>⟨_,_,rfl,(h2.below hW gY).more hW.size,fun b o h0 e=>Nat.le_trans hb.size (h4 b o h0 e)⟩⟩) hK) ?_;refine ia.cons (fun aa wv hb ha hS Kk Qq hK=>iS (ic rfl) _ rfl (hS 16 28 (by kernel_rfl) rfl) hK) ?_;refine ia.cons (fun aa wv hb ha hS Kk Qq hK=>by have hs:=hS 17 11 (by kernel_rfl) rfl;obtain⟨a1,a2,e1,r1,r2⟩:=hs.here;exact rz (ic rfl) _ _ rfl _ _ e1 (by go_simp) (fun W hW=>⟨_,_,rfl,(r1.below hW gY).more hW.size,r2⟩) hK) ?_;refine ia.cons (fun aa wv hb ha hS Kk Qq hK=>by have hs:=hS 17 11 (by kernel_rfl) rfl;obtain⟨a1,a2,e1,r1,r2⟩:=hs.here;exact rz (ic rfl) _ _ rfl _ _ e1 (by go_simp) (ij rfl) hK) ?_;refine ia.cons (fun aa wv hb ha hS Kk Qq hK=>lU (ic rfl) _ rfl _ (hS 0 12 (by kernel_rfl) rfl).here (ij rfl) hK) ?_
  refine ia.cons (fun aa wv hb ha hS Kk Qq hK=>iL (ic rfl) _ _ _ rfl _ (ag (some ⟨g,0,none⟩)) (hS 20 31 (by kernel_rfl) rfl).here (by go_simp) (ij rfl) hK) ?_;refine ia.cons (fun aa wv hb ha hS Kk Qq hK=>iL (ic rfl) _ _ _ rfl _ (ag (some ⟨g,6,none⟩)) (hS 21 32 (by kernel_rfl) rfl).here (by go_simp) (ij rfl) hK) ?_;exact ia.nil
 intro vals w5 hb hv
 obtain⟨A',c',bD,bE,bF⟩:=(hv 18 29 rfl).here
 have bG:vals 33=ag (some ⟨g,6,none⟩):=(hv 22 33 rfl).here
 have U5:=HU.out.below hb
 have x5:=HX.out.below hb HX.out.lt
 have s6:w5.cell? ⟨g,6,none⟩=some (af Ap pn pc):=x5.cell.trans rfl
 have s7:w5.cell? ⟨g,7,none⟩=some (ae aj (K:Int)):=x5.cell.trans rfl
 have f6:w5.frozen? ⟨g,6,none⟩=false:=x5.free
 have f7:w5.frozen? ⟨g,7,none⟩=false:=x5.free
 have nr:jw A' QL (af Ao out.length oc):=fun b o h0 e hx=>by
  have h1:=bF b o h0 e;have h2:=(oD HU.out.own b hx).2;omega
 obtain⟨W6,a7⟩:=gX ((w5.setCell ⟨g,6,none⟩ (af A' QL c')).setCell ⟨g,7,none⟩ (ae aj (QK:Int)))
 have U6:=b7.out w5 U5 A' c' bE nr
 rw[<-a7]at U6
 have bH:aR B w W6:=by rw[a7];exact kh (kh (hb.mono (by have:=av.out;have:=HU.out.lt;omega)) av.out _ _) av.out _ _
 have HG:=gW (cb.out W6 A' c' U6)
 have bI:=gW a7;have bJ:=gW bH
 clear x5 hb hv U5 a7 nr bE bF U6 bH
 simp only[List.take_succ_cons,List.take_zero,List.drop_succ_cons,List.drop_zero,List.map_cons,List.map_nil,P5,Act.put,List.setIfInBounds_toArray,List.set_cons_zero,List.set_cons_succ,bD,bG]
 clear bD bG
 go_wp2_with (first|(rw[<-bI.out])|fail)
 refine HG.out.mono ?_
 rintro e w7 ⟨rfl,⟨A7,c7,A8,c8,U7⟩,bK⟩
 have bL:=gW (ca.out A7 c7 A8 c8 w7 U7)
 have bM:=gW U7;have cf:=gW (bJ.out.trans bK)
 clear U7 bK s6 s7 f6 f7 HG bI bJ
 go_wp2_with fail
 refine bL.out.mono ?_
 rintro e w8 ⟨rfl,bn⟩
 have U8:=bM.out.below bn
 obtain⟨qn,om,x8⟩:=b9.out A7 c7 A8 c8 w8 U8
 obtain⟨R,hR⟩:=gX (QK%8)
 rw[<-hR]at x8
 have bN:=gW U8;have aU:=gW x8;have cg:=gW (cf.out.trans (bn.mono (by have:=av.out;have:=bM.out.lt;omega)))
 clear U8 x8 hR bn bL
 go_wp2_with fail
 refine FW 24 [1,19,20] (nM [fun v _=>v=ag (some ⟨g,0,none⟩),fun v _=>v=ag (some ⟨g,0,none⟩),fun v _=>v=af Ah (hn+n) hc,fun v _=>v=af Ah (hn+n) hc,fun v _=>v=ae aj ((hn+n:Nat):Int),fun v _=>v=ag (some ⟨g,0,none⟩),fun v _=>v=ag (some ⟨g,0,none⟩),fun v _=>v=ag (some ⟨g,0,none⟩),fun v _=>v=ag (some ⟨g,0,none⟩),fun v _=>v=ag (some ⟨g,0,none⟩),fun v _=>v=ae aj (S:Int),fun v _=>v=ae aj (((hn+n:Nat):Int)-(S:Int)),fun v _=>v=ae aj (q:Int),fun v _=>v=af A9 (hn+n-q) (hc-q),fun v _=>v=ag (some ⟨g,0,none⟩),fun v _=>v=ag (some ⟨g,0,none⟩),fun v _=>v=ag (some ⟨g,0,none⟩),fun v _=>v=ag (some ⟨g,5,none⟩),fun v _=>v=af Aw wn wc,fun v _=>v=ae aj (n:Int),fun v _=>v=af A6 (wn-n) (wc-n),fun v _=>v=ag (some ⟨g,0,none⟩),fun v _=>v=ag (some ⟨g,0,none⟩),fun v _=>v=ag (some ⟨g,4,none⟩)]) w8 ix (by kernel_rfl) (by kernel_rfl) (List.forall_mem_cons.2 ⟨⟨_,_,rfl,rfl,rfl,(fun _ _ _ _ h=>h),fun aa wv hb ha hS=>⟨_,xg _ rfl _ ((ha 0 (by kernel_rfl)).trans rfl),ij rfl⟩⟩,(List.forall_mem_cons.2 ⟨⟨_,_,rfl,rfl,rfl,(fun _ _ _ _ h=>h),fun aa wv hb ha hS=>⟨_,xg _ rfl _ ((ha 2 (by kernel_rfl)).trans rfl),ij rfl⟩⟩,(List.forall_mem_cons.2 ⟨⟨_,_,rfl,rfl,rfl,(fun _ _ _ _ h=>h),fun aa wv hb ha hS=>⟨_,OQ _ _ (some (.tmp 58)) none none rfl (af Aw wn wc) (af A6 (wn-n) (wc-n)) (some (ae aj (n:Int))) none none (show aa.eval (.tmp 57)=af Aw wn wc from(hS 18 57 (by kernel_rfl) rfl).here) (congrArg some (show aa.eval (.tmp 58)=ae aj (n:Int)from(hS 19 58 (by kernel_rfl) rfl).here)) rfl rfl bB.out,ij rfl⟩⟩,(fun _ h=>by cases h)⟩)⟩)⟩) ?_ ?_
 case refine_1=>
  simp only[List.take_succ_cons,List.take_zero];refine ia.cons (fun aa wv hb ha hS Kk Qq hK=>iS (ic rfl) _ rfl (ij ((ha 0 (by kernel_rfl)).trans rfl)) hK) ?_;refine ia.cons (fun aa wv hb ha hS Kk Qq hK=>iS (ic rfl) _ rfl (ij ((ha 0 (by kernel_rfl)).trans rfl)) hK) ?_;refine ia.cons (fun aa wv hb ha hS Kk Qq hK=>iS (ic rfl) _ rfl (ij ((ha 10 (by kernel_rfl)).trans rfl)) hK) ?_;refine ia.cons (fun aa wv hb ha hS Kk Qq hK=>iS (ic rfl) _ rfl (ij ((ha 10 (by kernel_rfl)).trans rfl)) hK) ?_;refine ia.cons (fun aa wv hb ha hS Kk Qq hK=>uw (ic rfl) _ _ rfl Ah (hn+n) hc (hS 3 42 (by kernel_rfl) rfl).here underlying22 (ij rfl) hK) ?_;refine ia.cons (fun aa wv hb ha hS Kk Qq hK=>iS (ic rfl) _ rfl (ij ((ha 0 (by kernel_rfl)).trans rfl)) hK) ?_;refine ia.cons (fun aa wv hb ha hS Kk Qq hK=>lU (ic rfl) _ rfl _ (hS 5 44 (by kernel_rfl) rfl).here (ij rfl) hK) ?_;refine ia.cons (fun aa wv hb ha hS Kk Qq hK=>iL (ic rfl) _ _ _ rfl _ (ag (some ⟨g,0,none⟩)) (hS 6 45 (by kernel_rfl) rfl).here (by go_simp) (ij rfl) hK) ?_;refine ia.cons (fun aa wv hb ha hS Kk Qq hK=>iL (ic rfl) _ _ _ rfl _ (ag (some ⟨g,0,none⟩)) (hS 7 46 (by kernel_rfl) rfl).here (by go_simp) (ij rfl) hK) ?_;refine ia.cons (fun aa wv hb ha hS Kk Qq hK=>iL (ic rfl) _ _ _ rfl _ (ag (some ⟨g,0,none⟩)) (hS 8 47 (by kernel_rfl) rfl).here (by go_simp) (ij rfl) hK) ?_;refine ia.cons (fun aa wv hb ha hS Kk Qq hK=>lu (ic rfl) _ _ rfl _ (ae aj (S:Int)) (hS 9 48 (by kernel_rfl) rfl).here (by have hc:wv.cell? ⟨g,0,none⟩=some (ae aj (S:Int)):=(aU.out.below hb aU.out.lt).cell.trans rfl;go_simp) (ij rfl) hK) ?_;refine ia.cons (fun aa wv hb ha hS Kk Qq hK=>qD (ic rfl) _ _ _ _ _ rfl _ _ (ae aj (((hn+n:Nat):Int)-(S:Int))) (hS 4 43 (by kernel_rfl) rfl).here (hS 10 49 (by kernel_rfl) rfl).here (sy _ _ _ _ _ _ _ (by decide) (by decide) _) (b4.out wv) (ij rfl) hK) ?_;refine ia.cons (fun aa wv hb ha hS Kk Qq hK=>LP (ic rfl) _ _ _ _ rfl 0 (((hn+n:Nat):Int)-(S:Int)) (q:Int) rfl (show aa.eval (.tmp 50)=ae aj (((hn+n:Nat):Int)-(S:Int))from(hS 11 50 (by kernel_rfl) rfl).here) MX.out (ij rfl) hK) ?_;refine ia.cons (fun aa wv hb ha hS Kk Qq hK=>rB (ic rfl) _ _ _ _ _ rfl (af Ah (hn+n) hc) (af A9 (hn+n-q) (hc-q)) (some (ae aj (q:Int))) none none (hS 2 41 (by kernel_rfl) rfl).here (congrArg some (hS 12 51 (by kernel_rfl) rfl).here) rfl rfl (b5.out wv) (ij rfl) hK) ?_;refine ia.cons (fun aa wv hb ha hS Kk Qq hK=>iS (ic rfl) _ rfl (ij ((ha 0 (by kernel_rfl)).trans rfl)) hK) ?_;refine ia.cons (fun aa wv hb ha hS Kk Qq hK=>lU (ic rfl) _ rfl _ (hS 14 53 (by kernel_rfl) rfl).here (ij rfl) hK) ?_;refine ia.cons (fun aa wv hb ha hS Kk Qq hK=>iL (ic rfl) _ _ _ rfl _ (ag (some ⟨g,0,none⟩)) (hS 15 54 (by kernel_rfl) rfl).here (by go_simp) (ij rfl) hK) ?_;refine ia.cons (fun aa wv hb ha hS Kk Qq hK=>iL (ic rfl) _ _ _ rfl _ (ag (some ⟨g,5,none⟩)) (hS 16 55 (by kernel_rfl) rfl).here (by go_simp) (ij rfl) hK) ?_;refine ia.cons (fun aa wv hb ha hS Kk Qq hK=>lu (ic rfl) _ _ rfl _ (af Aw wn wc) (hS 17 56 (by kernel_rfl) rfl).here (by have hc:wv.cell? ⟨g,5,none⟩=some (af Aw wn wc):=(aU.out.below hb aU.out.lt).cell.trans rfl;go_simp) (ij rfl) hK) ?_;refine ia.cons (fun aa wv hb ha hS Kk Qq hK=>iS (ic rfl) _ rfl (ij ((ha 2 (by kernel_rfl)).trans rfl)) hK) ?_;refine ia.cons (fun aa wv hb ha hS Kk Qq hK=>rB (ic rfl) _ _ _ _ _ rfl (af Aw wn wc) (af A6 (wn-n) (wc-n)) (some (ae aj (n:Int))) none none (hS 18 57 (by kernel_rfl) rfl).here (congrArg some (hS 19 58 (by kernel_rfl) rfl).here) rfl rfl (bB.out wv) (ij rfl) hK) ?_;refine ia.cons (fun aa wv hb ha hS Kk Qq hK=>lU (ic rfl) _ rfl _ (hS 0 39 (by kernel_rfl) rfl).here (ij rfl) hK) ?_;refine ia.cons (fun aa wv hb ha hS Kk Qq hK=>iL (ic rfl) _ _ _ rfl _ (ag (some ⟨g,0,none⟩)) (hS 21 60 (by kernel_rfl) rfl).here (by go_simp) (ij rfl) hK) ?_;refine ia.cons (fun aa wv hb ha hS Kk Qq hK=>iL (ic rfl) _ _ _ rfl _ (ag (some ⟨g,4,none⟩)) (hS 22 61 (by kernel_rfl) rfl).here (by go_simp) (ij rfl) hK) ?_;exact ia.nil
 intro vals w9 hb hv
 have bO:vals 39=ag (some ⟨g,0,none⟩):=(hv 0 39 rfl).here
 have bP:vals 40=ag (some ⟨g,0,none⟩):=(hv 1 40 rfl).here
 have bR:vals 52=af A9 (hn+n-q) (hc-q):=(hv 13 52 rfl).here
 have bS:vals 59=af A6 (wn-n) (wc-n):=(hv 20 59 rfl).here
 have bT:vals 62=ag (some ⟨g,4,none⟩):=(hv 23 62 rfl).here
 have U9:=bN.out.below hb
 have x9:=aU.out.below hb aU.out.lt
 have s4:w9.cell? ⟨g,4,none⟩=some (af Ah hn hc):=x9.cell.trans rfl
 have s5:w9.cell? ⟨g,5,none⟩=some (af Aw wn wc):=x9.cell.trans rfl
 have f4:w9.frozen? ⟨g,4,none⟩=false:=x9.free
 have f5:w9.frozen? ⟨g,5,none⟩=false:=x9.free
 obtain⟨WA,a8⟩:=gX ((w9.setCell ⟨g,4,none⟩ (af A9 (hn+n-q) (hc-q))).setCell ⟨g,5,none⟩ (af A6 (wn-n) (wc-n)))
 have UA:=b8.out w9 A7 c7 A8 c8 U9
 rw[<-a8]at UA
 have ch:aQ (aR B w WA):=gW (by rw[a8];exact kh (kh (cg.out.trans (hb.mono (by have:=av.out;have:=bN.out.lt;omega))) av.out _ _) av.out _ _)
 have cj:=gW UA;have ck:=gW a8
 clear x9 hb hv U9 a8 UA
 simp only[List.take_succ_cons,List.take_zero,List.drop_succ_cons,List.drop_zero,List.map_cons,List.map_nil,P5,Act.put,List.setIfInBounds_toArray,List.set_cons_zero,List.set_cons_succ,bO,bP,bR,bS,bT]
 clear bO bP bR bS bT
 go_wp2_with (rw[<-ck.out])
 go_end0
 exact⟨rfl,⟨_,_,_,_,_,_,_,_,cj.out⟩,ch.out⟩
theorem ib.first{w:aq}{B0 n m c:Nat}{A:Option au}{L:List Nat}(h:ib w B0 A m c (hH L))(hn:n<=m)(hb:jm L):ib w B0 A n c (hH (L.take n)):=by
 refine⟨⟨kH (rF hb n),fun h0=>?_⟩,h.2.1,by have:=h.2.2.1;omega,h.2.2.2⟩;obtain⟨b,o,e1,e2,e3⟩:=h.1.2 (by omega);exact⟨b,o,e1,e2,fun j hj=>by rw[tp L hj];exact e3 j (by omega)⟩
theorem OT{p:iz}(gd:lS p)(n:Nat):(jq p (p.wait.take n)).length<=(p.wait.take n).length/\∀t∈jq p (p.wait.take n),iO t=true/\t.x<256:=vK gd.ks gd.bh (rF gd.bw n)
theorem OU{a:Nat}{kind n:Nat}{l:List iu}(ha:a<=7)(hk:kind<=2)(hn:n<=65535)(hl:l.length<=65535)(ad:∀t∈l,iO t=true/\t.x<256):tj (a:Int) kind n l=0:=by
 unfold tj;rw[if_neg (by omega)];unfold m9;rw[if_neg (by omega),if_neg (by omega),if_pos];exact List.all_eq_true.2 fun t ht=>(ad t ht).1
theorem FY(w:aq)(B g:Nat)(p:iz)(out:List Nat)(Ah:Option au)(hc:Nat)(Aw:Option au)(wc:Nat)(Ap:Option au)(pc:Nat)(Ao:Option au)(oc:Nat)(U:iT w B g p out Ah hc Aw wc Ap pc Ao oc)(gd:lS p)(n:Nat)(ad:n<=p.wait.length)(al:n<=65535)(hb:p.wait.length<=1000000)(a8:out.length<=90000000)(last:Bool):
  aw prog 46 #[ag (some ⟨g,0,none⟩),ae aj (n:Int),ai last] w fun e w'=>e=ao (.tuple #[])/\(∃aZ a1 a2 a3 a4 a5 a6 a7,iT w' B g (mB p (kr p (p.wait.take n)) n (jq p (p.wait.take n)) last).1 (out++(mB p (kr p (p.wait.take n)) n (jq p (p.wait.take n)) last).2) aZ a1 a2 a3 a4 a5 a6 a7)/\aR B w w':=by
 obtain⟨K,hk⟩:∃K:Nat,p.k=(K:Int):=⟨p.k.toNat,by have:=gd.k0;omega⟩
 have a9:p.k.toNat=K:=by omega
 have bd:K<=7:=by have:=gd.k7;omega
 have hcut:=Mb w B g p out Ah hc Aw wc Ap pc Ao oc U gd n ad al hb
 obtain⟨t1,t2⟩:=OT gd n
 have bf:(p.wait.take n).length=n:=by rw[List.length_take,Nat.min_eq_left ad]
 obtain⟨TL,av⟩:=gX (jq p (p.wait.take n))
 obtain⟨BK,aS⟩:=gX (kr p (p.wait.take n))
 have aW:BK<=2:=by rw[aS];exact vM _ _
 rw[<-av]at hcut t1 t2
 have bg:∀t∈TL,sG t:=fun t ht=>Ev (t2 t ht).1 (t2 t ht).2
 have aT:∀(A2:Option au) (t c2:Nat) (w2:aq),iT w2 B g p out Ah hc Aw wc Ap pc Ao oc->jW w2 w2.heap.size A2 t c2 TL->aQ (∀V,aR w2.heap.size w2 V->aw prog 61 #[ae aj (K:Int),af Aw n wc,af A2 t c2] V fun e w'=>e=ao (.tuple #[ae .u8 (BK:Int),ae aj 0])/\aR V.heap.size V w'):=fun A2 t c2 w2 U2 ht=>gW fun V hV=>by
  have hr:=(U2.below hV).wait.first (n:=n) ad gd.bw;have h1:=OH V (K:Int) Aw n wc (hH (p.wait.take n)) A2 t c2 TL (by omega) (by omega) hr (by omega) ((ht.below hV gY).more hV.size) (by have:=ht.1;omega) bg;have hE:rr (K:Int) n TL=0:=by unfold rr;exact OU bd (by omega) al (by omega) t2
  have bz:vD (K:Int) n (hH (p.wait.take n)) TL=BK:=by
   unfold vD;rw[hE,if_pos rfl,aS,Int.toNat_natCast];unfold kr;rw[bf,a9,av]
  rw[hE,bz]at h1;exact h1
 rw[<-av,<-aS]
 have bj:∀(A2:Option au) (t c2:Nat) (w2:aq),iT w2 B g p out Ah hc Aw wc Ap pc Ao oc->jW w2 w2.heap.size A2 t c2 TL->aw prog 51 #[ag (some ⟨g,0,none⟩),ae .u8 (BK:Int),ae aj (n:Int),af A2 t c2,ai last] w2 fun e w'=>e=ao (.tuple #[])/\(∃aZ a1 a2 a3 a4 a5 a6 a7,iT w' B g (mB p BK n TL last).1 (out++(mB p BK n TL last).2) aZ a1 a2 a3 a4 a5 a6 a7)/\aR B w2 w':=fun A2 t c2 w2 U2 ht=>
  OS w2 B g p out Ah hc Aw wc Ap pc Ao oc U2 gd BK aW n ad al hb a8 A2 t c2 TL ht (by omega) t2 last
 obtain⟨hn,bk⟩:=gX (p.hist.length)
 obtain⟨wn,bl⟩:=gX (p.wait.length)
 obtain⟨pn,aX⟩:=gX (p.ie.length)
 obtain⟨on,bm⟩:=gX (out.length)
 have eX:jZ p Ah hc Aw wc Ap pc Ao out.length oc=#[ae aj p.s,ae aj p.h,ae aj p.m,ai p.z,af Ah hn hc,af Aw wn wc,af Ap pn pc,ae aj (K:Int),ai p.iH,(af Ao on oc)]:=by
  unfold jZ;rw[<-bk,<-bl,<-aX,hk,<-bm]
 have hx:=U.box
 rw[eX]at hx
 have bA:=U.wait.2.2.1
 have RT:aQ (∀V:aq,(Instr.sliceAt 22 (af Aw wn wc) none (some (ae aj (n:Int))) none).run prog V=.ok (af Aw n wc) V):=gW fun V=>vP Aw wn wc n (by omega) V
 have HX:=gW hx;have HU:=gW U;have aY:=gW hcut;have bn:=gW aT;have bp:=gW bj;have bq:=gW U.le
 clear U gd ad al hb a8 hk a9 bd hcut t1 t2 bf av aS aW bg aT bj bk bl aX bm eX hx bA
 go_enter func46,ntmps46
 go_wp2_with fail
 refine aY.out.mono ?_
 rintro e w2 ⟨A2,t,c2,rfl,ht,aU⟩
 have U2:=HU.out.below aU
 have aV:=gW (HX.out.below aU HX.out.lt)
 have aT:=bn.out A2 t c2 w2 U2 ht
 have bB:=gW (aU.mono (B':=B) (by have:=bq.out;have:=HU.out.lt;omega))
 have br:=gW U2;have bC:=gW ht
 clear U2 ht aU aY
 go_wp2_with fail
 refine tt (nM [fun v _=>v=ag (some ⟨g,0,none⟩),fun v _=>v=ag (some ⟨g,0,none⟩),fun v _=>v=ag (some ⟨g,0,none⟩),fun v _=>v=ag (some ⟨g,6,none⟩),fun v _=>v=ag (some ⟨g,7,none⟩),fun v _=>v=ae aj (K:Int),fun v _=>v=ag (some ⟨g,0,none⟩),fun v _=>v=ag (some ⟨g,0,none⟩),fun v _=>v=ag (some ⟨g,0,none⟩),fun v _=>v=ag (some ⟨g,5,none⟩),fun v _=>v=af Aw wn wc,fun v _=>v=ae aj (n:Int),fun v _=>v=af Aw n wc,fun v _=>v=af A2 t c2,fun v _=>v=.tuple #[ae .u8 (BK:Int),ae aj 0],fun v _=>v=.tuple #[ae .u8 (BK:Int),ae aj 0],fun v _=>v=ae .u8 (BK:Int),fun v _=>v=ae aj 0,fun v _=>v=ae .u8 (BK:Int),fun v _=>v=ae aj 0]) w2 ix (by kernel_rfl) (by kernel_rfl) ?_ ?_
 case refine_1=>
  refine ia.cons (fun aa wv hb ha hS Kk Qq hK=>iS (ic rfl) _ rfl (ij ((ha 0 (by kernel_rfl)).trans rfl)) hK) ?_;refine ia.cons (fun aa wv hb ha hS Kk Qq hK=>lU (ic rfl) _ rfl _ (hS 0 13 (by kernel_rfl) rfl).here (ij rfl) hK) ?_;refine ia.cons (fun aa wv hb ha hS Kk Qq hK=>iL (ic rfl) _ _ _ rfl _ (ag (some ⟨g,0,none⟩)) (hS 1 14 (by kernel_rfl) rfl).here (by go_simp) (ij rfl) hK) ?_;refine ia.cons (fun aa wv hb ha hS Kk Qq hK=>iL (ic rfl) _ _ _ rfl _ (ag (some ⟨g,6,none⟩)) (hS 2 15 (by kernel_rfl) rfl).here (by go_simp) (ij rfl) hK) ?_;refine ia.cons (fun aa wv hb ha hS Kk Qq hK=>iL (ic rfl) _ _ _ rfl _ (ag (some ⟨g,7,none⟩)) (hS 3 16 (by kernel_rfl) rfl).here (by go_simp) (ij rfl) hK) ?_;refine ia.cons (fun aa wv hb ha hS Kk Qq hK=>lu (ic rfl) _ _ rfl _ (ae aj (K:Int)) (hS 4 17 (by kernel_rfl) rfl).here (by have hc:wv.cell? ⟨g,7,none⟩=some (ae aj (K:Int)):=(aV.out.below hb aV.out.lt).cell.trans rfl;go_simp) (ij rfl) hK) ?_;refine ia.cons (fun aa wv hb ha hS Kk Qq hK=>iS (ic rfl) _ rfl (ij ((ha 0 (by kernel_rfl)).trans rfl)) hK) ?_;refine ia.cons (fun aa wv hb ha hS Kk Qq hK=>lU (ic rfl) _ rfl _ (hS 6 19 (by kernel_rfl) rfl).here (ij rfl) hK) ?_;refine ia.cons (fun aa wv hb ha hS Kk Qq hK=>iL (ic rfl) _ _ _ rfl _ (ag (some ⟨g,0,none⟩)) (hS 7 20 (by kernel_rfl) rfl).here (by go_simp) (ij rfl) hK) ?_;refine ia.cons (fun aa wv hb ha hS Kk Qq hK=>iL (ic rfl) _ _ _ rfl _ (ag (some ⟨g,5,none⟩)) (hS 8 21 (by kernel_rfl) rfl).here (by go_simp) (ij rfl) hK) ?_;refine ia.cons (fun aa wv hb ha hS Kk Qq hK=>lu (ic rfl) _ _ rfl _ (af Aw wn wc) (hS 9 22 (by kernel_rfl) rfl).here (by have hc:wv.cell? ⟨g,5,none⟩=some (af Aw wn wc):=(aV.out.below hb aV.out.lt).cell.trans rfl;go_simp) (ij rfl) hK) ?_;refine ia.cons (fun aa wv hb ha hS Kk Qq hK=>iS (ic rfl) _ rfl (ij ((ha 1 (by kernel_rfl)).trans rfl)) hK) ?_;refine ia.cons (fun aa wv hb ha hS Kk Qq hK=>rB (ic rfl) _ _ _ _ _ rfl (af Aw wn wc) (af Aw n wc) none (some (ae aj (n:Int))) none (hS 10 23 (by kernel_rfl) rfl).here rfl (congrArg some (hS 11 24 (by kernel_rfl) rfl).here) rfl (RT.out wv) (ij rfl) hK) ?_;refine ia.cons (fun aa wv hb ha hS Kk Qq hK=>iS (ic rfl) _ rfl (ij ((ha 6 (by kernel_rfl)).trans rfl)) hK) ?_;refine ia.cons (fun aa wv hb ha hS Kk Qq hK=>mq (ic rfl) 61 _ _ rfl (enters_of func61 (by kernel_rfl) rfl) #[ae aj (K:Int),af Aw n wc,af A2 t c2] (by simp[(show aa.eval (.tmp 18)=ae aj (K:Int)from(hS 5 18 (by kernel_rfl) rfl).here),(show aa.eval (.tmp 25)=af Aw n wc from(hS 12 25 (by kernel_rfl) rfl).here),(show aa.eval (.tmp 26)=af A2 t c2 from(hS 13 26 (by kernel_rfl) rfl).here)]) (aT.out wv hb) (fun ee w' ⟨h1,h2⟩=>⟨_,h1,h2,ij rfl⟩) hK) ?_;refine ia.cons (fun aa wv hb ha hS Kk Qq hK=>iS (ic rfl) _ rfl (hS 14 27 (by kernel_rfl) rfl) hK) ?_;refine ia.cons (fun aa wv hb ha hS Kk Qq hK=>rz (ic rfl) _ _ rfl _ (ae .u8 (BK:Int)) (hS 15 12 (by kernel_rfl) rfl).here (by go_simp) (ij rfl) hK) ?_;refine ia.cons (fun aa wv hb ha hS Kk Qq hK=>rz (ic rfl) _ _ rfl _ (ae aj 0) (hS 15 12 (by kernel_rfl) rfl).here (by go_simp) (ij rfl) hK) ?_;refine ia.cons (fun aa wv hb ha hS Kk Qq hK=>tu (ic rfl) _ rfl (hS 16 28 (by kernel_rfl) rfl) hK) ?_;refine ia.cons (fun aa wv hb ha hS Kk Qq hK=>tu (ic rfl) _ rfl (hS 17 29 (by kernel_rfl) rfl) hK) ?_;exact ia.nil
 intro vals w5 hb hv
 have e7:vals 7=ae .u8 (BK:Int):=(hv 18 7 rfl).here
 have U5:=br.out.below hb
 have bt:=bp.out A2 t c2 w5 U5 ((bC.out.below hb gY).more hb.size)
 have bD:=gW bt;have bE:=gW (bB.out.trans (hb.mono (by have:=bq.out;have:=br.out.lt;omega)))
 clear hb hv U5 bt
 simp only[List.map_cons,List.map_nil,P5,Act.put,List.setIfInBounds_toArray,List.set_cons_zero,List.set_cons_succ,e7]
 clear e7
 go_wp2_with fail
 refine bD.out.mono ?_
 rintro e w6 ⟨rfl,h6,bu⟩
 have H6:=gW h6;have bF:=gW (bE.out.trans bu)
 clear h6 bu
 go_wp2
 go_end0
 exact⟨rfl,H6.out,bF.out⟩
structure uH (w0:aq) (h:Nat) (Z:Array ax) (wr:aq) (p:iz) (W O:List Nat) (Ah:Option au) (hc:Nat) (Aw:Option au) (wc:Nat) (Ap:Option au) (pc:Nat) (A7:Option au) (c7:Nat) (Ao:Option au) (oc:Nat):Prop where
 bx:gZ wr h (iA p Ah hc Aw wc Ap pc) 32
 zb:gZ wr (h+1) Z 32
 ro:iD wr wr.heap.size p Ah hc Aw wc Ap pc
 wt:ib wr wr.heap.size A7 W.length c7 (hH W)
 own:wr.ownsRow (h+2) 5 1 (af Ao O.length oc) O.length (iw O.length (hH O))
 bo:jm O
 nh:jw Ah p.hist.length (af Ao O.length oc)
 nw:jw Aw p.wait.length (af Ao O.length oc)
 np:jw Ap p.ie.length (af Ao O.length oc)
 n7:jw A7 W.length (af Ao O.length oc)
 ql:aR h w0 wr
theorem OV{w:aq}{base B n m c:Nat}{A Ao:Option au}{xs:List ax}(own:w.ownsRow base 5 1 (af Ao m c) m xs)(h:mA B A n)(hB:w.heap.size<=B):jw A n (af Ao m c):=fun b o h0 e hx=>by
 have h1:=h b o h0 e;have h2:=(oD own b hx).2;omega
theorem OW{A Ao A8:Option au}{n m m8 c c8 k:Nat}(h:jw A n (af Ao m c))(hw:∀j,(Value.slice A8 m8 c8).ownBlock=some j->(Value.slice Ao m c).ownBlock=some j\/k<=j)(hk:∀b o,0<n->A=some ⟨b,o,none⟩->b<k):jw A n (af A8 m8 c8):=fun b o h0 e hx=>by
 rcases hw b hx with h1|h1
 ·exact h b o h0 e h1
 ·have:=hk b o h0 e;omega
theorem OX{w w':aq}{A Ao:Option au}{n c m oc B:Nat}{f:Nat->Nat}(h:ib w w.heap.size A n c f)(hn:jw A n (af Ao m oc))(hk:∀k,k<w.heap.size->(Value.slice Ao m oc).ownBlock≠some k->w'.heap[k]?=w.heap[k]?)(hB:w.heap.size<=B):ib w' B A n c f:=by
 refine⟨⟨h.1.1,fun h0=>?_⟩,h.2⟩;obtain⟨b,o,e,hb,hc⟩:=h.1.2 h0;refine⟨b,o,e,by omega,fun j hj=>?_⟩;have hh:=hk b hb (hn b o h0 e);rw[<-hc j hj];simp only[World.cell?,hh]
theorem uH.step{w0 wr w5:aq}{h gq:Nat}{Z Y0:Array ax}{p q:iz}{W O x:List Nat}{Ah:Option au}{hc:Nat}{Aw:Option au}{wc:Nat}{Ap:Option au}{pc:Nat}{A7:Option au}{c7:Nat}{Ao:Option au}{oc:Nat}
  (H:uH w0 h Z wr p W O Ah hc Aw wc Ap pc A7 c7 Ao oc) (hb:aR wr.heap.size wr w5) (bt:wr.heap.size<=gq) (bq:gZ w5 gq Z 32) (nZ:l5 Z) {av:Option au} {aX:Nat} {aS:Option au} {aY:Nat} {A5:Option au} {o5:Nat}
  (r:iD w5 w5.heap.size q av aX Aw wc aS aY) (rx:ib w5 w5.heap.size A5 x.length o5 (hH x)) (hh:mA wr.heap.size av q.hist.length) (hp:mA wr.heap.size aS q.ie.length) (hw:q.wait=p.wait) (hY:Y0=iA q av aX Aw wc aS aY) (hO:O.length+x.length<=100000000)
  {D:Nat} (hD:D<=W.length) {A9:Option au} (hA9:(if c7=D then A7 else A7.map (·.add D))=A9):
  ∃A8 c8 w8,(Builtin.append_ #[22,22] 22 #[af Ao O.length oc,af A5 x.length o5]).run prog ((w5.setRow gq Y0).setRow h Y0)=.ok (af A8 (O.length+x.length) c8) w8/\uH w0 h Z w8 q (W.drop D) (O++x) av aX Aw wc aS aY A9 (c7-D) A8 c8:=by
 have bu:=H.bx.lt
 have bz:=H.zb.lt
 have hle:=hb.size
 have bg:=H.bx.below hb H.bx.lt
 have bj:=H.zb.below hb H.zb.lt
 have nY:l5 Y0:=by rw[hY];exact qa _ _ _ _ _ _ _
 have nX:l5 (iA p Ah hc Aw wc Ap pc):=qa _ _ _ _ _ _ _
 obtain⟨w6,ad⟩:=gX (w5.setRow gq Y0)
 have a5:gZ w6 h (iA p Ah hc Aw wc Ap pc) 32:=by rw[ad];exact bg.ub (by omega) _
 have bk:gZ w6 (h+1) Z 32:=by rw[ad];exact bj.ub (by omega) _
 have q6:gZ w6 gq Y0 32:=by rw[ad];exact bq.row Y0
 obtain⟨w7,al⟩:=gX (w6.setRow h Y0)
 have aZ:gZ w7 h Y0 32:=by rw[al];exact a5.row Y0
 have a2:gZ w7 (h+1) Z 32:=by rw[al];exact bk.ub (by omega) _
 have s7:w7.heap.size=w5.heap.size:=by rw[al,size_setRow,ad,size_setRow]
 have tr:∀(A:Option au) (n c:Nat) (f:Nat->Nat),ib w5 w5.heap.size A n c f->ib w7 w7.heap.size A n c f:=fun A n c f r=>by
  rw[s7,al];have a1:=r.rC bq nZ Y0;rw[<-ad]at a1;exact a1.rC a5 nX Y0
 have aV:=qz H.own hb
 have bl:∀k,k≠gq->k≠h->w7.heap[k]?=w5.heap[k]?:=fun k h1 h2=>by
  rw[al,aL _ _ _ _ h2,ad,aL _ _ _ _ h1]
 have aW:w7.ownsRow (h+2) 5 1 (af Ao O.length oc) O.length (iw O.length (hH O)):=by
  refine⟨aV.1,?_⟩;rcases aV.2 with h1|⟨g,cap,cur,hv,hg,hh,a3⟩
  ·exact .inl h1
  ·refine .inr ⟨g,cap,cur,hv,hg,?_,a3⟩;have e1:g≠gq:=fun e=>by
    have aT:w5.heap[gq]?=_:=bq;rw[<-e,hh]at aT;injection aT with aT
    injection aT with _ h2 _
    exact absurd h2 (by decide)
   rw[bl g e1 (by omega)];exact hh
 have bm:=tr _ _ _ _ rx
 have bA:∀k,(Value.slice Ao O.length oc).ownBlock=some k->k<wr.heap.size:=fun k hk=>(oD H.own k hk).2
 obtain⟨A8,c8,w8,a6,bn,a7,a4,bp⟩:=wG w7 (h+2) Ao O.length oc (hH O) aW A5 x.length o5 (hH x) (hH (O++x)) bm
  (fun j hj=>by rw[oO];unfold cat;rw[if_pos hj]) (fun j hj=>by rw[oO];unfold cat;rw[if_neg (by omega),Nat.add_sub_cancel_left]) (by omega) (by omega)
 have a8:(O++x).length=O.length+x.length:=List.length_append
 have kept:∀{A:Option au} {n c:Nat} {f:Nat->Nat},ib w7 w7.heap.size A n c f->jw A n (af Ao O.length oc)->ib w8 w8.heap.size A n c f:=fun r hn=>OX r hn a4 a7.size
 have aU:∀{A:Option au} {n c:Nat} {f:Nat->Nat},ib w7 w7.heap.size A n c f->jw A n (af Ao O.length oc)->jw A n (af A8 (O++x).length c8):=fun{A n c f} r hn=>by
  rw[a8];refine OW hn bp fun b o h0 e=>?_
  obtain⟨b',o',e',br,_⟩:=r.1.2 h0;rw[e']at e;injection e with e;injection e with e1 _ _;omega
 have fresh:∀{A:Option au} {n:Nat},mA wr.heap.size A n->jw A n (af Ao O.length oc):=fun hn=>OV H.own hn gY
 have rh:=tr _ _ _ _ r.hist
 have rp:=tr _ _ _ _ r.ie
 have a9:=tr _ _ _ _ r.wait
 have r9:ib wr wr.heap.size A9 (W.drop D).length (c7-D) (hH (W.drop D)):=by
  rw[List.length_drop];exact H.wt.from hD hA9
 have bd:=tr _ _ _ _ ((r9.below hb gY).more hb.size)
 have n9:jw A9 (W.drop D).length (af Ao O.length oc):=by
  rw[List.length_drop];exact H.n7.from hD hA9 H.wt.at
 have bf:jw Aw q.wait.length (af Ao O.length oc):=by rw[hw];exact H.nw
 have ne:∀{g:Nat} {cs:Array ax},gZ w7 g cs 32->(Value.slice Ao O.length oc).ownBlock≠some g:=fun hg=>oU aW hg (by kernel_rfl)
 refine⟨A8,c8,w8,by rw[<-ad,<-al];exact a6,⟨?_,?_,⟨kept rh (fresh hh),kept a9 bf,kept rp (fresh hp)⟩,kept bd n9,by rw[a8];exact bn,fun y hy=>(List.mem_append.1 hy).elim (H.bo y) (kE rx y),aU rh (fresh hh),aU a9 bf,aU rp (fresh hp),aU bd n9,?_⟩⟩
 ·rw[<-hY];exact(a4 h aZ.lt (ne aZ)).trans aZ
 ·exact(a4 (h+1) a2.lt (ne a2)).trans a2
 ·have b7:aR h w0 w7:=by rw[al,ad];exact mf (mf (H.ql.trans (hb.mono (by omega))) (by omega) _) gY _
  exact b7.trans (a7.mono (by omega))
def QD:ax->Nat
 |af _ n _=>n
 |_=>0
theorem OY{N:Nat}{p:iz}{W:List Nat}(h:W.length<p.m.toNat):P4 N p W=({p with wait:=W},[]):=by
 cases N with
 |zero=>rfl
 |succ n=>simp only[P4];rw[if_neg (by omega)]
theorem OZ{N:Nat}{p:iz}{W:List Nat}(hN:W.length<=N)(h:p.m.toNat<=W.length)(hm:0<p.m.toNat):∃N',(W.drop p.m.toNat).length<=N'/\P4 N p W=((P4 N' (kC p (W.take p.m.toNat)).1 (W.drop p.m.toNat)).1,(kC p (W.take p.m.toNat)).2++(P4 N' (kC p (W.take p.m.toNat)).1 (W.drop p.m.toNat)).2):=by
 cases N with
 |zero=>omega
 |succ n=>exact⟨n,by rw[List.length_drop];omega,by simp only[P4];rw[if_pos h]⟩
theorem O0{w w':aq}{base sz n:Nat}{e:aB}{v:ax}{xs:List ax}(h:w.ownsRow base e sz v n xs)(ho:∀k,base<=k->w'.heap[k]?=w.heap[k]?):w'.ownsRow base e sz v n xs:=
 ⟨h.1,h.2.imp id fun⟨g,cap,cur,hv,hg,hh,hr⟩=>⟨g,cap,cur,hv,hg,(ho g hg).trans hh,hr⟩⟩
theorem FZ(w:aq)(p:iz)(Ah:Option au)(hc:Nat)(Aw:Option au)(wc:Nat)(Ap:Option au)(pc:Nat)(hp:iD w w.heap.size p Ah hc Aw wc Ap pc)(g:kD p)(A:Option au)(c:Nat)(b:List Nat)(rb:ib w w.heap.size A b.length c (hH b))(hb:b.length<=200000):
  aw prog 38 #[ah (iA p Ah hc Aw wc Ap pc),af A b.length c] w fun e w'=>∃ad av cq cr al aS Ao oc,e=ao (.tuple #[ah (iA (jB p b).1 ad av cq cr al aS),af Ao (jB p b).2.length oc])/\
   iD w' w'.heap.size (jB p b).1 ad av cq cr al aS/\ib w' w'.heap.size Ao (jB p b).2.length oc (hH (jB p b).2)/\aR w.heap.size w w'/\w'.ownsRow w.heap.size 5 1 (af Ao (jB p b).2.length oc) (jB p b).2.length (iw (jB p b).2.length (hH (jB p b).2)):=by
 obtain⟨h,hh⟩:=gX (w.heap.size)
 obtain⟨X,hX⟩:=gX (iA p Ah hc Aw wc Ap pc)
 rw[<-hX]
 obtain⟨Z,hZ⟩:=gX (iA (iR 0 0 0 false) none 0 none 0 none 0)
 have hz:=(zero_of_info oP).1
 rw[<-hZ]at hz
 obtain⟨W1,bt⟩:=gX ((w.alloc (ak X 32)).alloc (ak Z 32))
 have b1:aR h w W1:=by rw[bt,hh];exact(ix.alloc gY _).alloc (by simp) _
 have x1:gZ W1 h X 32:=by rw[bt,hh];exact(gZ.new w _ _).old _
 have z1:gZ W1 (h+1) Z 32:=by
  rw[bt,hh];have:=gZ.new (w.alloc (ak X 32)) Z 32
  rwa[World.size_alloc]at this
 have ct:h+1<W1.heap.size:=z1.lt
 have bu:=lr g.ks
 have bZ:=g.hist;have dh:=g.wait
 have b0:=hp.on (hh▸b1)
 have cu:ib W1 W1.heap.size A b.length c (hH b):=(rb.below (hh▸b1) gY).more (hh▸b1).size
 obtain⟨A1,c1,w1,bT,cv,A3,c3,w3,bU,bz,b2⟩:=yz W1 W1.heap.size gY Aw wc p.wait b0.wait A c b cu (by omega) (by omega)
 have q5:W1.cell? ⟨h,5,none⟩=some (af Aw p.wait.length wc):=by rw[x1.cell,hX];rfl
 have cw:w1.cell? ⟨h,5,none⟩=some (af Aw p.wait.length wc):=(x1.below cv x1.lt).cell.trans (by rw[hX];rfl)
 obtain⟨R,hR⟩:=gX (jB p b)
 have hOut:R.2.length<=10000000:=by
  obtain⟨_,_,_,_,_,B,e1,e2⟩:=vN g (kE rb);have h3:B<=B*p.m.toNat:=Nat.le_mul_of_pos_right _ (by omega);have:=g.k7;rw[<-hR]at e2;omega
 obtain⟨mN,cx⟩:∃mN:Nat,p.m=(mN:Int):=⟨p.m.toNat,by omega⟩
 have dE:0<mN/\mN<=65535:=by omega
 have I0:uH w h Z w3 p (p.wait++b) [] Ah hc Aw wc Ap pc A3 c3 none 0:=
  ⟨by rw[<-hX];exact x1.below bz x1.lt,z1.below bz z1.lt,b0.on bz,b2.rd.more gY,World.ownsRow_nil _ _ _ _,(fun x hx=>by cases hx),(fun _ _ _ _ h=>by cases h),(fun _ _ _ _ h=>by cases h),(fun _ _ _ _ h=>by cases h),(fun _ _ _ _ h=>by cases h),b1.trans (bz.mono (by omega))⟩
 have J0:kD p/\p.m=(mN:Int)/\(p.wait++b).length<=(p.wait++b).length/\R=((P4 (p.wait++b).length p (p.wait++b)).1,([]:List Nat)++(P4 (p.wait++b).length p (p.wait++b)).2)/\jm (p.wait++b):=
  ⟨g,cx,Nat.le_refl _,by rw[hR];rfl,fun x hx=>(List.mem_append.1 hx).elim (g.bw x) (kE rb x)⟩
 have b3:p.wait.length+b.length<=300000:=by omega
 obtain⟨wn,b4⟩:=gX (p.wait.length)
 obtain⟨bn,b5⟩:=gX (b.length)
 have cy:=gW I0;have cz:=gW J0;have bA:=gW bT;have bj:=gW bU;have di:=gW b2
 have dj:=gW bt;have HH:=gW hh
 have cA:aQ (Z.size=9):=gW (by rw[hZ];rfl);have cB:aQ (l5 Z):=gW (by rw[hZ];exact qa _ _ _ _ _ _ _);have cC:=gW hOut
 have cD:aQ ((p.wait++b).length=wn+bn):=gW (by rw[List.length_append,b4,b5])
 rw[<-hR]
 rw[<-b4]at q5 cw bA bj b3
 rw[<-b5]at bj b3⊢
 clear hX hZ bt hh b1 x1 z1 ct hp b0 rb cu hb bT bU cv bz b2 hR hOut cx g bu bZ dh I0 J0 b4 b5
 go_enter func38,ntmps38
 go_wp2_with (first
  |(rw[<-dj.out,<-HH.out])
  |(at_builtin;refine wpList_append_run rfl (.const (af none 0 0)) (.tmp 13) 22 rfl (af none 0 0) (af Aw wn wc) (af A1 wn c1) w1 rfl rfl bA.out ?_)
  |(at_builtin;refine wpList_append_run rfl (.tmp 14) (.tmp 15) 22 rfl (af A1 wn c1) (af A bn c) (af A3 (wn+bn) c3) w3 rfl rfl bj.out ?_)
  |fail)
 clear q5 cw
 go_loopw [6,7] (fun ov wv wr=>∃(N Wn On:Nat) (p':iz) (W O:List Nat) (Ah:Option au) (hc:Nat) (Aw:Option au) (wc:Nat) (Ap:Option au) (pc:Nat) (A7:Option au) (c7:Nat) (Ao:Option au) (oc:Nat),Wn<=300000/\ov=af Ao On oc/\wv=af A7 Wn c7/\aQ (Wn=W.length/\On=O.length)/\aQ (uH w h Z wr p' W O Ah hc Aw wc Ap pc A7 c7 Ao oc)/\aQ (kD p'/\p'.m=(mN:Int)/\W.length<=N/\R=((P4 N p' W).1,O++(P4 N p' W).2)/\jm W)) (fun _ wv _=>QD wv)
 case atStart=>exact⟨_,wn+bn,0,p,p.wait++b,[],Ah,hc,Aw,wc,Ap,pc,A3,c3,none,0,b3,rfl,rfl,gW ⟨cD.out.symm,rfl⟩,cy,cz⟩
 case round=>
  clear cy cz bA bj cD di;obtain⟨N,Wn,On,p',W,O,Ah,hc,Aw,wc,Ap,pc,A7,c7,Ao,oc,dF,rfl,rfl,HL,HI,HJ⟩:=hrel;obtain⟨X,hX⟩:=gX (iA p' Ah hc Aw wc Ap pc);have bP:gZ wr h X 32:=by rw[hX];exact HI.out.bx
  have b6:aQ (X.size=9):=gW (by rw[hX];rfl);have dk:aQ (l5 X):=gW (by rw[hX];exact qa _ _ _ _ _ _ _);have cm:wr.cell? ⟨h,2,none⟩=some (ae aj (mN:Int)):=by rw[bP.cell,hX,<-HJ.out.2.1];rfl
  have aX:=gW bP;by_cases cE:mN<=Wn
  ·have hle:(mN:Int)<=(Wn:Int):=by omega
   obtain⟨hW,hO⟩:=HL.out;obtain⟨g,em,hN,aV,bW⟩:=HJ.out;have bu:=lr g.ks;have bZ:=g.hist;have b7:p'.m.toNat=mN:=by omega
   obtain⟨raw,a7⟩:=gX (W.take mN);have a9:raw.length=mN:=by rw[a7,List.length_take];omega
   have br:jm raw:=by rw[a7];exact rF bW mN
   obtain⟨kk,cF⟩:∃kk:Nat,p'.k=(kk:Int):=⟨p'.k.toNat,by have:=g.k0;omega⟩;have bB:p'.k.toNat=kk:=by omega
   have b8:kk<=7:=by have:=g.k7;omega
   obtain⟨pn,b9⟩:=gX (p'.ie.length);have ca:X=#[ae aj p'.s,ae aj p'.h,ae aj p'.m,ai p'.z,af Ah p'.hist.length hc,af Aw p'.wait.length wc,af Ap pn pc,ae aj (kk:Int),ai p'.iH]:=by rw[hX,<-cF,b9];rfl
   obtain⟨tl,bC⟩:=gX (jq p' raw);obtain⟨t1,t2⟩:=vK g.ks g.bh br;rw[<-bC]at t1 t2;have cb:∀V,aR wr.heap.size wr V->iD V V.heap.size p' Ah hc Aw wc Ap pc:=fun V hV=>HI.out.ro.on hV
   have bD:∀V,aR wr.heap.size wr V->ib V V.heap.size A7 raw.length c7 (hH raw):=fun V hV=>by
    rw[a9,a7];exact((HI.out.wt.below hV gY).more hV.size).first (by omega) bW
   have bE:=DQ wr p' Ah hc Aw wc Ap pc HI.out.ro g.ks (by omega) A7 c7 raw (bD wr ix) (by omega);rw[<-hX,<-bC,a9]at bE;obtain⟨BK,bQ⟩:=gX (kr p' raw);have bF:BK<=2:=by rw[bQ];exact vM _ _
   obtain⟨E1,bG⟩:=gX (ke p'.ie kk BK raw tl false);obtain⟨L,hL⟩:=gX (jQ p' (E1.1,E1.2) raw);have cG:Qa (hH p'.ie) kk:=by rw[<-bB];exact g.clean
   have cH:p'.ie.length=(kk+7)/8:=by rw[g.len,bB]
   have bV:=vX (k:=kk) (kind:=BK) (raw:=raw) (l:=tl) (last:=false) bF b8 (by omega) br (by omega) t2;have bX:E1.1.length=(E1.2+7)/8:=by rw[bG];exact rv ..
   have cI:E1.2<=4320007:=by rw[bG];exact bV
   have SH:aQ (∀V,aR wr.heap.size wr V->∀{A2:Option au} {t c2:Nat},jW V V.heap.size A2 t c2 tl->aw prog 57 #[ae aj (kk:Int),af A7 mN c7,af A2 t c2] V fun e w'=>e=ao (ae .u8 (BK:Int))/\aR V.heap.size V w'):=gW fun V hV A2 t c2 ht=>by
    have h1:=Dz V kk A7 mN c7 (hH raw) A2 t c2 tl b8 (by have:=(bD V hV).1;rwa[a9]at this) (by omega) ht.1 ht.2.1 (by have:=ht.1;omega) t2;have e:qy kk mN (hH raw) tl=BK:=by rw[bQ];unfold kr;rw[bB,<-bC,a9]
    rw[e]at h1;exact h1
   have PU:aQ (∀V,aR wr.heap.size wr V->∀(A2:Option au) (t c2:Nat),jW V V.heap.size A2 t c2 tl->aw prog 56 #[ah #[af Ap pn pc,ae aj (kk:Int)],ae .u8 (BK:Int),af A7 mN c7,af A2 t c2,ai false] V fun e w'=>∃A' n' c',e=ao (ah #[af A' n' c',ae aj (E1.2:Int)])/\n'=E1.1.length/\ib w' w'.heap.size A' n' c' (hH E1.1)/\aR V.heap.size V w'):=gW fun V hV A2 t c2 ht=>by
    have h1:=DR V p'.ie kk Ap pc BK A7 c7 raw A2 t c2 tl false (cb V hV).ie cH cG (by omega) bF (bD V hV) (by omega) ht (by omega) t2;rw[<-b9,a9,<-bG]at h1;exact h1.mono fun e w' ⟨A',c',e1,e2,e3⟩=>⟨A',_,c',e1,rfl,e2,e3⟩
   have LF:aQ (∀V,aR wr.heap.size wr V->∀(A':Option au) (n' c':Nat),n'=E1.1.length->ib V V.heap.size A' n' c' (hH E1.1)->aw prog 55 #[ah X,ah #[af A' n' c',ae aj (E1.2:Int)],af A7 mN c7] V fun e w'=>∃ad av al aS Ao oc,e=ao (.tuple #[ah (iA L.1 ad av Aw wc al aS),af Ao L.2.length oc])/\
     iD w' w'.heap.size L.1 ad av Aw wc al aS/\ib w' w'.heap.size Ao L.2.length oc (hH L.2)/\aR V.heap.size V w'/\mA wr.heap.size ad L.1.hist.length/\mA wr.heap.size al L.1.ie.length):=gW fun V hV A' n' c' en r1=>by
    subst en
    have h1:=DT V p' Ah hc Aw wc Ap pc (cb V hV) (by omega) (by omega) (by omega) E1.1 E1.2 A' c' r1 bX (by omega) A7 c7 raw (bD V hV) (by omega)
    rw[<-hX,a9,<-hL]at h1
    exact h1.mono fun e w' ⟨a1,a2,a3,a4,a5,a6,k1,k2,k3,k4,k5,k6,_⟩=>⟨a1,a2,a3,a4,a5,a6,k1,k2,k3,k4,fun g o h0 e=>Nat.le_trans hV.size (k5 g o h0 e),fun g o h0 e=>Nat.le_trans hV.size (k6 g o h0 e)⟩
   have bH:kC p' raw=L:=by unfold kC;rw[bB,<-bC,<-bQ,<-bG,hL]
   obtain⟨N',cf,cg⟩:=OZ (p:=p') hN (by omega) (by omega);rw[b7,<-a7,bH]at cg;rw[b7]at cf;rw[cg]at aV;have gL:kD L.1:=by rw[<-bH];exact Dh g br
   have dm:aQ (kD L.1/\L.1.m=(mN:Int)/\(W.drop mN).length<=N'/\R=((P4 N' L.1 (W.drop mN)).1,(O++L.2)++(P4 N' L.1 (W.drop mN)).2)/\jm (W.drop mN)):=gW ⟨gL,by rw[hL];exact em,cf,by rw[aV,List.append_assoc],fun x hx=>bW x (List.mem_of_mem_drop hx)⟩;have cJ:O.length+L.2.length<=100000000:=by
    have:=cC.out;rw[aV]at this;simp only[List.length_append]at this;omega
   have dn:aQ (L.1.wait=p'.wait):=gW (by rw[hL];rfl);have dp:aQ (∀V,gZ V h X 32->V.rangeAt h 6 [af Ap pn pc,ae aj (kk:Int)]):=gW fun V hx i v hv=>by
    rw[hx.cell,ca];rcases i with _|_|i
    ·simpa using hv
    ·simpa using hv
    ·simp at hv
   obtain⟨A9,hA9⟩:∃A9,(if c7=mN then A7 else A7.map (·.add mN))=A9:=⟨_,rfl⟩;have RS:∀V:aq,(Instr.sliceAt 22 (af A7 Wn c7) (some (ae aj (mN:Int))) none none).run prog V=.ok (af A9 (Wn-mN) (c7-mN)) V:=fun V=>ud A7 A9 Wn c7 mN cE hA9 V
   have dq:Wn<=c7:=by have:=HI.out.wt.2.2.1;omega
   have dG:mN<=c7:=by omega
   have dH:(mN:Int)<=(c7:Int):=by omega
   have dr:=gW hA9;have cK:=gW bE;have dt:=gW ca;have du:=gW cJ;have cL:=gW hW;have cM:=gW hO
   clear g em hN aV bW bu bZ b7 a7 a9 br cF bB b8 b9 ca bC t1 t2 cb bD bE bQ bF bG hL cG cH bV bX cI bH cf cg gL cJ hA9 hX bP hW hO dq;go_wp2_with (first
    |(refine aE rfl _ _ rfl h rfl _ X (0,0) _ aX.out underlying32 rfl (by rw[b6.out];exact iF) ?_)
    |fail)
   refine cK.out.mono ?_;rintro e w2 ⟨A2,t,c2,rfl,ht,ch⟩;have cN:=gW ht;have aY:=gW ch;have bm:=gW (aX.out.below ch aX.out.lt)
   clear ht ch cm;go_wp2_with fail
   refine DW 18 16 _ rfl rfl 47 rfl (nM [fun v _=>v=ah X,fun v _=>v=ag (some ⟨h,6,none⟩),fun v _=>v=ah #[af Ap pn pc,ae aj (kk:Int)],fun v _=>v=ag (some ⟨h,6,none⟩),fun v _=>v=ag (some ⟨h,7,none⟩),fun v _=>v=ae aj (kk:Int),fun v _=>v=af A7 mN c7,fun v _=>v=af A2 t c2,fun v _=>v=ae .u8 (BK:Int),fun v _=>v=af A7 mN c7,fun v _=>v=af A2 t c2,fun v W=>∃A' n' c',v=ah #[af A' n' c',ae aj (E1.2:Int)]/\n'=E1.1.length/\ib W W.heap.size A' n' c' (hH E1.1),fun v _=>v=af A7 mN c7,fun v W=>∃ad av al aS A5 o5,v=.tuple #[ah (iA L.1 ad av Aw wc al aS),af A5 L.2.length o5]/\iD W W.heap.size L.1 ad av Aw wc al aS/\ib W W.heap.size A5 L.2.length o5 (hH L.2)/\mA wr.heap.size ad L.1.hist.length/\mA wr.heap.size al L.1.ie.length,fun v W=>∃ad av al aS A5 o5,v=.tuple #[ah (iA L.1 ad av Aw wc al aS),af A5 L.2.length o5]/\iD W W.heap.size L.1 ad av Aw wc al aS/\ib W W.heap.size A5 L.2.length o5 (hH L.2)/\mA wr.heap.size ad L.1.hist.length/\mA wr.heap.size al L.1.ie.length,fun v W=>∃ad av al aS,v=ah (iA L.1 ad av Aw wc al aS)/\iD W W.heap.size L.1 ad av Aw wc al aS/\mA wr.heap.size ad L.1.hist.length/\mA wr.heap.size al L.1.ie.length,fun v W=>∃A5 o5,v=af A5 L.2.length o5/\ib W W.heap.size A5 L.2.length o5 (hH L.2),fun v W=>∃gq,v=ag (some ⟨gq,0,none⟩)/\gZ W gq Z 32/\w2.heap.size<=gq]) w2 ix (by kernel_rfl) (by kernel_rfl) (fun _ _ _ _ h=>h) (fun aa wv hb ha hS=>by have hs:=hS 14 31 (by kernel_rfl) rfl;obtain⟨a1,a2,a3,a4,a5,a6,e1,r1,r2,n1,n2⟩:=hs.here;exact⟨_,DU _ _ rfl _ _ e1 (fun w=>by go_simp),fun W hW=>⟨_,_,rfl,(r2.below hW gY).more hW.size⟩⟩) ?_ ?_
   case refine_1=>
    simp only[List.take_succ_cons,List.take_zero];refine ia.cons (fun aa wv hb ha hS Kk Qq hK=>by have hx:=bm.out.below hb bm.out.lt;exact nN (ic rfl) _ _ rfl h 0 ((ha 2 (by kernel_rfl)).trans rfl) X.toList _ (p9 hx) underlying32 rfl (by rw[Array.length_toList,b6.out];exact iF) (ij rfl) hK) ?_;refine ia.cons (fun aa wv hb ha hS Kk Qq hK=>iL (ic rfl) _ _ _ rfl _ (ag (some ⟨h,6,none⟩)) ((ha 2 (by kernel_rfl)).trans rfl) (by go_simp) (ij rfl) hK) ?_;refine ia.cons (fun aa wv hb ha hS Kk Qq hK=>by have hx:=bm.out.below hb bm.out.lt;exact nN (ic rfl) _ _ rfl h 6 (hS 1 33 (by kernel_rfl) rfl).here [af Ap pn pc,ae aj (kk:Int)] _ (dp.out wv hx) underlying30 rfl (ou _ _) (ij rfl) hK) ?_;refine ia.cons (fun aa wv hb ha hS Kk Qq hK=>iL (ic rfl) _ _ _ rfl _ (ag (some ⟨h,6,none⟩)) ((ha 2 (by kernel_rfl)).trans rfl) (by go_simp) (ij rfl) hK) ?_;refine ia.cons (fun aa wv hb ha hS Kk Qq hK=>iL (ic rfl) _ _ _ rfl _ (ag (some ⟨h,7,none⟩)) (hS 3 35 (by kernel_rfl) rfl).here (by go_simp) (ij rfl) hK) ?_;refine ia.cons (fun aa wv hb ha hS Kk Qq hK=>lu (ic rfl) _ _ rfl _ (ae aj (kk:Int)) (hS 4 36 (by kernel_rfl) rfl).here (by have hc:wv.cell? ⟨h,7,none⟩=some (ae aj (kk:Int)):=by {rw[(bm.out.below hb bm.out.lt).cell,dt.out];rfl};go_simp) (ij rfl) hK) ?_;refine ia.cons (fun aa wv hb ha hS Kk Qq hK=>iS (ic rfl) _ rfl (ij ((ha 8 (by kernel_rfl)).trans rfl)) hK) ?_;refine ia.cons (fun aa wv hb ha hS Kk Qq hK=>iS (ic rfl) _ rfl (ij ((ha 9 (by kernel_rfl)).trans rfl)) hK) ?_;refine ia.cons (fun aa wv hb ha hS Kk Qq hK=>mq (ic rfl) 57 _ _ rfl (enters_of func57 (by kernel_rfl) rfl) #[ae aj (kk:Int),af A7 mN c7,af A2 t c2] (by simp[(show aa.eval (.tmp 37)=ae aj (kk:Int)from(hS 5 37 (by kernel_rfl) rfl).here),(show aa.eval (.tmp 38)=af A7 mN c7 from(hS 6 38 (by kernel_rfl) rfl).here),(show aa.eval (.tmp 39)=af A2 t c2 from(hS 7 39 (by kernel_rfl) rfl).here)]) (SH.out wv (aY.out.trans (hb.mono aY.out.size)) ((cN.out.below hb gY).more hb.size)) (fun ee w' ⟨h1,h2⟩=>⟨_,h1,h2,ij rfl⟩) hK) ?_;refine ia.cons (fun aa wv hb ha hS Kk Qq hK=>iS (ic rfl) _ rfl (ij ((ha 8 (by kernel_rfl)).trans rfl)) hK) ?_;refine ia.cons (fun aa wv hb ha hS Kk Qq hK=>iS (ic rfl) _ rfl (ij ((ha 9 (by kernel_rfl)).trans rfl)) hK) ?_;refine ia.cons (fun aa wv hb ha hS Kk Qq hK=>mq (ic rfl) 56 _ _ rfl (enters_of func56 (by kernel_rfl) rfl) #[ah #[af Ap pn pc,ae aj (kk:Int)],ae .u8 (BK:Int),af A7 mN c7,af A2 t c2,ai false] (by simp[(show aa.eval (.tmp 34)=ah #[af Ap pn pc,ae aj (kk:Int)]from(hS 2 34 (by kernel_rfl) rfl).here),(show aa.eval (.tmp 40)=ae .u8 (BK:Int)from(hS 8 40 (by kernel_rfl) rfl).here),(show aa.eval (.tmp 41)=af A7 mN c7 from(hS 9 41 (by kernel_rfl) rfl).here),(show aa.eval (.tmp 42)=af A2 t c2 from(hS 10 42 (by kernel_rfl) rfl).here),(show aa.eval (.const (ai false))=ai false from rfl)]) (PU.out wv (aY.out.trans (hb.mono aY.out.size)) A2 t c2 ((cN.out.below hb gY).more hb.size)) (fun ee w' ⟨A',n',c',h1,h2,h3,h4⟩=>⟨_,h1,h4,fun W hW=>⟨_,_,_,rfl,h2,(h3.below hW gY).more hW.size⟩⟩) hK) ?_;refine ia.cons (fun aa wv hb ha hS Kk Qq hK=>iS (ic rfl) _ rfl (ij ((ha 8 (by kernel_rfl)).trans rfl)) hK) ?_;refine ia.cons (fun aa wv hb ha hS Kk Qq hK=>by obtain⟨A',n',c',e1,e2,r1⟩:=(hS 11 43 (by kernel_rfl) rfl).here;exact mq (ic rfl) 55 _ _ rfl (enters_of func55 (by kernel_rfl) rfl) #[ah X,ah #[af A' n' c',ae aj (E1.2:Int)],af A7 mN c7] (by simp[e1,(show aa.eval (.tmp 32)=ah X from(hS 0 32 (by kernel_rfl) rfl).here),(show aa.eval (.tmp 44)=af A7 mN c7 from(hS 12 44 (by kernel_rfl) rfl).here)]) (LF.out wv (aY.out.trans (hb.mono aY.out.size)) A' n' c' e2 r1) (fun ee w' ⟨a1,a2,a3,a4,a5,a6,h1,h2,h3,h4,h5,h6⟩=>⟨_,h1,h4,fun W hW=>⟨_,_,_,_,_,_,rfl,h2.on hW,(h3.below hW gY).more hW.size,h5,h6⟩⟩) hK) ?_;refine ia.cons (fun aa wv hb ha hS Kk Qq hK=>iS (ic rfl) _ rfl (hS 13 45 (by kernel_rfl) rfl) hK) ?_
    refine ia.cons (fun aa wv hb ha hS Kk Qq hK=>by have hs:=hS 14 31 (by kernel_rfl) rfl;obtain⟨a1,a2,a3,a4,a5,a6,e1,r1,r2,n1,n2⟩:=hs.here;exact rz (ic rfl) _ _ rfl _ _ e1 (by go_simp) (fun W hW=>⟨_,_,_,_,rfl,r1.on hW,n1,n2⟩) hK) ?_;refine ia.cons (fun aa wv hb ha hS Kk Qq hK=>by have hs:=hS 14 31 (by kernel_rfl) rfl;obtain⟨a1,a2,a3,a4,a5,a6,e1,r1,r2,n1,n2⟩:=hs.here;exact rz (ic rfl) _ _ rfl _ _ e1 (by go_simp) (fun W hW=>⟨_,_,rfl,(r2.below hW gY).more hW.size⟩) hK) ?_;refine ia.cons (fun aa wv hb ha hS Kk Qq hK=>by have dI:=hz;exact yA (w':=wv.alloc (ak Z 32)) (ic rfl) (ag (some ⟨wv.heap.size,0,none⟩)) (by go_simp) (ix.alloc gY _) (fun W hW=>⟨_,rfl,(gZ.new wv Z 32).below hW (by simp),hb.size⟩) hK) ?_;exact ia.nil
   intro vals w5 cO hv;obtain⟨ad,av,al,aS,cj,cP,n1,n2⟩:=(hv 15 46 rfl).here;obtain⟨A5,o5,cQ,cR⟩:=(hv 16 47 rfl).here;obtain⟨gq,cS,bq,cT⟩:=(hv 17 10 rfl).here;obtain⟨Y0,bI⟩:=gX (iA L.1 ad av Aw wc al aS);have bJ:=aY.out.trans (cO.mono aY.out.size);have cU:wr.heap.size<=gq:=Nat.le_trans aY.out.size cT;obtain⟨A8,c8,w8,bk,I8⟩:=HI.out.step bJ cU bq cB.out cP cR n1 n2 dn.out bI du.out (D:=mN) (by rw[<-cL.out];exact cE) dr.out;rw[<-bI]at cj;obtain⟨W6,bK⟩:=gX (w5.setRow gq Y0);have q6:gZ W6 gq Y0 32:=by rw[bK];exact bq.row Y0
   have cV:h≠gq:=by have:=aX.out.lt;omega
   have x6:gZ W6 h X 32:=by rw[bK];exact(aX.out.below bJ aX.out.lt).ub cV _
   rw[<-bK]at bk;obtain⟨W7,ck⟩:=gX (W6.setRow h Y0);rw[<-ck,<-cM.out]at bk;have a8:aQ (Y0.size=9):=gW (by rw[bI];rfl);have bY:aQ (Y0.all (·.oneCell')=true):=gW (by rw[bI];exact kW ..);have dv:=gW I8;have cW:=gW bk;have dw:=gW bK;have dx:=gW ck;have dy:=gW q6;have dz:=gW x6;have dA:=gW bq
   clear cO hv cP n1 n2 cR bq cT bI bJ cU I8 bk bK ck q6 cV x6;simp only[List.take_succ_cons,List.take_zero,List.drop_succ_cons,List.drop_zero,List.map_cons,List.map_nil,P5,Act.put,List.setIfInBounds_toArray,List.set_cons_zero,List.set_cons_succ,cj,cQ,cS];clear cj cQ cS;go_wp2_with (first
    |(refine aC rfl _ _ _ rfl rfl gq Y0 rfl rfl 32 Z dA.out (by rw[a8.out];exact iF) (by rw[cA.out,a8.out]) bY.out ?_;rw[<-dw.out])
    |(refine aE rfl _ _ rfl gq rfl _ Y0 (0,0) _ dy.out underlying32 rfl (by rw[a8.out];exact iF) ?_)
    |(refine aC rfl _ _ _ rfl rfl h Y0 rfl rfl 32 X dz.out (by rw[a8.out];exact iF) (by rw[b6.out,a8.out]) bY.out ?_;rw[<-dx.out])
    |(at_builtin;refine wpList_append_run rfl (.tmp 49) (.tmp 50) 22 rfl (af Ao On oc) (af A5 L.2.length o5) (af A8 (On+L.2.length) c8) w8 rfl rfl cW.out ?_)
    |fail)
   go_roundw
   case rel=>exact⟨N',Wn-mN,On+L.2.length,L.1,W.drop mN,O++L.2,ad,av,Aw,wc,al,aS,A9,c7-mN,A8,c8,by omega,rfl,rfl,gW ⟨by rw[List.length_drop,<-cL.out],by rw[List.length_append,<-cM.out]⟩,dv,dm⟩
   case measure=>simp[QD];omega
  ·have hle:¬(mN:Int)<=(Wn:Int):=by omega
   obtain⟨hW,hO⟩:=HL.out;obtain⟨g,em,hN,aV,bW⟩:=HJ.out;rw[OY (by omega),List.append_nil]at aV;have bR:=HI.out.wt;rw[<-hW]at bR;obtain⟨bd,bf,bg,bL,bM,aT,_⟩:=qo wr wr.heap.size A7 Wn c7 (hH W) bR.1 (by omega) 22 bR.2.1;have cX:=ib.iI bM (kH bW);have bN:=aX.out.below aT aX.out.lt;have cY:=HI.out.zb.below aT HI.out.zb.lt;have c5:bg.cell? ⟨h,5,none⟩=some (af Aw p'.wait.length wc):=by rw[bN.cell,hX];rfl
   have f5:bg.frozen? ⟨h,5,none⟩=false:=bN.free;obtain⟨Y1,bp⟩:=gX (iA R.1 Ah hc bd bf Ap pc);obtain⟨cl,aU⟩:=gX (bg.setCell ⟨h,5,none⟩ (af bd Wn bf));have cZ:gZ cl h Y1 32:=by
    have a:=bN.set 5 (af bd Wn bf);rw[aU,bp,aV,hW];rw[hX,hW]at a;exact a
   have bS:gZ cl (h+1) Z 32:=by rw[aU];exact cY.other (by show h+1≠h;omega) _
   obtain⟨aZ,aW⟩:=gX (cl.setRow (h+1) Y1);have HU:aQ (gZ aZ (h+1) Y1 32):=gW (by rw[aW];exact bS.row Y1);have bl:aQ (Y1.size=9):=gW (by rw[bp];rfl);have c9:aQ (Y1.all (·.oneCell')=true):=gW (by rw[bp];exact kW ..);have nY:l5 Y1:=by rw[bp];exact qa _ _ _ _ _ _ _
   have tr:∀(A:Option au) (n c:Nat) (f:Nat->Nat),ib bg bg.heap.size A n c f->ib aZ aZ.heap.size A n c f:=fun A n c f r=>by
    rw[aW,size_setRow,aU,vW];have a2:=r.qG bN dk.out 5 (af bd Wn bf);rw[<-aU]at a2⊢;exact a2.rC bS cB.out Y1
   have bO:=HI.out.ro.on aT;have da:aQ (iD aZ aZ.heap.size R.1 Ah hc bd bf Ap pc):=gW (by
    rw[aV];exact⟨tr _ _ _ _ bO.hist,by have:=tr _ _ _ _ cX;rw[hW]at this;exact this,tr _ _ _ _ bO.ie⟩)
   have rO:=(ib.iI HI.out.own (kH HI.out.bo)).below aT gY;have dB:aQ (ib aZ aZ.heap.size Ao On oc (hH R.2)):=gW (by
    rw[aV,hO];exact tr _ _ _ _ (rO.more aT.size))
   have db:aQ (aZ.ownsRow h 5 1 (af Ao On oc) On (iw On (hH R.2))):=gW (by
    have dC:=qz HI.out.own aT;rw[aV,hO];refine sR (O0 dC fun k hk=>?_) (by omega:h<=h+2);rw[aW,aL _ _ _ _ (by omega),aU];exact Below.heap_setCell bg _ _ k (by show k≠h;omega))
   have cn:aQ (On=R.2.length):=gW (by rw[aV];exact hO);have dD:aQ (aR h w aZ):=gW (by
    rw[aW,aU];exact mf (kh (HI.out.ql.trans (aT.mono (by have:=aX.out.lt;omega))) gY _ _) (by omega) _)
   have cp:=gW bL;have dc:=gW cZ;have dd:=gW bS;have de:=gW aU;have df:=gW aW;have dg:=gW bp
   clear g em hN aV bW bR bL bM aT cX bN cY bp aU cZ bS aW nY tr bO rO hW hO hX bP;go_wp2_with (first
    |(rw[<-de.out])
    |(at_builtin;refine wpList_append_run rfl (.const (af none 0 0)) (.tmp 56) 22 rfl (af none 0 0) (af A7 Wn c7) (af bd Wn bf) bg rfl rfl cp.out ?_)
    |(refine aE rfl _ _ rfl h rfl _ Y1 (0,0) _ dc.out underlying32 rfl (by rw[bl.out];exact iF) ?_)
    |(refine aC rfl _ _ _ rfl rfl (h+1) Y1 rfl rfl 32 Z dd.out (by rw[bl.out];exact iF) (by rw[cA.out,bl.out]) c9.out ?_;rw[<-df.out])
    |fail)
   refine aK (sk rfl _ _ (h+1) Y1 bl.out rfl HU.out) rfl ?_;refine⟨Ah,hc,bd,bf,Ap,pc,Ao,oc,by rw[dg.out,<-cn.out];rfl,da.out,by rw[<-cn.out];exact dB.out,by rw[<-HH.out];exact dD.out,by rw[<-HH.out,<-cn.out];exact db.out⟩
theorem O5(w:aq)(p:iz)(Ah:Option au)(hc:Nat)(Aw:Option au)(wc:Nat)(Ap:Option au)(pc:Nat)(hp:iD w w.heap.size p Ah hc Aw wc Ap pc)(g:kD p)(A:Option au)(c:Nat)(b:List Nat)(rb:ib w w.heap.size A b.length c (hH b))(hb:b.length<=200000):
  aw prog 38 #[ah (iA p Ah hc Aw wc Ap pc),af A b.length c] w fun e w'=>∃ad al av aS aT aU Ao oc,e=ao (.tuple #[ah (iA (jB p b).1 ad al av aS aT aU),af Ao (jB p b).2.length oc])/\
   iD w' w'.heap.size (jB p b).1 ad al av aS aT aU/\ib w' w'.heap.size Ao (jB p b).2.length oc (hH (jB p b).2)/\aR w.heap.size w w':=
 (FZ w p Ah hc Aw wc Ap pc hp g A c b rb hb).mono fun _ _ ⟨a1,a2,a3,a4,a5,a6,a7,a8,h1,h2,h3,h4,_⟩=>⟨a1,a2,a3,a4,a5,a6,a7,a8,h1,h2,h3,h4⟩
theorem O6(w:aq)(p:iz)(Ah:Option au)(hc:Nat)(Aw:Option au)(wc:Nat)(Ap:Option au)(pc:Nat)(hp:iD w w.heap.size p Ah hc Aw wc Ap pc)(A:Option au)(c:Nat)(b:List Nat)(rb:ib w w.heap.size A b.length c (hH b))(hb:b.length<=100000):
  aw prog 20 #[ah (iA p Ah hc Aw wc Ap pc),af A b.length c] w fun e w'=>DX w w' e (pj (ox p) (jB p b)) (ox p):=by
 obtain⟨h,hh⟩:=gX (w.heap.size)
 obtain⟨X,hX⟩:=gX (iA p Ah hc Aw wc Ap pc)
 rw[<-hX]
 obtain⟨Z,hZ⟩:=gX (iA (iR 0 0 0 false) none 0 none 0 none 0)
 have hz:=(zero_of_info oP).1
 have a9:=vO
 rw[<-hZ]at hz a9
 obtain⟨W1,aT⟩:=gX ((w.alloc (ak X 32)).alloc (ak Z 32))
 have b1:aR h w W1:=by rw[aT,hh];exact(ix.alloc gY _).alloc (by simp) _
 have x1:gZ W1 h X 32:=by rw[aT,hh];exact(gZ.new w _ _).old _
 have z1:gZ W1 (h+1) Z 32:=by
  rw[aT,hh];have:=gZ.new (w.alloc (ak X 32)) Z 32
  rwa[World.size_alloc]at this
 have a2:h+1<W1.heap.size:=z1.lt
 have av:=JH W1 p Ah hc Aw wc Ap pc (hp.on (hh▸b1))
 rw[<-hX]at av
 obtain⟨E,hE⟩:=gX (ox p)
 rw[<-hE]at av⊢
 obtain⟨bn,bd⟩:=gX (b.length)
 have bS:=gW bd
 have bT:aQ (∀V,aR w.heap.size w V->ib V V.heap.size A b.length c (hH b)):=gW fun V hV=>(rb.below hV gY).more hV.size
 have bU:=gW hb
 rw[<-bd]at hb⊢
 clear bd rb
 have a3:=gW av;have bz:=gW aT;have HH:=gW hh;have bA:=gW b1;have bf:=gW x1;have bC:=gW z1;have bg:=gW a2;have bV:=gW hX;have bj:aQ (X.size=9):=gW (by rw[hX];rfl);have aY:aQ (Z.size=9):=gW (by rw[hZ];rfl);have bW:=gW hZ;have bX:aQ (Z.all (·.oneCell')=true):=gW (by rw[hZ];exact kW ..);have bY:aQ (l5 Z):=gW (by rw[hZ];exact qa _ _ _ _ _ _ _)
 have HP:=gW hp;have HE:=gW hE;have bZ:=gW a9
 clear av aT hh b1 x1 z1 a2 hX hZ hp hE a9
 by_cases q0:E=0
 ·have dq:(E !=0)=false:=by simpa using q0
  have b0:(E==0)=true:=by simpa using q0
  have cg:¬(131072:Int)<(bn:Int):=by omega
  have g:kD p:=Jp (by rw[<-HE.out];exact q0) (kE HP.out.hist) (kE HP.out.wait) (kE HP.out.ie);have bD:=lr g.ks;have hlen:p.hist.length<=1000000/\p.wait.length<=1000000/\p.ie.length<=140737488355328:=by
   have h1:=g.hist;have h2:=g.wait;have h3:=g.len;have h4:=g.k7;have h5:=g.k0
   exact⟨by omega,by omega,by omega⟩
  have HG:=gW g;have bE:=gW hlen
  have aU:aQ (pj E (jB p b)=jB p b):=gW (by unfold pj;rw[if_pos q0]);have b2:=gW q0;clear g bD hlen q0;go_enter func20,ntmps20
  go_wp2_with (first
   |(rw[<-bz.out,<-HH.out])
   |(refine aE rfl _ _ rfl h rfl _ X (0,0) _ bf.out underlying32 rfl (by rw[bj.out];exact iF) ?_)
   |fail)
  refine a3.out.mono ?_;rintro e w2 ⟨rfl,al⟩;have bF:=bg.out;have bk:=gW (bA.out.trans (al.mono (by omega)));have b3:=gW (bf.out.below al (by omega));have aS:=gW (bC.out.below al bF);have bG:iD w2 w2.heap.size p Ah hc Aw wc Ap pc:=by have:=bk.out;rw[HH.out]at this;exact HP.out.on this
  have bl:=Dv w2 p Ah hc Aw wc Ap pc bG bE.out;rw[<-bV.out]at bl;have b4:=gW bl;clear bG bl bF al;go_wp2_with (first
   |(refine aE rfl _ _ rfl h rfl _ X (0,0) _ b3.out underlying32 rfl (by rw[bj.out];exact iF) ?_)
   |fail)
  refine b4.out.mono ?_;rintro e w3 ⟨A1,k1,A2,k2,A3,k3,rfl,r3,aZ⟩;have a4:aR w.heap.size w w3:=by rw[<-HH.out];exact bk.out.trans (aZ.mono (by have:=aS.out.lt;omega))
  have bm:=O5 w3 p A1 k1 A2 k2 A3 k3 r3 HG.out A c b (bT.out w3 a4) (by have:=bU.out;omega);rw[<-bS.out]at bm;have bp:=gW (aS.out.below aZ aS.out.lt);have b5:=gW (bk.out.trans (aZ.mono (by have:=aS.out.lt;omega)));have b6:=gW bm;clear bm r3 aZ a4;go_wp2_with fail
  refine b6.out.mono ?_;rintro e w8 ⟨bH,bI,bJ,bK,bL,bM,Ao,oc,rfl,bN,bO,bq⟩;have z8:=bp.out.below bq bp.out.lt;have a5:=b5.out.trans (bq.mono (by have:=bp.out.lt;omega));have a6:=z8.lt;obtain⟨Y0,aV⟩:=gX (iA (jB p b).1 bH bI bJ bK bL bM);obtain⟨lo,br⟩:=gX ((jB p b).2.length);obtain⟨w9,a1⟩:=gX ((w8.alloc (ak Z 32)).setRow w8.heap.size Y0);have q9:gZ w9 w8.heap.size Y0 32:=by rw[a1];exact(gZ.new w8 Z _).row Y0
  have bB:aR w8.heap.size w8 w9:=by rw[a1];exact mf (ix.alloc gY _) gY _
  have zB:=z8.below bB a6;obtain⟨wC,aW⟩:=gX (w9.setRow (h+1) Y0);have bt:aQ (gZ wC (h+1) Y0 32):=gW (by rw[aW];exact zB.row Y0);have bu:aQ (aR h w wC):=gW (by rw[aW];exact mf (a5.trans (bB.mono (by omega))) (by omega) _);have b7:aQ (∀(A:Option au) (n c:Nat) (f:Nat->Nat),ib w8 w8.heap.size A n c f->ib wC wC.heap.size A n c f):=gW fun A n c f r=>by
   rw[aW,size_setRow];exact((r.below bB gY).more bB.size).rC zB bY.out Y0
  have ad:aQ (Y0.size=9):=gW (by rw[aV];rfl);have a7:aQ (Y0.all (·.oneCell')=true):=gW (by rw[aV];exact kW ..);have b8:=gW q9;have b9:=gW zB;have ca:=gW a1;have cb:=gW aW;have aX:=gW bN;have bP:=gW bO;have bQ:=gW aV;have cf:=gW br
  have bR:=gW (gZ.new w8 Z 32);rw[<-aV,<-br];clear a1 aW q9 bB z8 zB bq a5 bN bO aV br a6;go_wp2_with (first
   |(refine aC rfl _ _ _ rfl rfl w8.heap.size Y0 rfl rfl 32 Z bR.out (by rw[ad.out];exact iF) (by rw[aY.out,ad.out]) a7.out ?_;rw[<-ca.out])
   |(refine aE rfl _ _ rfl w8.heap.size rfl _ Y0 (0,0) _ b8.out underlying32 rfl (by rw[ad.out];exact iF) ?_)
   |(refine aC rfl _ _ _ rfl rfl (h+1) Y0 rfl rfl 32 Z b9.out (by rw[ad.out];exact iF) (by rw[aY.out,ad.out]) a7.out ?_;rw[<-cb.out]))
  refine aK (rD rfl _ _ (h+1) Y0 ad.out rfl bt.out) rfl ?_;rw[aU.out];have k:=b7.out;exact⟨bH,bI,bJ,bK,bL,bM,Ao,oc,by rw[bQ.out,cf.out,b2.out];rfl,⟨k _ _ _ _ aX.out.hist,k _ _ _ _ aX.out.wait,k _ _ _ _ aX.out.ie⟩,k _ _ _ _ bP.out,by rw[<-HH.out];exact bu.out⟩
 ·have dq:(E !=0)=true:=by simpa using q0
  have b0:(E==0)=false:=by simpa using q0
  have aU:aQ (pj E (jB p b)=(iR 0 0 0 false,[])):=gW (by unfold pj;rw[if_neg q0]);clear q0;go_enter func20,ntmps20
  go_wp2_with (first
   |(rw[<-bz.out,<-HH.out])
   |(refine aE rfl _ _ rfl h rfl _ X (0,0) _ bf.out underlying32 rfl (by rw[bj.out];exact iF) ?_)
   |fail)
  refine a3.out.mono ?_;rintro e w2 ⟨rfl,al⟩;have z2:=bC.out.below al bg.out;have a8:=bA.out.trans (al.mono (by have:=bg.out;omega));obtain⟨U,hU⟩:=gX (w2.setRow (h+1) Z);have bt:aQ (gZ U (h+1) Z 32):=gW (by rw[hU];exact z2.row Z);have bu:aQ (aR h w U):=gW (by rw[hU];exact mf a8 (by omega) _);have HU:=gW hU;have aS:=gW z2
  clear hU al a8 z2;go_wp2_with (first
   |(refine aD rfl 32 #[] rfl (some 21) rfl Z ?_ ?_;focus(simpa[Act.eval]using bZ.out))
   |(refine aC rfl _ _ _ rfl rfl (h+1) Z rfl rfl 32 Z aS.out (by rw[aY.out];exact iF) rfl bX.out ?_;rw[<-HU.out]))
  refine aK (rD rfl _ _ (h+1) Z aY.out rfl bt.out) rfl ?_;rw[aU.out];exact⟨none,0,none,0,none,0,none,0,by rw[bW.out];rfl,Dq _ _,ib.nil _ _ _ pF,by rw[<-HH.out];exact bu.out⟩
theorem O7(w:aq)(s ch m:Int)(z:Bool)(A:Option au)(c:Nat)(b:List Nat)(rb:ib w w.heap.size A b.length c (hH b))(hb:b.length<=100000):
  aw prog 21 #[ah #[ae aj s,ae aj ch,ae aj m,ai z],af A b.length c] w fun e w'=>∃Ao on oc,e=ao (.tuple #[af Ao on oc,ae aj (mK s ch m b.length)])/\on=(if mK s ch m b.length=0 then qC s ch m z b else[]).length/\ib w' w'.heap.size Ao on oc (hH (if mK s ch m b.length=0 then qC s ch m z b else[]))/\aR w.heap.size w w':=by
 obtain⟨Z,hZ⟩:=gX (iA (iR 0 0 0 false) none 0 none 0 none 0)
 have hz:=(zero_of_info oP).1
 rw[<-hZ]at hz
 have a5:aQ (Z.size=9):=gW (by rw[hZ];rfl)
 obtain⟨W0,a6⟩:=gX (w.alloc (ak #[ae aj s,ae aj ch,ae aj m,ai z] 27))
 have b4:aQ (aR w.heap.size w W0):=gW (by rw[a6];exact ix.alloc gY _)
 have cA:aQ (gZ W0 w.heap.size #[ae aj s,ae aj ch,ae aj m,ai z] 27):=gW (by rw[a6];exact gZ.new w _ _)
 have cB:=gW a6
 have cC:aQ (∀V,aR w.heap.size w V->ib V V.heap.size A b.length c (hH b)):=gW fun V hV=>(rb.below hV gY).more hV.size
 have cD:=gW (kE rb)
 obtain⟨bn,bF⟩:=gX (b.length)
 have bu:∀V:aq,iD V V.heap.size (lE s ch m z) none 0 none 0 none 0:=fun V=>by unfold lE;split<;>exact⟨ib.nil _ _ _ pF,ib.nil _ _ _ pF,ib.nil _ _ _ pF⟩
 have aS:aw prog 19 #[ah #[ae aj s,ae aj ch,ae aj m,ai z]] W0 fun e w'=>∃Ah hc Aw wc Ap pc,e=ao (.tuple #[ah (iA (lE s ch m z) Ah hc Aw wc Ap pc),ae aj (oz s ch m)])/\iD w' w'.heap.size (lE s ch m z) Ah hc Aw wc Ap pc/\aR W0.heap.size W0 w':=
  (Du W0 s ch m z).mono fun e w' ⟨h1,h2⟩=>⟨none,0,none,0,none,0,h1,bu w',h2⟩
 obtain⟨p0,bG⟩:=gX (lE s ch m z)
 obtain⟨e0,a7⟩:=gX (oz s ch m)
 rw[<-bG,<-a7]at aS
 have b5:=gW aS
 have bH:(iJ s ch m=false/\e0=8)\/(iJ s ch m=true/\e0=0/\p0=iR s ch m z):=by
  cases hm:iJ s ch m with
  |false=>exact .inl ⟨rfl,by rw[a7];unfold oz;rw[hm];rfl⟩
  |true=>exact .inr ⟨rfl,by rw[a7];unfold oz;rw[hm];rfl,by rw[bG];unfold lE;rw[hm];rfl⟩
 have cE:=gW bF;have b6:=gW hb
 have cW:¬(131072:Int)<(bn:Int):=by omega
 rw[<-bF]
 obtain⟨OL,a8⟩:=gX ((if mK s ch m bn=0 then qC s ch m z b else[]))
 rw[<-a8]
 obtain⟨EA,bI⟩:=gX (mK s ch m bn)
 rw[<-bI]at a8⊢
 have b7:=gW a8;have b8:=gW bI
 clear a8 bI
 clear hZ a6 rb hb aS bu bG a7 bF
 go_enter func21,ntmps21
 go_wp2_with (first
  |(rw[<-cB.out];refine aE rfl _ _ rfl w.heap.size rfl _ _ (0,0) _ cA.out underlying27 rfl oy ?_)
  |fail)
 refine b5.out.mono ?_
 rintro e w2 ⟨bJ,bK,bL,bM,bN,bO,rfl,r2,a9⟩
 obtain⟨Y2,aT⟩:=gX (iA p0 bJ bK bL bM bN bO)
 have al:aQ (Y2.size=9):=gW (by rw[aT];rfl)
 have bz:aQ (Y2.all (·.oneCell')=true):=gW (by rw[aT];exact kW ..)
 have b9:=gW aT
 obtain⟨W2,bd⟩:=gX (iP w2 Z Y2 32)
 have cF:aQ (gZ W2 w2.heap.size Y2 32):=gW (by rw[bd];exact lq _ _ _ _)
 have bf:aR w2.heap.size w2 W2:=by rw[bd];exact kU _ _ _ _
 have bP:aR W0.heap.size W0 W2:=a9.trans (bf.mono a9.size)
 have cR:=gW bP;have cS:=gW bf;have cT:=gW a9
 have aU:aQ (aR w.heap.size w W2):=gW (b4.out.trans (bP.mono b4.out.size))
 have cG:aQ (iD W2 W2.heap.size p0 bJ bK bL bM bN bO):=gW (r2.on bf)
 have ca:=gW bd
 rw[<-aT]
 clear bd a9 r2 bf bP aT
 rcases bH with⟨ad,rfl⟩|⟨ad,rfl,rfl⟩
 ·have av:aQ (EA=8):=gW (by rw[b8.out];unfold mK;rw[if_pos ad]);have cb:aQ (OL=[]):=gW (by rw[b7.out,if_neg (by rw[av.out];decide)]);clear ad;go_wp2_with (first
   |(refine aC rfl _ _ _ rfl rfl w2.heap.size Y2 rfl rfl 32 Z (aG w2 _) (by rw[al.out];exact iF) (by rw[a5.out,al.out]) bz.out ?_;rw[show(w2.alloc (ak Z 32)).setRow w2.heap.size Y2=iP w2 Z Y2 32 from rfl,<-ca.out])
   |fail)
  go_ret2;rw[av.out,cb.out];exact⟨none,0,0,rfl,rfl,ib.nil _ _ _ pF,aU.out⟩
 ·have av:aQ (EA=0):=gW (by rw[b8.out];unfold mK;rw[if_neg (by rw[ad];decide),if_neg (by omega)]);have g0:=Dn z ad;have bg:=FZ W2 (iR s ch m z) bJ bK bL bM bN bO cG.out g0 A c b (cC.out W2 aU.out) (by have:=b6.out;omega);obtain⟨R,hR⟩:=gX (jB (iR s ch m z) b);obtain⟨n1,bj⟩:=gX (R.2.length);obtain⟨gR,_,_,_,_,Bt,wa,wb⟩:=vN g0 cD.out;have cH:R.2.length<=10000000:=by
   have h3:Bt<=Bt*(iR s ch m z).m.toNat:=Nat.le_mul_of_pos_right _ (by have:=lr ad;show 0<m.toNat;omega);have h4:=b6.out;have h5:(iR s ch m z).k.toNat=0:=rfl;have h6:(iR s ch m z).wait.length=0:=rfl;rw[hR];omega
  rw[<-hR]at bg gR;rw[<-cE.out,<-bj,<-b9.out]at bg;rw[<-bj]at cH;have cI:aQ (qC s ch m z b=R.2++(jR R.1).2):=gW (by unfold qC;rw[hR]);have cJ:=gW bg;have aV:=gW gR;have aW:=gW bj
  clear bg g0 gR wa wb hR bj ad;go_wp2_with (first
   |(refine aC rfl _ _ _ rfl rfl w2.heap.size Y2 rfl rfl 32 Z (aG w2 _) (by rw[al.out];exact iF) (by rw[a5.out,al.out]) bz.out ?_;rw[show(w2.alloc (ak Z 32)).setRow w2.heap.size Y2=iP w2 Z Y2 32 from rfl,<-ca.out])
   |(refine aE rfl _ _ rfl (w2.heap.size) rfl _ Y2 (0,0) _ cF.out underlying32 rfl (by rw[al.out];exact iF) ?_)
   |fail)
  refine cJ.out.mono ?_;rintro e w3 ⟨bQ,bR,bS,bT,bU,bV,Ao,oc,rfl,r3,cf,bk,cg⟩;have cj:=gW cg;have ck:=gW cf
  clear cg cf;obtain⟨Y3,aX⟩:=gX (iA R.1 bQ bR bS bT bU bV);have aY:aQ (Y3.size=9):=gW (by rw[aX];rfl);have cl:aQ (Y3.all (·.oneCell')=true):=gW (by rw[aX];exact kW ..);have cm:=gW aX;obtain⟨W3,bl⟩:=gX (iP w3 Z Y3 32);have cK:aQ (gZ W3 w3.heap.size Y3 32):=gW (by rw[bl];exact lq _ _ _ _);have bm:aR w3.heap.size w3 W3:=by rw[bl];exact kU _ _ _ _
  have bW:aR W2.heap.size W2 W3:=bk.trans (bm.mono bk.size);have bA:=gW bW;have cn:=gW bm;have cU:=gW bk
  have cp:aQ (aR w.heap.size w W3):=gW (aU.out.trans (bW.mono aU.out.size));have cL:aQ (iD W3 W3.heap.size R.1 bQ bR bS bT bU bV):=gW (r3.on bm);have cM:=gW bl;rw[<-aX];clear bl bk r3 bm bW aX;have aZ:=KC W3 R.1 bQ bR bS bT bU bV cL.out aV.out;obtain⟨Q,hQ⟩:=gX (jR R.1);obtain⟨n2,bp⟩:=gX (Q.2.length);have cX:n2<=10000000:=by
   obtain⟨_,_,_,h4⟩:=Js aV.out;have h5:=aV.out.k7;have h6:=aV.out.wait;have h7:=lr aV.out.ks
   rw[<-hQ,<-bp]at h4;omega
  rw[<-hQ,<-bp,<-cm.out]at aZ;have cq:=gW aZ;have HQ:=gW hQ;have cr:=gW bp
  clear aZ hQ bp;go_wp2_with (first
   |(refine aC rfl _ _ _ rfl rfl w3.heap.size Y3 rfl rfl 32 Z (aG w3 _) (by rw[aY.out];exact iF) (by rw[a5.out,aY.out]) cl.out ?_;rw[show(w3.alloc (ak Z 32)).setRow w3.heap.size Y3=iP w3 Z Y3 32 from rfl,<-cM.out])
   |(refine aE rfl _ _ rfl (w3.heap.size) rfl _ Y3 (0,0) _ cK.out underlying32 rfl (by rw[aY.out];exact iF) ?_)
   |fail)
  refine cq.out.mono ?_;rintro e w4 ⟨bX,bY,bZ,b0,Ap,pc,rfl,r4,ct,bq⟩;obtain⟨b1,a1⟩:∃x:Option au,x=none:=⟨_,rfl⟩;obtain⟨b2,a2⟩:∃x:Nat,x=0:=⟨_,rfl⟩;have r4:iD w4 w4.heap.size Q.1 bX bY b1 b2 bZ b0:=by rw[a1,a2];exact r4
  rw[<-a1,<-a2];have bB:=gW ct;clear ct a1 a2;obtain⟨Y4,a3⟩:=gX (iA Q.1 bX bY b1 b2 bZ b0);have bC:aQ (Y4.size=9):=gW (by rw[a3];rfl);have cu:aQ (Y4.all (·.oneCell')=true):=gW (by rw[a3];exact kW ..);have cV:=gW a3;obtain⟨W4,br⟩:=gX (iP w4 Z Y4 32);have cY:aQ (gZ W4 w4.heap.size Y4 32):=gW (by rw[br];exact lq _ _ _ _);have bt:aR w4.heap.size w4 W4:=by rw[br];exact kU _ _ _ _
  have b3:aR W3.heap.size W3 W4:=bq.trans (bt.mono bq.size);have cv:=gW b3;have a4:=gW bt;have cw:=gW bq
  have cN:aQ (aR w.heap.size w W4):=gW (cp.out.trans (b3.mono cp.out.size));have cZ:aQ (iD W4 W4.heap.size Q.1 bX bY b1 b2 bZ b0):=gW (r4.on bt);have cO:=gW br;rw[<-a3];clear br bq r4 bt b3 a3;have bD:=qz (qz (qz cj.out cn.out) cw.out) a4.out;have rx:=(bB.out.below a4.out gY).more a4.out.size;obtain⟨A8,c8,w8,bE,cx,cy,_,_⟩:=wG W4 W2.heap.size Ao n1 oc (hH R.2) bD Ap n2 pc (hH Q.2) (hH (R.2++Q.2)) rx
   (fun j hj=>by rw[oO];unfold cat;rw[if_pos (by have:=aW.out;omega)]) (fun j hj=>by rw[oO];unfold cat;rw[if_neg (by have:=aW.out;omega),aW.out,Nat.add_sub_cancel_left]) (by omega) (bA.out.trans (cv.out.mono bA.out.size)).size
  have cP:aQ (ib w8 w8.heap.size A8 (n1+n2) c8 (hH (R.2++Q.2))):=gW (ib.iI cx (kH fun x hx=>(List.mem_append.1 hx).elim (kE (aW.out▸ck.out) x) (kE (cr.out▸bB.out) x)));have cQ:aQ (aR w.heap.size w w8):=gW (cN.out.trans (cy.mono aU.out.size));have cz:=gW bE;clear bD rx bE cx cy;go_wp2_with (first
   |(refine aC rfl _ _ _ rfl rfl w4.heap.size Y4 rfl rfl 32 Z (aG w4 _) (by rw[bC.out];exact iF) (by rw[a5.out,bC.out]) cu.out ?_;rw[show(w4.alloc (ak Z 32)).setRow w4.heap.size Y4=iP w4 Z Y4 32 from rfl,<-cO.out])
   |(at_builtin;refine wpList_append_run rfl (.tmp 38) (.tmp 39) 22 rfl (af Ao n1 oc) (af Ap n2 pc) (af A8 (n1+n2) c8) w8 rfl rfl cz.out ?_)
   |fail)
  go_ret2;rw[av.out,b7.out,if_pos av.out,cI.out,<-HQ.out];exact⟨A8,n1+n2,c8,rfl,by rw[List.length_append,<-aW.out,<-cr.out],cP.out,cQ.out⟩
section
variable {H:Type} {enc:aB×ax->H} {P:az} {w:aq} {base:Nat} {spare:Nat->Bool} {held:Bool}
theorem F0{t:aB}{f0 f1 f2 f3 f4:Field}{fuel:Nat}{cs:List ax}{x:DataW H×List MemPlace}(ht:P.underlying t=some (.struct #[f0,f1,f2,f3,f4]))(h:DataW.trod enc P w base spare held fuel t cs=some x):
  ∃y0 y1 y2 y3 y4 n,x=(.agg [y0.1,y1.1,y2.1,y3.1,y4.1],y0.2++(y1.2++(y2.2++(y3.2++y4.2))))/\cs.length=P.cellsOf t/\DataW.trod enc P w base spare held n f0.type ((cs.drop f0.offset).take (P.cellsOf f0.type))=some y0/\
   DataW.trod enc P w base spare held n f1.type ((cs.drop f1.offset).take (P.cellsOf f1.type))=some y1/\DataW.trod enc P w base spare held n f2.type ((cs.drop f2.offset).take (P.cellsOf f2.type))=some y2/\
   DataW.trod enc P w base spare held n f3.type ((cs.drop f3.offset).take (P.cellsOf f3.type))=some y3/\DataW.trod enc P w base spare held n f4.type ((cs.drop f4.offset).take (P.cellsOf f4.type))=some y4:=by
 obtain⟨xs,n,_,rfl,hl,hlen,hf⟩:=DataW.trod_struct ht h
 match xs,hlen with
 |[y0,y1,y2,y3,y4],_=>exact⟨y0,y1,y2,y3,y4,n,by simp,hl,by simpa using hf 0 f0 rfl,by simpa using hf 1 f1 rfl,by simpa using hf 2 f2 rfl,by simpa using hf 3 f3 rfl,by simpa using hf 4 f4 rfl⟩
end
theorem O8:prog.cellsOf 32=9:=by kernel_rfl
theorem O9:prog.cellsOf 27=4:=by kernel_rfl
theorem F3:prog.cellsOf 30=2:=by kernel_rfl
theorem zN:prog.cellsOf 22=1:=by kernel_rfl
theorem F4:prog.cellsOf 4=1:=by kernel_rfl
theorem F5:prog.cellsOf 3=1:=by kernel_rfl
theorem Pa{cs:Array ax}(h:cs.size=9):∃c0 c1 c2 c3 c4 c5 c6 c7 c8,cs=#[c0,c1,c2,c3,c4,c5,c6,c7,c8]:=by
 obtain⟨l⟩:=cs;match l,h with
 |[c0,c1,c2,c3,c4,c5,c6,c7,c8],_=>exact⟨c0,c1,c2,c3,c4,c5,c6,c7,c8,rfl⟩
theorem xh{w:aq}{B n c:Nat}{A:Option au}{f:Nat->Nat}(h:ib w B A n c f):∃L:List Nat,L.length=n/\ib w B A L.length c (hH L):=by
 have hl:jm (oJ f n):=fun x hx=>by
  unfold oJ at hx;obtain⟨i,_,rfl⟩:=List.mem_map.1 hx;exact h.1.1 i
 refine⟨oJ f n,uZ _ _,?_⟩;rw[uZ];refine h.same (kH hl) fun j hj=>?_
 show f j=(oJ f n).getD j 0
 rw[BE f hj]
theorem Pb{H:Type}{enc:aB×ax->H}{W:aq}{r:Reach}{b0 base:Nat}{sp:Nat->Bool}{hd:Bool}{v:ax}{d:DataW H}{p:List MemPlace}
  (hv:Value.okWide prog W r b0 32 v) (h:DataW.Trod enc prog W base sp hd 32 v d p):
  ∃(q:iz) (Ah:Option au) (hc:Nat) (Aw:Option au) (wc:Nat) (Ap:Option au) (pc:Nat),v=ah (iA q Ah hc Aw wc Ap pc)/\iD W W.heap.size q Ah hc Aw wc Ap pc:=by
 obtain⟨cs,rfl,ad⟩:=okWide_struct underlying32 hv
 rw[O8]at ad
 obtain⟨c0,c1,c2,c3,c4,c5,c6,c7,c8,rfl⟩:=Pa ad
 obtain⟨fuel,hf⟩:=h
 obtain⟨y0,y1,y2,y3,y4,n,_,_,h0,h1,h2,h3,h4⟩:=F0 underlying32 hf
 simp only[Value.cells]at h0 h1 h2 h3 h4
 rw[show prog.cellsOf _=4 from O9]at h0
 rw[show prog.cellsOf _=1 from zN]at h1 h2
 rw[show prog.cellsOf _=2 from F3]at h3
 rw[show prog.cellsOf _=1 from F4]at h4
 replace h0:DataW.trod enc prog W base sp hd n 27 [c0,c1,c2,c3]=some y0:=h0
 replace h1:DataW.trod enc prog W base sp hd n 22 [c4]=some y1:=h1
 replace h2:DataW.trod enc prog W base sp hd n 22 [c5]=some y2:=h2
 replace h3:DataW.trod enc prog W base sp hd n 30 [c6,c7]=some y3:=h3
 replace h4:DataW.trod enc prog W base sp hd n 4 [c8]=some y4:=h4
 obtain⟨z0,z1,z2,z3,m,_,_,g0,g1,g2,g3⟩:=trod_struct4 underlying27 h0
 rw[show prog.cellsOf _=1 from F5]at g0 g1 g2
 rw[show prog.cellsOf _=1 from F4]at g3
 replace g0:DataW.trod enc prog W base sp hd m 3 [c0]=some z0:=g0
 replace g1:DataW.trod enc prog W base sp hd m 3 [c1]=some z1:=g1
 replace g2:DataW.trod enc prog W base sp hd m 3 [c2]=some z2:=g2
 replace g3:DataW.trod enc prog W base sp hd m 4 [c3]=some z3:=g3
 obtain⟨s,e0,_⟩:=DataW.trod_int underlying3 g0
 obtain⟨hh,e1,_⟩:=DataW.trod_int underlying3 g1
 obtain⟨mm,e2,_⟩:=DataW.trod_int underlying3 g2
 obtain⟨zz,e3,_⟩:=DataW.trod_bool underlying4 g3
 obtain⟨u0,u1,m2,_,_,k0,k1⟩:=trod_struct2 underlying30 h3
 rw[show prog.cellsOf _=1 from zN]at k0
 rw[show prog.cellsOf _=1 from F5]at k1
 replace k0:DataW.trod enc prog W base sp hd m2 22 [c6]=some u0:=k0
 replace k1:DataW.trod enc prog W base sp hd m2 3 [c7]=some u1:=k1
 obtain⟨kk,e7,_⟩:=DataW.trod_int underlying3 k1
 obtain⟨ov,e8,_⟩:=DataW.trod_bool underlying4 h4
 obtain⟨Ah,l1,hc,e4⟩:=slice_form underlying22 h1
 obtain⟨Aw,l2,wc,e5⟩:=slice_form underlying22 h2
 obtain⟨Ap,l3,pc,e6⟩:=slice_form underlying22 k0
 simp only[List.cons.injEq,and_true]at e0 e1 e2 e3 e4 e5 e6 e7 e8
 subst e0;subst e1;subst e2;subst e3;subst e4;subst e5;subst e6;subst e7;subst e8
 obtain⟨f1,r1⟩:=vm (d:=y1.1) (p:=y1.2) ⟨n,by simpa[Value.cells]using h1⟩
 obtain⟨f2,r2⟩:=vm (d:=y2.1) (p:=y2.2) ⟨n,by simpa[Value.cells]using h2⟩
 obtain⟨f3,r3⟩:=vm (d:=u0.1) (p:=u0.2) ⟨m2,by simpa[Value.cells]using k0⟩
 obtain⟨L1,n1,q1⟩:=xh r1
 obtain⟨L2,n2,q2⟩:=xh r2
 obtain⟨L3,n3,q3⟩:=xh r3
 exact⟨⟨s,hh,mm,zz,L1,L2,L3,kk,ov⟩,Ah,hc,Aw,wc,Ap,pc,by unfold iA;rw[n1,n2,n3],q1,q2,q3⟩
end Go.Proofs.YtokpcpjnihinfaaGreat
