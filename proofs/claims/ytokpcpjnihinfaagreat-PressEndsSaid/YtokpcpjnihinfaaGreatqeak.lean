/-
  Words and walks.
-/
import Derived.Test.YtokpcpjnihinfaaGreatqeaa
import Derived.Test.YtokpcpjnihinfaaGreatqeab
import Derived.Test.YtokpcpjnihinfaaGreatqeac
import Derived.Test.YtokpcpjnihinfaaGreatqeaf
import Derived.Test.YtokpcpjnihinfaaGreatqeag
import Derived.Test.YtokpcpjnihinfaaGreatqeah
import Derived.Test.YtokpcpjnihinfaaGreatqeaj
set_option maxRecDepth 100000
set_option maxHeartbeats 16000000
namespace Go.Proofs.YtokpcpjnihinfaaGreat
open Value renaming int → ae, slice → af, pointer → ag, agg → ah, bool → ai
open IntKind renaming i64 → aj
open Obj renaming cells → ak
open Ending renaming returned → ao
open Go renaming World → aq, Addr → au, Calls → aw, Value → ax, wpList_store_rowTo → aC, wpList_buildTo → aD, wpList_load_row → aE, wpList_load_mid → aF, heap_alloc_new → aG, setRow_heap → aI, bodyPost_ret → aK, setRow_other → aL
open Go.RowKit renaming Hid → aQ, Below → aR
open _root_.Go.Proofs.Tryz
open Go.RowKit Go.ChangeShapes Go.WideShapes Go.ChangeAt Go.Joins
def ql(kind n:Nat)(r:Nat->Nat)(l:List gA):List (Nat×Nat):=if kind=0 then(List.range n).map fun i=>(r i,8)else jh (oJ kind l) (lO kind l) (oK kind l) (lP kind l) l
theorem OC(f:Nat->Nat)(k kind n:Nat)(r:Nat->Nat)(l:List gA)(last:Bool)(ad:kind<=2):
  gK f k (gN (k%8) kind n r l last)=gK (gK f k (iI k kind n l last)) (k+Pq (iI k kind n l last)) (ql kind n r l)/\Pq (gN (k%8) kind n r l last)=Pq (iI k kind n l last)+Pq (ql kind n r l):=by
 have hc:kind=0\/kind=1\/kind=2:=by omega
 rcases hc with rfl|rfl|rfl
 ·have e1:gN (k%8) 0 n r l last=[(if last then 1 else 0,1),(0,2)]++(List.replicate (jl (k%8)) (0,1)++([(n,16),(65535-n,16)]++((List.range n).map fun i=>(r i,8)))):=by
   show _++qx (k%8) n r=_
   unfold qx;rw[List.append_assoc]
  have e2:iI k 0 n l last++ql 0 n r l=[(if last then 1 else 0,1),(0,2)]++((0,jl (k%8))::([(n,16),(65535-n,16)]++((List.range n).map fun i=>(r i,8)))):=by
   have hp:(8-(k+3)%8)%8=jl (k%8):=by unfold jl;omega
   show([(if last then 1 else 0,1),(0,2)]++[(0,(8-(k+3)%8)%8),(n,16),(65535-n,16)])++((List.range n).map fun i=>(r i,8))=_
   rw[hp];rfl
  obtain⟨X,hX⟩:∃X:List (Nat×Nat),X=[(if last then 1 else 0,1),(0,2)]:=⟨_,rfl⟩;obtain⟨Y,hY⟩:∃Y:List (Nat×Nat),Y=[(n,16),(65535-n,16)]++((List.range n).map fun i=>(r i,8)):=⟨_,rfl⟩;rw[<-hX,<-hY]at e1 e2;obtain⟨h1,h2⟩:=Lj (gK f k X) (k+Pq X) (jl (k%8)) Y;rw[<-lI,<-iQ,e2,e1];constructor
  ·rw[lI f k X,lI f k X ((0,jl (k%8))::Y),h1]
  ·rw[iQ X,iQ X ((0,jl (k%8))::Y),h2]
 ·rw[<-lI,<-iQ];have e:gN (k%8) 1 n r l last=iI k 1 n l last++ql 1 n r l:=by
   show _=([(if last then 1 else 0,1),(1,2)]++[])++jh jG 288 kW 32 l
   unfold gN;rw[if_pos rfl,List.append_nil]
  rw[e];exact⟨rfl,rfl⟩
 ·rw[<-lI,<-iQ];have e:gN (k%8) 2 n r l last=iI k 2 n l last++ql 2 n r l:=by
   show _=([(if last then 1 else 0,1),(2,2)]++kM l)++jh (iP l) (nA l) (iS l) (nB l) l
   unfold gN;rw[if_neg (show¬(2:Nat)=1 by omega),if_pos rfl,List.append_assoc]
  rw[e];exact⟨rfl,rfl⟩
theorem OD(kind:Nat)(l:List gA)(al:kind=1\/kind=2)(hl:l.length<=65535)(ad:∀t∈l,gS t=true/\t.x<256):
  jP (oJ kind l) (lO kind l) 15=0/\jP (oK kind l) (lP kind l) 15=0/\256<lO kind l/\lO kind l<=288/\0<lP kind l/\lP kind l<=32/\∀t∈l,jt t<lO kind l/\(t.n≠0->kV t<lP kind l):=by
 rcases al with rfl|rfl
 ·have e1:oJ 1 l=jG:=by unfold oJ;rw[if_pos rfl]
  have e2:oK 1 l=kW:=by unfold oK;rw[if_pos rfl]
  have e3:lO 1 l=288:=by unfold lO;rw[if_pos rfl]
  have e4:lP 1 l=32:=by unfold lP;rw[if_pos rfl]
  rw[e1,e2,e3,e4];refine⟨NY,NZ,by omega,by omega,by omega,by omega,fun t ht=>?_⟩;obtain⟨h1,_,h3⟩:=lU (ad t ht).1 (ad t ht).2;exact⟨by omega,fun h=>by have:=(h3 h).2.2.2;omega⟩
 ·obtain⟨_,_,_,_,a1,a2,b1,b2,hA,hB⟩:=mB l (by omega);have e1:oJ 2 l=iP l:=by unfold oJ;rw[if_neg (show¬(2:Nat)=1 by omega),if_pos rfl]
  have e2:oK 2 l=iS l:=by unfold oK;rw[if_neg (show¬(2:Nat)=1 by omega),if_pos rfl]
  have e3:lO 2 l=nA l:=by unfold lO;rw[if_neg (show¬(2:Nat)=1 by omega),if_pos rfl]
  have e4:lP 2 l=nB l:=by unfold lP;rw[if_neg (show¬(2:Nat)=1 by omega),if_pos rfl]
  rw[e1,e2,e3,e4];refine⟨NT l (by omega),NU l (by omega),by omega,by omega,by omega,by omega,fun t ht=>?_⟩;obtain⟨h1,_,h3⟩:=lU (ad t ht).1 (ad t ht).2;exact⟨(hA _ h1 (xh ht)).1,fun h=>(hB _ (h3 h).2.2.2 (xi ht h)).1⟩
theorem OE{w w':aq}{S:Nat->Prop}{B g K n:Nat}{F r:Nat->Nat}{A A':Option au}{c c':Nat}(al:Pw F K)(h8:K%8=0)(hr:∀j,r j<256)(h:jF w S B g F (K/8) (F (K/8)) (K%8) A c)
  (ho:w'.ownsRow B 5 1 (af A' (K/8+n) c') (K/8+n) (gD (K/8+n) (qb F (K/8) n r))) (hb:aR B w w')
  (hk:∀k,k<w.heap.size->(Value.slice A (K/8) c).ownBlock≠some k->w'.heap[k]?=w.heap[k]?) (hw:∀j,(Value.slice A' (K/8+n) c').ownBlock=some j->(Value.slice A (K/8) c).ownBlock=some j\/w.heap.size<=j):
  ic (w'.setCell ⟨g,0,none⟩ (af A' (K/8+n) c')) S B g (gK F K ((List.range n).map fun i=>(r i,8))) (K+Pq ((List.range n).map fun i=>(r i,8)))/\aR B w (w'.setCell ⟨g,0,none⟩ (af A' (K/8+n) c')):=by
 have ad:=al.rp ((List.range n).map fun i=>(r i,8))
 obtain⟨q1,_,q3⟩:=h.grown ho hb hk hw
 refine⟨⟨ad,A',c',?_⟩,q3⟩
 rw[DO al h8 r hr,tB]at ad⊢
 have e1:(K+8*n)/8=K/8+n:=by omega
 have e2:(K+8*n)%8=K%8:=by omega
 have e3:qb F (K/8) n r (K/8+n)=F (K/8):=by
  have z:=al.2.2;rw[h8]at z;have e:(2:Nat)^0=1:=rfl;unfold qb;rw[if_neg (by omega),if_neg (by omega)];omega
 rw[e1,e2,e3]
 exact q1
theorem OF:Kq:=by
 intro w A n c f k kind A1 rn rc r A2 m c2 l last hp eI eJ eK ea cO eb ec cP dj;obtain⟨hm,bA,_⟩:=ec;obtain⟨E,hE⟩:=fY (qL f n k kind rn r l last);obtain⟨KK,bH⟩:=fY (tM f n k kind rn r l last);obtain⟨FF,bI⟩:=fY (tN f n k kind rn r l last);rw[<-hE,<-bH,<-bI];unfold tM at bH;unfold tN at bI;rw[<-hE]at bH bI;unfold qL at hE;have ct:∀w':aq,E≠0->aR w.heap.size w w'->Ds w w' (ao (.tuple #[ah #[af none 0 0,ae aj 0],ae aj E])) KK E FF:=fun w' h hb=>by
  have e1:KK=0:=by rw[bH,if_neg h]
  have e2:FF=fun _=>0:=by rw[bI,if_neg h]
  subst e1;subst e2;exact⟨none,0,0,rfl,rfl,gu.nil _ _ _ (fun _=>by show 0<256;omega),hb,kG.nil _ _ _⟩
 obtain⟨h,hh⟩:=fY (w.heap.size);obtain⟨W1,bM⟩:=fY ((w.alloc (ak #[af A n c,ae aj k] 30)).alloc (ak #[af none 0 0,ae aj 0] 30));have h0:W1.heap[h]?=some (ak #[af A n c,ae aj k] 30 (0,0)):=by rw[bM,hh];exact heap_alloc2_old w _ _
 have h1:W1.heap[h+1]?=some (ak #[af none 0 0,ae aj 0] 30 (0,0)):=by rw[bM,hh];exact heap_alloc2_new w _ _
 have bN:aR h w W1:=by rw[bM,hh];exact((Below.refl w.heap.size w).alloc fZ _).alloc (by simp) _
 have dk:h+1<W1.heap.size:=(Array.getElem?_eq_some_iff.1 h1).1;rw[<-hh]at hp cO bA;have cf:=fX ((hp.below bN fZ).more (show h<=W1.heap.size by omega));have bB:=fX ((cO.below bN fZ).more (show h<=W1.heap.size by omega));have bO:=fX ((bA.below bN fZ).more (show h<=W1.heap.size by omega));have ed:aQ (∀b o,0<m->A2=some ⟨b,o,none⟩->b<h):=fX fun b o h0 e=>by
  obtain⟨b',o',e',eL,_⟩:=bA.at (k:=0) (by omega);rw[e]at e';injection e' with e'
  injection e' with e1
  omega
 have bj:=fX (pr W1 A n c f k cf.out.1);have H0:=fX h0;have H1:=fX h1;have cQ:=fX bN;have bk:=fX dk;have cR:=fX bM;have HH:=fX hh
 have HE:=fX hE;have cS:=fX bH;have cT:=fX bI;have HM:=fX hm;have dm:=fX dj;have bC:=fX ct
 clear hE bH bI hm dj ct hp cO bA h0 h1 bN dk bM hh;obtain⟨b,hb⟩:=fY (jz f n k);rw[<-hb]at HE;cases b with
 |false=>
  have e8:E=8:=by rw[HE.out,if_pos rfl]
  have bP:jM f n k=8:=by unfold jM;rw[<-hb];rfl
  rw[bP]at bj;clear HE cS cT hb bP;subst e8;go_enter func66,ntmps66
  go_wp2_with (first
   |(rw[<-cR.out,<-HH.out];refine aE rfl _ _ rfl h rfl _ #[af A n c,ae aj k] (0,0) _ H0.out underlying30 rfl lq ?_)
   |fail)
  refine bj.out.mono ?_;rintro e w2 ⟨rfl,aT⟩;have dn:=fX ((aT.block (h+1) bk.out).trans H1.out);have dp:=fX (cQ.out.trans (aT.mono (by have:=bk.out;omega)));clear aT;go_wp2_with (first
   |(refine aD rfl 30 #[] rfl (some 21) rfl #[af none 0 0,ae aj 0] ?_ ?_;focus(simpa[Act.eval]using vz))
   |(refine aC rfl _ _ _ rfl rfl (h+1) #[af none 0 0,ae aj 0] rfl rfl 30 #[af none 0 0,ae aj 0] dn.out lq rfl (by simp[Value.oneCell']) ?_))
  refine aK (sU rfl _ _ (h+1) #[af none 0 0,ae aj 0] rfl rfl (aI _ _ _ _ _ _ dn.out)) rfl ?_;refine bC.out _ (by omega) ?_;rw[<-HH.out];exact ln dp.out (by omega) _
 |true=>
  obtain⟨K,rfl,dq,dr,cu⟩:=Ko cf.out.1.1 hb.symm;have bP:jM f n (K:Int)=0:=by unfold jM;rw[<-hb];rfl
  rw[bP]at bj;have he:=HE.out;rw[if_neg (by decide),Int.toNat_natCast]at he;have bQ:=cS.out;have bR:=cT.out;rw[Int.toNat_natCast]at bQ bR;have bl:=fun U hU=>zq U kind A1 rn rc A2 m c2 l ea HM.out ((bO.out.below hU fZ).more (hU:aR W1.heap.size W1 U).size) cP eb dm.out
  obtain⟨Q,hQ⟩:=fY (mc kind rn l);rw[<-hQ]at he bl;have bl:=fX bl;have dt:=fX cu;have eg:=fX dr
  clear HE cS cT hb bP cu dr;by_cases q0:Q=0
  ·subst q0;rw[if_neg (fun g=>g rfl)]at he;obtain⟨k2,n2,l2,cv⟩:=xM hQ.symm;have cU:∀t∈l,gS t=true/\t.x<256:=fun t ht=>⟨cv t ht,(dm.out t ht).1⟩
   obtain⟨bS,cg⟩:=OC (gP n f) K kind rn r l last k2;have eh:=qD (a:=K%8) (last:=last) k2 n2 bB.out.1.1 l2 cU;obtain⟨T,hT⟩:=fY (Pq (gN (K%8) kind rn r l last));obtain⟨GF,bJ⟩:=fY (gK (gP n f) K (gN (K%8) kind rn r l last));obtain⟨O,hO⟩:=fY (Pq (iI K kind rn l last));obtain⟨QF,cV⟩:=fY (gK (gP n f) K (iI K kind rn l last));rw[<-hT]at he bQ cg eh;rw[<-bJ]at bR bS;rw[<-hO]at bS cg;rw[<-cV]at bS;have eM:O<=T:=by omega
   have ch:=fX cU;have du:=fX bS;have dv:=fX cg;have HO:=fX hO;have ei:=fX cV;have cj:=fX he;have dw:=fX bQ;have dx:=fX bR
   have ej:=fX bB.out.1.1;clear cU bS cg hT bJ hO cV he bQ bR hQ cv;go_enter func66,ntmps66
   go_wp2_with (first
    |(rw[<-cR.out,<-HH.out];refine aE rfl _ _ rfl h rfl _ #[af A n c,ae aj (K:Int)] (0,0) _ H0.out underlying30 rfl lq ?_)
    |fail)
   refine bj.out.mono ?_;rintro e w2 ⟨rfl,aT⟩;have a3:=fX (bl.out w2 aT);have aU:=fX aT;clear aT bl bj;go_wp2_with fail
   refine a3.out.mono ?_;rintro e w4 ⟨rfl,bT⟩;have ad:=aU.out.trans (bT.mono aU.out.size);have dy:=(ad.block h (by have:=bk.out;omega)).trans H0.out;have cW:=(ad.block (h+1) bk.out).trans H1.out;have dz:=(cf.out.below ad fZ).more ad.size;have dA:=NI w4 A n c f K dz dq eg.out;have dB:=fX dA;have en:=fX dy;have bU:=fX cW;have dC:=fX ((bB.out.below ad fZ).more ad.size);have cx:=fX ((bO.out.below ad fZ).more ad.size)
   have aY:aQ (aR h w w4):=fX (cQ.out.trans (ad.mono (by have:=bk.out;omega)));have al:aQ (h+1<w4.heap.size):=fX (Array.getElem?_eq_some_iff.1 cW).1;clear dA dy cW ad bT dz a3 aU cf bB bO;go_wp2_with (first
    |(refine aE rfl _ _ rfl h rfl _ #[af A n c,ae aj (K:Int)] (0,0) _ en.out underlying30 rfl lq ?_)
    |fail)
   refine dB.out.mono ?_;rintro e w5 ⟨Aw,cw,rfl,cX,bm⟩;obtain⟨S,hS⟩:∃S:Nat->Prop,S=fun j=>j<w4.heap.size:=⟨_,rfl⟩
   obtain⟨W6,ck⟩:=fY (iq w5 #[af none 0 0,ae .u64 0,ae aj 0] #[af Aw (K/8) cw,ae .u64 ((gP n f (K/8):Nat):Int),ae aj ((K%8:Nat):Int)] 131);have b6:aR w5.heap.size w5 W6:=by rw[ck];exact kN _ _ _ _
   have bV:W6.heap[w5.heap.size]?=some (ak #[af Aw (K/8) cw,ae .u64 ((gP n f (K/8):Nat):Int),ae aj ((K%8:Nat):Int)] 131 (0,0)):=by rw[ck];exact kY w5 _ _ _
   have dD:ic W6 S w4.heap.size w5.heap.size (gP n f) K:=⟨dt.out,Aw,cw,⟨bm.size,by have:=b6.size;have:=bm.size;omega,by rw[hS];have:=bm.size;omega,bV,lF cX b6,fun j hj=>by rw[hS];have:=(oH cX j hj).1;omega,fun j hj=>by rw[hS]at hj;have:=b6.size;have:=bm.size;omega⟩⟩;have bD:=bm.trans (b6.mono bm.size);have dE:=zp W6 A2 m c2 l HM.out ((cx.out.below bD fZ).more bD.size) cP ch.out;have dF:aQ (∀j,j<w4.heap.size->S j):=fX fun j hj=>by rw[hS];exact hj
   have dG:=fX dE;have cY:=fX dD;have cy:=fX bD;have eo:=fX ck
   obtain⟨g,hg⟩:=fY (w5.heap.size);rw[<-hg]at cY;have HG:=fX hg;clear dE dD bD ck b6 bV cX bm dB hS hg;go_wp2_with (first
    |(refine aC rfl _ _ _ rfl rfl w5.heap.size #[af Aw (K/8) cw,ae .u64 ((gP n f (K/8):Nat):Int),ae aj ((K%8:Nat):Int)] rfl rfl 131 #[af none 0 0,ae .u64 0,ae aj 0] (aG w5 _) (qQ _ _ _) rfl (by simp[Value.oneCell']) ?_;change wpList _ _ _ _ _ (iq w5 #[af none 0 0,ae .u64 0,ae aj 0] #[af Aw (K/8) cw,ae .u64 ((gP n f (K/8):Nat):Int),ae aj ((K%8:Nat):Int)] 131);rw[<-eo.out])
    |fail)
   rw[<-HG.out];refine dG.out.mono ?_;rintro e w7 ⟨rfl,cl,cZ⟩;obtain⟨gc,cz⟩:=fY (W6.heap.size);rw[<-cz]at cl⊢;obtain⟨S7,cm⟩:∃S':Nat->Prop,S'=fun j=>S j\/(W6.heap.size<=j/\j<w7.heap.size):=⟨_,rfl⟩
   have cA:ic w7 S7 w4.heap.size g (gP n f) K:=by rw[cm];exact cY.out.grow cZ
   have cB:∀j,j<w4.heap.size->S7 j:=fun j hj=>by rw[cm];exact .inl (dF.out j hj)
   have cC:S7 gc:=by rw[cm];exact .inr ⟨by omega,cl.lt⟩
   have hop:=Fl w7 S7 w4.heap.size g (gP n f) K rn gc kind l last cA k2 n2 dq cC cl l2 ch.out (by rw[<-HO.out];omega);have cD:aR w4.heap.size w4 w7:=cy.out.trans (cZ.mono cy.out.size);have dH:=fX hop;have dI:=fX cB;have cE:=fX cD
   clear hop cB cC cA cm cl cZ cD cz dG cY dF;go_wp2_with fail
   refine dH.out.mono ?_;rintro e w8 ⟨ep,er,et,eu,rfl,bK,bL,bn,ev,dJ⟩;rw[<-HO.out,<-ei.out]at bn;have aZ:=fX bn;have a4:=fX (cE.out.trans dJ)
   have dK:=fX bK;have dL:=fX bL
   clear bn ev dJ bK bL dH cE;by_cases dM:kind=0
   ·subst dM;have av:=dv.out;have aS:=du.out;have bW:ql 0 rn r l=(List.range rn).map fun i=>(r i,8):=by unfold ql;rw[if_pos rfl]
    rw[bW]at av aS;have ew:(K+O)%8=0:=by
     have e:Pq [(0,(8-(K+3)%8)%8),(rn,16),(65535-rn,16)]=(8-(K+3)%8)%8+32:=by simp[Pq]
     have e2:Pq [((if last then 1 else 0:Nat),1),(0,2)]=3:=rfl;have e3:iI K 0 rn l last=[(if last then 1 else 0,1),(0,2)]++[(0,(8-(K+3)%8)%8),(rn,16),(65535-rn,16)]:=by unfold iI;rw[if_neg (show¬(0:Nat)=1 by omega),if_neg (show¬(0:Nat)=2 by omega)]
     rw[HO.out,e3,iQ,e,e2];omega
    obtain⟨cF,Aq,cq,a5⟩:=aZ.out;have cG:gu w8 w8.heap.size A1 rn rc r:=(dC.out.below a4.out fZ).more a4.out.size;obtain⟨A',c',w',bX,ho,dN,c7,dO⟩:=DV w8 w4.heap.size Aq ((K+O)/8) cq QF a5.own A1 rn rc r (qb QF ((K+O)/8) rn r) cG (fun j hj=>by unfold qb;rw[if_pos hj]) (fun j hj=>by unfold qb;rw[if_neg (by omega),if_pos (by omega),Nat.add_sub_cancel_left]) (by omega) a5.size;obtain⟨bY,cn⟩:=OE cF ew ej.out a5 ho dN c7 dO;rw[<-aS,Nat.add_assoc,<-av]at bY;obtain⟨z0,_,_,e0,_,_⟩:=a5.cells;have c8:=(c7 g a5.lt a5.ne).trans a5.row;have eN:w'.frozen? ⟨g,0,none⟩=false:=frozen_of_row w' g 0 _ _ c8;have dP:w'.cell? ⟨g,0,none⟩=some (af Aq ((K+O)/8) cq):=(cell_of_row w' g 0 _ _ (0,0) c8).trans rfl;obtain⟨Lq,dQ⟩:=fY ((K+O)/8);rw[<-dQ]at bX bY cn z0 dP;obtain⟨WX,c9⟩:=fY (w'.setCell ⟨g,0,none⟩ (af A' (Lq+rn) c'));rw[<-c9]at bY cn;have eO:Lq<=2000000:=by omega
    have dR:=fX bX;have bp:=fX bY;have bq:=fX (a4.out.trans cn);have ey:=fX c9
    clear bX bY cn c9 ho dN c7 dO a5 cG cF av aS bW c8 dQ aZ;go_wp2_with (first
     |(at_builtin;refine wpList_append_run rfl (.tmp 46) (.tmp 47) 22 rfl (af Aq Lq cq) (af A1 rn rc) (af A' (Lq+rn) c') w' rfl rfl dR.out ?_)
     |(rw[<-ey.out])
     |fail)
    have a6:=we WX S7 w4.heap.size g GF (K+T) bp.out (by omega);have a7:=fX a6;clear a6;go_wp2_with fail
    refine a7.out.mono ?_;rintro e ez ⟨rfl,rfl⟩;have a8:WX.drew.heap[h+1]?=some (ak #[af none 0 0,ae aj 0] 30 (0,0)):=(bq.out.block (h+1) al.out).trans bU.out;have aV:=fX a8;clear a8 a7;by_cases aW:8388608<K+T
    ·have e9:E=9:=by rw[cj.out,if_pos aW]
     have br:(8388608:Int)<(K:Int)+(T:Int):=by omega
     have bZ:decide ((8388608:Int)<(K:Int)+(T:Int))=true:=mT br;have da:=fX e9;clear e9;go_wp2_with (first
      |(refine aD rfl 30 #[] rfl (some 60) rfl #[af none 0 0,ae aj 0] ?_ ?_;focus(simpa[Act.eval]using vz))
      |(refine aC rfl _ _ _ rfl rfl (h+1) #[af none 0 0,ae aj 0] rfl rfl 30 #[af none 0 0,ae aj 0] aV.out lq rfl (by simp[Value.oneCell']) ?_))
     refine aK (sU rfl _ _ (h+1) #[af none 0 0,ae aj 0] rfl rfl (aI _ _ _ _ _ _ aV.out)) rfl ?_;have a9:=bC.out;rw[da.out]at a9⊢;refine a9 _ (by omega) ?_;rw[<-HH.out];exact ln (aY.out.trans ((bq.out.drew).mono (by have:=al.out;omega))) (by omega) _
    ·have e0:E=0:=by rw[cj.out,if_neg aW]
     have br:¬(8388608:Int)<(K:Int)+(T:Int):=by omega
     have bZ:decide ((8388608:Int)<(K:Int)+(T:Int))=false:=lW br;have bt:=fX e0;clear e0;have bu:=Fe WX.drew S7 w4.heap.size g GF (K+T) bp.out.drew (by omega);obtain⟨kt,bx⟩:=fY (K+T);rw[<-bx]at bu;have eA:(K:Int)+(T:Int)=(kt:Int):=by omega
     have b0:=fX bu;have db:=fX bx
     clear bu bx;go_wp2_with fail
     refine b0.out.mono ?_;rintro e dc ⟨A',c',L,hL,rfl,ho,aX⟩;have bd:=(aX.block (h+1) al.out).trans aV.out;have b1:∀j,(Value.slice A' L c').ownBlock=some j->j≠h+1:=fun j hj=>by have:=(oH ho j hj).1;have:=al.out;omega
     have bf:=fX bd;have b2:=fX ho;have b3:=fX (bq.out.drew.trans aX);have b4:=fX hL;have dd:=fX b1
     clear bd ho aX hL b1 b0;go_wp2_with (first
      |(refine aC rfl _ _ _ rfl rfl (h+1) #[af A' L c',ae aj (kt:Int)] rfl rfl 30 #[af none 0 0,ae aj 0] bf.out lq rfl (by simp[Value.oneCell']) ?_))
     refine aK (sU rfl _ _ (h+1) #[af A' L c',ae aj (kt:Int)] rfl rfl (aI _ _ _ _ _ _ bf.out)) rfl ?_;have ek:KK=kt:=by rw[dw.out,if_pos bt.out,db.out]
     have ef:FF=GF:=by rw[dx.out,if_pos bt.out]
     have bJ:∀j,GF j<256:=bp.out.1.1;have bg:=mq b2.out (w':=dc.setRow (h+1) #[af A' L c',ae aj (kt:Int)]) fun j hj=>aL _ _ _ _ (dd.out j hj)
     rw[ek,ef,bt.out];have hle:w.heap.size=h:=HH.out.symm;refine⟨A',c',L,b4.out,rfl,gu.gR bg bJ,?_,Fc (qC bg (by rw[hle];have:=al.out;omega))⟩;rw[hle];exact ln (aY.out.trans (b3.out.mono (by have:=al.out;omega))) (by omega) _
   ·have eP:((kind:Int)==0)=false:=by rw[beq_eq_false_iff_ne];omega
    obtain⟨ca,cb,m1,m2,n1,n3,de⟩:=OD kind l (by omega) l2 ch.out;have bW:ql kind rn r l=jh (oJ kind l) (lO kind l) (oK kind l) (lP kind l) l:=by unfold ql;rw[if_neg dM]
    have av:=dv.out;have aS:=du.out;rw[bW]at av aS;have bK:=dK.out;have bL:=dL.out;obtain⟨M,hM⟩:=fY (lO kind l);obtain⟨N,hN⟩:=fY (lP kind l);obtain⟨FA,df⟩:=fY (oJ kind l);obtain⟨FB,dg⟩:=fY (oK kind l);rw[<-hM,<-df]at bK ca;rw[<-hN,<-dg]at bL cb;rw[<-hM]at m1 m2;rw[<-hN]at n1 n3;rw[<-hM,<-hN]at de;rw[<-hM,<-hN,<-df,<-dg]at av aS;rw[<-hM,<-hN];have dS:=zu w8 ep M er FA bK (by omega) (by omega) ca;have dT:=fX dS;have dU:=fX bL;have eB:=fX ca;have dV:=fX cb;have eC:=fX de;have cH:=fX av;have dW:=fX aS
    clear dS bK bL ca cb de av aS bW hM hN df dg dK dL;have eR:∀(fn:Fn) (first cap:Array ax) (w:aq),(Instr.makeFunc fn first cap).run prog w=.ok (.func fn first cap) w:=fun _ _ _ _=>rfl
    go_wp2_with fail
    refine dT.out.mono ?_;rintro e w9 ⟨ga,eD,rfl,dX,cI,cp⟩;have cJ:=zu w9 et N eu FB ((dU.out.below cp fZ).more cp.size) (by omega) (by omega) dV.out;have cK:=fX cJ;have bE:=fX cI;have cr:=fX cp
    clear cJ cI cp dT;go_wp2_with fail
    refine cK.out.mono ?_;rintro e a1 ⟨gb,eE,rfl,eF,b5,bF⟩;have bz:aR w8.heap.size w8 a1:=cr.out.trans (bF.mono cr.out.size);obtain⟨SX,b7⟩:∃S':Nat->Prop,S'=fun j=>S7 j\/(w8.heap.size<=j/\j<a1.heap.size):=⟨_,rfl⟩
    have bG:ic a1 SX w4.heap.size g QF (K+O):=by rw[b7];exact aZ.out.grow bz
    have dh:∀j,S7 j->SX j:=fun j hj=>by rw[b7];exact .inl hj
    have a2:aR w4.heap.size w4 a1:=a4.out.trans (bz.mono a4.out.size);have b8:jL a1 a1.heap.size A2 l:=(cx.out.below a2 fZ).more a2.size;have dY:=bE.out.lt;have cL:=b5.lt;have cM:oY a1 SX ga M FA:=⟨bE.out.below bF bE.out.lt,by rw[b7];exact .inr ⟨dX,by have:=bF.size;omega⟩,eB.out⟩;have cN:oY a1 SX gb N FB:=⟨b5,by rw[b7];exact .inr ⟨by have:=cr.out.size;omega,cL⟩,dV.out⟩;have di:=Oj a1 SX w4.heap.size g QF (K+O) A2 m c2 l FA ga M eD FB gb N eE bG HM.out b8 (fun b o h0 e=>dh b (dI.out b (by have:=ed.out b o h0 e;have:=al.out;omega))) cP cM cN (by omega) (by omega) m1 ch.out eC.out (by rw[Nat.add_assoc,<-cH.out];omega);rw[<-dW.out,Nat.add_assoc,<-cH.out]at di;have dZ:=fX di;have b9:=fX a2;have eG:=fX dh
    clear di a2 dh cM cN b8 bG b7 bz bF b5 dX eF dY cL cK aZ bE cr dU;go_wp2_with fail
    refine dZ.out.mono ?_;rintro e WX ⟨rfl,t1,_,t3⟩;have bp:=fX (t1.less eG.out);have bq:=fX (b9.out.trans t3)
    clear t1 t3 dZ b9;have a6:=we WX S7 w4.heap.size g GF (K+T) bp.out (by omega);have a7:=fX a6;clear a6;go_wp2_with fail
    refine a7.out.mono ?_;rintro e ez ⟨rfl,rfl⟩;have a8:WX.drew.heap[h+1]?=some (ak #[af none 0 0,ae aj 0] 30 (0,0)):=(bq.out.block (h+1) al.out).trans bU.out;have aV:=fX a8;clear a8 a7;by_cases aW:8388608<K+T
    ·have e9:E=9:=by rw[cj.out,if_pos aW]
     have br:(8388608:Int)<(K:Int)+(T:Int):=by omega
     have bZ:decide ((8388608:Int)<(K:Int)+(T:Int))=true:=mT br;have da:=fX e9;clear e9;go_wp2_with (first
      |(refine aD rfl 30 #[] rfl (some 60) rfl #[af none 0 0,ae aj 0] ?_ ?_;focus(simpa[Act.eval]using vz))
      |(refine aC rfl _ _ _ rfl rfl (h+1) #[af none 0 0,ae aj 0] rfl rfl 30 #[af none 0 0,ae aj 0] aV.out lq rfl (by simp[Value.oneCell']) ?_))
     refine aK (sU rfl _ _ (h+1) #[af none 0 0,ae aj 0] rfl rfl (aI _ _ _ _ _ _ aV.out)) rfl ?_;have a9:=bC.out;rw[da.out]at a9⊢;refine a9 _ (by omega) ?_;rw[<-HH.out];exact ln (aY.out.trans ((bq.out.drew).mono (by have:=al.out;omega))) (by omega) _
    ·have e0:E=0:=by rw[cj.out,if_neg aW]
     have br:¬(8388608:Int)<(K:Int)+(T:Int):=by omega
     have bZ:decide ((8388608:Int)<(K:Int)+(T:Int))=false:=lW br;have bt:=fX e0;clear e0;have bu:=Fe WX.drew S7 w4.heap.size g GF (K+T) bp.out.drew (by omega);obtain⟨kt,bx⟩:=fY (K+T);rw[<-bx]at bu;have eA:(K:Int)+(T:Int)=(kt:Int):=by omega
     have b0:=fX bu;have db:=fX bx
     clear bu bx;go_wp2_with fail
     refine b0.out.mono ?_;rintro e dc ⟨A',c',L,hL,rfl,ho,aX⟩;have bd:=(aX.block (h+1) al.out).trans aV.out;have b1:∀j,(Value.slice A' L c').ownBlock=some j->j≠h+1:=fun j hj=>by have:=(oH ho j hj).1;have:=al.out;omega
     have bf:=fX bd;have b2:=fX ho;have b3:=fX (bq.out.drew.trans aX);have b4:=fX hL;have dd:=fX b1
     clear bd ho aX hL b1 b0;go_wp2_with (first
      |(refine aC rfl _ _ _ rfl rfl (h+1) #[af A' L c',ae aj (kt:Int)] rfl rfl 30 #[af none 0 0,ae aj 0] bf.out lq rfl (by simp[Value.oneCell']) ?_))
     refine aK (sU rfl _ _ (h+1) #[af A' L c',ae aj (kt:Int)] rfl rfl (aI _ _ _ _ _ _ bf.out)) rfl ?_;have ek:KK=kt:=by rw[dw.out,if_pos bt.out,db.out]
     have ef:FF=GF:=by rw[dx.out,if_pos bt.out]
     have bJ:∀j,GF j<256:=bp.out.1.1;have bg:=mq b2.out (w':=dc.setRow (h+1) #[af A' L c',ae aj (kt:Int)]) fun j hj=>aL _ _ _ _ (dd.out j hj)
     rw[ek,ef,bt.out];have hle:w.heap.size=h:=HH.out.symm;refine⟨A',c',L,b4.out,rfl,gu.gR bg bJ,?_,Fc (qC bg (by rw[hle];have:=al.out;omega))⟩;rw[hle];exact ln (aY.out.trans (b3.out.mono (by have:=al.out;omega))) (by omega) _
  ·have eQ:E=Q:=by rw[he,if_pos q0]
   have eS:(Q==0)=false:=by rw[beq_eq_false_iff_ne];exact q0
   clear he bQ bR hQ;go_enter func66,ntmps66
   go_wp2_with (first
    |(rw[<-cR.out,<-HH.out];refine aE rfl _ _ rfl h rfl _ #[af A n c,ae aj (K:Int)] (0,0) _ H0.out underlying30 rfl lq ?_)
    |fail)
   refine bj.out.mono ?_;rintro e w2 ⟨rfl,aT⟩;have a3:=fX (bl.out w2 aT);have aU:=fX aT;have eH:=fX eQ;clear aT bl bj eQ;go_wp2_with fail
   refine a3.out.mono ?_;rintro e w4 ⟨rfl,bT⟩;have ad:=aU.out.trans (bT.mono aU.out.size);have bU:=fX ((ad.block (h+1) bk.out).trans H1.out);have aY:aQ (aR h w w4):=fX (cQ.out.trans (ad.mono (by have:=bk.out;omega)));clear bT ad aU a3;go_wp2_with (first
    |(refine aD rfl 30 #[] rfl (some 29) rfl #[af none 0 0,ae aj 0] ?_ ?_;focus(simpa[Act.eval]using vz))
    |(refine aC rfl _ _ _ rfl rfl (h+1) #[af none 0 0,ae aj 0] rfl rfl 30 #[af none 0 0,ae aj 0] bU.out lq rfl (by simp[Value.oneCell']) ?_))
   refine aK (sU rfl _ _ (h+1) #[af none 0 0,ae aj 0] rfl rfl (aI _ _ _ _ _ _ bU.out)) rfl ?_;have a9:=bC.out;rw[eH.out]at a9⊢;refine a9 _ q0 ?_;rw[<-HH.out];exact ln aY.out (by omega) _
theorem Fq{p:gF}(gd:kP p):jz (gj p.gm) p.gm.length p.k=true:=by
 have hk:p.k=(p.k.toNat:Int):=by have:=gd.k0;omega
 rw[hk];exact IU gd.clean gd.len (by have:=gd.k7;omega)
theorem OG{p:gF}(gd:kP p){kind:Nat}{raw:List Nat}{l:List gA}{last:Bool}(av:kind<=2)(hr:raw.length<=65535)(hb:jo raw)(hl:l.length<=65535)(ad:∀t∈l,gS t=true/\t.x<256):
  qL (gj p.gm) p.gm.length p.k kind raw.length (gj raw) l last=0/\tM (gj p.gm) p.gm.length p.k kind raw.length (gj raw) l last=(gT p.gm p.k.toNat kind raw l last).2/\tN (gj p.gm) p.gm.length p.k kind raw.length (gj raw) l last=gj (gT p.gm p.k.toNat kind raw l last).1/\(gT p.gm p.k.toNat kind raw l last).2<=4320007:=by
 have hle:=rV (k:=p.k.toNat) (kind:=kind) (raw:=raw) (l:=l) (last:=last) av (by have:=gd.k7;omega) hr hb hl ad
 have al:mc kind raw.length l=0:=by
  unfold mc;rw[if_neg (by omega),if_neg (by omega),if_pos];exact List.all_eq_true.2 fun t ht=>(ad t ht).1
 have hE:qL (gj p.gm) p.gm.length p.k kind raw.length (gj raw) l last=0:=by
  unfold qL;rw[Fq gd,if_neg (by simp),al,if_neg (by simp),if_neg (by omega)]
 refine⟨hE,?_,?_,hle⟩
 ·unfold tM;rw[hE,if_pos rfl];rfl
 ·unfold tN;rw[hE,if_pos rfl,vd];show _=gj (kD _ _)
  have hc:=gd.clean.rp (gN (p.k.toNat%8) kind raw.length (gj raw) l last);rw[xS,uW hc rfl]
theorem zy(w:aq)(B g:Nat)(p:gF)(out:List Nat)(Ah:Option au)(hc:Nat)(Aw:Option au)(wc:Nat)(Ap:Option au)(pc:Nat)(Ao:Option au)(oc:Nat)(U:gQ w B g p out Ah hc Aw wc Ap pc Ao oc)(gd:kP p)(kind:Nat)(bp:kind<=2)(n:Nat)(aV:n<=p.wait.length)(bT:n<=65535)(hb:p.wait.length<=1000000)(bq:out.length<=90000000)
  (A2:Option au) (t c2:Nat) (l:List gA) (ht:iL w w.heap.size A2 t c2 l) (hl:l.length<=65535) (a3:∀t∈l,gS t=true/\t.x<256) (last:Bool):
  aw prog 51 #[ag (some ⟨g,0,none⟩),ae .u8 (kind:Int),ae aj (n:Int),af A2 t c2,ai last] w fun e w'=>e=ao (.tuple #[])/\(∃bU bV bW bX a9 bd bf bg,gQ w' B g (jZ p kind n l last).1 (out++(jZ p kind n l last).2) bU bV bW bX a9 bd bf bg)/\aR B w w':=by
 obtain⟨K,hk⟩:∃K:Nat,p.k=(K:Int):=⟨p.k.toNat,by have:=gd.k0;omega⟩
 have bY:p.k.toNat=K:=by omega
 have hs:=mj gd.jY
 obtain⟨S,hS⟩:∃S:Nat,p.s=(S:Int):=⟨p.s.toNat,by omega⟩
 have br:p.s.toNat=S:=by omega
 have hh:=gd.hist
 obtain⟨raw,ad⟩:=fY (p.wait.take n)
 have aS:raw.length=n:=by rw[ad,List.length_take,Nat.min_eq_left aV]
 have bj:jo raw:=by rw[ad];exact qM gd.bw n
 obtain⟨w1,w2,w3,w4⟩:=OG gd (kind:=kind) (raw:=raw) (l:=l) (last:=last) bp (by omega) bj hl a3
 obtain⟨Q,hQ⟩:=fY (gT p.gm p.k.toNat kind raw l last)
 rw[<-hQ]at w2 w3 w4
 have a4:Q.1.length=(Q.2+7)/8:=by rw[hQ];exact nS ..
 obtain⟨Q1,aW⟩:=fY (Q.1)
 obtain⟨QK,a5⟩:=fY (Q.2)
 obtain⟨QL,aT⟩:=fY (Q1.length)
 rw[<-aW,<-aT,<-a5]at a4
 rw[<-a5]at w2 w4
 rw[<-aW]at w3
 have bQ:jo Q1:=by
  have hc:=pw gd.clean kind raw l last;rw[<-hQ,<-aW]at hc;intro x hx;obtain⟨i,hi,rfl⟩:=List.mem_iff_getElem.1 hx;have:=hc.1 i;unfold gj at this;rwa[List.getD_eq_getElem?_getD,List.getElem?_eq_getElem hi]at this
 obtain⟨FP,bk⟩:=fY (jZ p kind n l last)
 have bt:FP=({p with hist:=jn S (p.hist++raw),gm:=Q1.drop (QK/8),k:=((QK%8:Nat):Int),wait:=p.wait.drop n},Q1.take (QK/8)):=by
  rw[bk,aW,a5,hQ,ad,<-br];rfl
 rw[<-bk]
 have bu:∀t∈l,p9 t:=fun t ht=>yO (a3 t ht).1 (a3 t ht).2
 have tl:t<=1000000:=by have:=ht.1;omega
 have WR:aQ (∀V,aR w.heap.size w V->aw prog 66 #[ah #[af Ap p.gm.length pc,ae aj p.k],ae .u8 (kind:Int),af Aw n wc,af A2 t c2,ai last] V fun e w'=>∃A' c',e=ao (.tuple #[ah #[af A' QL c',ae aj (QK:Int)],ae aj 0])/\gu w' w'.heap.size A' QL c' (gj Q1)/\aR V.heap.size V w'/\rS V.heap.size A' QL):=fX fun V hV=>by
  have UV:=U.below hV;have bZ:gu V V.heap.size Aw n wc (gj raw):=by
   have h1:=UV.wait;refine⟨⟨ky bj,fun h0=>?_⟩,h1.2.1,by have:=h1.2.2.1;omega,h1.2.2.2⟩;obtain⟨b,o,e1,e2,e3⟩:=h1.1.2 (by omega);exact⟨b,o,e1,e2,fun j hj=>by rw[ad,rH p.wait hj];exact e3 j (by omega)⟩
  have h1:=OF V Ap p.gm.length pc (gj p.gm) p.k kind Aw n wc (gj raw) A2 t c2 l last UV.gm (by have:=gd.len;have:=gd.k7;omega) (by omega) (by have:=gd.k7;omega) (by omega) bZ (by omega) ((ht.below hV fZ).more hV.size) tl bu;rw[<-aS]at h1;rw[w1,w2,w3,aS]at h1;refine h1.mono fun e w' ⟨A',c',L,e1,e2,e3,e4,e5⟩=>?_
  have eL:L=QL:=by rw[e1,a4]
  subst eL;exact⟨A',c',e2,e3,e4,fun b o h0 e=>by
   obtain⟨g',o',cur,e6,h6,_⟩:=e5 h0;rw[e]at e6;injection e6 with e6
   injection e6 with e7 _ _
   omega⟩
 obtain⟨hn,al⟩:=fY (p.hist.length)
 obtain⟨wn,aX⟩:=fY (p.wait.length)
 obtain⟨pn,aY⟩:=fY (p.gm.length)
 obtain⟨on,bx⟩:=fY (out.length)
 have eX:jB p Ah hc Aw wc Ap pc Ao out.length oc=#[ae aj (S:Int),ae aj p.h,ae aj p.m,ai p.z,af Ah hn hc,af Aw wn wc,af Ap pn pc,ae aj (K:Int),ai p.gO,(af Ao on oc)]:=by
  unfold jB;rw[<-al,<-aX,<-aY,hk,hS,<-bx]
 have hx:=U.box
 rw[eX]at hx
 rw[<-aY,hk]at WR
 have bz:=U.row.2.2.1
 have b0:=U.wait.2.2.1
 have RT:aQ (∀V:aq,(Instr.sliceAt 22 (af Aw wn wc) none (some (ae aj (n:Int))) none).run prog V=.ok (af Aw n wc) V):=fX fun V=>vm Aw wn wc n (by omega) V
 obtain⟨q,hq⟩:=fY (hn+n-S)
 have b3:aQ (∀V:aq,(binOp .sub 3 (ae aj ((hn+n:Nat):Int)) (ae aj (S:Int))).run prog V=.ok (ae aj (((hn+n:Nat):Int)-(S:Int))) V):=fX fun V=>LC _ _ _ _ (by omega) (by omega) V
 have MX:aQ ((if(((hn+n:Nat):Int)-(S:Int))>0 then(((hn+n:Nat):Int)-(S:Int))else 0)=(q:Int)):=fX (by split<;>omega)
 obtain⟨A9,hA9⟩:∃A9,(if hc=q then Ah else Ah.map (·.add q))=A9:=⟨_,rfl⟩
 obtain⟨A6,hA6⟩:∃A6,(if wc=n then Aw else Aw.map (·.add n))=A6:=⟨_,rfl⟩
 have b4:aQ (∀V,(Instr.sliceAt 22 (af Ah (hn+n) hc) (some (ae aj (q:Int))) none none).run prog V=.ok (af A9 (hn+n-q) (hc-q)) V):=fX fun V=>vh Ah A9 (hn+n) hc q (by omega) hA9 V
 have bA:aQ (∀V,(Instr.sliceAt 22 (af Aw wn wc) (some (ae aj (n:Int))) none none).run prog V=.ok (af A6 (wn-n) (wc-n)) V):=fX fun V=>vh Aw A6 wn wc n (by omega) hA6 V
 have a6:(jn S (p.hist++raw)).length=hn+n-q:=by unfold jn;rw[List.length_drop,List.length_append,aS,<-al];omega
 have eT:(p.hist++p.wait).drop q=jn S (p.hist++raw)++p.wait.drop n:=by
  have e1:p.hist++p.wait=(p.hist++raw)++p.wait.drop n:=by rw[ad,List.append_assoc,List.take_append_drop]
  rw[e1,List.drop_append_of_le_length (by rw[List.length_append,aS];omega)];unfold jn;rw[List.length_append,aS,<-al,hq]
 have b5:aQ (kP p):=fX gd
 have b6:aQ (∀V,gQ V B g p out Ah hc Aw wc Ap pc Ao oc->∀(A':Option au) (c':Nat),gu V V.heap.size A' QL c' (gj Q1)->kj A' QL (af Ao out.length oc)->gQ ((V.setCell ⟨g,6,none⟩ (af A' QL c')).setCell ⟨g,7,none⟩ (ae aj (QK:Int))) B g {p with gm:=Q1,k:=(QK:Int)} out Ah hc Aw wc A' c' Ao oc):=fX fun V UV A' c' r nr=>
  UV.vH (p':={p with gm:=Q1,k:=(QK:Int)}) 6 7 _ _ (by unfold jB;simp only[<-aT];rfl) UV.row UV.wait (by show gu V _ A' Q1.length c' _;rw[<-aT];exact r) UV.nr UV.nw (by show kj A' Q1.length _;rw[<-aT];exact nr)
 have b7:aQ (∀V (A7:Option au) (c7:Nat) (A8:Option au) (c8:Nat),gQ V B g {p with gm:=Q1.drop (QK/8),k:=((QK%8:Nat):Int)} (out++Q1.take (QK/8)) Ah hc Aw wc A7 c7 A8 c8->gQ ((V.setCell ⟨g,4,none⟩ (af A9 (hn+n-q) (hc-q))).setCell ⟨g,5,none⟩ (af A6 (wn-n) (wc-n))) B g FP.1 (out++FP.2) A9 (hc-q) A6 (wc-n) A7 c7 A8 c8):=fX fun V A7 c7 A8 c8 UV=>by
  rw[bt];have aZ:(p.wait.drop n).length=wn-n:=by rw[List.length_drop,<-aX]
  have bl:=UV.row;have bB:=UV.nr;have bm:=UV.wait;have aV:=UV.nw;have e1:({p with gm:=Q1.drop (QK/8),k:=((QK%8:Nat):Int)}:gF).hist.length=hn:=al.symm;have e2:({p with gm:=Q1.drop (QK/8),k:=((QK%8:Nat):Int)}:gF).wait.length=wn:=aX.symm;rw[e1,e2]at bl bB;rw[e2]at bm aV;have a1:gu V V.heap.size A9 (hn+wn-q) (hc-q) (gj (jn S (p.hist++raw)++p.wait.drop n)):=by
   have:=bl.from (q:=q) (by omega) hA9
   rwa[show({p with gm:=Q1.drop (QK/8),k:=((QK%8:Nat):Int)}:gF).hist++({p with gm:=Q1.drop (QK/8),k:=((QK%8:Nat):Int)}:gF).wait=p.hist++p.wait from rfl,eT]at this
  have a2:gu V V.heap.size A6 (wn-n) (wc-n) (gj (p.wait.drop n)):=bm.from (q:=n) (by omega) hA6
  have b1:=bB.from (q:=q) (by omega) hA9 bl.at
  have b2:=aV.from (q:=n) (by omega) hA6 bm.at
  exact UV.vH (p':={p with hist:=jn S (p.hist++raw),gm:=Q1.drop (QK/8),k:=((QK%8:Nat):Int),wait:=p.wait.drop n}) 4 5 _ _ (by unfold jB;simp only[a6,aZ];rfl)
   (by show gu V _ A9 ((jn S (p.hist++raw)).length+(p.wait.drop n).length) _ _;rw[a6,aZ,show hn+n-q+(wn-n)=hn+wn-q by omega];exact a1)
   (by show gu V _ A6 (p.wait.drop n).length _ _;rw[aZ];exact a2) UV.gm
   (by show kj A9 ((jn S (p.hist++raw)).length+(p.wait.drop n).length) _;rw[a6,aZ,show hn+n-q+(wn-n)=hn+wn-q by omega];exact b1)
   (by show kj A6 (p.wait.drop n).length _;rw[aZ];exact b2) UV.np
 have b8:aQ (∀(A7:Option au) (c7:Nat) (A8:Option au) (c8:Nat) (V:aq),gQ V B g {p with gm:=Q1.drop (QK/8),k:=((QK%8:Nat):Int)} (out++Q1.take (QK/8)) Ah hc Aw wc A7 c7 A8 c8->∃qn om:Nat,gi V g #[ae aj (S:Int),ae aj p.h,ae aj p.m,ai p.z,af Ah hn hc,af Aw wn wc,af A7 qn c7,ae aj ((QK%8:Nat):Int),ai p.gO,af A8 om c8] 62):=fX fun A7 c7 A8 c8 V UV=>by
  have h1:=UV.box;unfold jB at h1;simp only[<-al,<-aX,hS]at h1;exact⟨_,_,h1⟩
 have HX:=fX hx;have HU:=fX U;have cl:=fX a4;have cm:=fX bq;have cn:=fX w4;have ck:=fX aT
 have HT:aQ (∀V,gQ V B g {p with gm:=Q1.drop (QK/8),k:=((QK%8:Nat):Int)} (out++Q1.take (QK/8)) Ah hc Aw wc Ap pc Ao oc->True):=fX fun _ _=>trivial
 have b9:aQ (∀(A7:Option au) (c7:Nat) (A8:Option au) (c8:Nat) (V:aq),gQ V B g {p with gm:=Q1.drop (QK/8),k:=((QK%8:Nat):Int)} (out++Q1.take (QK/8)) Ah hc Aw wc A7 c7 A8 c8->aw prog 65 #[ag (some ⟨g,0,none⟩),ae aj (n:Int)] V fun e w'=>e=ao (af Ah (hn+n) hc)/\aR V.heap.size V w'):=fX fun A7 c7 A8 c8 V UV=>by
  have:=D7 V B g _ _ Ah hc Aw wc A7 c7 A8 c8 UV (QK%8) rfl n (by show n<=p.wait.length;omega) (by show p.hist.length+p.wait.length<=2000000;omega);rw[al];exact this
 have ca:aQ (∀V (A':Option au) (c':Nat),gQ V B g {p with gm:=Q1,k:=(QK:Int)} out Ah hc Aw wc A' c' Ao oc->aw prog 48 #[ag (some ⟨g,0,none⟩)] V fun e w'=>e=ao (.tuple #[])/\(∃a9 bd bf bg,gQ w' B g {p with gm:=Q1.drop (QK/8),k:=((QK%8:Nat):Int)} (out++Q1.take (QK/8)) Ah hc Aw wc a9 bd bf bg)/\aR B V w'):=fX fun V A' c' UV=>
  D4 V B g _ out Ah hc Aw wc A' c' Ao oc UV QK rfl (by omega) (by show QK/8<=Q1.length;omega) (by omega)
 have av:=fX U.le
 clear HT U gd bp aV bT hb bq ht hl a3 hk bY hs br hh ad aS bj w1 w2 w3 w4 hQ a4 aW a5 aT bQ bk bt bu tl al aX aY bx eX hx bz b0 hq hA9 hA6 a6 eT b5 hS
 go_enter func51,ntmps51
 go_wp2_with fail
 refine Dq 23 19 _ rfl rfl 30 rfl (mG [fun v _=>v=ag (some ⟨g,0,none⟩),fun v _=>v=ag (some ⟨g,0,none⟩),fun v _=>v=ag (some ⟨g,0,none⟩),fun v _=>v=ag (some ⟨g,0,none⟩),fun v _=>v=ag (some ⟨g,6,none⟩),fun v _=>v=ah #[af Ap pn pc,ae aj (K:Int)],fun v _=>v=ae .u8 (kind:Int),fun v _=>v=ag (some ⟨g,0,none⟩),fun v _=>v=ag (some ⟨g,0,none⟩),fun v _=>v=ag (some ⟨g,0,none⟩),fun v _=>v=ag (some ⟨g,5,none⟩),fun v _=>v=af Aw wn wc,fun v _=>v=ae aj (n:Int),fun v _=>v=af Aw n wc,fun v _=>v=af A2 t c2,fun v _=>v=ai last,fun v W=>∃A' c',v=.tuple #[ah #[af A' QL c',ae aj (QK:Int)],ae aj 0]/\gu W W.heap.size A' QL c' (gj Q1)/\rS w.heap.size A' QL,fun v W=>∃A' c',v=.tuple #[ah #[af A' QL c',ae aj (QK:Int)],ae aj 0]/\gu W W.heap.size A' QL c' (gj Q1)/\rS w.heap.size A' QL,fun v W=>∃A' c',v=ah #[af A' QL c',ae aj (QK:Int)]/\gu W W.heap.size A' QL c' (gj Q1)/\rS w.heap.size A' QL,fun v _=>v=ae aj 0,fun v _=>v=ag (some ⟨g,0,none⟩),fun v _=>v=ag (some ⟨g,0,none⟩),fun v _=>v=ag (some ⟨g,6,none⟩)]) w gC (by kernel_rfl) (by kernel_rfl) (fun _ _ _ _ h=>h) (fun aa wv hb ha hS=>by have hs:=hS 17 11 (by kernel_rfl) rfl;obtain⟨a1,a2,e1,r1,r2⟩:=hs.here;exact⟨_,Dn _ _ rfl _ (ae aj 0) e1 (fun w=>by go_simp),gx rfl⟩) ?_ ?_
 case refine_1=>
  simp only[List.take_succ_cons,List.take_zero];refine gl.cons (fun aa wv hb ha hS Kk Qq hK=>gY (gp rfl) _ rfl (gx ((ha 0 (by kernel_rfl)).trans rfl)) hK) ?_;refine gl.cons (fun aa wv hb ha hS Kk Qq hK=>gY (gp rfl) _ rfl (gx ((ha 0 (by kernel_rfl)).trans rfl)) hK) ?_;refine gl.cons (fun aa wv hb ha hS Kk Qq hK=>lG (gp rfl) _ rfl _ (hS 1 13 (by kernel_rfl) rfl).here (gx rfl) hK) ?_;refine gl.cons (fun aa wv hb ha hS Kk Qq hK=>gZ (gp rfl) _ _ _ rfl _ (ag (some ⟨g,0,none⟩)) (hS 2 14 (by kernel_rfl) rfl).here (by go_simp) (gx rfl) hK) ?_;refine gl.cons (fun aa wv hb ha hS Kk Qq hK=>gZ (gp rfl) _ _ _ rfl _ (ag (some ⟨g,6,none⟩)) (hS 3 15 (by kernel_rfl) rfl).here (by go_simp) (gx rfl) hK) ?_;refine gl.cons (fun aa wv hb ha hS Kk Qq hK=>oD (gp rfl) _ _ rfl g 6 (hS 4 16 (by kernel_rfl) rfl).here [af Ap pn pc,ae aj (K:Int)] _ (kH (HX.out.below hb HX.out.lt) 6 [af Ap pn pc,ae aj (K:Int)] (fun i hi=>by rcases i with _|_|i<;>first|rfl|(simp at hi;omega))) underlying30 rfl (nQ _ _) (gx rfl) hK) ?_;refine gl.cons (fun aa wv hb ha hS Kk Qq hK=>gY (gp rfl) _ rfl (gx ((ha 1 (by kernel_rfl)).trans rfl)) hK) ?_;refine gl.cons (fun aa wv hb ha hS Kk Qq hK=>gY (gp rfl) _ rfl (gx ((ha 0 (by kernel_rfl)).trans rfl)) hK) ?_;refine gl.cons (fun aa wv hb ha hS Kk Qq hK=>lG (gp rfl) _ rfl _ (hS 7 19 (by kernel_rfl) rfl).here (gx rfl) hK) ?_;refine gl.cons (fun aa wv hb ha hS Kk Qq hK=>gZ (gp rfl) _ _ _ rfl _ (ag (some ⟨g,0,none⟩)) (hS 8 20 (by kernel_rfl) rfl).here (by go_simp) (gx rfl) hK) ?_;refine gl.cons (fun aa wv hb ha hS Kk Qq hK=>gZ (gp rfl) _ _ _ rfl _ (ag (some ⟨g,5,none⟩)) (hS 9 21 (by kernel_rfl) rfl).here (by go_simp) (gx rfl) hK) ?_;refine gl.cons (fun aa wv hb ha hS Kk Qq hK=>la (gp rfl) _ _ rfl _ (af Aw wn wc) (hS 10 22 (by kernel_rfl) rfl).here (by have hc:=iX (HX.out.below hb HX.out.lt);go_simp) (gx rfl) hK) ?_;refine gl.cons (fun aa wv hb ha hS Kk Qq hK=>gY (gp rfl) _ rfl (gx ((ha 2 (by kernel_rfl)).trans rfl)) hK) ?_;refine gl.cons (fun aa wv hb ha hS Kk Qq hK=>qI (gp rfl) _ _ _ _ _ rfl (af Aw wn wc) (af Aw n wc) none (some (ae aj (n:Int))) none (hS 11 23 (by kernel_rfl) rfl).here rfl (congrArg some (hS 12 24 (by kernel_rfl) rfl).here) rfl (RT.out wv) (gx rfl) hK) ?_;refine gl.cons (fun aa wv hb ha hS Kk Qq hK=>gY (gp rfl) _ rfl (gx ((ha 3 (by kernel_rfl)).trans rfl)) hK) ?_;refine gl.cons (fun aa wv hb ha hS Kk Qq hK=>gY (gp rfl) _ rfl (gx ((ha 4 (by kernel_rfl)).trans rfl)) hK) ?_;refine gl.cons (fun aa wv hb ha hS Kk Qq hK=>lZ (gp rfl) 66 _ _ rfl (enters_of func66 (by kernel_rfl) rfl) #[ah #[af Ap pn pc,ae aj (K:Int)],ae .u8 (kind:Int),af Aw n wc,af A2 t c2,ai last] (by simp[(show aa.eval (.tmp 17)=ah #[af Ap pn pc,ae aj (K:Int)]from(hS 5 17 (by kernel_rfl) rfl).here),(show aa.eval (.tmp 18)=ae .u8 (kind:Int)from(hS 6 18 (by kernel_rfl) rfl).here),(show aa.eval (.tmp 25)=af Aw n wc from(hS 13 25 (by kernel_rfl) rfl).here),(show aa.eval (.tmp 26)=af A2 t c2 from(hS 14 26 (by kernel_rfl) rfl).here),(show aa.eval (.tmp 27)=ai last from(hS 15 27 (by kernel_rfl) rfl).here)]) (WR.out wv hb) (fun ee w' ⟨A',c',h1,h2,h3,h4⟩=>⟨_,h1,h3,fun W hW=>⟨_,_,rfl,(h2.below hW fZ).more hW.size,fun b o h0 e=>Nat.le_trans hb.size (h4 b o h0 e)⟩⟩) hK) ?_;refine gl.cons (fun aa wv hb ha hS Kk Qq hK=>gY (gp rfl) _ rfl (hS 16 28 (by kernel_rfl) rfl) hK) ?_;refine gl.cons (fun aa wv hb ha hS Kk Qq hK=>by have hs:=hS 17 11 (by kernel_rfl) rfl;obtain⟨a1,a2,e1,r1,r2⟩:=hs.here;exact px (gp rfl) _ _ rfl _ _ e1 (by go_simp) (fun W hW=>⟨_,_,rfl,(r1.below hW fZ).more hW.size,r2⟩) hK) ?_;refine gl.cons (fun aa wv hb ha hS Kk Qq hK=>by have hs:=hS 17 11 (by kernel_rfl) rfl;obtain⟨a1,a2,e1,r1,r2⟩:=hs.here;exact px (gp rfl) _ _ rfl _ _ e1 (by go_simp) (gx rfl) hK) ?_;refine gl.cons (fun aa wv hb ha hS Kk Qq hK=>lG (gp rfl) _ rfl _ (hS 0 12 (by kernel_rfl) rfl).here (gx rfl) hK) ?_;refine gl.cons (fun aa wv hb ha hS Kk Qq hK=>gZ (gp rfl) _ _ _ rfl _ (ag (some ⟨g,0,none⟩)) (hS 20 31 (by kernel_rfl) rfl).here (by go_simp) (gx rfl) hK) ?_
  refine gl.cons (fun aa wv hb ha hS Kk Qq hK=>gZ (gp rfl) _ _ _ rfl _ (ag (some ⟨g,6,none⟩)) (hS 21 32 (by kernel_rfl) rfl).here (by go_simp) (gx rfl) hK) ?_;exact gl.nil
 intro vals w5 hb hv
 obtain⟨A',c',bC,bD,bE⟩:=(hv 18 29 rfl).here
 have bF:vals 33=ag (some ⟨g,6,none⟩):=(hv 22 33 rfl).here
 have U5:=HU.out.below hb
 have x5:=HX.out.below hb HX.out.lt
 have s6:=jf x5
 have s7:=iY x5
 have f6:w5.frozen? ⟨g,6,none⟩=false:=x5.free
 have f7:w5.frozen? ⟨g,7,none⟩=false:=x5.free
 have nr:kj A' QL (af Ao out.length oc):=fun b o h0 e hx=>by
  have h1:=bE b o h0 e;have h2:=(oH HU.out.own b hx).2;omega
 obtain⟨W6,a7⟩:=fY ((w5.setCell ⟨g,6,none⟩ (af A' QL c')).setCell ⟨g,7,none⟩ (ae aj (QK:Int)))
 have U6:=b6.out w5 U5 A' c' bD nr
 rw[<-a7]at U6
 have bG:aR B w W6:=by rw[a7];exact jx (jx (hb.mono (by have:=av.out;have:=HU.out.lt;omega)) av.out _ _) av.out _ _
 have HG:=fX (ca.out W6 A' c' U6)
 have bH:=fX a7;have bI:=fX bG
 clear x5 hb hv U5 a7 nr bD bE U6 bG
 simp only[List.take_succ_cons,List.take_zero,List.drop_succ_cons,List.drop_zero,List.map_cons,List.map_nil,Pv,Act.put,List.setIfInBounds_toArray,List.set_cons_zero,List.set_cons_succ,bC,bF]
 clear bC bF
 go_wp2_with (first|(rw[<-bH.out])|fail)
 refine HG.out.mono ?_
 rintro e w7 ⟨rfl,⟨A7,c7,A8,c8,U7⟩,bJ⟩
 have bK:=fX (b9.out A7 c7 A8 c8 w7 U7)
 have bL:=fX U7;have cb:=fX (bI.out.trans bJ)
 clear U7 bJ s6 s7 f6 f7 HG bH bI
 go_wp2_with fail
 refine bK.out.mono ?_
 rintro e w8 ⟨rfl,bn⟩
 have U8:=bL.out.below bn
 obtain⟨qn,om,x8⟩:=b8.out A7 c7 A8 c8 w8 U8
 obtain⟨R,hR⟩:=fY (QK%8)
 rw[<-hR]at x8
 have bM:=fX U8;have aU:=fX x8;have cf:=fX (cb.out.trans (bn.mono (by have:=av.out;have:=bL.out.lt;omega)))
 clear U8 x8 hR bn bK
 go_wp2_with fail
 refine D1 24 [1,19,20] (mG [fun v _=>v=ag (some ⟨g,0,none⟩),fun v _=>v=ag (some ⟨g,0,none⟩),fun v _=>v=af Ah (hn+n) hc,fun v _=>v=af Ah (hn+n) hc,fun v _=>v=ae aj ((hn+n:Nat):Int),fun v _=>v=ag (some ⟨g,0,none⟩),fun v _=>v=ag (some ⟨g,0,none⟩),fun v _=>v=ag (some ⟨g,0,none⟩),fun v _=>v=ag (some ⟨g,0,none⟩),fun v _=>v=ag (some ⟨g,0,none⟩),fun v _=>v=ae aj (S:Int),fun v _=>v=ae aj (((hn+n:Nat):Int)-(S:Int)),fun v _=>v=ae aj (q:Int),fun v _=>v=af A9 (hn+n-q) (hc-q),fun v _=>v=ag (some ⟨g,0,none⟩),fun v _=>v=ag (some ⟨g,0,none⟩),fun v _=>v=ag (some ⟨g,0,none⟩),fun v _=>v=ag (some ⟨g,5,none⟩),fun v _=>v=af Aw wn wc,fun v _=>v=ae aj (n:Int),fun v _=>v=af A6 (wn-n) (wc-n),fun v _=>v=ag (some ⟨g,0,none⟩),fun v _=>v=ag (some ⟨g,0,none⟩),fun v _=>v=ag (some ⟨g,4,none⟩)]) w8 gC (by kernel_rfl) (by kernel_rfl) (List.forall_mem_cons.2 ⟨⟨_,_,rfl,rfl,rfl,(fun _ _ _ _ h=>h),fun aa wv hb ha hS=>⟨_,vI _ rfl _ ((ha 0 (by kernel_rfl)).trans rfl),gx rfl⟩⟩,(List.forall_mem_cons.2 ⟨⟨_,_,rfl,rfl,rfl,(fun _ _ _ _ h=>h),fun aa wv hb ha hS=>⟨_,vI _ rfl _ ((ha 2 (by kernel_rfl)).trans rfl),gx rfl⟩⟩,(List.forall_mem_cons.2 ⟨⟨_,_,rfl,rfl,rfl,(fun _ _ _ _ h=>h),fun aa wv hb ha hS=>⟨_,LH _ _ (some (.tmp 58)) none none rfl (af Aw wn wc) (af A6 (wn-n) (wc-n)) (some (ae aj (n:Int))) none none (show aa.eval (.tmp 57)=af Aw wn wc from(hS 18 57 (by kernel_rfl) rfl).here) (congrArg some (show aa.eval (.tmp 58)=ae aj (n:Int)from(hS 19 58 (by kernel_rfl) rfl).here)) rfl rfl bA.out,gx rfl⟩⟩,(fun _ h=>by cases h)⟩)⟩)⟩) ?_ ?_
 case refine_1=>
  simp only[List.take_succ_cons,List.take_zero];refine gl.cons (fun aa wv hb ha hS Kk Qq hK=>gY (gp rfl) _ rfl (gx ((ha 0 (by kernel_rfl)).trans rfl)) hK) ?_;refine gl.cons (fun aa wv hb ha hS Kk Qq hK=>gY (gp rfl) _ rfl (gx ((ha 0 (by kernel_rfl)).trans rfl)) hK) ?_;refine gl.cons (fun aa wv hb ha hS Kk Qq hK=>gY (gp rfl) _ rfl (gx ((ha 10 (by kernel_rfl)).trans rfl)) hK) ?_;refine gl.cons (fun aa wv hb ha hS Kk Qq hK=>gY (gp rfl) _ rfl (gx ((ha 10 (by kernel_rfl)).trans rfl)) hK) ?_;refine gl.cons (fun aa wv hb ha hS Kk Qq hK=>yG (gp rfl) _ _ rfl Ah (hn+n) hc (hS 3 42 (by kernel_rfl) rfl).here underlying22 (gx rfl) hK) ?_;refine gl.cons (fun aa wv hb ha hS Kk Qq hK=>gY (gp rfl) _ rfl (gx ((ha 0 (by kernel_rfl)).trans rfl)) hK) ?_;refine gl.cons (fun aa wv hb ha hS Kk Qq hK=>lG (gp rfl) _ rfl _ (hS 5 44 (by kernel_rfl) rfl).here (gx rfl) hK) ?_;refine gl.cons (fun aa wv hb ha hS Kk Qq hK=>gZ (gp rfl) _ _ _ rfl _ (ag (some ⟨g,0,none⟩)) (hS 6 45 (by kernel_rfl) rfl).here (by go_simp) (gx rfl) hK) ?_;refine gl.cons (fun aa wv hb ha hS Kk Qq hK=>gZ (gp rfl) _ _ _ rfl _ (ag (some ⟨g,0,none⟩)) (hS 7 46 (by kernel_rfl) rfl).here (by go_simp) (gx rfl) hK) ?_;refine gl.cons (fun aa wv hb ha hS Kk Qq hK=>gZ (gp rfl) _ _ _ rfl _ (ag (some ⟨g,0,none⟩)) (hS 8 47 (by kernel_rfl) rfl).here (by go_simp) (gx rfl) hK) ?_;refine gl.cons (fun aa wv hb ha hS Kk Qq hK=>la (gp rfl) _ _ rfl _ (ae aj (S:Int)) (hS 9 48 (by kernel_rfl) rfl).here (by have hc:=gV (aU.out.below hb aU.out.lt);go_simp) (gx rfl) hK) ?_;refine gl.cons (fun aa wv hb ha hS Kk Qq hK=>rO (gp rfl) _ _ _ _ _ rfl _ _ (ae aj (((hn+n:Nat):Int)-(S:Int))) (hS 4 43 (by kernel_rfl) rfl).here (hS 10 49 (by kernel_rfl) rfl).here (rP _ _ _ _ _ _ _ (by decide) (by decide) _) (b3.out wv) (gx rfl) hK) ?_;refine gl.cons (fun aa wv hb ha hS Kk Qq hK=>Ly (gp rfl) _ _ _ _ rfl 0 (((hn+n:Nat):Int)-(S:Int)) (q:Int) rfl (show aa.eval (.tmp 50)=ae aj (((hn+n:Nat):Int)-(S:Int))from(hS 11 50 (by kernel_rfl) rfl).here) MX.out (gx rfl) hK) ?_;refine gl.cons (fun aa wv hb ha hS Kk Qq hK=>qI (gp rfl) _ _ _ _ _ rfl (af Ah (hn+n) hc) (af A9 (hn+n-q) (hc-q)) (some (ae aj (q:Int))) none none (hS 2 41 (by kernel_rfl) rfl).here (congrArg some (hS 12 51 (by kernel_rfl) rfl).here) rfl rfl (b4.out wv) (gx rfl) hK) ?_;refine gl.cons (fun aa wv hb ha hS Kk Qq hK=>gY (gp rfl) _ rfl (gx ((ha 0 (by kernel_rfl)).trans rfl)) hK) ?_;refine gl.cons (fun aa wv hb ha hS Kk Qq hK=>lG (gp rfl) _ rfl _ (hS 14 53 (by kernel_rfl) rfl).here (gx rfl) hK) ?_;refine gl.cons (fun aa wv hb ha hS Kk Qq hK=>gZ (gp rfl) _ _ _ rfl _ (ag (some ⟨g,0,none⟩)) (hS 15 54 (by kernel_rfl) rfl).here (by go_simp) (gx rfl) hK) ?_;refine gl.cons (fun aa wv hb ha hS Kk Qq hK=>gZ (gp rfl) _ _ _ rfl _ (ag (some ⟨g,5,none⟩)) (hS 16 55 (by kernel_rfl) rfl).here (by go_simp) (gx rfl) hK) ?_;refine gl.cons (fun aa wv hb ha hS Kk Qq hK=>la (gp rfl) _ _ rfl _ (af Aw wn wc) (hS 17 56 (by kernel_rfl) rfl).here (by have hc:=iX (aU.out.below hb aU.out.lt);go_simp) (gx rfl) hK) ?_;refine gl.cons (fun aa wv hb ha hS Kk Qq hK=>gY (gp rfl) _ rfl (gx ((ha 2 (by kernel_rfl)).trans rfl)) hK) ?_;refine gl.cons (fun aa wv hb ha hS Kk Qq hK=>qI (gp rfl) _ _ _ _ _ rfl (af Aw wn wc) (af A6 (wn-n) (wc-n)) (some (ae aj (n:Int))) none none (hS 18 57 (by kernel_rfl) rfl).here (congrArg some (hS 19 58 (by kernel_rfl) rfl).here) rfl rfl (bA.out wv) (gx rfl) hK) ?_;refine gl.cons (fun aa wv hb ha hS Kk Qq hK=>lG (gp rfl) _ rfl _ (hS 0 39 (by kernel_rfl) rfl).here (gx rfl) hK) ?_;refine gl.cons (fun aa wv hb ha hS Kk Qq hK=>gZ (gp rfl) _ _ _ rfl _ (ag (some ⟨g,0,none⟩)) (hS 21 60 (by kernel_rfl) rfl).here (by go_simp) (gx rfl) hK) ?_;refine gl.cons (fun aa wv hb ha hS Kk Qq hK=>gZ (gp rfl) _ _ _ rfl _ (ag (some ⟨g,4,none⟩)) (hS 22 61 (by kernel_rfl) rfl).here (by go_simp) (gx rfl) hK) ?_;exact gl.nil
 intro vals w9 hb hv
 have bN:vals 39=ag (some ⟨g,0,none⟩):=(hv 0 39 rfl).here
 have bO:vals 40=ag (some ⟨g,0,none⟩):=(hv 1 40 rfl).here
 have bP:vals 52=af A9 (hn+n-q) (hc-q):=(hv 13 52 rfl).here
 have bR:vals 59=af A6 (wn-n) (wc-n):=(hv 20 59 rfl).here
 have bS:vals 62=ag (some ⟨g,4,none⟩):=(hv 23 62 rfl).here
 have U9:=bM.out.below hb
 have x9:=aU.out.below hb aU.out.lt
 have s4:=jd x9
 have s5:=iX x9
 have f4:w9.frozen? ⟨g,4,none⟩=false:=x9.free
 have f5:w9.frozen? ⟨g,5,none⟩=false:=x9.free
 obtain⟨WA,a8⟩:=fY ((w9.setCell ⟨g,4,none⟩ (af A9 (hn+n-q) (hc-q))).setCell ⟨g,5,none⟩ (af A6 (wn-n) (wc-n)))
 have UA:=b7.out w9 A7 c7 A8 c8 U9
 rw[<-a8]at UA
 have cg:aQ (aR B w WA):=fX (by rw[a8];exact jx (jx (cf.out.trans (hb.mono (by have:=av.out;have:=bM.out.lt;omega))) av.out _ _) av.out _ _)
 have ch:=fX UA;have cj:=fX a8
 clear x9 hb hv U9 a8 UA
 simp only[List.take_succ_cons,List.take_zero,List.drop_succ_cons,List.drop_zero,List.map_cons,List.map_nil,Pv,Act.put,List.setIfInBounds_toArray,List.set_cons_zero,List.set_cons_succ,bN,bO,bP,bR,bS]
 clear bN bO bP bR bS
 go_wp2_with (rw[<-cj.out])
 go_end0
 exact⟨rfl,⟨_,_,_,_,_,_,_,_,ch.out⟩,cg.out⟩
theorem gu.first{w:aq}{B0 n m c:Nat}{A:Option au}{L:List Nat}(h:gu w B0 A m c (gj L))(hn:n<=m)(hb:jo L):gu w B0 A n c (gj (L.take n)):=by
 refine⟨⟨ky (qM hb n),fun h0=>?_⟩,h.2.1,by have:=h.2.2.1;omega,h.2.2.2⟩;obtain⟨b,o,e1,e2,e3⟩:=h.1.2 (by omega);exact⟨b,o,e1,e2,fun j hj=>by rw[rH L hj];exact e3 j (by omega)⟩
theorem OH{p:gF}(gd:kP p)(n:Nat):(iy p (p.wait.take n)).length<=(p.wait.take n).length/\∀t∈iy p (p.wait.take n),gS t=true/\t.x<256:=tC gd.jY gd.bh (qM gd.bw n)
theorem zA{a:Nat}{kind n:Nat}{l:List gA}(ha:a<=7)(hk:kind<=2)(hn:n<=65535)(hl:l.length<=65535)(ad:∀t∈l,gS t=true/\t.x<256):oA (a:Int) kind n l=0:=by
 unfold oA;rw[if_neg (by omega)];unfold mc;rw[if_neg (by omega),if_neg (by omega),if_pos];exact List.all_eq_true.2 fun t ht=>(ad t ht).1
theorem OI(w:aq)(B g:Nat)(p:gF)(out:List Nat)(Ah:Option au)(hc:Nat)(Aw:Option au)(wc:Nat)(Ap:Option au)(pc:Nat)(Ao:Option au)(oc:Nat)(U:gQ w B g p out Ah hc Aw wc Ap pc Ao oc)(gd:kP p)(n:Nat)(ad:n<=p.wait.length)(al:n<=65535)(hb:p.wait.length<=1000000)(a8:out.length<=90000000)(last:Bool):
  aw prog 46 #[ag (some ⟨g,0,none⟩),ae aj (n:Int),ai last] w fun e w'=>e=ao (.tuple #[])/\(∃aZ a1 a2 a3 a4 a5 a6 a7,gQ w' B g (jZ p (lK p (p.wait.take n)) n (iy p (p.wait.take n)) last).1 (out++(jZ p (lK p (p.wait.take n)) n (iy p (p.wait.take n)) last).2) aZ a1 a2 a3 a4 a5 a6 a7)/\aR B w w':=by
 obtain⟨K,hk⟩:∃K:Nat,p.k=(K:Int):=⟨p.k.toNat,by have:=gd.k0;omega⟩
 have a9:p.k.toNat=K:=by omega
 have bd:K<=7:=by have:=gd.k7;omega
 have hcut:=D8 w B g p out Ah hc Aw wc Ap pc Ao oc U gd n ad al hb
 obtain⟨t1,t2⟩:=OH gd n
 have bf:(p.wait.take n).length=n:=by rw[List.length_take,Nat.min_eq_left ad]
 obtain⟨TL,av⟩:=fY (iy p (p.wait.take n))
 obtain⟨BK,aS⟩:=fY (lK p (p.wait.take n))
 have aW:BK<=2:=by rw[aS];exact xV _ _
 rw[<-av]at hcut t1 t2
 have bg:∀t∈TL,p9 t:=fun t ht=>yO (t2 t ht).1 (t2 t ht).2
 have aT:∀(A2:Option au) (t c2:Nat) (w2:aq),gQ w2 B g p out Ah hc Aw wc Ap pc Ao oc->iL w2 w2.heap.size A2 t c2 TL->aQ (∀V,aR w2.heap.size w2 V->aw prog 61 #[ae aj (K:Int),af Aw n wc,af A2 t c2] V fun e w'=>e=ao (.tuple #[ae .u8 (BK:Int),ae aj 0])/\aR V.heap.size V w'):=fun A2 t c2 w2 U2 ht=>fX fun V hV=>by
  have hr:=(U2.below hV).wait.first (n:=n) ad gd.bw;have h1:=Oz V (K:Int) Aw n wc (gj (p.wait.take n)) A2 t c2 TL (by omega) (by omega) hr (by omega) ((ht.below hV fZ).more hV.size) (by have:=ht.1;omega) bg;have hE:qF (K:Int) n TL=0:=by unfold qF;exact zA bd (by omega) al (by omega) t2
  have bx:uT (K:Int) n (gj (p.wait.take n)) TL=BK:=by
   unfold uT;rw[hE,if_pos rfl,aS,Int.toNat_natCast];unfold lK;rw[bf,a9,av]
  rw[hE,bx]at h1;exact h1
 rw[<-av,<-aS]
 have bj:∀(A2:Option au) (t c2:Nat) (w2:aq),gQ w2 B g p out Ah hc Aw wc Ap pc Ao oc->iL w2 w2.heap.size A2 t c2 TL->aw prog 51 #[ag (some ⟨g,0,none⟩),ae .u8 (BK:Int),ae aj (n:Int),af A2 t c2,ai last] w2 fun e w'=>e=ao (.tuple #[])/\(∃aZ a1 a2 a3 a4 a5 a6 a7,gQ w' B g (jZ p BK n TL last).1 (out++(jZ p BK n TL last).2) aZ a1 a2 a3 a4 a5 a6 a7)/\aR B w2 w':=fun A2 t c2 w2 U2 ht=>
  zy w2 B g p out Ah hc Aw wc Ap pc Ao oc U2 gd BK aW n ad al hb a8 A2 t c2 TL ht (by omega) t2 last
 obtain⟨hn,bk⟩:=fY (p.hist.length)
 obtain⟨wn,bl⟩:=fY (p.wait.length)
 obtain⟨pn,aX⟩:=fY (p.gm.length)
 obtain⟨on,bm⟩:=fY (out.length)
 have eX:jB p Ah hc Aw wc Ap pc Ao out.length oc=#[ae aj p.s,ae aj p.h,ae aj p.m,ai p.z,af Ah hn hc,af Aw wn wc,af Ap pn pc,ae aj (K:Int),ai p.gO,(af Ao on oc)]:=by
  unfold jB;rw[<-bk,<-bl,<-aX,hk,<-bm]
 have hx:=U.box
 rw[eX]at hx
 have bz:=U.wait.2.2.1
 have RT:aQ (∀V:aq,(Instr.sliceAt 22 (af Aw wn wc) none (some (ae aj (n:Int))) none).run prog V=.ok (af Aw n wc) V):=fX fun V=>vm Aw wn wc n (by omega) V
 have HX:=fX hx;have HU:=fX U;have aY:=fX hcut;have bn:=fX aT;have bp:=fX bj;have bq:=fX U.le
 clear U gd ad al hb a8 hk a9 bd hcut t1 t2 bf av aS aW bg aT bj bk bl aX bm eX hx bz
 go_enter func46,ntmps46
 go_wp2_with fail
 refine aY.out.mono ?_
 rintro e w2 ⟨A2,t,c2,rfl,ht,aU⟩
 have U2:=HU.out.below aU
 have aV:=fX (HX.out.below aU HX.out.lt)
 have aT:=bn.out A2 t c2 w2 U2 ht
 have bA:=fX (aU.mono (B':=B) (by have:=bq.out;have:=HU.out.lt;omega))
 have br:=fX U2;have bB:=fX ht
 clear U2 ht aU aY
 go_wp2_with fail
 refine rN (mG [fun v _=>v=ag (some ⟨g,0,none⟩),fun v _=>v=ag (some ⟨g,0,none⟩),fun v _=>v=ag (some ⟨g,0,none⟩),fun v _=>v=ag (some ⟨g,6,none⟩),fun v _=>v=ag (some ⟨g,7,none⟩),fun v _=>v=ae aj (K:Int),fun v _=>v=ag (some ⟨g,0,none⟩),fun v _=>v=ag (some ⟨g,0,none⟩),fun v _=>v=ag (some ⟨g,0,none⟩),fun v _=>v=ag (some ⟨g,5,none⟩),fun v _=>v=af Aw wn wc,fun v _=>v=ae aj (n:Int),fun v _=>v=af Aw n wc,fun v _=>v=af A2 t c2,fun v _=>v=.tuple #[ae .u8 (BK:Int),ae aj 0],fun v _=>v=.tuple #[ae .u8 (BK:Int),ae aj 0],fun v _=>v=ae .u8 (BK:Int),fun v _=>v=ae aj 0,fun v _=>v=ae .u8 (BK:Int),fun v _=>v=ae aj 0]) w2 gC (by kernel_rfl) (by kernel_rfl) ?_ ?_
 case refine_1=>
  refine gl.cons (fun aa wv hb ha hS Kk Qq hK=>gY (gp rfl) _ rfl (gx ((ha 0 (by kernel_rfl)).trans rfl)) hK) ?_;refine gl.cons (fun aa wv hb ha hS Kk Qq hK=>lG (gp rfl) _ rfl _ (hS 0 13 (by kernel_rfl) rfl).here (gx rfl) hK) ?_;refine gl.cons (fun aa wv hb ha hS Kk Qq hK=>gZ (gp rfl) _ _ _ rfl _ (ag (some ⟨g,0,none⟩)) (hS 1 14 (by kernel_rfl) rfl).here (by go_simp) (gx rfl) hK) ?_;refine gl.cons (fun aa wv hb ha hS Kk Qq hK=>gZ (gp rfl) _ _ _ rfl _ (ag (some ⟨g,6,none⟩)) (hS 2 15 (by kernel_rfl) rfl).here (by go_simp) (gx rfl) hK) ?_;refine gl.cons (fun aa wv hb ha hS Kk Qq hK=>gZ (gp rfl) _ _ _ rfl _ (ag (some ⟨g,7,none⟩)) (hS 3 16 (by kernel_rfl) rfl).here (by go_simp) (gx rfl) hK) ?_;refine gl.cons (fun aa wv hb ha hS Kk Qq hK=>la (gp rfl) _ _ rfl _ (ae aj (K:Int)) (hS 4 17 (by kernel_rfl) rfl).here (by have hc:=iY (aV.out.below hb aV.out.lt);go_simp) (gx rfl) hK) ?_;refine gl.cons (fun aa wv hb ha hS Kk Qq hK=>gY (gp rfl) _ rfl (gx ((ha 0 (by kernel_rfl)).trans rfl)) hK) ?_;refine gl.cons (fun aa wv hb ha hS Kk Qq hK=>lG (gp rfl) _ rfl _ (hS 6 19 (by kernel_rfl) rfl).here (gx rfl) hK) ?_;refine gl.cons (fun aa wv hb ha hS Kk Qq hK=>gZ (gp rfl) _ _ _ rfl _ (ag (some ⟨g,0,none⟩)) (hS 7 20 (by kernel_rfl) rfl).here (by go_simp) (gx rfl) hK) ?_;refine gl.cons (fun aa wv hb ha hS Kk Qq hK=>gZ (gp rfl) _ _ _ rfl _ (ag (some ⟨g,5,none⟩)) (hS 8 21 (by kernel_rfl) rfl).here (by go_simp) (gx rfl) hK) ?_;refine gl.cons (fun aa wv hb ha hS Kk Qq hK=>la (gp rfl) _ _ rfl _ (af Aw wn wc) (hS 9 22 (by kernel_rfl) rfl).here (by have hc:=iX (aV.out.below hb aV.out.lt);go_simp) (gx rfl) hK) ?_;refine gl.cons (fun aa wv hb ha hS Kk Qq hK=>gY (gp rfl) _ rfl (gx ((ha 1 (by kernel_rfl)).trans rfl)) hK) ?_;refine gl.cons (fun aa wv hb ha hS Kk Qq hK=>qI (gp rfl) _ _ _ _ _ rfl (af Aw wn wc) (af Aw n wc) none (some (ae aj (n:Int))) none (hS 10 23 (by kernel_rfl) rfl).here rfl (congrArg some (hS 11 24 (by kernel_rfl) rfl).here) rfl (RT.out wv) (gx rfl) hK) ?_;refine gl.cons (fun aa wv hb ha hS Kk Qq hK=>gY (gp rfl) _ rfl (gx ((ha 6 (by kernel_rfl)).trans rfl)) hK) ?_;refine gl.cons (fun aa wv hb ha hS Kk Qq hK=>lZ (gp rfl) 61 _ _ rfl (enters_of func61 (by kernel_rfl) rfl) #[ae aj (K:Int),af Aw n wc,af A2 t c2] (by simp[(show aa.eval (.tmp 18)=ae aj (K:Int)from(hS 5 18 (by kernel_rfl) rfl).here),(show aa.eval (.tmp 25)=af Aw n wc from(hS 12 25 (by kernel_rfl) rfl).here),(show aa.eval (.tmp 26)=af A2 t c2 from(hS 13 26 (by kernel_rfl) rfl).here)]) (aT.out wv hb) (fun ee w' ⟨h1,h2⟩=>⟨_,h1,h2,gx rfl⟩) hK) ?_;refine gl.cons (fun aa wv hb ha hS Kk Qq hK=>gY (gp rfl) _ rfl (hS 14 27 (by kernel_rfl) rfl) hK) ?_;refine gl.cons (fun aa wv hb ha hS Kk Qq hK=>px (gp rfl) _ _ rfl _ (ae .u8 (BK:Int)) (hS 15 12 (by kernel_rfl) rfl).here (by go_simp) (gx rfl) hK) ?_;refine gl.cons (fun aa wv hb ha hS Kk Qq hK=>px (gp rfl) _ _ rfl _ (ae aj 0) (hS 15 12 (by kernel_rfl) rfl).here (by go_simp) (gx rfl) hK) ?_;refine gl.cons (fun aa wv hb ha hS Kk Qq hK=>qH (gp rfl) _ rfl (hS 16 28 (by kernel_rfl) rfl) hK) ?_;refine gl.cons (fun aa wv hb ha hS Kk Qq hK=>qH (gp rfl) _ rfl (hS 17 29 (by kernel_rfl) rfl) hK) ?_;exact gl.nil
 intro vals w5 hb hv
 have e7:vals 7=ae .u8 (BK:Int):=(hv 18 7 rfl).here
 have U5:=br.out.below hb
 have bt:=bp.out A2 t c2 w5 U5 ((bB.out.below hb fZ).more hb.size)
 have bC:=fX bt;have bD:=fX (bA.out.trans (hb.mono (by have:=bq.out;have:=br.out.lt;omega)))
 clear hb hv U5 bt
 simp only[List.map_cons,List.map_nil,Pv,Act.put,List.setIfInBounds_toArray,List.set_cons_zero,List.set_cons_succ,e7]
 clear e7
 go_wp2_with fail
 refine bC.out.mono ?_
 rintro e w6 ⟨rfl,h6,bu⟩
 have H6:=fX h6;have bE:=fX (bD.out.trans bu)
 clear h6 bu
 go_wp2
 go_end0
 exact⟨rfl,H6.out,bE.out⟩
theorem OJ(w:aq)(B g:Nat)(p:gF)(out:List Nat)(Ah:Option au)(hc:Nat)(Aw:Option au)(wc:Nat)(Ap:Option au)(pc:Nat)(Ao:Option au)(oc:Nat)(U:gQ w B g p out Ah hc Aw wc Ap pc Ao oc)(gd:kP p)(hb:p.wait.length<=65535)(a8:out.length<=80000000):
  aw prog 30 #[ag (some ⟨g,0,none⟩)] w fun e w'=>e=ao (.tuple #[])/\(∃bn bp bq br bt bu bx bz,gQ w' B g (iK p).1 (out++(iK p).2) bn bp bq br bt bu bx bz)/\aR B w w':=by
 have ad:=OI w B g p out Ah hc Aw wc Ap pc Ao oc U gd p.wait.length fZ hb (by omega) (by omega) true
 rw[List.take_length]at ad
 obtain⟨q,hq⟩:=fY (jZ p (lK p p.wait) p.wait.length (iy p p.wait) true)
 have aX:=DL q hq
 have a9:kP q.1:=by rw[hq];exact DK gd _ _ _ _
 have bd:q.2.length<=4000000:=by
  have t:=tC gd.jY gd.bh gd.bw;have hle:=rV (k:=p.k.toNat) (kind:=lK p p.wait) (raw:=p.wait) (l:=iy p p.wait) (last:=true) (xV _ _) (by have:=gd.k7;omega) hb gd.bw (by omega) t.2;have e:q.2=(gT p.gm p.k.toNat (lK p p.wait) p.wait (iy p p.wait) true).1.take ((gT p.gm p.k.toNat (lK p p.wait) p.wait (iy p p.wait) true).2/8):=by
   rw[hq];unfold jZ;rw[List.take_length];rfl
  rw[e,List.length_take];have bM:(gT p.gm p.k.toNat (lK p p.wait) p.wait (iy p p.wait) true).2<=4320007:=hle;omega
 rw[<-hq]at ad
 rw[aX]
 obtain⟨wn,aZ⟩:=fY (p.wait.length)
 have c5:w.cell? ⟨g,5,none⟩=some (af Aw wn wc):=by rw[aZ];exact U.box.cell.trans rfl
 rw[<-aZ]at ad
 have bA:=fX ad;have av:=fX a9;have bB:=fX a8;have bC:=fX bd;have aU:=fX U.le
 clear U gd hb a8 ad hq aX a9 bd aZ
 go_enter func30,ntmps30
 go_wp2_with fail
 refine bA.out.mono ?_
 rintro e w2 ⟨rfl,⟨A1,k1,A2,k2,A3,k3,A4,k4,U2⟩,bf⟩
 obtain⟨pn,aS⟩:=fY (q.1.gm.length)
 obtain⟨K,hk⟩:∃K:Nat,q.1.k=(K:Int):=⟨q.1.k.toNat,by have:=av.out.k0;omega⟩
 have a1:=U2.gm
 have a2:=Fq av.out
 have hz:=vd q.1.gm
 have bD:pn=(K+7)/8:=by rw[aS,av.out.len,hk,Int.toNat_natCast]
 have bO:K<=7:=by have:=av.out.k7;omega
 have bN:pn<=1:=by omega
 rw[<-aS,hk]at a2
 rw[<-aS]at a1 hz
 have a3:=Iz w2 A3 pn k3 (gj q.1.gm) K a1.1 (by unfold jM;rw[if_pos a2])
 rw[hz]at a3
 have bg:=U2.box
 have bj:aQ (w2.rangeAt g 6 [af A3 pn k3,ae aj (K:Int)]):=fX (kH bg 6 _ (fun i hi=>by
  rcases i with _|_|i
  ·rw[aS];rfl
  ·rw[<-hk];rfl
  ·simp at hi;omega))
 have bE:=fX a3;have a4:=fX U2;have bF:=fX bf;have al:=fX aS;have HK:=fX hk;have bG:=fX (kh U2.gm)
 clear a3 U2 bf a1 a2 hz bD aS hk bg c5
 go_wp2_with (first
  |(refine aF rfl _ _ rfl g 6 rfl [af A3 pn k3,ae aj (K:Int)] _ bj.out underlying30 rfl (nQ _ _) ?_)
  |fail)
 refine bE.out.mono ?_
 rintro e w3 ⟨gn,rfl,bH,a5,aY⟩
 have U3:=a4.out.below a5
 have aT:=U3.box
 have s6:w3.cell? ⟨g,6,none⟩=some (af A3 pn k3):=by rw[al.out];exact aT.cell.trans rfl
 have s7:w3.cell? ⟨g,7,none⟩=some (ae aj (K:Int)):=by rw[<-HK.out];exact aT.cell.trans rfl
 have f6:w3.frozen? ⟨g,6,none⟩=false:=aT.free
 have f7:w3.frozen? ⟨g,7,none⟩=false:=aT.free
 obtain⟨W4,aV⟩:=fY ((w3.setCell ⟨g,6,none⟩ (af (some ⟨gn,0,none⟩) pn pn)).setCell ⟨g,7,none⟩ (ae aj ((8*pn:Nat):Int)))
 have bk:gu w3 w3.heap.size (some ⟨gn,0,none⟩) pn pn (gj q.1.gm):=⟨Row.rd aY (ky bG.out),(fun h=>by cases h),Nat.le_refl _,by unfold maxLen;omega⟩
 have nn:kj (some ⟨gn,0,none⟩) pn (af A4 (out++q.2).length k4):=fun b o h0 e hx=>by
  injection e with e
  injection e with e1 _ _
  have h2:=(oH a4.out.own b hx).2;omega
 have U4:gQ W4 B g {q.1 with k:=((8*pn:Nat):Int)} (out++q.2) A1 k1 A2 k2 (some ⟨gn,0,none⟩) pn A4 k4:=by
  rw[aV];refine U3.vH (p':={q.1 with k:=((8*pn:Nat):Int)}) 6 7 _ _ (by unfold jB;simp only[<-al.out];rfl) U3.row U3.wait ?_ U3.nr U3.nw ?_
  ·show gu w3 _ _ q.1.gm.length pn _;rw[<-al.out];exact bk
  ·show kj _ q.1.gm.length _;rw[<-al.out];exact nn
 have a6:=D4 W4 B g {q.1 with k:=((8*pn:Nat):Int)} (out++q.2) A1 k1 A2 k2 (some ⟨gn,0,none⟩) pn A4 k4 U4 (8*pn) rfl (by have:=al.out;have:=av.out.len;have:=av.out.k7;omega) (by show 8*pn/8<=q.1.gm.length;have:=al.out;omega) (by have:=bB.out;have:=bC.out;rw[List.length_append];omega)
 rw[show 8*pn/8=pn by omega,show 8*pn%8=0 by omega]at a6
 rw[show((8*pn:Nat):Int)=8*(pn:Int) by omega]at aV
 have HG:=fX a6;have bl:=fX aV
 have bI:aQ (aR B w W4):=fX (by rw[bl.out];exact jx (jx (bF.out.trans (a5.mono (by have:=aU.out;have:=a4.out.lt;omega))) aU.out _ _) aU.out _ _)
 clear a6 aV U4 nn bk aT U3 a5 aY bH bj
 go_wp2_with (first|(rw[<-bl.out])|fail)
 refine HG.out.mono ?_
 rintro e w5 ⟨rfl,⟨A5,k5,A6,k6,U5⟩,bm⟩
 have ed:({q.1 with k:=((8*pn:Nat):Int)}:gF).gm.drop pn=[]:=by show q.1.gm.drop pn=[];rw[al.out,List.drop_length]
 have et:({q.1 with k:=((8*pn:Nat):Int)}:gF).gm.take pn=q.1.gm:=by show q.1.gm.take pn=_;rw[al.out,List.take_length]
 rw[ed,et]at U5
 have a7:=U5.box
 have t8:=jE a7
 have f8:w5.frozen? ⟨g,8,none⟩=false:=a7.free
 obtain⟨W6,aW⟩:=fY (w5.setCell ⟨g,8,none⟩ (ai true))
 have U6:gQ W6 B g {q.1 with gm:=[],k:=0,gO:=true} ((out++q.2)++q.1.gm) A1 k1 A2 k2 A5 k5 A6 k6:=by
  rw[aW];exact U5.Lv (p':={q.1 with gm:=[],k:=0,gO:=true}) 8 _ (by unfold jB;rfl) U5.row U5.wait U5.gm U5.nr U5.nw U5.np
 rw[List.append_assoc]at U6
 have bJ:=fX U6;have bK:=fX aW
 have bL:aQ (aR B w W6):=fX (by rw[aW];exact jx (bI.out.trans bm) aU.out _ _)
 clear U6 U5 aW bm ed et a7 s6 s7 f6 f7
 go_wp2_with (rw[<-bK.out])
 go_end0
 exact⟨rfl,⟨_,_,_,_,_,_,_,_,bJ.out⟩,bL.out⟩
def gG(k n:Nat):Array ax:=#[ae .u8 (k:Int),ae aj (n:Int)]
theorem oL(k n:Nat):(prog.info? 102).map (·.size)=some (gG k n).size:=by unfold gG;kernel_rfl
theorem r9(k n:Nat):(prog.info? 102).map (·.size)=some ([ae .u8 (k:Int),ae aj (n:Int)]:List ax).length:=by kernel_rfl
theorem qR(k n:Nat):(gG k n).all (·.oneCell')=true:=by simp[gG,Value.oneCell']
theorem OL(k n:Nat):prog.built 102 [(0,ae .u8 (k:Int)),(1,ae aj (n:Int))]=some (gG k n):=by unfold gG;kernel_rfl
theorem ub:(prog.info? 102).map (fun i=>(i.zero,i.size))=some (some (ah (gG 0 0)),2):=by kernel_rfl
theorem uc{fn:Func}{p:Tmp}(h:fn.results=#[.cell p 102])(tmps:Array ax)(w:aq)(g:Nat)(k n:Nat)(hp:tmps.getD p undef=ag (some ⟨g,0,none⟩))(ht:gi w g (gG k n) 102):
  (results fn tmps).run prog w=.ok (ah (gG k n)) w:=by
 have ad:tmps[p]?.getD undef=ag (some ⟨g,0,none⟩):=by simpa using hp
 have hl:=run_loadVar_row (P:=prog) w g 102 102 (gG k n) (0,0) _ ht underlying102 rfl (oL _ _)
 simp[results,h,ad,asAddr,hl]
theorem OM(w:aq)(B g:Nat)(p:gF)(out:List Nat)(Ah:Option au)(hc:Nat)(Aw:Option au)(wc:Nat)(Ap:Option au)(pc:Nat)(Ao:Option au)(oc:Nat)(U:gQ w B g p out Ah hc Aw wc Ap pc Ao oc)(gd:kP p)(hb:p.wait.length<=65535)(kind:Nat)(aU:kind<=2)(A2:Option au)(t c2:Nat)(l:List gA)(ht:iL w w.heap.size A2 t c2 l)(hl:l.length<=65535)(ad:∀t∈l,gS t=true/\t.x<256):
  aw prog 68 #[ag (some ⟨g,0,none⟩),ae .u8 (kind:Int),af A2 t c2] w fun e w'=>e=ao (ah (gG kind (mJ p l kind)))/\aR w.heap.size w w':=by
 obtain⟨h,hh⟩:=fY (w.heap.size)
 obtain⟨K,hk⟩:∃K:Nat,p.k=(K:Int):=⟨p.k.toNat,by have:=gd.k0;omega⟩
 have aX:p.k.toNat=K:=by omega
 have a4:K<=7:=by have:=gd.k7;omega
 obtain⟨LB,al⟩:=fY (Pq (gN K kind p.wait.length (gj p.wait) l false))
 have bk:LB<=4320000:=by rw[al];exact qD aU hb (ky gd.bw) hl ad
 have eW:mJ p l kind=K+LB:=by unfold mJ;rw[aX,<-al]
 have aY:∀t∈l,p9 t:=fun t ht=>yO (ad t ht).1 (ad t ht).2
 obtain⟨W1,av⟩:=fY (w.alloc (ak (gG 0 0) 102))
 have b1:aR h w W1:=by rw[av,hh];exact gC.alloc fZ _
 have z1:gi W1 h (gG 0 0) 102:=by rw[av,hh];exact gi.new w _ _
 have U1:=U.below (hh▸b1)
 have LO:aQ (∀V,aR W1.heap.size W1 V->aw prog 91 #[ae aj (K:Int),ae .u8 (kind:Int),af Aw p.wait.length wc,af A2 t c2] V fun e w'=>e=ao (.tuple #[ae aj (LB:Int),ae aj 0])/\aR V.heap.size V w'):=fX fun V hV=>by
  have aZ:aR w.heap.size w V:=(hh▸b1).trans (hV.mono (by have:=(hh▸b1:aR w.heap.size w W1).size;omega));have h1:=Fp V (K:Int) kind Aw p.wait.length wc (gj p.wait) A2 t c2 l (by omega) (by omega) (by omega) (U1.below hV).wait (by omega) ((ht.below aZ fZ).more aZ.size) (by have:=ht.1;omega) aY;have hE:=zA (a:=K) a4 aU hb hl ad;have a5:sJ (K:Int) kind p.wait.length (gj p.wait) l=LB:=by unfold sJ;rw[hE,if_pos rfl,al,Int.toNat_natCast]
  rw[hE,a5]at h1;exact h1
 obtain⟨hn,a1⟩:=fY (p.hist.length)
 obtain⟨wn,aV⟩:=fY (p.wait.length)
 obtain⟨pn,aT⟩:=fY (p.gm.length)
 obtain⟨on,a2⟩:=fY (out.length)
 have eX:jB p Ah hc Aw wc Ap pc Ao out.length oc=#[ae aj p.s,ae aj p.h,ae aj p.m,ai p.z,af Ah hn hc,af Aw wn wc,af Ap pn pc,ae aj (K:Int),ai p.gO,(af Ao on oc)]:=by
  unfold jB;rw[<-a1,<-aV,<-aT,hk,<-a2]
 have hx:=U1.box
 rw[eX]at hx
 rw[<-aV]at LO
 rw[eW]
 have hz:=(zero_of_info ub).1
 have HX:=fX hx;have a6:=fX av;have HH:=fX hh;have a7:=fX b1;have a8:=fX z1;have a3:aQ (h<W1.heap.size):=fX z1.lt
 clear U gd hb aU ht hl ad aX hk al eW aY av b1 z1 U1 a1 aV aT a2 eX hx hh
 go_enter func68,ntmps68
 go_wp2_with (first|(rw[<-a6.out,<-HH.out])|fail)
 refine rN (mG [fun v _=>v=ag (some ⟨g,0,none⟩),fun v _=>v=ag (some ⟨g,0,none⟩),fun v _=>v=ag (some ⟨g,0,none⟩),fun v _=>v=ag (some ⟨g,6,none⟩),fun v _=>v=ag (some ⟨g,7,none⟩),fun v _=>v=ae aj (K:Int),fun v _=>v=ae .u8 (kind:Int),fun v _=>v=ag (some ⟨g,0,none⟩),fun v _=>v=ag (some ⟨g,0,none⟩),fun v _=>v=ag (some ⟨g,0,none⟩),fun v _=>v=ag (some ⟨g,5,none⟩),fun v _=>v=af Aw wn wc,fun v _=>v=af A2 t c2,fun v _=>v=.tuple #[ae aj (LB:Int),ae aj 0],fun v _=>v=.tuple #[ae aj (LB:Int),ae aj 0],fun v _=>v=ae aj (LB:Int),fun v _=>v=ae aj 0,fun v _=>v=ae aj (LB:Int),fun v _=>v=ae aj 0]) W1 gC (by kernel_rfl) (by kernel_rfl) ?_ ?_
 case refine_1=>
  refine gl.cons (fun aa wv hb ha hS Kk Qq hK=>gY (gp rfl) _ rfl (gx ((ha 0 (by kernel_rfl)).trans rfl)) hK) ?_;refine gl.cons (fun aa wv hb ha hS Kk Qq hK=>lG (gp rfl) _ rfl _ (hS 0 10 (by kernel_rfl) rfl).here (gx rfl) hK) ?_;refine gl.cons (fun aa wv hb ha hS Kk Qq hK=>gZ (gp rfl) _ _ _ rfl _ (ag (some ⟨g,0,none⟩)) (hS 1 11 (by kernel_rfl) rfl).here (by go_simp) (gx rfl) hK) ?_;refine gl.cons (fun aa wv hb ha hS Kk Qq hK=>gZ (gp rfl) _ _ _ rfl _ (ag (some ⟨g,6,none⟩)) (hS 2 12 (by kernel_rfl) rfl).here (by go_simp) (gx rfl) hK) ?_;refine gl.cons (fun aa wv hb ha hS Kk Qq hK=>gZ (gp rfl) _ _ _ rfl _ (ag (some ⟨g,7,none⟩)) (hS 3 13 (by kernel_rfl) rfl).here (by go_simp) (gx rfl) hK) ?_;refine gl.cons (fun aa wv hb ha hS Kk Qq hK=>la (gp rfl) _ _ rfl _ (ae aj (K:Int)) (hS 4 14 (by kernel_rfl) rfl).here (by have hc:=iY (HX.out.below hb HX.out.lt);go_simp) (gx rfl) hK) ?_;refine gl.cons (fun aa wv hb ha hS Kk Qq hK=>gY (gp rfl) _ rfl (gx ((ha 1 (by kernel_rfl)).trans rfl)) hK) ?_;refine gl.cons (fun aa wv hb ha hS Kk Qq hK=>gY (gp rfl) _ rfl (gx ((ha 0 (by kernel_rfl)).trans rfl)) hK) ?_;refine gl.cons (fun aa wv hb ha hS Kk Qq hK=>lG (gp rfl) _ rfl _ (hS 7 17 (by kernel_rfl) rfl).here (gx rfl) hK) ?_;refine gl.cons (fun aa wv hb ha hS Kk Qq hK=>gZ (gp rfl) _ _ _ rfl _ (ag (some ⟨g,0,none⟩)) (hS 8 18 (by kernel_rfl) rfl).here (by go_simp) (gx rfl) hK) ?_;refine gl.cons (fun aa wv hb ha hS Kk Qq hK=>gZ (gp rfl) _ _ _ rfl _ (ag (some ⟨g,5,none⟩)) (hS 9 19 (by kernel_rfl) rfl).here (by go_simp) (gx rfl) hK) ?_;refine gl.cons (fun aa wv hb ha hS Kk Qq hK=>la (gp rfl) _ _ rfl _ (af Aw wn wc) (hS 10 20 (by kernel_rfl) rfl).here (by have hc:=iX (HX.out.below hb HX.out.lt);go_simp) (gx rfl) hK) ?_;refine gl.cons (fun aa wv hb ha hS Kk Qq hK=>gY (gp rfl) _ rfl (gx ((ha 2 (by kernel_rfl)).trans rfl)) hK) ?_;refine gl.cons (fun aa wv hb ha hS Kk Qq hK=>lZ (gp rfl) 91 _ _ rfl (enters_of func91 (by kernel_rfl) rfl) #[ae aj (K:Int),ae .u8 (kind:Int),af Aw wn wc,af A2 t c2] (by simp[(show aa.eval (.tmp 15)=ae aj (K:Int)from(hS 5 15 (by kernel_rfl) rfl).here),(show aa.eval (.tmp 16)=ae .u8 (kind:Int)from(hS 6 16 (by kernel_rfl) rfl).here),(show aa.eval (.tmp 21)=af Aw wn wc from(hS 11 21 (by kernel_rfl) rfl).here),(show aa.eval (.tmp 22)=af A2 t c2 from(hS 12 22 (by kernel_rfl) rfl).here)]) (LO.out wv hb) (fun ee w' ⟨h1,h2⟩=>⟨_,h1,h2,gx rfl⟩) hK) ?_;refine gl.cons (fun aa wv hb ha hS Kk Qq hK=>gY (gp rfl) _ rfl (hS 13 23 (by kernel_rfl) rfl) hK) ?_;refine gl.cons (fun aa wv hb ha hS Kk Qq hK=>px (gp rfl) _ _ rfl _ (ae aj (LB:Int)) (hS 14 9 (by kernel_rfl) rfl).here (by go_simp) (gx rfl) hK) ?_;refine gl.cons (fun aa wv hb ha hS Kk Qq hK=>px (gp rfl) _ _ rfl _ (ae aj 0) (hS 14 9 (by kernel_rfl) rfl).here (by go_simp) (gx rfl) hK) ?_;refine gl.cons (fun aa wv hb ha hS Kk Qq hK=>qH (gp rfl) _ rfl (hS 15 24 (by kernel_rfl) rfl) hK) ?_;refine gl.cons (fun aa wv hb ha hS Kk Qq hK=>qH (gp rfl) _ rfl (hS 16 25 (by kernel_rfl) rfl) hK) ?_;exact gl.nil
 intro vals w5 hb hv
 have e7:vals 7=ae aj (LB:Int):=(hv 17 7 rfl).here
 have x5:=HX.out.below hb HX.out.lt
 have s7:=iY x5
 have z5:=a8.out.below hb a3.out
 obtain⟨W6,aS⟩:=fY (w5.setRow h (gG kind (K+LB)))
 have a9:aQ (gi W6 h (gG kind (K+LB)) 102):=fX (by rw[aS];exact z5.row _)
 have bd:aQ (aR h w W6):=fX (by rw[aS];exact jU (a7.out.trans (hb.mono (by have:=a3.out;omega))) fZ _)
 have aW:=OL kind (K+LB)
 rw[show((K+LB:Nat):Int)=(K:Int)+(LB:Int) by omega]at aW
 have bf:=fX z5;have bg:=fX aS;have bj:=fX aW
 clear x5 hb hv aS z5 aW
 simp only[List.map_cons,List.map_nil,Pv,Act.put,List.setIfInBounds_toArray,List.set_cons_zero,List.set_cons_succ,e7]
 clear e7
 go_wp2_with (first
  |(refine aD rfl 102 #[(0,.tmp 26),(1,.tmp 34)] rfl (some 35) rfl (gG kind (K+LB)) ?_ ?_;focus(simpa[Act.eval,Act.put]using bj.out))
  |(refine aC rfl _ _ _ rfl rfl h (gG kind (K+LB)) rfl rfl 102 (gG 0 0) bf.out (oL _ _) rfl (qR _ _) ?_;rw[<-bg.out]))
 refine aK (uc rfl _ _ h kind (K+LB) rfl a9.out) rfl ?_
 exact⟨rfl,by rw[<-HH.out];exact bd.out⟩
theorem Fs(a:Nat):Pq (gN a 0 0 (gj []) [] false)<=50:=by
 rw[pW];unfold jl;omega
theorem ON(V:aq)(a:Nat)(ha:a<=7):aw prog 91 #[ae aj (a:Int),ae .u8 0,af none 0 0,af none 0 0] V fun e w'=>e=ao (.tuple #[ae aj ((Pq (gN a 0 0 (gj []) [] false):Nat):Int),ae aj 0])/\aR V.heap.size V w':=by
 have h1:=Fp V (a:Int) 0 none 0 0 (gj []) none 0 0 [] (by omega) (by omega) (by omega) (gu.nil _ _ _ (fun j=>ky (L:=[]) (fun x hx=>by cases hx) j)) (by omega) (iL.nil _ _) (by omega) (fun t ht=>by cases ht);have hE:=zA (a:=a) (kind:=0) (n:=0) (l:=[]) ha (by omega) (by omega) (by show 0<=65535;omega) (fun t ht=>by cases ht);have ad:sJ (a:Int) 0 0 (gj []) []=Pq (gN a 0 0 (gj []) [] false):=by unfold sJ;rw[hE,if_pos rfl,Int.toNat_natCast]
 rw[hE,ad]at h1;exact h1
theorem OO(w:aq)(k n:Nat)(hn:n<=10000000):
  aw prog 69 #[ah (gG k n)] w fun e w'=>e=ao (ah (gG k (qN n)))/\aR w.heap.size w w':=by
 obtain⟨h,hh⟩:=fY (w.heap.size)
 obtain⟨a,ha⟩:=fY (n%8)
 obtain⟨LB,al⟩:=fY (Pq (gN a 0 0 (gj []) [] false))
 have aV:a<=7:=by omega
 have aY:LB<=50:=by rw[al];exact Fs a
 have eW:qN n=if a=0 then n else n+LB:=by unfold qN;rw[<-ha,<-al]
 have hz:=(zero_of_info ub).1
 have LO:=fun V=>ON V a aV
 rw[<-al]at LO
 rw[eW]
 obtain⟨W1,ad⟩:=fY ((w.alloc (ak (gG k n) 102)).alloc (ak (gG 0 0) 102))
 have b1:aR h w W1:=by rw[ad,hh];exact(gC.alloc fZ _).alloc (by simp) _
 have x1:gi W1 h (gG k n) 102:=by rw[ad,hh];exact(gi.new w _ _).old _
 have y1:gi W1 (h+1) (gG 0 0) 102:=by
  rw[ad,hh];have:=gi.new (w.alloc (ak (gG k n) 102)) (gG 0 0) 102
  rwa[World.size_alloc]at this
 have c1:=iA x1
 have e8:(n:Int)%8=(a:Int):=by omega
 have bj:wrap64 (a:Int)=(a:Int):=by unfold wrap64;omega
 have a1:=fX LO;have aZ:=fX ad;have HH:=fX hh;have a2:=fX b1;have aW:=fX x1;have aX:=fX y1;have a3:aQ (h+1<W1.heap.size):=fX y1.lt
 by_cases h0:a=0
 ·have d0:decide ((0:Int)<(a:Int))=false:=decide_eq_false (by omega);have d1:decide (0<a)=false:=decide_eq_false (by omega);have d2:¬0<a:=by omega
  rw[if_pos h0];have z2:=y1.row (gG k n);obtain⟨W2,aS⟩:=fY (W1.setRow (h+1) (gG k n));have a4:aQ (gi W2 (h+1) (gG k n) 102):=fX (by rw[aS];exact z2);have a5:aQ (aR h w W2):=fX (by rw[aS];exact jU b1 (by omega) _);have a6:=fX aS;clear ha al eW LO ad b1 x1 y1 hh h0 z2 aS hn aV aY;go_enter func69,ntmps69
  go_wp2_with (first
   |(rw[<-aZ.out,<-HH.out])
   |(refine aE rfl _ _ rfl h rfl _ (gG k n) (0,0) _ aW.out underlying102 rfl (oL _ _) ?_)
   |(refine aC rfl _ _ _ rfl rfl (h+1) (gG k n) rfl rfl 102 (gG 0 0) aX.out (oL _ _) rfl (qR _ _) ?_;rw[<-a6.out]))
  refine aK (uc rfl _ _ (h+1) k n rfl a4.out) rfl ?_;exact⟨rfl,by rw[<-HH.out];exact a5.out⟩
 ·have d0:decide ((0:Int)<(a:Int))=true:=decide_eq_true (by omega);have d1:decide (0<a)=true:=decide_eq_true (by omega);have d2:0<a:=by omega
  rw[if_neg h0];clear ha al eW LO ad b1 x1 y1 hh h0 aV;go_enter func69,ntmps69
  go_wp2_with (first
   |(rw[<-aZ.out,<-HH.out])
   |fail)
  refine(a1.out _).mono ?_;rintro e w2 ⟨rfl,aT⟩;have x2:=aW.out.below aT aW.out.lt;have y2:=aX.out.below aT aX.out.lt;have k1:=iA x2;have f1:w2.frozen? ⟨h,1,none⟩=false:=x2.free;obtain⟨W3,av⟩:=fY (w2.setCell ⟨h,1,none⟩ (ae aj ((n:Int)+(LB:Int))));have x3:gi W3 h (gG k (n+LB)) 102:=by
   have:=x2.set 1 (ae aj ((n:Int)+(LB:Int)));rw[av];unfold gG at this⊢;rw[show((n+LB:Nat):Int)=(n:Int)+(LB:Int) by omega];exact this
  have y3:gi W3 (h+1) (gG 0 0) 102:=by rw[av];exact y2.other (by show h+1≠h;omega) _
  have b3:aR h w W3:=by rw[av];exact jx (a2.out.trans (aT.mono (by have:=a3.out;omega))) fZ _ _
  obtain⟨W4,aU⟩:=fY (W3.setRow (h+1) (gG k (n+LB)));have a7:aQ (gi W4 (h+1) (gG k (n+LB)) 102):=fX (by rw[aU];exact y3.row _);have a8:aQ (aR h w W4):=fX (by rw[aU];exact jU b3 (by omega) _);have a9:=fX x3;have bd:=fX y3;have bf:=fX av;have bg:=fX aU
  clear aT x2 y2 x3 y3 b3 av aU;go_wp2_with (first
   |(rw[<-bf.out])
   |(refine aE rfl _ _ rfl h rfl _ (gG k (n+LB)) (0,0) _ a9.out underlying102 rfl (oL _ _) ?_)
   |(refine aC rfl _ _ _ rfl rfl (h+1) (gG k (n+LB)) rfl rfl 102 (gG 0 0) bd.out (oL _ _) rfl (qR _ _) ?_;rw[<-bg.out]))
  refine aK (uc rfl _ _ (h+1) k (n+LB) rfl a7.out) rfl ?_;exact⟨rfl,by rw[<-HH.out];exact a8.out⟩
theorem Ft(w:aq)(k n k' n':Nat)(hn:n<=20000000)(aS:n'<=20000000):
  aw prog 90 #[ah (gG k n),ah (gG k' n')] w fun e w'=>e=ao (ae aj ((n:Int)-(n':Int)))/\aR w.heap.size w w':=by
 obtain⟨h,hh⟩:=fY (w.heap.size)
 obtain⟨W1,ad⟩:=fY ((w.alloc (ak (gG k n) 102)).alloc (ak (gG k' n') 102))
 have b1:aR h w W1:=by rw[ad,hh];exact(gC.alloc fZ _).alloc (by simp) _
 have x1:gi W1 h (gG k n) 102:=by rw[ad,hh];exact(gi.new w _ _).old _
 have y1:gi W1 (h+1) (gG k' n') 102:=by
  rw[ad,hh];have:=gi.new (w.alloc (ak (gG k n) 102)) (gG k' n') 102
  rwa[World.size_alloc]at this
 have c1:=iA x1
 have c2:=iA y1
 have al:=fX ad;have HH:=fX hh;have av:=fX b1
 clear ad b1 x1 y1 hh
 go_enter func90,ntmps90
 go_wp2_with (first|(rw[<-al.out,<-HH.out]))
 go_ret
 exact⟨rfl,by rw[<-HH.out];exact av.out⟩
theorem zC(b o:Nat)(w:aq):(Instr.indexAt 142 (af (some ⟨b,o,none⟩) 2 2) (ae aj 1)).run prog w=.ok (ag (some ⟨b,o+2,none⟩)) w:=by
 have h2:prog.cellsOf 102=2:=by kernel_rfl
 go_simp
theorem Fu{l:List Oper}{o:Oper}{a:Act}{w:aq}{T:ax->aq->Prop}{K:Act->aq->Prop}{Q:Exit->Act->aq->Prop}{E:Prop}(hw:Region.wanted o (yielded l.toArray a.tmps)=true)(f:FuncId)(x:Operand)(xs:Array Operand)(ts:Array TypeId)
  (ho:o.op=.call {callee:=.value x,args:=xs,argTypes:=ts}) (hv:a.eval x=.func (.func f) #[] #[]) (eg:∀args w,(callFunc f args).run prog w=.ok (.enter f args) w) (args:Array ax) (hx:xs.map a.eval=args) {R:Ending->aq->Prop} (hc:aw prog f args w R)
  (h:∀e w',R e w'->∃v,e=ao v/\aR w.heap.size w w'/\Up T v w') (hK:∀v w',aR w.heap.size w w'->Up T v w'->K (a.put o.dst v) w'):
  if Region.wanted o (yielded l.toArray a.tmps)=true then Oper.wp prog o a w K Q else E:=by
 rw[if_pos hw]
 unfold Oper.wp
 have ad:∀ρ:Operand->ax,ρ x=.func (.func f) #[] #[]->xs.map ρ=args->(execOp ρ o).run prog w=.ok (.enter f args) w:=by
  intro ρ h1 h2;simp[execOp,ho,resolve,invoke,h1,h2,go_sem,eg,Deferred.ofValue]
 rw[ad _ hv hx]
 refine hc.mono fun e w' hr=>?_
 obtain⟨v,rfl,hb,hu⟩:=h e w' hr
 exact hK v w' hb hu
theorem OP(P:Program)(t:TypeId)(x y:Int)(h:x<y)(w:aq):(binOp .lss t (ae aj x) (ae aj y)).run P w=.ok (ai true) w:=by
 simp[binOp,Op.intCmp,go_sem];omega
theorem OQ(P:Program)(t:TypeId)(x y:Int)(h:¬x<y)(w:aq):(binOp .lss t (ae aj x) (ae aj y)).run P w=.ok (ai false) w:=by
 simp[binOp,Op.intCmp,go_sem];omega
def nL(k0 n0 k1 n1:Nat):Nat×Nat:=if n1<n0 then(k1,n1)else(k0,n0)
theorem OR(w:aq)(b k0 n0 k1 n1:Nat)(hb:b<w.heap.size)(bl:n0<=10000000)(bm:n1<=10000000)(r0:w.rangeAt b 0 [ae .u8 (k0:Int),ae aj (n0:Int)])(r1:w.rangeAt b 2 [ae .u8 (k1:Int),ae aj (n1:Int)]):
  aw prog 89 #[af (some ⟨b,0,none⟩) 2 2,.func (.func 90) #[] #[]] w fun e w'=>e=ao (ah (gG (nL k0 n0 k1 n1).1 (nL k0 n0 k1 n1).2))/\aR w.heap.size w w':=by
 obtain⟨h,hh⟩:=fY (w.heap.size)
 obtain⟨M,hM⟩:=fY (nL k0 n0 k1 n1)
 rw[<-hM]
 have hz:=(zero_of_info ub).1
 obtain⟨W1,al⟩:=fY (w.alloc (ak (gG 0 0) 102))
 have s1:W1.heap.size=h+1:=by rw[al,World.size_alloc,hh]
 have b1:aR h w W1:=by rw[al,hh];exact gC.alloc fZ _
 have x1:gi W1 h (gG 0 0) 102:=by rw[al,hh];exact gi.new w _ _
 obtain⟨W2,av⟩:=fY (iq W1 (gG 0 0) (gG k0 n0) 102)
 have b2:aR h w W2:=by rw[av];exact b1.trans ((kN _ _ _ _).mono (by omega))
 have x2:gi W2 h (gG 0 0) 102:=by rw[av];exact x1.below (kN _ _ _ _) x1.lt
 have y2:gi W2 (h+1) (gG k0 n0) 102:=by rw[av,<-s1];exact kY W1 _ _ _
 have rg:∀{V:aq} {o:Nat} {L:List ax},aR h w V->w.rangeAt b o L->V.rangeAt b o L:=fun{V o L} hV r i v hv=>by rw[hV.cell (p:=⟨b,o+i,none⟩) (by show b<h;omega)];exact r i v hv
 have R0:aQ (W1.rangeAt b 0 [ae .u8 (k0:Int),ae aj (n0:Int)]):=fX (rg b1 r0)
 have RR:aQ (∀V,aR h w V->V.rangeAt b 2 [ae .u8 (k1:Int),ae aj (n1:Int)]):=fX fun V hV=>rg hV r1
 have bg:=fX (rg (b1.alloc (by rw[s1];omega) (ak (gG 0 0) 102)) r0)
 have h2:prog.cellsOf 102=2:=by kernel_rfl
 have a4:=fX al;have a5:=fX av;have HH:=fX hh;have HM:=fX hM;have a6:=fX b2;have a7:=fX x2;have a8:=fX y2;have a9:=fX s1
 clear hb r0 r1 rg al av s1 b1 x1 b2 x2 y2 hh hM
 go_enter func89,ntmps89
 go_wp2_with (first
  |(rw[<-a4.out,<-HH.out])
  |(refine aF rfl _ _ rfl b 0 rfl [ae .u8 (k0:Int),ae aj (n0:Int)] _ R0.out underlying102 rfl (r9 _ _) ?_)
  |(refine aC rfl _ _ _ rfl rfl W1.heap.size (gG k0 n0) rfl rfl 102 (gG 0 0) (aG W1 _) (oL _ _) rfl (qR _ _) ?_;rw[show(W1.alloc (ak (gG 0 0) 102)).setRow W1.heap.size (gG k0 n0)=iq W1 (gG 0 0) (gG k0 n0) 102 from rfl,<-a5.out,a9.out])
  |fail)
 go_loopw [6] (fun iv wr=>∃j:Nat,((j=1/\aQ (gi wr (h+1) (gG k0 n0) 102))\/(j=2/\aQ (gi wr (h+1) (gG M.1 M.2) 102)))/\iv=ae aj (j:Int)/\aQ (gi wr h (gG 0 0) 102)/\aQ (aR h w wr)) (fun iv _=>2-(intOf iv).toNat)
 case atStart=>exact⟨1,.inl ⟨rfl,a8⟩,rfl,a7,a6⟩
 case round=>
  have bd:=HM;clear HM a7 a8 a6 a4 a5 R0 bg a9;obtain⟨j,hj,rfl,HX,HB⟩:=hrel;rcases hj with⟨rfl,HM⟩|⟨rfl,HM⟩
  ·have RG:aQ (∀V,aR wr.heap.size wr V->V.rangeAt b 2 [ae .u8 (k1:Int),ae aj (n1:Int)]):=fX fun V hV=>RR.out V (HB.out.trans (hV.mono (by have:=HX.out.lt;omega)))
   by_cases aU:n1<n0
   ·skip;have LS:aQ (∀V:aq,(binOp .lss 3 (ae aj ((n1:Int)-(n0:Int))) (ae aj 0)).run prog V=.ok (ai true) V):=fX fun V=>OP _ _ _ _ (by omega) V
    have aW:M=(k1,n1):=by rw[bd.out];unfold nL;rw[if_pos aU]
    clear aU;go_wp2_with fail
    refine rN (mG [fun v _=>v=.func (.func 90) #[] #[],fun v _=>v=af (some ⟨b,0,none⟩) 2 2,fun v _=>v=ae aj 1,fun v _=>v=ag (some ⟨b,2,none⟩),fun v _=>v=ah (gG k1 n1),fun v _=>v=ah (gG k0 n0),fun v _=>v=ae aj ((n1:Int)-(n0:Int)),fun v _=>v=ai true]) wr gC (by kernel_rfl) (by kernel_rfl) ?_ ?_
    case refine_1=>
     refine gl.cons (fun aa wv hb ha hS Kk Qq hK=>gY (gp rfl) _ rfl (gx ((ha 1 (by kernel_rfl)).trans rfl)) hK) ?_;refine gl.cons (fun aa wv hb ha hS Kk Qq hK=>gY (gp rfl) _ rfl (gx ((ha 0 (by kernel_rfl)).trans rfl)) hK) ?_;refine gl.cons (fun aa wv hb ha hS Kk Qq hK=>gY (gp rfl) _ rfl (gx ((ha 6 (by kernel_rfl)).trans rfl)) hK) ?_;refine gl.cons (fun aa wv hb ha hS Kk Qq hK=>mW (gp rfl) (ag (some ⟨b,2,none⟩)) (by have aX:=(show aa.eval (.tmp 21)=af (some ⟨b,0,none⟩) 2 2 from(hS 1 21 (by kernel_rfl) rfl).here);have aY:=(show aa.eval (.tmp 22)=ae aj 1 from(hS 2 22 (by kernel_rfl) rfl).here);have hi:=zC b 0 wv;unfold execOp;simp only[aX,aY,Sem.run_bind,hi,Result.andThen_ok];rfl) (gx rfl) hK) ?_;refine gl.cons (fun aa wv hb ha hS Kk Qq hK=>oD (gp rfl) _ _ rfl b 2 (hS 3 23 (by kernel_rfl) rfl).here [ae .u8 (k1:Int),ae aj (n1:Int)] _ (RG.out wv hb) underlying102 rfl (r9 _ _) (gx rfl) hK) ?_;refine gl.cons (fun aa wv hb ha hS Kk Qq hK=>oD (gp rfl) _ _ rfl (h+1) 0 ((ha 5 (by kernel_rfl)).trans rfl) [ae .u8 (k0:Int),ae aj (n0:Int)] _ (sM (HM.out.below hb HM.out.lt)) underlying102 rfl (r9 _ _) (gx rfl) hK) ?_;refine gl.cons (fun aa wv hb ha hS Kk Qq hK=>Fu (gp rfl) 90 _ _ _ rfl (show aa.eval (.tmp 20)=.func (.func 90) #[] #[]from(hS 0 20 (by kernel_rfl) rfl).here) (enters_of func90 (by kernel_rfl) rfl) #[ah (gG k1 n1),ah (gG k0 n0)] (by simp[(show aa.eval (.tmp 24)=ah (gG k1 n1)from(hS 4 24 (by kernel_rfl) rfl).here),(show aa.eval (.tmp 25)=ah (gG k0 n0)from(hS 5 25 (by kernel_rfl) rfl).here)]) (Ft wv k1 n1 k0 n0 (by omega) (by omega)) (fun ee w' ⟨h1,h2⟩=>⟨_,h1,h2,gx rfl⟩) hK) ?_;refine gl.cons (fun aa wv hb ha hS Kk Qq hK=>rO (gp rfl) _ _ _ _ _ rfl _ _ (ai true) (hS 6 26 (by kernel_rfl) rfl).here rfl (rP _ _ _ _ _ _ _ (by decide) (by decide) _) (LS.out wv) (gx rfl) hK) ?_;exact gl.nil
    intro vals w5 hb hv;have aS:vals 27=ai true:=(hv 7 27 rfl).here;have aZ:=fX (HX.out.below hb HX.out.lt);have aV:=fX (HM.out.below hb HM.out.lt);have aT:=fX (HB.out.trans (hb.mono (by have:=HX.out.lt;omega)));have bf:=fX (RR.out w5 aT.out);clear hb hv;simp only[List.map_cons,List.map_nil,Pv,Act.put,List.setIfInBounds_toArray,List.set_cons_zero,List.set_cons_succ,aS];clear aS;obtain⟨W6,ad⟩:=fY (w5.setRow (h+1) (gG k1 n1));have bj:aQ (gi W6 (h+1) (gG k1 n1) 102):=fX (by rw[ad];exact aV.out.row _);have a1:aQ (gi W6 h (gG 0 0) 102):=fX (by rw[ad];exact aZ.out.xX (by omega) _);have a2:aQ (aR h w W6):=fX (by rw[ad];exact jU aT.out (by omega) _);have a3:=fX ad;clear ad;have bk:=zC b 0 w5;go_wp2_with (first
     |(refine aF rfl _ _ rfl b 2 rfl [ae .u8 (k1:Int),ae aj (n1:Int)] _ bf.out underlying102 rfl (r9 _ _) ?_)
     |(refine aC rfl _ _ _ rfl rfl (h+1) (gG k1 n1) rfl rfl 102 (gG k0 n0) aV.out (oL _ _) rfl (qR _ _) ?_;rw[<-a3.out]))
    go_roundw
    case rel=>exact⟨2,.inr ⟨rfl,fX (by rw[aW];exact bj.out)⟩,by go_num,a1,a2⟩
    case measure=>simp[intOf]
   ·skip;have LS:aQ (∀V:aq,(binOp .lss 3 (ae aj ((n1:Int)-(n0:Int))) (ae aj 0)).run prog V=.ok (ai false) V):=fX fun V=>OQ _ _ _ _ (by omega) V
    have aW:M=(k0,n0):=by rw[bd.out];unfold nL;rw[if_neg aU]
    clear aU;go_wp2_with fail
    refine rN (mG [fun v _=>v=.func (.func 90) #[] #[],fun v _=>v=af (some ⟨b,0,none⟩) 2 2,fun v _=>v=ae aj 1,fun v _=>v=ag (some ⟨b,2,none⟩),fun v _=>v=ah (gG k1 n1),fun v _=>v=ah (gG k0 n0),fun v _=>v=ae aj ((n1:Int)-(n0:Int)),fun v _=>v=ai false]) wr gC (by kernel_rfl) (by kernel_rfl) ?_ ?_
    case refine_1=>
     refine gl.cons (fun aa wv hb ha hS Kk Qq hK=>gY (gp rfl) _ rfl (gx ((ha 1 (by kernel_rfl)).trans rfl)) hK) ?_;refine gl.cons (fun aa wv hb ha hS Kk Qq hK=>gY (gp rfl) _ rfl (gx ((ha 0 (by kernel_rfl)).trans rfl)) hK) ?_;refine gl.cons (fun aa wv hb ha hS Kk Qq hK=>gY (gp rfl) _ rfl (gx ((ha 6 (by kernel_rfl)).trans rfl)) hK) ?_;refine gl.cons (fun aa wv hb ha hS Kk Qq hK=>mW (gp rfl) (ag (some ⟨b,2,none⟩)) (by have aX:=(show aa.eval (.tmp 21)=af (some ⟨b,0,none⟩) 2 2 from(hS 1 21 (by kernel_rfl) rfl).here);have aY:=(show aa.eval (.tmp 22)=ae aj 1 from(hS 2 22 (by kernel_rfl) rfl).here);have hi:=zC b 0 wv;unfold execOp;simp only[aX,aY,Sem.run_bind,hi,Result.andThen_ok];rfl) (gx rfl) hK) ?_;refine gl.cons (fun aa wv hb ha hS Kk Qq hK=>oD (gp rfl) _ _ rfl b 2 (hS 3 23 (by kernel_rfl) rfl).here [ae .u8 (k1:Int),ae aj (n1:Int)] _ (RG.out wv hb) underlying102 rfl (r9 _ _) (gx rfl) hK) ?_;refine gl.cons (fun aa wv hb ha hS Kk Qq hK=>oD (gp rfl) _ _ rfl (h+1) 0 ((ha 5 (by kernel_rfl)).trans rfl) [ae .u8 (k0:Int),ae aj (n0:Int)] _ (sM (HM.out.below hb HM.out.lt)) underlying102 rfl (r9 _ _) (gx rfl) hK) ?_;refine gl.cons (fun aa wv hb ha hS Kk Qq hK=>Fu (gp rfl) 90 _ _ _ rfl (show aa.eval (.tmp 20)=.func (.func 90) #[] #[]from(hS 0 20 (by kernel_rfl) rfl).here) (enters_of func90 (by kernel_rfl) rfl) #[ah (gG k1 n1),ah (gG k0 n0)] (by simp[(show aa.eval (.tmp 24)=ah (gG k1 n1)from(hS 4 24 (by kernel_rfl) rfl).here),(show aa.eval (.tmp 25)=ah (gG k0 n0)from(hS 5 25 (by kernel_rfl) rfl).here)]) (Ft wv k1 n1 k0 n0 (by omega) (by omega)) (fun ee w' ⟨h1,h2⟩=>⟨_,h1,h2,gx rfl⟩) hK) ?_;refine gl.cons (fun aa wv hb ha hS Kk Qq hK=>rO (gp rfl) _ _ _ _ _ rfl _ _ (ai false) (hS 6 26 (by kernel_rfl) rfl).here rfl (rP _ _ _ _ _ _ _ (by decide) (by decide) _) (LS.out wv) (gx rfl) hK) ?_;exact gl.nil
    intro vals w5 hb hv;have aS:vals 27=ai false:=(hv 7 27 rfl).here;have aZ:=fX (HX.out.below hb HX.out.lt);have aV:=fX (HM.out.below hb HM.out.lt);have aT:=fX (HB.out.trans (hb.mono (by have:=HX.out.lt;omega)));have bf:=fX (RR.out w5 aT.out);clear hb hv;simp only[List.map_cons,List.map_nil,Pv,Act.put,List.setIfInBounds_toArray,List.set_cons_zero,List.set_cons_succ,aS];clear aS;go_wp2;go_roundw
    case rel=>exact⟨2,.inr ⟨rfl,fX (by rw[aW];exact aV.out)⟩,by go_num,aZ,aT⟩
    case measure=>simp[intOf]
  ·obtain⟨W6,ad⟩:=fY (wr.setRow h (gG M.1 M.2));have a1:aQ (gi W6 h (gG M.1 M.2) 102):=fX (by rw[ad];exact HX.out.row _);have a2:aQ (aR h w W6):=fX (by rw[ad];exact jU HB.out fZ _);have a3:=fX ad;clear ad;go_wp2_with (first
    |(refine aE rfl _ _ rfl (h+1) rfl _ (gG M.1 M.2) (0,0) _ HM.out underlying102 rfl (oL _ _) ?_)
    |(refine aC rfl _ _ _ rfl rfl h (gG M.1 M.2) rfl rfl 102 (gG 0 0) HX.out (oL _ _) rfl (qR _ _) ?_;rw[<-a3.out]))
   refine aK (uc rfl _ _ h M.1 M.2 rfl a1.out) rfl ?_;exact⟨rfl,by rw[<-HH.out];exact a2.out⟩
theorem Fv(w:aq)(b k0 n0 k1 n1:Nat)(hb:b<w.heap.size)(aT:n0<=10000000)(aU:n1<=10000000)(r0:w.rangeAt b 0 [ae .u8 (k0:Int),ae aj (n0:Int)])(r1:w.rangeAt b 2 [ae .u8 (k1:Int),ae aj (n1:Int)]):
  aw prog 67 #[af (some ⟨b,0,none⟩) 2 2] w fun e w'=>e=ao (ah (gG (nL k0 n0 k1 n1).1 (nL k0 n0 k1 n1).2))/\aR w.heap.size w w':=by
 obtain⟨h,hh⟩:=fY (w.heap.size)
 have hz:=(zero_of_info ub).1
 obtain⟨W1,ad⟩:=fY (w.alloc (ak (gG 0 0) 102))
 have b1:aR h w W1:=by rw[ad,hh];exact gC.alloc fZ _
 have x1:gi W1 h (gG 0 0) 102:=by rw[ad,hh];exact gi.new w _ _
 have rg:∀{V:aq} {o:Nat} {L:List ax},aR h w V->w.rangeAt b o L->V.rangeAt b o L:=fun{V o L} hV r i v hv=>by rw[hV.cell (p:=⟨b,o+i,none⟩) (by show b<h;omega)];exact r i v hv
 have hm:=OR W1 b k0 n0 k1 n1 (by have:=x1.lt;omega) aT aU (rg b1 r0) (rg b1 r1)
 obtain⟨M,hM⟩:=fY (nL k0 n0 k1 n1)
 rw[<-hM]at hm⊢
 have aV:=fX hm;have aW:=fX ad;have HH:=fX hh;have aX:=fX b1;have av:=fX x1
 clear hb aT aU r0 r1 rg hm hM ad b1 x1 hh
 go_enter func67,ntmps67
 go_wp2_with (first|(rw[<-aW.out,<-HH.out])|fail)
 refine aV.out.mono ?_
 rintro e w2 ⟨rfl,aS⟩
 have x2:=av.out.below aS av.out.lt
 obtain⟨W3,al⟩:=fY (w2.setRow h (gG M.1 M.2))
 have aY:aQ (gi W3 h (gG M.1 M.2) 102):=fX (by rw[al];exact x2.row _)
 have aZ:aQ (aR h w W3):=fX (by rw[al];exact jU (aX.out.trans (aS.mono (by have:=av.out.lt;omega))) fZ _)
 have a1:=fX x2;have a2:=fX al
 clear al x2 aS
 go_wp2_with (refine aC rfl _ _ _ rfl rfl h (gG M.1 M.2) rfl rfl 102 (gG 0 0) a1.out (oL _ _) rfl (qR _ _) ?_;rw[<-a2.out])
 refine aK (uc rfl _ _ h M.1 M.2 rfl aY.out) rfl ?_
 exact⟨rfl,by rw[<-HH.out];exact aZ.out⟩
theorem OS(w:aq)(a b c d:Int):(Instr.buildSlice 142 2 #[(0,ah #[ae .u8 a,ae aj b]),(1,ah #[ae .u8 c,ae aj d])]).run prog w=.ok (af (some ⟨w.heap.size,0,none⟩) 2 2) (w.alloc (ak #[ae .u8 a,ae aj b,ae .u8 c,ae aj d] 102)):=by
 kernel_rfl
theorem OT(k n:Nat)(w:aq):(Instr.field 102 (ah (gG k n)) 0).run prog w=.ok (ae .u8 (k:Int)) w:=by unfold gG;kernel_rfl
theorem OU(w:aq)(B g:Nat)(p:gF)(out:List Nat)(Ah:Option au)(hc:Nat)(Aw:Option au)(wc:Nat)(Ap:Option au)(pc:Nat)(Ao:Option au)(oc:Nat)(U:gQ w B g p out Ah hc Aw wc Ap pc Ao oc)(gd:kP p)(hb:p.wait.length<=65535)(A2:Option au)(t c2:Nat)(l:List gA)(ht:iL w w.heap.size A2 t c2 l)(hl:l.length<=65535)(aZ:∀t∈l,gS t=true/\t.x<256):
  aw prog 52 #[ag (some ⟨g,0,none⟩),af A2 t c2] w fun e w'=>e=ao (ae .u8 ((qa p l:Nat):Int))/\aR w.heap.size w w':=by
 have hz:=(zero_of_info ub).1
 have aT:aQ (∀V,aR w.heap.size w V->∀(kind:Nat) (v:Int) (n:Nat),kind<=2->v=(kind:Int)->n=mJ p l kind->aw prog 68 #[ag (some ⟨g,0,none⟩),ae .u8 v,af A2 t c2] V fun e w'=>e=ao (ah #[ae .u8 v,ae aj (n:Int)])/\aR V.heap.size V w'):=fX fun V hV kind v n hk hv hn=>by
  subst hv;subst hn;exact OM V B g p out Ah hc Aw wc Ap pc Ao oc (U.below hV) gd hb kind hk A2 t c2 l ((ht.below hV fZ).more hV.size) hl aZ
 have aU:∀kind,kind<=2->mJ p l kind<=5000000:=fun kind hk=>by
  unfold mJ;have:=qD (a:=p.k.toNat) (last:=false) hk hb (ky gd.bw) hl aZ;have:=gd.k7;omega
 obtain⟨n0,aV⟩:=fY (mJ p l 0)
 obtain⟨n1,ad⟩:=fY (mJ p l 1)
 obtain⟨n2,al⟩:=fY (mJ p l 2)
 have q0:=aU 0 (by omega);have q1:=aU 1 (by omega);have q2:=aU 2 (by omega)
 rw[<-aV]at q0;rw[<-ad]at q1;rw[<-al]at q2
 have a1:aQ (∀V,aR w.heap.size w V->aw prog 68 #[ag (some ⟨g,0,none⟩),ae .u8 0,af A2 t c2] V fun e w'=>e=ao (ah #[ae .u8 0,ae aj (n0:Int)])/\aR V.heap.size V w'):=fX fun V hV=>aT.out V hV 0 0 n0 (by omega) rfl aV
 have a7:aQ (∀V,aR w.heap.size w V->aw prog 68 #[ag (some ⟨g,0,none⟩),ae .u8 1,af A2 t c2] V fun e w'=>e=ao (ah #[ae .u8 1,ae aj (n1:Int)])/\aR V.heap.size V w'):=fX fun V hV=>aT.out V hV 1 1 n1 (by omega) rfl ad
 have a8:aQ (∀V,aR w.heap.size w V->aw prog 68 #[ag (some ⟨g,0,none⟩),ae .u8 2,af A2 t c2] V fun e w'=>e=ao (ah #[ae .u8 2,ae aj (n2:Int)])/\aR V.heap.size V w'):=fX fun V hV=>aT.out V hV 2 2 n2 (by omega) rfl al
 obtain⟨M,hM⟩:=fY (nL 1 n1 2 n2)
 obtain⟨NW,av⟩:=fY (qN M.2)
 have eW:qa p l=(nL 0 n0 M.1 NW).1:=by
  have e:pE p l=M.1/\mJ p l (pE p l)=M.2:=by
   unfold pE;rw[hM,<-ad,<-al];unfold nL;by_cases h:n2<n1
   ·rw[if_pos h,if_pos h];exact⟨rfl,al.symm⟩
   ·rw[if_neg h,if_neg h];exact⟨rfl,ad.symm⟩
  unfold qa nL;rw[e.2,e.1,<-av,<-aV];by_cases h:NW<n0
  ·rw[if_pos h,if_pos h]
  ·rw[if_neg h,if_neg h]
 have a9:M.2<=5000000:=by rw[hM];unfold nL;split<;>omega
 have aY:NW<=5000050:=by
  rw[av];unfold qN;split
  ·omega
  ·have:=Fs (M.2%8);omega
 obtain⟨R,hR⟩:=fY (nL 0 n0 M.1 NW)
 rw[eW,<-hR]
 have bl:aQ (∀V:aq,aw prog 69 #[ah (gG M.1 M.2)] V fun e w'=>e=ao (ah #[ae .u8 (M.1:Int),ae aj (NW:Int)])/\aR V.heap.size V w'):=fX fun V=>by
  rw[av];exact OO V M.1 M.2 (by omega)
 have bm:aQ (∀(V:aq) (gb:Nat),gi V gb #[ae .u8 0,ae aj (n0:Int),ae .u8 (M.1:Int),ae aj (NW:Int)] 102->aw prog 67 #[af (some ⟨gb,0,none⟩) 2 2] V fun e w'=>e=ao (ah (gG R.1 R.2))/\aR V.heap.size V w'):=fX fun V gb x=>by
  rw[hR];exact Fv V gb 0 n0 M.1 NW x.lt (by omega) (by omega) (kH x 0 _ (fun i hi=>by rcases i with _|_|i<;>first|rfl|(simp at hi;omega))) (kH x 2 _ (fun i hi=>by rcases i with _|_|i<;>first|rfl|(simp at hi;omega)))
 have HR:=fX hR;have HM:=fX hM;have bC:=fX av;have HQ:=fX (And.intro q0 (And.intro q1 (And.intro q2 (And.intro a9 aY))))
 clear hR U gd hb ht hl aZ aU aT aV ad al hM av eW q0 q1 q2 a9 aY
 go_enter func52,ntmps52
 go_wp2_with fail
 refine(a7.out w gC).mono ?_
 rintro e w1 ⟨rfl,bd⟩
 have a2:=fX bd
 clear bd
 go_wp2_with fail
 refine(a8.out w1 a2.out).mono ?_
 rintro e w2 ⟨rfl,bf⟩
 have a3:=fX (a2.out.trans (bf.mono a2.out.size))
 clear bf
 have x3:gi (w2.alloc (ak #[ae .u8 1,ae aj (n1:Int),ae .u8 2,ae aj (n2:Int)] 102)) w2.heap.size #[ae .u8 1,ae aj (n1:Int),ae .u8 2,ae aj (n2:Int)] 102:=gi.new w2 _ _
 have a4:=Fv _ w2.heap.size 1 n1 2 n2 x3.lt (by have:=HQ.out;omega) (by have:=HQ.out;omega) (kH x3 0 _ (fun i hi=>by rcases i with _|_|i<;>first|rfl|(simp at hi;omega))) (kH x3 2 _ (fun i hi=>by rcases i with _|_|i<;>first|rfl|(simp at hi;omega)))
 rw[<-HM.out]at a4
 have bg:=fX a4
 have a5:aQ (aR w.heap.size w (w2.alloc (ak #[ae .u8 1,ae aj (n1:Int),ae .u8 2,ae aj (n2:Int)] 102))):=fX (a3.out.alloc a3.out.size _)
 clear x3 a4
 go_wp2_with fail
 refine bg.out.mono ?_
 rintro e w3 ⟨rfl,bj⟩
 have aS:=a5.out.trans (bj.mono a5.out.size)
 obtain⟨W4,aW⟩:=fY (iq w3 (gG 0 0) (gG M.1 M.2) 102)
 obtain⟨h5,a6⟩:=fY (w3.heap.size)
 have bk:aQ (gi W4 h5 (gG M.1 M.2) 102):=fX (by rw[aW,a6];exact kY w3 _ _ _)
 have aX:aQ (aR w.heap.size w W4):=fX (by rw[aW];exact aS.trans ((kN _ _ _ _).mono aS.size))
 have bn:=fX aW;have bp:=fX a6
 clear bj aS aW a6 bg a5 a3
 go_wp2_with (first
  |(refine aC rfl _ _ _ rfl rfl w3.heap.size (gG M.1 M.2) rfl rfl 102 (gG 0 0) (aG w3 _) (oL _ _) rfl (qR _ _) ?_;rw[show(w3.alloc (ak (gG 0 0) 102)).setRow w3.heap.size (gG M.1 M.2)=iq w3 (gG 0 0) (gG M.1 M.2) 102 from rfl,<-bn.out,<-bp.out])
  |fail)
 refine rN (mG [fun v _=>v=ag (some ⟨g,0,none⟩),fun v _=>v=af A2 t c2,fun v _=>v=ah #[ae .u8 0,ae aj (n0:Int)],fun v _=>v=ah (gG M.1 M.2),fun v _=>v=ah #[ae .u8 (M.1:Int),ae aj (NW:Int)],fun v W=>∃gb,v=af (some ⟨gb,0,none⟩) 2 2/\gi W gb #[ae .u8 0,ae aj (n0:Int),ae .u8 (M.1:Int),ae aj (NW:Int)] 102,fun v _=>v=ah (gG R.1 R.2),fun v _=>v=ae .u8 (R.1:Int),fun v _=>v=ae .u8 (R.1:Int)]) W4 gC (by kernel_rfl) (by kernel_rfl) ?_ ?_
 case refine_1=>
  refine gl.cons (fun aa wv hb ha hS Kk Qq hK=>gY (gp rfl) _ rfl (gx ((ha 0 (by kernel_rfl)).trans rfl)) hK) ?_;refine gl.cons (fun aa wv hb ha hS Kk Qq hK=>gY (gp rfl) _ rfl (gx ((ha 1 (by kernel_rfl)).trans rfl)) hK) ?_;refine gl.cons (fun aa wv hb ha hS Kk Qq hK=>lZ (gp rfl) 68 _ _ rfl (enters_of func68 (by kernel_rfl) rfl) #[ag (some ⟨g,0,none⟩),ae .u8 0,af A2 t c2] (by have bq:=(show aa.eval (.tmp 14)=ag (some ⟨g,0,none⟩)from(hS 0 14 (by kernel_rfl) rfl).here);have br:=(show aa.eval (.tmp 15)=af A2 t c2 from(hS 1 15 (by kernel_rfl) rfl).here);have ec:aa.eval (.const (ae .u8 0))=ae .u8 0:=rfl;simp[bq,br,ec]) (a1.out wv (aX.out.trans (hb.mono aX.out.size))) (fun ee w' ⟨h1,h2⟩=>⟨_,h1,h2,gx rfl⟩) hK) ?_;refine gl.cons (fun aa wv hb ha hS Kk Qq hK=>oD (gp rfl) _ _ rfl h5 0 ((ha 5 (by kernel_rfl)).trans rfl) [ae .u8 (M.1:Int),ae aj (M.2:Int)] _ (sM (bk.out.below hb bk.out.lt)) underlying102 rfl (r9 _ _) (gx rfl) hK) ?_;refine gl.cons (fun aa wv hb ha hS Kk Qq hK=>lZ (gp rfl) 69 _ _ rfl (enters_of func69 (by kernel_rfl) rfl) #[ah (gG M.1 M.2)] (by simp[(show aa.eval (.tmp 17)=ah (gG M.1 M.2)from(hS 3 17 (by kernel_rfl) rfl).here)]) (bl.out wv) (fun ee w' ⟨h1,h2⟩=>⟨_,h1,h2,gx rfl⟩) hK) ?_;refine gl.cons (fun aa wv hb ha hS Kk Qq hK=>by have bt:=(show aa.eval (.tmp 16)=ah #[ae .u8 0,ae aj (n0:Int)]from(hS 2 16 (by kernel_rfl) rfl).here);have bu:=(show aa.eval (.tmp 18)=ah #[ae .u8 (M.1:Int),ae aj (NW:Int)]from(hS 4 18 (by kernel_rfl) rfl).here);exact vg (w':=wv.alloc (ak #[ae .u8 0,ae aj (n0:Int),ae .u8 (M.1:Int),ae aj (NW:Int)] 102)) (gp rfl) (af (some ⟨wv.heap.size,0,none⟩) 2 2) (by unfold execOp;simp only[List.map_toArray,List.map_cons,List.map_nil,bt,bu,Sem.run_bind,OS,Result.andThen_ok];rfl) (gC.alloc fZ _) (fun W hW=>⟨_,rfl,(gi.new wv _ _).below hW (by simp)⟩) hK) ?_;refine gl.cons (fun aa wv hb ha hS Kk Qq hK=>by obtain⟨gb,bx,bz⟩:=(hS 5 19 (by kernel_rfl) rfl).here;exact lZ (gp rfl) 67 _ _ rfl (enters_of func67 (by kernel_rfl) rfl) #[af (some ⟨gb,0,none⟩) 2 2] (by simp[bx]) (bm.out wv gb bz) (fun ee w' ⟨h1,h2⟩=>⟨_,h1,h2,gx rfl⟩) hK) ?_;refine gl.cons (fun aa wv hb ha hS Kk Qq hK=>by have bA:=(show aa.eval (.tmp 20)=ah (gG R.1 R.2)from(hS 6 20 (by kernel_rfl) rfl).here);exact mW (gp rfl) (ae .u8 (R.1:Int)) (by unfold execOp;simp only[bA,OT,Sem.run_bind,Result.andThen_ok];rfl) (gx rfl) hK) ?_;refine gl.cons (fun aa wv hb ha hS Kk Qq hK=>qH (gp rfl) _ rfl (hS 7 21 (by kernel_rfl) rfl) hK) ?_;exact gl.nil
 intro vals w5 hb hv
 have e4:vals 4=ae .u8 (R.1:Int):=(hv 8 4 rfl).here
 have bB:=fX (aX.out.trans (hb.mono aX.out.size))
 clear hb hv
 simp only[List.map_cons,List.map_nil,Pv,Act.put,List.setIfInBounds_toArray,List.set_cons_zero,List.set_cons_succ,e4]
 clear e4
 go_wp2
 go_ret
 exact⟨rfl,bB.out⟩
theorem Fw(w:aq)(B g:Nat)(p:gF)(out:List Nat)(Ah:Option au)(hc:Nat)(Aw:Option au)(wc:Nat)(Ap:Option au)(pc:Nat)(Ao:Option au)(oc:Nat)(U:gQ w B g p out Ah hc Aw wc Ap pc Ao oc)(gd:kP p)(hw:p.wait=[])(aX:out.length<=90000000):
  aw prog 51 #[ag (some ⟨g,0,none⟩),ae .u8 0,ae aj 0,af none 0 0,ai false] w fun e w'=>e=ao (.tuple #[])/\(∃ad al av aS aT aU aV aW,gQ w' B g (jZ p 0 0 [] false).1 (out++(jZ p 0 0 [] false).2) ad al av aS aT aU aV aW)/\aR B w w':=by
 have key:∀(u v:Int),u=((0:Nat):Int)->v=((0:Nat):Int)->aw prog 51 #[ag (some ⟨g,0,none⟩),ae .u8 u,ae aj v,af none 0 0,ai false] w fun e w'=>e=ao (.tuple #[])/\(∃ad al av aS aT aU aV aW,gQ w' B g (jZ p 0 0 [] false).1 (out++(jZ p 0 0 [] false).2) ad al av aS aT aU aV aW)/\aR B w w':=by
  intro u v hu hv;subst hu;subst hv;exact zy w B g p out Ah hc Aw wc Ap pc Ao oc U gd 0 (by omega) 0 (Nat.zero_le _) (by omega) (by rw[hw];show 0<=_;omega) aX none 0 0 [] (iL.nil _ _) (by show 0<=65535;omega) (fun t ht=>by cases ht) false
 exact key 0 0 rfl rfl
theorem OV{p:gF}(gd:kP p)(kind n:Nat)(l:List gA)(last:Bool)(hk:kind<=2)(hn:n<=65535)(hl:l.length<=65535)(ad:∀t∈l,gS t=true/\t.x<256):(jZ p kind n l last).2.length<=4000000:=by
 have hle:=rV (k:=p.k.toNat) (kind:=kind) (raw:=p.wait.take n) (l:=l) (last:=last) hk (by have:=gd.k7;omega) (by rw[List.length_take];omega) (qM gd.bw n) hl ad;have al:(gT p.gm p.k.toNat kind (p.wait.take n) l last).2<=4320007:=hle;show((gT p.gm p.k.toNat kind (p.wait.take n) l last).1.take _).length<=_
 rw[List.length_take];omega
theorem OW(w:aq)(B g:Nat)(p:gF)(out:List Nat)(Ah:Option au)(hc:Nat)(Aw:Option au)(wc:Nat)(Ap:Option au)(pc:Nat)(Ao:Option au)(oc:Nat)(U:gQ w B g p out Ah hc Aw wc Ap pc Ao oc)(gd:kg p)(bf:out.length<=70000000):
  aw prog 33 #[ag (some ⟨g,0,none⟩)] w fun e w'=>e=ao (.tuple #[])/\(∃bg bj bk bl bm bn bp bq,gQ w' B g (jA p).1 (out++(jA p).2) bg bj bk bl bm bn bp bq)/\aR B w w':=by
 have hs:=mj gd.jY
 have aV:p.wait.length<=65535:=by have:=gd.wait;omega
 obtain⟨wn,av⟩:=fY (p.wait.length)
 have c5:w.cell? ⟨g,5,none⟩=some (af Aw wn wc):=by rw[av];exact U.box.cell.trans rfl
 have bC:=fX U.le
 by_cases h0:wn=0
 ·have hw:p.wait=[]:=List.length_eq_zero_iff.1 (by omega);have ad:=Lb gd hw;obtain⟨kk,aT⟩:∃kk:Nat,p.k=(kk:Int):=⟨p.k.toNat,by have:=gd.k0;omega⟩;have e0:decide ((0:Int)<(wn:Int))=false:=decide_eq_false (by omega);have e1:decide (0<wn)=false:=decide_eq_false (by omega);have e2:¬0<wn:=by omega
  have aW:=fX ad;have aX:=fX aT;have al:=fX U;have br:=fX gd.w;have bt:=fX hw;have aY:aQ (aR B w w):=fX gC;have bu:aQ (out.length<=90000000):=fX (by omega)
  by_cases aZ:0<kk
  ·have aU:nX (p,[])=((jZ p 0 0 [] false).1,[]++(jZ p 0 0 [] false).2):=by unfold nX;rw[if_pos (by show 0<p.k;omega)]
   rw[List.nil_append]at aU;have z1:decide ((0:Int)<(kk:Int))=true:=decide_eq_true (by omega);have z2:decide (0<kk)=true:=decide_eq_true (by omega);have z3:0<kk:=by omega
   have aS:=fX aU;clear U gd hs aV av h0 hw ad aT bf aU aZ;go_enter func33,ntmps33
   have s7:w.cell? ⟨g,7,none⟩=some (ae aj (kk:Int)):=by rw[<-aX.out];exact al.out.box.cell.trans rfl
   have bx:=fX (Fw w B g _ _ _ _ _ _ _ _ _ _ al.out br.out bt.out bu.out);go_wp2_with fail
   refine bx.out.mono ?_;rintro e wz ⟨rfl,⟨Z1,y1,Z2,y2,Z3,y3,Z4,y4,UZ⟩,a1⟩;have bz:=fX UZ;have bA:=fX (aY.out.trans a1)
   clear UZ a1;go_wp2;go_end0;exact⟨rfl,⟨Z1,y1,Z2,y2,Z3,y3,Z4,y4,by rw[<-aW.out,aS.out];exact bz.out⟩,bA.out⟩
  ·have aU:nX (p,[])=(p,[]):=by unfold nX;rw[if_neg (by show¬0<p.k;omega)]
   have k0:kk=0:=by omega
   have z1:decide ((0:Int)<(kk:Int))=false:=decide_eq_false (by omega);have z2:decide (0<kk)=false:=decide_eq_false (by omega);have z3:¬0<kk:=by omega
   have aS:=fX aU;clear gd hs aV av h0 hw ad aT bf aU aZ k0;go_enter func33,ntmps33
   have s7:w.cell? ⟨g,7,none⟩=some (ae aj (kk:Int)):=by rw[<-aX.out];exact al.out.box.cell.trans rfl
   go_wp2;go_end0;exact⟨rfl,⟨_,_,_,_,_,_,_,_,by rw[<-aW.out,aS.out,List.append_nil];exact al.out⟩,aY.out⟩
 ·have bD:0<p.wait.length:=by omega
  have ad:=Ld gd bD;have hcut:=D8 w B g p out Ah hc Aw wc Ap pc Ao oc U gd.w p.wait.length fZ aV (by omega);rw[List.take_length]at hcut;obtain⟨t1,t2⟩:=tC gd.jY gd.bh gd.bw;obtain⟨TL,bE⟩:=fY (iy p p.wait);rw[<-bE]at hcut ad t1 t2;obtain⟨KD,a4⟩:=fY (qa p TL);have a2:KD<=2:=by rw[a4];exact K9 _ _
  rw[<-a4,<-av]at ad;obtain⟨r,hr⟩:=fY (jZ p KD wn TL false);rw[<-hr]at ad;have bB:kP r.1:=by rw[hr];exact DK gd.w _ _ _ _
  have bF:r.1.wait=[]:=by rw[hr];show p.wait.drop wn=[];rw[av,List.drop_length]
  have bM:r.2.length<=4000000:=by rw[hr];exact OV gd.w KD wn TL false a2 (by omega) (by omega) t2
  have bG:aQ (∀(V:aq) (A2:Option au) (t c2:Nat),gQ V B g p out Ah hc Aw wc Ap pc Ao oc->iL V V.heap.size A2 t c2 TL->aw prog 52 #[ag (some ⟨g,0,none⟩),af A2 t c2] V fun e w'=>e=ao (ae .u8 (KD:Int))/\aR V.heap.size V w'):=fX fun V A2 t c2 UV ht=>by
   have:=OU V B g p out Ah hc Aw wc Ap pc Ao oc UV gd.w aV A2 t c2 TL ht (by omega) t2;rwa[<-a4]at this
  have bH:aQ (∀(V:aq) (A2:Option au) (t c2:Nat),gQ V B g p out Ah hc Aw wc Ap pc Ao oc->iL V V.heap.size A2 t c2 TL->aw prog 51 #[ag (some ⟨g,0,none⟩),ae .u8 (KD:Int),ae aj (wn:Int),af A2 t c2,ai false] V fun e w'=>e=ao (.tuple #[])/\(∃bg bj bk bl bm bn bp bq,gQ w' B g r.1 (out++r.2) bg bj bk bl bm bn bp bq)/\aR B V w'):=fX fun V A2 t c2 UV ht=>by
   have:=zy V B g p out Ah hc Aw wc Ap pc Ao oc UV gd.w KD a2 wn (by omega) (by omega) (by omega) (by omega) A2 t c2 TL ht (by omega) t2 false;rwa[<-hr]at this
  have e0:decide ((0:Int)<(wn:Int))=true:=decide_eq_true (by omega);have e1:decide (0<wn)=true:=decide_eq_true (by omega);have e2:0<wn:=by omega
  rw[<-av]at hcut;have aW:=fX ad;have HU:=fX U;have br:=fX bB;have bt:=fX bF;have a6:=fX hcut;have bu:aQ ((out++r.2).length<=90000000):=fX (by rw[List.length_append];omega)
  obtain⟨kk,aT⟩:∃kk:Nat,r.1.k=(kk:Int):=⟨r.1.k.toNat,by have:=bB.k0;omega⟩;have aX:=fX aT;have a7:0<kk->nX r=((jZ r.1 0 0 [] false).1,r.2++(jZ r.1 0 0 [] false).2):=fun h=>by unfold nX;rw[if_pos (by omega)]
  have a8:¬0<kk->nX r=r:=fun h=>by unfold nX;rw[if_neg (by omega)]
  have bN:=fX a7;have bO:=fX a8
  clear U gd hs aV av h0 bD ad hcut t1 t2 bE a4 a2 hr bB bF bM bf aT a7 a8;go_enter func33,ntmps33
  go_wp2_with fail
  refine a6.out.mono ?_;rintro e w2 ⟨A2,t,c2,rfl,ht,a5⟩;have a9:=bG.out w2 A2 t c2 (HU.out.below a5) ht;have bI:=fX a9;have bJ:=fX (HU.out.below a5);have bP:=fX ht;have bQ:=fX (a5.mono (B':=B) (by have:=bC.out;have:=HU.out.lt;omega))
  clear a9 ht a5 a6;go_wp2_with fail
  refine bI.out.mono ?_;rintro e w3 ⟨rfl,a3⟩;have bd:=bH.out w3 A2 t c2 (bJ.out.below a3) ((bP.out.below a3 fZ).more a3.size);have bK:=fX bd;have bR:=fX (bQ.out.trans (a3.mono (by have:=bC.out;have:=bJ.out.lt;omega)))
  clear bd a3 bI;go_wp2_with fail
  refine bK.out.mono ?_;rintro e w4 ⟨rfl,⟨A4,k4,A5,k5,A6,k6,A7,k7,U4⟩,bL⟩;have al:=fX U4;have aY:=fX (bR.out.trans bL)
  clear U4 bL bK;by_cases aZ:0<kk
  ·have aS:=fX (bN.out aZ);have z1:decide ((0:Int)<(kk:Int))=true:=decide_eq_true (by omega);have z2:decide (0<kk)=true:=decide_eq_true (by omega);have z3:0<kk:=by omega
   have s7:w4.cell? ⟨g,7,none⟩=some (ae aj (kk:Int)):=by rw[<-aX.out];exact al.out.box.cell.trans rfl
   have bx:=fX (Fw w4 B g _ _ _ _ _ _ _ _ _ _ al.out br.out bt.out bu.out);go_wp2_with fail
   refine bx.out.mono ?_;rintro e wz ⟨rfl,⟨Z1,y1,Z2,y2,Z3,y3,Z4,y4,UZ⟩,a1⟩;have bz:=fX UZ;have bA:=fX (aY.out.trans a1)
   clear UZ a1;go_wp2;go_end0;exact⟨rfl,⟨Z1,y1,Z2,y2,Z3,y3,Z4,y4,by rw[<-aW.out,aS.out,<-List.append_assoc];exact bz.out⟩,bA.out⟩
  ·have aS:=fX (bO.out aZ);have k0:kk=0:=by omega
   have z1:decide ((0:Int)<(kk:Int))=false:=decide_eq_false (by omega);have z2:decide (0<kk)=false:=decide_eq_false (by omega);have z3:¬0<kk:=by omega
   clear k0;have s7:w4.cell? ⟨g,7,none⟩=some (ae aj (kk:Int)):=by rw[<-aX.out];exact al.out.box.cell.trans rfl
   go_wp2;go_end0;exact⟨rfl,⟨_,_,_,_,_,_,_,_,by rw[<-aW.out,aS.out];exact al.out⟩,aY.out⟩
theorem OX(bD:tL)(w:aq)(p:gF)(Ah:Option au)(hc:Nat)(Aw:Option au)(wc:Nat)(Ap:Option au)(pc:Nat)(hp:gU w w.heap.size p Ah hc Aw wc Ap pc)(h1:p.hist.length<=1000000)(h2:p.wait.length<=1000000)(Ab:Option au)(bc:Nat)(b:List Nat)(hb:gu w w.heap.size Ab b.length bc (gj b))(h3:b.length<=1000000)(bE:b=[]):
  aw prog 32 #[ah (gI p Ah hc Aw wc Ap pc),af Ab b.length bc,.func (.func 33) #[] #[]] w fun e w'=>oF w w' e (kO (lx p b.length) (jA p)) (lx p b.length):=by
 obtain⟨h,hh⟩:=fY (w.heap.size)
 obtain⟨X,hX⟩:=fY (gI p Ah hc Aw wc Ap pc)
 rw[<-hX]
 obtain⟨Z,hZ⟩:=fY (gI (lX 0 0 0 false) none 0 none 0 none 0)
 have hz:=(zero_of_info oC).1
 have bj:=ve
 rw[<-hZ]at hz bj
 obtain⟨W1,aZ⟩:=fY ((w.alloc (ak X 32)).alloc (ak Z 32))
 have b1:aR h w W1:=by rw[aZ,hh];exact(gC.alloc fZ _).alloc (by simp) _
 have x1:gi W1 h X 32:=by rw[aZ,hh];exact(gi.new w _ _).old _
 have z1:gi W1 (h+1) Z 32:=by
  rw[aZ,hh];have:=gi.new (w.alloc (ak X 32)) Z 32
  rwa[World.size_alloc]at this
 have a9:h+1<W1.heap.size:=z1.lt
 have a1:=bD W1 p Ah hc Aw wc Ap pc (hp.on (hh▸b1))
 rw[<-hX]at a1
 obtain⟨bn,bk⟩:=fY (b.length)
 obtain⟨r,hr⟩:=fY (jA p)
 rw[<-hr,<-bk]
 have bF:X[8]?=some (ai p.gO):=by rw[hX];rfl
 have aX:=fX a1;have a6:=fX aZ;have HH:=fX hh;have a7:=fX b1;have av:=fX x1;have a8:=fX z1;have aT:=fX a9;have bR:=fX hX;have a2:aQ (X.size=9):=fX (by rw[hX];rfl);have aU:aQ (Z.size=9):=fX (by rw[hZ];rfl);have b9:=fX hZ;have bl:aQ (Z.all (·.oneCell')=true):=fX (by rw[hZ];exact lu ..);have bS:aQ (lv Z):=fX (by rw[hZ];exact pz _ _ _ _ _ _ _)
 have HP:=fX hp;have bm:=fX bj;have bG:=fX hb;have bp:=fX bF;have bT:=fX bk;have bH:=fX hr
 have a3:aQ (∀(V:aq) (E:Int),E≠0->aR h w V->oF w V (ao (.tuple #[ah Z,af none 0 0,ae aj E])) (kO E r) E):=fX fun V E hE hV=>by
  unfold kO;rw[if_neg hE];exact⟨none,0,none,0,none,0,none,0,by rw[hZ];rfl,vf _ _,gu.nil _ _ _ sP,hh▸hV,kG.nil _ _ _,kG.nil _ _ _⟩
 clear a1 aZ hh b1 x1 z1 a9 hX hZ hp bj hb bk hr bF
 cases hm:oB p with
 |false=>
  have HC:aQ (pZ p=8):=fX (by unfold pZ;rw[hm];rfl);have HE:aQ (lx p bn=8):=fX (by unfold lx jN;rw[hm];rfl);clear hm;go_enter func32,ntmps32
  go_wp2_with (first
   |(rw[<-a6.out,<-HH.out])
   |(refine aE rfl _ _ rfl h rfl _ X (0,0) _ av.out underlying32 rfl (by rw[a2.out];exact gM) ?_)
   |fail)
  refine aX.out.mono ?_;rintro e w2 ⟨rfl,ad⟩;have z2:=a8.out.below ad aT.out;have x2:=av.out.below ad av.out.lt;have al:=a7.out.trans (ad.mono (by have:=aT.out;omega));rw[HC.out];clear x2;obtain⟨U,hU⟩:=fY (w2.setRow (h+1) Z);have aV:aQ (gi U (h+1) Z 32):=fX (by rw[hU];exact z2.row Z);have aW:aQ (aR h w U):=fX (by rw[hU];exact jU al (by omega) _);have HU:=fX hU;have aS:=fX z2
  clear hU ad al z2;go_wp2_with (first
   |(refine aD rfl 32 #[] rfl (some 15) rfl Z ?_ ?_;focus(simpa[Act.eval]using bm.out))
   |(refine aC rfl _ _ _ rfl rfl (h+1) Z rfl rfl 32 Z aS.out (by rw[aU.out];exact gM) rfl bl.out ?_;rw[<-HU.out]))
  refine aK (mY rfl _ _ (h+1) Z aU.out rfl aV.out) rfl ?_;rw[HE.out];exact a3.out U _ (by decide) aW.out
 |true=>
  have HC:aQ (pZ p=0):=fX (by unfold pZ;rw[hm];rfl);cases ho:p.gO with
  |true=>
   have HE:aQ (lx p bn=6):=fX (by unfold lx jN;rw[hm,ho];rfl);have HO:=fX ho;clear hm ho;go_enter func32,ntmps32
   go_wp2_with (first
    |(rw[<-a6.out,<-HH.out])
    |(refine aE rfl _ _ rfl h rfl _ X (0,0) _ av.out underlying32 rfl (by rw[a2.out];exact gM) ?_)
    |fail)
   refine aX.out.mono ?_;rintro e w2 ⟨rfl,ad⟩;have z2:=a8.out.below ad aT.out;have x2:=av.out.below ad av.out.lt;have al:=a7.out.trans (ad.mono (by have:=aT.out;omega));rw[HC.out];have k8:w2.cell? ⟨h,8,none⟩=some (ai true):=by rw[<-HO.out];exact x2.cell.trans bp.out
   clear x2;obtain⟨U,hU⟩:=fY (w2.setRow (h+1) Z);have aV:aQ (gi U (h+1) Z 32):=fX (by rw[hU];exact z2.row Z);have aW:aQ (aR h w U):=fX (by rw[hU];exact jU al (by omega) _);have HU:=fX hU;have aS:=fX z2
   clear hU ad al z2;go_wp2_with (first
    |(refine aD rfl 32 #[] rfl (some 19) rfl Z ?_ ?_;focus(simpa[Act.eval]using bm.out))
    |(refine aC rfl _ _ _ rfl rfl (h+1) Z rfl rfl 32 Z aS.out (by rw[aU.out];exact gM) rfl bl.out ?_;rw[<-HU.out]))
   refine aK (mY rfl _ _ (h+1) Z aU.out rfl aV.out) rfl ?_;rw[HE.out];exact a3.out U _ (by decide) aW.out
  |false=>
   have HO:=fX ho;by_cases bd:131072<bn
   ·have HE:aQ (lx p bn=4):=fX (by unfold lx jN;rw[hm,ho];simp;omega);have d1:decide ((131072:Int)<(bn:Int))=true:=decide_eq_true (by omega);clear hm ho bd;go_enter func32,ntmps32
    go_wp2_with (first
     |(rw[<-a6.out,<-HH.out])
     |(refine aE rfl _ _ rfl h rfl _ X (0,0) _ av.out underlying32 rfl (by rw[a2.out];exact gM) ?_)
     |fail)
    refine aX.out.mono ?_;rintro e w2 ⟨rfl,ad⟩;have z2:=a8.out.below ad aT.out;have x2:=av.out.below ad av.out.lt;have al:=a7.out.trans (ad.mono (by have:=aT.out;omega));rw[HC.out];have k8:w2.cell? ⟨h,8,none⟩=some (ai false):=by rw[<-HO.out];exact x2.cell.trans bp.out
    clear x2;obtain⟨U,hU⟩:=fY (w2.setRow (h+1) Z);have aV:aQ (gi U (h+1) Z 32):=fX (by rw[hU];exact z2.row Z);have aW:aQ (aR h w U):=fX (by rw[hU];exact jU al (by omega) _);have HU:=fX hU;have aS:=fX z2
    clear hU ad al z2;go_wp2_with (first
     |(refine aD rfl 32 #[] rfl (some 23) rfl Z ?_ ?_;focus(simpa[Act.eval]using bm.out))
     |(refine aC rfl _ _ _ rfl rfl (h+1) Z rfl rfl 32 Z aS.out (by rw[aU.out];exact gM) rfl bl.out ?_;rw[<-HU.out]))
    refine aK (mY rfl _ _ (h+1) Z aU.out rfl aV.out) rfl ?_;rw[HE.out];exact a3.out U _ (by decide) aW.out
   ·have HE:aQ (lx p bn=0):=fX (by unfold lx jN;rw[hm,ho];simp;omega);have d1:decide ((131072:Int)<(bn:Int))=false:=decide_eq_false (by omega);have gd:kg p:=xT hm ho (kh HP.out.hist) (kh HP.out.wait) (kh HP.out.gm);have bb:=kh bG.out;have bI:=mj gd.jY;have bJ:r.1.hist.length<=2000000/\r.1.wait.length<=2000000/\r.1.gm.length<=2000000:=by
     rw[bH.out];have g2:=I0 gd;have ca:=g2.1.hist;have cb:=g2.1.wait;have cf:=g2.1.len;have cg:=g2.1.k7;have ch:=g2.2.2.2.1
     have cj:(jA p).1.s=p.s:=rfl;exact⟨by omega,by omega,by omega⟩
    have bq:=fX bJ;have bU:aQ (∀(V:aq) (g:Nat) (Ah:Option au) (hc:Nat) (Aw:Option au) (wc:Nat) (B:Nat),gQ V B g {p with wait:=p.wait++b} [] Ah hc Aw wc Ap pc none 0->aw prog 33 #[ag (some ⟨g,0,none⟩)] V fun e w'=>e=ao (.tuple #[])/\(∃br bt bu bx bV bW bX bY,gQ w' B g r.1 r.2 br bt bu bx bV bW bX bY)/\aR B V w'):=fX fun V g Ah hc Aw wc B UV=>by
     rw[bH.out];rw[bE,List.append_nil]at UV;have:=OW V B g p [] Ah hc Aw wc Ap pc none 0 UV gd (by show 0<=_;omega);rwa[List.nil_append]at this
    have bZ:aQ (∀V,aR h w V->aw prog 28 #[ah X,af Ab bn bc] V fun e w'=>∃g br bt bu bx,e=ao (ag (some ⟨g,0,none⟩))/\gQ w' V.heap.size g {p with wait:=p.wait++b} [] br bt bu bx Ap pc none 0/\aR V.heap.size V w'):=fX fun V hV=>by
     rw[bR.out,bT.out];rw[HH.out]at hV;exact DY V p Ah hc Aw wc Ap pc (HP.out.on hV) Ab bc b ((bG.out.below hV fZ).more hV.size) h1 h2 h3
    clear hm ho bd gd bb bI bJ h1 h2 h3;go_enter func32,ntmps32
    go_wp2_with (first
     |(rw[<-a6.out,<-HH.out])
     |(refine aE rfl _ _ rfl h rfl _ X (0,0) _ av.out underlying32 rfl (by rw[a2.out];exact gM) ?_)
     |fail)
    refine aX.out.mono ?_;rintro e w2 ⟨rfl,ad⟩;have z2:=a8.out.below ad aT.out;have x2:=av.out.below ad av.out.lt;have al:=a7.out.trans (ad.mono (by have:=aT.out;omega));rw[HC.out];have k8:w2.cell? ⟨h,8,none⟩=some (ai false):=by rw[<-HO.out];exact x2.cell.trans bp.out
    have bK:=fX (bZ.out w2 al);have b0:=fX x2;have aS:=fX z2;have b2:=fX al
    clear ad al z2 x2;go_wp2_with (first
     |(refine aE rfl _ _ rfl h rfl _ X (0,0) _ b0.out underlying32 rfl (by rw[a2.out];exact gM) ?_)
     |fail)
    refine bK.out.mono ?_;rintro e w3 ⟨g,A1,k1,A2,k2,rfl,U3,bz⟩;have bL:=fX (bU.out w3 g A1 k1 A2 k2 w2.heap.size U3);have b3:=fX (aS.out.below bz aS.out.lt);have b4:=fX bz;clear U3 bz;go_wp2_with fail
    refine bL.out.mono ?_;rintro e w4 ⟨rfl,⟨A3,k3,A4,k4,A5,k5,A6,k6,U4⟩,bA⟩;have bf:=D3 w4 w2.heap.size g r.1 r.2 A3 k3 A4 k4 A5 k5 A6 k6 U4 bq.out.1 bq.out.2.1 bq.out.2.2;have bM:=fX bf;have b5:=fX (b3.out.below bA aS.out.lt);have b6:=fX (b4.out.trans bA);clear bf U4 bA bL;go_wp2_with fail
    refine bM.out.mono ?_;rintro e w5 ⟨A7,k7,A8,bN,A9,k9,rfl,r5,bO,bB,n7,n8⟩;have z5:=b5.out.below bB aS.out.lt;have bg:=b2.out.trans ((b6.out.trans bB).mono (by have:=aS.out.lt;omega));obtain⟨Y0,a4⟩:=fY (gI r.1 A7 k7 A8 bN A9 k9);obtain⟨lo,bC⟩:=fY (r.2.length);obtain⟨wC,aY⟩:=fY (w5.setRow (h+1) Y0);have aV:aQ (gi wC (h+1) Y0 32):=fX (by rw[aY];exact z5.row Y0);have aW:aQ (aR h w wC):=fX (by rw[aY];exact jU bg (by omega) _);have kk:∀{A:Option au} {n c:Nat} {f:Nat->Nat},gu w5 w5.heap.size A n c f->gu wC wC.heap.size A n c f:=fun{A n c f} q=>by
     rw[aY,size_setRow];exact q.pA z5 bS.out Y0
    have nn:∀{A:Option au} {n:Nat},kG w5 w2.heap.size A n->kG wC w.heap.size A n:=fun{A n} q h0=>by
     obtain⟨gg,o,cur,e1,e2,e3⟩:=q h0;have ck:=aS.out.lt;have cl:=HH.out;refine⟨gg,o,cur,e1,by omega,?_⟩;rw[aY,aL _ _ _ _ (by omega)];exact e3
    have bP:aQ (oF w wC (ao (.tuple #[ah Y0,af A6 lo k6,ae aj 0])) r 0):=fX ⟨A7,k7,A8,bN,A9,k9,A6,k6,by rw[a4,bC],⟨kk r5.hist,kk r5.wait,kk r5.gm⟩,kk bO,HH.out▸aW.out,nn n7,nn n8⟩;have a5:aQ (Y0.size=9):=fX (by rw[a4];rfl);have bQ:aQ (Y0.all (·.oneCell')=true):=fX (by rw[a4];exact lu ..);have b7:=fX z5;have b8:=fX aY
    rw[<-a4,<-bC];clear aY z5 bB bg r5 bO n7 n8 kk nn a4 bC bM;go_wp2_with (refine aC rfl _ _ _ rfl rfl (h+1) Y0 rfl rfl 32 Z b7.out (by rw[a5.out];exact gM) (by rw[aU.out,a5.out]) bQ.out ?_;rw[<-b8.out])
    refine aK (mY rfl _ _ (h+1) Y0 a5.out rfl aV.out) rfl ?_;rw[HE.out];unfold kO;rw[if_pos rfl];exact bP.out
theorem OY(bD:tL)(w:aq)(p:gF)(Ah:Option au)(hc:Nat)(Aw:Option au)(wc:Nat)(Ap:Option au)(pc:Nat)(hp:gU w w.heap.size p Ah hc Aw wc Ap pc)(h1:p.hist.length<=1000000)(h2:p.wait.length<=1000000)(Ab:Option au)(bc:Nat)(b:List Nat)(hb:gu w w.heap.size Ab b.length bc (gj b))(h3:b.length<=1000000)(bE:b=[]):
  aw prog 32 #[ah (gI p Ah hc Aw wc Ap pc),af Ab b.length bc,.func (.func 30) #[] #[]] w fun e w'=>oF w w' e (kO (lx p b.length) (iK p)) (lx p b.length):=by
 obtain⟨h,hh⟩:=fY (w.heap.size)
 obtain⟨X,hX⟩:=fY (gI p Ah hc Aw wc Ap pc)
 rw[<-hX]
 obtain⟨Z,hZ⟩:=fY (gI (lX 0 0 0 false) none 0 none 0 none 0)
 have hz:=(zero_of_info oC).1
 have bj:=ve
 rw[<-hZ]at hz bj
 obtain⟨W1,aZ⟩:=fY ((w.alloc (ak X 32)).alloc (ak Z 32))
 have b1:aR h w W1:=by rw[aZ,hh];exact(gC.alloc fZ _).alloc (by simp) _
 have x1:gi W1 h X 32:=by rw[aZ,hh];exact(gi.new w _ _).old _
 have z1:gi W1 (h+1) Z 32:=by
  rw[aZ,hh];have:=gi.new (w.alloc (ak X 32)) Z 32
  rwa[World.size_alloc]at this
 have a9:h+1<W1.heap.size:=z1.lt
 have a1:=bD W1 p Ah hc Aw wc Ap pc (hp.on (hh▸b1))
 rw[<-hX]at a1
 obtain⟨bn,bk⟩:=fY (b.length)
 obtain⟨r,hr⟩:=fY (iK p)
 rw[<-hr,<-bk]
 have bF:X[8]?=some (ai p.gO):=by rw[hX];rfl
 have aX:=fX a1;have a6:=fX aZ;have HH:=fX hh;have a7:=fX b1;have av:=fX x1;have a8:=fX z1;have aT:=fX a9;have bR:=fX hX;have a2:aQ (X.size=9):=fX (by rw[hX];rfl);have aU:aQ (Z.size=9):=fX (by rw[hZ];rfl);have cb:=fX hZ;have bl:aQ (Z.all (·.oneCell')=true):=fX (by rw[hZ];exact lu ..);have bS:aQ (lv Z):=fX (by rw[hZ];exact pz _ _ _ _ _ _ _)
 have HP:=fX hp;have bm:=fX bj;have bG:=fX hb;have bp:=fX bF;have bT:=fX bk;have bH:=fX hr
 have a3:aQ (∀(V:aq) (E:Int),E≠0->aR h w V->oF w V (ao (.tuple #[ah Z,af none 0 0,ae aj E])) (kO E r) E):=fX fun V E hE hV=>by
  unfold kO;rw[if_neg hE];exact⟨none,0,none,0,none,0,none,0,by rw[hZ];rfl,vf _ _,gu.nil _ _ _ sP,hh▸hV,kG.nil _ _ _,kG.nil _ _ _⟩
 clear a1 aZ hh b1 x1 z1 a9 hX hZ hp bj hb bk hr bF
 cases hm:oB p with
 |false=>
  have HC:aQ (pZ p=8):=fX (by unfold pZ;rw[hm];rfl);have HE:aQ (lx p bn=8):=fX (by unfold lx jN;rw[hm];rfl);clear hm;go_enter func32,ntmps32
  go_wp2_with (first
   |(rw[<-a6.out,<-HH.out])
   |(refine aE rfl _ _ rfl h rfl _ X (0,0) _ av.out underlying32 rfl (by rw[a2.out];exact gM) ?_)
   |fail)
  refine aX.out.mono ?_;rintro e w2 ⟨rfl,ad⟩;have z2:=a8.out.below ad aT.out;have x2:=av.out.below ad av.out.lt;have al:=a7.out.trans (ad.mono (by have:=aT.out;omega));rw[HC.out];clear x2;obtain⟨U,hU⟩:=fY (w2.setRow (h+1) Z);have aV:aQ (gi U (h+1) Z 32):=fX (by rw[hU];exact z2.row Z);have aW:aQ (aR h w U):=fX (by rw[hU];exact jU al (by omega) _);have HU:=fX hU;have aS:=fX z2
  clear hU ad al z2;go_wp2_with (first
   |(refine aD rfl 32 #[] rfl (some 15) rfl Z ?_ ?_;focus(simpa[Act.eval]using bm.out))
   |(refine aC rfl _ _ _ rfl rfl (h+1) Z rfl rfl 32 Z aS.out (by rw[aU.out];exact gM) rfl bl.out ?_;rw[<-HU.out]))
  refine aK (mY rfl _ _ (h+1) Z aU.out rfl aV.out) rfl ?_;rw[HE.out];exact a3.out U _ (by decide) aW.out
 |true=>
  have HC:aQ (pZ p=0):=fX (by unfold pZ;rw[hm];rfl);cases ho:p.gO with
  |true=>
   have HE:aQ (lx p bn=6):=fX (by unfold lx jN;rw[hm,ho];rfl);have HO:=fX ho;clear hm ho;go_enter func32,ntmps32
   go_wp2_with (first
    |(rw[<-a6.out,<-HH.out])
    |(refine aE rfl _ _ rfl h rfl _ X (0,0) _ av.out underlying32 rfl (by rw[a2.out];exact gM) ?_)
    |fail)
   refine aX.out.mono ?_;rintro e w2 ⟨rfl,ad⟩;have z2:=a8.out.below ad aT.out;have x2:=av.out.below ad av.out.lt;have al:=a7.out.trans (ad.mono (by have:=aT.out;omega));rw[HC.out];have k8:w2.cell? ⟨h,8,none⟩=some (ai true):=by rw[<-HO.out];exact x2.cell.trans bp.out
   clear x2;obtain⟨U,hU⟩:=fY (w2.setRow (h+1) Z);have aV:aQ (gi U (h+1) Z 32):=fX (by rw[hU];exact z2.row Z);have aW:aQ (aR h w U):=fX (by rw[hU];exact jU al (by omega) _);have HU:=fX hU;have aS:=fX z2
   clear hU ad al z2;go_wp2_with (first
    |(refine aD rfl 32 #[] rfl (some 19) rfl Z ?_ ?_;focus(simpa[Act.eval]using bm.out))
    |(refine aC rfl _ _ _ rfl rfl (h+1) Z rfl rfl 32 Z aS.out (by rw[aU.out];exact gM) rfl bl.out ?_;rw[<-HU.out]))
   refine aK (mY rfl _ _ (h+1) Z aU.out rfl aV.out) rfl ?_;rw[HE.out];exact a3.out U _ (by decide) aW.out
  |false=>
   have HO:=fX ho;by_cases bd:131072<bn
   ·have HE:aQ (lx p bn=4):=fX (by unfold lx jN;rw[hm,ho];simp;omega);have d1:decide ((131072:Int)<(bn:Int))=true:=decide_eq_true (by omega);clear hm ho bd;go_enter func32,ntmps32
    go_wp2_with (first
     |(rw[<-a6.out,<-HH.out])
     |(refine aE rfl _ _ rfl h rfl _ X (0,0) _ av.out underlying32 rfl (by rw[a2.out];exact gM) ?_)
     |fail)
    refine aX.out.mono ?_;rintro e w2 ⟨rfl,ad⟩;have z2:=a8.out.below ad aT.out;have x2:=av.out.below ad av.out.lt;have al:=a7.out.trans (ad.mono (by have:=aT.out;omega));rw[HC.out];have k8:w2.cell? ⟨h,8,none⟩=some (ai false):=by rw[<-HO.out];exact x2.cell.trans bp.out
    clear x2;obtain⟨U,hU⟩:=fY (w2.setRow (h+1) Z);have aV:aQ (gi U (h+1) Z 32):=fX (by rw[hU];exact z2.row Z);have aW:aQ (aR h w U):=fX (by rw[hU];exact jU al (by omega) _);have HU:=fX hU;have aS:=fX z2
    clear hU ad al z2;go_wp2_with (first
     |(refine aD rfl 32 #[] rfl (some 23) rfl Z ?_ ?_;focus(simpa[Act.eval]using bm.out))
     |(refine aC rfl _ _ _ rfl rfl (h+1) Z rfl rfl 32 Z aS.out (by rw[aU.out];exact gM) rfl bl.out ?_;rw[<-HU.out]))
    refine aK (mY rfl _ _ (h+1) Z aU.out rfl aV.out) rfl ?_;rw[HE.out];exact a3.out U _ (by decide) aW.out
   ·have HE:aQ (lx p bn=0):=fX (by unfold lx jN;rw[hm,ho];simp;omega);have d1:decide ((131072:Int)<(bn:Int))=false:=decide_eq_false (by omega);have gd:kg p:=xT hm ho (kh HP.out.hist) (kh HP.out.wait) (kh HP.out.gm);have bb:=kh bG.out;have bI:=mj gd.jY;have bJ:r.1.hist.length<=2000000/\r.1.wait.length<=2000000/\r.1.gm.length<=2000000:=by
     rw[bH.out];have g2:=I4 gd;have cf:=(CO g2.1).2.1;have cg:(iK p).1.s=p.s:=rfl;have bU:(iK p).1.wait=[]:=rfl;have bV:(iK p).1.gm=[]:=by rw[DL _ rfl]
     exact⟨by omega,by rw[bU];exact Nat.zero_le _,by rw[bV];exact Nat.zero_le _⟩
    have bq:=fX bJ;have bW:aQ (∀(V:aq) (g:Nat) (Ah:Option au) (hc:Nat) (Aw:Option au) (wc:Nat) (B:Nat),gQ V B g {p with wait:=p.wait++b} [] Ah hc Aw wc Ap pc none 0->aw prog 30 #[ag (some ⟨g,0,none⟩)] V fun e w'=>e=ao (.tuple #[])/\(∃br bt bu bx bX bY bZ b0,gQ w' B g r.1 r.2 br bt bu bx bX bY bZ b0)/\aR B V w'):=fX fun V g Ah hc Aw wc B UV=>by
     rw[bH.out];rw[bE,List.append_nil]at UV;have:=OJ V B g p [] Ah hc Aw wc Ap pc none 0 UV gd.w (by have:=gd.wait;omega) (by show 0<=_;omega);rwa[List.nil_append]at this
    have b2:aQ (∀V,aR h w V->aw prog 28 #[ah X,af Ab bn bc] V fun e w'=>∃g br bt bu bx,e=ao (ag (some ⟨g,0,none⟩))/\gQ w' V.heap.size g {p with wait:=p.wait++b} [] br bt bu bx Ap pc none 0/\aR V.heap.size V w'):=fX fun V hV=>by
     rw[bR.out,bT.out];rw[HH.out]at hV;exact DY V p Ah hc Aw wc Ap pc (HP.out.on hV) Ab bc b ((bG.out.below hV fZ).more hV.size) h1 h2 h3
    clear hm ho bd gd bb bI bJ h1 h2 h3;go_enter func32,ntmps32
    go_wp2_with (first
     |(rw[<-a6.out,<-HH.out])
     |(refine aE rfl _ _ rfl h rfl _ X (0,0) _ av.out underlying32 rfl (by rw[a2.out];exact gM) ?_)
     |fail)
    refine aX.out.mono ?_;rintro e w2 ⟨rfl,ad⟩;have z2:=a8.out.below ad aT.out;have x2:=av.out.below ad av.out.lt;have al:=a7.out.trans (ad.mono (by have:=aT.out;omega));rw[HC.out];have k8:w2.cell? ⟨h,8,none⟩=some (ai false):=by rw[<-HO.out];exact x2.cell.trans bp.out
    have bK:=fX (b2.out w2 al);have b3:=fX x2;have aS:=fX z2;have b4:=fX al
    clear ad al z2 x2;go_wp2_with (first
     |(refine aE rfl _ _ rfl h rfl _ X (0,0) _ b3.out underlying32 rfl (by rw[a2.out];exact gM) ?_)
     |fail)
    refine bK.out.mono ?_;rintro e w3 ⟨g,A1,k1,A2,k2,rfl,U3,bz⟩;have bL:=fX (bW.out w3 g A1 k1 A2 k2 w2.heap.size U3);have b5:=fX (aS.out.below bz aS.out.lt);have b6:=fX bz;clear U3 bz;go_wp2_with fail
    refine bL.out.mono ?_;rintro e w4 ⟨rfl,⟨A3,k3,A4,k4,A5,k5,A6,k6,U4⟩,bA⟩;have bf:=D3 w4 w2.heap.size g r.1 r.2 A3 k3 A4 k4 A5 k5 A6 k6 U4 bq.out.1 bq.out.2.1 bq.out.2.2;have bM:=fX bf;have b7:=fX (b5.out.below bA aS.out.lt);have b8:=fX (b6.out.trans bA);clear bf U4 bA bL;go_wp2_with fail
    refine bM.out.mono ?_;rintro e w5 ⟨A7,k7,A8,bN,A9,k9,rfl,r5,bO,bB,n7,n8⟩;have z5:=b7.out.below bB aS.out.lt;have bg:=b4.out.trans ((b8.out.trans bB).mono (by have:=aS.out.lt;omega));obtain⟨Y0,a4⟩:=fY (gI r.1 A7 k7 A8 bN A9 k9);obtain⟨lo,bC⟩:=fY (r.2.length);obtain⟨wC,aY⟩:=fY (w5.setRow (h+1) Y0);have aV:aQ (gi wC (h+1) Y0 32):=fX (by rw[aY];exact z5.row Y0);have aW:aQ (aR h w wC):=fX (by rw[aY];exact jU bg (by omega) _);have kk:∀{A:Option au} {n c:Nat} {f:Nat->Nat},gu w5 w5.heap.size A n c f->gu wC wC.heap.size A n c f:=fun{A n c f} q=>by
     rw[aY,size_setRow];exact q.pA z5 bS.out Y0
    have nn:∀{A:Option au} {n:Nat},kG w5 w2.heap.size A n->kG wC w.heap.size A n:=fun{A n} q h0=>by
     obtain⟨gg,o,cur,e1,e2,e3⟩:=q h0;have ch:=aS.out.lt;have cj:=HH.out;refine⟨gg,o,cur,e1,by omega,?_⟩;rw[aY,aL _ _ _ _ (by omega)];exact e3
    have bP:aQ (oF w wC (ao (.tuple #[ah Y0,af A6 lo k6,ae aj 0])) r 0):=fX ⟨A7,k7,A8,bN,A9,k9,A6,k6,by rw[a4,bC],⟨kk r5.hist,kk r5.wait,kk r5.gm⟩,kk bO,HH.out▸aW.out,nn n7,nn n8⟩;have a5:aQ (Y0.size=9):=fX (by rw[a4];rfl);have bQ:aQ (Y0.all (·.oneCell')=true):=fX (by rw[a4];exact lu ..);have b9:=fX z5;have ca:=fX aY
    rw[<-a4,<-bC];clear aY z5 bB bg r5 bO n7 n8 kk nn a4 bC bM;go_wp2_with (refine aC rfl _ _ _ rfl rfl (h+1) Y0 rfl rfl 32 Z b9.out (by rw[a5.out];exact gM) (by rw[aU.out,a5.out]) bQ.out ?_;rw[<-ca.out])
    refine aK (mY rfl _ _ (h+1) Y0 a5.out rfl aV.out) rfl ?_;rw[HE.out];unfold kO;rw[if_pos rfl];exact bP.out
theorem Fx(p:gF):lx p 0=jN p:=by
 unfold lx;by_cases h:jN p=0
 ·rw[if_neg (by simpa using h),h];rfl
 ·rw[if_pos h]
theorem OZ(aZ:tL):yp:=by
 intro w p Ah hc Aw wc Ap pc hp h1 h2;obtain⟨h,hh⟩:=fY (w.heap.size);obtain⟨X,hX⟩:=fY (gI p Ah hc Aw wc Ap pc);rw[<-hX];obtain⟨Z,hZ⟩:=fY (gI (lX 0 0 0 false) none 0 none 0 none 0);have hz:=(zero_of_info oC).1;rw[<-hZ]at hz;obtain⟨W1,al⟩:=fY ((w.alloc (ak X 32)).alloc (ak Z 32));have b1:aR h w W1:=by rw[al,hh];exact(gC.alloc fZ _).alloc (by simp) _
 have x1:gi W1 h X 32:=by rw[al,hh];exact(gi.new w _ _).old _
 have z1:gi W1 (h+1) Z 32:=by
  rw[al,hh];have:=gi.new (w.alloc (ak X 32)) Z 32
  rwa[World.size_alloc]at this
 have aU:h+1<W1.heap.size:=z1.lt;have av:=OX aZ W1 p Ah hc Aw wc Ap pc (hp.on (hh▸b1)) h1 h2 none 0 [] (gu.nil _ _ _ sP) (by show 0<=_;omega) rfl;simp only[List.length_nil,Fx]at av;obtain⟨R,hR⟩:=fY (kO (jN p) (jA p));obtain⟨E,hE⟩:=fY (jN p);rw[<-hR,<-hE]at av⊢;rw[<-hX]at av;have a1:=fX av;have a6:=fX al;have HH:=fX hh;have a7:=fX b1;have a8:=fX x1;have a9:=fX z1;have aW:=fX aU;have bd:aQ (X.size=9):=fX (by rw[hX];rfl);have bf:aQ (Z.size=9):=fX (by rw[hZ];rfl);have bg:aQ (lv Z):=fX (by rw[hZ];exact pz _ _ _ _ _ _ _)
 clear av al hh b1 x1 z1 aU hX hZ hR hE hp;go_enter func13,ntmps13
 go_wp2_with (first
  |(rw[<-a6.out,<-HH.out])
  |(refine aE rfl _ _ rfl h rfl _ X (0,0) _ a8.out underlying32 rfl (by rw[bd.out];exact gM) ?_)
  |fail)
 refine a1.out.mono ?_;rintro e w5 ⟨A7,k7,A8,a2,A9,k9,A6,k6,rfl,r5,a3,aX,n7,n8⟩;have z5:=a9.out.below aX aW.out;have aV:=a7.out.trans (aX.mono (by have:=aW.out;omega));obtain⟨Y0,aS⟩:=fY (gI R.1 A7 k7 A8 a2 A9 k9);obtain⟨lo,aY⟩:=fY (R.2.length);obtain⟨wC,ad⟩:=fY (w5.setRow (h+1) Y0);have bj:aQ (gi wC (h+1) Y0 32):=fX (by rw[ad];exact z5.row Y0);have bk:aQ (aR h w wC):=fX (by rw[ad];exact jU aV (by omega) _);have kk:∀{A:Option au} {n c:Nat} {f:Nat->Nat},gu w5 w5.heap.size A n c f->gu wC wC.heap.size A n c f:=fun{A n c f} q=>by
  rw[ad,size_setRow];exact q.pA z5 bg.out Y0
 have nn:∀{A:Option au} {n:Nat},kG w5 W1.heap.size A n->kG wC w.heap.size A n:=fun{A n} q h0=>by
  obtain⟨gg,o,cur,e1,e2,e3⟩:=q h0;have bn:=aW.out;have bp:=HH.out;refine⟨gg,o,cur,e1,by omega,?_⟩;rw[ad,aL _ _ _ _ (by omega)];exact e3
 have a4:aQ (oF w wC (ao (.tuple #[ah Y0,af A6 lo k6,ae aj E])) R E):=fX ⟨A7,k7,A8,a2,A9,k9,A6,k6,by rw[aS,aY],⟨kk r5.hist,kk r5.wait,kk r5.gm⟩,kk a3,HH.out▸bk.out,nn n7,nn n8⟩;have aT:aQ (Y0.size=9):=fX (by rw[aS];rfl);have a5:aQ (Y0.all (·.oneCell')=true):=fX (by rw[aS];exact lu ..);have bl:=fX z5;have bm:=fX ad
 rw[<-aS,<-aY];clear ad z5 aX aV r5 a3 n7 n8 kk nn aS aY a1;go_wp2_with (refine aC rfl _ _ _ rfl rfl (h+1) Y0 rfl rfl 32 Z bl.out (by rw[aT.out];exact gM) (by rw[bf.out,aT.out]) a5.out ?_;rw[<-bm.out])
 refine aK (mY rfl _ _ (h+1) Y0 aT.out rfl bj.out) rfl ?_;exact a4.out
theorem O0(aZ:tL):yq:=by
 intro w p Ah hc Aw wc Ap pc hp h1 h2;obtain⟨h,hh⟩:=fY (w.heap.size);obtain⟨X,hX⟩:=fY (gI p Ah hc Aw wc Ap pc);rw[<-hX];obtain⟨Z,hZ⟩:=fY (gI (lX 0 0 0 false) none 0 none 0 none 0);have hz:=(zero_of_info oC).1;rw[<-hZ]at hz;obtain⟨W1,al⟩:=fY ((w.alloc (ak X 32)).alloc (ak Z 32));have b1:aR h w W1:=by rw[al,hh];exact(gC.alloc fZ _).alloc (by simp) _
 have x1:gi W1 h X 32:=by rw[al,hh];exact(gi.new w _ _).old _
 have z1:gi W1 (h+1) Z 32:=by
  rw[al,hh];have:=gi.new (w.alloc (ak X 32)) Z 32
  rwa[World.size_alloc]at this
 have aU:h+1<W1.heap.size:=z1.lt;have av:=OY aZ W1 p Ah hc Aw wc Ap pc (hp.on (hh▸b1)) h1 h2 none 0 [] (gu.nil _ _ _ sP) (by show 0<=_;omega) rfl;simp only[List.length_nil,Fx]at av;obtain⟨R,hR⟩:=fY (kO (jN p) (iK p));obtain⟨E,hE⟩:=fY (jN p);rw[<-hR,<-hE]at av⊢;rw[<-hX]at av;have a1:=fX av;have a6:=fX al;have HH:=fX hh;have a7:=fX b1;have a8:=fX x1;have a9:=fX z1;have aW:=fX aU;have bd:aQ (X.size=9):=fX (by rw[hX];rfl);have bf:aQ (Z.size=9):=fX (by rw[hZ];rfl);have bg:aQ (lv Z):=fX (by rw[hZ];exact pz _ _ _ _ _ _ _)
 clear av al hh b1 x1 z1 aU hX hZ hR hE hp;go_enter func14,ntmps14
 go_wp2_with (first
  |(rw[<-a6.out,<-HH.out])
  |(refine aE rfl _ _ rfl h rfl _ X (0,0) _ a8.out underlying32 rfl (by rw[bd.out];exact gM) ?_)
  |fail)
 refine a1.out.mono ?_;rintro e w5 ⟨A7,k7,A8,a2,A9,k9,A6,k6,rfl,r5,a3,aX,n7,n8⟩;have z5:=a9.out.below aX aW.out;have aV:=a7.out.trans (aX.mono (by have:=aW.out;omega));obtain⟨Y0,aS⟩:=fY (gI R.1 A7 k7 A8 a2 A9 k9);obtain⟨lo,aY⟩:=fY (R.2.length);obtain⟨wC,ad⟩:=fY (w5.setRow (h+1) Y0);have bj:aQ (gi wC (h+1) Y0 32):=fX (by rw[ad];exact z5.row Y0);have bk:aQ (aR h w wC):=fX (by rw[ad];exact jU aV (by omega) _);have kk:∀{A:Option au} {n c:Nat} {f:Nat->Nat},gu w5 w5.heap.size A n c f->gu wC wC.heap.size A n c f:=fun{A n c f} q=>by
  rw[ad,size_setRow];exact q.pA z5 bg.out Y0
 have nn:∀{A:Option au} {n:Nat},kG w5 W1.heap.size A n->kG wC w.heap.size A n:=fun{A n} q h0=>by
  obtain⟨gg,o,cur,e1,e2,e3⟩:=q h0;have bn:=aW.out;have bp:=HH.out;refine⟨gg,o,cur,e1,by omega,?_⟩;rw[ad,aL _ _ _ _ (by omega)];exact e3
 have a4:aQ (oF w wC (ao (.tuple #[ah Y0,af A6 lo k6,ae aj E])) R E):=fX ⟨A7,k7,A8,a2,A9,k9,A6,k6,by rw[aS,aY],⟨kk r5.hist,kk r5.wait,kk r5.gm⟩,kk a3,HH.out▸bk.out,nn n7,nn n8⟩;have aT:aQ (Y0.size=9):=fX (by rw[aS];rfl);have a5:aQ (Y0.all (·.oneCell')=true):=fX (by rw[aS];exact lu ..);have bl:=fX z5;have bm:=fX ad
 rw[<-aS,<-aY];clear ad z5 aX aV r5 a3 n7 n8 kk nn aS aY a1;go_wp2_with (refine aC rfl _ _ _ rfl rfl (h+1) Y0 rfl rfl 32 Z bl.out (by rw[aT.out];exact gM) (by rw[bf.out,aT.out]) a5.out ?_;rw[<-bm.out])
 refine aK (mY rfl _ _ (h+1) Y0 aT.out rfl bj.out) rfl ?_;exact a4.out
end Go.Proofs.YtokpcpjnihinfaaGreat
