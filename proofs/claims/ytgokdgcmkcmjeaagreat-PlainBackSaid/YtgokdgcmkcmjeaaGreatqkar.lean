/-
  Words and walks.
-/
import Derived.Lib.SlBytesConst
import Derived.KernelRfl
import Derived.Test.YtgokdgcmkcmjeaaGreatqkaa
import Derived.Test.YtgokdgcmkcmjeaaGreatqkab
import Derived.Test.YtgokdgcmkcmjeaaGreatqkac
import Derived.Test.YtgokdgcmkcmjeaaGreatqkad
import Derived.Test.YtgokdgcmkcmjeaaGreatqkae
import Derived.Test.YtgokdgcmkcmjeaaGreatqkaf
import Derived.Test.YtgokdgcmkcmjeaaGreatqkag
import Derived.Test.YtgokdgcmkcmjeaaGreatqkah
import Derived.Test.YtgokdgcmkcmjeaaGreatqkak
import Derived.Test.YtgokdgcmkcmjeaaGreatqkal
import Derived.Test.YtgokdgcmkcmjeaaGreatqkan
import Derived.Test.YtgokdgcmkcmjeaaGreatqkap
import Derived.Test.YtgokdgcmkcmjeaaGreatqkaq
set_option maxRecDepth 100000
set_option maxHeartbeats 16000000
namespace Go.Proofs.YtgokdgcmkcmjeaaGreat
open Value renaming int → ae, slice → af, pointer → ag, agg → ai, bool → aj
open IntKind renaming i64 → ak
open Obj renaming cells → ao
open Ending renaming returned → aq
open Go renaming World → au, Addr → aw, Calls → ax, Value → ay, wpList_store_rowTo → aD, wpList_buildTo → aE, wpList_load_row → aF, heap_alloc_new → aH, setRow_heap → aJ, bodyPost_ret → aL
open Go.RowKit renaming Hid → aR, Below → aS
open _root_.Go.Proofs.Tryz
open Go.RowKit Go.ChangeShapes Go.WideShapes Go.ChangeAt Go.Joins
def qT(kind n:Nat)(r:Nat->Nat)(l:List fi):List (Nat×Nat):=if kind=0 then(List.range n).map fun i=>(r i,8)else ix (oP kind l) (lI kind l) (oQ kind l) (lJ kind l) l
theorem Ut(f:Nat->Nat)(k kind n:Nat)(r:Nat->Nat)(l:List fi)(last:Bool)(ad:kind<=2):
  fE f k (gp (k%8) kind n r l last)=fE (fE f k (gX k kind n l last)) (k+UQ (gX k kind n l last)) (qT kind n r l)/\UQ (gp (k%8) kind n r l last)=UQ (gX k kind n l last)+UQ (qT kind n r l):=by
 have hc:kind=0\/kind=1\/kind=2:=by omega
 rcases hc with rfl|rfl|rfl
 ·have e1:gp (k%8) 0 n r l last=[(if last then 1 else 0,1),(0,2)]++(List.replicate (jV (k%8)) (0,1)++([(n,16),(65535-n,16)]++((List.range n).map fun i=>(r i,8)))):=by
   show _++pK (k%8) n r=_
   unfold pK;rw[List.append_assoc]
  have e2:gX k 0 n l last++qT 0 n r l=[(if last then 1 else 0,1),(0,2)]++((0,jV (k%8))::([(n,16),(65535-n,16)]++((List.range n).map fun i=>(r i,8)))):=by
   have hp:(8-(k+3)%8)%8=jV (k%8):=by unfold jV;omega
   show([(if last then 1 else 0,1),(0,2)]++[(0,(8-(k+3)%8)%8),(n,16),(65535-n,16)])++((List.range n).map fun i=>(r i,8))=_
   rw[hp];rfl
  obtain⟨X,hX⟩:∃X:List (Nat×Nat),X=[(if last then 1 else 0,1),(0,2)]:=⟨_,rfl⟩;obtain⟨Y,hY⟩:∃Y:List (Nat×Nat),Y=[(n,16),(65535-n,16)]++((List.range n).map fun i=>(r i,8)):=⟨_,rfl⟩;rw[<-hX,<-hY]at e1 e2;obtain⟨h1,h2⟩:=OM (fE f k X) (k+UQ X) (jV (k%8)) Y;rw[<-ku,<-gm,e2,e1];constructor
  ·rw[ku f k X,ku f k X ((0,jV (k%8))::Y),h1]
  ·rw[gm X,gm X ((0,jV (k%8))::Y),h2]
 ·rw[<-ku,<-gm];have e:gp (k%8) 1 n r l last=gX k 1 n l last++qT 1 n r l:=by
   show _=([(if last then 1 else 0,1),(1,2)]++[])++ix iH 288 iZ 32 l
   unfold gp;rw[if_pos rfl,List.append_nil]
  rw[e];exact⟨rfl,rfl⟩
 ·rw[<-ku,<-gm];have e:gp (k%8) 2 n r l last=gX k 2 n l last++qT 2 n r l:=by
   show _=([(if last then 1 else 0,1),(2,2)]++jC l)++ix (ja l) (nA l) (jb l) (nB l) l
   unfold gp;rw[if_neg (show¬(2:Nat)=1 by omega),if_pos rfl,List.append_assoc]
  rw[e];exact⟨rfl,rfl⟩
theorem Uu(kind:Nat)(l:List fi)(ah:kind=1\/kind=2)(hl:l.length<=65535)(ad:∀t∈l,fH t=true/\t.x<256):
  fD (oP kind l) (lI kind l) 15=0/\fD (oQ kind l) (lJ kind l) 15=0/\256<lI kind l/\lI kind l<=288/\0<lJ kind l/\lJ kind l<=32/\∀t∈l,iP t<lI kind l/\(t.n≠0->kl t<lJ kind l):=by
 rcases ah with rfl|rfl
 ·have e1:oP 1 l=iH:=by unfold oP;rw[if_pos rfl]
  have e2:oQ 1 l=iZ:=by unfold oQ;rw[if_pos rfl]
  have e3:lI 1 l=288:=by unfold lI;rw[if_pos rfl]
  have e4:lJ 1 l=32:=by unfold lJ;rw[if_pos rfl]
  rw[e1,e2,e3,e4];refine⟨Cm,Cn,by omega,by omega,by omega,by omega,fun t ht=>?_⟩;obtain⟨h1,_,h3⟩:=mR (ad t ht).1 (ad t ht).2;exact⟨by omega,fun h=>by have:=(h3 h).2.2.2;omega⟩
 ·obtain⟨_,_,_,_,a1,a2,b1,b2,hA,hB⟩:=lO l (by omega);have e1:oP 2 l=ja l:=by unfold oP;rw[if_neg (show¬(2:Nat)=1 by omega),if_pos rfl]
  have e2:oQ 2 l=jb l:=by unfold oQ;rw[if_neg (show¬(2:Nat)=1 by omega),if_pos rfl]
  have e3:lI 2 l=nA l:=by unfold lI;rw[if_neg (show¬(2:Nat)=1 by omega),if_pos rfl]
  have e4:lJ 2 l=nB l:=by unfold lJ;rw[if_neg (show¬(2:Nat)=1 by omega),if_pos rfl]
  rw[e1,e2,e3,e4];refine⟨Sh l (by omega),Si l (by omega),by omega,by omega,by omega,by omega,fun t ht=>?_⟩;obtain⟨h1,_,h3⟩:=mR (ad t ht).1 (ad t ht).2;exact⟨(hA _ h1 (zy ht)).1,fun h=>(hB _ (h3 h).2.2.2 (zz ht h)).1⟩
theorem Uv{w w':au}{S:Nat->Prop}{B g K n:Nat}{F r:Nat->Nat}{A A':Option aw}{c c':Nat}(ah:Ve F K)(h8:K%8=0)(hr:∀j,r j<256)(h:jh w S B g F (K/8) (F (K/8)) (K%8) A c)
  (ho:w'.ownsRow B 5 1 (af A' (K/8+n) c') (K/8+n) (ft (K/8+n) (qy F (K/8) n r))) (hb:aS B w w')
  (hk:∀k,k<w.heap.size->(Value.slice A (K/8) c).ownBlock≠some k->w'.heap[k]?=w.heap[k]?) (hw:∀j,(Value.slice A' (K/8+n) c').ownBlock=some j->(Value.slice A (K/8) c).ownBlock=some j\/w.heap.size<=j):
  gq (w'.setCell ⟨g,0,none⟩ (af A' (K/8+n) c')) S B g (fE F K ((List.range n).map fun i=>(r i,8))) (K+UQ ((List.range n).map fun i=>(r i,8)))/\aS B w (w'.setCell ⟨g,0,none⟩ (af A' (K/8+n) c')):=by
 have ad:=ah.ti ((List.range n).map fun i=>(r i,8))
 obtain⟨q1,_,q3⟩:=h.grown ho hb hk hw
 refine⟨⟨ad,A',c',?_⟩,q3⟩
 rw[Gu ah h8 r hr,ve]at ad⊢
 have e1:(K+8*n)/8=K/8+n:=by omega
 have e2:(K+8*n)%8=K%8:=by omega
 have e3:qy F (K/8) n r (K/8+n)=F (K/8):=by
  have z:=ah.2.2;rw[h8]at z;have e:(2:Nat)^0=1:=rfl;unfold qy;rw[if_neg (by omega),if_neg (by omega)];omega
 rw[e1,e2,e3]
 exact q1
theorem Uw:Qe:=by
 intro w A n c f k kind A1 rn rc r A2 m c2 l last hp eS eT eU ej cU en eo cV dt;obtain⟨hm,bE,_⟩:=eo;obtain⟨E,hE⟩:=fb (rD f n k kind rn r l last);obtain⟨KK,bL⟩:=fb (vR f n k kind rn r l last);obtain⟨FF,bM⟩:=fb (vS f n k kind rn r l last);rw[<-hE,<-bL,<-bM];unfold vR at bL;unfold vS at bM;rw[<-hE]at bL bM;unfold rD at hE;have cy:∀w':au,E≠0->aS w.heap.size w w'->Ho w w' (aq (.tuple #[ai #[af none 0 0,ae ak 0],ae ak E])) KK E FF:=fun w' h hb=>by
  have e1:KK=0:=by rw[bL,if_neg h]
  have e2:FF=fun _=>0:=by rw[bM,if_neg h]
  subst e1;subst e2;exact⟨none,0,0,rfl,rfl,fq.nil _ _ _ (fun _=>by show 0<256;omega),hb,iT.nil _ _ _⟩
 obtain⟨h,hh⟩:=fb (w.heap.size);obtain⟨W1,bQ⟩:=fb ((w.alloc (ao #[af A n c,ae ak k] 62)).alloc (ao #[af none 0 0,ae ak 0] 62));have h0:W1.heap[h]?=some (ao #[af A n c,ae ak k] 62 (0,0)):=by rw[bQ,hh];exact heap_alloc2_old w _ _
 have h1:W1.heap[h+1]?=some (ao #[af none 0 0,ae ak 0] 62 (0,0)):=by rw[bQ,hh];exact heap_alloc2_new w _ _
 have bR:aS h w W1:=by rw[bQ,hh];exact((Below.refl w.heap.size w).alloc fe _).alloc (by simp) _
 have du:h+1<W1.heap.size:=(Array.getElem?_eq_some_iff.1 h1).1;rw[<-hh]at hp cU bE;have ck:=fa ((hp.below bR fe).more (show h<=W1.heap.size by omega));have bF:=fa ((cU.below bR fe).more (show h<=W1.heap.size by omega));have bS:=fa ((bE.below bR fe).more (show h<=W1.heap.size by omega));have ep:aR (∀b o,0<m->A2=some ⟨b,o,none⟩->b<h):=fa fun b o h0 e=>by
  obtain⟨b',o',e',eV,_⟩:=bE.at (k:=0) (by omega);rw[e]at e';injection e' with e'
  injection e' with e1
  omega
 have bl:=fa (El W1 A n c f k ck.out.1);have H0:=fa h0;have H1:=fa h1;have cW:=fa bR;have bn:=fa du;have cX:=fa bQ;have HH:=fa hh
 have HE:=fa hE;have cY:=fa bL;have cZ:=fa bM;have HM:=fa hm;have dv:=fa dt;have bG:=fa cy
 clear hE bL bM hm dt cy hp cU bE h0 h1 bR du bQ hh;obtain⟨b,hb⟩:=fb (oA f n k);rw[<-hb]at HE;cases b with
 |false=>
  have e8:E=8:=by rw[HE.out,if_pos rfl]
  have bT:lr f n k=8:=by unfold lr;rw[<-hb];rfl
  rw[bT]at bl;clear HE cY cZ hb bT;subst e8;go_enter func22,ntmps22
  go_wp2_with (first
   |(rw[<-cX.out,<-HH.out];refine aF rfl _ _ rfl h rfl _ #[af A n c,ae ak k] (0,0) _ H0.out underlying62 rfl l5 ?_)
   |fail)
  refine bl.out.mono ?_;rintro e w2 ⟨rfl,aT⟩;have dw:=fa ((aT.block (h+1) bn.out).trans H1.out);have dx:=fa (cW.out.trans (aT.mono (by have:=bn.out;omega)));clear aT;go_wp2_with (first
   |(refine aE rfl 62 #[] rfl (some 21) rfl #[af none 0 0,ae ak 0] ?_ ?_;focus(simpa[Act.eval]using yg))
   |(refine aD rfl _ _ _ rfl rfl (h+1) #[af none 0 0,ae ak 0] rfl rfl 62 #[af none 0 0,ae ak 0] dw.out l5 rfl (by simp[Value.oneCell']) ?_))
  refine aL (uf rfl _ _ (h+1) #[af none 0 0,ae ak 0] rfl rfl (aJ _ _ _ _ _ _ dw.out)) rfl ?_;refine bG.out _ (by omega) ?_;rw[<-HH.out];exact oX dx.out (by omega) _
 |true=>
  obtain⟨K,rfl,dy,dz,cz⟩:=Qd ck.out.1.1 hb.symm;have bT:lr f n (K:Int)=0:=by unfold lr;rw[<-hb];rfl
  rw[bT]at bl;have he:=HE.out;rw[if_neg (by decide),Int.toNat_natCast]at he;have bU:=cY.out;have bV:=cZ.out;rw[Int.toNat_natCast]at bU bV;have bq:=fun U hU=>IX U kind A1 rn rc A2 m c2 l ej HM.out ((bS.out.below hU fe).more (hU:aS W1.heap.size W1 U).size) cV en dv.out
  obtain⟨Q,hQ⟩:=fb (my kind rn l);rw[<-hQ]at he bq;have bq:=fa bq;have dA:=fa cz;have er:=fa dz
  clear HE cY cZ hb bT cz dz;by_cases q0:Q=0
  ·subst q0;rw[if_neg (fun g=>g rfl)]at he;obtain⟨k2,n2,l2,cA⟩:=Ei hQ.symm;have c7:∀t∈l,fH t=true/\t.x<256:=fun t ht=>⟨cA t ht,(dv.out t ht).1⟩
   obtain⟨bW,cl⟩:=Ut (ie n f) K kind rn r l last k2;have et:=xh (a:=K%8) (last:=last) k2 n2 bF.out.1.1 l2 c7;obtain⟨T,hT⟩:=fb (UQ (gp (K%8) kind rn r l last));obtain⟨GF,bN⟩:=fb (fE (ie n f) K (gp (K%8) kind rn r l last));obtain⟨O,hO⟩:=fb (UQ (gX K kind rn l last));obtain⟨QF,c8⟩:=fb (fE (ie n f) K (gX K kind rn l last));rw[<-hT]at he bU cl et;rw[<-bN]at bV bW;rw[<-hO]at bW cl;rw[<-c8]at bW;have eW:O<=T:=by omega
   have cm:=fa c7;have dB:=fa bW;have dC:=fa cl;have HO:=fa hO;have eu:=fa c8;have cn:=fa he;have dD:=fa bU;have dE:=fa bV
   have ev:=fa bF.out.1.1;clear c7 bW cl hT bN hO c8 he bU bV hQ cA;go_enter func22,ntmps22
   go_wp2_with (first
    |(rw[<-cX.out,<-HH.out];refine aF rfl _ _ rfl h rfl _ #[af A n c,ae ak (K:Int)] (0,0) _ H0.out underlying62 rfl l5 ?_)
    |fail)
   refine bl.out.mono ?_;rintro e w2 ⟨rfl,aT⟩;have a3:=fa (bq.out w2 aT);have aU:=fa aT;clear aT bq bl;go_wp2_with fail
   refine a3.out.mono ?_;rintro e w4 ⟨rfl,bX⟩;have ad:=aU.out.trans (bX.mono aU.out.size);have dF:=(ad.block h (by have:=bn.out;omega)).trans H0.out;have c9:=(ad.block (h+1) bn.out).trans H1.out;have dG:=(ck.out.below ad fe).more ad.size;have dH:=R8 w4 A n c f K dG dy er.out;have dI:=fa dH;have ew:=fa dF;have bY:=fa c9;have dJ:=fa ((bF.out.below ad fe).more ad.size);have cB:=fa ((bS.out.below ad fe).more ad.size)
   have aY:aR (aS h w w4):=fa (cW.out.trans (ad.mono (by have:=bn.out;omega)));have ah:aR (h+1<w4.heap.size):=fa (Array.getElem?_eq_some_iff.1 c9).1;clear dH dF c9 ad bX dG a3 aU ck bF bS;go_wp2_with (first
    |(refine aF rfl _ _ rfl h rfl _ #[af A n c,ae ak (K:Int)] (0,0) _ ew.out underlying62 rfl l5 ?_)
    |fail)
   refine dI.out.mono ?_;rintro e w5 ⟨Aw,cw,rfl,da,br⟩;obtain⟨S,hS⟩:∃S:Nat->Prop,S=fun j=>j<w4.heap.size:=⟨_,rfl⟩
   obtain⟨W6,cp⟩:=fb (gi w5 #[af none 0 0,ae .u64 0,ae ak 0] #[af Aw (K/8) cw,ae .u64 ((ie n f (K/8):Nat):Int),ae ak ((K%8:Nat):Int)] 99);have b6:aS w5.heap.size w5 W6:=by rw[cp];exact km _ _ _ _
   have bZ:W6.heap[w5.heap.size]?=some (ao #[af Aw (K/8) cw,ae .u64 ((ie n f (K/8):Nat):Int),ae ak ((K%8:Nat):Int)] 99 (0,0)):=by rw[cp];exact kO w5 _ _ _
   have dK:gq W6 S w4.heap.size w5.heap.size (ie n f) K:=⟨dA.out,Aw,cw,⟨br.size,by have:=b6.size;have:=br.size;omega,by rw[hS];have:=br.size;omega,bZ,mS da b6,fun j hj=>by rw[hS];have:=(gP da j hj).1;omega,fun j hj=>by rw[hS]at hj;have:=b6.size;have:=br.size;omega⟩⟩;have bH:=br.trans (b6.mono br.size);have dL:=IU W6 A2 m c2 l HM.out ((cB.out.below bH fe).more bH.size) cV cm.out;have dM:aR (∀j,j<w4.heap.size->S j):=fa fun j hj=>by rw[hS];exact hj
   have dN:=fa dL;have db:=fa dK;have cC:=fa bH;have ey:=fa cp
   obtain⟨g,hg⟩:=fb (w5.heap.size);rw[<-hg]at db;have HG:=fa hg;clear dL dK bH cp b6 bZ da br dI hS hg;go_wp2_with (first
    |(refine aD rfl _ _ _ rfl rfl w5.heap.size #[af Aw (K/8) cw,ae .u64 ((ie n f (K/8):Nat):Int),ae ak ((K%8:Nat):Int)] rfl rfl 99 #[af none 0 0,ae .u64 0,ae ak 0] (aH w5 _) (rJ _ _ _) rfl (by simp[Value.oneCell']) ?_;change wpList _ _ _ _ _ (gi w5 #[af none 0 0,ae .u64 0,ae ak 0] #[af Aw (K/8) cw,ae .u64 ((ie n f (K/8):Nat):Int),ae ak ((K%8:Nat):Int)] 99);rw[<-ey.out])
    |fail)
   rw[<-HG.out];refine dN.out.mono ?_;rintro e w7 ⟨rfl,cr,dc⟩;obtain⟨gc,cD⟩:=fb (W6.heap.size);rw[<-cD]at cr⊢;obtain⟨S7,ct⟩:∃S':Nat->Prop,S'=fun j=>S j\/(W6.heap.size<=j/\j<w7.heap.size):=⟨_,rfl⟩
   have cE:gq w7 S7 w4.heap.size g (ie n f) K:=by rw[ct];exact db.out.grow dc
   have cH:∀j,j<w4.heap.size->S7 j:=fun j hj=>by rw[ct];exact .inl (dM.out j hj)
   have cI:S7 gc:=by rw[ct];exact .inr ⟨by omega,cr.lt⟩
   have hop:=J4 w7 S7 w4.heap.size g (ie n f) K rn gc kind l last cE k2 n2 dy cI cr l2 cm.out (by rw[<-HO.out];omega);have cJ:aS w4.heap.size w4 w7:=cC.out.trans (dc.mono cC.out.size);have dO:=fa hop;have dP:=fa cH;have cK:=fa cJ
   clear hop cH cI cE ct cr dc cJ cD dN db dM;go_wp2_with fail
   refine dO.out.mono ?_;rintro e w8 ⟨ez,eA,eB,eC,rfl,bO,bP,bt,eD,dQ⟩;rw[<-HO.out,<-eu.out]at bt;have aZ:=fa bt;have a4:=fa (cK.out.trans dQ)
   have dR:=fa bO;have dS:=fa bP
   clear bt eD dQ bO bP dO cK;by_cases dT:kind=0
   ·subst dT;have al:=dC.out;have av:=dB.out;have b0:qT 0 rn r l=(List.range rn).map fun i=>(r i,8):=by unfold qT;rw[if_pos rfl]
    rw[b0]at al av;have eE:(K+O)%8=0:=by
     have e:UQ [(0,(8-(K+3)%8)%8),(rn,16),(65535-rn,16)]=(8-(K+3)%8)%8+32:=by simp[UQ]
     have e2:UQ [((if last then 1 else 0:Nat),1),(0,2)]=3:=rfl;have e3:gX K 0 rn l last=[(if last then 1 else 0,1),(0,2)]++[(0,(8-(K+3)%8)%8),(rn,16),(65535-rn,16)]:=by unfold gX;rw[if_neg (show¬(0:Nat)=1 by omega),if_neg (show¬(0:Nat)=2 by omega)]
     rw[HO.out,e3,gm,e,e2];omega
    obtain⟨cL,Aq,cq,a5⟩:=aZ.out;have cM:fq w8 w8.heap.size A1 rn rc r:=(dJ.out.below a4.out fe).more a4.out.size;obtain⟨A',c',w',b1,ho,dU,dd,dV⟩:=Bl w8 w4.heap.size Aq ((K+O)/8) cq QF a5.own A1 rn rc r (qy QF ((K+O)/8) rn r) cM (fun j hj=>by unfold qy;rw[if_pos hj]) (fun j hj=>by unfold qy;rw[if_neg (by omega),if_pos (by omega),Nat.add_sub_cancel_left]) (by omega) a5.size;obtain⟨b2,cu⟩:=Uv cL eE ev.out a5 ho dU dd dV;rw[<-av,Nat.add_assoc,<-al]at b2;obtain⟨z0,_,_,e0,_,_⟩:=a5.cells;have de:=(dd g a5.lt a5.ne).trans a5.row;have eX:w'.frozen? ⟨g,0,none⟩=false:=frozen_of_row w' g 0 _ _ de;have dW:w'.cell? ⟨g,0,none⟩=some (af Aq ((K+O)/8) cq):=(cell_of_row w' g 0 _ _ (0,0) de).trans rfl;obtain⟨Lq,dX⟩:=fb ((K+O)/8);rw[<-dX]at b1 b2 cu z0 dW;obtain⟨WX,dg⟩:=fb (w'.setCell ⟨g,0,none⟩ (af A' (Lq+rn) c'));rw[<-dg]at b2 cu;have eY:Lq<=2000000:=by omega
    have dY:=fa b1;have bu:=fa b2;have bx:=fa (a4.out.trans cu);have eH:=fa dg
    clear b1 b2 cu dg ho dU dd dV a5 cM cL al av b0 de dX aZ;go_wp2_with (first
     |(at_builtin;refine wpList_append_run rfl (.tmp 46) (.tmp 47) 22 rfl (af Aq Lq cq) (af A1 rn rc) (af A' (Lq+rn) c') w' rfl rfl dY.out ?_)
     |(rw[<-eH.out])
     |fail)
    have a6:=yu WX S7 w4.heap.size g GF (K+T) bu.out (by omega);have a7:=fa a6;clear a6;go_wp2_with fail
    refine a7.out.mono ?_;rintro e eI ⟨rfl,rfl⟩;have a8:WX.drew.heap[h+1]?=some (ao #[af none 0 0,ae ak 0] 62 (0,0)):=(bx.out.block (h+1) ah.out).trans bY.out;have aV:=fa a8;clear a8 a7;by_cases aW:8388608<K+T
    ·have e9:E=9:=by rw[cn.out,if_pos aW]
     have bz:(8388608:Int)<(K:Int)+(T:Int):=by omega
     have b3:decide ((8388608:Int)<(K:Int)+(T:Int))=true:=kc bz;have dh:=fa e9;clear e9;go_wp2_with (first
      |(refine aE rfl 62 #[] rfl (some 60) rfl #[af none 0 0,ae ak 0] ?_ ?_;focus(simpa[Act.eval]using yg))
      |(refine aD rfl _ _ _ rfl rfl (h+1) #[af none 0 0,ae ak 0] rfl rfl 62 #[af none 0 0,ae ak 0] aV.out l5 rfl (by simp[Value.oneCell']) ?_))
     refine aL (uf rfl _ _ (h+1) #[af none 0 0,ae ak 0] rfl rfl (aJ _ _ _ _ _ _ aV.out)) rfl ?_;have a9:=bG.out;rw[dh.out]at a9⊢;refine a9 _ (by omega) ?_;rw[<-HH.out];exact oX (aY.out.trans ((bx.out.drew).mono (by have:=ah.out;omega))) (by omega) _
    ·have e0:E=0:=by rw[cn.out,if_neg aW]
     have bz:¬(8388608:Int)<(K:Int)+(T:Int):=by omega
     have b3:decide ((8388608:Int)<(K:Int)+(T:Int))=false:=jd bz;have bA:=fa e0;clear e0;have bB:=I3 WX.drew S7 w4.heap.size g GF (K+T) bu.out.drew (by omega);obtain⟨kt,bC⟩:=fb (K+T);rw[<-bC]at bB;have eJ:(K:Int)+(T:Int)=(kt:Int):=by omega
     have b4:=fa bB;have di:=fa bC
     clear bB bC;go_wp2_with fail
     refine b4.out.mono ?_;rintro e dj ⟨A',c',L,hL,rfl,ho,aX⟩;have bf:=(aX.block (h+1) ah.out).trans aV.out;have b5:∀j,(Value.slice A' L c').ownBlock=some j->j≠h+1:=fun j hj=>by have:=(gP ho j hj).1;have:=ah.out;omega
     have bg:=fa bf;have b7:=fa ho;have b8:=fa (bx.out.drew.trans aX);have b9:=fa hL;have dk:=fa b5
     clear bf ho aX hL b5 b4;go_wp2_with (first
      |(refine aD rfl _ _ _ rfl rfl (h+1) #[af A' L c',ae ak (kt:Int)] rfl rfl 62 #[af none 0 0,ae ak 0] bg.out l5 rfl (by simp[Value.oneCell']) ?_))
     refine aL (uf rfl _ _ (h+1) #[af A' L c',ae ak (kt:Int)] rfl rfl (aJ _ _ _ _ _ _ bg.out)) rfl ?_;have ek:KK=kt:=by rw[dD.out,if_pos bA.out,di.out]
     have ef:FF=GF:=by rw[dE.out,if_pos bA.out]
     have bN:∀j,GF j<256:=bu.out.1.1;have bj:=iB b7.out (w':=dj.setRow (h+1) #[af A' L c',ae ak (kt:Int)]) fun j hj=>setRow_other _ _ _ _ (dk.out j hj)
     rw[ek,ef,bA.out];have hle:w.heap.size=h:=HH.out.symm;refine⟨A',c',L,b9.out,rfl,fq.gD bj bN,?_,IZ (rj bj (by rw[hle];have:=ah.out;omega))⟩;rw[hle];exact oX (aY.out.trans (b8.out.mono (by have:=ah.out;omega))) (by omega) _
   ·have eZ:((kind:Int)==0)=false:=by rw[beq_eq_false_iff_ne];omega
    obtain⟨ca,cb,m1,m2,n1,n3,dm⟩:=Uu kind l (by omega) l2 cm.out;have b0:qT kind rn r l=ix (oP kind l) (lI kind l) (oQ kind l) (lJ kind l) l:=by unfold qT;rw[if_neg dT]
    have al:=dC.out;have av:=dB.out;rw[b0]at al av;have bO:=dR.out;have bP:=dS.out;obtain⟨M,hM⟩:=fb (lI kind l);obtain⟨N,hN⟩:=fb (lJ kind l);obtain⟨FA,dn⟩:=fb (oP kind l);obtain⟨FB,dp⟩:=fb (oQ kind l);rw[<-hM,<-dn]at bO ca;rw[<-hN,<-dp]at bP cb;rw[<-hM]at m1 m2;rw[<-hN]at n1 n3;rw[<-hM,<-hN]at dm;rw[<-hM,<-hN,<-dn,<-dp]at al av;rw[<-hM,<-hN];have dZ:=Co w8 ez M eA FA bO (by omega) (by omega) ca;have ea:=fa dZ;have eb:=fa bP;have eK:=fa ca;have ec:=fa cb;have eL:=fa dm;have cN:=fa al;have ed:=fa av
    clear dZ bO bP ca cb dm al av b0 hM hN dn dp dR dS;have e4:∀(fn:Fn) (first cap:Array ay) (w:au),(Instr.makeFunc fn first cap).run prog w=.ok (.func fn first cap) w:=fun _ _ _ _=>rfl
    go_wp2_with fail
    refine ea.out.mono ?_;rintro e w9 ⟨ga,eM,rfl,eg,cO,cv⟩;have cP:=Co w9 eB N eC FB ((eb.out.below cv fe).more cv.size) (by omega) (by omega) ec.out;have cQ:=fa cP;have bI:=fa cO;have cx:=fa cv
    clear cP cO cv ea;go_wp2_with fail
    refine cQ.out.mono ?_;rintro e a1 ⟨gb,eN,rfl,eO,cf,bJ⟩;have bD:aS w8.heap.size w8 a1:=cx.out.trans (bJ.mono cx.out.size);obtain⟨SX,cg⟩:∃S':Nat->Prop,S'=fun j=>S7 j\/(w8.heap.size<=j/\j<a1.heap.size):=⟨_,rfl⟩
    have bK:gq a1 SX w4.heap.size g QF (K+O):=by rw[cg];exact aZ.out.grow bD
    have dq:∀j,S7 j->SX j:=fun j hj=>by rw[cg];exact .inl hj
    have a2:aS w4.heap.size w4 a1:=a4.out.trans (bD.mono a4.out.size);have ch:j5 a1 a1.heap.size A2 l:=(cB.out.below a2 fe).more a2.size;have eh:=bI.out.lt;have cR:=cf.lt;have cS:pE a1 SX ga M FA:=⟨bI.out.below bJ bI.out.lt,by rw[cg];exact .inr ⟨eg,by have:=bJ.size;omega⟩,eK.out⟩;have cT:pE a1 SX gb N FB:=⟨cf,by rw[cg];exact .inr ⟨by have:=cx.out.size;omega,cR⟩,ec.out⟩;have dr:=Ud a1 SX w4.heap.size g QF (K+O) A2 m c2 l FA ga M eM FB gb N eN bK HM.out ch (fun b o h0 e=>dq b (dP.out b (by have:=ep.out b o h0 e;have:=ah.out;omega))) cV cS cT (by omega) (by omega) m1 cm.out eL.out (by rw[Nat.add_assoc,<-cN.out];omega);rw[<-ed.out,Nat.add_assoc,<-cN.out]at dr;have ei:=fa dr;have cj:=fa a2;have eP:=fa dq
    clear dr a2 dq cS cT ch bK cg bD bJ cf eg eO eh cR cQ aZ bI cx eb;go_wp2_with fail
    refine ei.out.mono ?_;rintro e WX ⟨rfl,t1,_,t3⟩;have bu:=fa (t1.less eP.out);have bx:=fa (cj.out.trans t3)
    clear t1 t3 ei cj;have a6:=yu WX S7 w4.heap.size g GF (K+T) bu.out (by omega);have a7:=fa a6;clear a6;go_wp2_with fail
    refine a7.out.mono ?_;rintro e eI ⟨rfl,rfl⟩;have a8:WX.drew.heap[h+1]?=some (ao #[af none 0 0,ae ak 0] 62 (0,0)):=(bx.out.block (h+1) ah.out).trans bY.out;have aV:=fa a8;clear a8 a7;by_cases aW:8388608<K+T
    ·have e9:E=9:=by rw[cn.out,if_pos aW]
     have bz:(8388608:Int)<(K:Int)+(T:Int):=by omega
     have b3:decide ((8388608:Int)<(K:Int)+(T:Int))=true:=kc bz;have dh:=fa e9;clear e9;go_wp2_with (first
      |(refine aE rfl 62 #[] rfl (some 60) rfl #[af none 0 0,ae ak 0] ?_ ?_;focus(simpa[Act.eval]using yg))
      |(refine aD rfl _ _ _ rfl rfl (h+1) #[af none 0 0,ae ak 0] rfl rfl 62 #[af none 0 0,ae ak 0] aV.out l5 rfl (by simp[Value.oneCell']) ?_))
     refine aL (uf rfl _ _ (h+1) #[af none 0 0,ae ak 0] rfl rfl (aJ _ _ _ _ _ _ aV.out)) rfl ?_;have a9:=bG.out;rw[dh.out]at a9⊢;refine a9 _ (by omega) ?_;rw[<-HH.out];exact oX (aY.out.trans ((bx.out.drew).mono (by have:=ah.out;omega))) (by omega) _
    ·have e0:E=0:=by rw[cn.out,if_neg aW]
     have bz:¬(8388608:Int)<(K:Int)+(T:Int):=by omega
     have b3:decide ((8388608:Int)<(K:Int)+(T:Int))=false:=jd bz;have bA:=fa e0;clear e0;have bB:=I3 WX.drew S7 w4.heap.size g GF (K+T) bu.out.drew (by omega);obtain⟨kt,bC⟩:=fb (K+T);rw[<-bC]at bB;have eJ:(K:Int)+(T:Int)=(kt:Int):=by omega
     have b4:=fa bB;have di:=fa bC
     clear bB bC;go_wp2_with fail
     refine b4.out.mono ?_;rintro e dj ⟨A',c',L,hL,rfl,ho,aX⟩;have bf:=(aX.block (h+1) ah.out).trans aV.out;have b5:∀j,(Value.slice A' L c').ownBlock=some j->j≠h+1:=fun j hj=>by have:=(gP ho j hj).1;have:=ah.out;omega
     have bg:=fa bf;have b7:=fa ho;have b8:=fa (bx.out.drew.trans aX);have b9:=fa hL;have dk:=fa b5
     clear bf ho aX hL b5 b4;go_wp2_with (first
      |(refine aD rfl _ _ _ rfl rfl (h+1) #[af A' L c',ae ak (kt:Int)] rfl rfl 62 #[af none 0 0,ae ak 0] bg.out l5 rfl (by simp[Value.oneCell']) ?_))
     refine aL (uf rfl _ _ (h+1) #[af A' L c',ae ak (kt:Int)] rfl rfl (aJ _ _ _ _ _ _ bg.out)) rfl ?_;have ek:KK=kt:=by rw[dD.out,if_pos bA.out,di.out]
     have ef:FF=GF:=by rw[dE.out,if_pos bA.out]
     have bN:∀j,GF j<256:=bu.out.1.1;have bj:=iB b7.out (w':=dj.setRow (h+1) #[af A' L c',ae ak (kt:Int)]) fun j hj=>setRow_other _ _ _ _ (dk.out j hj)
     rw[ek,ef,bA.out];have hle:w.heap.size=h:=HH.out.symm;refine⟨A',c',L,b9.out,rfl,fq.gD bj bN,?_,IZ (rj bj (by rw[hle];have:=ah.out;omega))⟩;rw[hle];exact oX (aY.out.trans (b8.out.mono (by have:=ah.out;omega))) (by omega) _
  ·have eQ:E=Q:=by rw[he,if_pos q0]
   have e5:(Q==0)=false:=by rw[beq_eq_false_iff_ne];exact q0
   clear he bU bV hQ;go_enter func22,ntmps22
   go_wp2_with (first
    |(rw[<-cX.out,<-HH.out];refine aF rfl _ _ rfl h rfl _ #[af A n c,ae ak (K:Int)] (0,0) _ H0.out underlying62 rfl l5 ?_)
    |fail)
   refine bl.out.mono ?_;rintro e w2 ⟨rfl,aT⟩;have a3:=fa (bq.out w2 aT);have aU:=fa aT;have eR:=fa eQ;clear aT bq bl eQ;go_wp2_with fail
   refine a3.out.mono ?_;rintro e w4 ⟨rfl,bX⟩;have ad:=aU.out.trans (bX.mono aU.out.size);have bY:=fa ((ad.block (h+1) bn.out).trans H1.out);have aY:aR (aS h w w4):=fa (cW.out.trans (ad.mono (by have:=bn.out;omega)));clear bX ad aU a3;go_wp2_with (first
    |(refine aE rfl 62 #[] rfl (some 29) rfl #[af none 0 0,ae ak 0] ?_ ?_;focus(simpa[Act.eval]using yg))
    |(refine aD rfl _ _ _ rfl rfl (h+1) #[af none 0 0,ae ak 0] rfl rfl 62 #[af none 0 0,ae ak 0] bY.out l5 rfl (by simp[Value.oneCell']) ?_))
   refine aL (uf rfl _ _ (h+1) #[af none 0 0,ae ak 0] rfl rfl (aJ _ _ _ _ _ _ bY.out)) rfl ?_;have a9:=bG.out;rw[eR.out]at a9⊢;refine a9 _ q0 ?_;rw[<-HH.out];exact oX aY.out (by omega) _
theorem J6{p:fF}(gd:kG p):oA (fc p.fp) p.fp.length p.k=true:=by
 have hk:p.k=(p.k.toNat:Int):=by have:=gd.k0;omega
 rw[hk];exact MT gd.clean gd.len (by have:=gd.k7;omega)
theorem Ux{p:fF}(gd:kG p){kind:Nat}{raw:List Nat}{l:List fi}{last:Bool}(al:kind<=2)(hr:raw.length<=65535)(hb:iA raw)(hl:l.length<=65535)(ad:∀t∈l,fH t=true/\t.x<256):
  rD (fc p.fp) p.fp.length p.k kind raw.length (fc raw) l last=0/\vR (fc p.fp) p.fp.length p.k kind raw.length (fc raw) l last=(jw p.fp p.k.toNat kind raw l last).2/\vS (fc p.fp) p.fp.length p.k kind raw.length (fc raw) l last=fc (jw p.fp p.k.toNat kind raw l last).1/\(jw p.fp p.k.toNat kind raw l last).2<=4320007:=by
 have hle:=JQ (k:=p.k.toNat) (kind:=kind) (raw:=raw) (l:=l) (last:=last) al (by have:=gd.k7;omega) hr hb hl ad
 have ah:my kind raw.length l=0:=by
  unfold my;rw[if_neg (by omega),if_neg (by omega),if_pos];exact List.all_eq_true.2 fun t ht=>(ad t ht).1
 have hE:rD (fc p.fp) p.fp.length p.k kind raw.length (fc raw) l last=0:=by
  unfold rD;rw[J6 gd,if_neg (by simp),ah,if_neg (by simp),if_neg (by omega)]
 refine⟨hE,?_,?_,hle⟩
 ·unfold vR;rw[hE,if_pos rfl];rfl
 ·unfold vS;rw[hE,if_pos rfl,Fi];show _=fc (iF _ _)
  have hc:=gd.clean.ti (gp (p.k.toNat%8) kind raw.length (fc raw) l last);rw[Ar,zM hc rfl]
theorem Uy(w:au)(B g:Nat)(p:fF)(out:List Nat)(Ah:Option aw)(hc:Nat)(Aw:Option aw)(wc:Nat)(Ap:Option aw)(pc:Nat)(Ao:Option aw)(oc:Nat)(U:gB w B g p out Ah hc Aw wc Ap pc Ao oc)(gd:kG p)(kind:Nat)(bu:kind<=2)(n:Nat)(aV:n<=p.wait.length)(bX:n<=65535)(hb:p.wait.length<=1000000)(bx:out.length<=90000000)
  (A2:Option aw) (t c2:Nat) (l:List fi) (ht:iK w w.heap.size A2 t c2 l) (hl:l.length<=65535) (a3:∀t∈l,fH t=true/\t.x<256) (last:Bool):
  ax prog 120 #[ag (some ⟨g,0,none⟩),ae .u8 (kind:Int),ae ak (n:Int),af A2 t c2,aj last] w fun e w'=>e=aq (.tuple #[])/\(∃bY bZ b0 b3 a9 bf bg bj,gB w' B g (lG p kind n l last).1 (out++(lG p kind n l last).2) bY bZ b0 b3 a9 bf bg bj)/\aS B w w':=by
 obtain⟨K,hk⟩:∃K:Nat,p.k=(K:Int):=⟨p.k.toNat,by have:=gd.k0;omega⟩
 have b4:p.k.toNat=K:=by omega
 have hs:=kz gd.jS
 obtain⟨S,hS⟩:∃S:Nat,p.s=(S:Int):=⟨p.s.toNat,by omega⟩
 have bz:p.s.toNat=S:=by omega
 have hh:=gd.hist
 obtain⟨raw,ad⟩:=fb (p.wait.take n)
 have av:raw.length=n:=by rw[ad,List.length_take,Nat.min_eq_left aV]
 have bl:iA raw:=by rw[ad];exact sV gd.bw n
 obtain⟨w1,w2,w3,w4⟩:=Ux gd (kind:=kind) (raw:=raw) (l:=l) (last:=last) bu (by omega) bl hl a3
 obtain⟨Q,hQ⟩:=fb (jw p.fp p.k.toNat kind raw l last)
 rw[<-hQ]at w2 w3 w4
 have a4:Q.1.length=(Q.2+7)/8:=by rw[hQ];exact su ..
 obtain⟨Q1,aW⟩:=fb (Q.1)
 obtain⟨QK,a5⟩:=fb (Q.2)
 obtain⟨QL,aT⟩:=fb (Q1.length)
 rw[<-aW,<-aT,<-a5]at a4
 rw[<-a5]at w2 w4
 rw[<-aW]at w3
 have bQ:iA Q1:=by
  have hc:=vB gd.clean kind raw l last;rw[<-hQ,<-aW]at hc;intro x hx;obtain⟨i,hi,rfl⟩:=List.mem_iff_getElem.1 hx;have:=hc.1 i;unfold fc at this;rwa[List.getD_eq_getElem?_getD,List.getElem?_eq_getElem hi]at this
 obtain⟨FP,bn⟩:=fb (lG p kind n l last)
 have bA:FP=({p with hist:=lT S (p.hist++raw),fp:=Q1.drop (QK/8),k:=((QK%8:Nat):Int),wait:=p.wait.drop n},Q1.take (QK/8)):=by
  rw[bn,aW,a5,hQ,ad,<-bz];rfl
 rw[<-bn]
 have bB:∀t∈l,qz t:=fun t ht=>J1 (a3 t ht).1 (a3 t ht).2
 have tl:t<=1000000:=by have:=ht.1;omega
 have WR:aR (∀V,aS w.heap.size w V->ax prog 22 #[ai #[af Ap p.fp.length pc,ae ak p.k],ae .u8 (kind:Int),af Aw n wc,af A2 t c2,aj last] V fun e w'=>∃A' c',e=aq (.tuple #[ai #[af A' QL c',ae ak (QK:Int)],ae ak 0])/\fq w' w'.heap.size A' QL c' (fc Q1)/\aS V.heap.size V w'/\yJ V.heap.size A' QL):=fa fun V hV=>by
  have UV:=U.below hV;have b5:fq V V.heap.size Aw n wc (fc raw):=by
   have h1:=UV.wait;refine⟨⟨jz bl,fun h0=>?_⟩,h1.2.1,by have:=h1.2.2.1;omega,h1.2.2.2⟩;obtain⟨b,o,e1,e2,e3⟩:=h1.1.2 (by omega);exact⟨b,o,e1,e2,fun j hj=>by rw[ad,xG p.wait hj];exact e3 j (by omega)⟩
  have h1:=Uw V Ap p.fp.length pc (fc p.fp) p.k kind Aw n wc (fc raw) A2 t c2 l last UV.fp (by have:=gd.len;have:=gd.k7;omega) (by omega) (by have:=gd.k7;omega) (by omega) b5 (by omega) ((ht.below hV fe).more hV.size) tl bB;rw[<-av]at h1;rw[w1,w2,w3,av]at h1;refine h1.mono fun e w' ⟨A',c',L,e1,e2,e3,e4,e5⟩=>?_
  have eL:L=QL:=by rw[e1,a4]
  subst eL;exact⟨A',c',e2,e3,e4,fun b o h0 e=>by
   obtain⟨g',o',cur,e6,h6,_⟩:=e5 h0;rw[e]at e6;injection e6 with e6
   injection e6 with e7 _ _
   omega⟩
 obtain⟨hn,ah⟩:=fb (p.hist.length)
 obtain⟨wn,aX⟩:=fb (p.wait.length)
 obtain⟨pn,aY⟩:=fb (p.fp.length)
 obtain⟨on,bC⟩:=fb (out.length)
 have eX:jn p Ah hc Aw wc Ap pc Ao out.length oc=#[ae ak (S:Int),ae ak p.h,ae ak p.m,aj p.z,af Ah hn hc,af Aw wn wc,af Ap pn pc,ae ak (K:Int),aj p.jg,(af Ao on oc)]:=by
  unfold jn;rw[<-ah,<-aX,<-aY,hk,hS,<-bC]
 have hx:=U.box
 rw[eX]at hx
 rw[<-aY,hk]at WR
 have bD:=U.row.2.2.1
 have b6:=U.wait.2.2.1
 have RT:aR (∀V:au,(Instr.sliceAt 22 (af Aw wn wc) none (some (ae ak (n:Int))) none).run prog V=.ok (af Aw n wc) V):=fa fun V=>uo Aw wn wc n (by omega) V
 obtain⟨q,hq⟩:=fb (hn+n-S)
 have b7:aR (∀V:au,(binOp .sub 3 (ae ak ((hn+n:Nat):Int)) (ae ak (S:Int))).run prog V=.ok (ae ak (((hn+n:Nat):Int)-(S:Int))) V):=fa fun V=>TV _ _ _ _ (by omega) (by omega) V
 have MX:aR ((if(((hn+n:Nat):Int)-(S:Int))>0 then(((hn+n:Nat):Int)-(S:Int))else 0)=(q:Int)):=fa (by split<;>omega)
 obtain⟨A9,hA9⟩:∃A9,(if hc=q then Ah else Ah.map (·.add q))=A9:=⟨_,rfl⟩
 obtain⟨A6,hA6⟩:∃A6,(if wc=n then Aw else Aw.map (·.add n))=A6:=⟨_,rfl⟩
 have b8:aR (∀V,(Instr.sliceAt 22 (af Ah (hn+n) hc) (some (ae ak (q:Int))) none none).run prog V=.ok (af A9 (hn+n-q) (hc-q)) V):=fa fun V=>um Ah A9 (hn+n) hc q (by omega) hA9 V
 have bE:aR (∀V,(Instr.sliceAt 22 (af Aw wn wc) (some (ae ak (n:Int))) none none).run prog V=.ok (af A6 (wn-n) (wc-n)) V):=fa fun V=>um Aw A6 wn wc n (by omega) hA6 V
 have a6:(lT S (p.hist++raw)).length=hn+n-q:=by unfold lT;rw[List.length_drop,List.length_append,av,<-ah];omega
 have eT:(p.hist++p.wait).drop q=lT S (p.hist++raw)++p.wait.drop n:=by
  have e1:p.hist++p.wait=(p.hist++raw)++p.wait.drop n:=by rw[ad,List.append_assoc,List.take_append_drop]
  rw[e1,List.drop_append_of_le_length (by rw[List.length_append,av];omega)];unfold lT;rw[List.length_append,av,<-ah,hq]
 have b9:aR (kG p):=fa gd
 have ca:aR (∀V,gB V B g p out Ah hc Aw wc Ap pc Ao oc->∀(A':Option aw) (c':Nat),fq V V.heap.size A' QL c' (fc Q1)->jJ A' QL (af Ao out.length oc)->gB ((V.setCell ⟨g,6,none⟩ (af A' QL c')).setCell ⟨g,7,none⟩ (ae ak (QK:Int))) B g {p with fp:=Q1,k:=(QK:Int)} out Ah hc Aw wc A' c' Ao oc):=fa fun V UV A' c' r nr=>
  UV.yK (p':={p with fp:=Q1,k:=(QK:Int)}) 6 7 _ _ (by unfold jn;simp only[<-aT];rfl) UV.row UV.wait (by show fq V _ A' Q1.length c' _;rw[<-aT];exact r) UV.nr UV.nw (by show jJ A' Q1.length _;rw[<-aT];exact nr)
 have cb:aR (∀V (A7:Option aw) (c7:Nat) (A8:Option aw) (c8:Nat),gB V B g {p with fp:=Q1.drop (QK/8),k:=((QK%8:Nat):Int)} (out++Q1.take (QK/8)) Ah hc Aw wc A7 c7 A8 c8->gB ((V.setCell ⟨g,4,none⟩ (af A9 (hn+n-q) (hc-q))).setCell ⟨g,5,none⟩ (af A6 (wn-n) (wc-n))) B g FP.1 (out++FP.2) A9 (hc-q) A6 (wc-n) A7 c7 A8 c8):=fa fun V A7 c7 A8 c8 UV=>by
  rw[bA];have aZ:(p.wait.drop n).length=wn-n:=by rw[List.length_drop,<-aX]
  have bq:=UV.row;have bF:=UV.nr;have br:=UV.wait;have aV:=UV.nw;have e1:({p with fp:=Q1.drop (QK/8),k:=((QK%8:Nat):Int)}:fF).hist.length=hn:=ah.symm;have e2:({p with fp:=Q1.drop (QK/8),k:=((QK%8:Nat):Int)}:fF).wait.length=wn:=aX.symm;rw[e1,e2]at bq bF;rw[e2]at br aV;have a1:fq V V.heap.size A9 (hn+wn-q) (hc-q) (fc (lT S (p.hist++raw)++p.wait.drop n)):=by
   have:=bq.from (q:=q) (by omega) hA9
   rwa[show({p with fp:=Q1.drop (QK/8),k:=((QK%8:Nat):Int)}:fF).hist++({p with fp:=Q1.drop (QK/8),k:=((QK%8:Nat):Int)}:fF).wait=p.hist++p.wait from rfl,eT]at this
  have a2:fq V V.heap.size A6 (wn-n) (wc-n) (fc (p.wait.drop n)):=br.from (q:=n) (by omega) hA6
  have b1:=bF.from (q:=q) (by omega) hA9 bq.at
  have b2:=aV.from (q:=n) (by omega) hA6 br.at
  exact UV.yK (p':={p with hist:=lT S (p.hist++raw),fp:=Q1.drop (QK/8),k:=((QK%8:Nat):Int),wait:=p.wait.drop n}) 4 5 _ _ (by unfold jn;simp only[a6,aZ];rfl)
   (by show fq V _ A9 ((lT S (p.hist++raw)).length+(p.wait.drop n).length) _ _;rw[a6,aZ,show hn+n-q+(wn-n)=hn+wn-q by omega];exact a1)
   (by show fq V _ A6 (p.wait.drop n).length _ _;rw[aZ];exact a2) UV.fp
   (by show jJ A9 ((lT S (p.hist++raw)).length+(p.wait.drop n).length) _;rw[a6,aZ,show hn+n-q+(wn-n)=hn+wn-q by omega];exact b1)
   (by show jJ A6 (p.wait.drop n).length _;rw[aZ];exact b2) UV.np
 have cf:aR (∀(A7:Option aw) (c7:Nat) (A8:Option aw) (c8:Nat) (V:au),gB V B g {p with fp:=Q1.drop (QK/8),k:=((QK%8:Nat):Int)} (out++Q1.take (QK/8)) Ah hc Aw wc A7 c7 A8 c8->∃qn om:Nat,fg V g #[ae ak (S:Int),ae ak p.h,ae ak p.m,aj p.z,af Ah hn hc,af Aw wn wc,af A7 qn c7,ae ak ((QK%8:Nat):Int),aj p.jg,af A8 om c8] 94):=fa fun A7 c7 A8 c8 V UV=>by
  have h1:=UV.box;unfold jn at h1;simp only[<-ah,<-aX,hS]at h1;exact⟨_,_,h1⟩
 have HX:=fa hx;have HU:=fa U;have cq:=fa a4;have cr:=fa bx;have ct:=fa w4;have cp:=fa aT
 have HT:aR (∀V,gB V B g {p with fp:=Q1.drop (QK/8),k:=((QK%8:Nat):Int)} (out++Q1.take (QK/8)) Ah hc Aw wc Ap pc Ao oc->True):=fa fun _ _=>trivial
 have cg:aR (∀(A7:Option aw) (c7:Nat) (A8:Option aw) (c8:Nat) (V:au),gB V B g {p with fp:=Q1.drop (QK/8),k:=((QK%8:Nat):Int)} (out++Q1.take (QK/8)) Ah hc Aw wc A7 c7 A8 c8->ax prog 161 #[ag (some ⟨g,0,none⟩),ae ak (n:Int)] V fun e w'=>e=aq (af Ah (hn+n) hc)/\aS V.heap.size V w'):=fa fun A7 c7 A8 c8 V UV=>by
  have:=J2 V B g _ _ Ah hc Aw wc A7 c7 A8 c8 UV (QK%8) rfl n (by show n<=p.wait.length;omega) (by show p.hist.length+p.wait.length<=2000000;omega);rw[ah];exact this
 have ch:aR (∀V (A':Option aw) (c':Nat),gB V B g {p with fp:=Q1,k:=(QK:Int)} out Ah hc Aw wc A' c' Ao oc->ax prog 81 #[ag (some ⟨g,0,none⟩)] V fun e w'=>e=aq (.tuple #[])/\(∃a9 bf bg bj,gB w' B g {p with fp:=Q1.drop (QK/8),k:=((QK%8:Nat):Int)} (out++Q1.take (QK/8)) Ah hc Aw wc a9 bf bg bj)/\aS B V w'):=fa fun V A' c' UV=>
  J0 V B g _ out Ah hc Aw wc A' c' Ao oc UV QK rfl (by omega) (by show QK/8<=Q1.length;omega) (by omega)
 have al:=fa U.le
 clear HT U gd bu aV bX hb bx ht hl a3 hk b4 hs bz hh ad av bl w1 w2 w3 w4 hQ a4 aW a5 aT bQ bn bA bB tl ah aX aY bC eX hx bD b6 hq hA9 hA6 a6 eT b9 hS
 go_enter func120,ntmps120
 go_wp2_with fail
 refine RD 23 19 _ rfl rfl 30 rfl (rH [fun v _=>v=ag (some ⟨g,0,none⟩),fun v _=>v=ag (some ⟨g,0,none⟩),fun v _=>v=ag (some ⟨g,0,none⟩),fun v _=>v=ag (some ⟨g,0,none⟩),fun v _=>v=ag (some ⟨g,6,none⟩),fun v _=>v=ai #[af Ap pn pc,ae ak (K:Int)],fun v _=>v=ae .u8 (kind:Int),fun v _=>v=ag (some ⟨g,0,none⟩),fun v _=>v=ag (some ⟨g,0,none⟩),fun v _=>v=ag (some ⟨g,0,none⟩),fun v _=>v=ag (some ⟨g,5,none⟩),fun v _=>v=af Aw wn wc,fun v _=>v=ae ak (n:Int),fun v _=>v=af Aw n wc,fun v _=>v=af A2 t c2,fun v _=>v=aj last,fun v W=>∃A' c',v=.tuple #[ai #[af A' QL c',ae ak (QK:Int)],ae ak 0]/\fq W W.heap.size A' QL c' (fc Q1)/\yJ w.heap.size A' QL,fun v W=>∃A' c',v=.tuple #[ai #[af A' QL c',ae ak (QK:Int)],ae ak 0]/\fq W W.heap.size A' QL c' (fc Q1)/\yJ w.heap.size A' QL,fun v W=>∃A' c',v=ai #[af A' QL c',ae ak (QK:Int)]/\fq W W.heap.size A' QL c' (fc Q1)/\yJ w.heap.size A' QL,fun v _=>v=ae ak 0,fun v _=>v=ag (some ⟨g,0,none⟩),fun v _=>v=ag (some ⟨g,0,none⟩),fun v _=>v=ag (some ⟨g,6,none⟩)]) w fz (by kernel_rfl) (by kernel_rfl) (fun _ _ _ _ h=>h) (fun aa wv hb ha hS=>by have hs:=hS 17 11 (by kernel_rfl) rfl;obtain⟨a1,a2,e1,r1,r2⟩:=hs.here;exact⟨_,RC _ _ rfl _ (ae ak 0) e1 (fun w=>by go_simp),fw rfl⟩) ?_ ?_
 case refine_1=>
  simp only[List.take_succ_cons,List.take_zero];refine fk.cons (fun aa wv hb ha hS Kk Qq hK=>iL (fm rfl) _ rfl (fw ((ha 0 (by kernel_rfl)).trans rfl)) hK) ?_;refine fk.cons (fun aa wv hb ha hS Kk Qq hK=>iL (fm rfl) _ rfl (fw ((ha 0 (by kernel_rfl)).trans rfl)) hK) ?_;refine fk.cons (fun aa wv hb ha hS Kk Qq hK=>lH (fm rfl) _ rfl _ (hS 1 13 (by kernel_rfl) rfl).here (fw rfl) hK) ?_;refine fk.cons (fun aa wv hb ha hS Kk Qq hK=>gW (fm rfl) _ _ _ rfl _ (ag (some ⟨g,0,none⟩)) (hS 2 14 (by kernel_rfl) rfl).here (by go_simp) (fw rfl) hK) ?_;refine fk.cons (fun aa wv hb ha hS Kk Qq hK=>gW (fm rfl) _ _ _ rfl _ (ag (some ⟨g,6,none⟩)) (hS 3 15 (by kernel_rfl) rfl).here (by go_simp) (fw rfl) hK) ?_;refine fk.cons (fun aa wv hb ha hS Kk Qq hK=>IM (fm rfl) _ _ rfl g 6 (hS 4 16 (by kernel_rfl) rfl).here [af Ap pn pc,ae ak (K:Int)] _ (CM (HX.out.below hb HX.out.lt) 6 [af Ap pn pc,ae ak (K:Int)] (fun i hi=>by rcases i with _|_|i<;>first|rfl|(simp at hi;omega))) underlying62 rfl (Es _ _) (fw rfl) hK) ?_;refine fk.cons (fun aa wv hb ha hS Kk Qq hK=>iL (fm rfl) _ rfl (fw ((ha 1 (by kernel_rfl)).trans rfl)) hK) ?_;refine fk.cons (fun aa wv hb ha hS Kk Qq hK=>iL (fm rfl) _ rfl (fw ((ha 0 (by kernel_rfl)).trans rfl)) hK) ?_;refine fk.cons (fun aa wv hb ha hS Kk Qq hK=>lH (fm rfl) _ rfl _ (hS 7 19 (by kernel_rfl) rfl).here (fw rfl) hK) ?_;refine fk.cons (fun aa wv hb ha hS Kk Qq hK=>gW (fm rfl) _ _ _ rfl _ (ag (some ⟨g,0,none⟩)) (hS 8 20 (by kernel_rfl) rfl).here (by go_simp) (fw rfl) hK) ?_;refine fk.cons (fun aa wv hb ha hS Kk Qq hK=>gW (fm rfl) _ _ _ rfl _ (ag (some ⟨g,5,none⟩)) (hS 9 21 (by kernel_rfl) rfl).here (by go_simp) (fw rfl) hK) ?_;refine fk.cons (fun aa wv hb ha hS Kk Qq hK=>nH (fm rfl) _ _ rfl _ (af Aw wn wc) (hS 10 22 (by kernel_rfl) rfl).here (by have hc:wv.cell? ⟨g,5,none⟩=some (af Aw wn wc):=(HX.out.below hb HX.out.lt).cell.trans rfl;go_simp) (fw rfl) hK) ?_;refine fk.cons (fun aa wv hb ha hS Kk Qq hK=>iL (fm rfl) _ rfl (fw ((ha 2 (by kernel_rfl)).trans rfl)) hK) ?_;refine fk.cons (fun aa wv hb ha hS Kk Qq hK=>uj (fm rfl) _ _ _ _ _ rfl (af Aw wn wc) (af Aw n wc) none (some (ae ak (n:Int))) none (hS 11 23 (by kernel_rfl) rfl).here rfl (congrArg some (hS 12 24 (by kernel_rfl) rfl).here) rfl (RT.out wv) (fw rfl) hK) ?_;refine fk.cons (fun aa wv hb ha hS Kk Qq hK=>iL (fm rfl) _ rfl (fw ((ha 3 (by kernel_rfl)).trans rfl)) hK) ?_;refine fk.cons (fun aa wv hb ha hS Kk Qq hK=>iL (fm rfl) _ rfl (fw ((ha 4 (by kernel_rfl)).trans rfl)) hK) ?_;refine fk.cons (fun aa wv hb ha hS Kk Qq hK=>yr (fm rfl) 22 _ _ rfl (enters_of func22 (by kernel_rfl) rfl) #[ai #[af Ap pn pc,ae ak (K:Int)],ae .u8 (kind:Int),af Aw n wc,af A2 t c2,aj last] (by simp[(show aa.eval (.tmp 17)=ai #[af Ap pn pc,ae ak (K:Int)]from(hS 5 17 (by kernel_rfl) rfl).here),(show aa.eval (.tmp 18)=ae .u8 (kind:Int)from(hS 6 18 (by kernel_rfl) rfl).here),(show aa.eval (.tmp 25)=af Aw n wc from(hS 13 25 (by kernel_rfl) rfl).here),(show aa.eval (.tmp 26)=af A2 t c2 from(hS 14 26 (by kernel_rfl) rfl).here),(show aa.eval (.tmp 27)=aj last from(hS 15 27 (by kernel_rfl) rfl).here)]) (WR.out wv hb) (fun ee w' ⟨A',c',h1,h2,h3,h4⟩=>⟨_,h1,h3,fun W hW=>⟨_,_,rfl,(h2.below hW fe).more hW.size,fun b o h0 e=>Nat.le_trans hb.size (h4 b o h0 e)⟩⟩) hK) ?_;refine fk.cons (fun aa wv hb ha hS Kk Qq hK=>iL (fm rfl) _ rfl (hS 16 28 (by kernel_rfl) rfl) hK) ?_;refine fk.cons (fun aa wv hb ha hS Kk Qq hK=>by have hs:=hS 17 11 (by kernel_rfl) rfl;obtain⟨a1,a2,e1,r1,r2⟩:=hs.here;exact ui (fm rfl) _ _ rfl _ _ e1 (by go_simp) (fun W hW=>⟨_,_,rfl,(r1.below hW fe).more hW.size,r2⟩) hK) ?_;refine fk.cons (fun aa wv hb ha hS Kk Qq hK=>by have hs:=hS 17 11 (by kernel_rfl) rfl;obtain⟨a1,a2,e1,r1,r2⟩:=hs.here;exact ui (fm rfl) _ _ rfl _ _ e1 (by go_simp) (fw rfl) hK) ?_;refine fk.cons (fun aa wv hb ha hS Kk Qq hK=>lH (fm rfl) _ rfl _ (hS 0 12 (by kernel_rfl) rfl).here (fw rfl) hK) ?_
  refine fk.cons (fun aa wv hb ha hS Kk Qq hK=>gW (fm rfl) _ _ _ rfl _ (ag (some ⟨g,0,none⟩)) (hS 20 31 (by kernel_rfl) rfl).here (by go_simp) (fw rfl) hK) ?_;refine fk.cons (fun aa wv hb ha hS Kk Qq hK=>gW (fm rfl) _ _ _ rfl _ (ag (some ⟨g,6,none⟩)) (hS 21 32 (by kernel_rfl) rfl).here (by go_simp) (fw rfl) hK) ?_;exact fk.nil
 intro vals w5 hb hv
 obtain⟨A',c',bG,bH,bI⟩:=(hv 18 29 rfl).here
 have bJ:vals 33=ag (some ⟨g,6,none⟩):=(hv 22 33 rfl).here
 have U5:=HU.out.below hb
 have x5:=HX.out.below hb HX.out.lt
 have s6:w5.cell? ⟨g,6,none⟩=some (af Ap pn pc):=x5.cell.trans rfl
 have s7:w5.cell? ⟨g,7,none⟩=some (ae ak (K:Int)):=x5.cell.trans rfl
 have f6:w5.frozen? ⟨g,6,none⟩=false:=x5.free
 have f7:w5.frozen? ⟨g,7,none⟩=false:=x5.free
 have nr:jJ A' QL (af Ao out.length oc):=fun b o h0 e hx=>by
  have h1:=bI b o h0 e;have h2:=(gP HU.out.own b hx).2;omega
 obtain⟨W6,a7⟩:=fb ((w5.setCell ⟨g,6,none⟩ (af A' QL c')).setCell ⟨g,7,none⟩ (ae ak (QK:Int)))
 have U6:=ca.out w5 U5 A' c' bH nr
 rw[<-a7]at U6
 have bK:aS B w W6:=by rw[a7];exact nD (nD (hb.mono (by have:=al.out;have:=HU.out.lt;omega)) al.out _ _) al.out _ _
 have HG:=fa (ch.out W6 A' c' U6)
 have bL:=fa a7;have bM:=fa bK
 clear x5 hb hv U5 a7 nr bH bI U6 bK
 simp only[List.take_succ_cons,List.take_zero,List.drop_succ_cons,List.drop_zero,List.map_cons,List.map_nil,U0,Act.put,List.setIfInBounds_toArray,List.set_cons_zero,List.set_cons_succ,bG,bJ]
 clear bG bJ
 go_wp2_with (first|(rw[<-bL.out])|fail)
 refine HG.out.mono ?_
 rintro e w7 ⟨rfl,⟨A7,c7,A8,c8,U7⟩,bN⟩
 have bO:=fa (cg.out A7 c7 A8 c8 w7 U7)
 have bP:=fa U7;have cj:=fa (bM.out.trans bN)
 clear U7 bN s6 s7 f6 f7 HG bL bM
 go_wp2_with fail
 refine bO.out.mono ?_
 rintro e w8 ⟨rfl,bt⟩
 have U8:=bP.out.below bt
 obtain⟨qn,om,x8⟩:=cf.out A7 c7 A8 c8 w8 U8
 obtain⟨R,hR⟩:=fb (QK%8)
 rw[<-hR]at x8
 have bR:=fa U8;have aU:=fa x8;have ck:=fa (cj.out.trans (bt.mono (by have:=al.out;have:=bP.out.lt;omega)))
 clear U8 x8 hR bt bO
 go_wp2_with fail
 refine T6 24 [1,19,20] (rH [fun v _=>v=ag (some ⟨g,0,none⟩),fun v _=>v=ag (some ⟨g,0,none⟩),fun v _=>v=af Ah (hn+n) hc,fun v _=>v=af Ah (hn+n) hc,fun v _=>v=ae ak ((hn+n:Nat):Int),fun v _=>v=ag (some ⟨g,0,none⟩),fun v _=>v=ag (some ⟨g,0,none⟩),fun v _=>v=ag (some ⟨g,0,none⟩),fun v _=>v=ag (some ⟨g,0,none⟩),fun v _=>v=ag (some ⟨g,0,none⟩),fun v _=>v=ae ak (S:Int),fun v _=>v=ae ak (((hn+n:Nat):Int)-(S:Int)),fun v _=>v=ae ak (q:Int),fun v _=>v=af A9 (hn+n-q) (hc-q),fun v _=>v=ag (some ⟨g,0,none⟩),fun v _=>v=ag (some ⟨g,0,none⟩),fun v _=>v=ag (some ⟨g,0,none⟩),fun v _=>v=ag (some ⟨g,5,none⟩),fun v _=>v=af Aw wn wc,fun v _=>v=ae ak (n:Int),fun v _=>v=af A6 (wn-n) (wc-n),fun v _=>v=ag (some ⟨g,0,none⟩),fun v _=>v=ag (some ⟨g,0,none⟩),fun v _=>v=ag (some ⟨g,4,none⟩)]) w8 fz (by kernel_rfl) (by kernel_rfl) (List.forall_mem_cons.2 ⟨⟨_,_,rfl,rfl,rfl,(fun _ _ _ _ h=>h),fun aa wv hb ha hS=>⟨_,JY _ rfl _ ((ha 0 (by kernel_rfl)).trans rfl),fw rfl⟩⟩,(List.forall_mem_cons.2 ⟨⟨_,_,rfl,rfl,rfl,(fun _ _ _ _ h=>h),fun aa wv hb ha hS=>⟨_,JY _ rfl _ ((ha 2 (by kernel_rfl)).trans rfl),fw rfl⟩⟩,(List.forall_mem_cons.2 ⟨⟨_,_,rfl,rfl,rfl,(fun _ _ _ _ h=>h),fun aa wv hb ha hS=>⟨_,T5 _ _ (some (.tmp 58)) none none rfl (af Aw wn wc) (af A6 (wn-n) (wc-n)) (some (ae ak (n:Int))) none none (show aa.eval (.tmp 57)=af Aw wn wc from(hS 18 57 (by kernel_rfl) rfl).here) (congrArg some (show aa.eval (.tmp 58)=ae ak (n:Int)from(hS 19 58 (by kernel_rfl) rfl).here)) rfl rfl bE.out,fw rfl⟩⟩,(fun _ h=>by cases h)⟩)⟩)⟩) ?_ ?_
 case refine_1=>
  simp only[List.take_succ_cons,List.take_zero];refine fk.cons (fun aa wv hb ha hS Kk Qq hK=>iL (fm rfl) _ rfl (fw ((ha 0 (by kernel_rfl)).trans rfl)) hK) ?_;refine fk.cons (fun aa wv hb ha hS Kk Qq hK=>iL (fm rfl) _ rfl (fw ((ha 0 (by kernel_rfl)).trans rfl)) hK) ?_;refine fk.cons (fun aa wv hb ha hS Kk Qq hK=>iL (fm rfl) _ rfl (fw ((ha 10 (by kernel_rfl)).trans rfl)) hK) ?_;refine fk.cons (fun aa wv hb ha hS Kk Qq hK=>iL (fm rfl) _ rfl (fw ((ha 10 (by kernel_rfl)).trans rfl)) hK) ?_;refine fk.cons (fun aa wv hb ha hS Kk Qq hK=>wC (fm rfl) _ _ rfl Ah (hn+n) hc (hS 3 42 (by kernel_rfl) rfl).here underlying22 (fw rfl) hK) ?_;refine fk.cons (fun aa wv hb ha hS Kk Qq hK=>iL (fm rfl) _ rfl (fw ((ha 0 (by kernel_rfl)).trans rfl)) hK) ?_;refine fk.cons (fun aa wv hb ha hS Kk Qq hK=>lH (fm rfl) _ rfl _ (hS 5 44 (by kernel_rfl) rfl).here (fw rfl) hK) ?_;refine fk.cons (fun aa wv hb ha hS Kk Qq hK=>gW (fm rfl) _ _ _ rfl _ (ag (some ⟨g,0,none⟩)) (hS 6 45 (by kernel_rfl) rfl).here (by go_simp) (fw rfl) hK) ?_;refine fk.cons (fun aa wv hb ha hS Kk Qq hK=>gW (fm rfl) _ _ _ rfl _ (ag (some ⟨g,0,none⟩)) (hS 7 46 (by kernel_rfl) rfl).here (by go_simp) (fw rfl) hK) ?_;refine fk.cons (fun aa wv hb ha hS Kk Qq hK=>gW (fm rfl) _ _ _ rfl _ (ag (some ⟨g,0,none⟩)) (hS 8 47 (by kernel_rfl) rfl).here (by go_simp) (fw rfl) hK) ?_;refine fk.cons (fun aa wv hb ha hS Kk Qq hK=>nH (fm rfl) _ _ rfl _ (ae ak (S:Int)) (hS 9 48 (by kernel_rfl) rfl).here (by have hc:wv.cell? ⟨g,0,none⟩=some (ae ak (S:Int)):=(aU.out.below hb aU.out.lt).cell.trans rfl;go_simp) (fw rfl) hK) ?_;refine fk.cons (fun aa wv hb ha hS Kk Qq hK=>we (fm rfl) _ _ _ _ _ rfl _ _ (ae ak (((hn+n:Nat):Int)-(S:Int))) (hS 4 43 (by kernel_rfl) rfl).here (hS 10 49 (by kernel_rfl) rfl).here (wh _ _ _ _ _ _ _ (by decide) (by decide) _) (b7.out wv) (fw rfl) hK) ?_;refine fk.cons (fun aa wv hb ha hS Kk Qq hK=>TT (fm rfl) _ _ _ _ rfl 0 (((hn+n:Nat):Int)-(S:Int)) (q:Int) rfl (show aa.eval (.tmp 50)=ae ak (((hn+n:Nat):Int)-(S:Int))from(hS 11 50 (by kernel_rfl) rfl).here) MX.out (fw rfl) hK) ?_;refine fk.cons (fun aa wv hb ha hS Kk Qq hK=>uj (fm rfl) _ _ _ _ _ rfl (af Ah (hn+n) hc) (af A9 (hn+n-q) (hc-q)) (some (ae ak (q:Int))) none none (hS 2 41 (by kernel_rfl) rfl).here (congrArg some (hS 12 51 (by kernel_rfl) rfl).here) rfl rfl (b8.out wv) (fw rfl) hK) ?_;refine fk.cons (fun aa wv hb ha hS Kk Qq hK=>iL (fm rfl) _ rfl (fw ((ha 0 (by kernel_rfl)).trans rfl)) hK) ?_;refine fk.cons (fun aa wv hb ha hS Kk Qq hK=>lH (fm rfl) _ rfl _ (hS 14 53 (by kernel_rfl) rfl).here (fw rfl) hK) ?_;refine fk.cons (fun aa wv hb ha hS Kk Qq hK=>gW (fm rfl) _ _ _ rfl _ (ag (some ⟨g,0,none⟩)) (hS 15 54 (by kernel_rfl) rfl).here (by go_simp) (fw rfl) hK) ?_;refine fk.cons (fun aa wv hb ha hS Kk Qq hK=>gW (fm rfl) _ _ _ rfl _ (ag (some ⟨g,5,none⟩)) (hS 16 55 (by kernel_rfl) rfl).here (by go_simp) (fw rfl) hK) ?_;refine fk.cons (fun aa wv hb ha hS Kk Qq hK=>nH (fm rfl) _ _ rfl _ (af Aw wn wc) (hS 17 56 (by kernel_rfl) rfl).here (by have hc:wv.cell? ⟨g,5,none⟩=some (af Aw wn wc):=(aU.out.below hb aU.out.lt).cell.trans rfl;go_simp) (fw rfl) hK) ?_;refine fk.cons (fun aa wv hb ha hS Kk Qq hK=>iL (fm rfl) _ rfl (fw ((ha 2 (by kernel_rfl)).trans rfl)) hK) ?_;refine fk.cons (fun aa wv hb ha hS Kk Qq hK=>uj (fm rfl) _ _ _ _ _ rfl (af Aw wn wc) (af A6 (wn-n) (wc-n)) (some (ae ak (n:Int))) none none (hS 18 57 (by kernel_rfl) rfl).here (congrArg some (hS 19 58 (by kernel_rfl) rfl).here) rfl rfl (bE.out wv) (fw rfl) hK) ?_;refine fk.cons (fun aa wv hb ha hS Kk Qq hK=>lH (fm rfl) _ rfl _ (hS 0 39 (by kernel_rfl) rfl).here (fw rfl) hK) ?_;refine fk.cons (fun aa wv hb ha hS Kk Qq hK=>gW (fm rfl) _ _ _ rfl _ (ag (some ⟨g,0,none⟩)) (hS 21 60 (by kernel_rfl) rfl).here (by go_simp) (fw rfl) hK) ?_;refine fk.cons (fun aa wv hb ha hS Kk Qq hK=>gW (fm rfl) _ _ _ rfl _ (ag (some ⟨g,4,none⟩)) (hS 22 61 (by kernel_rfl) rfl).here (by go_simp) (fw rfl) hK) ?_;exact fk.nil
 intro vals w9 hb hv
 have bS:vals 39=ag (some ⟨g,0,none⟩):=(hv 0 39 rfl).here
 have bT:vals 40=ag (some ⟨g,0,none⟩):=(hv 1 40 rfl).here
 have bU:vals 52=af A9 (hn+n-q) (hc-q):=(hv 13 52 rfl).here
 have bV:vals 59=af A6 (wn-n) (wc-n):=(hv 20 59 rfl).here
 have bW:vals 62=ag (some ⟨g,4,none⟩):=(hv 23 62 rfl).here
 have U9:=bR.out.below hb
 have x9:=aU.out.below hb aU.out.lt
 have s4:w9.cell? ⟨g,4,none⟩=some (af Ah hn hc):=x9.cell.trans rfl
 have s5:w9.cell? ⟨g,5,none⟩=some (af Aw wn wc):=x9.cell.trans rfl
 have f4:w9.frozen? ⟨g,4,none⟩=false:=x9.free
 have f5:w9.frozen? ⟨g,5,none⟩=false:=x9.free
 obtain⟨WA,a8⟩:=fb ((w9.setCell ⟨g,4,none⟩ (af A9 (hn+n-q) (hc-q))).setCell ⟨g,5,none⟩ (af A6 (wn-n) (wc-n)))
 have UA:=cb.out w9 A7 c7 A8 c8 U9
 rw[<-a8]at UA
 have cl:aR (aS B w WA):=fa (by rw[a8];exact nD (nD (ck.out.trans (hb.mono (by have:=al.out;have:=bR.out.lt;omega))) al.out _ _) al.out _ _)
 have cm:=fa UA;have cn:=fa a8
 clear x9 hb hv U9 a8 UA
 simp only[List.take_succ_cons,List.take_zero,List.drop_succ_cons,List.drop_zero,List.map_cons,List.map_nil,U0,Act.put,List.setIfInBounds_toArray,List.set_cons_zero,List.set_cons_succ,bS,bT,bU,bV,bW]
 clear bS bT bU bV bW
 go_wp2_with (rw[<-cn.out])
 go_end0
 exact⟨rfl,⟨_,_,_,_,_,_,_,_,cm.out⟩,cl.out⟩
theorem fq.first{w:au}{B0 n m c:Nat}{A:Option aw}{L:List Nat}(h:fq w B0 A m c (fc L))(hn:n<=m)(hb:iA L):fq w B0 A n c (fc (L.take n)):=by
 refine⟨⟨jz (sV hb n),fun h0=>?_⟩,h.2.1,by have:=h.2.2.1;omega,h.2.2.2⟩;obtain⟨b,o,e1,e2,e3⟩:=h.1.2 (by omega);exact⟨b,o,e1,e2,fun j hj=>by rw[xG L hj];exact e3 j (by omega)⟩
theorem Uz{p:fF}(gd:kG p)(n:Nat):(gA p (p.wait.take n)).length<=(p.wait.take n).length/\∀t∈gA p (p.wait.take n),fH t=true/\t.x<256:=Ax gd.jS gd.bh (sV gd.bw n)
theorem UB{a:Nat}{kind n:Nat}{l:List fi}(ha:a<=7)(hk:kind<=2)(hn:n<=65535)(hl:l.length<=65535)(ad:∀t∈l,fH t=true/\t.x<256):tC (a:Int) kind n l=0:=by
 unfold tC;rw[if_neg (by omega)];unfold my;rw[if_neg (by omega),if_neg (by omega),if_pos];exact List.all_eq_true.2 fun t ht=>(ad t ht).1
theorem J7(w:au)(B g:Nat)(p:fF)(out:List Nat)(Ah:Option aw)(hc:Nat)(Aw:Option aw)(wc:Nat)(Ap:Option aw)(pc:Nat)(Ao:Option aw)(oc:Nat)(U:gB w B g p out Ah hc Aw wc Ap pc Ao oc)(gd:kG p)(n:Nat)(ad:n<=p.wait.length)(ah:n<=65535)(hb:p.wait.length<=1000000)(a8:out.length<=90000000)(last:Bool):
  ax prog 79 #[ag (some ⟨g,0,none⟩),ae ak (n:Int),aj last] w fun e w'=>e=aq (.tuple #[])/\(∃aZ a1 a2 a3 a4 a5 a6 a7,gB w' B g (lG p (jm p (p.wait.take n)) n (gA p (p.wait.take n)) last).1 (out++(lG p (jm p (p.wait.take n)) n (gA p (p.wait.take n)) last).2) aZ a1 a2 a3 a4 a5 a6 a7)/\aS B w w':=by
 obtain⟨K,hk⟩:∃K:Nat,p.k=(K:Int):=⟨p.k.toNat,by have:=gd.k0;omega⟩
 have a9:p.k.toNat=K:=by omega
 have bf:K<=7:=by have:=gd.k7;omega
 have hcut:=T8 w B g p out Ah hc Aw wc Ap pc Ao oc U gd n ad ah hb
 obtain⟨t1,t2⟩:=Uz gd n
 have bg:(p.wait.take n).length=n:=by rw[List.length_take,Nat.min_eq_left ad]
 obtain⟨TL,al⟩:=fb (gA p (p.wait.take n))
 obtain⟨BK,av⟩:=fb (jm p (p.wait.take n))
 have aW:BK<=2:=by rw[av];exact xH _ _
 rw[<-al]at hcut t1 t2
 have bj:∀t∈TL,qz t:=fun t ht=>J1 (t2 t ht).1 (t2 t ht).2
 have aT:∀(A2:Option aw) (t c2:Nat) (w2:au),gB w2 B g p out Ah hc Aw wc Ap pc Ao oc->iK w2 w2.heap.size A2 t c2 TL->aR (∀V,aS w2.heap.size w2 V->ax prog 119 #[ae ak (K:Int),af Aw n wc,af A2 t c2] V fun e w'=>e=aq (.tuple #[ae .u8 (BK:Int),ae ak 0])/\aS V.heap.size V w'):=fun A2 t c2 w2 U2 ht=>fa fun V hV=>by
  have hr:=(U2.below hV).wait.first (n:=n) ad gd.bw;have h1:=Us V (K:Int) Aw n wc (fc (p.wait.take n)) A2 t c2 TL (by omega) (by omega) hr (by omega) ((ht.below hV fe).more hV.size) (by have:=ht.1;omega) bj;have hE:rp (K:Int) n TL=0:=by unfold rp;exact UB bf (by omega) ah (by omega) t2
  have bC:xi (K:Int) n (fc (p.wait.take n)) TL=BK:=by
   unfold xi;rw[hE,if_pos rfl,av,Int.toNat_natCast];unfold jm;rw[bg,a9,al]
  rw[hE,bC]at h1;exact h1
 rw[<-al,<-av]
 have bl:∀(A2:Option aw) (t c2:Nat) (w2:au),gB w2 B g p out Ah hc Aw wc Ap pc Ao oc->iK w2 w2.heap.size A2 t c2 TL->ax prog 120 #[ag (some ⟨g,0,none⟩),ae .u8 (BK:Int),ae ak (n:Int),af A2 t c2,aj last] w2 fun e w'=>e=aq (.tuple #[])/\(∃aZ a1 a2 a3 a4 a5 a6 a7,gB w' B g (lG p BK n TL last).1 (out++(lG p BK n TL last).2) aZ a1 a2 a3 a4 a5 a6 a7)/\aS B w2 w':=fun A2 t c2 w2 U2 ht=>
  Uy w2 B g p out Ah hc Aw wc Ap pc Ao oc U2 gd BK aW n ad ah hb a8 A2 t c2 TL ht (by omega) t2 last
 obtain⟨hn,bn⟩:=fb (p.hist.length)
 obtain⟨wn,bq⟩:=fb (p.wait.length)
 obtain⟨pn,aX⟩:=fb (p.fp.length)
 obtain⟨on,br⟩:=fb (out.length)
 have eX:jn p Ah hc Aw wc Ap pc Ao out.length oc=#[ae ak p.s,ae ak p.h,ae ak p.m,aj p.z,af Ah hn hc,af Aw wn wc,af Ap pn pc,ae ak (K:Int),aj p.jg,(af Ao on oc)]:=by
  unfold jn;rw[<-bn,<-bq,<-aX,hk,<-br]
 have hx:=U.box
 rw[eX]at hx
 have bD:=U.wait.2.2.1
 have RT:aR (∀V:au,(Instr.sliceAt 22 (af Aw wn wc) none (some (ae ak (n:Int))) none).run prog V=.ok (af Aw n wc) V):=fa fun V=>uo Aw wn wc n (by omega) V
 have HX:=fa hx;have HU:=fa U;have aY:=fa hcut;have bt:=fa aT;have bu:=fa bl;have bx:=fa U.le
 clear U gd ad ah hb a8 hk a9 bf hcut t1 t2 bg al av aW bj aT bl bn bq aX br eX hx bD
 go_enter func79,ntmps79
 go_wp2_with fail
 refine aY.out.mono ?_
 rintro e w2 ⟨A2,t,c2,rfl,ht,aU⟩
 have U2:=HU.out.below aU
 have aV:=fa (HX.out.below aU HX.out.lt)
 have aT:=bt.out A2 t c2 w2 U2 ht
 have bE:=fa (aU.mono (B':=B) (by have:=bx.out;have:=HU.out.lt;omega))
 have bz:=fa U2;have bF:=fa ht
 clear U2 ht aU aY
 go_wp2_with fail
 refine v5 (rH [fun v _=>v=ag (some ⟨g,0,none⟩),fun v _=>v=ag (some ⟨g,0,none⟩),fun v _=>v=ag (some ⟨g,0,none⟩),fun v _=>v=ag (some ⟨g,6,none⟩),fun v _=>v=ag (some ⟨g,7,none⟩),fun v _=>v=ae ak (K:Int),fun v _=>v=ag (some ⟨g,0,none⟩),fun v _=>v=ag (some ⟨g,0,none⟩),fun v _=>v=ag (some ⟨g,0,none⟩),fun v _=>v=ag (some ⟨g,5,none⟩),fun v _=>v=af Aw wn wc,fun v _=>v=ae ak (n:Int),fun v _=>v=af Aw n wc,fun v _=>v=af A2 t c2,fun v _=>v=.tuple #[ae .u8 (BK:Int),ae ak 0],fun v _=>v=.tuple #[ae .u8 (BK:Int),ae ak 0],fun v _=>v=ae .u8 (BK:Int),fun v _=>v=ae ak 0,fun v _=>v=ae .u8 (BK:Int),fun v _=>v=ae ak 0]) w2 fz (by kernel_rfl) (by kernel_rfl) ?_ ?_
 case refine_1=>
  refine fk.cons (fun aa wv hb ha hS Kk Qq hK=>iL (fm rfl) _ rfl (fw ((ha 0 (by kernel_rfl)).trans rfl)) hK) ?_;refine fk.cons (fun aa wv hb ha hS Kk Qq hK=>lH (fm rfl) _ rfl _ (hS 0 13 (by kernel_rfl) rfl).here (fw rfl) hK) ?_;refine fk.cons (fun aa wv hb ha hS Kk Qq hK=>gW (fm rfl) _ _ _ rfl _ (ag (some ⟨g,0,none⟩)) (hS 1 14 (by kernel_rfl) rfl).here (by go_simp) (fw rfl) hK) ?_;refine fk.cons (fun aa wv hb ha hS Kk Qq hK=>gW (fm rfl) _ _ _ rfl _ (ag (some ⟨g,6,none⟩)) (hS 2 15 (by kernel_rfl) rfl).here (by go_simp) (fw rfl) hK) ?_;refine fk.cons (fun aa wv hb ha hS Kk Qq hK=>gW (fm rfl) _ _ _ rfl _ (ag (some ⟨g,7,none⟩)) (hS 3 16 (by kernel_rfl) rfl).here (by go_simp) (fw rfl) hK) ?_;refine fk.cons (fun aa wv hb ha hS Kk Qq hK=>nH (fm rfl) _ _ rfl _ (ae ak (K:Int)) (hS 4 17 (by kernel_rfl) rfl).here (by have hc:wv.cell? ⟨g,7,none⟩=some (ae ak (K:Int)):=(aV.out.below hb aV.out.lt).cell.trans rfl;go_simp) (fw rfl) hK) ?_;refine fk.cons (fun aa wv hb ha hS Kk Qq hK=>iL (fm rfl) _ rfl (fw ((ha 0 (by kernel_rfl)).trans rfl)) hK) ?_;refine fk.cons (fun aa wv hb ha hS Kk Qq hK=>lH (fm rfl) _ rfl _ (hS 6 19 (by kernel_rfl) rfl).here (fw rfl) hK) ?_;refine fk.cons (fun aa wv hb ha hS Kk Qq hK=>gW (fm rfl) _ _ _ rfl _ (ag (some ⟨g,0,none⟩)) (hS 7 20 (by kernel_rfl) rfl).here (by go_simp) (fw rfl) hK) ?_;refine fk.cons (fun aa wv hb ha hS Kk Qq hK=>gW (fm rfl) _ _ _ rfl _ (ag (some ⟨g,5,none⟩)) (hS 8 21 (by kernel_rfl) rfl).here (by go_simp) (fw rfl) hK) ?_;refine fk.cons (fun aa wv hb ha hS Kk Qq hK=>nH (fm rfl) _ _ rfl _ (af Aw wn wc) (hS 9 22 (by kernel_rfl) rfl).here (by have hc:wv.cell? ⟨g,5,none⟩=some (af Aw wn wc):=(aV.out.below hb aV.out.lt).cell.trans rfl;go_simp) (fw rfl) hK) ?_;refine fk.cons (fun aa wv hb ha hS Kk Qq hK=>iL (fm rfl) _ rfl (fw ((ha 1 (by kernel_rfl)).trans rfl)) hK) ?_;refine fk.cons (fun aa wv hb ha hS Kk Qq hK=>uj (fm rfl) _ _ _ _ _ rfl (af Aw wn wc) (af Aw n wc) none (some (ae ak (n:Int))) none (hS 10 23 (by kernel_rfl) rfl).here rfl (congrArg some (hS 11 24 (by kernel_rfl) rfl).here) rfl (RT.out wv) (fw rfl) hK) ?_;refine fk.cons (fun aa wv hb ha hS Kk Qq hK=>iL (fm rfl) _ rfl (fw ((ha 6 (by kernel_rfl)).trans rfl)) hK) ?_;refine fk.cons (fun aa wv hb ha hS Kk Qq hK=>yr (fm rfl) 119 _ _ rfl (enters_of func119 (by kernel_rfl) rfl) #[ae ak (K:Int),af Aw n wc,af A2 t c2] (by simp[(show aa.eval (.tmp 18)=ae ak (K:Int)from(hS 5 18 (by kernel_rfl) rfl).here),(show aa.eval (.tmp 25)=af Aw n wc from(hS 12 25 (by kernel_rfl) rfl).here),(show aa.eval (.tmp 26)=af A2 t c2 from(hS 13 26 (by kernel_rfl) rfl).here)]) (aT.out wv hb) (fun ee w' ⟨h1,h2⟩=>⟨_,h1,h2,fw rfl⟩) hK) ?_;refine fk.cons (fun aa wv hb ha hS Kk Qq hK=>iL (fm rfl) _ rfl (hS 14 27 (by kernel_rfl) rfl) hK) ?_;refine fk.cons (fun aa wv hb ha hS Kk Qq hK=>ui (fm rfl) _ _ rfl _ (ae .u8 (BK:Int)) (hS 15 12 (by kernel_rfl) rfl).here (by go_simp) (fw rfl) hK) ?_;refine fk.cons (fun aa wv hb ha hS Kk Qq hK=>ui (fm rfl) _ _ rfl _ (ae ak 0) (hS 15 12 (by kernel_rfl) rfl).here (by go_simp) (fw rfl) hK) ?_;refine fk.cons (fun aa wv hb ha hS Kk Qq hK=>v7 (fm rfl) _ rfl (hS 16 28 (by kernel_rfl) rfl) hK) ?_;refine fk.cons (fun aa wv hb ha hS Kk Qq hK=>v7 (fm rfl) _ rfl (hS 17 29 (by kernel_rfl) rfl) hK) ?_;exact fk.nil
 intro vals w5 hb hv
 have e7:vals 7=ae .u8 (BK:Int):=(hv 18 7 rfl).here
 have U5:=bz.out.below hb
 have bA:=bu.out A2 t c2 w5 U5 ((bF.out.below hb fe).more hb.size)
 have bG:=fa bA;have bH:=fa (bE.out.trans (hb.mono (by have:=bx.out;have:=bz.out.lt;omega)))
 clear hb hv U5 bA
 simp only[List.map_cons,List.map_nil,U0,Act.put,List.setIfInBounds_toArray,List.set_cons_zero,List.set_cons_succ,e7]
 clear e7
 go_wp2_with fail
 refine bG.out.mono ?_
 rintro e w6 ⟨rfl,h6,bB⟩
 have H6:=fa h6;have bI:=fa (bH.out.trans bB)
 clear h6 bB
 go_wp2
 go_end0
 exact⟨rfl,H6.out,bI.out⟩
theorem UC(P:Program)(t:TypeId)(x y:Int)(h:y<=x)(w:au):(binOp .geq t (ae ak x) (ae ak y)).run P w=.ok (aj true) w:=by
 simp[binOp,Op.intCmp,go_sem];omega
theorem UD(P:Program)(t:TypeId)(x y:Int)(h:¬y<=x)(w:au):(binOp .geq t (ae ak x) (ae ak y)).run P w=.ok (aj false) w:=by
 simp[binOp,Op.intCmp,go_sem];omega
def CQ:ay->Nat
 |af _ n _=>n
 |_=>0
theorem UE(w:au)(B g:Nat)(p:fF)(out:List Nat)(Ah:Option aw)(hc:Nat)(Aw:Option aw)(wc:Nat)(Ap:Option aw)(pc:Nat)(Ao:Option aw)(oc:Nat)(U:gB w B g p out Ah hc Aw wc Ap pc Ao oc)(gd:kG p)(hb:p.wait.length<=1000000)(a5:out.length+10*p.wait.length<=80000000):
  ax prog 40 #[ag (some ⟨g,0,none⟩)] w fun e w'=>e=aq (.tuple #[])/\(∃bz bA bB bC bD bE bF bG,gB w' B g (Va p.wait.length p p.wait).1 (out++(Va p.wait.length p p.wait).2) bz bA bB bC bD bE bF bG)/\kA (Va p.wait.length p p.wait).1/\aS B w w':=by
 have hs:=kz gd.jS
 obtain⟨M,hM⟩:∃M:Nat,p.m=(M:Int):=⟨p.m.toNat,by omega⟩
 obtain⟨N,hN⟩:=fb (p.wait.length)
 obtain⟨F,hF⟩:=fb (Va N p p.wait)
 have a6:kA F.1:=by
  have h1:=(xI N {p with wait:=[]} p.wait (by omega) gd.empty gd.bw).1;rw[xJ]at h1;rw[hF];exact h1
 rw[<-hN,<-hF]
 have HU:=fa U;have ah:=fa gd;have a7:=fa hF;have HM:=fa hM;have HN:=fa hN;have bH:=fa a6;have aV:=fa a5;have bI:=fa hb
 have bU:N<=1000000:=by omega
 have bV:1<=M:=by omega
 have bJ:M<=65535:=by omega
 clear U gd hF hM hN a6 a5 hb hs
 go_enter func40,ntmps40
 go_wp2_with fail
 go_loopw [] (fun wr=>∃(q:fF) (o:List Nat) (Ah:Option aw) (hc:Nat) (Aw:Option aw) (wc:Nat) (Ap:Option aw) (pc:Nat) (Ao:Option aw) (oc:Nat),aR (gB wr B g q o Ah hc Aw wc Ap pc Ao oc)/\aR (kG q)/\aR (q.m=(M:Int))/\aR (q.wait.length<=N)/\aR (o.length+10*q.wait.length<=80000000)/\aR ((Va N q q.wait).1=F.1/\o++(Va N q q.wait).2=out++F.2)/\aR (aS B w wr)) (fun wr=>CQ ((wr.cell? ⟨g,5,none⟩).getD (ae ak 0)))
 case atStart=>exact⟨p,out,Ah,hc,Aw,wc,Ap,pc,Ao,oc,HU,ah,HM,fa (by have:=HN.out;omega),aV,fa (by rw[a7.out];exact⟨rfl,rfl⟩),fa fz⟩
 case round=>
  clear HU ah a7 HM aV bI HN;obtain⟨q,o,Ah,hc,Aw,wc,Ap,pc,Ao,oc,HU,ah,HM,a1,aV,a8,HB⟩:=hrel;obtain⟨hn,aY⟩:=fb (q.hist.length);obtain⟨wn,ad⟩:=fb (q.wait.length);obtain⟨pn,aW⟩:=fb (q.fp.length);obtain⟨on,aZ⟩:=fb (o.length);have hx:=HU.out.box;have eX:jn q Ah hc Aw wc Ap pc Ao o.length oc=#[ae ak q.s,ae ak q.h,ae ak (M:Int),aj q.z,af Ah hn hc,af Aw wn wc,af Ap pn pc,ae ak q.k,aj q.jg,(af Ao on oc)]:=by
   unfold jn;rw[<-aY,<-ad,<-aW,HM.out,<-aZ]
  rw[eX]at hx;have HX:=fa hx;have a9:=fa HU.out.le;have bf:CQ ((wr.cell? ⟨g,5,none⟩).getD (ae ak 0))=wn:=by rw[show wr.cell? ⟨g,5,none⟩=some (af Aw wn wc)from hx.cell.trans rfl];rfl
  have bK:=fa bf;clear hx eX bf;by_cases aT:M<=wn
  ·have GE:aR (∀V:au,(binOp .geq 3 (ae ak (wn:Int)) (ae ak (M:Int))).run prog V=.ok (aj true) V):=fa fun V=>UC _ _ _ _ (by omega) V
   have aU:q.m.toNat=M:=by rw[HM.out];exact Int.toNat_natCast _
   have al:=TK (p:=q) (N:=N) ah.out.jS a1.out (by rw[aU,<-ad];exact aT);rw[aU]at al;obtain⟨r,hr⟩:=fb (lG q (jm q (q.wait.take M)) M (gA q (q.wait.take M)) false);have bg:kG r.1:=by rw[hr];exact JU ah.out _ _ _ _
   have bj:r.2.length<=6+M:=by
    have:=TN ah.out (raw:=q.wait.take M) (n:=M) rfl;rw[<-hr,List.length_take]at this;omega
   have a2:r.1.wait=q.wait.drop M:=by rw[hr];rfl
   have bl:r.1.m=q.m:=by rw[hr];rfl
   rw[<-hr,<-a2]at al;have bn:r.1.wait.length=wn-M:=by rw[a2,List.length_drop,<-ad]
   have av:=fun V (hV:aS wr.heap.size wr V)=>J7 V B g q o Ah hc Aw wc Ap pc Ao oc (HU.out.below hV) ah.out M (by rw[<-ad];exact aT) bJ (by have:=a1.out;omega) (by have:=aV.out;omega) false
   rw[<-hr]at av;have bL:=fa av;have a3:=fa al;have bM:=fa bg;have bN:=fa bj;have bq:=fa bn;have bO:=fa bl
   have br:=fa aT;have bW:=fa aY;have bt:=fa ad;have bX:=fa aZ
   clear av al bg bj bn bl a2 hr aU aT aY ad aW aZ;go_wp2_with fail
   refine v5 (rH [fun v _=>v=ag (some ⟨g,0,none⟩),fun v _=>v=ag (some ⟨g,0,none⟩),fun v _=>v=ag (some ⟨g,0,none⟩),fun v _=>v=ag (some ⟨g,5,none⟩),fun v _=>v=af Aw wn wc,fun v _=>v=ae ak (wn:Int),fun v _=>v=ag (some ⟨g,0,none⟩),fun v _=>v=ag (some ⟨g,0,none⟩),fun v _=>v=ag (some ⟨g,0,none⟩),fun v _=>v=ag (some ⟨g,0,none⟩),fun v _=>v=ag (some ⟨g,2,none⟩),fun v _=>v=ae ak (M:Int),fun v _=>v=aj true]) wr fz (by kernel_rfl) (by kernel_rfl) ?_ ?_
   case refine_1=>
    refine fk.cons (fun aa wv hb ha hS Kk Qq hK=>iL (fm rfl) _ rfl (fw ((ha 0 (by kernel_rfl)).trans rfl)) hK) ?_;refine fk.cons (fun aa wv hb ha hS Kk Qq hK=>lH (fm rfl) _ rfl _ (hS 0 2 (by kernel_rfl) rfl).here (fw rfl) hK) ?_;refine fk.cons (fun aa wv hb ha hS Kk Qq hK=>gW (fm rfl) _ _ _ rfl _ (ag (some ⟨g,0,none⟩)) (hS 1 3 (by kernel_rfl) rfl).here (by go_simp) (fw rfl) hK) ?_;refine fk.cons (fun aa wv hb ha hS Kk Qq hK=>gW (fm rfl) _ _ _ rfl _ (ag (some ⟨g,5,none⟩)) (hS 2 4 (by kernel_rfl) rfl).here (by go_simp) (fw rfl) hK) ?_;refine fk.cons (fun aa wv hb ha hS Kk Qq hK=>nH (fm rfl) _ _ rfl _ (af Aw wn wc) (hS 3 5 (by kernel_rfl) rfl).here (by have hc:wv.cell? ⟨g,5,none⟩=some (af Aw wn wc):=(HX.out.below hb HX.out.lt).cell.trans rfl;go_simp) (fw rfl) hK) ?_;refine fk.cons (fun aa wv hb ha hS Kk Qq hK=>wC (fm rfl) _ _ rfl Aw wn wc (hS 4 6 (by kernel_rfl) rfl).here underlying22 (fw rfl) hK) ?_;refine fk.cons (fun aa wv hb ha hS Kk Qq hK=>iL (fm rfl) _ rfl (fw ((ha 0 (by kernel_rfl)).trans rfl)) hK) ?_;refine fk.cons (fun aa wv hb ha hS Kk Qq hK=>lH (fm rfl) _ rfl _ (hS 6 8 (by kernel_rfl) rfl).here (fw rfl) hK) ?_;refine fk.cons (fun aa wv hb ha hS Kk Qq hK=>gW (fm rfl) _ _ _ rfl _ (ag (some ⟨g,0,none⟩)) (hS 7 9 (by kernel_rfl) rfl).here (by go_simp) (fw rfl) hK) ?_;refine fk.cons (fun aa wv hb ha hS Kk Qq hK=>gW (fm rfl) _ _ _ rfl _ (ag (some ⟨g,0,none⟩)) (hS 8 10 (by kernel_rfl) rfl).here (by go_simp) (fw rfl) hK) ?_;refine fk.cons (fun aa wv hb ha hS Kk Qq hK=>gW (fm rfl) _ _ _ rfl _ (ag (some ⟨g,2,none⟩)) (hS 9 11 (by kernel_rfl) rfl).here (by go_simp) (fw rfl) hK) ?_;refine fk.cons (fun aa wv hb ha hS Kk Qq hK=>nH (fm rfl) _ _ rfl _ (ae ak (M:Int)) (hS 10 12 (by kernel_rfl) rfl).here (by have hc:wv.cell? ⟨g,2,none⟩=some (ae ak (M:Int)):=(HX.out.below hb HX.out.lt).cell.trans rfl;go_simp) (fw rfl) hK) ?_;refine fk.cons (fun aa wv hb ha hS Kk Qq hK=>we (fm rfl) _ _ _ _ _ rfl _ _ (aj true) (hS 5 7 (by kernel_rfl) rfl).here (hS 11 13 (by kernel_rfl) rfl).here (wh _ _ _ _ _ _ _ (by decide) (by decide) _) (GE.out wv) (fw rfl) hK) ?_;exact fk.nil
   intro vals w5 hb hv;have aX:vals 14=aj true:=(hv 12 14 rfl).here;have x5:=HX.out.below hb HX.out.lt;have s2:w5.cell? ⟨g,2,none⟩=some (ae ak (M:Int)):=x5.cell.trans rfl;have a4:=fa (HB.out.trans (hb.mono (by have:=a9.out;have:=HU.out.lt;omega)));have bP:=fa (bL.out w5 hb);clear x5 hb hv;simp only[List.map_cons,List.map_nil,U0,Act.put,List.setIfInBounds_toArray,List.set_cons_zero,List.set_cons_succ,aX];clear aX;go_wp2_with fail
   refine bP.out.mono ?_;rintro e w6 ⟨rfl,⟨A1,k1,A2,k2,A3,k3,A4,k4,U6⟩,bu⟩;have bx:CQ ((w6.cell? ⟨g,5,none⟩).getD (ae ak 0))=r.1.wait.length:=by rw[show w6.cell? ⟨g,5,none⟩=some (af A2 r.1.wait.length k2)from U6.box.cell.trans rfl];rfl
   have bQ:=fa bx;have bR:=fa U6;have bS:=fa (a4.out.trans bu)
   clear U6 bu bx s2;go_wp2;go_roundw
   case rel=>
    have h1:=a3.out;have h2:=a8.out;have h3:=bq.out;have h4:=bN.out;have h5:=aV.out;have h6:=a1.out;have h7:=bt.out;have h8:=br.out
    refine⟨r.1,o++r.2,A1,k1,A2,k2,A3,k3,A4,k4,bR,bM,fa (bO.out.trans HM.out),fa (by omega),fa (by rw[List.length_append];omega),fa ?_,bS⟩;rw[h1]at h2;exact⟨h2.1,by rw[List.append_assoc];exact h2.2⟩
   case measure=>
    have h8:=br.out;rw[bQ.out,bK.out,bq.out];omega
  ·have GE:aR (∀V:au,(binOp .geq 3 (ae ak (wn:Int)) (ae ak (M:Int))).run prog V=.ok (aj false) V):=fa fun V=>UD _ _ _ _ (by omega) V
   have aU:q.m.toNat=M:=by rw[HM.out];exact Int.toNat_natCast _
   have al:=TM (p:=q) (N:=N) (by rw[aU,<-ad];exact aT);have a3:=fa al;clear al aU aT aY ad aW aZ;go_wp2_with fail
   refine v5 (rH [fun v _=>v=ag (some ⟨g,0,none⟩),fun v _=>v=ag (some ⟨g,0,none⟩),fun v _=>v=ag (some ⟨g,0,none⟩),fun v _=>v=ag (some ⟨g,5,none⟩),fun v _=>v=af Aw wn wc,fun v _=>v=ae ak (wn:Int),fun v _=>v=ag (some ⟨g,0,none⟩),fun v _=>v=ag (some ⟨g,0,none⟩),fun v _=>v=ag (some ⟨g,0,none⟩),fun v _=>v=ag (some ⟨g,0,none⟩),fun v _=>v=ag (some ⟨g,2,none⟩),fun v _=>v=ae ak (M:Int),fun v _=>v=aj false]) wr fz (by kernel_rfl) (by kernel_rfl) ?_ ?_
   case refine_1=>
    refine fk.cons (fun aa wv hb ha hS Kk Qq hK=>iL (fm rfl) _ rfl (fw ((ha 0 (by kernel_rfl)).trans rfl)) hK) ?_;refine fk.cons (fun aa wv hb ha hS Kk Qq hK=>lH (fm rfl) _ rfl _ (hS 0 2 (by kernel_rfl) rfl).here (fw rfl) hK) ?_;refine fk.cons (fun aa wv hb ha hS Kk Qq hK=>gW (fm rfl) _ _ _ rfl _ (ag (some ⟨g,0,none⟩)) (hS 1 3 (by kernel_rfl) rfl).here (by go_simp) (fw rfl) hK) ?_;refine fk.cons (fun aa wv hb ha hS Kk Qq hK=>gW (fm rfl) _ _ _ rfl _ (ag (some ⟨g,5,none⟩)) (hS 2 4 (by kernel_rfl) rfl).here (by go_simp) (fw rfl) hK) ?_;refine fk.cons (fun aa wv hb ha hS Kk Qq hK=>nH (fm rfl) _ _ rfl _ (af Aw wn wc) (hS 3 5 (by kernel_rfl) rfl).here (by have hc:wv.cell? ⟨g,5,none⟩=some (af Aw wn wc):=(HX.out.below hb HX.out.lt).cell.trans rfl;go_simp) (fw rfl) hK) ?_;refine fk.cons (fun aa wv hb ha hS Kk Qq hK=>wC (fm rfl) _ _ rfl Aw wn wc (hS 4 6 (by kernel_rfl) rfl).here underlying22 (fw rfl) hK) ?_;refine fk.cons (fun aa wv hb ha hS Kk Qq hK=>iL (fm rfl) _ rfl (fw ((ha 0 (by kernel_rfl)).trans rfl)) hK) ?_;refine fk.cons (fun aa wv hb ha hS Kk Qq hK=>lH (fm rfl) _ rfl _ (hS 6 8 (by kernel_rfl) rfl).here (fw rfl) hK) ?_;refine fk.cons (fun aa wv hb ha hS Kk Qq hK=>gW (fm rfl) _ _ _ rfl _ (ag (some ⟨g,0,none⟩)) (hS 7 9 (by kernel_rfl) rfl).here (by go_simp) (fw rfl) hK) ?_;refine fk.cons (fun aa wv hb ha hS Kk Qq hK=>gW (fm rfl) _ _ _ rfl _ (ag (some ⟨g,0,none⟩)) (hS 8 10 (by kernel_rfl) rfl).here (by go_simp) (fw rfl) hK) ?_;refine fk.cons (fun aa wv hb ha hS Kk Qq hK=>gW (fm rfl) _ _ _ rfl _ (ag (some ⟨g,2,none⟩)) (hS 9 11 (by kernel_rfl) rfl).here (by go_simp) (fw rfl) hK) ?_;refine fk.cons (fun aa wv hb ha hS Kk Qq hK=>nH (fm rfl) _ _ rfl _ (ae ak (M:Int)) (hS 10 12 (by kernel_rfl) rfl).here (by have hc:wv.cell? ⟨g,2,none⟩=some (ae ak (M:Int)):=(HX.out.below hb HX.out.lt).cell.trans rfl;go_simp) (fw rfl) hK) ?_;refine fk.cons (fun aa wv hb ha hS Kk Qq hK=>we (fm rfl) _ _ _ _ _ rfl _ _ (aj false) (hS 5 7 (by kernel_rfl) rfl).here (hS 11 13 (by kernel_rfl) rfl).here (wh _ _ _ _ _ _ _ (by decide) (by decide) _) (GE.out wv) (fw rfl) hK) ?_;exact fk.nil
   intro vals w5 hb hv;have aX:vals 14=aj false:=(hv 12 14 rfl).here;have U5:=HU.out.below hb;have a4:=fa (HB.out.trans (hb.mono (by have:=a9.out;have:=HU.out.lt;omega)));have bT:=fa U5;clear hb hv U5;simp only[List.map_cons,List.map_nil,U0,Act.put,List.setIfInBounds_toArray,List.set_cons_zero,List.set_cons_succ,aX];clear aX;go_wp2;go_end0;have h2:=a8.out;rw[a3.out]at h2;refine⟨rfl,⟨Ah,hc,Aw,wc,Ap,pc,Ao,oc,?_⟩,bH.out,a4.out⟩;rw[<-h2.1,<-h2.2,List.append_nil];exact bT.out
theorem UG(w:au)(B g:Nat)(p:fF)(out:List Nat)(Ah:Option aw)(hc:Nat)(Aw:Option aw)(wc:Nat)(Ap:Option aw)(pc:Nat)(Ao:Option aw)(oc:Nat)(U:gB w B g p out Ah hc Aw wc Ap pc Ao oc)(gd:kG p)(hb:p.wait.length<=65535)(a8:out.length<=80000000):
  ax prog 41 #[ag (some ⟨g,0,none⟩)] w fun e w'=>e=aq (.tuple #[])/\(∃bt bu bx bz bA bB bC bD,gB w' B g (jY p).1 (out++(jY p).2) bt bu bx bz bA bB bC bD)/\aS B w w':=by
 have ad:=J7 w B g p out Ah hc Aw wc Ap pc Ao oc U gd p.wait.length fe hb (by omega) (by omega) true
 rw[List.take_length]at ad
 obtain⟨q,hq⟩:=fb (lG p (jm p p.wait) p.wait.length (gA p p.wait) true)
 have aX:=TO q hq
 have a9:kG q.1:=by rw[hq];exact JU gd _ _ _ _
 have bf:q.2.length<=4000000:=by
  have t:=Ax gd.jS gd.bh gd.bw;have hle:=JQ (k:=p.k.toNat) (kind:=jm p p.wait) (raw:=p.wait) (l:=gA p p.wait) (last:=true) (xH _ _) (by have:=gd.k7;omega) hb gd.bw (by omega) t.2;have e:q.2=(jw p.fp p.k.toNat (jm p p.wait) p.wait (gA p p.wait) true).1.take ((jw p.fp p.k.toNat (jm p p.wait) p.wait (gA p p.wait) true).2/8):=by
   rw[hq];unfold lG;rw[List.take_length];rfl
  rw[e,List.length_take];have bQ:(jw p.fp p.k.toNat (jm p p.wait) p.wait (gA p p.wait) true).2<=4320007:=hle;omega
 rw[<-hq]at ad
 rw[aX]
 obtain⟨wn,aZ⟩:=fb (p.wait.length)
 have c5:w.cell? ⟨g,5,none⟩=some (af Aw wn wc):=by rw[aZ];exact U.box.cell.trans rfl
 rw[<-aZ]at ad
 have bE:=fa ad;have al:=fa a9;have bF:=fa a8;have bG:=fa bf;have aU:=fa U.le
 clear U gd hb a8 ad hq aX a9 bf aZ
 go_enter func41,ntmps41
 go_wp2_with fail
 refine bE.out.mono ?_
 rintro e w2 ⟨rfl,⟨A1,k1,A2,k2,A3,k3,A4,k4,U2⟩,bg⟩
 obtain⟨pn,av⟩:=fb (q.1.fp.length)
 obtain⟨K,hk⟩:∃K:Nat,q.1.k=(K:Int):=⟨q.1.k.toNat,by have:=al.out.k0;omega⟩
 have a1:=U2.fp
 have a2:=J6 al.out
 have hz:=Fi q.1.fp
 have bH:pn=(K+7)/8:=by rw[av,al.out.len,hk,Int.toNat_natCast]
 have bS:K<=7:=by have:=al.out.k7;omega
 have bR:pn<=1:=by omega
 rw[<-av,hk]at a2
 rw[<-av]at a1 hz
 have a3:=LU w2 A3 pn k3 (fc q.1.fp) K a1.1 (by unfold lr;rw[if_pos a2])
 rw[hz]at a3
 have bj:=U2.box
 have bl:aR (w2.rangeAt g 6 [af A3 pn k3,ae ak (K:Int)]):=fa (CM bj 6 _ (fun i hi=>by
  rcases i with _|_|i
  ·rw[av];rfl
  ·rw[<-hk];rfl
  ·simp at hi;omega))
 have bI:=fa a3;have a4:=fa U2;have bJ:=fa bg;have ah:=fa av;have HK:=fa hk;have bK:=fa (xK U2.fp)
 clear a3 U2 bg a1 a2 hz bH av hk bj c5
 go_wp2_with (first
  |(refine wpList_load_mid rfl _ _ rfl g 6 rfl [af A3 pn k3,ae ak (K:Int)] _ bl.out underlying62 rfl (Es _ _) ?_)
  |fail)
 refine bI.out.mono ?_
 rintro e w3 ⟨gn,rfl,bL,a5,aY⟩
 have U3:=a4.out.below a5
 have aT:=U3.box
 have s6:w3.cell? ⟨g,6,none⟩=some (af A3 pn k3):=by rw[ah.out];exact aT.cell.trans rfl
 have s7:w3.cell? ⟨g,7,none⟩=some (ae ak (K:Int)):=by rw[<-HK.out];exact aT.cell.trans rfl
 have f6:w3.frozen? ⟨g,6,none⟩=false:=aT.free
 have f7:w3.frozen? ⟨g,7,none⟩=false:=aT.free
 obtain⟨W4,aV⟩:=fb ((w3.setCell ⟨g,6,none⟩ (af (some ⟨gn,0,none⟩) pn pn)).setCell ⟨g,7,none⟩ (ae ak ((8*pn:Nat):Int)))
 have bn:fq w3 w3.heap.size (some ⟨gn,0,none⟩) pn pn (fc q.1.fp):=⟨Row.rd aY (jz bK.out),(fun h=>by cases h),Nat.le_refl _,by unfold maxLen;omega⟩
 have nn:jJ (some ⟨gn,0,none⟩) pn (af A4 (out++q.2).length k4):=fun b o h0 e hx=>by
  injection e with e
  injection e with e1 _ _
  have h2:=(gP a4.out.own b hx).2;omega
 have U4:gB W4 B g {q.1 with k:=((8*pn:Nat):Int)} (out++q.2) A1 k1 A2 k2 (some ⟨gn,0,none⟩) pn A4 k4:=by
  rw[aV];refine U3.yK (p':={q.1 with k:=((8*pn:Nat):Int)}) 6 7 _ _ (by unfold jn;simp only[<-ah.out];rfl) U3.row U3.wait ?_ U3.nr U3.nw ?_
  ·show fq w3 _ _ q.1.fp.length pn _;rw[<-ah.out];exact bn
  ·show jJ _ q.1.fp.length _;rw[<-ah.out];exact nn
 have a6:=J0 W4 B g {q.1 with k:=((8*pn:Nat):Int)} (out++q.2) A1 k1 A2 k2 (some ⟨gn,0,none⟩) pn A4 k4 U4 (8*pn) rfl (by have:=ah.out;have:=al.out.len;have:=al.out.k7;omega) (by show 8*pn/8<=q.1.fp.length;have:=ah.out;omega) (by have:=bF.out;have:=bG.out;rw[List.length_append];omega)
 rw[show 8*pn/8=pn by omega,show 8*pn%8=0 by omega]at a6
 rw[show((8*pn:Nat):Int)=8*(pn:Int) by omega]at aV
 have HG:=fa a6;have bq:=fa aV
 have bM:aR (aS B w W4):=fa (by rw[bq.out];exact nD (nD (bJ.out.trans (a5.mono (by have:=aU.out;have:=a4.out.lt;omega))) aU.out _ _) aU.out _ _)
 clear a6 aV U4 nn bn aT U3 a5 aY bL bl
 go_wp2_with (first|(rw[<-bq.out])|fail)
 refine HG.out.mono ?_
 rintro e w5 ⟨rfl,⟨A5,k5,A6,k6,U5⟩,br⟩
 have ed:({q.1 with k:=((8*pn:Nat):Int)}:fF).fp.drop pn=[]:=by show q.1.fp.drop pn=[];rw[ah.out,List.drop_length]
 have et:({q.1 with k:=((8*pn:Nat):Int)}:fF).fp.take pn=q.1.fp:=by show q.1.fp.take pn=_;rw[ah.out,List.take_length]
 rw[ed,et]at U5
 have a7:=U5.box
 have t8:w5.cell? ⟨g,8,none⟩=some (aj q.1.jg):=a7.cell.trans rfl
 have f8:w5.frozen? ⟨g,8,none⟩=false:=a7.free
 obtain⟨W6,aW⟩:=fb (w5.setCell ⟨g,8,none⟩ (aj true))
 have U6:gB W6 B g {q.1 with fp:=[],k:=0,jg:=true} ((out++q.2)++q.1.fp) A1 k1 A2 k2 A5 k5 A6 k6:=by
  rw[aW];exact U5.TP (p':={q.1 with fp:=[],k:=0,jg:=true}) 8 _ (by unfold jn;rfl) U5.row U5.wait U5.fp U5.nr U5.nw U5.np
 rw[List.append_assoc]at U6
 have bN:=fa U6;have bO:=fa aW
 have bP:aR (aS B w W6):=fa (by rw[aW];exact nD (bM.out.trans br) aU.out _ _)
 clear U6 U5 aW br ed et a7 s6 s7 f6 f7
 go_wp2_with (rw[<-bO.out])
 go_end0
 exact⟨rfl,⟨_,_,_,_,_,_,_,_,bN.out⟩,bP.out⟩
theorem UH(bt:JS):JT:=by
 intro w s hq m z Ab bc b hb h3;obtain⟨h,hh⟩:=fb (w.heap.size);obtain⟨SA,a1⟩:∃S:Array ay,S=#[ae ak s,ae ak hq,ae ak m,aj z]:=⟨_,rfl⟩;obtain⟨W1,aU⟩:=fb (w.alloc (ao SA 55));have b1:aS h w W1:=by rw[aU,hh];exact fz.alloc fe _
 have x1:fg W1 h SA 55:=by rw[aU,hh];exact fg.new w _ _
 have aV:=bt W1 s hq m z;rw[<-a1]at aV⊢;obtain⟨Z,hZ⟩:=fb (l9 (gO 0 0 0 false) none 0 none 0 none 0);have hz:=(zero_of_info Fx).1;rw[<-hZ]at hz;obtain⟨bn,a2⟩:=fb (b.length);obtain⟨E1,aW⟩:=fb (uD s hq m);rw[<-aW]at aV;have a8:aR (SA.size=4):=fa (by rw[a1];rfl);have aX:=fa aV;have a9:=fa aU;have HH:=fa hh;have bf:=fa b1;have aY:=fa x1;have b6:=fa hZ;have bI:=fa hb;have bJ:=fa a2
 have bg:aR (Z.size=9):=fa (by rw[hZ];rfl);rw[<-a2];have bj:∀(K:Nat),True:=fun _=>trivial
 by_cases hm:iI s hq m=false
 ·have e1:E1=8:=by rw[aW];unfold uD;rw[if_pos hm]
  have eA:oo s hq m bn=8:=by unfold oo;rw[if_pos hm]
  subst e1;rw[eA];clear aV aU hh b1 x1 hZ hb a2 aW hm eA bj a1;go_enter func20,ntmps20
  go_wp2_with (first
   |(rw[<-a9.out,<-HH.out])
   |(refine aF rfl _ _ rfl h rfl _ SA (0,0) _ aY.out underlying55 rfl (by rw[a8.out];exact tR) ?_)
   |fail)
  refine aX.out.mono ?_;rintro e w2 ⟨A1,k1,A2,k2,A3,k3,rfl,r2,ah⟩;obtain⟨Y,hY⟩:=fb (l9 (pD s hq m z) A1 k1 A2 k2 A3 k3);have al:aR (Y.size=9):=fa (by rw[hY];rfl);have a3:aR (Y.all (·.oneCell')=true):=fa (by rw[hY];exact wB ..);obtain⟨W3,ad⟩:=fb (gi w2 Z Y 88);have aZ:aR (aS h w W3):=fa (by rw[ad];exact bf.out.trans ((ah.trans ((km _ _ _ _).mono ah.size)).mono (by have:=aY.out.lt;omega)));have a4:=fa ad;rw[<-hY];clear ad ah r2 hY aX;go_wp2_with (refine aD rfl _ _ _ rfl rfl w2.heap.size Y rfl rfl 88 Z (aH w2 _) (by rw[al.out];exact rv) (by rw[bg.out,al.out]) a3.out ?_;rw[show(w2.alloc (ao Z 88)).setRow w2.heap.size Y=gi w2 Z Y 88 from rfl,<-a4.out])
  refine aL (results_tmp2 rfl _ _ _) rfl ?_;exact⟨none,0,0,rfl,rfl,fq.nil _ _ _ JR,by rw[<-HH.out];exact aZ.out⟩
 ·have a5:iI s hq m=true:=by simpa using hm
  have e1:E1=0:=by rw[aW];unfold uD;rw[if_neg hm]
  have eV:pD s hq m z=gO s hq m z:=by unfold pD;rw[if_neg hm]
  subst e1;by_cases av:131072<bn
  ·have eA:oo s hq m bn=4:=by unfold oo;rw[if_neg hm,if_pos av]
   have d1:decide ((131072:Int)<(bn:Int))=true:=decide_eq_true (by omega);rw[eA];clear aV aU hh b1 x1 hZ hb a2 aW hm eA bj a1 a5 eV av;go_enter func20,ntmps20
   go_wp2_with (first
    |(rw[<-a9.out,<-HH.out])
    |(refine aF rfl _ _ rfl h rfl _ SA (0,0) _ aY.out underlying55 rfl (by rw[a8.out];exact tR) ?_)
    |fail)
   refine aX.out.mono ?_;rintro e w2 ⟨A1,k1,A2,k2,A3,k3,rfl,r2,ah⟩;obtain⟨Y,hY⟩:=fb (l9 (pD s hq m z) A1 k1 A2 k2 A3 k3);have al:aR (Y.size=9):=fa (by rw[hY];rfl);have a3:aR (Y.all (·.oneCell')=true):=fa (by rw[hY];exact wB ..);obtain⟨W3,ad⟩:=fb (gi w2 Z Y 88);have aZ:aR (aS h w W3):=fa (by rw[ad];exact bf.out.trans ((ah.trans ((km _ _ _ _).mono ah.size)).mono (by have:=aY.out.lt;omega)));have a4:=fa ad;rw[<-hY];clear ad ah r2 hY aX;go_wp2_with (refine aD rfl _ _ _ rfl rfl w2.heap.size Y rfl rfl 88 Z (aH w2 _) (by rw[al.out];exact rv) (by rw[bg.out,al.out]) a3.out ?_;rw[show(w2.alloc (ao Z 88)).setRow w2.heap.size Y=gi w2 Z Y 88 from rfl,<-a4.out])
   refine aL (results_tmp2 rfl _ _ _) rfl ?_;exact⟨none,0,0,rfl,rfl,fq.nil _ _ _ JR,by rw[<-HH.out];exact aZ.out⟩
  ·have eA:oo s hq m bn=0:=by unfold oo;rw[if_neg hm,if_neg av]
   have d1:decide ((131072:Int)<(bn:Int))=false:=decide_eq_false (by omega);rw[eA,if_pos rfl];have bb:=xK hb;have gb:=Az z a5;obtain⟨r,hr⟩:=fb (nC (gO s hq m z) b);have bu:lg s hq m z b=r.2++(jY r.1).2:=by rw[hr];rfl
   have g2:=Fu gb bb;rw[<-hr]at g2;have bx:r.2.length<=1000000:=by
    obtain⟨_,_,_,_,_,B,q1,q2⟩:=g2;have b7:=kz a5;have e1:(gO s hq m z).wait.length=0:=rfl;have e2:(gO s hq m z).k.toNat=0:=rfl;have e3:(gO s hq m z).m=m:=rfl;rw[e1,e3]at q1;rw[e2,e3]at q2;have q3:B<=B*m.toNat:=Nat.le_mul_of_pos_right _ (by omega);obtain⟨BM,bK⟩:=fb (B*m.toNat);rw[<-bK]at q1 q2 q3;omega
   have bz:r.1.wait.length<=65535:=by have h5:=g2.1.wait;have h6:=g2.2.1;have h7:=kz a5;have e3:(gO s hq m z).m=m:=rfl;rw[e3]at h6;omega
   rw[bu];have HG:=fa g2.1;have bL:=fa bx;have bM:=fa bz
   have bN:aR (∀(V:au) (g:Nat) (Ah:Option aw) (hc:Nat) (Aw:Option aw) (wc:Nat) (B:Nat) (Ap:Option aw) (pc:Nat),gB V B g {gO s hq m z with wait:=(gO s hq m z).wait++b} [] Ah hc Aw wc Ap pc none 0->ax prog 40 #[ag (some ⟨g,0,none⟩)] V fun e w'=>e=aq (.tuple #[])/\(∃bO bP bQ bR bS bT bU bV,gB w' B g r.1 r.2 bO bP bQ bR bS bT bU bV)/\aS B V w'):=fa fun V g Ah hc Aw wc B Ap pc UV=>by
    rw[hr];have gw:kG {gO s hq m z with wait:=(gO s hq m z).wait++b}:=gb.w.set (fun x hx=>(List.mem_append.1 hx).elim (gb.bw x) (bb x));have hl:((gO s hq m z).wait++b).length<=300000:=by rw[List.length_append];show 0+b.length<=_;omega
    have:=UE V B g {gO s hq m z with wait:=(gO s hq m z).wait++b} [] Ah hc Aw wc Ap pc none 0 UV gw (by show((gO s hq m z).wait++b).length<=_;omega) (by show 0+10*((gO s hq m z).wait++b).length<=_;omega);refine this.mono fun e w' ⟨e1,e2,_,e4⟩=>⟨e1,?_,e4⟩
    have ew:Va ({gO s hq m z with wait:=(gO s hq m z).wait++b}:fF).wait.length {gO s hq m z with wait:=(gO s hq m z).wait++b} ({gO s hq m z with wait:=(gO s hq m z).wait++b}:fF).wait=nC (gO s hq m z) b:=xJ _ (gO s hq m z) _ _;rw[ew,List.nil_append]at e2;exact e2
   have bW:=fa eV;clear aV aU hh b1 x1 hZ hb a2 aW hm eA bj a1 a5 eV av bb gb hr bu g2 bx bz;go_enter func20,ntmps20
   go_wp2_with (first
    |(rw[<-a9.out,<-HH.out])
    |(refine aF rfl _ _ rfl h rfl _ SA (0,0) _ aY.out underlying55 rfl (by rw[a8.out];exact tR) ?_)
    |fail)
   refine aX.out.mono ?_;rintro e w2 ⟨A1,k1,A2,k2,A3,k3,rfl,r2,ah⟩;rw[bW.out]at r2⊢;obtain⟨Y,hY⟩:=fb (l9 (gO s hq m z) A1 k1 A2 k2 A3 k3);have al:aR (Y.size=9):=fa (by rw[hY];rfl);have a3:aR (Y.all (·.oneCell')=true):=fa (by rw[hY];exact wB ..);obtain⟨W3,ad⟩:=fb (gi w2 Z Y 88);have aT:aS w2.heap.size w2 W3:=by rw[ad];exact km _ _ _ _
   have a6:aS h w W3:=bf.out.trans ((ah.trans (aT.mono ah.size)).mono (by have:=aY.out.lt;omega));obtain⟨h6,bl⟩:=fb (w2.heap.size);have bX:aR (fg W3 h6 Y 88):=fa (by rw[ad,bl];exact kO _ _ _ _);have r3:=(r2.below aT fe).more aT.size;have bA:fq W3 W3.heap.size Ab b.length bc (fc b):=by
    have:=a6;rw[HH.out]at this;exact(bI.out.below this fe).more this.size
   have bq:=TS W3 (gO s hq m z) A1 k1 A2 k2 A3 k3 r3 Ab bc b bA (by show 0<=_;omega) (by show 0<=_;omega) h3;rw[<-hY,<-bJ.out]at bq;have aZ:=fa a6;have a4:=fa ad;have bB:=fa bq;have bY:=fa bl
   rw[<-hY];clear ad ah r2 hY aX aT a6 r3 bA bq bl h3;go_wp2_with (first
    |(refine aD rfl _ _ _ rfl rfl w2.heap.size Y rfl rfl 88 Z (aH w2 _) (by rw[al.out];exact rv) (by rw[bg.out,al.out]) a3.out ?_;rw[show(w2.alloc (ao Z 88)).setRow w2.heap.size Y=gi w2 Z Y 88 from rfl,<-a4.out,<-bY.out])
    |(refine aF rfl _ _ rfl h6 rfl _ Y (0,0) _ bX.out underlying88 rfl (by rw[al.out];exact rv) ?_)
    |fail)
   refine bB.out.mono ?_;rintro e w4 ⟨g,A4,k4,A5,k5,rfl,U4,bC⟩;have bD:=fa (bN.out w4 g A4 k4 A5 k5 W3.heap.size A3 k3 U4);have bZ:=fa bC;clear U4 bC bB;go_wp2_with fail
   refine bD.out.mono ?_;rintro e w5 ⟨rfl,⟨A6,k6,A7,k7,A8,k8,A9,k9,U5⟩,bE⟩;have bF:=UG w5 W3.heap.size g r.1 r.2 A6 k6 A7 k7 A8 k8 A9 k9 U5 HG.out.w bM.out (by have:=bL.out;omega);have bG:=fa bF;have b0:=fa (bZ.out.trans bE)
   clear bF U5 bE bD;go_wp2_with fail
   refine bG.out.mono ?_;rintro e w6 ⟨rfl,⟨B6,j6,B7,j7,B8,j8,B9,j9,U6⟩,bH⟩;have c9:w6.cell? ⟨g,9,none⟩=some (af B9 (r.2++(jY r.1).2).length j9):=U6.box.cell.trans rfl;have a7:fq w6 w6.heap.size B9 (r.2++(jY r.1).2).length j9 (fc (r.2++(jY r.1).2)):=fq.gD U6.own (jz U6.bo);obtain⟨O,hO⟩:=fb (r.2++(jY r.1).2);rw[<-hO]at c9 a7;obtain⟨on,br⟩:=fb (O.length);rw[<-br]at c9 a7;have b2:=fa a7;have b3:=fa (aZ.out.trans ((b0.out.trans bH).mono (by have:=aZ.out.size;have:=HH.out;omega)))
   have b4:=fa hO;have b5:=fa br
   clear U6 bH a7 bG hO br;go_wp2;refine aL (results_tmp2 rfl _ _ _) rfl ?_;rw[<-b4.out];exact⟨B9,on,j9,rfl,b5.out,b2.out,by rw[<-HH.out];exact b3.out⟩
theorem UI:JS:=by
 intro w s h m z;have hz:=(zero_of_info Fx).1;obtain⟨Z,hZ⟩:=fb (l9 (gO 0 0 0 false) none 0 none 0 none 0);obtain⟨Y,hY⟩:=fb (l9 (gO s h m z) none 0 none 0 none 0);have aT:=MY;have aU:=TG s h m z;have a1:Z.size=9:=by rw[hZ];rfl
 have a2:Y.size=9:=by rw[hY];rfl
 have a3:Z.all (·.oneCell')=true:=by rw[hZ];exact wB ..
 have a4:Y.all (·.oneCell')=true:=by rw[hY];exact wB ..
 have hV:l9 (pD s h m z) none 0 none 0 none 0=if iI s h m=false then Z else Y:=by rw[hZ,hY];unfold pD;split<;>rfl
 have a5:∀V:au,pS V V.heap.size (pD s h m z) none 0 none 0 none 0:=fun V=>by
  unfold pD;split
  ·exact Fy _ _ _ _ _ _
  ·exact Fy _ _ _ _ _ _
 suffices hs:ax prog 38 #[ai #[ae ak s,ae ak h,ae ak m,aj z]] w fun e w'=>e=aq (.tuple #[ai (l9 (pD s h m z) none 0 none 0 none 0),ae ak (uD s h m)])/\aS w.heap.size w w' from
  hs.mono fun e w' ⟨h1,h2⟩=>⟨none,0,none,0,none,0,h1,a5 w',h2⟩
 clear a5;rw[hV];have hm:=fun V=>Bj V s h m z
 unfold uD;unfold kT at hm;rw[<-hZ]at hz aT;rw[<-hY]at aU;obtain⟨M,hM⟩:=fb (iI s h m);rw[<-hM]at hm⊢;obtain⟨W1,av⟩:=fb ((w.alloc (ao #[ae ak s,ae ak h,ae ak m,aj z] 55)).alloc (ao Z 88));have b1:aS w.heap.size w W1:=by rw[av];exact(fz.alloc fe _).alloc (by simp) _
 have x1:fg W1 w.heap.size #[ae ak s,ae ak h,ae ak m,aj z] 55:=by rw[av];exact(fg.new w _ _).old _
 have y1:fg W1 (w.heap.size+1) Z 88:=by
  rw[av];have:=fg.new (w.alloc (ao #[ae ak s,ae ak h,ae ak m,aj z] 55)) Z 88
  rwa[World.size_alloc]at this
 have HM:=fa hm;have HW:=fa av;have HB:=fa b1;have HX:=fa x1;have HY:=fa y1;have aV:=fa a1;have aW:=fa a2;have a7:=fa a3;have a8:=fa a4;have a9:=fa aT;have bf:=fa aU
 clear hm hM av b1 x1 y1 a1 a2 a3 a4 aT aU hV hZ hY;cases M with
 |false=>
  go_enter func38,ntmps38
  go_wp2_with (first
   |(rw[<-HW.out];refine aF rfl _ _ rfl w.heap.size rfl _ _ (0,0) _ HX.out underlying55 rfl tR ?_)
   |fail)
  refine(HM.out W1).mono ?_;rintro e w2 ⟨rfl,ad⟩;have al:=HY.out.below ad HY.out.lt;have ah:=HB.out.trans (ad.mono HB.out.size);obtain⟨U,hU⟩:=fb (w2.setRow (w.heap.size+1) Z);have aX:aR (fg U (w.heap.size+1) Z 88):=fa (by rw[hU];exact al.row Z);have aY:aR (aS w.heap.size w U):=fa (by rw[hU];exact ru ah (by omega) _);have HU:=fa hU;have aZ:=fa al
  clear hU ad ah al;rw[if_neg (show¬(false=true) by simp)];go_wp2_with (first
   |(refine aE rfl 88 #[] rfl (some 9) rfl Z ?_ ?_;focus(simpa[Act.eval]using a9.out))
   |(refine aD rfl _ _ _ rfl rfl (w.heap.size+1) Z rfl rfl 88 Z aZ.out (by rw[aV.out];exact rv) rfl a7.out ?_;rw[<-HU.out]))
  refine aL (JP rfl _ _ (w.heap.size+1) Z aV.out rfl aX.out) rfl ?_;exact⟨rfl,aY.out⟩
 |true=>
  go_enter func38,ntmps38
  go_wp2_with (first
   |(rw[<-HW.out];refine aF rfl _ _ rfl w.heap.size rfl _ _ (0,0) _ HX.out underlying55 rfl tR ?_)
   |fail)
  refine(HM.out W1).mono ?_;rintro e w2 ⟨rfl,ad⟩;have al:=HY.out.below ad HY.out.lt;have a6:=HX.out.below ad HX.out.lt;have ah:=HB.out.trans (ad.mono HB.out.size);obtain⟨U,hU⟩:=fb (w2.setRow (w.heap.size+1) Y);have aX:aR (fg U (w.heap.size+1) Y 88):=fa (by rw[hU];exact al.row Y);have aY:aR (aS w.heap.size w U):=fa (by rw[hU];exact ru ah (by omega) _);have HU:=fa hU;have aZ:=fa al;have bg:=fa a6
  clear hU ad ah al a6;rw[if_pos trivial];go_wp2_with (first
   |(refine aF rfl _ _ rfl w.heap.size rfl _ _ (0,0) _ bg.out underlying55 rfl tR ?_)
   |(refine aE rfl 88 #[(0,.tmp 11)] rfl (some 12) rfl Y ?_ ?_;focus(simpa[Act.eval,Act.put]using bf.out))
   |(refine aD rfl _ _ _ rfl rfl (w.heap.size+1) Y rfl rfl 88 Z aZ.out (by rw[aW.out];exact rv) (by rw[aV.out,aW.out]) a8.out ?_;rw[<-HU.out]))
  refine aL (JP rfl _ _ (w.heap.size+1) Y aW.out rfl aX.out) rfl ?_;exact⟨rfl,aY.out⟩
theorem UJ:JT:=UH UI
section
variable {H:Type} {enc:TypeId×ay->H} {P:Program} {w:au} {base:Nat} {spare:Nat->Bool} {held:Bool}
end
theorem J8{w:au}{B n c:Nat}{A:Option aw}{f:Nat->Nat}(h:fq w B A n c f):∃L:List Nat,L.length=n/\fq w B A L.length c (fc L):=by
 have hl:iA (iF f n):=fun x hx=>by
  unfold iF at hx;obtain⟨i,_,rfl⟩:=List.mem_map.1 hx;exact h.1.1 i
 refine⟨iF f n,qp _ _,?_⟩;rw[qp];refine h.same (jz hl) fun j hj=>?_
 show f j=(iF f n).getD j 0
 rw[wU f hj]
def two{α:Type}(x y:α):Nat->α
 |0=>x
 |_+1=>y
theorem UK{s h m:Int}{z:Bool}{b:List Nat}(hm:iI s h m=true)(hb:iA b):(lg s h m z b).length<=6*b.length+5:=by
 have g:=Az z hm;obtain⟨g1,e1,_,_,_,B,h1,h2⟩:=Fu g hb;obtain⟨_,_,_,h3⟩:=Fv g1;have hr:=kz hm;have hB:B<=B*m.toNat:=Nat.le_mul_of_pos_right _ (by omega);have k0:((gO s h m z).k.toNat+7)/8=0:=by
  have e:(gO s h m z).k=0:=rfl;rw[e];decide
 have w0:(gO s h m z).wait.length=0:=rfl;have m0:(gO s h m z).m=m:=rfl;rw[k0,m0]at h2;rw[w0,m0]at h1;unfold lg;rw[List.length_append];omega
theorem UL{g:Nat->Nat}{L:Nat}{ff:Int}(hL:L<=131072)(h:ff<0\/131072<ff):ny g L 0 ff=([],0,2):=by
 have h1:l8 L 0=0:=by unfold l8;rw[if_neg (by omega),if_neg (by omega)]
 have h2:mD ff=2:=by unfold mD;rw[if_pos h]
 unfold ny;rw[h1,if_neg (fun h=>h rfl),h2,if_pos (by decide)]
theorem UM(s h m:Int)(z:Bool)(A1:Option aw)(c1:Nat)(b:List Nat)(A2:Option aw)(c2:Nat)(more:List Nat)(ff:Int)(w:au)(hb:fq w w.heap.size A1 b.length c1 (fc b))(hm:fq w w.heap.size A2 more.length c2 (fc more))(bG: -9223372036854775808<=ff)(bH:ff<=9223372036854775807):
  ax prog 5 #[ai #[ae ak s,ae ak h,ae ak m,aj z],af A1 b.length c1,af A2 more.length c2,ae ak ff] w fun e w'=>e=aq (aj true)/\aS w.heap.size w w':=by
 obtain⟨X,hX⟩:∃X:Array ay,X=#[ae ak s,ae ak h,ae ak m,aj z]:=⟨_,rfl⟩
 rw[<-hX]
 obtain⟨g0,bI⟩:=fb (w.heap.size)
 obtain⟨W0,bt⟩:=fb (w.alloc (ao X 55))
 have bS:aS w.heap.size w W0:=by rw[bt];exact fz.alloc fe _
 have x0:fg W0 g0 X 55:=by rw[bt,bI];exact fg.new w _ _
 have bJ:aR ((prog.info? 55).map (·.size)=some X.size):=fa (by rw[hX];exact vL)
 have bT:=xK hb
 obtain⟨bn,a9⟩:=fb (b.length)
 obtain⟨mn,bu⟩:=fb (more.length)
 have bf:=fa Tp
 have bK:=fa fun(V:au) (hV:aS w.heap.size w V) (h3:b.length<=1000000)=>UJ V s h m z A1 c1 b ((hb.below hV fe).more hV.size) h3
 have bL:=fa fun(V:au)=>Bj V s h m z
 have RB:=fa fun(V:au) (hV:aS w.heap.size w V)=>(hb.below hV fe).more hV.size
 have RM:=fa fun(V:au) (hV:aS w.heap.size w V)=>(hm.below hV fe).more hV.size
 have bC:∀j,fc more j<256:=hm.1.1
 have b6:=fa bC
 rw[<-hX,<-a9]at bK
 rw[<-hX]at bL
 rw[<-a9]at RB
 rw[<-bu]at RM
 rw[<-a9,<-bu]
 have bg:=fa bt;have bj:=fa bI;have av:=fa bS;have aT:=fa x0;have bU:=fa bT;have bx:=fa a9;have bV:=fa bu
 clear hX bI bt bS x0 bT a9 bu hb hm bC
 by_cases bz:300<bn
 ·have d1:decide (300<(bn:Int))=true:=oh (by omega);have b7:decide (300<bn)=true:=oh (by omega);clear bz;go_enter func5,ntmps5
  go_wp2_with (first|(rw[<-bg.out,<-bj.out])|fail)
  refine(bf.out W0).mono ?_;rintro e W1 ⟨rfl,ad⟩;have ah:=fa (av.out.trans (ad.mono av.out.size));have aW:=fa (aT.out.below ad aT.out.lt)
  clear ad;go_wp2;go_ret;exact⟨rfl,ah.out⟩
 have d1:decide (300<(bn:Int))=false:=qd (by omega)
 have b7:decide (300<bn)=false:=qd (by omega)
 by_cases bM:300<mn
 ·have d2:decide (300<(mn:Int))=true:=oh (by omega);have b8:decide (300<mn)=true:=oh (by omega);clear bz bM;go_enter func5,ntmps5
  go_wp2_with (first|(rw[<-bg.out,<-bj.out])|fail)
  refine(bf.out W0).mono ?_;rintro e W1 ⟨rfl,ad⟩;have ah:=fa (av.out.trans (ad.mono av.out.size));have aW:=fa (aT.out.below ad aT.out.lt)
  clear ad;go_wp2;go_ret;exact⟨rfl,ah.out⟩
 have d2:decide (300<(mn:Int))=false:=qd (by omega)
 have b8:decide (300<mn)=false:=qd (by omega)
 by_cases bW:3000<ff/\ff<=131072
 ·obtain⟨b9,ca⟩:=bW;have d3:decide (3000<ff)=true:=oh (by omega);have d4:decide (ff<=131072)=true:=oh (by omega);clear bz bM b9 ca;go_enter func5,ntmps5
  go_wp2_with (first|(rw[<-bg.out,<-bj.out])|fail)
  refine(bf.out W0).mono ?_;rintro e W1 ⟨rfl,ad⟩;have ah:=fa (av.out.trans (ad.mono av.out.size));have aW:=fa (aT.out.below ad aT.out.lt)
  clear ad;go_wp2;go_ret;exact⟨rfl,ah.out⟩
 obtain⟨x,y,hx,hy,bA⟩:∃x y,decide (3000<ff)=x/\decide (ff<=131072)=y/\(x&&y)=false:=⟨_,_,rfl,rfl,by
  by_cases h1:3000<ff
  ·rw[qd (show¬ff<=131072 by omega),Bool.and_false]
  ·rw[qd h1];rfl⟩
 have aU:=fa fun(V:au) (hV:aS w.heap.size w V)=>bK.out V hV (by omega)
 clear bK
 rcases Bool.eq_false_or_eq_true (iI s h m)with aX|aX
 case inr=>
  have eA:oo s h m bn=8:=by unfold oo;rw[if_pos aX]
  have eS:kT s h m=8:=by unfold kT;rw[if_neg (by rw[aX];decide)]
  rw[eS]at bL;rw[eA]at aU;clear eA eS aX bz bM bW;cases x<;>cases y<;>first|(exact absurd bA (by decide))|skip
  all_goals(
   clear bA;go_enter func5,ntmps5
   go_wp2_with (first|(rw[<-bg.out,<-bj.out])|fail)
   refine(bf.out W0).mono ?_;rintro e W1 ⟨rfl,ad⟩;have ah:=fa (av.out.trans (ad.mono av.out.size));have aW:=fa (aT.out.below ad aT.out.lt)
   clear ad;go_wp2_with (first
    |(refine aF rfl _ _ rfl g0 rfl _ X (0,0) _ aW.out underlying55 rfl bJ.out ?_)
    |fail)
   refine(aU.out W1 ah.out).mono ?_;rintro e W2 ⟨Ao,on,oc,rfl,_,_,a7⟩;have aY:=fa (ah.out.trans (a7.mono ah.out.size));have cb:=fa (aW.out.below a7 aW.out.lt)
   have e8:((8:Int) !=0)=true:=rfl;clear a7;go_wp2_with (first
    |(refine zR (by rfl) _ _ rfl g0 rfl _ X (0,0) _ cb.out underlying55 rfl bJ.out ?_)
    |fail)
   refine(bL.out W2).mono ?_;rintro e W3 ⟨rfl,a4⟩;have cf:=fa (aY.out.trans (a4.mono aY.out.size));clear a4;go_wp2;go_ret;exact⟨rfl,cf.out⟩)
 have eA:oo s h m bn=0:=by unfold oo;rw[if_neg (by rw[aX];decide),if_neg (by omega)]
 rw[eA,if_pos rfl]at aU
 obtain⟨O,hO⟩:=fb (lg s h m z b)
 rw[<-hO]at aU
 have bN:O.length<=2000:=by
  have h1:=UK (z:=z) aX bU.out;rw[<-hO,<-bx.out]at h1;omega
 have bl:=fun(h0:0<=ff) (h1:ff<=131072)=>TF (z:=z) (more:=more) (ff:=ff) aX bU.out (by rw[<-hO,<-bV.out];omega) h0 h1 (by rw[<-bx.out];omega)
 rw[<-hO,<-bV.out,<-bx.out]at bl
 obtain⟨q,hq⟩:=fb (O.length+mn)
 rw[<-hq]at bl
 obtain⟨on,bO⟩:=fb (O.length)
 rw[<-bO]at aU bl hq bN
 have HQ:=fa hq;have bP:=fa bO;have bQ:=fa bN;have cg:=fa bl
 have ch:q<=131072:=by omega
 clear eA aX hO bl hq bO bN
 cases x<;>cases y<;>first|(exact absurd bA (by decide))|skip
 all_goals(
  clear bA;go_enter func5,ntmps5
  go_wp2_with (first|(rw[<-bg.out,<-bj.out])|fail)
  refine(bf.out W0).mono ?_;rintro e W1 ⟨rfl,ad⟩;have ah:=fa (av.out.trans (ad.mono av.out.size));have aW:=fa (aT.out.below ad aT.out.lt)
  clear ad;go_wp2_with (first
   |(refine aF rfl _ _ rfl g0 rfl _ X (0,0) _ aW.out underlying55 rfl bJ.out ?_)
   |fail)
  refine(aU.out W1 ah.out).mono ?_;rintro e W2 ⟨Ao,cr,oc,rfl,bX,bB,a7⟩;have bY:=bX.symm;subst bY;have aY:=fa (ah.out.trans (a7.mono ah.out.size));obtain⟨A3,c3,W3,bD,bE,a4,_⟩:=Kb W2 W2.heap.size Ao on oc (fc O) bB.1 (by have:=bQ.out;omega) 22 bB.2.1;have bF:=aY.out.trans (a4.mono aY.out.size);obtain⟨A4,c4,W4,a5,bq,bZ,-,-⟩:=Bl W3 W2.heap.size A3 on c3 (fc O) bE A2 mn c2 (fc more) (fc (O++more)) (RM.out W3 bF) (fun j hj=>by rw[oG];unfold cat;rw[if_pos (by rw[<-bP.out];exact hj)]) (fun j hj=>by rw[oG];unfold cat;rw[if_neg (by rw[<-bP.out];omega),<-bP.out,Nat.add_sub_cancel_left]) (by have:=bQ.out;omega) a4.size;have b0:∀j,fc O j<256:=bB.1.1;have br:=fq.gD bq (fun j=>by rw[oG];unfold cat;split;exact b0 _;exact b6.out _);rw[<-HQ.out]at a5 br;have a6:=fa bD;have aV:=fa a5;have bR:=fa br
  have aZ:=fa (aY.out.trans (bZ.mono aY.out.size|>fun h=>(a4.mono aY.out.size).trans h));clear a7 bB bD bE a4 bF a5 bq bZ b0 br;have ct:((0:Int) !=0)=false:=rfl;by_cases k0:ff<0\/131072<ff
  ·have a1:=CG (A:=A4) (c:=c4) (a:=0) (ff:=ff) bR.out.1 (by decide) (by decide) (by omega) bG bH (UL (g:=fc (O++more)) ch k0) (n:=0) rfl;have a8:=fa a1;have e2:((2:Int)==2)=true:=rfl;clear a1;by_cases k1:ff<0
   ·have d5:decide (ff<0)=true:=oh k1;clear k0 k1;go_wp2_with (first
     |(at_builtin;refine wpList_append_run rfl (.const (af none 0 0)) (.tmp 53) 22 rfl (af none 0 0) (af Ao on oc) (af A3 on c3) W3 rfl rfl a6.out ?_)
     |(at_builtin;refine wpList_append_run rfl (.tmp 54) (.tmp 55) 22 rfl (af A3 on c3) (af A2 mn c2) (af A4 q c4) W4 rfl rfl aV.out ?_)
     |fail)
    refine a8.out.mono ?_;rintro e W5 ⟨A5,c5,rfl,a2,al⟩;have a3:=fa (aZ.out.trans (al.mono aZ.out.size));clear a2 al;go_wp2;go_ret;exact⟨rfl,a3.out⟩
   ·have d5:decide (ff<0)=false:=qd k1;have d6:decide (131072<ff)=true:=oh (by omega);clear k0 k1;go_wp2_with (first
     |(at_builtin;refine wpList_append_run rfl (.const (af none 0 0)) (.tmp 53) 22 rfl (af none 0 0) (af Ao on oc) (af A3 on c3) W3 rfl rfl a6.out ?_)
     |(at_builtin;refine wpList_append_run rfl (.tmp 54) (.tmp 55) 22 rfl (af A3 on c3) (af A2 mn c2) (af A4 q c4) W4 rfl rfl aV.out ?_)
     |fail)
    refine a8.out.mono ?_;rintro e W5 ⟨A5,c5,rfl,a2,al⟩;have a3:=fa (aZ.out.trans (al.mono aZ.out.size));clear a2 al;go_wp2;go_ret;exact⟨rfl,a3.out⟩
  have k1:0<=ff/\ff<=131072:=by omega
  have d5:decide (ff<0)=false:=qd (by omega);have d6:decide (131072<ff)=false:=qd (by omega);obtain⟨b1,b2⟩:=cg.out k1.1 k1.2;by_cases k2:ff<(bn:Int)
  ·have d7:decide (ff<(bn:Int))=true:=oh k2;have a1:=CG (A:=A4) (c:=c4) (a:=0) (ff:=ff) bR.out.1 (by decide) (by decide) (by omega) bG bH (b2 k2) (n:=0) rfl;have a8:=fa a1;have e2:((140:Int)==140)=true:=rfl;clear a1 b1 b2 k0 k1 k2;go_wp2_with (first
    |(at_builtin;refine wpList_append_run rfl (.const (af none 0 0)) (.tmp 53) 22 rfl (af none 0 0) (af Ao on oc) (af A3 on c3) W3 rfl rfl a6.out ?_)
    |(at_builtin;refine wpList_append_run rfl (.tmp 54) (.tmp 55) 22 rfl (af A3 on c3) (af A2 mn c2) (af A4 q c4) W4 rfl rfl aV.out ?_)
    |fail)
   refine a8.out.mono ?_;rintro e W5 ⟨A5,c5,rfl,a2,al⟩;have a3:=fa (aZ.out.trans (al.mono aZ.out.size));clear a2 al;go_wp2;go_ret;exact⟨rfl,a3.out⟩
  ·have d7:decide (ff<(bn:Int))=false:=qd k2;obtain⟨N,b3,b4,b5⟩:=b1 (by omega);have a1:=CG (A:=A4) (c:=c4) (a:=0) (ff:=ff) bR.out.1 (by decide) (by decide) (by omega) bG bH b3 (n:=bn) bx.out;have a8:=fa a1;obtain⟨o1,cj⟩:=fb (on-1);have eo:(on:Int)-1=(o1:Int):=by omega
   obtain⟨p1,ck⟩:=fb (8*o1);obtain⟨p2,cl⟩:=fb (8*on);have cu:8*(o1:Int)=(p1:Int):=by omega
   have cv:8*(on:Int)=(p2:Int):=by omega
   have cw:=bQ.out;have cx:decide ((p1:Int)<(N:Int))=true:=oh (by omega);have cm:decide (p1<N)=true:=oh (by omega);have cy:decide ((N:Int)<=(p2:Int))=true:=oh (by omega);have cn:decide (N<=p2)=true:=oh (by omega);have cz:p1<=20000:=by omega
   have cp:p2<=20000:=by omega
   have cA:N<=20000:=by omega
   have cq:1<=on:=by omega
   clear a1 b1 b2 b3 b4 b5 k0 k1 k2 cj ck cl;go_wp2_with (first
    |(at_builtin;refine wpList_append_run rfl (.const (af none 0 0)) (.tmp 53) 22 rfl (af none 0 0) (af Ao on oc) (af A3 on c3) W3 rfl rfl a6.out ?_)
    |(at_builtin;refine wpList_append_run rfl (.tmp 54) (.tmp 55) 22 rfl (af A3 on c3) (af A2 mn c2) (af A4 q c4) W4 rfl rfl aV.out ?_)
    |fail)
   refine a8.out.mono ?_;rintro e W5 ⟨A5,c5,rfl,a2,al⟩;have a3:=fa (aZ.out.trans (al.mono aZ.out.size));have t1:=uF a2.1 c5;have t2:=uF (RB.out W5 a3.out).1 c1;obtain⟨S,hS⟩:=fb (kH bn (fc b));rw[<-hS]at t1 t2;have y1:(S.toList==S.toList)=true:=by simp
   have e2:((0:Int)==0)=true:=rfl;clear a2 al hS;go_wp2;go_ret;exact⟨rfl,a3.out⟩)
end Go.Proofs.YtgokdgcmkcmjeaaGreat
