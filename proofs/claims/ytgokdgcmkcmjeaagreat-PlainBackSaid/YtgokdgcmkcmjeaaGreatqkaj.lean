/-
  Words and walks.
-/
import Derived.Test.YtgokdgcmkcmjeaaGreatqkaa
import Derived.Test.YtgokdgcmkcmjeaaGreatqkai
set_option maxRecDepth 100000
set_option maxHeartbeats 16000000
namespace Go.Proofs.YtgokdgcmkcmjeaaGreat
open Value renaming int → ae, slice → af, pointer → ag
open IntKind renaming i64 → ak
open Ending renaming returned → aq
open Go renaming World → au, Calls → ax
open Go.RowKit renaming intOf → aQ, Below → aS
open _root_.Go.Proofs.Tryz
open Go.RowKit
structure QG (a m b n mid s0 r0:Nat):Prop where
 h1:a<=s0
 h2:s0<=r0
 h3:r0<=m
 h4:r0<=mid
 h5:n-s0<=b
 h6:s0=a\/n-s0=b
 h7:r0=m\/n-r0=m
 h8:n=mid+m
theorem QH(l:List Int)(B g N c d:Nat)(hF:pw l)(hN:N<=400)(IH:Ib l B g N c d)(w:au)(f:Nat->Nat)(a m b:Nat)(hd:b-a<=d+1)(ham:a+2<=m)(ca:m+2<=b)(hb:b<=N)(hr:fX w g N f)(hC:mg w B g l)(hM:∀t,t<N->f t<l.length)(hS:St (fy l) f N)(h1:Rs (fy l) f a m)(h2:Rs (fy l) f m b):
  ax prog 199 #[af (some ⟨g,0,none⟩) N c,ae ak (a:Int),ae ak (m:Int),ae ak (b:Int),.func (.func 182) #[] #[ag (some ⟨B,0,none⟩)]] w fun e w'=>e=aq (.tuple #[])/\aS g w w'/\∃f',fX w' g N f'/\Vd f f' a b/\Rs (fy l) f' a b:=by
 have b4:((m:Int)-(a:Int)==1)=false:=by simp;omega
 have b5:((b:Int)-(m:Int)==1)=false:=by simp;omega
 obtain⟨mid,bx⟩:=fb ((a+b)/2)
 have b6:((a:Int)+(b:Int))/2=(mid:Int):=by omega
 obtain⟨n,hn⟩:=fb (mid+m)
 have en:(mid:Int)+(m:Int)=(n:Int):=by omega
 obtain⟨p,hp⟩:=fb (n-1)
 have ep:(n:Int)-1=(p:Int):=by omega
 have b7:a+1<mid:=by omega
 have bS:mid<b:=by omega
 have b8:m<b:=by omega
 have bT:n<=800:=by omega
 have HR:=fa hr;have HC:=fa hC;have HM:=fa hM;have HS:=fa hS;have HF:=fa hF;have H1:=fa h1;have H2:=fa h2;have bF:=fa IH
 clear hr hC hM hS hF h1 h2 IH
 obtain⟨s0,r0,ad,a3⟩:∃s0 r0:Nat,((mid<m/\s0=n-b/\r0=mid)\/(m<=mid/\s0=a/\r0=m))/\Hid (QG a m b n mid s0 r0):=by
  by_cases g:mid<m
  ·exact⟨n-b,mid,.inl ⟨g,rfl,rfl⟩,fa ⟨by omega,by omega,by omega,by omega,by omega,by omega,by omega,hn⟩⟩
  ·exact⟨a,m,.inr ⟨by omega,rfl,rfl⟩,fa ⟨by omega,by omega,by omega,by omega,by omega,by omega,by omega,hn⟩⟩
 have cb:s0<=m:=by have:=a3.out;have h1:=this.h2;have h2:=this.h3;omega
 have cf:r0<=m:=a3.out.h3
 have b9:=fa bx;have HN:=fa hn;have HP:=fa hp
 clear bx hn hp
 go_enter func199,ntmps199
 go_upto_if 140 with fail
 go_cut [20,21] (fun vs vr wx=>vs=ae ak (s0:Int)/\vr=ae ak (r0:Int)/\wx=w)
 case first=>
  as_aux_lemma=>
  rcases ad with⟨g1,g2,g3⟩|⟨g1,g2,g3⟩
  ·have aV:(mid:Int)<(m:Int):=by omega
   have aY:(n:Int)-(b:Int)=(s0:Int):=by have:=HN.out;omega
   subst g3;clear g2;go_wp2_with fail
   go_meet;exact⟨rfl,rfl,rfl⟩
  ·have aV:¬(mid:Int)<(m:Int):=by omega
   subst g2;subst g3;go_wp2_with fail
   go_meet;exact⟨rfl,rfl,rfl⟩
 case rest=>
  obtain⟨rfl,rfl,rfl⟩:=hcut;obtain⟨wa,rfl⟩:∃wa:au,wa=wc:=⟨_,rfl⟩;clear ad;go_wp2;go_loopw [20,21] (fun vi vj wr=>∃(i j:Nat),s0<=i/\i<=j/\j<=r0/\vi=ae ak (i:Int)/\vj=ae ak (j:Int)/\aS g wa wr/\fX wr g N f/\Hid ((i=s0\/¬fy l (f (p-(i-1)))<fy l (f (i-1)))/\(j=r0\/fy l (f (p-j))<fy l (f j)))) (fun vi vj _=>(aQ vj).toNat-(aQ vi).toNat)
  case atStart=>exact⟨s0,r0,Nat.le_refl _,a3.out.h2,Nat.le_refl _,rfl,rfl,Below.refl _ _,HR.out,fa ⟨.inl rfl,.inl rfl⟩⟩
  case round=>
   obtain⟨i,j,bU,cg,bV,rfl,rfl,aZ,ah,HI⟩:=hrel;by_cases ch:i<j
   ·have bG:(i:Int)<(j:Int):=by omega
    as_aux_lemma=>
    obtain⟨h,hh⟩:=fb ((i+j)/2);have eh:((i:Int)+(j:Int))/2=(h:Int):=by omega
    have bW:i<=h:=by omega
    have cj:h<j:=by omega
    have bA:h<N:=by omega
    obtain⟨q,hq⟩:=fb (p-h);have bB:h<=p/\q<N:=by
     have h1:=a3.out;have h2:=h1.h1;have h3:=h1.h3;have h4:=h1.h4;have h5:=h1.h5;have h8:=h1.h8
     have:=HP.out;omega
    have bC:q<N:=bB.2;have eq:(p:Int)-(h:Int)=(q:Int):=by omega
    have a4:=fa (ym wr B g l (HC.out.below aZ) HF.out.len (f q) (f h) (HM.out q bC) (HM.out h bA));have al:=HF.out.cmp (HM.out q bC) (HM.out h bA);have c1:=ah.cell bA;have c2:=ah.cell bC;have HB:=fa aZ;have av:=fa ah
    obtain⟨r,hr⟩:=fb (oK (l.getD (f q) 0) (l.getD (f h) 0));rw[<-hr]at a4 al;rw[hq]at al;obtain⟨x,hx⟩:=fb (f h);obtain⟨y,hy⟩:=fb (f q);rw[<-hx]at c1 a4;rw[<-hy]at c2 a4;by_cases bz:r<0
    ·have hd:decide (r<0)=true:=by simp;omega
     have bX:=fa (al.1 bz);clear aZ ah hr al hh hx hy hq bB;go_wp2_with fail
     go_quiet ((go_at_call 182;exact Calls.quiet_of (a4.out _)))
     go_wp2_with fail
     go_roundw
     case rel=>exact⟨i,h,bU,bW,by omega,rfl,rfl,HB.out.trans (px g wr nq),av.out.drewN nq,fa ⟨HI.out.1,.inr bX.out⟩⟩
     case measure=>simp[aQ];omega
    ·have hd:decide (r<0)=false:=by simp;omega
     have bY:=fa (fun q=>bz (al.2 q));clear aZ ah hr al hh hx hy hq bB;go_wp2_with fail
     go_quiet ((go_at_call 182;exact Calls.quiet_of (a4.out _)))
     go_wp2_with fail
     go_roundw
     case rel=>exact⟨h+1,j,by omega,by omega,bV,by go_num,rfl,HB.out.trans (px g wr nq),av.out.drewN nq,fa ⟨.inr (by rw[Nat.add_sub_cancel];exact bY.out),HI.out.2⟩⟩
     case measure=>simp[aQ];omega
   ·obtain rfl:i=j:=by omega
    have bG:¬(i:Int)<(i:Int):=by omega
    obtain⟨e,he⟩:=fb (n-i);have ad:=a3.out;have q1:=ad.h1;have q2:=ad.h2;have q3:=ad.h3;have q4:=ad.h4;have q5:=ad.h5;have q6:=ad.h6;have q7:=ad.h7;have q8:=ad.h8
    have hp:=HP.out;have ee:(n:Int)-(i:Int)=(e:Int):=by omega
    have bD:i+(e-m)=mid:=by omega
    have aW:m<=e:=by omega
    have a5:e<=b:=by omega
    have a6:a<=i:=by omega
    have aX:i<=m:=by omega
    have bZ:i<=mid:=by omega
    have bH:mid<=e:=by omega
    have hx:i<m->m<e->fy l (f (e-1))<fy l (f i):=fun g1 g2=>by
     rcases HI.out.2 with g|g
     ·omega
     ·rw[show p-i=e-1 by omega]at g;exact g
    have hy:a<i->e<b->fy l (f (i-1))<=fy l (f e):=fun g1 g2=>by
     rcases HI.out.1 with g|g
     ·omega
     ·rw[show p-(i-1)=e by omega]at g;omega
    have bE:=fa (BG HS.out hb H1.out H2.out a6 aX aW a5 hx);have aT:=fa (BF f aX aW);have R1:=fa (Hv (e:=e) H1.out aX);have R2:=fa (BH H2.out aX aW a5);have R3:=fa (BI H1.out a6 aX aW);have R4:=fa (Hw (s:=i) H2.out aW);have br:=fa (BJ HS.out hb H1.out H2.out a6 aX aW a5 hx hy);rw[bD]at R2 R3 br;have HB:=fa aZ;have av:=fa ah
    clear aZ ah hx hy he ad q1 q2 q3 q4 q5 q6 q7 q8 hp;go_upto_region 39 with fail
    go_cut [185] (fun v wx=>v=.bool (decide (i<m/\m<e))/\wx=wr)
    case first=>
     as_aux_lemma=>
     by_cases g1:i<m
     ·have aV:decide ((i:Int)<(m:Int))=true:=by simp;omega
      have a7:(i:Int)<(m:Int):=by omega
      by_cases g2:m<e
      ·have aY:decide ((m:Int)<(e:Int))=true:=by simp;omega
       have a8:(m:Int)<(e:Int):=by omega
       go_wp2_with fail
       go_meet;exact⟨congrArg Value.bool (decide_eq_true ⟨g1,g2⟩).symm,rfl⟩
      ·have aY:decide ((m:Int)<(e:Int))=false:=by simp;omega
       have a8:¬(m:Int)<(e:Int):=by omega
       go_wp2_with fail
       go_meet;exact⟨congrArg Value.bool (decide_eq_false (fun h=>g2 h.2)).symm,rfl⟩
     ·have aV:decide ((i:Int)<(m:Int))=false:=by simp;omega
      have a7:¬(i:Int)<(m:Int):=by omega
      go_wp2_with fail
      go_meet;exact⟨congrArg Value.bool (decide_eq_false (fun h=>g1 h.1)).symm,rfl⟩
    case rest=>
     as_aux_lemma=>
     obtain⟨rfl,rfl⟩:=hcut;obtain⟨wb,rfl⟩:∃wb:au,wb=wc:=⟨_,rfl⟩;go_upto_if 185 with fail
     go_cut [] (fun wx=>aS g wa wx/\fX wx g N (gx f i m e))
     case first=>
      as_aux_lemma=>
      by_cases hg:i<m/\m<e
      ·have hd:decide (i<m/\m<e)=true:=decide_eq_true hg;go_wp2_with (go_at_call 201;refine(QA _ g N c f av.out i m e hg.1 hg.2 (by omega) hN (.func (.func 182) #[] #[ag (some ⟨B,0,none⟩)])).mono ?_;rintro _ w1 ⟨rfl,a9,bf⟩;have bg:=fa a9;have bj:=fa bf;clear a9 bf)
       go_meet;exact⟨HB.out.trans bg.out,bj.out⟩
      ·have hd:decide (i<m/\m<e)=false:=decide_eq_false hg;go_wp2_with fail
       go_meet;exact⟨HB.out,by rw[BE f aX aW (by omega)];exact av.out⟩
     case rest=>
      as_aux_lemma=>
      obtain⟨a9,bf⟩:=hcut;obtain⟨w1,rfl⟩:∃w1:au,w1=wc:=⟨_,rfl⟩;have bg:=fa a9;have bj:=fa bf
      obtain⟨f1,bI⟩:=fb (gx f i m e);rw[<-bI]at bj bE aT R1 R2 R3 R4 br;have bJ:=fa (aT.out.lt (by omega) HM.out);clear a9 bf bI HB av;go_upto_region 41 with fail
      go_cut [199] (fun v wx=>v=.bool (decide (a<i/\i<mid))/\wx=w1)
      case first=>
       as_aux_lemma=>
       by_cases g1:a<i
       ·have aV:decide ((a:Int)<(i:Int))=true:=by simp;omega
        have a7:(a:Int)<(i:Int):=by omega
        by_cases g2:i<mid
        ·have aY:decide ((i:Int)<(mid:Int))=true:=by simp;omega
         have a8:(i:Int)<(mid:Int):=by omega
         go_wp2_with fail
         go_meet;exact⟨congrArg Value.bool (decide_eq_true ⟨g1,g2⟩).symm,rfl⟩
        ·have aY:decide ((i:Int)<(mid:Int))=false:=by simp;omega
         have a8:¬(i:Int)<(mid:Int):=by omega
         go_wp2_with fail
         go_meet;exact⟨congrArg Value.bool (decide_eq_false (fun h=>g2 h.2)).symm,rfl⟩
       ·have aV:decide ((a:Int)<(i:Int))=false:=by simp;omega
        have a7:¬(a:Int)<(i:Int):=by omega
        go_wp2_with fail
        go_meet;exact⟨congrArg Value.bool (decide_eq_false (fun h=>g1 h.1)).symm,rfl⟩
      case rest=>
       as_aux_lemma=>
       obtain⟨rfl,rfl⟩:=hcut;obtain⟨w1,rfl⟩:∃w1:au,w1=wc:=⟨_,rfl⟩;go_upto_if 199 with fail
       go_cut [] (fun wx=>aS g wa wx/\∃f2,fX wx g N f2/\Vd f1 f2 a mid/\Rs (fy l) f2 a mid)
       case first=>
        as_aux_lemma=>
        by_cases hg:a<i/\i<mid
        ·have hd:decide (a<i/\i<mid)=true:=decide_eq_true hg;go_wp2_with (go_at_call 199;refine(bF.out _ f1 a i mid (by omega) hg.1 hg.2 (by omega) bj.out (HC.out.below bg.out) bJ.out bE.out R1.out R2.out).mono ?_;rintro _ w2 ⟨rfl,bl,f2,bn,aU,a1⟩;have bq:=fa bl;have bt:=fa bn;have a2:=fa aU;have bu:=fa a1;clear bl bn aU a1)
         go_meet;exact⟨bg.out.trans bq.out,f2,bt.out,a2.out,bu.out⟩
        ·have hd:decide (a<i/\i<mid)=false:=decide_eq_false hg;go_wp2_with fail
         go_meet;refine⟨bg.out,f1,bj.out,Vd.refl _ _ _,?_⟩;by_cases e1:a=i
         ·rw[e1];exact R2.out
         ·have e2:i=mid:=by omega
          rw[<-e2];exact R1.out
       case rest=>
        as_aux_lemma=>
        obtain⟨bl,f2,bn,aU,a1⟩:=hcut;obtain⟨w2,rfl⟩:∃w2:au,w2=wc:=⟨_,rfl⟩;have bq:=fa bl;have bt:=fa bn;have a2:=fa aU;have bu:=fa a1
        have b0:=fa (aU.lt (by omega) bJ.out);have bK:=fa (bE.out.keep aU a1 (by omega));have bL:=fa (R3.out.keep aU (.inr fe));have bM:=fa (R4.out.keep aU (.inr bH));clear bl bn aU a1;go_upto_region 43 with fail
        go_cut [213] (fun v wx=>v=.bool (decide (mid<e/\e<b))/\wx=w2)
        case first=>
         as_aux_lemma=>
         by_cases g1:mid<e
         ·have aV:decide ((mid:Int)<(e:Int))=true:=by simp;omega
          have a7:(mid:Int)<(e:Int):=by omega
          by_cases g2:e<b
          ·have aY:decide ((e:Int)<(b:Int))=true:=by simp;omega
           have a8:(e:Int)<(b:Int):=by omega
           go_wp2_with fail
           go_meet;exact⟨congrArg Value.bool (decide_eq_true ⟨g1,g2⟩).symm,rfl⟩
          ·have aY:decide ((e:Int)<(b:Int))=false:=by simp;omega
           have a8:¬(e:Int)<(b:Int):=by omega
           go_wp2_with fail
           go_meet;exact⟨congrArg Value.bool (decide_eq_false (fun h=>g2 h.2)).symm,rfl⟩
         ·have aV:decide ((mid:Int)<(e:Int))=false:=by simp;omega
          have a7:¬(mid:Int)<(e:Int):=by omega
          go_wp2_with fail
          go_meet;exact⟨congrArg Value.bool (decide_eq_false (fun h=>g1 h.1)).symm,rfl⟩
        case rest=>
         as_aux_lemma=>
         obtain⟨rfl,rfl⟩:=hcut;obtain⟨w2,rfl⟩:∃w2:au,w2=wc:=⟨_,rfl⟩;by_cases hg:mid<e/\e<b
         ·have hd:decide (mid<e/\e<b)=true:=decide_eq_true hg;go_wp2_with (go_at_call 199;refine(bF.out _ f2 mid e b (by omega) hg.1 hg.2 (by omega) bt.out (HC.out.below bq.out) b0.out bK.out bL.out bM.out).mono ?_;rintro _ w3 ⟨rfl,bN,f3,bO,bP,bQ⟩;have b1:=fa bN;have b2:=fa bO;have bR:=fa bP;have b3:=fa bQ;clear bN bO bP bQ)
          go_end0;exact⟨rfl,bq.out.trans b1.out,f3,b2.out,(((aT.out.wide a6 a5).trans (a2.out.wide fe (by omega))).trans (bR.out.wide (by omega) fe)),yk a2.out bu.out bR.out b3.out br.out⟩
         ·have hd:decide (mid<e/\e<b)=false:=decide_eq_false hg;go_wp2_with fail
          go_end0;refine⟨rfl,bq.out,f2,bt.out,((aT.out.wide a6 a5).trans (a2.out.wide fe (by omega))),yk a2.out bu.out (Vd.refl _ _ _) ?_ br.out⟩;by_cases e1:mid=e
          ·rw[e1];exact bM.out
          ·have e2:e=b:=by omega
           rw[<-e2];exact bL.out
theorem Ic(l:List Int)(B g N c:Nat)(hF:pw l)(hN:N<=400):∀d,Ib l B g N c d
 |0=>fun w f a m b hd ham ad=>by omega
 |d+1=>fun w f a m b hd ham ad hb hr hC hM hS h1 h2=>by
  by_cases e1:m=a+1
  ·subst e1;exact QD l B g N c hF hN w f a b ad hb hr hC hM hS h2
  ·by_cases e2:b=m+1
   ·subst e2;exact QE l B g N c hF hN w f a m (by omega) hb hr hC hM hS h1
   ·exact QH l B g N c d hF hN (Ic l B g N c hF hN d) w f a m b hd (by omega) (by omega) hb hr hC hM hS h1 h2
theorem Ig(l:List Int)(B g N c:Nat)(hF:pw l)(hN:N<=400)(w:au)(f:Nat->Nat)(a m b:Nat)(ham:a<m)(ad:m<b)(hb:b<=N)(hr:fX w g N f)(hC:mg w B g l)(hM:∀t,t<N->f t<l.length)(hS:St (fy l) f N)(h1:Rs (fy l) f a m)(h2:Rs (fy l) f m b):
  ax prog 199 #[af (some ⟨g,0,none⟩) N c,ae ak (a:Int),ae ak (m:Int),ae ak (b:Int),.func (.func 182) #[] #[ag (some ⟨B,0,none⟩)]] w fun e w'=>e=aq (.tuple #[])/\aS g w w'/\∃f',fX w' g N f'/\Vd f f' a b/\Rs (fy l) f' a b:=
 Ic l B g N c hF hN (b-a) w f a m b fe ham ad hb hr hC hM hS h1 h2
theorem QI(w:au)(g N c:Nat)(f:Nat->Nat)(hr:fX w g N f)(B:Nat)(l:List Int)(hC:mg w B g l)(hF:pw l)(hM:∀t,t<N->f t<l.length)(hS:St (fy l) f N)(hN:N<=400):
  ax prog 194 #[af (some ⟨g,0,none⟩) N c,ae ak (N:Int),.func (.func 182) #[] #[ag (some ⟨B,0,none⟩)]] w fun e w'=>e=aq (.tuple #[])/\aS g w w'/\∃f',fX w' g N f'/\Vd f f' 0 N/\Rs (fy l) f' 0 N:=by
 have HR:=fa hr;have HC:=fa hC;have HM:=fa hM;have HS:=fa hS;have HF:=fa hF
 clear hr hC hM hS hF
 go_enter func194,ntmps194
 go_wp2
 go_loopw [7,8] (fun va vb wr=>∃(A E:Nat) (h:Nat->Nat),A<=N/\E=A+20/\va=ae ak (A:Int)/\vb=ae ak (E:Int)/\aS g w wr/\fX wr g N h/\Hid (∃k,A=k*20/\Vd f h 0 N/\St (fy l) h N/\∀u,u<k->Rs (fy l) h (u*20) (u*20+20))) (fun va _ _=>N-(aQ va).toNat)
 case atStart=>exact⟨0,20,f,Nat.zero_le _,rfl,rfl,rfl,Below.refl _ _,HR.out,fa ⟨0,rfl,Vd.refl _ _ _,HS.out,fun u hu=>absurd hu (by omega)⟩⟩
 case round=>
  obtain⟨A,E,h,a4,hE,rfl,rfl,aX,al,HI⟩:=hrel;have HB:=fa aX;have ad:=fa al;have HE:=fa hE
  clear aX al;by_cases a2:E<=N
  ·have a1:(E:Int)<=(N:Int):=by omega
   have bg:A<=E:=by omega
   clear hE;go_wp2_with (go_at_call 198;refine(H9 _ g N c h ad.out B l (HC.out.below HB.out) HF.out (by obtain⟨k,q1,q2,q3,q4⟩:=HI.out;exact q2.lt fe HM.out) (by obtain⟨k,q1,q2,q3,q4⟩:=HI.out;exact q3) A E bg a2 hN).mono ?_;rintro e w1 ⟨rfl,aT,f1,aU,aV,aW⟩;have aY:=fa aT;have aZ:=fa aU;have ah:=fa aV;have av:=fa aW;clear aT aU aV aW)
   go_roundw
   case rel=>
    refine⟨E,E+20,f1,a2,rfl,rfl,by go_num,HB.out.trans aY.out,aZ.out,fa ?_⟩;obtain⟨k,q1,q2,q3,q4⟩:=HI.out;have hE:=HE.out;refine⟨k+1,by omega,q2.trans (ah.out.wide (Nat.zero_le _) a2),q3.keep ah.out av.out a2,fun u hu=>?_⟩;by_cases e:u=k
    ·subst e;rw[<-q1,<-hE];exact av.out
    ·exact(q4 u (by omega)).keep ah.out (.inl (by omega))
   case measure=>have:=HE.out;simp[aQ];omega
  ·have a1:¬(E:Int)<=(N:Int):=by omega
   clear hE;go_wp2_with (go_at_call 198;refine(H9 _ g N c h ad.out B l (HC.out.below HB.out) HF.out (by obtain⟨k,q1,q2,q3,q4⟩:=HI.out;exact q2.lt fe HM.out) (by obtain⟨k,q1,q2,q3,q4⟩:=HI.out;exact q3) A N a4 fe hN).mono ?_;rintro e w1 ⟨rfl,aT,f1,aU,aV,aW⟩;have aY:=fa aT;have aZ:=fa aU;have ah:=fa aV;have av:=fa aW;clear aT aU aV aW)
   have HP:Hid (Vd f f1 0 N/\St (fy l) f1 N/\Ch (fy l) f1 20 N):=by
    obtain⟨k,q1,q2,q3,q4⟩:=HI.out;have hE:=HE.out;exact⟨q2.trans (ah.out.wide (Nat.zero_le _) fe),q3.keep ah.out av.out fe,BN q1 (fun u hu=>(q4 u hu).keep ah.out (.inl (by omega))) av.out (by omega)⟩
   have a6:=fa (HB.out.trans aY.out);clear HB ad HI ah av aY HE a1 a2 a4;go_loopw [6,7,8,9] (fun vs _ _ _ wr=>∃(S:Nat) (h:Nat->Nat),0<S/\S<=800/\vs=ae ak (S:Int)/\aS g w wr/\fX wr g N h/\Hid (Vd f h 0 N/\St (fy l) h N/\Ch (fy l) h S N)) (fun vs _ _ _ _=>N-(aQ vs).toNat)
   case atStart=>exact⟨20,f1,by omega,by omega,rfl,a6.out,aZ.out,HP⟩
   case round=>
    clear HP aZ a6;obtain⟨S,h,bn,bq,rfl,aX,al,HI⟩:=hrel;have HB:=fa aX;have ad:=fa al
    clear aX al;by_cases a2:S<N
    ·have a1:(S:Int)<(N:Int):=by omega
     obtain⟨D,hD⟩:=fb (2*S);have eD:2*(S:Int)=(D:Int):=by omega
     have br:(S:Int)*2=(D:Int):=by omega
     have a7:D<=800:=by omega
     have HD:=fa hD;clear hD;go_wp2;go_loopw [7,8] (fun va vb wq=>∃(A E:Nat) (k:Nat->Nat),A<=N/\E<=1600/\va=ae ak (A:Int)/\vb=ae ak (E:Int)/\aS g w wq/\fX wq g N k/\Hid (E=A+D/\∃n,A=n*D/\Vd f k 0 N/\St (fy l) k N/\(∀u,u<n->Rs (fy l) k (u*D) (u*D+D))/\∀u,2*n<=u->Rs (fy l) k (u*S) (min (u*S+S) N))) (fun va _ _=>N-(aQ va).toNat)
     case atStart=>exact⟨0,D,h,Nat.zero_le _,by omega,rfl,rfl,HB.out,ad.out,fa ⟨by omega,0,by simp,HI.out.1,HI.out.2.1,fun u hu=>absurd hu (by omega),fun u _=>HI.out.2.2 u⟩⟩
     case round=>
      clear HI HB ad;obtain⟨A,E,k,a4,bt,rfl,rfl,aX,al,HI⟩:=hrel;have HB:=fa aX;have ad:=fa al
      clear aX al;obtain⟨M,hM⟩:=fb (A+S);have eM:(A:Int)+(S:Int)=(M:Int):=by omega
      have a8:A<M:=by omega
      have a5:=fa hM;have a3:Hid (∀n,A=n*D->∀(q:Nat->Nat),(∀u,2*n<=u->Rs (fy l) q (u*S) (min (u*S+S) N))->Rs (fy l) q A (min M N)/\Rs (fy l) q M (min (M+S) N)):=fun n hn q hq=>by
       have e1:2*n*S=A:=by rw[hn,HD.out,Nat.mul_comm 2 n,Nat.mul_assoc]
       have h1:=hq (2*n) fe;have h2:=hq (2*n+1) (by omega);rw[Nat.add_mul,Nat.one_mul,e1]at h2;rw[e1]at h1;rw[hM];exact⟨h1,h2⟩
      clear hM;by_cases hle:E<=N
      ·have a9:(E:Int)<=(N:Int):=by omega
       have bj:M<E:=by have:=HI.out.1;have:=a5.out;have:=HD.out;omega
       go_wp2_with (go_at_call 199;refine(Ig l B g N c HF.out hN _ k A M E a8 bj hle ad.out (HC.out.below HB.out) (by obtain⟨_,n,q1,q2,q3,q4,q5⟩:=HI.out;exact q2.lt fe HM.out) (by obtain⟨_,n,q1,q2,q3,q4,q5⟩:=HI.out;exact q3)
        (by obtain⟨_,n,q1,q2,q3,q4,q5⟩:=HI.out;exact(a3.out n q1 k q5).1.part fe (by omega)) (by obtain⟨q0,n,q1,q2,q3,q4,q5⟩:=HI.out;exact(a3.out n q1 k q5).2.part fe (by have:=a5.out;have:=HD.out;omega))).mono ?_;rintro e w1 ⟨rfl,aT,f1,aU,aV,aW⟩;have aY:=fa aT;have aZ:=fa aU;have ah:=fa aV;have av:=fa aW;clear aT aU aV aW)
       go_roundw
       case rel=>
        refine⟨E,E+D,f1,hle,by omega,rfl,by go_num,HB.out.trans aY.out,aZ.out,fa ⟨rfl,?_⟩⟩;obtain⟨q0,n,q1,q2,q3,q4,q5⟩:=HI.out;have bu:(n+1)*D=n*D+D:=by rw[Nat.add_mul,Nat.one_mul]
        refine⟨n+1,by omega,q2.trans (ah.out.wide (Nat.zero_le _) hle),q3.keep ah.out av.out hle,fun u hu=>?_,fun u hu=>(q5 u (by omega)).keep ah.out (.inr ?_)⟩
        ·by_cases e:u=n
         ·subst e;rw[<-q1,<-q0];exact av.out
         ·exact(q4 u (by omega)).keep ah.out (.inl (by have:=BL (S:=D) (show u<n by omega);omega))
        ·have h1:(2*(n+1))*S<=u*S:=Nat.mul_le_mul_right _ hu;have h2:(2*(n+1))*S=(n+1)*D:=by rw[HD.out,Nat.mul_comm 2 (n+1),Nat.mul_assoc]
         omega
       case measure=>have:=HI.out.1;simp[aQ];omega
      ·have a9:¬(E:Int)<=(N:Int):=by omega
       by_cases bl:M<N
       ·have bf:(M:Int)<(N:Int):=by omega
        go_wp2_with (go_at_call 199;refine(Ig l B g N c HF.out hN _ k A M N a8 bl fe ad.out (HC.out.below HB.out) (by obtain⟨_,n,q1,q2,q3,q4,q5⟩:=HI.out;exact q2.lt fe HM.out) (by obtain⟨_,n,q1,q2,q3,q4,q5⟩:=HI.out;exact q3)
         (by obtain⟨_,n,q1,q2,q3,q4,q5⟩:=HI.out;exact(a3.out n q1 k q5).1.part fe (by omega)) (by obtain⟨q0,n,q1,q2,q3,q4,q5⟩:=HI.out;exact(a3.out n q1 k q5).2.part fe (by have:=a5.out;have:=HD.out;omega))).mono ?_;rintro e w1 ⟨rfl,aT,f1,aU,aV,aW⟩;have aY:=fa aT;have aZ:=fa aU;have ah:=fa aV;have av:=fa aW;clear aT aU aV aW)
        go_roundw
        case rel=>
         refine⟨D,f1,by have:=HD.out;omega,a7,by go_num,HB.out.trans aY.out,aZ.out,fa ?_⟩;obtain⟨q0,n,q1,q2,q3,q4,q5⟩:=HI.out;exact⟨q2.trans (ah.out.wide (Nat.zero_le _) fe),q3.keep ah.out av.out fe,BN q1 (fun u hu=>(q4 u hu).keep ah.out (.inl (by have:=BL (S:=D) hu;omega))) av.out (by omega)⟩
        case measure=>have:=HD.out;simp[aQ];omega
       ·have bf:¬(M:Int)<(N:Int):=by omega
        go_wp2;go_roundw
        case rel=>
         refine⟨D,k,by have:=HD.out;omega,a7,by go_num,HB.out,ad.out,fa ?_⟩;obtain⟨q0,n,q1,q2,q3,q4,q5⟩:=HI.out;exact⟨q2,q3,BN q1 q4 ((a3.out n q1 k q5).1.part fe (by omega)) (by omega)⟩
        case measure=>have:=HD.out;simp[aQ];omega
    ·have a1:¬(S:Int)<(N:Int):=by omega
     go_wp2;go_end0;exact⟨rfl,HB.out,h,ad.out,HI.out.1,HI.out.2.2.whole (by omega)⟩
theorem QJ(w:au)(g N c:Nat)(f:Nat->Nat)(hr:fX w g N f)(B:Nat)(l:List Int)(hC:mg w B g l)(hF:pw l)(hM:∀t,t<N->f t<l.length)(hS:St (fy l) f N)(hN:N<=400):
  ax prog 181 #[af (some ⟨g,0,none⟩) N c,.func (.func 182) #[] #[ag (some ⟨B,0,none⟩)]] w fun e w'=>e=aq (.tuple #[])/\aS g w w'/\∃f',fX w' g N f'/\Vd f f' 0 N/\Rs (fy l) f' 0 N:=by
 have h:=QI w g N c f hr B l hC hF hM hS hN
 have H:=fa h
 clear h hr hC hF hM hS
 go_enter func181,ntmps181
 go_wp2_with (go_at_call 194;refine H.out.mono ?_;rintro e w1 ⟨rfl,h1⟩;have H1:=fa h1;clear h1)
 go_end0
 exact⟨rfl,H1.out⟩
def Vf(F:Nat->Nat):Nat->List Nat
 |0=>[]
 |k+1=>if 0<F k then Vf F k++[k]else Vf F k
theorem vV(F:Nat->Nat)(x:Nat):∀k,x∈Vf F k↔x<k/\0<F x
 |0=>by simp[Vf]
 |k+1=>by
  simp only[Vf];split
  ·rename_i h;rw[List.mem_append,vV F x k,List.mem_singleton];constructor
   ·rintro(h1|rfl)
    ·exact⟨by omega,h1.2⟩
    ·exact⟨by omega,h⟩
   ·rintro⟨h1,h2⟩;by_cases e:x=k
    ·exact .inr e
    ·exact .inl ⟨by omega,h2⟩
  ·rename_i h;rw[vV F x k];constructor
   ·rintro⟨h1,h2⟩;exact⟨by omega,h2⟩
   ·rintro⟨h1,h2⟩;refine⟨?_,h2⟩;by_cases e:x=k
    ·subst e;exact absurd h2 h
    ·omega
theorem vW(F:Nat->Nat):∀k,(Vf F k).length=nI F k
 |0=>rfl
 |k+1=>by
  simp only[Vf,nI];split
  ·rw[List.length_append,vW F k];rfl
  ·rw[vW F k];rfl
theorem Ih{l:List Nat}{x i:Nat}:(l++[x]).getD i 0=if i<l.length then l.getD i 0 else if i=l.length then x else 0:=by
 rw[List.getD_eq_getElem?_getD,List.getElem?_append];split
 ·rw[List.getD_eq_getElem?_getD]
 ·split
  ·rename_i h;subst h;simp
  ·rename_i h1 h2;have:1<=i-l.length:=by omega
   rw[List.getElem?_eq_none (by simp;omega)];rfl
theorem BP(F:Nat->Nat):∀k,∀i j,i<j->j<(Vf F k).length->(Vf F k).getD i 0<(Vf F k).getD j 0
 |0,i,j,_,h=>absurd h (by simp[Vf])
 |k+1,i,j,ad,hj=>by
  simp only[Vf]at hj⊢;split at hj
  ·rename_i h;rw[if_pos h,Ih,Ih];rw[List.length_append,List.length_singleton]at hj;rw[if_pos (by omega)];by_cases g:j<(Vf F k).length
   ·rw[if_pos g];exact BP F k i j ad g
   ·rw[if_neg g,if_pos (by omega)];have hm:(Vf F k).getD i 0∈Vf F k:=by
     rw[List.getD_eq_getElem?_getD,List.getElem?_eq_getElem (show i<(Vf F k).length by omega)];exact List.getElem_mem _
    exact((vV F _ k).1 hm).1
  ·rename_i h;rw[if_neg h];exact BP F k i j ad hj
theorem QM{F f:Nat->Nat}{M n:Nat}(hn:n=nI F M)(hs:Vd (fun t=>(Vf F M).getD t 0) f 0 n)(hr:Rs F f 0 n):(List.range n).map f=Vc F M:=by
 refine Qw hr fun x=>?_
 rw[<-vV F x M];have hl:=vW F M;constructor
 ·intro hx;obtain⟨i,hi,rfl⟩:=List.getElem_of_mem hx;obtain⟨t,_,h2,h3⟩:=hs.2.2 i (Nat.zero_le _) (by omega);refine⟨t,h2,h3.trans ?_⟩;show(Vf F M).getD i 0=_
  rw[List.getD_eq_getElem?_getD,List.getElem?_eq_getElem hi];rfl
 ·rintro⟨t,ht,rfl⟩;obtain⟨i,_,h2,h3⟩:=hs.2.1 t (Nat.zero_le _) ht;rw[h3];show(Vf F M).getD i 0∈_
  rw[List.getD_eq_getElem?_getD,List.getElem?_eq_getElem (show i<(Vf F M).length by omega)];exact List.getElem_mem _
theorem fX.QN{w:au}{g n:Nat}{f:Nat->Nat}(h:fX w g n f){L:List Nat}(hL:(List.range n).map f=L):iM w w.heap.size (some ⟨g,0,none⟩) (gg L):=by
 subst hL;refine⟨by simp[jj,gg],fun _=>⟨g,0,rfl,h.lt,fun j u hu=>?_⟩⟩;rw[rS]at hu;by_cases hj:j<n
 ·simp[gg,hj]at hu;rw[Nat.zero_add,<-hu];exact h.cell hj
 ·simp[gg,hj]at hu
theorem fX.gD{w:au}{base n c:Nat}{A:Option Addr}{L:List Nat}(h:w.ownsRow base 3 1 (af A n c) n (jj (gg L)))(hn:0<n):∃g,A=some ⟨g,0,none⟩/\base<=g/\fX w g n (fun t=>L.getD t 0):=by
 rcases h.2 with⟨_,h0⟩|⟨g,cap,cur,hv,hg,hh,_,_,_,ht⟩
 ·omega
 ·injection hv with hA _ _
  have hl:(jj (gg L)).length=n*1:=h.1;refine⟨g,hA,hg,cur,hh,fun j hj=>?_⟩;have ad:j<L.length:=by simp[jj,gg]at hl;omega
  have h1:=rS (gg L) j;rw[<-ht,List.getElem?_take]at h1;rw[if_pos (by omega)]at h1;have h2:(gg L)[j]?=some ((L.getD j 0:Nat):Int):=by
   unfold gg;rw[List.getElem?_map,List.getElem?_eq_getElem ad,List.getD_eq_getElem?_getD,List.getElem?_eq_getElem ad];rfl
  rw[h2]at h1;simpa using h1
theorem Ii(w:au)(A:Option Addr)(c:Nat)(fv:Value):
  ax prog 198 #[af A 0 c,ae ak 0,ae ak 0,fv] w fun e w'=>e=aq (.tuple #[])/\w'=w:=by
 go_enter func198,ntmps198
 go_wp2
 go_loopw [8] (fun vi wr=>vi=ae ak 1/\wr=w) (fun _ _=>0)
 case atStart=>exact⟨rfl,rfl⟩
 case round=>
  obtain⟨rfl,rfl⟩:=hrel;go_wp2;go_end0;exact⟨rfl,rfl⟩
theorem QO(w:au)(A:Option Addr)(c:Nat)(fv:Value):
  ax prog 194 #[af A 0 c,ae ak 0,fv] w fun e w'=>e=aq (.tuple #[])/\w'=w:=by
 have hi:=Ii
 go_enter func194,ntmps194
 go_wp2
 go_loopw [7,8] (fun va vb wr=>va=ae ak 0/\vb=ae ak 20/\wr=w) (fun _ _ _=>0)
 case atStart=>exact⟨rfl,rfl,rfl⟩
 case round=>
  obtain⟨rfl,rfl,rfl⟩:=hrel;go_wp2_with (go_at_call 198;refine(Ii _ A c fv).mono ?_;rintro e w1 ⟨rfl,rfl⟩)
  go_loopw [6] (fun va wq=>va=ae ak 20/\wq=w1) (fun _ _=>0)
  case atStart=>exact⟨rfl,rfl⟩
  case round=>
   obtain⟨rfl,rfl⟩:=hrel;go_wp2;go_end0;exact⟨rfl,rfl⟩
theorem QP(w:au)(A:Option Addr)(c:Nat)(fv:Value):
  ax prog 181 #[af A 0 c,fv] w fun e w'=>e=aq (.tuple #[])/\w'=w:=by
 have h:=QO w A c fv
 have H:=fa h
 clear h
 go_enter func181,ntmps181
 go_wp2_with (go_at_call 194;refine H.out.mono ?_;rintro e w1 ⟨rfl,rfl⟩)
 go_end0
 exact⟨rfl,rfl⟩
theorem QQ(w:au)(A:Option Addr)(c:Nat)(l:List Int)(hr:iM w w.heap.size A l)(hF:pw l)(hb:∀j,j<l.length->-9223372036854775808<=l.getD j 0/\l.getD j 0<=9223372036854775807):
  ax prog 167 #[af A l.length c] w fun e w'=>∃A' c',e=aq (af A' (nI (fy l) l.length) c')/\aS w.heap.size w w'/\iM w' w'.heap.size A' (gg (Vc (fy l) l.length)):=by
 have HR:=fa hr
 have bn:=fa hb
 have HF:=fa hF
 have hn:=hF.len
 clear hr hb hF
 obtain⟨n,aW⟩:=fb (l.length)
 rw[<-aW]at hn⊢
 have HN:=fa aW
 obtain⟨F,aX⟩:=fb (fy l)
 rw[<-aX]
 have a1:=fa aX
 obtain⟨m,hm⟩:=fb (nI F n)
 obtain⟨I,hI⟩:=fb (Vc F n)
 rw[<-hm,<-hI]
 have HM:=fa hm
 have HI:=fa hI
 clear hm hI
 obtain⟨u,hu⟩:=fb (w.alloc (.cells #[af A n c] 24))
 have a2:u.heap.size=w.heap.size+1:=by rw[hu];simp
 have aU:u.cell? ⟨w.heap.size,0,none⟩=some (af A n c):=by rw[hu];simp
 have a3:aS w.heap.size w u:=by rw[hu];exact(Below.refl _ w).alloc fe _
 have bq:=fa a3;have br:=fa aU;have bt:=fa a2;have HU:=fa hu
 clear a3 aW aX
 clear aU a2 hu
 go_enter func167,ntmps167
 go_wp2
 rw[<-HU.out]
 go_loopw [3,8] (fun o i wr=>∃(k:Nat) (Ao:Option Addr) (co:Nat),k<=n/\i=ae ak (k:Int)/\o=af Ao (Vf F k).length co/\
  wr.ownsRow (w.heap.size+1) 3 1 (af Ao (Vf F k).length co) (Vf F k).length (jj (gg (Vf F k)))/\aS (w.heap.size+1) u wr) (fun _ i _=>n-(aQ i).toNat)
 case atStart=>exact⟨0,none,0,Nat.zero_le _,rfl,rfl,World.ownsRow_nil u _ _ 1,Below.refl _ _⟩
 case round=>
  obtain⟨k,Ao,co,hk,rfl,rfl,ad,ah⟩:=hrel;have al:aS w.heap.size w wr:=bq.out.trans (ah.mono (Nat.le_succ _));by_cases aY:k<n
  ·have a4:(k:Int)<(n:Int):=by omega
   obtain⟨b,o,rfl,bF,hc⟩:=(HR.out.below al fe).at (k:=k) (by rw[<-HN.out];exact aY);have aZ:=hc k (by rw[<-HN.out];exact aY);obtain⟨x,hx⟩:=fb (l.getD k 0);rw[<-hx]at aZ;have bu:=bn.out k (by rw[<-HN.out];exact aY);rw[<-hx]at bu;have a5:F k=x.toNat:=by rw[a1.out];unfold fy;rw[<-hx]
   have a6:(Vf F k).length<=n:=by rw[vW];exact Nat.le_trans (rR F k) hk
   clear hc hx al;by_cases g:0<x
   ·have HE:=fa (show Vf F (k+1)=Vf F k++[k] by simp only[Vf];rw[if_pos (by omega)]);obtain⟨Aa,ca,wa,r1,o1,b1⟩:=Kl wr (w.heap.size+1) Ao _ co _ ad (k:Int) (by omega) (by have h:=ah.size;rw[bt.out]at h;exact h);have R1:=fa r1;have av:=fa (ah.trans (b1.mono fe))
    have O1:=fa o1;clear ad ah a5 r1 o1 b1;obtain⟨L,hL⟩:=fb (Vf F k);rw[<-hL]at HE R1 O1 a6⊢;clear hL;go_wp2_with (at_builtin;refine wpList_append_run rfl (.tmp 15) (.tmp 17) 24 rfl (af Ao L.length co) (af (some ⟨wr.heap.size,0,none⟩) 1 1) (af Aa (L.length+1) ca) wa rfl rfl R1.out ?_)
    go_roundw
    case rel=>
     have e:(L++[k]).length=L.length+1:=by simp
     have e2:gg (L++[k])=gg L++[(k:Int)]:=by simp[gg]
     refine⟨k+1,Aa,ca,by omega,by go_num,by rw[HE.out,e],?_,av.out⟩;rw[HE.out,e,e2];exact O1.out
    case measure=>simp[aQ];omega
   ·have HE:=fa (show Vf F (k+1)=Vf F k by simp only[Vf];rw[if_neg (by omega)]);have HO:=fa ad;have av:=fa ah
    clear ad ah a5;go_wp2;go_roundw
    case rel=>
     refine⟨k+1,Ao,co,by omega,by go_num,by rw[HE.out],?_,av.out⟩;rw[HE.out];exact HO.out
    case measure=>simp[aQ];omega
  ·obtain rfl:k=n:=by omega
   have a4:¬(k:Int)<(k:Int):=by omega
   have av:=fa ah;have a7:=fa al
   have aT:(Vf F k).length=m:=(vW F k).trans HM.out.symm;by_cases h0:m=0
   ·subst h0;have a8:Vf F k=[]:=List.length_eq_zero_iff.1 aT;have bx:I=[]:=List.length_eq_zero_iff.1 (by rw[HI.out,oy];exact HM.out.symm);subst bx;rw[a8];have hs:=QP wr Ao co (.func (.func 182) #[] #[ag (some ⟨w.heap.size,0,none⟩)]);have HS:=fa hs;clear ad ah al aT a8 hs;simp only[List.length_nil];go_wp2_with (go_at_call 181;refine HS.out.mono ?_;rintro e w1 ⟨rfl,rfl⟩)
    go_ret;exact⟨Ao,co,rfl,a7.out,gR.none_ _ _ _ _⟩
   ·rw[aT]at ad⊢;obtain⟨g,rfl,hg,aV⟩:=fX.gD ad (by omega);have bG:m<=k:=by rw[HM.out];exact rR F k
    have hC:mg wr w.heap.size g l:=⟨by omega,A,c,by rw[ah.cell (p:=⟨w.heap.size,0,none⟩) (Nat.lt_succ_self _),br.out,HN.out],((HR.out.below al fe).more (by omega))⟩;have hs:=QJ wr g m co _ aV w.heap.size l hC HF.out
     (fun t ht=>by
      have a9:(Vf F k).getD t 0∈Vf F k:=by rw[List.getD_eq_getElem?_getD,List.getElem?_eq_getElem (show t<(Vf F k).length by omega)];exact List.getElem_mem _
      have:=((vV F _ k).1 a9).1;rw[<-HN.out];exact this)
     (fun i j bz hj _=>BP F k i j bz (by omega)) (by omega)
    have HS:=fa hs;have bA:=fa hg
    rw[<-a1.out]at HS;clear ad ah al aT hs hC aV hg;go_wp2_with (go_at_call 181;refine HS.out.mono ?_;rintro e w1 ⟨rfl,bf,f',bg,bj,bl⟩;have bB:=fa bf;have bC:=fa bg;have bD:=fa bj;have bE:=fa bl;clear bf bg bj bl)
    go_ret;exact⟨_,co,rfl,a7.out.trans (bB.out.mono (Nat.le_trans (Nat.le_succ _) bA.out)),bC.out.QN ((QM HM.out bD.out bE.out).trans HI.out.symm)⟩
end Go.Proofs.YtgokdgcmkcmjeaaGreat
