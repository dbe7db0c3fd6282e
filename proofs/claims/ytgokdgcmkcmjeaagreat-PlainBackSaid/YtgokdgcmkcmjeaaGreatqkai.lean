/-
  Words and walks.
-/
import Derived.Test.YtgokdgcmkcmjeaaGreatqkaa
import Derived.Test.YtgokdgcmkcmjeaaGreatqkah
set_option maxRecDepth 100000
set_option maxHeartbeats 16000000
namespace Go.Proofs.YtgokdgcmkcmjeaaGreat
open Value renaming int → ae, slice → af, pointer → ag
open IntKind renaming i64 → ak
open Ending renaming returned → aq
open Go renaming World → au, Calls → ax
open Go.RowKit renaming intOf → aQ, Below → aS
open _root_.Go.Proofs.Tryz
open Go.RowKit
theorem BO(w:au)(g N c:Nat)(f:Nat->Nat)(hr:fX w g N f)(a b n:Nat)(aV:a+n<=b)(hb:b+n<=N)(hN:N<=400)(fv:Value):
  ax prog 203 #[af (some ⟨g,0,none⟩) N c,ae ak (a:Int),ae ak (b:Int),ae ak (n:Int),fv] w fun e w'=>e=aq (.tuple #[])/\aS g w w'/\fX w' g N (mf f a b n):=by
 have HR:=fa hr
 clear hr
 go_enter func203,ntmps203
 go_wp2
 go_loopw [10] (fun i wr=>∃k:Nat,k<=n/\i=ae ak (k:Int)/\aS g w wr/\fX wr g N (mf f a b k)) (fun i _=>n-(aQ i).toNat)
 case atStart=>exact⟨0,Nat.zero_le _,rfl,Below.refl _ _,by rw[Qo];exact HR.out⟩
 case round=>
  obtain⟨k,hk,rfl,al,ad⟩:=hrel;by_cases aW:k<n
  ·have aT:(k:Int)<(n:Int):=by omega
   have HB:=fa al;have ah:=fa ad
   obtain⟨p,hp⟩:=fb (a+k);obtain⟨q,hq⟩:=fb (b+k);have aX:p<N:=by omega
   have aU:q<N:=by omega
   have c1:=ad.cell aX;have c2:=ad.cell aU;have f1:=ad.frozen p;have f2:=ad.frozen q;have c3:=ad.two p q aU (mf f a b k q);have e1:(a:Int)+(k:Int)=(p:Int):=by omega
   have e2:(b:Int)+(k:Int)=(q:Int):=by omega
   have av:=ah.out.swap p q;obtain⟨x,hx⟩:=fb (mf f a b k p);obtain⟨y,hy⟩:=fb (mf f a b k q);obtain⟨z,hz⟩:=fb (fK (mf f a b k) p y q);rw[<-hx,<-hy]at av;rw[<-hy,<-hz]at c3;rw[<-hx]at c1;rw[<-hy]at c2;have aY:=fa av;have HP:=fa hp;have HQ:=fa hq
   clear av al ad hx hy hz hp hq;go_wp2_with fail
   go_region;go_wp2;go_roundw
   case rel=>
    refine⟨k+1,by omega,by go_num,((HB.out.setCell (p:=⟨g,p,none⟩) fe _).setCell (p:=⟨g,q,none⟩) fe _).drew,?_⟩;have h:=aY.out.drew;rw[HP.out,HQ.out,Qp f aV aW]at h;rw[HP.out,HQ.out];exact h
   case measure=>simp[aQ];omega
  ·obtain rfl:k=n:=by omega
   have aT:¬(k:Int)<(k:Int):=by omega
   have HB:=fa al;have ah:=fa ad
   clear al ad;go_wp2;go_end0;exact⟨rfl,HB.out,ah.out⟩
theorem QA(w:au)(g N c:Nat)(f:Nat->Nat)(hr:fX w g N f)(a m b:Nat)(ham:a<m)(a4:m<b)(hb:b<=N)(hN:N<=400)(fv:Value):
  ax prog 201 #[af (some ⟨g,0,none⟩) N c,ae ak (a:Int),ae ak (m:Int),ae ak (b:Int),fv] w fun e w'=>e=aq (.tuple #[])/\aS g w w'/\fX w' g N (gx f a m b):=by
 have HR:=fa hr
 clear hr
 go_enter func201,ntmps201
 go_wp2
 go_loopw [10,11] (fun vi vj wr=>∃(i j:Nat) (h:Nat->Nat),0<i/\0<j/\i<=m/\m+j<=N/\vi=ae ak (i:Int)/\vj=ae ak (j:Int)/\aS g w wr/\fX wr g N h/\Hid (gx h (m-i) m (m+j)=gx f a m b)) (fun vi vj _=>(aQ vi).toNat+(aQ vj).toNat)
 case atStart=>exact⟨m-a,b-m,f,by omega,by omega,by omega,by omega,lX (by omega),lX (by omega),Below.refl _ _,HR.out,fa (by rw[show m-(m-a)=a by omega,show m+(b-m)=b by omega])⟩
 case round=>
  obtain⟨i,j,h,aX,aY,aV,a2,rfl,rfl,aZ,aW,HE⟩:=hrel;have HB:=fa aZ;have al:=fa aW
  obtain⟨p,hp⟩:=fb (m-i);have e1:(m:Int)-(i:Int)=(p:Int):=by omega
  clear aZ aW;rcases Nat.lt_trichotomy i j with av|av|av
  ·have a1:((i:Int)==(j:Int))=false:=by simp;omega
   have a3:¬(j:Int)<(i:Int):=by omega
   obtain⟨q,hq⟩:=fb (m+j-i);have e2:(m:Int)+(j:Int)-(i:Int)=(q:Int):=by omega
   have HP:=fa hp;have HQ:=fa hq
   clear hp hq;go_wp2_with (go_at_call 203;refine(BO _ g N c h al.out p q i (by have:=HP.out;have:=HQ.out;omega) (by have:=HQ.out;omega) hN fv).mono ?_;rintro e w1 ⟨rfl,ah,ad⟩;have aT:=fa ah;have aU:=fa ad;clear ah ad)
   go_roundw
   case rel=>
    refine⟨i,j-i,_,aX,by omega,aV,by omega,rfl,lX (by omega),HB.out.trans aT.out,aU.out,fa ?_⟩;rw[HP.out,HQ.out,Qs h av aV aX];exact HE.out
   case measure=>simp[aQ];omega
  ·subst av;have a1:((i:Int)==(i:Int))=true:=by simp
   have HP:=fa hp;clear hp;go_wp2_with (go_at_call 203;refine(BO _ g N c h al.out p m i (by have:=HP.out;omega) (by omega) hN fv).mono ?_;rintro e w1 ⟨rfl,ah,ad⟩;have aT:=fa ah;have aU:=fa ad;clear ah ad)
   go_end0;refine⟨rfl,HB.out.trans aT.out,?_⟩;have ad:=aU.out;rw[HP.out,Qt h aV,HE.out]at ad;exact ad
  ·have a1:((i:Int)==(j:Int))=false:=by simp;omega
   have a3:(j:Int)<(i:Int):=by omega
   have HP:=fa hp;clear hp;go_wp2_with (go_at_call 203;refine(BO _ g N c h al.out p m j (by have:=HP.out;omega) (by omega) hN fv).mono ?_;rintro e w1 ⟨rfl,ah,ad⟩;have aT:=fa ah;have aU:=fa ad;clear ah ad)
   go_roundw
   case rel=>
    refine⟨i-j,j,_,by omega,aY,by omega,a2,lX (by omega),rfl,HB.out.trans aT.out,aU.out,fa ?_⟩;rw[HP.out,Qr h av aV aY];exact HE.out
   case measure=>simp[aQ];omega
structure pw (l:List Int):Prop where
 len:l.length<=400
 pos:∀j,j<l.length->0<=l.getD j 0
theorem pw.cmp{l:List Int}(h:pw l){x y:Nat}(hx:x<l.length)(hy:y<l.length):oK (l.getD x 0) (l.getD y 0)<0↔fy l x<fy l y:=by
 rw[Qx];have h1:=h.pos x hx;have h2:=h.pos y hy;unfold fy;omega
theorem mg.drewN{w:au}{B b:Nat}{l:List Int}(h:mg w B b l)(q:Nat):mg (w.drewN q) B b l:=h
theorem px(g:Nat)(w:au)(q:Nat):aS g w (w.drewN q):=by
 induction q with
 |zero=>exact Below.refl g w
 |succ q ih=>exact ih.drew
theorem ym(w:au)(B b:Nat)(l:List Int)(h:mg w B b l)(hl:l.length<=400)(x y:Nat)(hx:x<l.length)(hy:y<l.length)(q:Nat):
  ax prog 182 #[ae ak (x:Int),ae ak (y:Int),ag (some ⟨B,0,none⟩)] (w.drewN q) fun e w'=>e=aq (ae ak (oK (l.getD x 0) (l.getD y 0)))/\∃m,w'=(w.drewN q).drewN m:=
 Qz _ B b l (h.drewN q) hl x y hx hy
theorem H9(w:au)(g N c:Nat)(f:Nat->Nat)(hr:fX w g N f)(B:Nat)(l:List Int)(hC:mg w B g l)(hF:pw l)(hM:∀t,t<N->f t<l.length)(hS:St (fy l) f N)(a b:Nat)(bn:a<=b)(hb:b<=N)(hN:N<=400):
  ax prog 198 #[af (some ⟨g,0,none⟩) N c,ae ak (a:Int),ae ak (b:Int),.func (.func 182) #[] #[ag (some ⟨B,0,none⟩)]] w fun e w'=>e=aq (.tuple #[])/\aS g w w'/\∃f',fX w' g N f'/\Vd f f' a b/\Rs (fy l) f' a b:=by
 have HR:=fa hr;have HC:=fa hC;have HM:=fa hM;have HS:=fa hS;have HF:=fa hF
 clear hr hC hM hS hF
 go_enter func198,ntmps198
 go_wp2
 go_loopw [8] (fun vi wr=>∃(i:Nat) (h:Nat->Nat),a+1<=i/\(i<=b\/i=a+1)/\vi=ae ak (i:Int)/\aS g w wr/\fX wr g N h/\Hid (Vd f h a b/\St (fy l) h N/\Rs (fy l) h a (min i b))) (fun vi _=>N+1-(aQ vi).toNat)
 case atStart=>exact⟨a+1,f,by omega,by omega,lX (by omega),Below.refl _ _,HR.out,fa ⟨Vd.refl _ _ _,HS.out,Rs.one (by omega)⟩⟩
 case round=>
  obtain⟨i,h,bq,br,rfl,ah,ad,HI⟩:=hrel;by_cases aX:i<b
  ·have a4:(i:Int)<(b:Int):=by omega
   have HB:=fa ah;have al:=fa ad
   clear ah ad;go_wp2;go_loopw [9] (fun vj wq=>∃(j:Nat) (k:Nat->Nat),a<=j/\j<=i/\vj=ae ak (j:Int)/\aS g w wq/\fX wq g N k/\Hid (Vd f k a b/\St (fy l) k N/\qB (fy l) k a i j)) (fun vj _=>(aQ vj).toNat)
   case atStart=>exact⟨i,h,by omega,Nat.le_refl _,rfl,HB.out,al.out,fa ⟨HI.out.1,HI.out.2.1,qB.start (by have:=HI.out.2.2;rwa[show min i b=i by omega]at this)⟩⟩
   case round=>
    obtain⟨j,k,a1,a5,rfl,ah,ad,HK⟩:=hrel;by_cases bt:a<j
    ·have a6:decide ((a:Int)<(j:Int))=true:=by simp;omega
     have a2:(a:Int)<(j:Int):=by omega
     obtain⟨p,hp⟩:=fb (j-1);have e1:(j:Int)-1=(p:Int):=by omega
     have aW:p<N:=by omega
     have aY:j<N:=by omega
     have aV:=HK.out.1.lt hb HM.out;have av:=fa (ym wr B g l (HC.out.below ah) HF.out.len (k j) (k p) (aV j aY) (aV p aW));have aT:=HF.out.cmp (aV j aY) (aV p aW);have c1:=ad.cell aY;have c2:=ad.cell aW;have HB:=fa ah;have al:=fa ad
     obtain⟨r,hr⟩:=fb (oK (l.getD (k j) 0) (l.getD (k p) 0));rw[<-hr]at av aT;have aU:=ad.drew.swap j p;by_cases aZ:r<0
     ·have hd:decide (r<0)=true:=by simp;omega
      have a9:=fa (aT.1 aZ);have HP:=fa hp;clear ah ad hr aT aV hp aU;obtain⟨x,hx⟩:=fb (k j);obtain⟨y,hy⟩:=fb (k p);rw[<-hx]at c1 av;rw[<-hy]at c2 av;have HX:=fa hx;have HY:=fa hy
      clear hx hy;go_wp2_with fail
      go_quiet ((go_at_call 182;exact Calls.quiet_of (av.out _)))
      go_wp2_with fail
      obtain⟨wq,a7⟩:=fb (wr.drewN nq);have ad:=al.out.drewN nq;have ah:aS g w (wr.drewN nq):=(HB.out.trans (Below.refl g wr)).trans (px g wr nq);rw[<-a7]at ad ah⊢;have c1:=ad.cell aY;have c2:=ad.cell aW;have f1:=ad.frozen j;have f2:=ad.frozen p;have aU:=ad.swap j p;have c3:=ad.two j p aW (k p);rw[<-HX.out]at c1 aU;rw[<-HY.out]at c2 c3 aU;obtain⟨z,hz⟩:=fb (fK k j y p);rw[<-hz]at c3;have bf:=fa ah;have bg:=fa aU
      clear ad ah aU hz a7 av al HB;go_region;go_wp2;go_roundw
      case rel=>
       have bj:=HK.out.2.1;have a8:=HK.out.2.2;have a3:p+1=j:=by have:=HP.out;omega
       have aX:=a9.out;rw[<-a3]at a8 aX;refine⟨p,sw k j p,by omega,by omega,rfl,((bf.out.setCell (p:=⟨g,j,none⟩) fe _).setCell (p:=⟨g,p,none⟩) fe _).drew,bg.out.drew,fa ⟨HK.out.1.trans (Qn ⟨a1,by omega⟩ ⟨by omega,by omega⟩),?_,?_⟩⟩
       ·rw[<-a3];exact bj.sw (by omega) aX
       ·rw[<-a3];exact a8.step (by omega) (by omega) aX
      case measure=>simp[aQ];omega
     ·have hd:decide (r<0)=false:=by simp;omega
      have bl:=fa (fun q=>aZ (aT.2 q));have HP:=fa hp;clear ah ad hr aT aV hp aU;obtain⟨x,hx⟩:=fb (k j);obtain⟨y,hy⟩:=fb (k p);rw[<-hx]at c1 av;rw[<-hy]at c2 av;clear hx hy;go_wp2_with fail
      go_quiet ((go_at_call 182;exact Calls.quiet_of (av.out _)))
      go_wp2_with fail
      go_roundw
      case rel=>
       refine⟨i+1,k,by omega,by omega,by go_num,HB.out.trans (px g wr nq),al.out.drewN nq,fa ⟨HK.out.1,HK.out.2.1,?_⟩⟩;rw[show min (i+1) b=i+1 by omega];exact HK.out.2.2.stop HK.out.2.1 a1 a5 (by omega) (.inr (by have h:=bl.out;rw[HP.out]at h;exact h))
      case measure=>simp[aQ];omega
    ·have a6:decide ((a:Int)<(j:Int))=false:=by simp;omega
     have a2:¬(a:Int)<(j:Int):=by omega
     have HB:=fa ah;have al:=fa ad
     clear ah ad;go_wp2_with fail
     go_quiet (fail)
     go_wp2_with fail
     go_roundw
     case rel=>
      refine⟨i+1,k,by omega,by omega,by go_num,HB.out.trans (px g wr _),al.out.drewN _,fa ⟨HK.out.1,HK.out.2.1,?_⟩⟩;rw[show min (i+1) b=i+1 by omega];exact HK.out.2.2.stop HK.out.2.1 a1 a5 (by omega) (.inl (by omega))
     case measure=>simp[aQ];omega
  ·have a4:¬(i:Int)<(b:Int):=by omega
   have HB:=fa ah;have al:=fa ad
   clear ah ad;go_wp2;go_end0;refine⟨rfl,HB.out,h,al.out,HI.out.1,?_⟩;have:=HI.out.2.2;by_cases e:i=b
   ·rwa[show min i b=b by omega]at this
   ·exact Rs.one (by omega)
def Ib(l:List Int)(B g N c d:Nat):Prop:=∀(w:au) (f:Nat->Nat) (a m b:Nat),b-a<=d->a<m->m<b->b<=N->fX w g N f->mg w B g l->(∀t,t<N->f t<l.length)->St (fy l) f N->Rs (fy l) f a m->Rs (fy l) f m b->
 ax prog 199 #[af (some ⟨g,0,none⟩) N c,ae ak (a:Int),ae ak (m:Int),ae ak (b:Int),.func (.func 182) #[] #[ag (some ⟨B,0,none⟩)]] w fun e w'=>e=aq (.tuple #[])/\aS g w w'/\∃f',fX w' g N f'/\Vd f f' a b/\Rs (fy l) f' a b
theorem QB(f:Nat->Nat){a k:Nat}(h:a<=k):sw (gx f a (a+1) (k+1)) k (k+1)=gx f a (a+1) (k+1+1):=by
 funext t;unfold sw gx src;repeat' split
 all_goals first|rfl|(exfalso;omega)|(congr 1;omega)
theorem QC(f:Nat->Nat){k m:Nat}(h:k+1<=m):sw (gx f (k+1) m (m+1)) (k+1) k=gx f k m (m+1):=by
 funext t;unfold sw gx src;repeat' split
 all_goals first|rfl|(exfalso;omega)|(congr 1;omega)
theorem QD(l:List Int)(B g N c:Nat)(hF:pw l)(hN:N<=400)(w:au)(f:Nat->Nat)(a b:Nat)(br:a+1<b)(hb:b<=N)(hr:fX w g N f)(hC:mg w B g l)(hM:∀t,t<N->f t<l.length)(hS:St (fy l) f N)(h2:Rs (fy l) f (a+1) b):
  ax prog 199 #[af (some ⟨g,0,none⟩) N c,ae ak (a:Int),ae ak ((a+1:Nat):Int),ae ak (b:Int),.func (.func 182) #[] #[ag (some ⟨B,0,none⟩)]] w fun e w'=>e=aq (.tuple #[])/\aS g w w'/\∃f',fX w' g N f'/\Vd f f' a b/\Rs (fy l) f' a b:=by
 obtain⟨m,hm⟩:=fb (a+1)
 rw[<-hm]
 have bn:((m:Int)-(a:Int)==1)=true:=by simp;omega
 have HR:=fa hr;have HC:=fa hC;have HM:=fa hM;have HS:=fa hS;have HF:=fa hF;have H2:=fa h2;have a3:=fa hm
 have bt:m<b:=by omega
 have aX:a<N:=by omega
 clear hr hC hM hS hF h2
 clear hm
 go_enter func199,ntmps199
 go_wp2
 go_loopw [10,11] (fun vi vj wr=>∃(i j:Nat),m<=i/\i<=j/\j<=b/\vi=ae ak (i:Int)/\vj=ae ak (j:Int)/\aS g w wr/\fX wr g N f/\Hid ((i=m\/fy l (f (i-1))<fy l (f a))/\(j=b\/¬fy l (f j)<fy l (f a)))) (fun vi vj _=>(aQ vj).toNat-(aQ vi).toNat)
 case atStart=>exact⟨m,b,Nat.le_refl _,by omega,Nat.le_refl _,rfl,rfl,Below.refl _ _,HR.out,fa ⟨.inl rfl,.inl rfl⟩⟩
 case round=>
  obtain⟨i,j,a7,bu,a4,rfl,rfl,ah,ad,HI⟩:=hrel;by_cases bx:i<j
  ·have a5:(i:Int)<(j:Int):=by omega
   obtain⟨h,hh⟩:=fb ((i+j)/2);have eh:((i:Int)+(j:Int))/2=(h:Int):=by omega
   have a8:i<=h:=by omega
   have bz:h<j:=by omega
   have aY:h<N:=by omega
   have aT:=fa (ym wr B g l (HC.out.below ah) HF.out.len (f h) (f a) (HM.out h aY) (HM.out a aX));have al:=HF.out.cmp (HM.out h aY) (HM.out a aX);have c1:=ad.cell aY;have c2:=ad.cell aX;have HB:=fa ah;have av:=fa ad
   obtain⟨r,hr⟩:=fb (oK (l.getD (f h) 0) (l.getD (f a) 0));rw[<-hr]at aT al;obtain⟨x,hx⟩:=fb (f h);obtain⟨y,hy⟩:=fb (f a);rw[<-hx]at c1 aT;rw[<-hy]at c2 aT;by_cases aV:r<0
   ·have hd:decide (r<0)=true:=by simp;omega
    have a9:=fa (al.1 aV);clear ah ad hr al hh hx hy;go_wp2_with fail
    go_quiet ((go_at_call 182;exact Calls.quiet_of (aT.out _)))
    go_wp2_with fail
    go_roundw
    case rel=>exact⟨h+1,j,by omega,by omega,a4,by go_num,rfl,HB.out.trans (px g wr nq),av.out.drewN nq,fa ⟨.inr (by rw[Nat.add_sub_cancel];exact a9.out),HI.out.2⟩⟩
    case measure=>simp[aQ];omega
   ·have hd:decide (r<0)=false:=by simp;omega
    have bf:=fa (fun q=>aV (al.2 q));clear ah ad hr al hh hx hy;go_wp2_with fail
    go_quiet ((go_at_call 182;exact Calls.quiet_of (aT.out _)))
    go_wp2_with fail
    go_roundw
    case rel=>exact⟨i,h,a7,a8,by omega,rfl,rfl,HB.out.trans (px g wr nq),av.out.drewN nq,fa ⟨HI.out.1,.inr bf.out⟩⟩
    case measure=>simp[aQ];omega
  ·obtain rfl:i=j:=by omega
   have a5:¬(i:Int)<(i:Int):=by omega
   have HB:=fa ah;have av:=fa ad
   clear ah ad;go_wp2;go_loopw [13] (fun vk wq=>∃k:Nat,a<=k/\k+1<=i/\vk=ae ak (k:Int)/\aS g w wq/\fX wq g N (gx f a (a+1) (k+1))) (fun vk _=>i-(aQ vk).toNat)
   case atStart=>exact⟨a,Nat.le_refl _,by have:=a3.out;omega,rfl,HB.out,by rw[BE f (by omega) fe (.inr rfl)];exact av.out⟩
   case round=>
    obtain⟨k,bg,bA,rfl,ah,ad⟩:=hrel;by_cases bq:k+1<i
    ·have aZ:(k:Int)<(i:Int)-1:=by omega
     obtain⟨p,hp⟩:=fb (k+1);have e1:(k:Int)+1=(p:Int):=by omega
     have bj:k<N:=by omega
     have a6:p<N:=by omega
     have c1:=ad.cell bj;have c2:=ad.cell a6;have f1:=ad.frozen k;have f2:=ad.frozen p;have aU:=ad.swap k p;obtain⟨x,hx⟩:=fb (gx f a (a+1) (k+1) k);obtain⟨y,hy⟩:=fb (gx f a (a+1) (k+1) p);have c3:=ad.two k p a6 y;obtain⟨z,hz⟩:=fb (fK (gx f a (a+1) (k+1)) k y p);rw[<-hz]at c3;rw[<-hx]at c1 aU;rw[<-hy]at c2 aU;have a1:=fa ah;have bl:=fa aU;have HP:=fa hp
     clear ah ad aU hz hx hy hp;go_wp2_with fail
     go_region;go_wp2;go_roundw
     case rel=>
      have h:=bl.out.drew;rw[HP.out,QB f bg]at h;exact⟨k+1,by omega,by omega,by have:=HP.out;go_num,by
       rw[HP.out];exact((a1.out.setCell (p:=⟨g,k,none⟩) fe _).setCell (p:=⟨g,k+1,none⟩) fe _).drew,by rw[HP.out];exact h⟩
     case measure=>have:=HP.out;simp[aQ];omega
    ·have aZ:¬(k:Int)<(i:Int)-1:=by omega
     have a1:=fa ah;have a2:=fa ad
     clear ah ad;go_wp2;refine bodyPost_ret (results_none rfl _ _ _) rfl ?_;have hk:k+1=i:=by omega
     have hm:=a3.out;have aW:=Qu HS.out hb H2.out (i:=i) (by omega) a4 (by have h:=HI.out.1;rw[hm]at h;exact h) HI.out.2;exact⟨rfl,a1.out,_,by have h:=a2.out;rw[hk]at h;exact h,aW.2,aW.1⟩
theorem QE(l:List Int)(B g N c:Nat)(hF:pw l)(hN:N<=400)(w:au)(f:Nat->Nat)(a m:Nat)(ham:a+1<m)(hb:m+1<=N)(hr:fX w g N f)(hC:mg w B g l)(hM:∀t,t<N->f t<l.length)(hS:St (fy l) f N)(h1:Rs (fy l) f a m):
  ax prog 199 #[af (some ⟨g,0,none⟩) N c,ae ak (a:Int),ae ak (m:Int),ae ak ((m+1:Nat):Int),.func (.func 182) #[] #[ag (some ⟨B,0,none⟩)]] w fun e w'=>e=aq (.tuple #[])/\aS g w w'/\∃f',fX w' g N f'/\Vd f f' a (m+1)/\Rs (fy l) f' a (m+1):=by
 obtain⟨b,hm⟩:=fb (m+1)
 rw[<-hm]
 have bn:((m:Int)-(a:Int)==1)=false:=by simp;omega
 have bt:b<=N:=by omega
 have bq:((b:Int)-(m:Int)==1)=true:=by simp;omega
 have HR:=fa hr;have HC:=fa hC;have HM:=fa hM;have HS:=fa hS;have HF:=fa hF;have H1:=fa h1;have a8:=fa hm
 have aX:m<N:=by omega
 have bu:m<b:=by omega
 clear hr hC hM hS hF h1
 clear hm
 go_enter func199,ntmps199
 go_wp2
 go_loopw [14,15] (fun vi vj wr=>∃(i j:Nat),a<=i/\i<=j/\j<=m/\vi=ae ak (i:Int)/\vj=ae ak (j:Int)/\aS g w wr/\fX wr g N f/\Hid ((i=a\/¬fy l (f m)<fy l (f (i-1)))/\(j=m\/fy l (f m)<fy l (f j)))) (fun vi vj _=>(aQ vj).toNat-(aQ vi).toNat)
 case atStart=>exact⟨a,m,Nat.le_refl _,by omega,Nat.le_refl _,rfl,rfl,Below.refl _ _,HR.out,fa ⟨.inl rfl,.inl rfl⟩⟩
 case round=>
  obtain⟨i,j,a4,bx,aY,rfl,rfl,ah,ad,HI⟩:=hrel;by_cases bz:i<j
  ·have a5:(i:Int)<(j:Int):=by omega
   obtain⟨h,hh⟩:=fb ((i+j)/2);have eh:((i:Int)+(j:Int))/2=(h:Int):=by omega
   have a9:i<=h:=by omega
   have bA:h<j:=by omega
   have aZ:h<N:=by omega
   have aT:=fa (ym wr B g l (HC.out.below ah) HF.out.len (f m) (f h) (HM.out m aX) (HM.out h aZ));have al:=HF.out.cmp (HM.out m aX) (HM.out h aZ);have c1:=ad.cell aZ;have c2:=ad.cell aX;have HB:=fa ah;have av:=fa ad
   obtain⟨r,hr⟩:=fb (oK (l.getD (f m) 0) (l.getD (f h) 0));rw[<-hr]at aT al;obtain⟨x,hx⟩:=fb (f h);obtain⟨y,hy⟩:=fb (f m);rw[<-hx]at c1 aT;rw[<-hy]at c2 aT;by_cases aV:r<0
   ·have hd:decide (r<0)=true:=by simp;omega
    have bf:=fa (al.1 aV);clear ah ad hr al hh hx hy;go_wp2_with fail
    go_quiet ((go_at_call 182;exact Calls.quiet_of (aT.out _)))
    go_wp2_with fail
    go_roundw
    case rel=>exact⟨i,h,a4,a9,by omega,rfl,rfl,HB.out.trans (px g wr nq),av.out.drewN nq,fa ⟨HI.out.1,.inr bf.out⟩⟩
    case measure=>simp[aQ];omega
   ·have hd:decide (r<0)=false:=by simp;omega
    have bg:=fa (fun q=>aV (al.2 q));clear ah ad hr al hh hx hy;go_wp2_with fail
    go_quiet ((go_at_call 182;exact Calls.quiet_of (aT.out _)))
    go_wp2_with fail
    go_roundw
    case rel=>exact⟨h+1,j,by omega,by omega,aY,by go_num,rfl,HB.out.trans (px g wr nq),av.out.drewN nq,fa ⟨.inr (by rw[Nat.add_sub_cancel];exact bg.out),HI.out.2⟩⟩
    case measure=>simp[aQ];omega
  ·obtain rfl:i=j:=by omega
   have a5:¬(i:Int)<(i:Int):=by omega
   have HB:=fa ah;have av:=fa ad
   clear ah ad;go_wp2;go_loopw [17] (fun vk wq=>∃k:Nat,i<=k/\k<=m/\vk=ae ak (k:Int)/\aS g w wq/\fX wq g N (gx f k m (m+1))) (fun vk _=>(aQ vk).toNat)
   case atStart=>exact⟨m,aY,Nat.le_refl _,rfl,HB.out,by rw[BE f fe (by omega) (.inl rfl)];exact av.out⟩
   case round=>
    obtain⟨k,bB,bC,rfl,ah,ad⟩:=hrel;by_cases br:i<k
    ·have a1:(i:Int)<(k:Int):=by omega
     obtain⟨p,hp⟩:=fb (k-1);have e1:(k:Int)-1=(p:Int):=by omega
     have bj:k<N:=by omega
     have a6:p<N:=by omega
     have c1:=ad.cell bj;have c2:=ad.cell a6;have f1:=ad.frozen k;have f2:=ad.frozen p;have aU:=ad.swap k p;obtain⟨x,hx⟩:=fb (gx f k m (m+1) k);obtain⟨y,hy⟩:=fb (gx f k m (m+1) p);have c3:=ad.two k p a6 y;obtain⟨z,hz⟩:=fb (fK (gx f k m (m+1)) k y p);rw[<-hz]at c3;rw[<-hx]at c1 aU;rw[<-hy]at c2 aU;have a2:=fa ah;have bl:=fa aU;have HP:=fa hp
     clear ah ad aU hz hx hy hp;go_wp2_with fail
     go_region;go_wp2;go_roundw
     case rel=>
      have h:=bl.out.drew;have a7:k=p+1:=by have:=HP.out;omega
      rw[a7,QC f (by omega)]at h;exact⟨p,by omega,by omega,rfl,((a2.out.setCell (p:=⟨g,k,none⟩) fe _).setCell (p:=⟨g,p,none⟩) fe _).drew,by rw[a7];exact h⟩
     case measure=>have:=HP.out;simp[aQ];omega
    ·have a1:¬(i:Int)<(k:Int):=by omega
     have a2:=fa ah;have a3:=fa ad
     clear ah ad;go_wp2;refine bodyPost_ret (results_none rfl _ _ _) rfl ?_;obtain rfl:k=i:=by omega
     have hm:=a8.out;subst hm;have aW:=Qv HS.out hb H1.out (i:=k) a4 aY HI.out.1 HI.out.2;exact⟨rfl,a2.out,_,a3.out,aW.2,aW.1⟩
end Go.Proofs.YtgokdgcmkcmjeaaGreat
