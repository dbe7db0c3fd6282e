/-
  Words and walks.
-/
import Derived.WalkMore
import Derived.Test.YtokpcpjnihinfaaGreatqeaa
import Derived.Test.YtokpcpjnihinfaaGreatqeab
import Derived.Test.YtokpcpjnihinfaaGreatqeac
import Derived.Test.YtokpcpjnihinfaaGreatqead
import Derived.Test.YtokpcpjnihinfaaGreatqeaf
import Derived.Test.YtokpcpjnihinfaaGreatqeah
set_option maxRecDepth 100000
set_option maxHeartbeats 16000000
namespace Go.Proofs.YtokpcpjnihinfaaGreat
open Value renaming int → ae, slice → af, pointer → ag, agg → ah
open IntKind renaming i64 → aj
open Obj renaming cells → ak
open Ending renaming returned → ao
open Go renaming World → aq, Addr → au, Calls → aw, Value → ax, TypeId → aB, wpList_store_rowTo → aC, wpList_buildTo → aD, wpList_load_row → aE, wpList_load_mid → aF, heap_alloc_new → aG, cell_of_row → aH, setRow_heap → aI, madeCells → aJ, bodyPost_ret → aK, heap_setCell_same → aN, frozen_of_row → aO
open Go.RowKit renaming intOf → aP, Hid → aQ, Below → aR
open _root_.Go.Proofs.Tryz
open Go.RowKit
def qf(n m:Nat)(w p:Nat->Nat)(z y:Nat->Int)(t:Nat):Int:=
 if jI n m w p (Ps n m w p t) (t-Ps n m w p t)=true then z (Ps n m w p t)else y (t-Ps n m w p t)
def P8:ax->Nat
 |af _ n _=>n
 |_=>0
theorem j6.next{w:aq}{lo B m c:Nat}{A:Option au}{W:Nat->Nat}{Z:Nat->Int}(h:j6 w lo B A (m+1) W Z)(hc:m+1<=c):
  ∃b o,A=some ⟨b,o,none⟩/\lo<=b/\b<B/\w.cell? ⟨b,o,none⟩=some (ae aj (W 0:Int))/\w.cell? ⟨b,o+1,none⟩=some (ae aj (Z 0))/\
   j6 w lo B (if c=1 then some ⟨b,o,none⟩else some ⟨b,o+2,none⟩) m (fun t=>W (t+1)) (fun t=>Z (t+1)):=by
 obtain⟨b,o,h1,h2,h3,h4⟩:=h (by omega)
 have e0:=h4 0 (by omega)
 have e1:=h4 1 (by omega)
 have p0:=tX W Z 0
 have p1:=vW W Z 0
 rw[Nat.zero_mul]at p0 p1
 rw[p0]at e0
 rw[show(1:Nat)=0+1 by rfl,p1]at e1
 refine⟨b,o,h1,h2,h3,e0,e1,fun hm=>?_⟩
 rw[if_neg (by omega)]
 refine⟨b,o+2,rfl,h2,h3,fun j hj=>?_⟩
 rw[show o+2+j=o+(j+2) by omega,h4 (j+2) (by omega)]
 congr 2
 unfold mL
 rw[show(j+2)%2=j%2 by omega,show(j+2)/2=j/2+1 by omega]
theorem MI(m:Nat)(W:Nat->Nat)(Z:Nat->Int):kQ m W Z++[ae aj (W m:Int),ae aj (Z m)]=kQ (m+1) W Z:=by
 unfold kQ;rw[show(m+1)*2=m*2+1+1 by omega,List.range_succ,List.range_succ];simp only[List.map_append,List.map_cons,List.map_nil,List.append_assoc,List.cons_append,List.nil_append];rw[tX,vW]
theorem EA(m k:Nat)(W W2:Nat->Nat)(Z Z2:Nat->Int)(V:Nat->Nat)(Y:Nat->Int)(h1:∀t,t<m->V t=W t/\Y t=Z t)(h2:∀t,t<k->V (m+t)=W2 t/\Y (m+t)=Z2 t):kQ m W Z++kQ k W2 Z2=kQ (m+k) V Y:=by
 apply List.ext_getElem?;intro j;rw[List.getElem?_append,Eu,tY,tY,tY];by_cases hj:j<m*2
 ·rw[if_pos hj,if_pos hj,if_pos (by omega),Es h1 j hj]
 ·rw[if_neg hj];by_cases hk:j-m*2<k*2
  ·rw[if_pos hk,if_pos (by omega)];have h:=h2 ((j-m*2)/2) (by omega);congr 2;unfold mL;rw[show j%2=(j-m*2)%2 by omega,show j/2=m+(j-m*2)/2 by omega,h.1,h.2]
  ·rw[if_neg hk,if_neg (by omega)]
def nG(w:aq)(base:Nat)(A:Option au)(c m:Nat)(W:Nat->Nat)(Z:Nat->Int):Prop:=w.ownsRow base 255 2 (af A m c) m (kQ m W Z)
theorem nG.rd{w:aq}{base c m:Nat}{A:Option au}{W:Nat->Nat}{Z:Nat->Int}(h:nG w base A c m W Z):j6 w base w.heap.size A m W Z:=fun hm=>by
 have hs:=gX.gR h;obtain⟨b,o,e,hb,hc⟩:=hs.2 hm;refine⟨b,o,e,oZ h b (by rw[e];rfl),hb,fun j hj=>hc j _ ?_⟩;rw[tY,if_pos hj]
theorem nG.cap{w:aq}{base c m:Nat}{A:Option au}{W:Nat->Nat}{Z:Nat->Int}(h:nG w base A c m W Z):m<=c/\(A=none->c=0):=by
 rcases h.2 with⟨hv,h0⟩|⟨g,cap,cur,hv,_,_,h1,h2,_⟩
 ·injection hv with h3 h4 h5
  exact⟨by omega,fun _=>h5⟩
 ·injection hv with h3 h4 h5
  exact⟨by omega,fun h=>by rw[h]at h3;cases h3⟩
theorem EB(w:aq)(base:Nat)(A:Option au)(c m:Nat)(W:Nat->Nat)(Z:Nat->Int)(h:nG w base A c m W Z)(x z:Int)(hx:x=(W m:Int))(hz:z=Z m)(hm:m<=2000)(ad:base<=w.heap.size):
  ∃A' c' w',(Builtin.append_ #[233,233] 233 #[af A m c,af (some ⟨w.heap.size,0,none⟩) 1 1]).run prog (w.alloc (ak #[ae aj x,ae aj z] 255))=.ok (af A' (m+1) c') w'/\
   nG w' base A' c' (m+1) W Z/\aR base w w':=by
 subst hx;subst hz
 have al:aR base w (w.alloc (ak #[ae aj (W m:Int),ae aj (Z m)] 255)):=(Below.refl base w).alloc ad _
 obtain⟨A',c',w',h2,o2,b2⟩:=oP (z:=ah #[ae aj 0,ae aj 0]) (kl:=16) underlying233 tZ rfl (by decide) (w.alloc (ak #[ae aj (W m:Int),ae aj (Z m)] 255)) base _ (af A m c) m _ (World.ownsRow.alloc h _) _ 1 1 _
  (gX.new w 2 1 #[ae aj (W m:Int),ae aj (Z m)] 255 rfl) (fun u hu=>by simp at hu;rcases hu with rfl|rfl<;>rfl) (by unfold maxLen;omega) (by omega) 233 (fun h=>by cases h) (Nat.le_trans ad al.size)
 refine⟨A',c',w',h2,?_,al.trans b2⟩
 have e:kQ m W Z++(#[Value.int aj (W m:Int),ae aj (Z m)]:Array ax).toList=kQ (m+1) W Z:=MI m W Z
 rw[e]at o2
 exact o2
theorem MJ(n:Nat)(h:n<=2000):∀u:aq,(Instr.makeSlice 233 (ae aj 0) (ae aj (n:Int))).run prog u=
   .ok (af (some ⟨u.heap.size,0,none⟩) 0 n) (u.alloc (ak (aJ #[ae aj 0,ae aj 0] (n*2)) 255)):=fun u=>by
 obtain⟨i0,hi,ad,al,av⟩:=info_parts tZ
 have h:=run_make (P:=prog) u 233 255 i0 _ underlying233 hi ad aj aj 0 (n:Int) (by omega) (by omega) (by rw[av];omega) (by omega)
 rw[Int.toNat_natCast]at h
 rw[al]at h
 exact h
theorem MK(w:aq)(n:Nat)(hn:n<=2000)(W:Nat->Nat)(Z:Nat->Int):nG (w.alloc (ak (aJ #[ae aj 0,ae aj 0] (n*2)) 255)) w.heap.size (some ⟨w.heap.size,0,none⟩) n 0 W Z:=
 ⟨by simp[kQ],.inr ⟨w.heap.size,n,_,rfl,Nat.le_refl _,aG w _,Nat.zero_le _,by unfold maxLen;omega,by rw[size_madeCells],by simp[kQ]⟩⟩
section
variable {n m:Nat} {w p:Nat->Nat}
theorem EC{y:Nat}:∀t,Ps n m w p (n+y)=n->y+t<=m->Ps n m w p (n+y+t)=n
 |0,h,_=>h
 |t+1,h,ht=>by
  have ih:=EC t h (by omega);show(if jI n m w p (Ps n m w p (n+y+t)) (n+y+t-Ps n m w p (n+y+t))=true then Ps n m w p (n+y+t)+1 else Ps n m w p (n+y+t))=n
  rw[ih,if_neg];unfold jI;simp only[decide_eq_true_eq];omega
theorem ED{x:Nat}:∀t,Ps n m w p (x+m)=x->x+t<=n->Ps n m w p (x+m+t)=x+t
 |0,h,_=>h
 |t+1,h,ht=>by
  have ih:=ED t h (by omega);show(if jI n m w p (Ps n m w p (x+m+t)) (x+m+t-Ps n m w p (x+m+t))=true then Ps n m w p (x+m+t)+1 else Ps n m w p (x+m+t))=x+(t+1)
  rw[ih,if_pos]
  ·omega
  ·unfold jI;simp only[decide_eq_true_eq];omega
theorem ML{z y:Nat->Int}{k t:Nat}(h:Ps n m w p (n+k)=n)(ht:k+t<m):mA n m w p (n+k+t)=p (k+t)/\qf n m w p z y (n+k+t)=y (k+t):=by
 have h1:=EC (y:=k) t h (by omega);unfold mA qf;rw[h1,if_neg,if_neg,show n+k+t-n=k+t by omega]
 ·exact⟨rfl,rfl⟩
 ·unfold jI;simp only[decide_eq_true_eq];omega
 ·unfold jI;simp only[decide_eq_true_eq];omega
theorem MN{z y:Nat->Int}{x t:Nat}(h:Ps n m w p (x+m)=x)(ht:x+t<n):mA n m w p (x+m+t)=w (x+t)/\qf n m w p z y (x+m+t)=z (x+t):=by
 have h1:=ED (x:=x) t h (by omega);unfold mA qf;rw[h1,if_pos,if_pos]
 ·exact⟨rfl,rfl⟩
 ·unfold jI;simp only[decide_eq_true_eq];omega
 ·unfold jI;simp only[decide_eq_true_eq];omega
end
theorem MO(w:aq)(lo:Nat)(A:Option au)(c n:Nat)(W:Nat->Nat)(Z:Nat->Int)(hr:j6 w lo w.heap.size A n W Z)(hc:n<=c)(hA:A=none->c=0)(A2:Option au)(c2 m:Nat)(P:Nat->Nat)(Y:Nat->Int)(a6:j6 w lo w.heap.size A2 m P Y)(bL:m<=c2)(hA2:A2=none->c2=0)(bn:n+m<=2000):
  aw prog 172 #[af A n c,af A2 m c2] w fun e w'=>∃A' c',e=ao (af A' (n+m) c')/\aR w.heap.size w w'/\(n+m)<=c'/\(A'=none->c'=0)/\j6 w' w.heap.size w'.heap.size A' (n+m) (mA n m W P) (qf n m W P Z Y):=by
 obtain⟨V,hV⟩:∃V:Nat->Nat,V=mA n m W P:=⟨_,rfl⟩
 obtain⟨U,hU⟩:∃U:Nat->Int,U=qf n m W P Z Y:=⟨_,rfl⟩
 rw[<-hV,<-hU]
 have HR:=fX hr;have bM:=fX a6;have HV:=fX hV;have a8:=fX hU
 have bN:=fX hA;have bO:=fX hA2
 have bq:=MJ (n+m) bn
 have br:∀u:aq,(Instr.makeSlice 233 (ae aj 0) (ae aj ((n:Int)+(m:Int)))).run prog u=.ok (af (some ⟨u.heap.size,0,none⟩) 0 (n+m)) (u.alloc (ak (aJ #[ae aj 0,ae aj 0] ((n+m)*2)) 255)):=fun u=>by
  have h:=bq u;rw[Int.natCast_add]at h;exact h
 have aT:=MK w (n+m) bn V U
 have a9:aR w.heap.size w (w.alloc (ak (aJ #[ae aj 0,ae aj 0] ((n+m)*2)) 255)):=(Below.refl _ w).alloc fZ _
 obtain⟨u,hu⟩:=fY (w.alloc (ak (aJ #[ae aj 0,ae aj 0] ((n+m)*2)) 255))
 rw[<-hu]at aT a9
 have HU:=fX hu;have bd:=fX a9;have bf:=fX aT
 clear hr a6 hV hU hu aT a9 bq hA hA2
 go_enter func172,ntmps172
 go_wp2
 go_step3
 go_wp2
 rw[<-HU.out]
 clear br
 go_step3
 go_wp2
 go_loopw [0,1,5] (fun vi vp vr wr=>∃(x y r s:Nat) (Ai Ap Ao:Option au) (ci cp co:Nat),n=x+r/\m=y+s/\vi=af Ai r ci/\vp=af Ap s cp/\vr=af Ao (x+y) co/\r<=ci/\s<=cp/\aQ (Ai=none->ci=0)/\aQ (Ap=none->cp=0)/\
   aQ (j6 wr lo w.heap.size Ai r (fun t=>W (x+t)) (fun t=>Z (x+t)))/\aQ (j6 wr lo w.heap.size Ap s (fun t=>P (y+t)) (fun t=>Y (y+t)))/\aQ (nG wr w.heap.size Ao co (x+y) V U)/\aQ (Ps n m W P (x+y)=x)/\aQ (aR w.heap.size w wr)) (fun vi vp _ _=>P8 vi+P8 vp)
 case atStart=>exact⟨0,0,n,m,A,A2,_,c,c2,_,by omega,by omega,rfl,rfl,rfl,hc,bL,bN,bO,fX ((HR.out.below bd.out fZ).ext (fun t _=>by rw[Nat.zero_add];exact⟨rfl,rfl⟩)),fX ((bM.out.below bd.out fZ).ext (fun t _=>by rw[Nat.zero_add];exact⟨rfl,rfl⟩)),bf,fX rfl,bd⟩
 case round=>
  obtain⟨x,y,r,s,Ai,Ap,Ao,ci,cp,co,hn,hm,rfl,rfl,rfl,bP,bQ,bt,bu,HI,HP,HO,aX,HB⟩:=hrel;have a7:=HB.out.size;by_cases bg:r=0
  ·subst bg;have bx:n=x:=by omega
   obtain⟨A',c',w',r1,o1,b1⟩:=oP (z:=ah #[ae aj 0,ae aj 0]) (kl:=16) underlying233 tZ rfl (by decide) wr w.heap.size w.heap.size (af Ao (x+y) co) (x+y) _ HO.out Ap s cp _ HP.out.src (Et _ _ _) (by unfold maxLen;omega) (by omega) 233 bu.out a7;have e1:kQ (x+y) V U++kQ s (fun t=>P (y+t)) (fun t=>Y (y+t))=kQ (x+y+s) V U:=by
    refine EA _ _ _ _ _ _ _ _ (fun _ _=>⟨rfl,rfl⟩) (fun t ht=>?_);rw[HV.out,a8.out];subst bx;exact ML aX.out (by omega)
   rw[e1]at o1;have av:x+y+s=n+m:=by omega
   rw[av]at r1 o1;have R1:=fX r1;have O1:=fX o1;have B1:=fX (HB.out.trans (b1.mono fZ))
   clear r1 o1 b1 e1;obtain⟨xy,al⟩:=fY (x+y);rw[<-al]at R1⊢;have aS:=nG.cap O1.out;have aY:=fX aS;clear al hn hm bx av aS;go_wp2_with (at_builtin;refine wpList_append_run rfl (.tmp 24) (.tmp 25) 233 rfl (af Ao xy co) (af Ap s cp) (af A' (n+m) c') w' rfl rfl R1.out ?_)
   rw[Exit.noGoto_ret];go_ret;exact⟨A',c',rfl,B1.out,aY.out.1,aY.out.2,nG.rd O1.out⟩
  ·obtain⟨r1,bj⟩:∃r1,r=r1+1:=⟨r-1,by omega⟩;by_cases bz:s=0
   ·subst bz;have bA:m=y:=by omega
    have bB:((r:Int)==0)=false:=by simp;omega
    obtain⟨A',c',w',bk,o1,b1⟩:=oP (z:=ah #[ae aj 0,ae aj 0]) (kl:=16) underlying233 tZ rfl (by decide) wr w.heap.size w.heap.size (af Ao (x+y) co) (x+y) _ HO.out Ai r ci _ HI.out.src (Et _ _ _) (by unfold maxLen;omega) (by omega) 233 bt.out a7;have e1:kQ (x+y) V U++kQ r (fun t=>W (x+t)) (fun t=>Z (x+t))=kQ (x+y+r) V U:=by
     refine EA _ _ _ _ _ _ _ _ (fun _ _=>⟨rfl,rfl⟩) (fun t ht=>?_);rw[HV.out,a8.out];subst bA;exact MN aX.out (by omega)
    rw[e1]at o1;have av:x+y+r=n+m:=by omega
    rw[av]at bk o1;have R1:=fX bk;have O1:=fX o1;have B1:=fX (HB.out.trans (b1.mono fZ))
    have aS:=nG.cap O1.out;have aY:=fX aS;clear bk o1 b1 e1;obtain⟨xy,al⟩:=fY (x+y);rw[<-al]at R1⊢;have a6:1<=r:=by omega
    clear al hn hm bA av aS bj bg;go_wp2_with (at_builtin;refine wpList_append_run rfl (.tmp 31) (.tmp 32) 233 rfl (af Ao xy co) (af Ai r ci) (af A' (n+m) c') w' rfl rfl R1.out ?_)
    rw[Exit.noGoto_ret];go_ret;exact⟨A',c',rfl,B1.out,aY.out.1,aY.out.2,nG.rd O1.out⟩
   ·obtain⟨s1,bC⟩:∃s1,s=s1+1:=⟨s-1,by omega⟩;have hI:=HI.out;have hP:=HP.out;rw[bj]at hI;rw[bC]at hP;obtain⟨bi,oi,rfl,bX,bY,aZ,a1,bD⟩:=hI.next (by omega:r1+1<=ci);obtain⟨bp,op,rfl,bZ,b0,a2,a3,bE⟩:=hP.next (by omega:s1+1<=cp);have bB:((r:Int)==0)=false:=by simp;omega
    have bV:((s:Int)==0)=false:=by simp;omega
    have a6:1<=r:=by omega
    have b2:1<=s:=by omega
    have b3:(1:Int)<=(r:Int):=by omega
    have b4:(1:Int)<=(s:Int):=by omega
    have b5:0<r:=by omega
    have b6:0<s:=by omega
    have er:r-1=r1:=by omega
    have es:s-1=s1:=by omega
    have aU:Ps n m W P (x+y+1)=if jI n m W P x y=true then x+1 else x:=by
     show(if jI n m W P (Ps n m W P (x+y)) (x+y-Ps n m W P (x+y))=true then Ps n m W P (x+y)+1 else Ps n m W P (x+y))=_
     rw[aX.out,show x+y-x=y by omega]
    have hv:V (x+y)=if jI n m W P x y=true then W x else P y:=by
     rw[HV.out];unfold mA;rw[aX.out,show x+y-x=y by omega]
    have hz:U (x+y)=if jI n m W P x y=true then Z x else Y y:=by
     rw[a8.out];unfold qf;rw[aX.out,show x+y-x=y by omega]
    have aV:jI n m W P x y=true↔W x<=P y:=by unfold jI;simp only[decide_eq_true_eq];omega
    have e0:W (x+0)=W x:=rfl;have e1:P (y+0)=P y:=rfl;have e2:Z (x+0)=Z x:=rfl;have e3:Y (y+0)=Y y:=rfl;rw[e0]at aZ;rw[e1]at a2;rw[e2]at a1;rw[e3]at a3;obtain⟨a,ha⟩:=fY (W x);obtain⟨b,hb⟩:=fY (P y);obtain⟨za,bF⟩:=fY (Z x);obtain⟨zb,bG⟩:=fY (Y y);rw[<-ha]at aZ hv aV;rw[<-hb]at a2 hv aV;rw[<-bF]at a1 hz;rw[<-bG]at a3 hz;have bR:=fX bD;have bS:=fX bE
    have bH:=fX hn;have bI:=fX hm
    obtain⟨xy,al⟩:=fY (x+y);have bW:xy<=2000:=by omega
    rw[<-al]at aU hv hz HO⊢;have aW:=fX al;clear hI hP bD bE ha hb bF bG al hn hm bj bC bg bz e0 e1 e2 e3;have bT:=fX er;have bU:=fX es
    by_cases bJ:a<=b
    ·have bK:(a:Int)<=(b:Int):=by omega
     rw[if_pos (aV.2 bJ)]at aU hv hz;have a4:=fX aU;clear aV aU;go_wp2_with fail
     go_quiet (fail)
     obtain⟨wq,ad⟩:=fY (wr.drewN nq);have bl:aQ (nG wq w.heap.size Ao co xy V U):=by rw[ad];exact HO
     have bm:aQ (aR w.heap.size wr wq):=by rw[ad];exact fX (oV _ _ _)
     have a5:w.heap.size<=wq.heap.size:=by rw[ad];exact a7
     have d0:wq.cell? ⟨bi,oi,none⟩=some (ae aj (a:Int)):=by rw[ad];exact aZ
     have d1:wq.cell? ⟨bi,oi+1,none⟩=some (ae aj za):=by rw[ad];exact a1
     obtain⟨A',c',w',q1,q2,q3⟩:=EB wq.drew w.heap.size Ao co xy V U bl.out (a:Int) za (by rw[hv]) hz.symm (by omega) a5;rw[<-ad];have R1:=fX q1;have O1:=fX q2;have B1:=fX (bm.out.drew.trans q3)
     clear q1 q2 q3 hv hz ad aZ a1 a2 a3;go_wp2_with fail
     go_region_law ((refine sh rfl (.tmp 44) (.tmp 48) 233 233 rfl (af Ao xy co) (af (some ⟨wq.heap.size,0,none⟩) 1 1) rfl rfl (af A' (xy+1) c') w' R1.out ?_))
     all_goals go_wp2
     all_goals(
      go_roundw
      case measure=>simp[P8];omega
      refine⟨_,_,_,?_,rfl,rfl,rfl⟩;refine⟨x+1,y,r1,by have:=bH.out;have:=bT.out;omega,s,bI.out,_,_,A',_,rfl,_,rfl,c',by rw[aW.out,show x+y+1=x+1+y by omega],by omega,bQ,fX (fun h=>by first|(cases h;done)|(split at h<;>cases h)),bu,?_,?_,?_,?_,fX (HB.out.trans B1.out)⟩
      ·have hq:=bR.out;first|rw[if_pos (by assumption)]at hq|rw[if_neg (by assumption)]at hq|skip
       exact fX ((hq.below B1.out fZ).ext (fun t _=>by
        show W (x+(t+1))=W (x+1+t)/\Z (x+(t+1))=Z (x+1+t)
        rw[show x+(t+1)=x+1+t by omega];exact⟨rfl,rfl⟩))
      ·exact fX (HP.out.below B1.out fZ)
      ·have h:=O1.out;rw[aW.out,show x+y+1=x+1+y by omega]at h;exact fX h
      ·have h:=a4.out;rw[aW.out,show x+y+1=x+1+y by omega]at h;exact fX h)
    ·have bK:¬(a:Int)<=(b:Int):=by omega
     rw[if_neg (fun h=>bJ (aV.1 h))]at aU hv hz;have a4:=fX aU;clear aV aU;go_wp2_with fail
     go_quiet (fail)
     obtain⟨wq,ad⟩:=fY (wr.drewN nq);have bl:aQ (nG wq w.heap.size Ao co xy V U):=by rw[ad];exact HO
     have bm:aQ (aR w.heap.size wr wq):=by rw[ad];exact fX (oV _ _ _)
     have a5:w.heap.size<=wq.heap.size:=by rw[ad];exact a7
     have d0:wq.cell? ⟨bp,op,none⟩=some (ae aj (b:Int)):=by rw[ad];exact a2
     have d1:wq.cell? ⟨bp,op+1,none⟩=some (ae aj zb):=by rw[ad];exact a3
     obtain⟨A',c',w',q1,q2,q3⟩:=EB wq.drew w.heap.size Ao co xy V U bl.out (b:Int) zb (by rw[hv]) hz.symm (by omega) a5;rw[<-ad];have R1:=fX q1;have O1:=fX q2;have B1:=fX (bm.out.drew.trans q3)
     clear q1 q2 q3 hv hz ad aZ a1 a2 a3;go_wp2_with fail
     go_region_law ((refine sh rfl (.tmp 12) (.tmp 16) 233 233 rfl (af Ao xy co) (af (some ⟨wq.heap.size,0,none⟩) 1 1) rfl rfl (af A' (xy+1) c') w' R1.out ?_))
     all_goals go_wp2
     all_goals(
      go_roundw
      case measure=>simp[P8];omega
      refine⟨_,_,_,?_,rfl,rfl,rfl⟩;refine⟨x,y+1,r,bH.out,s1,by have:=bI.out;have:=bU.out;omega,_,_,A',_,rfl,_,rfl,c',by rw[aW.out,show x+y+1=x+(y+1) by omega],bP,by omega,bt,fX (fun h=>by first|(cases h;done)|(split at h<;>cases h)),?_,?_,?_,?_,fX (HB.out.trans B1.out)⟩
      ·exact fX (HI.out.below B1.out fZ)
      ·have hq:=bS.out;first|rw[if_pos (by assumption)]at hq|rw[if_neg (by assumption)]at hq|skip
       exact fX ((hq.below B1.out fZ).ext (fun t _=>by
        show P (y+(t+1))=P (y+1+t)/\Y (y+(t+1))=Y (y+1+t)
        rw[show y+(t+1)=y+1+t by omega];exact⟨rfl,rfl⟩))
      ·have h:=O1.out;rw[aW.out,show x+y+1=x+(y+1) by omega]at h;exact fX h
      ·have h:=a4.out;rw[aW.out,show x+y+1=x+(y+1) by omega]at h;exact fX h)
def zK(n:Nat)(W:Nat->Nat)(Z:Nat->Int):Nat->Nat->Int
 |0=>Z
 |K+1=>qf n (gH n K/2) W (iw (hH n W K)) Z (fun _=> -1)
def rY(w:aq)(lo B:Nat)(ex:Option Nat)(A:Option au)(m:Nat)(W:Nat->Nat)(Z:Nat->Int):Prop:=
 ∃b o,A=some ⟨b,o,none⟩/\lo<=b/\b<B/\some b≠ex/\∀j,j<m*2->w.cell? ⟨b,o+j,none⟩=some (ae aj (mL W Z j))
theorem rY.rd{w:aq}{lo B m:Nat}{ex:Option Nat}{A:Option au}{W:Nat->Nat}{Z:Nat->Int}(h:rY w lo B ex A m W Z):j6 w lo B A m W Z:=fun _=>by
 obtain⟨b,o,h1,h2,h3,_,h5⟩:=h;exact⟨b,o,h1,h2,h3,h5⟩
def oW(w:aq)(base lo:Nat)(A:Option au)(c k n:Nat)(W:Nat->Nat)(Z:Nat->Int):Prop:=
 ∃xs,w.ownsRow base 233 1 (af A k c) k xs/\∀K,K<k->∃AK cK,xs[K]?=some (af AK (gH n K) cK)/\gH n K<=cK/\rY w lo w.heap.size (Value.slice A k c).ownBlock AK (gH n K) (hH n W K) (zK n W Z K)
def ze(w:aq)(lo B:Nat)(A:Option au)(k n:Nat)(W:Nat->Nat)(Z:Nat->Int):Prop:=
 ∃b o,A=some ⟨b,o,none⟩/\lo<=b/\b<B/\∀K,K<k->∃AK cK,w.cell? ⟨b,o+K,none⟩=some (af AK (gH n K) cK)/\gH n K<=cK/\j6 w lo B AK (gH n K) (hH n W K) (zK n W Z K)
theorem oW.rd{w:aq}{base lo c k n:Nat}{A:Option au}{W:Nat->Nat}{Z:Nat->Int}(h:oW w base lo A c k n W Z)(hk:0<k)(hb:lo<=base):ze w lo w.heap.size A k n W Z:=by
 obtain⟨xs,h1,h2⟩:=h;have hs:=gX.gR h1;obtain⟨b,o,e,ad,hc⟩:=hs.2 hk;refine⟨b,o,e,Nat.le_trans hb (oZ h1 b (by rw[e];rfl)),ad,fun K hK=>?_⟩;obtain⟨AK,cK,q1,q2,q3⟩:=h2 K hK;exact⟨AK,cK,hc K _ q1,q2,q3.rd⟩
theorem oW.after{w w':aq}{base lo c k n:Nat}{A:Option au}{W:Nat->Nat}{Z:Nat->Int}(h:oW w base lo A c k n W Z)(hb:aR w.heap.size w w'):oW w' base lo A c k n W Z:=by
 obtain⟨xs,h1,h2⟩:=h;have hg:w.grownBy w' none:=⟨hb.os,hb.tape,hb.output,hb.size,fun k hk _=>hb.block k hk⟩;refine⟨xs,h1.kept hg (by cases (Value.slice A k c).ownBlock<;>simp),fun K hK=>?_⟩;obtain⟨AK,cK,q1,q2,b,o,q3,q4,q5,q6,q7⟩:=h2 K hK;have hs:=hb.size;exact⟨AK,cK,q1,q2,b,o,q3,q4,by omega,q6,fun j hj=>by rw[hb.cell (p:=⟨b,o+j,none⟩) q5];exact q7 j hj⟩
theorem MP:(prog.info? 233).map (fun i=>(i.zero,i.size,i.bytes))=some (some (af none 0 0),1,24):=by kernel_rfl
theorem MQ(w:aq)(base lo:Nat)(A:Option au)(c k n:Nat)(W:Nat->Nat)(Z:Nat->Int)(h:oW w base lo A c k n W Z)(AK:Option au)(cK:Nat)(aW:gH n k<=cK)(hr:rY w lo w.heap.size (Value.slice A k c).ownBlock AK (gH n k) (hH n W k) (zK n W Z k))(m:Nat)(hm:m=gH n k)(hk:k<=1000)(aT:base<=w.heap.size):
  ∃A' c' w',(Builtin.append_ #[231,231] 231 #[af A k c,af (some ⟨w.heap.size,0,none⟩) 1 1]).run prog (w.alloc (ak #[af AK m cK] 233))=.ok (af A' (k+1) c') w'/\
   oW w' base lo A' c' (k+1) n W Z/\aR base w w':=by
 subst hm
 obtain⟨xs,h1,h2⟩:=h
 obtain⟨U,hU⟩:=fY (w.alloc (ak #[af AK (gH n k) cK] 233))
 have aX:U.heap.size=w.heap.size+1:=by rw[hU];simp
 have aU:aR w.heap.size w U:=by rw[hU];exact gC.alloc fZ _
 have av:U.ownsRow base 233 1 (af A k c) k xs:=by rw[hU];exact h1.alloc _
 have aS:=gX.new w 1 1 #[af AK (gH n k) cK] 233 rfl
 rw[<-hU]at aS
 obtain⟨i0,hi,aY,aZ,a1⟩:=info_parts MP
 have al:∀j u,([Value.slice AK (gH n k) cK]:List ax)[j]?=some u->U.cell? ((⟨w.heap.size,0,none⟩:au).add j)=some u:=by
  intro j u hu;obtain⟨b2,o2,e,_,a2⟩:=aS.2 (by omega);injection e with e
  injection e with e1 e2 e3
  subst e1;subst e2;have e:(⟨w.heap.size,0,none⟩:au).add j=⟨w.heap.size,0+j,none⟩:=by unfold Addr.add;split<;>simp_all
  rw[e];exact a2 j u hu
 obtain⟨v',w',r1,r2,r3,_,r5⟩:=run_append_own_at (P:=prog) U base 231 231 233 i0 _ 1 24 underlying231 hi aY aZ a1 rfl (by decide) (af A k c) k xs av ⟨w.heap.size,0,none⟩ 1 1 _ rfl al
  (fun u hu=>by simp at hu;subst hu;rfl) (by unfold maxLen;omega) (by omega) (by omega)
 have hv:∃A' c',v'=af A' (k+1) c':=by
  rcases r2.2 with⟨_,h⟩|⟨g,cap,cur,rfl,_⟩
  ·omega
  ·exact⟨_,_,rfl⟩
 obtain⟨A',c',rfl⟩:=hv
 have a3:∀d,d<w.heap.size->some d≠(Value.slice A k c).ownBlock->w'.heap[d]?=w.heap[d]?/\some d≠(Value.slice A' (k+1) c').ownBlock:=by
  intro d hd aV;refine⟨(r3.block d (by omega) aV).trans (aU.block d hd),fun e=>?_⟩;rcases r5 with r5|r5
  ·exact aV (e.trans r5)
  ·rw[<-e,aX]at r5;injection r5 with r5;omega
 have a4:w.heap.size<=w'.heap.size:=by have:=r3.size;omega
 have hl:xs.length=k:=by have:=h1.1;omega
 have ad:∀(B:Option au) (V:Nat->Nat) (Y:Nat->Int) (q:Nat),rY w lo w.heap.size (Value.slice A k c).ownBlock B q V Y->rY w' lo w'.heap.size (Value.slice A' (k+1) c').ownBlock B q V Y:=fun B V Y q ⟨b,o,q3,q4,q5,q6,q7⟩=>by
  obtain⟨p1,p2⟩:=a3 b q5 q6;exact⟨b,o,q3,q4,by omega,p2,fun j hj=>by rw[World.cell?_of_block (a:=⟨b,o+j,none⟩) p1];exact q7 j hj⟩
 refine⟨A',c',w',(by rw[<-hU];exact r1),⟨xs++[af AK (gH n k) cK],r2,fun K hK=>?_⟩,((aU.mono aT).grown r3 (by omega) (oZ av))⟩
 by_cases e:K=k
 ·subst e;exact⟨AK,cK,by rw[List.getElem?_append_right (by omega),hl];simp,aW,ad _ _ _ _ hr⟩
 ·obtain⟨B,d,q1,q2,q3⟩:=h2 K (by omega);exact⟨B,d,by rw[List.getElem?_append_left (by omega)];exact q1,q2,ad _ _ _ _ q3⟩
theorem MR{w:aq}{lo ad g:Nat}{ex:Option Nat}{A:Option au}{n m k p:Nat}{W V:Nat->Nat}{Z:Nat->Int}(h:j6 w ad w.heap.size A (n+m/2) (mA n (m/2) W (iw V)) (qf n (m/2) W (iw V) Z (fun _=> -1)))(hm:m=gH n p)(hV:V=hH n W p)(hk:k=p+1)
  (hn:0<n) (al:lo<=ad) (hg:g<ad) (hex:ex=some g):rY w lo w.heap.size ex A (gH n k) (hH n W k) (zK n W Z k):=by
 subst hk;subst hV;subst hm;subst hex
 obtain⟨b,o,h1,h2,h3,h4⟩:=h (by omega)
 exact⟨b,o,h1,by omega,h3,by simp;omega,h4⟩
theorem MS(w:aq)(lo:Nat)(A:Option au)(c n:Nat)(W:Nat->Nat)(Z:Nat->Int)(hr:j6 w lo w.heap.size A n W Z)(aZ:lo<=w.heap.size)(hc:n<=c)(hA:A=none->c=0)(L:Nat)(bg:1<=L)(bD:L<=15)(bj:2<=n)(bk:n<=400)(hW:∀i,i<n->W i<=1073741824):
  aw prog 155 #[af A n c,ae aj (L:Int)] w fun e w'=>∃A' c',e=ao (af A' L c')/\aR w.heap.size w w'/\ze w' lo w'.heap.size A' L n W Z:=by
 have HR:=fX hr;have HA:=fX hA;have HW:=fX hW
 have ad:oW (w.alloc (ak #[af A n c] 233)) w.heap.size lo (some ⟨w.heap.size,0,none⟩) 1 1 n W Z:=by
  refine⟨[af A n c],⟨rfl,.inr ⟨w.heap.size,1,_,rfl,Nat.le_refl _,aG w _,Nat.le_refl _,by unfold maxLen;omega,rfl,rfl⟩⟩,fun K hK=>?_⟩;obtain rfl:K=0:=by omega
  obtain⟨b,o,h1,h2,h3,h4⟩:=hr (by omega);exact⟨A,c,rfl,hc,b,o,h1,h2,by simp;omega,by simp[Value.ownBlock];omega,fun j hj=>by rw[((Below.refl w.heap.size w).alloc fZ _).cell (p:=⟨b,o+j,none⟩) h3];exact h4 j hj⟩
 have aS:aR w.heap.size w (w.alloc (ak #[af A n c] 233)):=(Below.refl _ w).alloc fZ _
 obtain⟨u,hu⟩:=fY (w.alloc (ak #[af A n c] 233))
 rw[<-hu]at ad aS
 have HU:=fX hu;have bl:=fX aS;have bm:=fX ad
 clear hr hA hW hu ad aS
 go_enter func155,ntmps155
 go_wp2
 rw[<-HU.out]
 go_loopw [5] (fun vl wr=>∃(k:Nat) (Al:Option au) (cl:Nat),1<=k/\k<=L/\vl=af Al k cl/\aQ (oW wr w.heap.size lo Al cl k n W Z)/\aQ (aR w.heap.size w wr)) (fun vl _=>L-P8 vl)
 case atStart=>exact⟨1,_,1,Nat.le_refl _,bg,rfl,bm,bl⟩
 case round=>
  obtain⟨k,Al,cl,bE,bF,rfl,HO,HB⟩:=hrel;have av:=HB.out.size;by_cases bG:k<L
  ·have a1:(k:Int)<(L:Int):=by omega
   obtain⟨p,hp⟩:=fY (k-1);have ep:(k:Int)-1=(p:Int):=by omega
   have bn:p<k:=by omega
   have bp:=oW.rd HO.out (by omega) aZ;obtain⟨b,o,rfl,bH,bI,a2⟩:=bp;obtain⟨AK,cK,c1,bq,aT⟩:=a2 p bn;have a3:=ta bj bk p;have aU:∀j,j<gH n p->hH n W p j<=70368744177664:=fun j hj=>by
    have h1:=um HW.out p j hj;have h2:2^p*1073741824<=2^15*1073741824:=Nat.mul_le_mul_right _ (Nat.pow_le_pow_right (by decide) (by omega));omega
   obtain⟨m,hm⟩:=fY (gH n p);rw[<-hm]at c1 bq aT a3 aU;have a4:=fX aT;have a5:=fX aU;have HM:=fX hm;have HP:=fX hp
   obtain⟨V,hV⟩:=fY (hH n W p);obtain⟨Y,hY⟩:=fY (zK n W Z p);rw[<-hV,<-hY]at a4;rw[<-hV]at a5;have HV:=fX hV;have br:m<=1000:=by omega
   have aV:k=p+1:=by omega
   have a6:gH n k=n+m/2:=by rw[aV,hm];rfl
   have a7:=fX a6;have HK:=fX aV
   clear a2 aT aU hm hp hV hY aV a6;go_wp2_with (first
    |(go_at_call 173;refine(MH _ lo AK cK m V Y a4.out br a5.out).mono ?_;rintro e w1 ⟨Ap,cp,rfl,aW,bt,a8,a9⟩;have aX:=fX aW;have bu:=fX a9;have bx:=fX a8;have al:=aW.size;clear aW a9 a8)
    |(go_at_call 172;refine(MO _ lo A c n W Z ((HR.out.below (HB.out.trans (aX.out.mono av)) fZ).more fZ (Nat.le_trans av al)) hc HA.out Ap cp (m/2) _ _ (bu.out.more (by omega) fZ) bt bx.out (by omega)).mono ?_;rintro e w2 ⟨Am,cm,rfl,aY,bz,bA,bd⟩;have bf:=fX aY;have bB:=fX bd;have bC:=aY.size;clear aY bd bA;obtain⟨A',c',w',q1,q2,q3⟩:=MQ w2 w.heap.size lo _ cl k n W Z (HO.out.after (aX.out.trans (bf.out.mono al))) Am cm (by rw[a7.out];exact bz) (MR (g:=b) bB.out HM.out HV.out HK.out (by omega) (by omega) (by omega) rfl) (n+m/2) a7.out.symm (by omega) (by omega);have Q1:=fX q1;have Q2:=fX q2;have Q3:=fX q3;clear q1 q2 q3)
    |(at_builtin;refine wpList_append_run rfl (.tmp 12) (.tmp 22) 231 rfl (af (some ⟨b,o,none⟩) k cl) (af (some ⟨w2.heap.size,0,none⟩) 1 1) (af A' (k+1) c') w' rfl rfl Q1.out ?_))
   go_roundw
   case rel=>exact⟨k+1,A',c',by omega,by omega,rfl,Q2,fX ((HB.out.trans (aX.out.mono av)).trans ((bf.out.mono (Nat.le_trans av al)).trans Q3.out))⟩
   case measure=>simp[P8];omega
  ·obtain rfl:k=L:=by omega
   have a1:¬(k:Int)<(k:Int):=by omega
   go_wp2;go_ret;exact⟨Al,⟨cl,rfl⟩,HB.out,oW.rd HO.out (by omega) aZ⟩
open Go.Shelf
attribute [local go_sem] Oper.semAt_some
def ni(S:Nat->Prop)(W W':aq):Prop:=∀k,S k->W'.heap[k]?=W.heap[k]?
theorem ni.refl(S:Nat->Prop)(W:aq):ni S W W:=fun _ _=>rfl
theorem ni.tr{S:Nat->Prop}{A B C:aq}(h:ni S A B)(k:ni S B C):ni S A C:=fun i hi=>(k i hi).trans (h i hi)
theorem ni.cell{S:Nat->Prop}{W W':aq}(h:ni S W W'){p:au}(hp:S p.block):W'.cell? p=W.cell? p:=by
 simp only[World.cell?,h _ hp]
theorem MT(F:Fence)(n:Nat)(aS:F.fn 182)(aT:F.round=none)(hn:1<=n)(l Bs b o len cap:Nat)(As:Nat->Option au)(ms cs:Nat->Nat)(S:Nat->Prop)(aU:S Bs)(aV:S b)(hlen:len<=100)(J:Nat->aq->Prop)
  (hY:∀j W1,J j W1->j<len->YieldAt F (n-1) prog l #[ae aj ((len-1-j:Nat):Int),af (As (len-1-j)) (ms (len-1-j)) (cs (len-1-j))] W1 fun e W'=>e=ao (.bool true)/\J (j+1) W'/\ni S W1 W')
  (W:aq) (ad:W.cell? ⟨Bs,0,none⟩=some (af (some ⟨b,o,none⟩) len cap)) (hc:∀K,K<len->W.cell? ⟨b,o+K,none⟩=some (af (As K) (ms K) (cs K))) (h0:J 0 W):
  CallsIn F n prog 182 #[.func (.yield l) #[] #[],ag (some ⟨Bs,0,none⟩)] W fun e W'=>(∃v,e=ao v)/\J len W':=by
 refine callsIn_of_wp func182 rfl aS ?_ aT
 simp only[ntmps182,List.size_toArray,List.length_cons,List.length_nil,Nat.reduceAdd,Nat.reduceSub,Array.replicate_succ,Array.replicate_zero,List.push_toArray,List.append_toArray,List.nil_append,List.cons_append]
 gi_wp2
 gi_loopw [3] (fun i wr=>∃j:Nat,j<=len/\i=ae aj ((len:Int)-1-(j:Int))/\J j wr/\ni S W wr) (fun i _=>(aP i+1).toNat)
 case atStart=>exact⟨0,Nat.zero_le _,kJ (by omega),h0,ni.refl _ _⟩
 case round=>
  obtain⟨j,hj,rfl,al,hk⟩:=hrel;by_cases aW:j<len
  ·obtain⟨p,hp⟩:=fY (len-1-j);have ep:(len:Int)-1-(j:Int)=(p:Int):=by omega
   have aX:p<len:=by omega
   have a2:=(hk.cell (p:=⟨Bs,0,none⟩) aU).trans ad;have a3:=(hk.cell (p:=⟨b,o+p,none⟩) aV).trans (hc p aX);obtain⟨fn,tmps,assign,body,hy,hR⟩:=hY j wr al aW;rw[<-hp]at hy;have a4:(0:Int)<=(p:Int):=by omega
   rw[ep];have HP:=fX hp;have HK:=fX hk
   clear hc hY ad hp ep hk;gi_wp2
   refine hR.mono ?_;rintro e W3 ⟨rfl,aY,av⟩;have aZ:=fX av;clear av;gi_wp2
   go_roundw
   case rel=>exact⟨j+1,by omega,kJ (by have:=HP.out;omega),aY,HK.out.tr aZ.out⟩
   case measure=>simp[aP]
  ·obtain rfl:j=len:=by omega
   have a1:¬(0:Int)<=(j:Int)-1-(j:Int):=by omega
   clear hc hY ad;gi_wp2
   go_end0;exact⟨⟨_,rfl⟩,al⟩
theorem MU(F:Fence)(n:Nat)(ad:F.fn 171)(al:F.round=none)(a:Option au)(len cap:Nat)(w:aq):
  CallsIn F n prog 171 #[af a len cap] w fun e w'=>e=ao (.func (.func 182) #[] #[ag (some ⟨w.heap.size,0,none⟩)])/\w'=w.alloc (ak #[af a len cap] 231):=by
 refine callsIn_of_wp func171 rfl ad ?_ al
 simp only[ntmps171,List.size_toArray,List.length_cons,List.length_nil,Nat.reduceAdd,Nat.reduceSub,Array.replicate_succ,Array.replicate_zero,List.push_toArray,List.append_toArray,List.nil_append,List.cons_append]
 gi_wp2
 go_ret
 exact⟨rfl,rfl⟩
theorem MV(F:Fence)(n:Nat)(ad:F.fn 182)(al:F.round=none)(hn:1<=n)(Bs b o len cap:Nat)(As:Nat->Option au)(ms cs:Nat->Nat)(S:Nat->Prop)(av:S Bs)(aS:S b)(hlen:len<=100)(w:aq)(aT:w.cell? ⟨Bs,0,none⟩=some (af (some ⟨b,o,none⟩) len cap))(hB:Bs<w.heap.size)(hb:b<w.heap.size)
  (hc:∀K,K<len->w.cell? ⟨b,o+K,none⟩=some (af (As K) (ms K) (cs K))):
  Dd F n prog 182 #[ag (some ⟨Bs,0,none⟩)] (fun j=>#[ae aj ((len-1-j:Nat):Int),af (As (len-1-j)) (ms (len-1-j)) (cs (len-1-j))]) (ni S) len w:=fun l J W hW hY h0=>
 MT F n ad al hn l Bs b o len cap As ms cs S av aS hlen J hY W ((hW.cell hB).trans aT) (fun K hK=>(hW.cell (p:=⟨b,o+K,none⟩) hb).trans (hc K hK)) h0
attribute [local go_sem] Oper.semAt_some
def zf(n:Nat)(W:Nat->Nat):Nat->Nat->Bool
 |0,_=>true
 |K+1,t=>jI n (gH n K/2) W (iw (hH n W K)) (Pu n W (K+1) t) (t-Pu n W (K+1) t)
theorem EE(n:Nat)(W:Nat->Nat):∀K t,Pu n W K (t+1)=if zf n W K t=true then Pu n W K t+1 else Pu n W K t
 |0,_=>rfl
 |_+1,_=>rfl
theorem MW(n:Nat)(W:Nat->Nat)(Z:Nat->Int):∀K t,zK n W Z K t=if zf n W K t=true then Z (Pu n W K t)else-1
 |0,_=>rfl
 |_+1,_=>rfl
def EF(n:Nat):Nat->Nat
 |0=>0
 |K+1=>gH n K
theorem zg(n:Nat)(W:Nat->Nat):∀K t,t<=gH n K->Pu n W K t<=n/\Pu n W K t<=t/\2*(t-Pu n W K t)<=EF n K
 |0,t,h=>⟨h,Nat.le_refl _,by show 2*(t-t)<=0;omega⟩
 |K+1,t,h=>by
  have hb:=pO (n:=n) (m:=gH n K/2) (w:=W) (p:=iw (hH n W K)) t h;refine⟨hb.1,hb.2.2,?_⟩;show 2*(t-Ps n (gH n K/2) W (iw (hH n W K)) t)<=gH n K
  omega
theorem MY(n:Nat)(W:Nat->Nat):∀K,Pu n W K 0=0
 |0=>rfl
 |_+1=>rfl
theorem EG(n:Nat)(W:Nat->Nat)(K t:Nat):∀d,Pu n W K t<=Pu n W K (t+d)
 |0=>Nat.le_refl _
 |d+1=>by
  have ih:=EG n W K t d;rw[<-Nat.add_assoc,EE];split<;>omega
def vX(n:Nat)(W:Nat->Nat):Nat->Nat->Nat->Nat
 |0,_,_=>0
 |K+1,T,i=>PJ n W K T i
theorem EH(n:Nat)(W:Nat->Nat)(i:Nat):∀K T,vX n W (K+1) T i=(if i<Pu n W K T then 1 else 0)+vX n W K (2*(T-Pu n W K T)) i
 |0,_=>rfl
 |_+1,_=>rfl
def mM(F:Nat->Nat)(N:Nat)(c:Nat->Nat)(s:Nat):Nat:=if s<N/\0<F s then c (mO F N s)else 0
theorem MZ{F:Nat->Nat}{N k:Nat}(hk:k<nI F N)(c:Nat->Nat):mM F N c ((Pt F N).getD k 0)=c k:=by
 have h:=nk hk;unfold mM;rw[if_pos h.2,h.1]
theorem EI{F:Nat->Nat}{N:Nat}{c d:Nat->Nat}(h:∀i,i<nI F N->c i=d i)(s:Nat):mM F N c s=mM F N d s:=by
 unfold mM;split
 ·rename_i hs;exact h _ (qo hs.1 hs.2).1
 ·rfl
theorem M0{F:Nat->Nat}{N k:Nat}(hk:k<nI F N)(c:Nat->Nat)(x:Nat)(hx:x=c k+1)(d:Nat->Nat)(hd:∀i,d i=if i=k then c i+1 else c i):gL (mM F N c) ((Pt F N).getD k 0) x=mM F N d:=by
 have h:=nk hk;funext i;unfold gL mM;by_cases e:i=(Pt F N).getD k 0
 ·subst e;rw[if_pos rfl,if_pos h.2,h.1,hd,if_pos rfl];exact hx
 ·rw[if_neg e];by_cases hi:i<N/\0<F i
  ·rw[if_pos hi,if_pos hi,hd,if_neg];intro h2;have hr:=qo hi.1 hi.2;rw[h2]at hr;exact e hr.2.symm
  ·rw[if_neg hi,if_neg hi]
theorem M1{F:Nat->Nat}{N L:Nat}(h2:2<=nI F N){s:Nat}(hs:s<N):mM F N (PJ (nI F N) (iG F N) (L-1) (2*nI F N-2)) s=iM F N L s:=by
 unfold mM iM;by_cases h:0<F s
 ·rw[if_pos ⟨hs,h⟩,if_neg (by omega),if_neg (by omega)]
 ·rw[if_neg (fun hh=>h hh.2),if_pos (by omega)]
theorem M3{W W':aq}{row:Option Nat}{B k:Nat}(hg:W.grownBy W' row)(hr:∀r,row=some r->B<=r/\∃o:Obj,W.heap[r]?=some o/\o.isCells=false)(hk:k<B)(hs:B<=W.heap.size):W'.heap[k]?=W.heap[k]?:=
 hg.block k (by omega) (fun e=>by have:=(hr k e.symm).1;omega)
theorem M4(n:Nat):∀K,n<=gH n K
 |0=>Nat.le_refl _
 |_+1=>Nat.le_add_right _ _
def zh(lo B:Nat)(k:Nat):Prop:=(lo<=k/\k<B)\/k=B+2
def vY(w u:aq)(g N cN n L:Nat)(F:Nat->Nat)(lo:Nat)(j:Nat)(W:aq):Prop:=
 Boxed W w.heap.size 22 (af (some ⟨g,0,none⟩) N cN)/\ni (zh lo w.heap.size) u W/\aR g w W/\u.heap.size<=W.heap.size/\
 ∃(T:Nat) (c:Nat->Nat),Boxed W (w.heap.size+1) 3 (ae aj (T:Int))/\T<=EF n (L-j)/\(∀i,i<n->c i+vX n (iG F N) (L-j) T i=PJ n (iG F N) (L-1) (2*n-2) i)/\iJ W g N (mM F N c)
theorem vY.own(w u:aq)(g N cN n L:Nat)(F:Nat->Nat)(lo:Nat)(hu:u.heap.size=w.heap.size+3)(hg:g<w.heap.size):OwnFrom u.heap.size (vY w u g N cN n L F lo):=by
 rintro j W W' row ⟨h1,h2,h3,h4,T,c,h5,h6,h7,cur,h8,h9⟩ ad hr;have hk:∀k,k<u.heap.size->W'.heap[k]?=W.heap[k]?:=fun k hk=>M3 ad hr hk h4
 refine⟨(hk _ (by omega)).trans h1,fun k hS=>(hk k ?_).trans (h2 k hS),h3.grown ad ?_ (fun r e=>?_),Nat.le_trans h4 ad.size,T,c,(hk _ (by omega)).trans h5,h6,h7,cur,(hk _ (by omega)).trans h8,h9⟩
 ·rcases hS with hS|hS<;>omega
 ·omega
 ·have:=(hr r e).1;omega
theorem M5(w:aq)(g N cN:Nat)(F:Nat->Nat)(a5:iJ w g N (mM F N (fun _=>0)))(lo:Nat)(A:Option au)(c n L:Nat)(hn:n=nI F N)(bg:2<=n)(bO:1<=L)(b6:L<=15)(hp:n<=2^L)(hN:N<=400)(hg:g<lo)
  (hr:ze w lo w.heap.size A L n (iG F N) (fun t=>(((Pt F N).getD t 0:Nat):Int))) (T0:Nat) (bj:T0=2*n-2):
  aw prog 154 #[af (some ⟨g,0,none⟩) N cN,af A L c,ae aj (T0:Int)] w fun e w'=>e=ao (.tuple #[])/\aR g w w'/\iJ w' g N (iM F N L):=by
 obtain⟨b,o,rfl,bP,bl,bm⟩:=hr
 refine(callsIn_wide (n:=5)).1 ?_
 refine callsIn_of_wp_marks func154 rfl trivial ?_ rfl
 simp only[ntmps154,List.size_toArray,List.length_cons,List.length_nil,Nat.reduceAdd,Nat.reduceSub,Array.replicate_succ,Array.replicate_zero,List.push_toArray,List.append_toArray,List.nil_append,List.cons_append]
 have bn:=fX a5;have bp:=fX bm;have HN:=fX hn;have HP:=fX hp;have HT:=fX bj
 clear a5 bm hn hp bj
 gi_wp2_with (refine⟨trivial,?_⟩;gi_at_call 171;refine(MU _ _ trivial rfl _ _ _ _).mono ?_;rintro e w' ⟨rfl,rfl⟩)
 have bq:g<w.heap.size:=by omega
 have bQ:n<=400:=by rw[HN.out];exact Nat.le_trans (oO F N) hN
 obtain⟨fA,aZ⟩:=Classical.axiomOfChoice (r:=fun(K:Nat) (y:Option au×Nat)=>K<L->w.cell? ⟨b,o+K,none⟩=some (af y.1 (gH n K) y.2)/\gH n K<=y.2/\j6 w lo w.heap.size y.1 (gH n K) (hH n (iG F N) K) (zK n (iG F N) (fun t=>(((Pt F N).getD t 0:Nat):Int)) K)) (fun K=>by
  by_cases hK:K<L
  ·obtain⟨AK,cK,q⟩:=bp.out K hK;exact⟨(AK,cK),fun _=>q⟩
  ·exact⟨(none,0),fun h=>absurd h hK⟩)
 obtain⟨u,hu⟩:=fY (((w.alloc (ak #[af (some ⟨g,0,none⟩) N cN] 22)).alloc (ak #[ae aj (T0:Int)] 3)).alloc (ak #[af (some ⟨b,o,none⟩) L c] 231))
 have br:u.heap.size=w.heap.size+3:=by rw[hu];simp
 have aU:aR w.heap.size w u:=by rw[hu];exact(((Below.refl _ w).alloc fZ _).alloc (by simp) _).alloc (by simp;omega) _
 have bt:Boxed u w.heap.size 22 (af (some ⟨g,0,none⟩) N cN):=by rw[hu];exact((Boxed.new w _ _).alloc _).alloc _
 have bu:Boxed u (w.heap.size+1) 3 (ae aj (T0:Int)):=by
  rw[hu];have h:=(Boxed.new (w.alloc (ak #[af (some ⟨g,0,none⟩) N cN] 22)) 3 (ae aj (T0:Int))).alloc (ak #[af (some ⟨b,o,none⟩) L c] 231);rwa[World.size_alloc]at h
 have bx:u.cell? ⟨w.heap.size+1+1,0,none⟩=some (af (some ⟨b,o,none⟩) L c):=by
  rw[hu];have h:=(Boxed.new ((w.alloc (ak #[af (some ⟨g,0,none⟩) N cN] 22)).alloc (ak #[ae aj (T0:Int)] 3)) 231 (af (some ⟨b,o,none⟩) L c)).cell;rwa[World.size_alloc,World.size_alloc]at h
 have aV:iJ u g N (mM F N (fun _=>0)):=bn.out.below aU bq
 rw[<-hu]
 clear hu bp
 refine JF (L:=L) rfl (by omega) (gf:=182) (lb:=#[ag (some ⟨w.heap.size+1+1,0,none⟩)]) rfl trivial (enters_of func182 (by kernel_rfl) rfl)
  (MV _ _ trivial rfl (by omega) (w.heap.size+1+1) b o L c (fun K=>(fA K).1) (gH n) (fun K=>(fA K).2) (zh lo w.heap.size) (.inr rfl) (.inl ⟨bP,bl⟩) (by omega) u bx (by omega) (by omega) (fun K hK=>by
   rw[aU.cell (p:=⟨b,o+K,none⟩) bl];exact(aZ K hK).1))
  (fun h k=>h.tr k) (fun W l ob b7 hl _ _ _ k hS=>World.putObj_heap_other (by rcases hS with hS|hS<;>omega)) (fun _=>rfl)
  (vY w u g N cN n L F lo) (vY.own w u g N cN n L F lo br bq) ?start
  (fun j=>{tmps:=#[af (some ⟨g,0,none⟩) N cN,af (some ⟨b,o,none⟩) L c,ae aj (T0:Int),ag (some ⟨w.heap.size,0,none⟩),undef,ag (some ⟨w.heap.size+1,0,none⟩),undef,.slice (fA (L-1-j)).1 (gH n (L-1-j)) (fA (L-1-j)).2,undef,undef,undef,af (some ⟨b,o,none⟩) L c,
   .func (.func 182) #[] #[ag (some ⟨w.heap.size+1+1,0,none⟩)],ae aj ((L-1-j:Nat):Int),.slice (fA (L-1-j)).1 (gH n (L-1-j)) (fA (L-1-j)).2,undef,undef,undef,undef,undef,undef,undef,undef,undef,undef,undef,undef,undef,undef,undef,undef,undef,undef,undef,undef,undef,undef],defers:=[]}) ?assign ?body ?done
 case start=>
  refine⟨bt,ni.refl _ _,aU.mono (by omega),Nat.le_refl _,T0,fun _=>0,bu,?_,fun i hi=>?_,aV⟩
  ·have:=s8 (n:=n) bO HP.out;obtain⟨K,rfl⟩:∃K,L=K+1:=⟨L-1,by omega⟩;rw[HT.out];exact this
  ·obtain⟨K,rfl⟩:∃K,L=K+1:=⟨L-1,by omega⟩;rw[HT.out,Nat.zero_add];rfl
 case assign=>
  intro l j W K hK;gi_wp2
  exact hK
 case done=>
  rintro D W hD ⟨h1,h2,h3,h4,T,c',h5,h6,h7,h8⟩ hK;gi_wp2
  refine⟨by simp,.inl ⟨_,_,rfl,run_takeDeferred hK,?_⟩⟩;refine⟨_,results_none rfl _ _ _,rfl,h3.grown (grownBy_putObj' W D _) (by omega) (fun r e=>by cases e;omega),?_⟩;have bR:g≠D:=by omega
  obtain⟨cur,q1,q2⟩:=h8;refine iJ.ext ⟨cur,(World.putObj_heap_other bR).trans q1,q2⟩ fun s hs=>?_
  rw[<-M1 (by rw[<-HN.out];exact bg) hs,<-HN.out];refine EI (fun i hi=>?_) s;have h:=h7 i (by rw[HN.out];exact hi);rw[Nat.sub_self]at h;exact h
 case body=>
  rintro l j W ⟨h1,h2,h3,h4,T,c',h5,h6,h7,h8⟩ hj;obtain⟨K,hK⟩:=fY (L-1-j);rw[<-hK];have aW:L-j=K+1:=by omega
  have bS:K<L:=by omega
  rw[aW]at h6 h7;obtain⟨q1,q2,q3⟩:=aZ K bS;obtain⟨AK,bz⟩:=fY ((fA K).1);obtain⟨cK,bA⟩:=fY ((fA K).2);rw[<-bz]at q1 q3⊢;rw[<-bA]at q1 q2⊢;have b2:=ta bg bQ K;have bB:T<=gH n K:=h6;have a6:=zg n (iG F N) K T bB;have bT:=M4 n K;obtain⟨bk,ok,rfl,bU,bC,aS⟩:=q3 (by omega);have bD:∀i,i<gH n K*2->W.cell? ⟨bk,ok+i,none⟩=some (ae aj (mL (hH n (iG F N) K) (zK n (iG F N) (fun t=>(((Pt F N).getD t 0:Nat):Int)) K) i)):=fun i hi=>by
   rw[h2.cell (p:=⟨bk,ok+i,none⟩) (.inl ⟨bU,bC⟩),aU.cell (p:=⟨bk,ok+i,none⟩) bC];exact aS i hi
  have b8:T<=cK:=by omega
  have b9:T<=800:=by omega
  obtain⟨m,hm⟩:=fY (gH n K);rw[<-hm]at bB⊢;have bE:=h5.cell;have bF:=h5.frozen;have bG:=fX bD;have HM:=fX hm;have H1:=fX h1;have H2:=fX h2;have H3:=fX h3;have H5:=fX h5;have H7:=fX h7;have H8:=fX h8;have bV:=fX hK;have bH:=fX a6;have ca:=fX aZ
  clear bD hm h1 h2 h3 h5 h7 h8 hK a6 aS q1 q2 q3 bz bA aW h6 bt bu bx aV aU aZ bT;gi_wp2
  gi_loopw [8,19] (fun v8 a8 wr=>∃t d:Nat,t<=T/\d<=2000/\v8=ae aj (d:Int)/\a8=ae aj (t:Int)/\aQ (d=2*(t-Pu n (iG F N) K t))/\aQ (iJ wr g N (mM F N (fun i=>c' i+if i<Pu n (iG F N) K t then 1 else 0)))/\aQ (KeepsOthers W wr)/\aQ (∀k,k<u.heap.size->k≠g->wr.heap[k]?=W.heap[k]?)/\aQ (aR g w wr)/\u.heap.size<=wr.heap.size) (fun _ a8 _=>T-(aP a8).toNat)
  case atStart=>exact⟨0,0,Nat.zero_le _,by omega,rfl,rfl,fX (by omega),fX (H8.out.ext fun s _=>EI (fun i _=>by rw[MY,if_neg (by omega)];rfl) s),fX (KeepsOthers.refl _),fX (fun _ _ _=>rfl),H3,h4⟩
  case round=>
   obtain⟨t,d,cb,bW,rfl,rfl,HD,HR,a9,aT,HB,cf⟩:=hrel;by_cases cg:t<T
   ·have bI:(t:Int)<(T:Int):=by omega
    have bX:g<wr.heap.size:=by omega
    have ch:w.heap.size<wr.heap.size:=by omega
    have b3:bk<wr.heap.size:=by omega
    have ad:∀p:au,p.block<u.heap.size->p.block≠g->wr.cell? p=W.cell? p:=fun p hp al=>by simp only[World.cell?,aT.out _ hp al]
    have c1:=(ad ⟨bk,ok+t*2,none⟩ (by show bk<_;omega) (by show bk≠g;omega)).trans (bG.out (t*2) (by rw[<-HM.out];omega));have c2:=(ad ⟨bk,ok+(t*2+1),none⟩ (by show bk<_;omega) (by show bk≠g;omega)).trans (bG.out (t*2+1) (by rw[<-HM.out];omega));rw[tX]at c1;rw[vW,MW]at c2;rw[<-Nat.add_assoc]at c2;have c3:=(ad ⟨w.heap.size,0,none⟩ (by show w.heap.size<_;omega) (by show w.heap.size≠g;omega)).trans H1.out.cell;obtain⟨x,hx⟩:=fY (hH n (iG F N) K t);rw[<-hx]at c1;have av:=EE n (iG F N) K t;have bJ:=zg n (iG F N) K (t+1) (by rw[<-HM.out];omega);obtain⟨q,hq⟩:=fY (Pu n (iG F N) K t);rw[<-hq]at HD HR av c2;by_cases a1:zf n (iG F N) K t=true
    ·rw[if_pos a1]at av c2;have a2:q<n:=by omega
     have bd:=nk (F:=F) (n:=N) (r:=q) (by rw[<-HN.out];exact a2);have a3:=MZ (F:=F) (N:=N) (k:=q) (by rw[<-HN.out];exact a2) (fun i=>c' i+if i<q then 1 else 0);have bf:=M0 (F:=F) (N:=N) (k:=q) (by rw[<-HN.out];exact a2) (fun i=>c' i+if i<q then 1 else 0);have bK:=H7.out q a2;have bY:=qU n (iG F N) (L-1) (2*n-2) q;have a7:=EH n (iG F N) q K T;have bL:=EG n (iG F N) K (t+1) (T-(t+1));rw[show t+1+(T-(t+1))=T by omega]at bL;rw[if_pos (by omega)]at a7;obtain⟨s,hs⟩:=fY ((Pt F N).getD q 0);rw[<-hs]at bd a3 bf c2;have bZ:s<N:=bd.2.1;have c4:=HR.out.cell bZ;have f4:=HR.out.frozen s;obtain⟨y,hy⟩:=fY (c' q);simp only[if_neg (Nat.lt_irrefl q),Nat.add_zero]at a3;rw[a3,<-hy]at c4;have b4:y+1<=15:=by omega
     have al:((s:Int)== -1)=false:=by simp
     have aX:=HR.out.set s (y+1);rw[show((y+1:Nat):Int)=(y:Int)+1 by omega]at aX;have bM:=fX aX;have b0:=fX bf;have aY:=fX av;have HQ:=fX hq;have HY:=fX hy
     clear hx av bJ hq bd a3 bf bK bY a7 bL hs hy aX ad a1;gi_wp2
     go_roundw
     case rel=>
      have a4:(wr.setCell ⟨g,s,none⟩ (ae .u8 ((y:Int)+1))).heap.size=wr.heap.size:=by simp[World.setCell]
      refine⟨t+1,d,by omega,bW,rfl,by go_num,fX ?_,fX ?_,fX ((a9.out.trans (KeepsOthers.setCell _ _ _)).trans (KeepsOthers.alloc _ _)),fX (fun k hk al=>?_),fX ((HB.out.setCell (p:=⟨g,s,none⟩) fZ _).alloc (by rw[a4];omega) _),by rw[World.size_alloc,a4];omega⟩
      ·rw[aY.out,HD.out];omega
      ·have h:=bM.out;rw[b0.out (y+1) (by rw[HY.out,if_neg (Nat.lt_irrefl q)]) (fun i=>c' i+if i<q+1 then 1 else 0) (fun i=>by
        by_cases e:i=q
        ·rw[if_pos e,if_pos (by omega),if_neg (by omega)]
        ·rw[if_neg e];by_cases e2:i<q
         ·rw[if_pos (by omega),if_pos e2]
         ·rw[if_neg (by omega),if_neg e2])]at h
       rw[aY.out];exact h.below (gC.alloc fZ _) (by rw[a4];omega)
      ·exact((Below.heap_alloc _ _ k (by rw[a4];omega)).trans (Below.heap_setCell wr _ _ k al)).trans (aT.out k hk al)
     case measure=>simp[aP];omega
    ·rw[if_neg a1]at av c2;have cj:((-1:Int)== -1)=true:=rfl;have aY:=fX av;have HQ:=fX hq
     have ck:=HD.out;clear hx av hq ad a1 c3;gi_wp2
     go_roundw
     case rel=>
      refine⟨t+1,d+2,by omega,by omega,by go_num,by go_num,fX ?_,fX ?_,fX (a9.out.trans (KeepsOthers.alloc _ _)),fX (fun k hk al=>?_),fX (HB.out.alloc (by omega) _),by rw[World.size_alloc];omega⟩
      ·have h1:=aY.out;have h2:=HD.out;have h3:=HQ.out
       have h4:=bJ.2.1;have h5:q<=t:=by rw[h3];exact(zg n (iG F N) K t (by rw[<-HM.out];omega)).2.1
       rw[h1];omega
      ·rw[aY.out];exact HR.out.below (gC.alloc fZ _) bX
      ·exact(Below.heap_alloc _ _ k (by omega)).trans (aT.out k hk al)
     case measure=>simp[aP];omega
   ·obtain rfl:t=T:=by omega
    have bI:¬(t:Int)<(t:Int):=by omega
    have b5:w.heap.size+1<wr.heap.size:=by omega
    have e5:=aT.out (w.heap.size+1) (by omega) (by omega);have c5:wr.cell? ⟨w.heap.size+1,0,none⟩=some (ae aj (t:Int)):=by simp only[World.cell?,e5];exact bE
    have f5:wr.frozen? ⟨w.heap.size+1,0,none⟩=false:=by simp only[World.frozen?,e5];exact bF
    have b1:=fX e5;clear e5 bE bF;gi_wp2
    have aW:L-(j+1)=K:=by have:=bV.out;omega
    have bN:ni (zh lo w.heap.size) W (wr.setCell ⟨w.heap.size+1,0,none⟩ (ae aj (d:Int))):=fun k hS=>by
     have al:k≠w.heap.size+1:=by rcases hS with hS|hS<;>omega
     exact(Below.heap_setCell wr _ _ k al).trans (aT.out k (by rcases hS with hS|hS<;>omega) (by rcases hS with hS|hS<;>omega))
    refine⟨a9.out.trans (KeepsOthers.setCell _ _ _),bN,?_,H2.out.tr bN,HB.out.setCell (p:=⟨w.heap.size+1,0,none⟩) (by show g<=w.heap.size+1;omega) _,by simp[World.setCell];omega,d,(fun i=>c' i+if i<Pu n (iG F N) K t then 1 else 0),?_,?_,fun i hi=>?_,HR.out.other (by show g≠w.heap.size+1;omega) _⟩
    ·exact(Below.heap_setCell wr _ _ _ (by show w.heap.size≠w.heap.size+1;omega)).trans ((aT.out _ (by omega) (by omega)).trans H1.out)
    ·exact Boxed.set _ (b1.out.trans H5.out)
    ·rw[aW,HD.out];exact bH.out.2.2
    ·rw[aW,HD.out];have h:=H7.out i hi;rw[EH]at h;show(c' i+if i<Pu n (iG F N) K t then 1 else 0)+vX n (iG F N) K (2*(t-Pu n (iG F N) K t)) i=_
     omega
def qg(l:List Int)(gy:Int):Int:=if gy<1\/15<gy then 2 else if 320<l.length then 4 else if qq l l.length=true then 2 else 0
theorem M6(w:aq)(A:Option au)(c:Nat)(l:List Int)(gy:Int)(hr:jq w w.heap.size A l)(hn:l.length<=1000)(a1: -9223372036854775808<=gy)(a2:gy<=9223372036854775807)(hb:∀j,j<l.length->-9223372036854775808<=l.getD j 0/\l.getD j 0<=9223372036854775807):
  aw prog 152 #[af A l.length c,ae aj gy] w fun e w'=>e=ao (ae aj (qg l gy))/\w'=w:=by
 have HR:=fX hr;have aU:=fX hb
 clear hr hb
 obtain⟨n,av⟩:=fY (l.length)
 obtain⟨E,hE⟩:=fY (qg l gy)
 rw[<-av]at hn⊢
 rw[<-hE]
 unfold qg at hE
 rw[<-av]at hE
 have HN:=fX av
 clear av
 by_cases h1:gy<1
 ·rw[if_pos (.inl h1)]at hE;subst hE;have hd:decide (gy<1)=true:=by simpa using h1
  go_enter func152,ntmps152
  go_wp2;go_ret;exact⟨rfl,rfl⟩
 ·have hd:decide (gy<1)=false:=by simpa using h1
  by_cases h2:15<gy
  ·rw[if_pos (.inr h2)]at hE;subst hE;go_enter func152,ntmps152
   go_wp2;go_ret;exact⟨rfl,rfl⟩
  ·rw[if_neg (by omega)]at hE;have a3:decide (15<gy)=false:=by simpa using h2
   by_cases h3:320<n
   ·rw[if_pos h3]at hE;subst hE;have aV:decide ((320:Int)<(n:Int))=true:=by simp;omega
    have aW:(320:Int)<(n:Int):=by omega
    go_enter func152,ntmps152
    go_wp2;go_ret;exact⟨rfl,rfl⟩
   ·rw[if_neg h3]at hE;have aV:decide ((320:Int)<(n:Int))=false:=by simp;omega
    have aW:¬(320:Int)<(n:Int):=by omega
    have HE:=fX hE;clear hE;go_enter func152,ntmps152
    go_wp2;go_loopw [18] (fun i wr=>∃k:Nat,k<=n/\i=ae aj (k:Int)/\wr=w/\aQ (∀j,j<k->qp (l.getD j 0)=false)) (fun i _=>n-(aP i).toNat)
    case atStart=>exact⟨0,Nat.zero_le _,rfl,rfl,fX (fun j hj=>absurd hj (by omega))⟩
    case round=>
     obtain⟨k,hk,rfl,rfl,aS⟩:=hrel;by_cases al:k<n
     ·have aT:(k:Int)<(n:Int):=by omega
      obtain⟨b,o,rfl,a4,hc⟩:=HR.out.at (k:=k) (by rw[<-HN.out];exact al);have c1:=hc k (by rw[<-HN.out];exact al);have aX:=aU.out k (by rw[<-HN.out];exact al);obtain⟨x,hx⟩:=fY (l.getD k 0);rw[<-hx]at c1 aX;have HX:=fX hx;clear hx hc;by_cases g1:x<0
      ·have aY:decide (x<0)=true:=by simpa using g1
       go_wp2;go_ret;have ad:qq l l.length=true:=ui (k:=k) (by rw[<-HN.out];exact al) (by rw[<-HX.out];exact decide_eq_true (.inl g1));have h:=HE.out;rw[HN.out,if_pos ad]at h;exact⟨nj h.symm,rfl⟩
      ·have aY:decide (x<0)=false:=by simpa using g1
       by_cases g2:1073741824<x
       ·have aZ:decide (1073741824<x)=true:=by simpa using g2
        go_wp2;go_ret;have ad:qq l l.length=true:=ui (k:=k) (by rw[<-HN.out];exact al) (by rw[<-HX.out];exact decide_eq_true (.inr g2));have h:=HE.out;rw[HN.out,if_pos ad]at h;exact⟨nj h.symm,rfl⟩
       ·have aZ:decide (1073741824<x)=false:=by simpa using g2
        go_wp2;go_roundw
        case rel=>exact⟨k+1,by omega,by go_num,trivial,fX (fun j hj=>by
         by_cases e:j=k
         ·rw[e,<-HX.out];exact FY (by omega) (by omega)
         ·exact aS.out j (by omega))⟩
        case measure=>simp[aP];omega
     ·obtain rfl:k=n:=by omega
      have aT:¬(k:Int)<(k:Int):=by omega
      go_wp2;go_ret;have ad:qq l l.length=false:=FX (fun j hj=>aS.out j (by rw[HN.out];exact hj));have h:=HE.out;rw[HN.out,if_neg (by rw[ad];exact Bool.false_ne_true)]at h;exact⟨nj h.symm,rfl⟩
theorem M7{l:List Int}{gy:Int}(h:qg l gy≠0):mP l gy=qg l gy:=by
 unfold qg at h⊢;unfold mP;split
 ·rfl
 ·rename_i h1;rw[if_neg h1]at h;split
  ·rfl
  ·rename_i h2;rw[if_neg h2]at h;split
   ·rfl
   ·rename_i h3;rw[if_neg h3]at h;exact absurd rfl h
theorem M8{l:List Int}{gy:Int}(h:qg l gy=0):1<=gy/\gy<=15/\l.length<=320/\(∀j,j<l.length->0<=l.getD j 0/\l.getD j 0<=1073741824)/\mP l gy=if 2^gy.toNat<nI (gB l) l.length then 4 else 0:=by
 unfold qg at h;unfold mP;split at h
 ·cases h
 ·rename_i h1;rw[if_neg h1];split at h
  ·cases h
  ·rename_i h2;rw[if_neg h2];split at h
   ·cases h
   ·rename_i h3;rw[if_neg h3];refine⟨by omega,by omega,by omega,fun j hj=>?_,rfl⟩;have h4:¬qp (l.getD j 0)=true:=fun hb=>h3 (ui hj hb)
    have h5:=of_decide_eq_false (Bool.not_eq_true _▸h4);omega
theorem zi(w:aq)(A:Option au)(c:Nat)(l:List Int)(gy:Int)(hr:jq w w.heap.size A l)(_hc:A=none->c=0)(hn:l.length<=1000)(hb:∀j,j<l.length->-9223372036854775808<=l.getD j 0/\l.getD j 0<=9223372036854775807)
  (bU: -9223372036854775808<=gy) (bV:gy<=9223372036854775807):
  aw prog 131 #[af A l.length c,ae aj gy] w fun e w'=>∃A' c',e=ao (.tuple #[af A' (o7 l gy) c',ae aj (mP l gy)])/\aR w.heap.size w w'/\gE w' w'.heap.size A' (o7 l gy) (nx l gy)/\o7 l gy<=c'/\c'<=1000/\(A'=none->c'=0)/\(∀b o,A'=some ⟨b,o,none⟩->w.heap.size<=b):=by
 have aS:=fX (M6 w A c l gy hr hn bU bV hb)
 have HR:=fX hr;have bW:=fX hb
 by_cases hz:qg l gy=0
 ·obtain⟨k1,k2,k3,k4,k5⟩:=M8 hz;have aX:=MF w A c l hr ⟨by omega,fun j hj=>(k4 j hj).1⟩ hb;obtain⟨N,hN⟩:=fY (l.length);obtain⟨n,aY⟩:=fY (nI (gB l) l.length);obtain⟨L,hL⟩:∃L:Nat,gy=(L:Int):=⟨gy.toNat,by omega⟩;subst hL;rw[Int.toNat_natCast,<-aY]at k5;rw[hz]at aS;rw[<-aY,<-hN]at aX;rw[<-hN]at aS k3⊢;obtain⟨E,hE⟩:=fY (mP l (L:Int));obtain⟨lo,bg⟩:=fY (o7 l (L:Int));obtain⟨ol,aV⟩:=fY (nx l (L:Int));rw[<-hE,<-bg,<-aV];have aZ:=fX hE;have br:=fX bg;have aT:=fX aV;have HN:=fX hN;have bt:=fX aY;have bu:=fX k4;have bx:=fX k5
  have a6:=fX aX;have bz:1<=L:=by omega
  have bj:L<=15:=by omega
  have cb:n<=N:=by rw[aY,hN];exact oO _ _
  obtain⟨Q,hQ⟩:=fY (2^L);have a8:Q<=2^15:=by rw[hQ];exact Nat.pow_le_pow_right (by decide) bj
  have ca:Q<=32768:=a8;have a1:((2:Int)^L)=(Q:Int):=by rw[hQ,Int.natCast_pow];rfl
  have cf:wrap64 ((2:Int)^L)=(Q:Int):=by rw[a1];unfold wrap64;omega
  have HQ:=fX hQ;clear hr hb hz hE bg aV hN aY k4 k5 aX _hc hn hQ a8 a1;by_cases a2:Q<n
  ·have bk:(Q:Int)<(n:Int):=by omega
   have bX:decide ((Q:Int)<(n:Int))=true:=decide_eq_true bk;go_enter func131,ntmps131
   go_wp2_with (first
    |(go_at_call 152;refine aS.out.mono ?_;rintro e w1 ⟨rfl,rfl⟩)
    |(go_at_call 153;refine a6.out.mono ?_;rintro e w2 ⟨A1,c1,rfl,ad,al⟩;have a3:=fX ad;have bA:=fX al;clear ad al))
   go_ret2;have he:E=4:=by rw[aZ.out,bx.out,if_pos (by rw[<-HQ.out];exact a2)]
   have aW:lo=0:=by rw[br.out];unfold o7;rw[<-aZ.out,he,if_neg (by decide)]
   rw[he,aW,aT.out];exact⟨none,0,rfl,a3.out,⟨fun j=>si l _ j,fun h=>absurd h (by omega)⟩,by omega,by omega,fun _=>rfl,fun _ _ e=>by cases e⟩
  ·have bk:¬(Q:Int)<(n:Int):=by omega
   have bX:decide ((Q:Int)<(n:Int))=false:=decide_eq_false bk;have bB:n<=2^L:=by rw[<-HQ.out];omega
   have he:E=0:=by rw[aZ.out,bx.out,if_neg (by omega)]
   have aW:lo=N:=by rw[br.out];unfold o7;rw[<-aZ.out,he,if_pos rfl,<-HN.out]
   have a9:∀j,ol j=iM (gB l) N L j:=fun j=>by rw[aT.out];unfold nx;rw[<-aZ.out,he,if_pos rfl,<-HN.out,Int.toNat_natCast]
   have bl:=fX a9;have bY:=fX bB
   subst he;subst aW;have cg:=uq lo (by omega);clear a2 a9 bB;by_cases h2:2<=n
   ·have bC:((n:Int)==1)=false:=by simp;omega
    have a4:(1:Int)<(n:Int):=by omega
    have bd:decide ((1:Int)<(n:Int))=true:=decide_eq_true a4;have av:=fX (show n=nI (gB l) lo by rw[HN.out];exact bt.out);go_enter func131,ntmps131
    go_wp2_with (first
     |(go_at_call 152;refine aS.out.mono ?_;rintro e w1 ⟨rfl,rfl⟩)
     |(go_at_call 153;refine a6.out.mono ?_;rintro e w2 ⟨A1,c1,rfl,ad,al⟩;have a7:=fX (show aR w1.heap.size w1 (w2.alloc (ak (aJ #[ae .u8 0] lo) 5))from ad.alloc ad.size _);have bZ:=fX (((HR.out.below a7.out fZ).more a7.out.size));have bA:=fX ((al.below ((Below.refl w2.heap.size w2).alloc fZ (ak (aJ #[ae .u8 0] lo) 5)) fZ).more (by simp:w2.heap.size<=(w2.alloc (ak (aJ #[ae .u8 0] lo) 5)).heap.size));have bD:=fX (o6 w2 lo);have aU:=ad.size;clear ad al;have bE:=fX (MG _ A c l bZ.out A1 c1 (Pt (gB l) lo) bA.out (fun j hj=>by have h:=nk (F:=gB l) (n:=lo) (r:=j) (by rw[<-lQ];exact hj);have h2:=h.2.1;rw[HN.out]at h2⊢;exact h2) lo n HN.out (by rw[lQ];exact av.out) (by omega) bu.out))
     |(go_at_call 156;refine bE.out.mono ?_;rintro e w3 ⟨A3,c3,rfl,bF,bG,hA3,bH⟩;have bm:=fX bF;have b0:=fX bG;have b1:=fX hA3;have b2:=fX bH;clear bF bG hA3 bH;have bI:=fX (MS w3 _ A3 c3 n (iG (gB l) lo) (fun t=>(((Pt (gB l) lo).getD t 0:Nat):Int)) b2.out bm.out.size b0.out b1.out L bz bj h2 (by omega) (fun i hi=>by have h:=nk (F:=gB l) (n:=lo) (r:=i) (by rw[<-av.out];exact hi);have h2:=bu.out _ (by rw[<-HN.out];exact h.2.1);show(l.getD ((Pt (gB l) lo).getD i 0) 0).toNat<=_;omega)))
     |(go_at_call 155;refine bI.out.mono ?_;rintro e w4 ⟨A4,c4,rfl,bJ,bK⟩;have bL:=fX bJ;have b3:=fX bK;clear bJ bK))
    have hT:(2*(n:Int)-2)=((2*n-2:Nat):Int):=by omega
    rw[hT];have b5:=bm.out.size;have ch:=bL.out.size;have cj:(w2.alloc (ak (aJ #[ae .u8 0] lo) 5)).heap.size=w2.heap.size+1:=by simp
    have b4:aR (w2.alloc (ak (aJ #[ae .u8 0] lo) 5)).heap.size (w2.alloc (ak (aJ #[ae .u8 0] lo) 5)) w4:=bm.out.trans (bL.out.mono b5);have a5:iJ w4 w2.heap.size lo (mM (gB l) lo (fun _=>0)):=(bD.out.below b4 (by omega)).ext (fun s _=>by unfold mM;split<;>rfl);have bf:=M5 w4 w2.heap.size lo lo (gB l) a5 (w2.alloc (ak (aJ #[ae .u8 0] lo) 5)).heap.size A4 c4 n L av.out h2 bz bj bY.out (by omega) (by omega) b3.out (2*n-2) rfl;have bM:=fX bf;clear bf a5 hT;refine bM.out.mono ?_;rintro e w5 ⟨rfl,bN,bO⟩;have b6:=fX bN;have b7:=fX bO
    clear bN bO;go_wp2;go_ret2;have hr:=b7.out.ext (f':=ol) (fun j _=>(bl.out j).symm);exact⟨_,_,rfl,(a7.out.trans (b4.mono a7.out.size)).trans (b6.out.mono aU),hr.rd (fun j=>by rw[aT.out];exact si l _ j),Nat.le_refl _,by omega,(fun h=>by cases h),(fun _ _ e=>by injection e with e;injection e with e1;omega)⟩
   ·have av:=fX (show n=nI (gB l) lo by rw[HN.out];exact bt.out);by_cases h1:n=1
    ·have H1:=fX h1;have bC:((n:Int)==1)=true:=by simp;omega
     have a4:¬(1:Int)<(n:Int):=by omega
     have bd:decide ((1:Int)<(n:Int))=false:=decide_eq_false a4;have bP:0<n:=by omega
     have bQ:=nk (F:=gB l) (n:=lo) (r:=0) (by have:=av.out;omega);obtain⟨s,hs⟩:=fY ((Pt (gB l) lo).getD 0 0);have b8:s<lo:=by rw[hs];exact bQ.2.1
     have HS:=fX hs;clear hs bQ h2 h1;go_enter func131,ntmps131
     go_wp2_with (first
      |(go_at_call 152;refine aS.out.mono ?_;rintro e w1 ⟨rfl,rfl⟩)
      |(go_at_call 153;refine a6.out.mono ?_;rintro e w2 ⟨A1,c1,rfl,ad,al⟩;have bR:=al;obtain⟨b,o,rfl,ck,bS⟩:=bR.at (k:=0) (by have h:=av.out;rw[nM,lQ,<-h];exact bP);have c0:=bS 0 (by have h:=av.out;rw[nM,lQ,<-h];exact bP);rw[qX,<-HS.out,Nat.add_zero]at c0;have a3:=fX ad;have aU:=ad.size;have b9:=(o6 w2 lo).cell b8;have cl:=(o6 w2 lo).frozen s;clear bR bS ad al))
     go_ret2;have hr:=(AB w2 lo s).ext (f':=ol) (fun j hj=>by rw[bl.out j,HS.out];exact(Az (av.out.symm.trans H1.out) hj).symm);exact⟨_,_,rfl,a3.out.alloc aU _,hr.rd (fun j=>by rw[aT.out];exact si l _ j),Nat.le_refl _,by omega,(fun h=>by cases h),(fun _ _ e=>by injection e with e;injection e with e1;omega)⟩
    ·have h0:n=0:=by omega
     have H0:=fX h0;have bC:((n:Int)==1)=false:=by simp;omega
     have a4:¬(1:Int)<(n:Int):=by omega
     have bd:decide ((1:Int)<(n:Int))=false:=decide_eq_false a4;clear h0 h1 h2;go_enter func131,ntmps131
     go_wp2_with (first
      |(go_at_call 152;refine aS.out.mono ?_;rintro e w1 ⟨rfl,rfl⟩)
      |(go_at_call 153;refine a6.out.mono ?_;rintro e w2 ⟨A1,c1,rfl,ad,al⟩;have a3:=fX ad;have aU:=ad.size;clear ad al))
     go_ret2;have hr:=(o6 w2 lo).ext (f':=ol) (fun j hj=>by rw[bl.out j];exact(Ay (av.out.symm.trans H0.out) hj).symm);exact⟨_,_,rfl,a3.out.alloc aU _,hr.rd (fun j=>by rw[aT.out];exact si l _ j),Nat.le_refl _,by omega,(fun h=>by cases h),(fun _ _ e=>by injection e with e;injection e with e1;omega)⟩
 ·have bn:=aS.out;have bp:=M7 hz;have bq:mP l gy≠0:=by rw[bp];exact hz
  obtain⟨N,hN⟩:=fY (l.length);obtain⟨E,hE⟩:=fY (mP l gy);rw[<-bp,<-hE,<-hN]at bn;have aW:o7 l gy=0:=by unfold o7;rw[if_neg bq]
  rw[aW,<-hE,<-hN];have aT:=fX (si l gy);obtain⟨ol,aV⟩:=fY (nx l gy);rw[<-aV]at aT⊢;have bT:E≠0:=by rw[hE];exact bq
  have cm:(E==0)=false:=by simpa using bT
  have HC:=fX bn;clear bn hr hb hz hE hN aV bp bq aW aS HR bW _hc hn bT;go_enter func131,ntmps131
  go_wp2_with (go_at_call 152;refine HC.out.mono ?_;rintro e w1 ⟨rfl,rfl⟩)
  go_ret2;exact⟨none,0,rfl,Below.refl _ _,⟨aT.out,fun h=>absurd h (by omega)⟩,by omega,by omega,fun _=>rfl,fun _ _ e=>by cases e⟩
open Go.ChangeShapes Go.WideShapes Go.ChangeAt Go.Joins
theorem EJ(f:Nat->Nat)(least:Nat):∀n,n<=least->PE f least n=least
 |0,_=>rfl
 |k+1,h=>by simp only[PE];rw[if_neg (by omega)];exact EJ f least k (by omega)
theorem zj(w:aq)(A:Option au)(n c:Nat)(f:Nat->Nat)(least:Nat)(hr:gE w w.heap.size A n f)(aU:n<=c)(hn:n<=1000)(hl:least<=n):
  aw prog 132 #[af A n c,ae aj (least:Int)] w fun e w'=>e=ao (af A (PE f least n) c)/\w=w':=by
 have HR:=fX hr
 obtain⟨C,hC⟩:=fY (PE f least n)
 rw[<-hC]
 have HC:=fX hC
 clear hr hC
 go_enter func132,ntmps132
 go_wp2_with fail
 go_loopw [5] (fun nv wr=>∃k:Nat,least<=k/\k<=n/\nv=ae aj (k:Int)/\aQ (C=PE f least k)/\w=wr) (fun nv _=>(aP nv).toNat)
 case atStart=>exact⟨n,hl,Nat.le_refl _,rfl,HC,rfl⟩
 case round=>
  obtain⟨k,aV,aW,rfl,HK,rfl⟩:=hrel;by_cases h1:least<k
  ·have av:(least:Int)<(k:Int):=by omega
   obtain⟨b,o,rfl,hb,hc⟩:=HR.out.2 (by omega);obtain⟨j,rfl⟩:∃j,k=j+1:=⟨k-1,by omega⟩;have c1:=hc j (by omega);have hj:((j+1:Nat):Int)-1=(j:Int):=by omega
   have aX:(j:Int)<(n:Int):=by omega
   obtain⟨x,hx⟩:=fY (f j);have aY:x<256:=by rw[hx];exact HR.out.1 j
   rw[<-hx]at c1;have HX:=fX hx;clear hc hx;by_cases h2:x=0
   ·subst h2;have ad:C=PE f least j:=by
     rw[HK.out];simp only[PE];rw[if_neg (by rw[<-HX.out];omega)]
    have aS:=fX ad;clear ad;go_wp2;go_roundw
    case rel=>exact⟨j,by omega,by omega,by go_num,aS,trivial⟩
    case measure=>simp[aP]
   ·have aZ:((x:Int)==0)=false:=by rw[beq_eq_false_iff_ne];omega
    have ad:C=j+1:=by
     rw[HK.out];simp only[PE];rw[if_pos ⟨by omega,by rw[<-HX.out];exact h2⟩]
    subst ad;have aT:((j+1:Nat):Int)<=(c:Int):=by omega
    have al:j+1<=c:=by omega
    go_wp2;go_ret;exact⟨rfl,rfl⟩
  ·obtain rfl:k=least:=by omega
   have av:¬(k:Int)<(k:Int):=by omega
   have ad:C=k:=by rw[HK.out];exact EJ f k k fZ
   subst ad;have aT:(C:Int)<=(c:Int):=by omega
   have al:C<=c:=by omega
   go_wp2;go_ret;exact⟨rfl,rfl⟩
def Px(T f:Nat->Nat):Nat->Nat
 |0=>0
 |i+1=>Px T f i+T i*f i
theorem vZ{T f:Nat->Nat}{M:Nat}(hT:∀i,T i<=M)(hf:∀i,f i<=256):∀n,Px T f n<=n*(M*256)
 |0=>Nat.zero_le _
 |n+1=>by
  have h1:=vZ hT hf n;have h2:=Nat.mul_le_mul (hT n) (hf n);show Px T f n+T n*f n<=_
  rw[Nat.add_mul,Nat.one_mul];omega
def zk(w:aq)(b o n:Nat)(T:Nat->Nat):Prop:=∀i,i<n->w.cell? ⟨b,o+i,none⟩=some (ae aj ((T i:Nat):Int))
theorem EK(w:aq)(b o n c:Nat)(T:Nat->Nat)(A2:Option au)(m c2:Nat)(f:Nat->Nat)(hT:zk w b o n T)(hb:b<w.heap.size)(av:∀i,T i<=1000001)(hn:n<=1000)(hr:gE w w.heap.size A2 m f)(k:Nat)(hk:k=min m n):
  aw prog 128 #[af (some ⟨b,o,none⟩) n c,af A2 m c2] w fun e w'=>e=ao (ae aj ((Px T f k:Nat):Int))/\aR w.heap.size w w':=by
 have HT:=fX hT;have HR:=fX hr;have aS:=fX av
 clear hT hr av
 rcases Nat.lt_or_ge m n with aY|aY
 case' inl=>(have ad:k=m:=by omega);clear hk;obtain rfl:=ad
 case' inr=>(have ad:k=n:=by omega);clear hk;obtain rfl:=ad
 all_goals(
  go_enter func128,ntmps128
  go_wp2_with fail
  go_loopw [5,12] (fun sv iv wr=>∃i:Nat,i<=k/\iv=ae aj (i:Int)/\sv=ae aj ((Px T f i:Nat):Int)/\aQ (aR w.heap.size w wr)) (fun _ iv _=>k-(aP iv).toNat)
  case atStart=>exact⟨0,Nat.zero_le _,rfl,rfl,fX gC⟩
  case round=>
   obtain⟨i,hi,rfl,rfl,HB⟩:=hrel;by_cases a4:i<k
   ·have aT:(i:Int)<(k:Int):=by omega
    first|(have a2:(i:Int)<(n:Int):=by omega)|skip
    first|(have a3:(i:Int)<(m:Int):=by omega)|skip
    obtain⟨b2,o2,rfl,aZ,aU⟩:=HR.out.2 (by omega);have k1:wr.cell? ⟨b,o+i,none⟩=some (ae aj ((T i:Nat):Int)):=(HB.out.cell (p:=⟨b,o+i,none⟩) hb).trans (HT.out i (by omega));have k2:wr.cell? ⟨b2,o2+i,none⟩=some (ae .u8 ((f i:Nat):Int)):=(HB.out.cell (p:=⟨b2,o2+i,none⟩) aZ).trans (aU i (by omega));have aV:=vZ aS.out (fun j=>Nat.le_of_lt (HR.out.1 j)) i;have aW:=aS.out i;have aX:=HR.out.1 i;have hp:=Nat.mul_le_mul aW (Nat.le_of_lt aX);have hS:Px T f (i+1)=Px T f i+T i*f i:=rfl;obtain⟨S,al⟩:=fY (Px T f i);obtain⟨x,hx⟩:=fY (T i);obtain⟨y,hy⟩:=fY (f i);rw[<-al,<-hx,<-hy]at hS;rw[<-al]at aV⊢;rw[<-hx]at k1 aW hp;rw[<-hy]at k2 aX hp;obtain⟨z,hz⟩:=fY (x*y);have a1:(x:Int)*(y:Int)=(z:Int):=by rw[hz,Int.natCast_mul]
    rw[<-hz]at hS hp;have a5:S<=256001000000:=by
     have:=Nat.mul_le_mul (show i<=1000 by omega) (Nat.le_refl (1000001*256));omega
    have HS:=fX hS;have a6:IntKind.i64.wrap ((x:Int)*(y:Int))=(z:Int):=by rw[a1,IntWalk.i64_in _ ⟨by omega,by omega⟩]
    clear hS aV al hx hy hz aU;go_wp2;go_region;go_wp2;go_roundw
    case rel=>exact⟨i+1,by omega,by go_num,by rw[HS.out];go_num,fX HB.out.drew⟩
    case measure=>simp[aP];omega
   ·obtain rfl:i=k:=by omega
    have aT:¬(i:Int)<(i:Int):=by omega
    go_wp2;go_ret;exact⟨rfl,HB.out⟩)
def mN(w:aq)(g n:Nat)(f:Nat->Nat):Prop:=∃(cur:Array ax) (t:aB),w.heap[g]?=some (ak cur t (0,0))/\∀j,j<n->cur[j]?=some (ae .u8 (f j:Int))
theorem mN.lt{w:aq}{g n:Nat}{f:Nat->Nat}(h:mN w g n f):g<w.heap.size:=by
 obtain⟨cur,t,h,_⟩:=h;exact(Array.getElem?_eq_some_iff.1 h).1
theorem mN.cell{w:aq}{g n:Nat}{f:Nat->Nat}(h:mN w g n f){j:Nat}(hj:j<n):w.cell? ⟨g,j,none⟩=some (ae .u8 (f j:Int)):=by
 obtain⟨cur,t,h,hc⟩:=h;rw[aH w g j _ _ (0,0) h];exact hc j hj
theorem mN.frozen{w:aq}{g n:Nat}{f:Nat->Nat}(h:mN w g n f)(j:Nat):w.frozen? ⟨g,j,none⟩=false:=by
 obtain⟨cur,t,h,_⟩:=h;exact aO w g j _ _ h
theorem mN.set{w:aq}{g n:Nat}{f:Nat->Nat}(h:mN w g n f)(i x:Nat):mN (w.setCell ⟨g,i,none⟩ (ae .u8 (x:Int))) g n (gL f i x):=by
 obtain⟨cur,t,h,hc⟩:=h;refine⟨cur.setIfInBounds i (ae .u8 (x:Int)),t,aN w g i _ _ _ h,fun j hj=>?_⟩;have h1:=hc j hj;have hs:j<cur.size:=(Array.getElem?_eq_some_iff.1 h1).1;rw[Array.getElem?_setIfInBounds];unfold gL;by_cases e:j=i
 ·subst e;rw[if_pos rfl,if_pos hs,if_pos rfl]
 ·rw[if_neg (fun g=>e g.symm),if_neg e];exact h1
theorem mN.below{w w':aq}{g n B:Nat}{f:Nat->Nat}(h:mN w g n f)(hb:aR B w w')(hg:g<B):mN w' g n f:=by
 obtain⟨cur,t,h,hc⟩:=h;exact⟨cur,t,(hb.block g hg).trans h,hc⟩
theorem M9(T:Nat->Int){k:Nat}(hk:k<19)(w:aq):(Instr.index 193 (ah (gw T 19)) (ae aj (k:Int))).run prog w=.ok (ae aj (T k)) w:=by
 have ad:prog.cellsOf 3=1:=by kernel_rfl
 have hg:=sB T 19 k hk;simp[Instr.index,run_underlying underlying193,asIntOf,go_sem];rw[if_pos hk,hg];rfl
theorem Na:(prog.info? 236).map (fun i=>(i.zero,i.size))=some (some (ah (gD 19 (fun _=>0)).toArray),19):=by kernel_rfl
theorem Nb(w:aq)(A:Option au)(c:Nat)(f:Nat->Nat)(hr:gE w w.heap.size A 19 f):
  aw prog 135 #[af A 19 c] w fun e w'=>e=ao (af (some ⟨w.heap.size,0,none⟩) (PE (fun i=>f (jD i)) 4 19) 19)/\mN w' w.heap.size 19 (fun i=>f (jD i))/\aR w.heap.size w w':=by
 obtain⟨C,hC⟩:=fY (PE (fun i=>f (jD i)) 4 19)
 rw[<-hC]
 have HC:=fX hC
 clear hC
 have hz:=(zero_of_info Na).1
 obtain⟨Z,hZ⟩:=fY ((gD 19 (fun _=>0)).toArray)
 rw[<-hZ]at hz
 obtain⟨h,hh⟩:=fY (w.heap.size)
 obtain⟨W1,av⟩:=fY (w.alloc (ak Z 236))
 have aV:aR h w W1:=by rw[av,hh];exact gC.alloc fZ _
 have aW:mN W1 h 19 (fun _=>0):=⟨Z,236,by rw[av,hh];exact aG w _,fun j hj=>by rw[hZ,List.getElem?_toArray,lH,if_pos hj]⟩
 rw[<-hh]at hr⊢
 obtain⟨T,hT⟩:∃T:Nat->Int,T=fun i=>(jD i:Int):=⟨_,rfl⟩
 have al:=Ma W1
 rw[<-hT]at al
 have aX:=fX al;have HR:=fX hr;have a6:=fX aV;have aY:=fX aW;have a7:=fX av;have HH:=fX hh;have HT:=fX hT
 clear al hr aV aW av hh hT hZ
 go_enter func135,ntmps135
 go_wp2_with (first|rw[<-a7.out,<-HH.out]|fail)
 refine aX.out.mono ?_
 rintro e w2 ⟨rfl,aT⟩
 have aS:=aY.out.lt
 have a8:=fX (a6.out.trans (aT.mono (by omega)));have a9:=fX (aY.out.below aT aS)
 clear aT aS
 go_wp2_with fail
 go_loopw [7] (fun iv wr=>∃i:Nat,i<=19/\iv=ae aj (i:Int)/\aQ (mN wr h 19 (fun j=>if j<i then f (jD j)else 0))/\aQ (aR h w wr)) (fun iv _=>19-(aP iv).toNat)
 case atStart=>exact⟨0,by omega,rfl,fX (by simpa using a9.out),a8⟩
 case round=>
  obtain⟨i,hi,rfl,ad,HB⟩:=hrel;by_cases aZ:i<19
  ·have a1:(i:Int)<19:=by omega
   have a2:=fun u=>M9 T aZ u
   have a3:T i=((jD i:Nat):Int):=by rw[HT.out]
   rw[a3]at a2;have a4:=Co i;obtain⟨q,hq⟩:=fY (jD i);rw[<-hq]at a2 a4;obtain⟨b,o,rfl,hb,hc⟩:=HR.out.2 (by omega);have k1:=(HB.out.cell (p:=⟨b,o+q,none⟩) hb).trans (hc q a4);have bd:=HR.out.1 q;obtain⟨x,hx⟩:=fY (f q);rw[<-hx]at k1 bd;have z1:=ad.out.frozen i;have c1:=ad.out.cell aZ;have bj:(q:Int)<19:=by omega
   have hs:=ad.out.set i x;have e:gL (fun j=>if j<i then f (jD j)else 0) i x=fun j=>if j<i+1 then f (jD j)else 0:=by
    funext j;unfold gL;by_cases h1:j=i
    ·rw[if_pos h1,if_pos (by omega),h1,hx,hq]
    ·rw[if_neg h1];show(if j<i then f (jD j)else 0)=_
     by_cases h2:j<i
     ·rw[if_pos h2,if_pos (by omega)]
     ·rw[if_neg h2,if_neg (by omega)]
   rw[e]at hs;have HS:=fX hs;have bk:h<wr.heap.size:=ad.out.lt;have hle:w.heap.size<=h:=by rw[HH.out];exact Nat.le_refl _
   clear hs e hx hq a3 hc;go_wp2;go_roundw
   case rel=>exact⟨i+1,by omega,by go_num,HS,fX (HB.out.setCell fZ _)⟩
   case measure=>simp[aP];omega
  ·obtain rfl:i=19:=by omega
   have a1:¬((19:Nat):Int)<19:=by omega
   have a5:gE wr wr.heap.size (some ⟨h,0,none⟩) 19 (fun i=>f (jD i)):=⟨fun j=>HR.out.1 _,fun _=>⟨h,0,rfl,ad.out.lt,fun j hj=>by rw[Nat.zero_add,ad.out.cell hj,if_pos hj]⟩⟩;have aU:=zj wr (some ⟨h,0,none⟩) 19 19 (fun i=>f (jD i)) 4 a5 fZ (by omega) (by omega);rw[<-HC.out]at aU;have bf:=fX aU;have bg:aQ (mN wr h 19 (fun i=>f (jD i))):=by
    obtain⟨cur,t,h1,h2⟩:=ad.out;exact fX ⟨cur,t,h1,fun j hj=>by rw[h2 j hj];show some (Value.int .u8 (((if j<19 then f (jD j)else 0:Nat)):Int))=_;rw[if_pos hj]⟩
   clear aU a5;go_wp2_with fail
   refine bf.out.mono ?_;rintro e w3 ⟨rfl,rfl⟩;go_wp2;go_ret;exact⟨rfl,bg.out,HB.out⟩
def iT(w:aq)(g n:Nat)(T:Nat->Nat)(t:aB):Prop:=w.heap[g]?=some (ak (gw (fun i=>((T i:Nat):Int)) n) t (0,0))
theorem iT.lt{w:aq}{g n:Nat}{T:Nat->Nat}{t:aB}(h:iT w g n T t):g<w.heap.size:=(Array.getElem?_eq_some_iff.1 h).1
theorem iT.cell{w:aq}{g n:Nat}{T:Nat->Nat}{t:aB}(h:iT w g n T t){i:Nat}(hi:i<n):w.cell? ⟨g,i,none⟩=some (ae aj ((T i:Nat):Int)):=by
 rw[aH w g i _ _ (0,0) h];exact sB _ n i hi
theorem iT.frozen{w:aq}{g n:Nat}{T:Nat->Nat}{t:aB}(h:iT w g n T t)(i:Nat):w.frozen? ⟨g,i,none⟩=false:=aO w g i _ _ h
theorem iT.below{w w':aq}{g n B:Nat}{T:Nat->Nat}{t:aB}(h:iT w g n T t)(hb:aR B w w')(hg:g<B):iT w' g n T t:=(hb.block g hg).trans h
theorem iT.drew{w:aq}{g n:Nat}{T:Nat->Nat}{t:aB}(h:iT w g n T t):iT w.drew g n T t:=h
theorem iT.set{w:aq}{g n:Nat}{T T':Nat->Nat}{t:aB}(h:iT w g n T t)(i x:Nat)(he:∀k,k<n->(if k=i then x else T k)=T' k):iT (w.setCell ⟨g,i,none⟩ (ae aj (x:Int))) g n T' t:=by
 unfold iT;rw[aN w g i _ _ _ h,tj];refine congrArg (fun a=>some (Obj.cells a t (0,0))) (ru fun k hk=>?_);rw[<-he k hk];split<;>rfl
theorem iT.rd{w:aq}{g n:Nat}{T:Nat->Nat}{t:aB}(h:iT w g n T t)(o m:Nat)(hm:o+m<=n):jq w w.heap.size (some ⟨g,o,none⟩) (jR (fun i=>T (o+i)) m):=by
 refine⟨by simp[jg,jR],fun _=>⟨g,o,rfl,h.lt,fun j u hu=>?_⟩⟩;have hj:j<m:=by
  rcases Nat.lt_or_ge j m with k|k
  ·exact k
  ·rw[List.getElem?_eq_none (by simpa[jg,jR]using k)]at hu;cases hu
 rw[h.cell (show o+j<n by omega),<-hu];simp[jg,jR,hj]
theorem zl{c:Nat->Nat}{n gy:Nat}(h1:1<=gy)(h2:gy<=15)(hn:n<=320)(ad:n<=2^gy)(hc:∀i,c i<=1073741824):o7 (jR c n) (gy:Int)=n/\nx (jR c n) (gy:Int)=lN c n gy:=by
 refine⟨?_,rfl⟩;unfold o7;rw[if_pos (xj h1 h2 hn ad hc),lT]
theorem Nc(w:aq)(A:Option au)(m c:Nat)(l:List (Int×Int))(hm:m=l.length)(hr:kx w w.heap.size A l)(bF:m<=1000000)(hs:∀r∈l,0<=r.1/\r.1<=18):
  aw prog 134 #[af A m c] w fun e w'=>∃A' c',e=ao (af A' 19 c')/\gE w' w'.heap.size A' 19 (lN (ku l) 19 7)/\19<=c'/\c'<=1000/\(A'=none->c'=0)/\(∀b o,A'=some ⟨b,o,none⟩->w.heap.size<=b)/\aR w.heap.size w w':=by
 have hz:=(zero_of_info uJ).1
 obtain⟨Z,hZ⟩:∃Z:Nat->Int,Z=fun _=>0:=⟨_,rfl⟩
 rw[<-hZ]at hz
 obtain⟨h,hh⟩:=fY (w.heap.size)
 obtain⟨W1,aS⟩:=fY (w.alloc (ak (gw Z 19) 193))
 have a8:aR h w W1:=by rw[aS,hh];exact gC.alloc fZ _
 have a9:iT W1 h 19 (ku (l.take 0)) 193:=by
  unfold iT;rw[aS,hh,aG,hZ];refine congrArg (fun a=>some (Obj.cells a 193 (0,0))) (ru fun k hk=>?_);simp[ku]
 have HM:=fX hm;have HR:=fX hr;have HS:=fX hs;have bp:=fX a8;have bq:=fX a9;have br:=fX aS;have HH:=fX hh
 clear hm hr hs a8 a9 aS hh hZ
 go_enter func134,ntmps134
 go_wp2_with (first|rw[<-br.out,<-HH.out]|fail)
 go_loopw [10] (fun iv wr=>∃i:Nat,i<=m/\iv=ae aj (i:Int)/\aQ (iT wr h 19 (ku (l.take i)) 193)/\aQ (aR h w wr)) (fun iv _=>m-(aP iv).toNat)
 case atStart=>exact⟨0,Nat.zero_le _,rfl,bq,bp⟩
 case round=>
  obtain⟨i,hi,rfl,al,HB⟩:=hrel;have hle:w.heap.size=h:=HH.out.symm;by_cases bt:i<m
  ·have bd:(i:Int)<(m:Int):=by omega
   have aT:i<l.length:=by rw[<-HM.out];exact bt
   have aY:kx wr h A l:=by have:=HR.out;rw[hle]at this;exact this.below HB.out fZ
   obtain⟨b,o,rfl,bG,hc⟩:=aY.at aT;have aZ:=aY.range rfl aT;obtain⟨s0,bf⟩:=HS.out _ (uR aT);have a1:=xJ aT;obtain⟨⟨s,x⟩,ht⟩:∃t,t=l.getD i oz:=⟨_,rfl⟩;rw[<-ht]at aZ s0 bf a1;dsimp only at s0 bf;obtain⟨q,rfl⟩:=Int.eq_ofNat_of_zero_le s0;obtain⟨W3,aU⟩:=fY (iq wr #[ae aj 0,ae aj 0] #[ae aj (q:Int),ae aj x] 192);have av:aR wr.heap.size wr W3:=by rw[aU];exact kN _ _ _ _
   have aW:W3.heap[wr.heap.size]?=some (ak #[ae aj (q:Int),ae aj x] 192 (0,0)):=by rw[aU];exact kY wr _ _ _
   have y0:W3.cell? ⟨wr.heap.size,0,none⟩=some (ae aj (q:Int)):=(aH W3 _ 0 _ _ (0,0) aW).trans rfl;have aV:=al.out.below av al.out.lt;have bg:q<19:=by omega
   have bH:(q:Int)<19:=by omega
   have k1:=aV.cell bg;have z1:=aV.frozen q;have bj:=qw (l.take i) q;have bu:(l.take i).length<=1000000:=by rw[List.length_take];have:=HM.out;omega
   obtain⟨C,hC⟩:=fY (ku (l.take i) q);have ad:=aV.set (T':=ku (l.take (i+1))) q (C+1) (fun k _=>by
    rw[a1,Bz,hC];by_cases hk:k=q
    ·subst hk;rw[if_pos rfl,if_pos rfl]
    ·rw[if_neg hk,if_neg (by dsimp only;omega)];omega)
   rw[<-hC]at k1 bj;have bx:=fX (show wr.rangeAt b (o+i*2) [ae aj (q:Int),ae aj x]from aZ);have bk:=fX ad;have a2:=fX (HB.out.trans (av.mono (by have:=al.out.lt;omega)));have bz:=fX aU
   have bI:C<=1000000:=by omega
   have eC:((C+1:Nat):Int)=(C:Int)+1:=by omega
   rw[eC]at ad;have a3:=fX ad;have bJ:h<wr.heap.size:=al.out.lt;clear aZ ad av aW aU a1 ht hC bj bu aV hc aY bk;go_wp2_with (first|refine aF rfl _ _ rfl b (o+i*2) rfl [ae aj (q:Int),ae aj x] _ bx.out underlying192 rfl kZ ?_|refine aC rfl _ _ _ rfl rfl wr.heap.size #[ae aj (q:Int),ae aj x] rfl rfl 192 #[ae aj 0,ae aj 0] (aG wr _) kZ rfl (by simp[Value.oneCell']) ?_;change wpList _ _ _ _ _ (iq wr #[ae aj 0,ae aj 0] #[ae aj (q:Int),ae aj x] 192);rw[<-bz.out])
   go_roundw
   case rel=>exact⟨i+1,by omega,by go_num,a3,fX (a2.out.setCell fZ _)⟩
   case measure=>simp[aP];omega
  ·obtain rfl:i=m:=by omega
   have bd:¬(i:Int)<(i:Int):=by omega
   have a4:=al.out;rw[HM.out,List.take_length]at a4;have a5:=a4.rd 0 19 (by omega);rw[show(fun i=>ku l (0+i))=ku l from funext fun i=>by rw[Nat.zero_add]]at a5;have a6:∀j,ku l j<=1000000:=fun j=>by have:=qw l j;have:=HM.out;omega
   have a7:=zi wr (some ⟨h,0,none⟩) 19 (jR (ku l) 19) 7 a5 (fun h=>by cases h) (by rw[lT];omega) (fun j hj=>by rw[lT]at hj;rw[ss _ hj];have:=a6 j;omega) (by omega) (by omega);obtain⟨e1,e2⟩:=zl (c:=ku l) (n:=19) (gy:=7) (by omega) (by omega) (by omega) (by decide) (fun j=>by have:=a6 j;omega);rw[show((7:Nat):Int)=7 from rfl]at e1 e2;rw[lT,e1,e2]at a7;have bA:=fX a7;clear a7 e1 e2 a6 a5 a4;go_wp2_with fail
   refine bA.out.mono ?_;rintro e w3 ⟨A',c',rfl,av,aX,bB,bC,bl,bm⟩;have bD:=fX bm;have bn:=fX aX;have bE:=fX bl;have a2:=fX (HB.out.trans (av.mono (by have:=al.out.lt;omega)))
   clear aX bl av bm;go_wp2;go_ret;exact⟨A',c',rfl,bn.out,bB,bC,bE.out,fun b o e=>by have:=bD.out b o e;have:=HB.out.size;omega,by rw[hle];exact a2.out⟩
def jC(M:Nat->Nat):Nat->Nat
 |0=>0
 |b+1=>jC M b+M b
def kI(M:Nat->Nat):Nat->Nat
 |0=>0
 |b+1=>kI M b+M b*jT b
def pN(l m f s o:Int)(M:Nat->Nat):Nat->Int:=fun i=>if i=0 then l else if i=1 then m else if i=2 then f else if i=3 then s else if i<18 then((M (i-4):Nat):Int)else o
def iu(l m f s o:Int)(M:Nat->Nat):Array ax:=gw (pN l m f s o M) 19
theorem zm:(prog.info? 198).map (fun i=>(i.zero,i.size))=some (some (ah (iu 0 0 0 0 0 (fun _=>0))),19):=by kernel_rfl
theorem qh(T:Nat->Int):(prog.info? 198).map (·.size)=some (gw T 19).size:=by rw[ij];kernel_rfl
def ie(w:aq)(g:Nat)(l m f s o:Int)(M:Nat->Nat):Prop:=w.heap[g]?=some (ak (iu l m f s o M) 198 (0,0))
section
variable {w w':aq} {g:Nat} {l m f s o:Int} {M:Nat->Nat}
theorem ie.lt(h:ie w g l m f s o M):g<w.heap.size:=(Array.getElem?_eq_some_iff.1 h).1
theorem ie.at(h:ie w g l m f s o M){i:Nat}(hi:i<19):w.cell? ⟨g,i,none⟩=some (ae aj (pN l m f s o M i)):=pU h hi
theorem ie.least(h:ie w g l m f s o M):w.cell? ⟨g,0,none⟩=some (ae aj l):=h.at (i:=0) (by omega)
theorem ie.gy(h:ie w g l m f s o M):w.cell? ⟨g,1,none⟩=some (ae aj m):=h.at (i:=1) (by omega)
theorem ie.first(h:ie w g l m f s o M):w.cell? ⟨g,2,none⟩=some (ae aj f):=h.at (i:=2) (by omega)
theorem ie.last(h:ie w g l m f s o M):w.cell? ⟨g,3,none⟩=some (ae aj s):=h.at (i:=3) (by omega)
theorem ie.own(h:ie w g l m f s o M):w.cell? ⟨g,18,none⟩=some (ae aj o):=h.at (i:=18) (by omega)
theorem ie.many(h:ie w g l m f s o M){b:Nat}(hb:b<14):w.cell? ⟨g,4+b,none⟩=some (ae aj ((M b:Nat):Int)):=by
 have:=h.at (i:=4+b) (by omega);have e:pN l m f s o M (4+b)=((M b:Nat):Int):=by
  unfold pN;rw[if_neg (by omega),if_neg (by omega),if_neg (by omega),if_neg (by omega),if_pos (by omega),show 4+b-4=b by omega]
 rw[e]at this;exact this
theorem ie.frozen(h:ie w g l m f s o M)(j:Nat):w.frozen? ⟨g,j,none⟩=false:=aO w g j _ _ h
theorem ie.below{B:Nat}(h:ie w g l m f s o M)(hb:aR B w w')(hg:g<B):ie w' g l m f s o M:=(hb.block g hg).trans h
theorem ie.drew(h:ie w g l m f s o M):ie w.drew g l m f s o M:=h
theorem ie.drewN(h:ie w g l m f s o M)(k:Nat):ie (w.drewN k) g l m f s o M:=h
end
theorem EL(w:aq)(l m f s o:Int)(M:Nat->Nat):ie (w.alloc (ak (iu l m f s o M) 198)) w.heap.size l m f s o M:=aG w _
theorem EM{B:Nat}{a w:aq}(h:aR B a w)(n:Nat):aR B a (w.drewN n):=⟨h.os,h.tape,h.output,h.size,h.block⟩
theorem EN(z b:Nat)(hz:z<=40000)(hb:b<14):wrap64 ((z:Int)*2^b)=((z*jT b:Nat):Int)/\z*jT b<=327680000:=by
 have e:(z:Int)*2^b=((z*2^b:Nat):Int):=by rw[Int.natCast_mul,Int.natCast_pow];rfl
 have h1:2^b<=2^13:=Nat.pow_le_pow_right (by omega) (by omega);have h2:z*2^b<=40000*2^13:=Nat.mul_le_mul hz h1;have h3:40000*2^13=327680000:=rfl;rw[e];unfold jT;generalize z*2^b=x at h2;unfold wrap64;omega
theorem EO(M:Nat->Nat){i:Nat}:∀d,jC M i<=jC M (i+d)
 |0=>Nat.le_refl _
 |d+1=>Nat.le_trans (EO M d) (Nat.le_add_right _ _)
theorem ER(M:Nat->Nat){i:Nat}:∀d,kI M i<=kI M (i+d)
 |0=>Nat.le_refl _
 |d+1=>Nat.le_trans (ER M d) (Nat.le_add_right _ _)
theorem v7(M:Nat->Nat){i j:Nat}(h:i<=j):jC M i<=jC M j:=by
 have:=EO M (i:=i) (j-i);rwa[show i+(j-i)=j by omega]at this
theorem ES(M:Nat->Nat){i j:Nat}(h:i<=j):kI M i<=kI M j:=by
 have:=ER M (i:=i) (j-i);rwa[show i+(j-i)=j by omega]at this
structure zn (l m f s o:Int) (M:Nat->Nat):Prop where
 l0:0<=l/\l<=1000
 f0:0<=f/\f<=1000
 o0:0<=o/\o<=1000
 s0:s<=1100
 m0:m<l+((kI M 14:Nat):Int)
 sC:(o=0/\s<f+((jC M 14:Nat):Int))\/(o≠0/\s<=f+((jC M 14:Nat):Int))
 EU:jC M 14<=40
 Nd:kI M 14<=40000
theorem Nf{M:Nat->Nat}{b:Nat}(hb:b<14):jC M b+M b<=jC M 14/\kI M b+M b*jT b<=kI M 14:=
 ⟨v7 M (i:=b+1) (by omega),ES M (i:=b+1) (by omega)⟩
section
variable {w:aq} {g:Nat} {l m f s o:Int} {M:Nat->Nat}
theorem ie.Ng(h:ie w g l m f s o M){j:Nat}(hj:j<14)(x:Nat):ie (w.setCell ⟨g,4+j,none⟩ (ae aj (x:Int))) g l m f s o (fun i=>if i=j then x else M i):=by
 unfold ie iu;rw[aN w g (4+j) _ _ _ h];unfold iu;rw[tj];refine congrArg (fun a=>some (Obj.cells a 198 (0,0))) (ru fun i hi=>?_);unfold pN;by_cases e:i=4+j
 ·subst e;rw[if_pos rfl,if_neg (by omega),if_neg (by omega),if_neg (by omega),if_neg (by omega),if_pos (by omega)];show(x:Int)=((if 4+j-4=j then x else M (4+j-4):Nat):Int)
  rw[if_pos (by omega)]
 ·rw[if_neg e];by_cases h4:i<4
  ·have:i=0\/i=1\/i=2\/i=3:=by omega
   rcases this with rfl|rfl|rfl|rfl<;>rfl
  ·rw[if_neg (show¬i=0 by omega),if_neg (show¬i=1 by omega),if_neg (show¬i=2 by omega),if_neg (show¬i=3 by omega),if_neg (show¬i=0 by omega),if_neg (show¬i=1 by omega),if_neg (show¬i=2 by omega),if_neg (show¬i=3 by omega)];show _=(if i<18 then((if i-4=j then x else M (i-4):Nat):Int)else o)
   rw[if_neg (show¬i-4=j by omega)]
theorem ie.setAt(h:ie w g l m f s o M){l' m' f' s' o':Int}(k:Nat)(x:Int)(he:∀i,i<19->(if i=k then x else pN l m f s o M i)=pN l' m' f' s' o' M i):ie (w.setCell ⟨g,k,none⟩ (ae aj x)) g l' m' f' s' o' M:=by
 unfold ie iu;rw[aN w g k _ _ _ h];unfold iu;rw[tj];exact congrArg (fun a=>some (Obj.cells a 198 (0,0))) (ru he)
theorem ie.Nh(h:ie w g l m f s o M)(x:Int):ie (w.setCell ⟨g,1,none⟩ (ae aj x)) g l x f s o M:=
 h.setAt 1 x fun i hi=>by
  unfold pN;by_cases e:i=1
  ·subst e;rfl
  ·rw[if_neg e];by_cases e0:i=0
   ·subst e0;rfl
   ·rw[if_neg e0,if_neg e,if_neg e0,if_neg e]
theorem ie.EW(h:ie w g l m f s o M)(x:Int):ie (w.setCell ⟨g,3,none⟩ (ae aj x)) g l m f x o M:=
 h.setAt 3 x fun i hi=>by
  unfold pN;by_cases e:i=3
  ·subst e;rfl
  ·rw[if_neg e,if_neg e,if_neg e]
theorem ie.Ni(h:ie w g l m f s o M)(x:Int):ie (w.setCell ⟨g,18,none⟩ (ae aj x)) g l m f s x M:=
 h.setAt 18 x fun i hi=>by
  unfold pN;by_cases e:i=18
  ·subst e;rfl
  ·rw[if_neg e];by_cases e0:i<18
   ·rw[if_pos e0,if_pos e0]
   ·omega
theorem ie.other(h:ie w g l m f s o M){p:au}(hp:g≠p.block)(u:ax):ie (w.setCell p u) g l m f s o M:=(Below.heap_setCell w p u g hp).trans h
end
theorem Nj(a b c d:Int):prog.built 198 [(0,ae aj a),(1,ae aj b),(2,ae aj c),(3,ae aj d)]=some (iu a b c d 0 (fun _=>0)):=by kernel_rfl
def n6(L:List Nat)(j:Nat):Nat->Nat:=fun i=>if i<j then L.getD i 0 else 0
theorem Nk(L:List Nat)(j:Nat):(fun i=>if i=j then L.getD j 0 else n6 L j i)=n6 L (j+1):=by
 funext i;unfold n6;by_cases e:i=j
 ·subst e;rw[if_pos rfl,if_pos (by omega)]
 ·rw[if_neg e];by_cases h:i<j
  ·rw[if_pos h,if_pos (by omega)]
  ·rw[if_neg h,if_neg (by omega)]
theorem Nl(L:List Nat):n6 L L.length=fun i=>L.getD i 0:=by
 funext i;unfold n6;by_cases h:i<L.length
 ·rw[if_pos h]
 ·rw[if_neg h,List.getD_eq_getElem?_getD,List.getElem?_eq_none (by omega)];rfl
def iC(L:List Nat):Nat->Nat:=fun i=>L.getD i 0
theorem EX(w:aq)(l f:Int)(A:Option au)(cap N:Nat)(L:List Nat)(hN:N=L.length)(a6:N<=14)(hr:jq w w.heap.size A (iN L))(hl:0<=l/\l<=1000)(hf:0<=f/\f<=1000)(hS:kI (iC L) N<=40000)(hC:jC (iC L) N<=40):
  aw prog 149 #[ae aj l,ae aj f,af A N cap] w fun e w'=>e=ao (ah (iu l (l-1+((kI (iC L) N:Nat):Int)) f (f-1+((jC (iC L) N:Nat):Int)) 0 (iC L)))/\aR w.heap.size w w':=by
 have hz:=(zero_of_info zm).1
 have HR:=fX hr;have HS:=fX hS;have HC:=fX hC;have HN:=fX hN
 obtain⟨a8,a9⟩:=hl
 obtain⟨bd,bf⟩:=hf
 clear hr hS hC hN
 obtain⟨V,hV⟩:=fY (iq (w.alloc (ak (iu 0 0 0 0 0 (fun _=>0)) 198)) (iu 0 0 0 0 0 (fun _=>0)) (iu l (l-1) f (f-1) 0 (fun _=>0)) 198)
 have v1:ie V (w.heap.size+1) l (l-1) f (f-1) 0 (fun _=>0):=by
  have:=kY (w.alloc (ak (iu 0 0 0 0 0 (fun _=>0)) 198)) (iu 0 0 0 0 0 (fun _=>0)) (iu l (l-1) f (f-1) 0 (fun _=>0)) 198;rw[World.size_alloc,<-hV]at this;exact this
 have bV:=kN (w.alloc (ak (iu 0 0 0 0 0 (fun _=>0)) 198)) (iu 0 0 0 0 0 (fun _=>0)) (iu l (l-1) f (f-1) 0 (fun _=>0)) 198
 rw[<-hV]at bV
 have v0:ie V w.heap.size 0 0 0 0 0 (fun _=>0):=(EL w 0 0 0 0 0 (fun _=>0)).below bV (by simp)
 have b0:aR w.heap.size w V:=(gC.alloc fZ _).trans (bV.mono (by simp))
 have hn:=(aG (w.alloc (ak (iu 0 0 0 0 0 (fun _=>0)) 198)) (ak (iu 0 0 0 0 0 (fun _=>0)) 198))
 rw[World.size_alloc]at hn
 have aV:((w.alloc (ak (iu 0 0 0 0 0 (fun _=>0)) 198)).alloc (ak (iu 0 0 0 0 0 (fun _=>0)) 198)).setRow (w.heap.size+1) (iu l (l-1) f (f-1) 0 (fun _=>0))=V:=by
  rw[hV];unfold iq;rw[World.size_alloc]
 have V0:=fX v0;have V1:=fX v1;have B0:=fX b0;have aZ:=fX hn;have a1:=fX aV
 clear v0 v1 b0 hn aV bV hV
 go_enter func149,ntmps149
 go_wp2_with (first
  |(refine aD rfl 198 #[(0,.tmp 10),(1,.tmp 12),(2,.tmp 13),(3,.tmp 15)] rfl (some 16) rfl (iu l (l-1) f (f-1) 0 (fun _=>0)) ?_ ?_;focus(simpa[Act.eval]using Nj l (l-1) f (f-1)))
  |(refine aC rfl _ _ _ rfl rfl (w.heap.size+1) (iu l (l-1) f (f-1) 0 (fun _=>0)) rfl rfl 198 (iu 0 0 0 0 0 (fun _=>0)) aZ.out (qh _) rfl (ke _ _) ?_;rw[a1.out])
  |fail)
 go_loopw [19] (fun iv wr=>∃j S C:Nat,j<=N/\S<=40000/\C<=40/\iv=ae aj (j:Int)/\aQ (S=kI (iC L) j)/\aQ (C=jC (iC L) j)/\aQ (ie wr w.heap.size 0 0 0 0 0 (fun _=>0))/\aQ (ie wr (w.heap.size+1) l (l-1+(S:Int)) f (f-1+(C:Int)) 0 (n6 L j))/\aQ (aR w.heap.size w wr)) (fun iv _=>N-(aP iv).toNat)
 case atStart=>
  refine⟨0,0,0,Nat.zero_le _,by omega,by omega,rfl,fX rfl,fX rfl,V0,fX ?_,B0⟩;have h0:n6 L 0=fun _=>0:=funext fun i=>if_neg (by omega)
  rw[h0];simpa using V1.out
 case round=>
  obtain⟨j,S,C,hj,hS,hC,rfl,aW,aX,K0,K1,al⟩:=hrel;by_cases aY:j<N
  ·have ad:j<14:=by omega
   obtain⟨b,o,rfl,_,hc⟩:=(HR.out.below al.out fZ).at (k:=j) (by rw[nM,<-HN.out];exact aY);have e1:=hc j (by rw[nM,<-HN.out];exact aY);rw[qX]at e1;obtain⟨q,hq⟩:=fY (L.getD j 0);rw[<-hq]at e1;have HQ:=fX hq;clear hq hc;have r1:=K1.out.many ad;have r2:=K1.out.frozen (4+j);have s1:=K1.out.Ng ad q;have r3:=s1.gy;have r4:=s1.frozen 1;have s2:=(s1.Nh (wrap64 (l-1+(S:Int)+wrap64 ((q:Int)*2^j)))).drew;have r5:=s2.last;have r6:=s2.frozen 3;have s3:=s2.EW (f-1+(C:Int)+(q:Int));have t3:=(((K0.out.other (p:=⟨w.heap.size+1,4+j,none⟩) (by simp) (ae aj (q:Int))).other (p:=⟨w.heap.size+1,1,none⟩) (by simp) (ae aj (wrap64 (l-1+(S:Int)+wrap64 ((q:Int)*2^j))))).drew).other (p:=⟨w.heap.size+1,3,none⟩) (by simp) (ae aj (f-1+(C:Int)+(q:Int)));have b3:=((((al.out.setCell (p:=⟨w.heap.size+1,4+j,none⟩) (by simp) (ae aj (q:Int))).setCell (p:=⟨w.heap.size+1,1,none⟩) (by simp) (ae aj (wrap64 (l-1+(S:Int)+wrap64 ((q:Int)*2^j))))).drew)).setCell (p:=⟨w.heap.size+1,3,none⟩) (by simp) (ae aj (f-1+(C:Int)+(q:Int)));have S3:=fX s3;have T3:=fX t3;have B3:=fX b3
   clear s1 s2 s3 t3 b3;have a7:q<=40:=by
    have h1:jC (iC L) (j+1)<=jC (iC L) N:=v7 _ (by omega);have h2:jC (iC L) (j+1)=jC (iC L) j+q:=by rw[HQ.out];rfl
    have:=HC.out;omega
   go_wp2;go_region;all_goals(
    go_wp2;go_roundw
    case rel=>
     obtain⟨g1,g2⟩:=EN q j (by omega) ad;have a2:kI (iC L) (j+1)=S+q*jT j:=by rw[aW.out,HQ.out];rfl
     have bg:kI (iC L) (j+1)<=40000:=Nat.le_trans (ES _ (by omega)) HS.out;have a3:jC (iC L) (j+1)=C+q:=by rw[aX.out,HQ.out];rfl
     have bj:jC (iC L) (j+1)<=40:=Nat.le_trans (v7 _ (by omega)) HC.out;have av:wrap64 (l-1+(S:Int)+wrap64 ((q:Int)*2^j))=l-1+((S+q*jT j:Nat):Int):=by rw[g1];unfold wrap64;omega
     have aS:f-1+(C:Int)+(q:Int)=f-1+((C+q:Nat):Int):=by omega
     have s3:=S3.out;have t3:=T3.out;have b3:=B3.out
     rw[av,aS]at s3;have hM:(fun i=>if i=j then q else n6 L j i)=n6 L (j+1):=by rw[HQ.out];exact Nk L j
     rw[hM]at s3;rw[av,aS]at t3 b3;rw[av,aS];exact⟨j+1,S+q*jT j,C+q,by omega,by omega,by omega,by go_num,fX a2.symm,fX a3.symm,fX t3,fX s3,fX b3⟩
    case measure=>simp[aP];omega)
  ·obtain rfl:j=N:=by omega
   obtain⟨m1,aT⟩:=fY (l-1+(S:Int));obtain⟨s1,aU⟩:=fY (f-1+(C:Int));have k1:=K1.out;rw[<-aT,<-aU]at k1;have K2:=fX k1;have a4:=fX aT;have a5:=fX aU
   clear k1 aT aU K1;go_wp2_with (first
    |(refine aE rfl _ _ rfl (w.heap.size+1) rfl _ (iu l m1 f s1 0 (n6 L j)) (0,0) _ K2.out underlying198 rfl (qh _) ?_)
    |(refine aC rfl _ _ _ rfl rfl w.heap.size (iu l m1 f s1 0 (n6 L j)) rfl rfl 198 (iu 0 0 0 0 0 (fun _=>0)) K0.out (qh _) rfl (ke _ _) ?_)
    |fail)
   refine aK (v:=ah (iu l m1 f s1 0 (n6 L j))) ?_ rfl ⟨?_,ln al.out fZ _⟩
   ·exact results_cell_row rfl _ _ w.heap.size _ _ (0,0) _ rfl (aI _ _ _ _ _ _ K0.out) underlying198 rfl (qh _)
   ·have hM:n6 L j=iC L:=by rw[HN.out];exact Nl L
    rw[hM,a4.out,a5.out,aW.out,aX.out]
def l5:List Nat:=[8,4,4,4,4,4]
def l7:List Nat:=[4,2,2,2,2,2,2,2,2,2,2,2,2,2]
theorem EY(w:aq)(Z:Array ax)(T:aB)(L:List Nat)(cs:Array ax)(h:cs.toList=jg (iN L)):
  jq ((w.alloc (ak Z T)).alloc (ak cs 3)) ((w.alloc (ak Z T)).alloc (ak cs 3)).heap.size (some ⟨w.heap.size+1,0,none⟩) (iN L)/\
  ((w.alloc (ak Z T)).alloc (ak cs 3)).heap[w.heap.size]?=some (ak Z T (0,0))/\aR w.heap.size w ((w.alloc (ak Z T)).alloc (ak cs 3))/\w.heap.size<((w.alloc (ak Z T)).alloc (ak cs 3)).heap.size:=by
 have h1:=FW (w.alloc (ak Z T)) (iN L) cs h
 have h2:((w.alloc (ak Z T)).alloc (ak cs 3)).heap[w.heap.size]?=some (ak Z T (0,0)):=(Below.heap_alloc _ _ _ (by simp)).trans (aG w _)
 refine⟨?_,h2,(gC.alloc fZ _).alloc (by simp) _,by simp;omega⟩
 rw[World.size_alloc w]at h1
 exact h1
theorem Nm(w:aq):aw prog 127 #[] w fun e w'=>e=ao (ah (iu 1 32768 0 29 0 (iC l7)))/\aR w.heap.size w w':=by
 have hz:=(zero_of_info zm).1;obtain⟨hr,v0,b0,al⟩:=EY w (iu 0 0 0 0 0 (fun _=>0)) 198 l7 #[ae aj 4,ae aj 2,ae aj 2,ae aj 2,ae aj 2,ae aj 2,ae aj 2,ae aj 2,ae aj 2,ae aj 2,ae aj 2,ae aj 2,ae aj 2,ae aj 2] rfl;have ad:=EX _ 1 0 _ 14 14 l7 rfl (by omega) hr (by omega) (by omega) (by decide) (by decide);have e1:(1:Int)-1+((kI (iC l7) 14:Nat):Int)=32768:=by decide
 have e2:(0:Int)-1+((jC (iC l7) 14:Nat):Int)=29:=by decide
 rw[e1,e2]at ad;obtain⟨V,hV⟩:=fY (((w.alloc (ak (iu 0 0 0 0 0 (fun _=>0)) 198)).alloc (ak #[ae aj 4,ae aj 2,ae aj 2,ae aj 2,ae aj 2,ae aj 2,ae aj 2,ae aj 2,ae aj 2,ae aj 2,ae aj 2,ae aj 2,ae aj 2,ae aj 2] 3)));rw[<-hV]at ad v0 b0 al;have HF:=fX ad;have V0:=fX v0;have B0:=fX b0;have HV:=fX hV.symm;have aS:=fX al
 clear ad v0 b0 hV hr e1 e2 al;obtain⟨X,hX⟩:=fY (iu 1 32768 0 29 0 (iC l7));obtain⟨x1,x2⟩:X.size=19/\X.all (·.oneCell')=true:=by rw[hX];exact⟨ij _ _,ke _ _⟩
 have x3:(prog.info? 198).map (·.size)=some X.size:=by rw[hX];exact qh _
 rw[<-hX]at HF⊢;clear hX;go_enter func127,ntmps127
 go_wp2_with fail
 rw[HV.out];refine HF.out.mono ?_;rintro e w1 ⟨rfl,av⟩;have aT:=(av.block w.heap.size aS.out).trans V0.out;have K1:=fX aT;have aU:=fX (B0.out.trans (av.mono (Nat.le_of_lt aS.out)))
 clear aT av;go_wp2_with (first
  |(refine aC rfl _ _ _ rfl rfl w.heap.size X rfl rfl 198 (iu 0 0 0 0 0 (fun _=>0)) K1.out x3 (by rw[x1];rfl) x2 ?_)
  |fail)
 refine aK (v:=ah X) ?_ rfl ⟨rfl,ln aU.out fZ _⟩;exact results_cell_row rfl _ _ w.heap.size _ _ (0,0) _ rfl (aI _ _ _ _ _ _ K1.out) underlying198 rfl x3
theorem Nn(w:aq):aw prog 125 #[] w fun e w'=>e=ao (ah (iu 3 258 257 285 258 (iC l5)))/\aR w.heap.size w w':=by
 have hz:=(zero_of_info zm).1;obtain⟨hr,v0,b0,aS⟩:=EY w (iu 0 0 0 0 0 (fun _=>0)) 198 l5 #[ae aj 8,ae aj 4,ae aj 4,ae aj 4,ae aj 4,ae aj 4] rfl;have al:=EX _ 3 257 _ 6 6 l5 rfl (by omega) hr (by omega) (by omega) (by decide) (by decide);have e1:(3:Int)-1+((kI (iC l5) 6:Nat):Int)=258:=by decide
 have e2:(257:Int)-1+((jC (iC l5) 6:Nat):Int)=284:=by decide
 rw[e1,e2]at al;obtain⟨V,hV⟩:=fY (((w.alloc (ak (iu 0 0 0 0 0 (fun _=>0)) 198)).alloc (ak #[ae aj 8,ae aj 4,ae aj 4,ae aj 4,ae aj 4,ae aj 4] 3)));rw[<-hV]at al v0 b0 aS;have HF:=fX al;have V0:=fX v0;have B0:=fX b0;have HV:=fX hV.symm;have aV:=fX aS
 clear al v0 b0 hV hr e1 e2 aS;obtain⟨MM,aW⟩:=fY (iC l5);rw[<-aW]at HF⊢;clear aW;go_enter func125,ntmps125
 go_wp2_with fail
 rw[HV.out];refine HF.out.mono ?_;rintro e w1 ⟨rfl,aT⟩;have av:ie w1 w.heap.size 0 0 0 0 0 (fun _=>0):=(aT.block w.heap.size aV.out).trans V0.out;have ad:aR w.heap.size w w1:=B0.out.trans (aT.mono (Nat.le_of_lt aV.out));have aU:w.heap.size≠w1.heap.size:=by have:=av.lt;omega
 obtain⟨U,hU⟩:=fY (iq w1 (iu 0 0 0 0 0 (fun _=>0)) (iu 3 258 257 284 0 MM) 198);have u1:ie U w1.heap.size 3 258 257 284 0 MM:=by rw[hU];exact kY _ _ _ _
 have bU:aR w1.heap.size w1 U:=by rw[hU];exact kN _ _ _ _
 have u0:ie U w.heap.size 0 0 0 0 0 (fun _=>0):=av.below bU av.lt;have f1:=u1.frozen 18;have k1:=u1.own;have u2:=u1.Ni 258;have f2:=u2.frozen 3;have k2:=u2.last;have u3:=u2.EW 285;have z3:=(u0.other (p:=⟨w1.heap.size,18,none⟩) aU (ae aj 258)).other (p:=⟨w1.heap.size,3,none⟩) aU (ae aj 285);have aX:=((ad.trans (bU.mono ad.size)).setCell (p:=⟨w1.heap.size,18,none⟩) ad.size (ae aj 258)).setCell (p:=⟨w1.heap.size,3,none⟩) ad.size (ae aj 285);have HU:=fX hU.symm;have U3:=fX u3;have Z3:=fX z3;have aY:=fX aX
 clear av ad aU hU u1 bU u0 u2 u3 z3 aX aT;go_wp2_with (first
  |(refine aC rfl _ _ _ rfl rfl w1.heap.size (iu 3 258 257 284 0 MM) rfl rfl 198 (iu 0 0 0 0 0 (fun _=>0)) (aG w1 _) (qh _) rfl (ke _ _) ?_;change wpList _ _ _ _ _ (iq w1 (iu 0 0 0 0 0 (fun _=>0)) (iu 3 258 257 284 0 MM) 198);rw[HU.out])
  |(refine aE rfl _ _ rfl w1.heap.size rfl _ (iu 3 258 257 285 258 MM) (0,0) _ U3.out underlying198 rfl (qh _) ?_)
  |(refine aC rfl _ _ _ rfl rfl w.heap.size (iu 3 258 257 285 258 MM) rfl rfl 198 (iu 0 0 0 0 0 (fun _=>0)) Z3.out (qh _) rfl (ke _ _) ?_)
  |fail)
 refine aK (v:=ah (iu 3 258 257 285 258 MM)) ?_ rfl ⟨rfl,ln aY.out fZ _⟩;exact results_cell_row rfl _ _ w.heap.size _ _ (0,0) _ rfl (aI _ _ _ _ _ _ Z3.out) underlying198 rfl (qh _)
theorem No:zn 3 258 257 285 258 (iC l5):=⟨by omega,by omega,by omega,by omega,by decide,.inr (by decide),by decide,by decide⟩
theorem Np:zn 1 32768 0 29 0 (iC l7):=⟨by omega,by omega,by omega,by omega,by decide,.inl (by decide),by decide,by decide⟩
theorem Nq:∀b,b<14->∀z,z<iC l5 b->jC (iC l5) b+z<28/\ib (jC (iC l5) b+z)=3+(kI (iC l5) b+z*jT b)/\kB (jC (iC l5) b+z)=b:=by decide+kernel
theorem Nr:∀b,b<14->∀z,z<iC l7 b->jC (iC l7) b+z<30/\il (jC (iC l7) b+z)=1+(kI (iC l7) b+z*jT b)/\kK (jC (iC l7) b+z)=b:=by decide+kernel
theorem Ns(a b:Nat)(ha:a<9223372036854775808)(hb:b<9223372036854775808):bits .and aj (a:Int) (b:Int)=((a&&&b:Nat):Int):=by
 have hx:a&&&b<2^63:=Nat.and_lt_two_pow _ (by omega);show IntKind.i64.wrap ((BitVec.ofInt 64 (a:Int)&&&BitVec.ofInt 64 (b:Int)).toNat:Int)=_
 rw[BitVec.toNat_and,n9 64 a (by omega),n9 64 b (by omega),IntKind.wrap_i64];have e:(2:Nat)^63=9223372036854775808:=rfl;generalize a&&&b=x at hx⊢;omega
theorem Nt(z b:Nat)(hz:z<=40000)(hb:b<14):bits .and aj (z:Int) (wrap64 (wrap64 ((2:Int)^b)-1))=((z%jT b:Nat):Int):=by
 have e:(2:Int)^b=((2^b:Nat):Int):=by rw[Int.natCast_pow];rfl
 have h1:2^b<=2^13:=Nat.pow_le_pow_right (by omega) (by omega);have h0:0<2^b:=Nat.pow_pos (by omega);have e2:wrap64 (wrap64 ((2:Int)^b)-1)=((2^b-1:Nat):Int):=by
  rw[e];generalize 2^b=x at h1 h0;unfold wrap64;omega
 rw[e2,Ns z _ (by omega) (by omega),Nat.and_two_pow_sub_one_eq_mod];rfl
def oX(l m f s o:Int)(M:Nat->Nat)(n:Int)(e:Ending):Prop:=
 if n<l\/m<n then e=ao (.tuple #[ae aj 0,ae aj 0,ae aj 0,ae aj 2])else
 if n=o then e=ao (.tuple #[ae aj s,ae aj 0,ae aj 0,ae aj 0])else
 ∃b z:Nat,b<14/\z<M b*jT b/\n=l+((kI M b+z:Nat):Int)/\e=ao (.tuple #[ae aj (f+((jC M b+z/jT b:Nat):Int)),ae aj (b:Int),ae aj ((z%jT b:Nat):Int),ae aj 0])
theorem EZ(w:aq)(l m f s o:Int)(M:Nat->Nat)(hk:zn l m f s o M)(n:Int):
  aw prog 126 #[ah (iu l m f s o M),ae aj n] w fun e w'=>oX l m f s o M n e/\aR w.heap.size w w':=by
 have ad:=EL w l m f s o M
 have hb:aR w.heap.size w (w.alloc (ak (iu l m f s o M) 198)):=gC.alloc fZ _
 have k0:=ad.least
 have k1:=ad.gy
 have k2:=ad.first
 have k3:=ad.last
 have k4:=ad.own
 have a1:=fX ad;have HB:=fX hb;have HK:=fX hk
 clear ad hb hk
 by_cases y0:n<l
 ·have d0:decide (n<l)=true:=lV y0;go_enter func126,ntmps126
  go_wp2;refine aK (ou rfl _ _ _) rfl ?_;exact⟨by unfold oX;rw[if_pos (.inl y0)];rfl,HB.out⟩
 have d0:decide (n<l)=false:=me y0
 by_cases y1:m<n
 ·have d1:decide (m<n)=true:=lV y1;go_enter func126,ntmps126
  go_wp2;refine aK (ou rfl _ _ _) rfl ?_;exact⟨by unfold oX;rw[if_pos (.inr y1)];rfl,HB.out⟩
 have d1:decide (m<n)=false:=me y1
 have al:¬(n<l\/m<n):=by omega
 by_cases y2:n=o
 ·subst y2;have d2:(n==n)=true:=by simp
  have HN:=fX al;clear al;go_enter func126,ntmps126
  go_wp2;refine aK (ou rfl _ _ _) rfl ?_;exact⟨by unfold oX;rw[if_neg HN.out,if_pos rfl];rfl,HB.out⟩
 have d2:(n==o)=false:=by simpa using y2
 obtain⟨a8,a9⟩:=HK.out.l0
 obtain⟨bd,bf⟩:=HK.out.f0
 have av:=HK.out.Nd
 have a2:=HK.out.m0
 have a3:0<=n-l/\n-l<=40000/\n-l<((kI M 14:Nat):Int):=by omega
 obtain⟨bg,bj,aS⟩:=a3
 have HN:=fX al;have H3:=fX aS;have HO:=fX y2
 clear av a2 al aS y2
 go_enter func126,ntmps126
 go_wp2
 go_quiet (fail)
 go_wp2
 go_loopw [4,5,8] (fun sv bv fv wr=>∃b z C:Nat,b<14/\z<=40000/\C<=40/\sv=ae aj (f+(C:Int))/\bv=ae aj (b:Int)/\fv=ae aj (z:Int)/\aQ (C=jC M b)/\aQ (n=l+((kI M b+z:Nat):Int))/\aQ (ie wr w.heap.size l m f s o M)/\aQ (aR w.heap.size w wr)) (fun _ bv _ _=>14-(aP bv).toNat)
 case atStart=>
  refine⟨0,(n-l).toNat,0,by omega,by omega,by omega,by simp,rfl,?_,fX rfl,fX ?_,fX (a1.out.drewN _),fX (EM HB.out _)⟩
  ·exact kJ (by omega)
  ·show n=l+((0+(n-l).toNat:Nat):Int);omega
 case round=>
  obtain⟨b,z,C,hb,hz,hC,rfl,rfl,rfl,aT,HY,aU,aV⟩:=hrel;have c1:=aU.out.many hb;obtain⟨q,hq⟩:=fY (M b);rw[<-hq]at c1;have HQ:=fX hq;clear hq;have a7:q<=40:=by
   rw[HQ.out];have:=(Nf (M:=M) hb).1;have:=HK.out.EU;omega
  obtain⟨g1,g2⟩:=EN q b (by omega) hb;obtain⟨P,hP⟩:=fY (q*jT b);rw[<-hP]at g1 g2;have HP:=fX hP;have G1:=fX g1
  clear hP g1;by_cases bk:P<=z
  ·have aW:(P:Int)<=(z:Int):=by omega
   have hd:decide (wrap64 ((q:Int)*2^b)<=(z:Int))=true:=by rw[G1.out];exact lV aW
   go_wp2;go_roundw
   case rel=>
    have aX:b+1<14:=by
     rcases Nat.lt_or_ge (b+1) 14 with h|h
     ·exact h
     ·exfalso;have a4:b=13:=by omega
      have h1:=H3.out;have h2:=HY.out
      have h3:kI M 14=kI M 13+M 13*jT 13:=rfl;have h4:=HP.out;rw[a4]at h2 h4 HQ;rw[HQ.out]at h4;omega
    have a5:kI M (b+1)=kI M b+P:=by rw[HP.out,HQ.out];rfl
    have a6:jC M (b+1)=C+q:=by rw[HQ.out,aT.out];rfl
    have bl:jC M (b+1)<=40:=Nat.le_trans (v7 M (by omega)) HK.out.EU;refine⟨b+1,z-P,C+q,aX,by omega,by omega,kJ (by omega),by go_num,kJ ?_,fX a6.symm,fX ?_,aU,aV⟩
    ·rw[G1.out];unfold wrap64;omega
    ·rw[HY.out,a5];omega
   case measure=>simp[aP];omega
  ·have hd:decide (wrap64 ((q:Int)*2^b)<=(z:Int))=false:=by rw[G1.out];exact me (by omega)
   have aY:(z:Int)/2^b=((z/jT b:Nat):Int)/\z/jT b<=40000:=by
    have e:(2:Int)^b=((2^b:Nat):Int):=by rw[Int.natCast_pow];rfl
    refine⟨by rw[e];rfl,Nat.le_trans (Nat.div_le_self _ _) hz⟩
   have aZ:=fX aY;clear aY;go_wp2;go_quiet (fail)
   go_wp2;refine aK (ou rfl _ _ _) rfl ?_;refine⟨?_,EM aV.out _⟩;unfold oX;rw[if_neg HN.out,if_neg HO.out];refine⟨b,z,hb,by rw[<-HQ.out,<-HP.out];omega,HY.out,?_⟩;have e1:wrap64 (f+(C:Int)+(z:Int)/2^b)=f+((jC M b+z/jT b:Nat):Int):=by
    rw[aZ.out.1,<-aT.out];have:=aZ.out.2;generalize z/jT b=x at this;unfold wrap64;omega
   rw[e1,Nt z b hz hb];rfl
theorem Nu{n:Int}{e:Ending}(h:oX 3 258 257 285 258 (iC l5) n e):e=ao (.tuple #[ae aj (ji n),ae aj (kq n),ae aj (kC n),ae aj (ny n)]):=by
 unfold oX at h;by_cases h1:n<3\/258<n
 ·rw[if_pos h1]at h;have hk:¬(3<=n/\n<=258):=by omega
  unfold ji kq kC ny;rw[if_neg hk,if_neg hk,if_neg hk,if_neg hk];exact h
 ·rw[if_neg h1]at h;have hk:3<=n/\n<=258:=by omega
  by_cases h2:n=258
  ·rw[if_pos h2]at h;subst h2;exact h
  ·rw[if_neg h2]at h;obtain⟨b,z,hb,hz,hn,he⟩:=h;have hp:0<jT b:=Nat.pow_pos (by omega);have hd:z/jT b<iC l5 b:=Nat.div_lt_of_lt_mul (by rw[Nat.mul_comm];exact hz);obtain⟨g1,g2,g3⟩:=Nq b hb _ hd;have hm:=Nat.mod_lt z hp;have ad:=Nat.div_add_mod z (jT b);rw[Nat.mul_comm]at ad;obtain⟨i,hi⟩:=fY (jC (iC l5) b+z/jT b);rw[<-hi]at g1 g2 g3 he;obtain⟨x,hx⟩:=fY (z%jT b);rw[<-hx]at hm ad he;have hT:n=((ib i+x:Nat):Int):=by omega
   have al:¬(i=27/\x=31):=by
    rintro⟨rfl,rfl⟩;have e1:ib 27=227:=rfl;omega
   obtain⟨q1,_,_⟩:=GL (i:=i) (x:=x) (by omega) (by rw[g3];exact hm) al;have eI:pf n=i:=by rw[hT];exact q1
   have e2:n.toNat-ib i=x:=by omega
   unfold ji kq kC ny;rw[if_pos hk,if_pos hk,if_pos hk,if_pos hk,eI,g3,e2,he];rw[show((257:Int)+(i:Int))=((257+i:Nat):Int) by omega]
theorem Nv{n:Int}{e:Ending}(h:oX 1 32768 0 29 0 (iC l7) n e):e=ao (.tuple #[ae aj (iV n),ae aj (kr n),ae aj (kL n),ae aj (nz n)]):=by
 unfold oX at h;by_cases h1:n<1\/32768<n
 ·rw[if_pos h1]at h;have hk:¬(1<=n/\n<=32768):=by omega
  unfold iV kr kL nz;rw[if_neg hk,if_neg hk,if_neg hk,if_neg hk];exact h
 ·rw[if_neg h1]at h;have hk:1<=n/\n<=32768:=by omega
  rw[if_neg (by omega)]at h;obtain⟨b,z,hb,hz,hn,he⟩:=h;have hp:0<jT b:=Nat.pow_pos (by omega);have hd:z/jT b<iC l7 b:=Nat.div_lt_of_lt_mul (by rw[Nat.mul_comm];exact hz);obtain⟨g1,g2,g3⟩:=Nr b hb _ hd;have hm:=Nat.mod_lt z hp;have ad:=Nat.div_add_mod z (jT b);rw[Nat.mul_comm]at ad;obtain⟨i,hi⟩:=fY (jC (iC l7) b+z/jT b);rw[<-hi]at g1 g2 g3 he;obtain⟨x,hx⟩:=fY (z%jT b);rw[<-hx]at hm ad he;have hT:n=((il i+x:Nat):Int):=by omega
  obtain⟨q1,_,_⟩:=GM (i:=i) (x:=x) (by omega) (by rw[g3];exact hm);have eI:pg n=i:=by rw[hT];exact q1
  have e2:n.toNat-il i=x:=by omega
  unfold iV kr kL nz;rw[if_pos hk,if_pos hk,if_pos hk,if_pos hk,eI,g3,e2,he];rw[Int.zero_add]
theorem E0(w:aq)(n:Int):aw prog 99 #[ae aj n] w fun e w'=>e=ao (.tuple #[ae aj (ji n),ae aj (kq n),ae aj (kC n),ae aj (ny n)])/\aR w.heap.size w w':=by
 obtain⟨X,hX⟩:=fY (iu 3 258 257 285 258 (iC l5));have hs:=fun v=>EZ v 3 258 257 285 258 (iC l5) No n
 have hk:=Nn w;rw[<-hX]at hk hs;have HM:=fX hk;have HS:=fX hs
 obtain⟨z0,ad⟩:=fY (ji n);obtain⟨z1,al⟩:=fY (kq n);obtain⟨z2,av⟩:=fY (kC n);obtain⟨z3,aS⟩:=fY (ny n);have hy:∀e,oX 3 258 257 285 258 (iC l5) n e->e=ao (.tuple #[ae aj z0,ae aj z1,ae aj z2,ae aj z3]):=fun e h=>by rw[ad,al,av,aS];exact Nu h
 rw[<-ad,<-al,<-av,<-aS];have HY:=fX hy;clear ad al av aS hX hk hs hy;go_enter func99,ntmps99
 go_wp2_with fail
 refine HM.out.mono ?_;rintro e w1 ⟨rfl,aT⟩;have aU:=fX aT;clear aT;go_wp2_with fail
 refine(HS.out w1).mono ?_;rintro e w2 ⟨he,aV⟩;obtain rfl:=HY.out _ he;have aW:=fX (aU.out.trans (aV.mono aU.out.size));clear aV he;go_wp2;refine aK (ou rfl _ _ _) rfl ?_;exact⟨rfl,aW.out⟩
theorem E4(w:aq)(n:Int):aw prog 100 #[ae aj n] w fun e w'=>e=ao (.tuple #[ae aj (iV n),ae aj (kr n),ae aj (kL n),ae aj (nz n)])/\aR w.heap.size w w':=by
 obtain⟨X,hX⟩:=fY (iu 1 32768 0 29 0 (iC l7));have hs:=fun v=>EZ v 1 32768 0 29 0 (iC l7) Np n
 have hk:=Nm w;rw[<-hX]at hk hs;have HM:=fX hk;have HS:=fX hs
 obtain⟨z0,ad⟩:=fY (iV n);obtain⟨z1,al⟩:=fY (kr n);obtain⟨z2,av⟩:=fY (kL n);obtain⟨z3,aS⟩:=fY (nz n);have hy:∀e,oX 1 32768 0 29 0 (iC l7) n e->e=ao (.tuple #[ae aj z0,ae aj z1,ae aj z2,ae aj z3]):=fun e h=>by rw[ad,al,av,aS];exact Nv h
 rw[<-ad,<-al,<-av,<-aS];have HY:=fX hy;clear ad al av aS hX hk hs hy;go_enter func100,ntmps100
 go_wp2_with fail
 refine HM.out.mono ?_;rintro e w1 ⟨rfl,aT⟩;have aU:=fX aT;clear aT;go_wp2_with fail
 refine(HS.out w1).mono ?_;rintro e w2 ⟨he,aV⟩;obtain rfl:=HY.out _ he;have aW:=fX (aU.out.trans (aV.mono aU.out.size));clear aV he;go_wp2;refine aK (ou rfl _ _ _) rfl ?_;exact⟨rfl,aW.out⟩
def nH(t:gA):Nat:=if t.n=0 then 0 else(kq t.n).toNat+(kr t.d).toNat
def lD(l:List gA):Nat:=(l.map nH).sum
theorem E5(l:List gA)(t:gA):lD (l++[t])=lD l+nH t:=by unfold lD;simp
def my(l:List gA)(i:Nat):Nat:=if i<286 then l.countP (fun t=>decide (jt t=i))else if i<316 then ix l (i-286)else lD l
theorem Nw(l:List gA)(t:gA)(i:Nat):my (l++[t]) i=my l i+(if i<286 then(if jt t=i then 1 else 0)else if i<316 then(if t.n≠0/\kV t=i-286 then 1 else 0)else nH t):=by
 unfold my;split
 ·rw[List.countP_append,List.countP_singleton];simp only[decide_eq_true_eq]
 ·split
  ·rw[uD]
  ·rw[E5]
theorem Nx(l:List gA)(i:Nat)(hi:i<316):my l i<=l.length:=by
 unfold my;split
 ·exact List.countP_le_length
 ·exact qu _ _
theorem Ny{t:gA}(h:gS t=true)(hx:t.x<256):nH t<=18:=by
 unfold nH;by_cases h0:t.n=0
 ·rw[if_pos h0];omega
 ·rw[if_neg h0];obtain⟨ad,al,_⟩:=(lU h hx).2.2 h0;obtain⟨_,_,_,_,_,_,p3,p4⟩:=rf ad;obtain⟨_,_,_,_,_,_,q3,q4⟩:=rh al;omega
theorem zo:∀l:List gA,(∀t∈l,gS t=true/\t.x<256)->lD l<=18*l.length
 |[],_=>by simp[lD]
 |t::l,h=>by
  have h1:=Ny (h t List.mem_cons_self).1 (h t List.mem_cons_self).2;have h2:=zo l fun u hu=>h u (List.mem_cons_of_mem _ hu)
  have e:lD (t::l)=nH t+lD l:=by simp[lD]
  rw[e,List.length_cons];omega
def kR(l:List gA)(i:Nat):Nat:=if i=256 then 1 else my l i
theorem E6{l:List gA}(h:∀t∈l,gS t=true/\t.x<256){i:Nat}(hi:i<286):kR l i=iF l i:=by
 unfold kR iF my;by_cases e:i=256
 ·subst e;rw[if_pos rfl,if_pos rfl];have:l.countP (fun t=>decide (jt t=256))=0:=by
   rw[List.countP_eq_zero];intro t ht;obtain⟨_,h1,h2⟩:=lU (h t ht).1 (h t ht).2;have hx:=(h t ht).2;simp only[decide_eq_true_eq];by_cases h0:t.n=0
   ·have:=h1 h0;omega
   ·have:=(h2 h0).2.2.1;omega
  omega
 ·rw[if_neg e,if_pos hi,if_neg e];omega
theorem E7(l:List gA){i:Nat}(hi:i<30):kR l (286+i)=ix l i:=by
 unfold kR my;rw[if_neg (by omega),if_neg (by omega),if_pos (by omega),show 286+i-286=i by omega]
theorem Nz(l:List gA):kR l 316=lD l:=by
 unfold kR my;rw[if_neg (by omega),if_neg (by omega),if_neg (by omega)]
theorem NC:prog.built 159 []=some (gw (fun _=>0) 317):=by kernel_rfl
theorem zp(w:aq)(A:Option au)(m c:Nat)(l:List gA)(hm:m=l.length)(hr:jL w w.heap.size A l)(cA:m<=1000000)(bH:∀t∈l,gS t=true/\t.x<256):
  aw prog 77 #[af A m c] w fun e w'=>e=ao (ag (some ⟨w.heap.size,0,none⟩))/\iT w' w.heap.size 317 (kR l) 159/\aR w.heap.size w w':=by
 have bp:=NC
 obtain⟨Z,hZ⟩:∃Z:Array ax,Z=gw (fun _=>0) 317:=⟨_,rfl⟩
 rw[<-hZ]at bp
 obtain⟨h,hh⟩:=fY (w.heap.size)
 obtain⟨W1,a5⟩:=fY (w.alloc (ak Z 159))
 have bI:aR h w W1:=by rw[a5,hh];exact gC.alloc fZ _
 have bJ:iT W1 h 317 (my (l.take 0)) 159:=by
  unfold iT;rw[a5,hh,aG,hZ];refine congrArg (fun a=>some (Obj.cells a 159 (0,0))) (ru fun k hk=>?_);simp[my,ix,lD]
 rw[<-hh]at hr⊢
 have HM:=fX hm;have HR:=fX hr;have bK:=fX bH;have b7:=fX bI;have b8:=fX bJ;have b9:=fX a5;have HH:=fX hh;have ca:=fX bp
 clear hm hr bH bI bJ a5 hh hZ bp
 go_enter func77,ntmps77
 go_wp2_with (first|(refine aD rfl 159 #[] rfl (some 14) rfl Z ?_ ?_;focus(simpa[Act.eval]using ca.out))|rw[<-b9.out,<-HH.out]|fail)
 go_loopw [18] (fun iv wr=>∃i:Nat,i<=m/\iv=ae aj (i:Int)/\aQ (iT wr h 317 (my (l.take i)) 159)/\aQ (aR h w wr)) (fun iv _=>m-(aP iv).toNat)
 case atStart=>exact⟨0,Nat.zero_le _,rfl,b8,b7⟩
 case round=>
  obtain⟨i,hi,rfl,bq,HB⟩:=hrel;have hle:w.heap.size=h:=HH.out.symm;have cB:h<wr.heap.size:=bq.out.lt;by_cases cb:i<m
  ·have bL:(i:Int)<(m:Int):=by omega
   have aY:i<l.length:=by rw[<-HM.out];exact cb
   have a6:jL wr h A l:=HR.out.below HB.out fZ;obtain⟨b,o,rfl,cC,hc⟩:=a6.at aY;have a7:=a6.range rfl aY;have aZ:l.getD i iE∈l:=by rw[List.getD_eq_getElem?_getD,List.getElem?_eq_getElem aY];exact List.getElem_mem aY
   obtain⟨aS,aU⟩:=bK.out _ aZ;have a8:=Qb aY;have bM:(l.take i).length<=1000000:=by rw[List.length_take];omega
   have a1:∀t∈l.take i,gS t=true/\t.x<256:=fun t ht=>bK.out t (List.mem_of_mem_take ht)
   have br:=zo _ a1;obtain⟨t,ht⟩:=fY (l.getD i iE);rw[<-ht]at a7 aS aU a8;have ad:=Nw (l.take i) t;rw[<-a8]at ad;have aT:=Nx (l.take i);have a2:my (l.take i) 316=lD (l.take i):=by unfold my;rw[if_neg (by omega),if_neg (by omega)]
   obtain⟨C,hC⟩:=fY (my (l.take i));have hr:=bq.out;rw[<-hC]at ad aT a2 hr;obtain⟨W3,a3⟩:=fY (iq wr #[ae .u8 0,ae aj 0,ae aj 0] (jb t).toArray 128);have a9:aR wr.heap.size wr W3:=by rw[a3];exact kN _ _ _ _
   have av:W3.heap[wr.heap.size]?=some (ak (jb t).toArray 128 (0,0)):=by rw[a3];exact kY wr _ _ _
   have y0:W3.cell? ⟨wr.heap.size,0,none⟩=some (ae .u8 (t.x:Int)):=(aH W3 _ 0 _ _ (0,0) av).trans rfl;have y1:W3.cell? ⟨wr.heap.size,1,none⟩=some (ae aj t.d):=(aH W3 _ 1 _ _ (0,0) av).trans rfl;have y2:W3.cell? ⟨wr.heap.size,2,none⟩=some (ae aj t.n):=(aH W3 _ 2 _ _ (0,0) av).trans rfl;have aV:=hr.below a9 hr.lt;have bN:=fX a7;have bt:=fX ad;have bO:=fX aT;have cf:=fX a2;have cg:=fX br;have cD:=fX aS;have bu:=fX aV;have bd:=fX (HB.out.trans (a9.mono (by omega)));have bP:=fX a3
   have bQ:wr.heap.size<W3.heap.size:=(Array.getElem?_eq_some_iff.1 av).1;by_cases h0:t.n=0
   ·have ch:(t.n==0)=true:=by rw[h0];rfl
    obtain⟨bx,bR,_⟩:=lU aS aU;have bS:=bR h0;have k1:=aV.cell (i:=t.x) (by omega);have z1:=aV.frozen t.x;have bT:=aT t.x (by omega);have al:=aV.set (T':=my (l.take (i+1))) t.x (C t.x+1) (fun k hk=>by
     rw[ad k,bS];have e1:nH t=0:=by unfold nH;rw[if_pos h0]
     rw[e1];by_cases bz:k=t.x
     ·subst bz;rw[if_pos rfl,if_pos (by omega),if_pos rfl]
     ·rw[if_neg bz];by_cases h1:k<286
      ·rw[if_pos h1,if_neg (fun e=>bz e.symm)];rfl
      ·rw[if_neg h1];by_cases h2:k<316
       ·rw[if_pos h2,if_neg (fun e=>e.1 h0)];rfl
       ·rw[if_neg h2];rfl)
    obtain⟨q,hq⟩:=fY (t.x);obtain⟨V,hV⟩:=fY (C q);rw[<-hq]at k1 z1 bT al y0 aU;rw[<-hV]at k1 al bT;have eV:((V+1:Nat):Int)=(V:Int)+1:=by omega
    rw[eV]at al;have cE:V<=1000000:=by omega
    have cw:(q:Int)<286:=by omega
    have a4:=fX al.drew;clear a7 ad aT a2 br aV a9 av a3 a8 ht hC bM a1 a6 hc hr al hV hq bx bR bS aZ aS bO;go_wp2_with (first|refine aF rfl _ _ rfl b (o+i*3) rfl (jb t) _ bN.out underlying128 rfl sF ?_|refine aC rfl _ _ _ rfl rfl wr.heap.size (jb t).toArray rfl rfl 128 #[ae .u8 0,ae aj 0,ae aj 0] (aG wr _) (sW _) rfl (tQ _) ?_;change wpList _ _ _ _ _ (iq wr #[ae .u8 0,ae aj 0,ae aj 0] (jb t).toArray 128);rw[<-bP.out])
    go_region;go_wp2;go_roundw
    case rel=>exact⟨i+1,by omega,by go_num,a4,fX (bd.out.setCell fZ _).drew⟩
    case measure=>simp[aP];omega
   ·have ch:(t.n==0)=false:=by rw[beq_eq_false_iff_ne];exact h0
    obtain⟨_,_,bU⟩:=lU aS aU;obtain⟨bf,bg,cj,ck⟩:=bU h0;have bx:=(lU aS aU).1;obtain⟨_,_,_,_,_,_,p3,p4⟩:=rf bf;obtain⟨_,_,_,_,_,_,q3,q4⟩:=rh bg;obtain⟨S,hS⟩:=fY (jt t);obtain⟨D,hD⟩:=fY (kV t);have eS:ji t.n=(S:Int):=by
     have h5:3<=t.n/\t.n<=258:=wZ bf;have:0<=ji t.n:=by unfold ji;rw[if_pos h5];omega
     rw[hS];unfold jt;rw[if_neg h0];omega
    have eD:iV t.d=(D:Int):=by
     have h5:1<=t.d/\t.d<=32768:=xc bg;have:0<=iV t.d:=by unfold iV;rw[if_pos h5];omega
     rw[hD];unfold kV;omega
    obtain⟨u,eu⟩:=Int.eq_ofNat_of_zero_le p3;obtain⟨v,ev⟩:=Int.eq_ofNat_of_zero_le q3;have bV:nH t=u+v:=by unfold nH;rw[if_neg h0,eu,ev];rfl
    have bA:=fun V:aq=>E0 V t.n
    have bB:=fun V:aq=>E4 V t.d
    rw[eS,eu,bf]at bA;rw[eD,ev,bg]at bB;rw[eu]at p4;rw[ev]at q4;rw[<-hS]at bx cj;rw[<-hD]at ck;have bW:=aT S (by omega);have bX:=aT (286+D) (by omega);obtain⟨VS,bC⟩:=fY (C S);obtain⟨VD,bD⟩:=fY (C (286+D));obtain⟨VX,bE⟩:=fY (C 316);rw[<-bC]at bW;rw[<-bD]at bX;rw[<-bE]at a2;have cx:VS<=1000000:=by omega
    have cy:VD<=1000000:=by omega
    have cz:VX<=18000000:=by omega
    have cl:=fX bA;have cm:=fX bB;have bY:=fX bC;have bZ:=fX bD;have b0:=fX bE;have cn:=fX bV;have HS:=fX hS;have HD:=fX hD
    clear bA bB bC bD bE bV hS hD eS eD eu ev bf bg bU bW bX a2 a7 ad aT br aV a9 av a3 a8 ht hC bM a1 a6 hc hr aZ aS bO cf cg y0 aU;go_wp2_with (first|refine aF rfl _ _ rfl b (o+i*3) rfl (jb t) _ bN.out underlying128 rfl sF ?_|refine aC rfl _ _ _ rfl rfl wr.heap.size (jb t).toArray rfl rfl 128 #[ae .u8 0,ae aj 0,ae aj 0] (aG wr _) (sW _) rfl (tQ _) ?_;change wpList _ _ _ _ _ (iq wr #[ae .u8 0,ae aj 0,ae aj 0] (jb t).toArray 128);rw[<-bP.out]|fail)
    refine(cl.out W3).mono ?_;rintro e w4 ⟨rfl,bj⟩;have cp:=(bj.cell (p:=⟨wr.heap.size,1,none⟩) bQ).trans y1;have bk:=fX (bu.out.below bj (by have:=bd.out.size;omega));have b1:=fX (bd.out.trans (bj.mono (by have:=bu.out.lt;omega)))
    clear bj y1 y2 bu bd bQ;go_wp2_with fail
    refine(cm.out w4).mono ?_;rintro e w5 ⟨rfl,bF⟩;have bl:=bk.out.below bF bk.out.lt;have cq:=fX (b1.out.trans (bF.mono (by have:=bk.out.lt;omega)));clear bF cp bk b1;have k1:=bl.cell (i:=S) (by omega);have z1:=bl.frozen S;rw[<-bY.out]at k1;have aW:=(bl.set (T':=fun k=>if k=S then VS+1 else C k) S (VS+1) (fun _ _=>rfl)).drew;have b2:((VS+1:Nat):Int)=(VS:Int)+1:=by omega
    rw[b2]at aW;obtain⟨W6,bm⟩:=fY ((w5.setCell ⟨h,S,none⟩ (ae aj ((VS:Int)+1))).drew);rw[<-bm]at aW;have k2:=aW.cell (i:=286+D) (by omega);rw[if_neg (by omega),<-bZ.out]at k2;have z2:=aW.frozen (286+D);have aX:=(aW.set (T':=fun k=>if k=286+D then VD+1 else if k=S then VS+1 else C k) (286+D) (VD+1) (fun _ _=>rfl)).drew;have b3:((VD+1:Nat):Int)=(VD:Int)+1:=by omega
    rw[b3]at aX;obtain⟨W7,bn⟩:=fY ((W6.setCell ⟨h,286+D,none⟩ (ae aj ((VD:Int)+1))).drew);rw[<-bn]at aX;have k3:=aX.cell (i:=316) (by omega);rw[if_neg (by omega),if_neg (by omega),<-b0.out]at k3;have z3:=aX.frozen 316;have bG:=aX.set (T':=my (l.take (i+1))) 316 (VX+(u+v)) (fun k hk=>by
     rw[bt.out k,cn.out,<-HS.out,<-HD.out];by_cases h1:k=316
     ·subst h1;rw[if_pos rfl,if_neg (by omega),if_neg (by omega),b0.out]
     ·rw[if_neg h1];by_cases h2:k=286+D
      ·rw[if_pos h2,if_neg (by omega),if_pos (by omega),if_pos ⟨h0,by omega⟩,bZ.out,h2]
      ·rw[if_neg h2];by_cases h3:k=S
       ·rw[if_pos h3,if_pos (by omega),if_pos h3.symm,bY.out,h3]
       ·rw[if_neg h3];by_cases h4:k<286
        ·rw[if_pos h4,if_neg (fun e=>h3 e.symm)];rfl
        ·rw[if_neg h4,if_pos (by omega),if_neg (fun e=>h2 (by omega))];rfl)
    have b4:((VX+(u+v):Nat):Int)=(VX:Int)+((u:Int)+(v:Int)):=by omega
    rw[b4]at bG;have b5:aR h w W6:=by rw[bm];exact(cq.out.setCell fZ _).drew
    have b6:aR h w W7:=by rw[bn];exact(b5.setCell fZ _).drew
    have cr:=fX bG;have ct:=fX (b6.setCell (p:=⟨h,316,none⟩) fZ (ae aj ((VX:Int)+((u:Int)+(v:Int)))));have cu:=fX bm;have cv:=fX bn
    have cF:(S:Int)<286:=by omega
    have cG:(D:Int)<30:=by omega
    clear bl aW aX bG b5 b6 bm bn b2 b3 b4;go_wp2;go_region;rw[<-cu.out];go_wp2;go_region;rw[<-cv.out];go_wp2;go_roundw
    case rel=>exact⟨i+1,by omega,by go_num,cr,ct⟩
    case measure=>simp[aP];omega
  ·obtain rfl:i=m:=by omega
   have bL:¬(i:Int)<(i:Int):=by omega
   have hr:=bq.out;rw[HM.out,List.take_length]at hr;have k1:=hr.cell (i:=256) (by omega);have z1:=hr.frozen 256;have al:=hr.set (T':=kR l) 256 1 (fun k _=>by unfold kR;rfl);have a4:=fX al;clear al hr;go_wp2;go_ret;exact⟨rfl,a4.out,HB.out.setCell fZ _⟩
theorem E9{c d:Nat->Nat}{n:Nat}(h:∀i,i<n->c i=d i):jR c n=jR d n:=by
 unfold jR;exact List.map_congr_left fun i hi=>by rw[h i (List.mem_range.1 hi)]
theorem gE.part{w:aq}{B n m:Nat}{A:Option au}{f:Nat->Nat}(h:gE w B A n f)(hm:m<=n):gE w B A m f:=⟨h.1,fun h0=>by
 obtain⟨b,o,e,hb,hc⟩:=h.2 (by omega);exact⟨b,o,e,hb,fun j hj=>hc j (by omega)⟩⟩
theorem Fa(w:aq)(g:Nat)(l:List gA)(hg:iT w g 317 (kR l) 159)(hl:l.length<=1000000)(a6:∀t∈l,gS t=true/\t.x<256):
  aw prog 108 #[ag (some ⟨g,0,none⟩)] w fun e w'=>∃A1 c1 A2 c2,e=ao (.tuple #[af A1 (nA l) c1,af A2 (nB l) c2])/\gu w' w'.heap.size A1 (nA l) c1 (iP l)/\gu w' w'.heap.size A2 (nB l) c2 (iS l)/\(∀b o,A1=some ⟨b,o,none⟩->w.heap.size<=b)/\(∀b o,A2=some ⟨b,o,none⟩->w.heap.size<=b)/\aR w.heap.size w w':=by
 obtain⟨e1,e2⟩:=zl (c:=iF l) (n:=286) (gy:=15) (by omega) (by omega) (by omega) (by decide) (fun i=>by have:=rq l i;omega)
 obtain⟨e3,e4⟩:=zl (c:=ix l) (n:=30) (gy:=15) (by omega) (by omega) (by omega) (by decide) (fun i=>by have:=qu l i;omega)
 rw[show((15:Nat):Int)=15 from rfl]at e1 e2 e3 e4
 obtain⟨_,_,_,_,a1,a2,b1,b2,_⟩:=mB l hl
 have ad:jq w w.heap.size (some ⟨g,0,none⟩) (jR (iF l) 286):=by
  have:=hg.rd 0 286 (by omega);rwa[E9 (d:=iF l) (fun i hi=>by rw[Nat.zero_add];exact E6 a6 hi)]at this
 have al:jq w w.heap.size (some ⟨g,286,none⟩) (jR (ix l) 30):=by
  have:=hg.rd 286 30 (by omega);rwa[E9 (d:=ix l) (fun i hi=>E7 l hi)]at this
 have h1:=zi w (some ⟨g,0,none⟩) 286 (jR (iF l) 286) 15 ad (fun h=>by cases h) (by rw[lT];omega) (fun j hj=>by rw[lT]at hj;rw[ss _ hj];have:=rq l j;omega) (by omega) (by omega)
 rw[lT,e1,e2]at h1
 have h2:=fun(V:aq) (hV:aR w.heap.size w V)=>zi V (some ⟨g,286,none⟩) 30 (jR (ix l) 30) 15 ((al.below hV fZ).more hV.size) (fun h=>by cases h) (by rw[lT];omega) (fun j hj=>by rw[lT]at hj;rw[ss _ hj];have:=qu l j;omega) (by omega) (by omega)
 rw[lT,e3,e4]at h2
 have H1:=fX h1;have H2:=fX h2
 have av:nA l=PE (lN (iF l) 286 15) 257 286:=rfl
 have aS:nB l=PE (lN (ix l) 30 15) 1 30:=rfl
 have aY:iP l=lN (iF l) 286 15:=rfl
 have aZ:iS l=lN (ix l) 30 15:=rfl
 rw[<-aY]at av
 rw[<-aZ]at aS
 obtain⟨nl,aT⟩:=fY (nA l)
 obtain⟨nd,aU⟩:=fY (nB l)
 obtain⟨F,hF⟩:=fY (iP l)
 obtain⟨G,hG⟩:=fY (iS l)
 rw[<-aY,<-hF]at h1
 rw[<-aZ,<-hG]at h2
 rw[<-aT,<-hF]at av
 rw[<-aU,<-hG]at aS
 rw[<-aT]at a1 a2
 rw[<-aU]at b1 b2
 rw[<-aT,<-aU,<-hF,<-hG]
 have H1:=fX h1;have H2:=fX h2;have bd:=fX av;have bf:=fX aS
 clear h1 h2 e1 e2 e3 e4 ad al av aS aY aZ aT aU hF hG hg a6
 go_enter func108,ntmps108
 go_wp2_with fail
 refine H1.out.mono ?_
 rintro e w1 ⟨A1,c1,rfl,a3,ad,p1,p2,p3,p4⟩
 have bg:=fX p4
 have aV:=fX a3;have a7:=fX ad;have bj:=fX p3
 have a8:=fX (H2.out w1 a3)
 clear a3 ad p3 p4 H1 H2
 go_wp2_with fail
 refine a8.out.mono ?_
 rintro e w2 ⟨A2,c2,rfl,aW,al,q1,q2,q3,q4⟩
 have bk:aQ (∀b o,A2=some ⟨b,o,none⟩->w.heap.size<=b):=fX fun b o e=>Nat.le_trans aV.out.size (q4 b o e)
 have aX:=fX ((a7.out.below aW fZ).more aW.size);have bl:=fX (aV.out.trans (aW.mono aV.out.size));have a9:=fX al;have bm:=fX q3
 clear aW al q3 q4 a8 aV a7
 have a4:=zj w2 A1 286 c1 F 257 aX.out p1 (by omega) (by omega)
 have a5:=zj w2 A2 30 c2 G 1 a9.out q1 (by omega) (by omega)
 rw[<-bd.out]at a4
 rw[<-bf.out]at a5
 have bn:=fX a4;have bp:=fX a5
 clear a4 a5
 go_wp2_with fail
 refine bn.out.mono ?_
 rintro e w3 ⟨rfl,rfl⟩
 go_wp2_with fail
 refine bp.out.mono ?_
 rintro e w4 ⟨rfl,rfl⟩
 go_wp2
 go_ret2
 exact⟨A1,c1,A2,c2,rfl,⟨aX.out.part a2,bj.out,by omega,by unfold maxLen;omega⟩,⟨a9.out.part b2,bm.out,by omega,by unfold maxLen;omega⟩,bg.out,bk.out,bl.out⟩
theorem zq(w:aq)(kind:Nat)(A1:Option au)(rn rc:Nat)(A2:Option au)(m c2:Nat)(l:List gA)(bq:kind<256)(hm:m=l.length)(hr:jL w w.heap.size A2 l)(br:m<=1000000)(bt:rn<=1000000)(a2:∀t∈l,p9 t):
  aw prog 76 #[ae .u8 (kind:Int),af A1 rn rc,af A2 m c2] w fun e w'=>e=ao (ae aj (mc kind rn l))/\aR w.heap.size w w':=by
 obtain⟨E,hE⟩:=fY (mc kind rn l)
 rw[<-hE]
 have HE:=fX hE;have HR:=fX hr;have HM:=fX hm;have bk:=fX a2
 have av:=fX (Below.refl w.heap.size w)
 clear hE hr hm a2
 by_cases y0:2<kind
 ·have d0:decide (2<(kind:Int))=true:=by simp;omega
  obtain rfl:E=2:=by rw[HE.out];unfold mc;rw[if_pos y0]
  go_enter func76,ntmps76
  go_wp2;go_ret;exact⟨rfl,av.out⟩
 have d0:decide (2<(kind:Int))=false:=lW (by omega)
 by_cases y1:65535<rn
 ·have d1:decide (65535<(rn:Int))=true:=mT (by omega);obtain rfl:E=4:=by rw[HE.out];unfold mc;rw[if_neg y0,if_pos (.inl y1)]
  go_enter func76,ntmps76
  go_wp2;go_ret;exact⟨rfl,av.out⟩
 have d1:decide (65535<(rn:Int))=false:=lW (by omega)
 by_cases y2:65535<m
 ·have d2:decide (65535<(m:Int))=true:=mT (by omega);obtain rfl:E=4:=by rw[HE.out];unfold mc;rw[if_neg y0,if_pos (.inr (by rw[<-HM.out];exact y2))]
  go_enter func76,ntmps76
  go_wp2;go_ret;exact⟨rfl,av.out⟩
 have d2:decide (65535<(m:Int))=false:=lW (by omega)
 have a3:E=if l.all gS then 0 else 8:=by rw[HE.out];unfold mc;rw[if_neg y0,if_neg (by rw[<-HM.out];omega)]
 have a4:=fX a3
 clear a3 HE
 go_enter func76,ntmps76
 go_wp2_with fail
 go_loopw [22] (fun iv wr=>∃i:Nat,i<=m/\iv=ae aj (i:Int)/\aQ ((l.take i).all gS=true)/\aQ (aR w.heap.size w wr)) (fun iv _=>m-(aP iv).toNat)
 case atStart=>exact⟨0,Nat.zero_le _,rfl,fX (by simp),av⟩
 case round=>
  obtain⟨i,hi,rfl,HA,HB⟩:=hrel;by_cases bl:i<m
  ·have a5:(i:Int)<(m:Int):=by omega
   have al:i<l.length:=by rw[<-HM.out];exact bl
   have aX:=HR.out.below HB.out fZ;obtain⟨b,o,rfl,bu,hc⟩:=aX.at al;have aY:=aX.range rfl al;have ad:l.getD i iE∈l:=by rw[List.getD_eq_getElem?_getD,List.getElem?_eq_getElem al];exact List.getElem_mem al
   have aZ:=bk.out _ ad;have a1:=Qb al;obtain⟨t,ht⟩:=fY (l.getD i iE);rw[<-ht]at aY aZ a1 ad;obtain⟨W3,aS⟩:=fY (iq wr #[ae .u8 0,ae aj 0,ae aj 0] (jb t).toArray 128);have a6:aR wr.heap.size wr W3:=by rw[aS];exact kN _ _ _ _
   have aU:W3.heap[wr.heap.size]?=some (ak (jb t).toArray 128 (0,0)):=by rw[aS];exact kY wr _ _ _
   have aV:=Ln W3 t aZ;have bm:=fX aY;have a7:=fX (HB.out.trans (a6.mono HB.out.size));have bn:=fX aS;have a8:=fX aU;have a9:=fX aV;have bp:=fX a1;have bd:=fX ad
   clear aY a6 aU aS a1 ht aX hc ad aZ aV;go_wp2_with (first|refine aF rfl _ _ rfl b (o+i*3) rfl (jb t) _ bm.out underlying128 rfl sF ?_|refine aC rfl _ _ _ rfl rfl wr.heap.size (jb t).toArray rfl rfl 128 #[ae .u8 0,ae aj 0,ae aj 0] (aG wr _) (sW _) rfl (tQ _) ?_;change wpList _ _ _ _ _ (iq wr #[ae .u8 0,ae aj 0,ae aj 0] (jb t).toArray 128);rw[<-bn.out]|refine aE rfl _ _ rfl wr.heap.size rfl _ (jb t).toArray (0,0) _ a8.out underlying128 rfl (sW _) ?_|fail)
   refine a9.out.mono ?_;rintro e w4 ⟨rfl,bf⟩;have bg:=fX (a7.out.trans (bf.mono a7.out.size));clear bf;by_cases aT:gS t=true
   ·have e0:qc t=0:=by unfold qc;rw[if_pos aT]
    rw[e0];have aW:(l.take (i+1)).all gS=true:=by rw[bp.out,List.all_append,HA.out];simp[aT]
    have bj:=fX aW;clear aW;go_wp2;go_roundw
    case rel=>exact⟨i+1,by omega,by go_num,bj,bg⟩
    case measure=>simp[aP];omega
   ·have e0:qc t=8:=by unfold qc;rw[if_neg aT]
    rw[e0];obtain rfl:E=8:=by
     rw[a4.out,if_neg];intro h;exact aT (List.all_eq_true.1 h t bd.out)
    go_wp2;go_ret;exact⟨rfl,bg.out⟩
  ·obtain rfl:i=m:=by omega
   have a5:¬(i:Int)<(i:Int):=by omega
   have ha:=HA.out;rw[HM.out,List.take_length]at ha;obtain rfl:E=0:=by rw[a4.out,if_pos ha]
   clear ha;go_wp2;go_ret;exact⟨rfl,HB.out⟩
theorem ND(w:aq)(g:Nat)(l:List gA)(hg:iT w g 317 (kR l) 159)(hl:l.length<=1000000)(aS:∀t∈l,gS t=true/\t.x<256)(A1:Option au)(n1 c1:Nat)(F:Nat->Nat)(A2:Option au)(n2 c2:Nat)(G:Nat->Nat)(h1:gE w w.heap.size A1 n1 F)(h2:gE w w.heap.size A2 n2 G)(k1 k2:Nat)(aU:k1=min n1 286)(aV:k2=min n2 30):
  aw prog 101 #[ag (some ⟨g,0,none⟩),af A1 n1 c1,af A2 n2 c2] w fun e w'=>e=ao (ae aj ((Px (iF l) F k1+Px (ix l) G k2+lD l:Nat):Int))/\aR w.heap.size w w':=by
 have hA:∀i,iF l i<=1000001:=fun i=>by have:=rq l i;omega
 have hB:∀i,ix l i<=1000000:=fun i=>by have:=qu l i;omega
 have aT:=hg.lt
 have r1:∀V,aR w.heap.size w V->zk V g 0 286 (iF l):=fun V hV i hi=>by
  rw[Nat.zero_add,(hg.below hV aT).cell (by omega),E6 aS hi]
 have r2:∀V,aR w.heap.size w V->zk V g 286 30 (ix l):=fun V hV i hi=>by
  rw[(hg.below hV aT).cell (by omega),E7 l hi]
 have x3:∀V,aR w.heap.size w V->V.cell? ⟨g,316,none⟩=some (ae aj ((lD l:Nat):Int)):=fun V hV=>by
  rw[(hg.below hV aT).cell (by omega),Nz]
 have s1:=vZ hA (fun j=>Nat.le_of_lt (h1.1 j)) k1
 have s2:=vZ hB (fun j=>Nat.le_of_lt (h2.1 j)) k2
 have s3:=zo l aS
 obtain⟨S1,ad⟩:=fY (Px (iF l) F k1)
 obtain⟨S2,al⟩:=fY (Px (ix l) G k2)
 obtain⟨S3,av⟩:=fY (lD l)
 have T1:aQ (∀V,aR w.heap.size w V->aw prog 128 #[af (some ⟨g,0,none⟩) 286 286,af A1 n1 c1] V fun e w'=>e=ao (ae aj (S1:Int))/\aR w.heap.size w w'):=fX fun V hV=>by
  rw[ad];exact(EK V g 0 286 286 (iF l) A1 n1 c1 F (r1 V hV) (by have:=hV.size;omega) hA (by omega) ((h1.below hV fZ).more hV.size) k1 aU).mono fun _ _ ⟨e,b⟩=>⟨e,hV.trans (b.mono hV.size)⟩
 have T2:aQ (∀V,aR w.heap.size w V->aw prog 128 #[af (some ⟨g,286,none⟩) 30 30,af A2 n2 c2] V fun e w'=>e=ao (ae aj (S2:Int))/\aR w.heap.size w w'):=fX fun V hV=>by
  rw[al];exact(EK V g 286 30 30 (ix l) A2 n2 c2 G (r2 V hV) (by have:=hV.size;omega) (fun i=>by have:=hB i;omega) (by omega) ((h2.below hV fZ).more hV.size) k2 aV).mono fun _ _ ⟨e,b⟩=>⟨e,hV.trans (b.mono hV.size)⟩
 have aW:k1*(1000001*256)<=286*(1000001*256):=Nat.mul_le_mul_right _ (by omega)
 have aX:k2*(1000000*256)<=30*(1000000*256):=Nat.mul_le_mul_right _ (by omega)
 rw[<-ad]at s1
 rw[<-al]at s2
 rw[<-av]at s3
 have q1:S1<=74000000000:=by omega
 have q2:S2<=8000000000:=by omega
 have q3:S3<=18000000:=by omega
 have k0:∀p:ka w.heap.size w,p.w.cell? ⟨g,316,none⟩=some (ae aj (S3:Int)):=fun p=>by rw[av];exact x3 p.w p.h
 rw[<-ad,<-al,<-av]
 clear ad al av s1 s2 s3 aW aX r1 r2 x3 hA hB hg aS h1 h2 aU aV
 go_enter func101,ntmps101
 go_wp2
 refine th w.heap.size w gC (by kernel_rfl) (by kernel_rfl) ?_
 repeat (go_big_quiet_step (first|(with_reducible exact mR T1.out _)|(with_reducible exact mR T2.out _)))
 refine wpQuiet_nil ?_
 rintro V ⟨⟨V,hV⟩,rfl⟩
 go_wp2
 go_ret
 exact⟨by first|rfl|go_num,hV⟩
theorem lk(v n:Int):prog.built 169 [(0,ae .u32 v),(1,ae aj n)]=some #[ae .u32 v,ae aj n]:=by kernel_rfl
theorem nJ(w:aq)(S:Nat->Prop)(B g:Nat)(f:Nat->Nat)(K:Nat)(P:List (Nat×Nat))(m:Nat)(hm:m=P.length)(cs:Array ax)(ad:cs.toList=PA P)(h:ic w S B g f K)(av:m<=1000)(al:∀x∈P,pF x)(hk:K+Pq P<=16000000):
  aw prog 105 #[ag (some ⟨g,0,none⟩),af (some ⟨w.heap.size,0,none⟩) m m] (w.alloc (ak cs 169)) fun e w'=>e=ao (.tuple #[])/\ic w' S B g (gK f K P) (K+Pq P)/\gJ S w w'/\aR B w w':=by
 have hb:=(Below.refl w.heap.size w).alloc fZ (ak cs 169)
 have aS:cs.size=m*2:=by rw[<-Array.length_toList,ad,qy,hm]
 have aT:lJ (w.alloc (ak cs 169)) (w.alloc (ak cs 169)).heap.size (some ⟨w.heap.size,0,none⟩) P:=by
  have:=gX.new w 2 m cs 169 aS;rw[ad,hm]at this;exact this
 refine(Lu _ _ B g f K (some ⟨w.heap.size,0,none⟩) m m P (h.grow hb) aT (fun b o _ e=>?_) hm av al hk).mono fun e w' ⟨h1,h2,h3,h4⟩=>⟨h1,h2.less fun _ k=>.inl k,(gJ.below h.top hb).tr (h3.less fun _ k=>.inl k),(hb.mono h.size).trans h4⟩
 injection e with e
 injection e with e1
 refine .inr ?_
 simp only[World.size_alloc];omega
theorem we(w:aq)(S:Nat->Prop)(B g:Nat)(f:Nat->Nat)(K:Nat)(h:ic w S B g f K)(hK:K<=16000000):
  aw prog 87 #[ag (some ⟨g,0,none⟩)] w fun e w'=>e=ao (ae aj (K:Int))/\w'=w.drew:=by
 obtain⟨_,A,c,hq⟩:=h
 obtain⟨z0,_,z2,_,_,_⟩:=hq.cells
 obtain⟨L,hL⟩:=fY (K/8)
 obtain⟨q,ad⟩:=fY (K%8)
 rw[<-hL]at z0
 rw[<-ad]at z2
 have al:K=8*L+q:=by omega
 have av:L<=2000000:=by omega
 have aS:q<8:=by omega
 clear hq hL ad hK
 subst al
 go_enter func87,ntmps87
 go_wp2
 go_region
 go_wp2
 go_ret
 exact⟨by first|rfl|go_num,rfl⟩
theorem Fb(w:aq)(S:Nat->Prop)(B g:Nat)(f:Nat->Nat)(K n p:Nat)(h:ic w S B g f K)(hn:n<=65535)(hK:K<=15000000)(hp:p=(8-K%8)%8):
  aw prog 106 #[ag (some ⟨g,0,none⟩),ae aj (n:Int)] w fun e w'=>e=ao (.tuple #[])/\ic w' S B g (gK f K [(0,p),(n,16),(65535-n,16)]) (K+Pq [(0,p),(n,16),(65535-n,16)])/\gJ S w w'/\aR B w w':=by
 have aU:p<8:=by omega
 have al:Pq [(0,p),(n,16),(65535-n,16)]=p+32:=by simp[Pq]
 have ad:=nJ w S B g f K [(0,p),(n,16),(65535-n,16)] 3 rfl #[ae .u32 0,ae aj (p:Int),ae .u32 (n:Int),ae aj 16,ae .u32 ((65535-n:Nat):Int),ae aj 16] rfl h (by omega) (fun x hx=>by
  simp only[List.mem_cons,List.not_mem_nil,or_false]at hx;rcases hx with rfl|rfl|rfl
  ·exact ly (Nat.two_pow_pos _) (by omega)
  ·exact ly (by omega) (by omega)
  ·exact ly (by omega) (by omega)) (by rw[al];omega)
 obtain⟨_,A,c,hq⟩:=h
 obtain⟨_,_,z2,_,_,_⟩:=hq.cells
 obtain⟨q,av⟩:=fY (K%8)
 rw[<-av]at z2 hp
 have aV:q<8:=by omega
 have aW:((8:Int)-(q:Int)).tmod 8=(p:Int):=by rw[Int.tmod_eq_emod_of_nonneg (by omega)];omega
 have aX:((8:Int)-(q:Int))%8=(p:Int):=by omega
 have aT:(65535:Int)-(n:Int)=((65535-n:Nat):Int):=by omega
 obtain⟨y,hy⟩:=fY (65535-n)
 rw[<-hy]at ad aT⊢
 have aY:y<=65535:=by omega
 have aS:=fX ad
 clear ad hq av hp al hy
 go_enter func106,ntmps106
 go_wp2_with (first
  |(refine aD rfl 169 #[(0,.const (ae .u32 0)),(1,.tmp 12)] rfl (some 13) rfl #[ae .u32 0,ae aj (p:Int)] ?_ ?_;focus(simpa[Act.eval]using lk 0 (p:Int)))
  |(refine aD rfl 169 #[(0,.tmp 15),(1,.const (ae aj 16))] rfl (some 16) rfl #[ae .u32 (n:Int),ae aj 16] ?_ ?_;focus(simpa[Act.eval]using lk (n:Int) 16))
  |(refine aD rfl 169 #[(0,.tmp 19),(1,.const (ae aj 16))] rfl (some 20) rfl #[ae .u32 (y:Int),ae aj 16] ?_ ?_;focus(simpa[Act.eval]using lk (y:Int) 16))
  |fail)
 refine aS.out.mono ?_
 rintro e w1 ⟨rfl,h1,h2,h3⟩
 have H1:=fX h1;have H2:=fX h2;have H3:=fX h3
 clear h1 h2 h3
 go_wp2
 go_end0
 exact⟨rfl,H1.out,H2.out,H3.out⟩
theorem qQ(a b c:ax):(prog.info? 131).map (·.size)=some #[a,b,c].size:=by kernel_rfl
theorem NF{w:aq}{b:Nat}{a0 a1 a2:ax}{t:aB}(hz:w.heap[b]?=some (ak #[a0,a1,a2] t (0,0)))(x y z:ax):(((w.setCell ⟨b,0,none⟩ x).setCell ⟨b,1,none⟩ y).setCell ⟨b,2,none⟩ z).heap[b]?=some (ak #[x,y,z] t (0,0)):=by
 have h1:=aN w b 0 _ _ x hz;have h2:=aN _ b 1 _ _ y h1;have h3:=aN _ b 2 _ _ z h2;rw[h3];simp
theorem NG{w:aq}{base sz n b:Nat}{e:aB}{v:ax}{xs:List ax}(h:w.ownsRow base e sz v n xs)(hb:b<base)(x y z:ax):(((w.setCell ⟨b,0,none⟩ x).setCell ⟨b,1,none⟩ y).setCell ⟨b,2,none⟩ z).ownsRow base e sz v n xs:=by
 have ad:∀j,v.ownBlock=some j->j≠b:=fun j hj=>by have:=(oH h j hj).1;omega
 exact mq (mq (mq h fun j hj=>Below.heap_setCell _ _ _ j (ad j hj)) fun j hj=>Below.heap_setCell _ _ _ j (ad j hj)) fun j hj=>Below.heap_setCell _ _ _ j (ad j hj)
theorem NI(w:aq)(A:Option au)(n c:Nat)(f:Nat->Nat)(k:Nat)(hr:gu w w.heap.size A n c f)(hk:k<=8388608)(hn:n=(k+7)/8):
  aw prog 82 #[ah #[af A n c,ae aj (k:Int)]] w fun e w'=>∃A' c',e=ao (ah #[af A' (k/8) c',ae .u64 ((gP n f (k/8):Nat):Int),ae aj ((k%8:Nat):Int)])/\w'.ownsRow w.heap.size 5 1 (af A' (k/8) c') (k/8) (gD (k/8) (gP n f))/\aR w.heap.size w w':=by
 obtain⟨L,hL⟩:=fY (k/8)
 obtain⟨q,hq⟩:=fY (k%8)
 obtain⟨W1,aS⟩:=fY (w.alloc (ak #[af A n c,ae aj (k:Int)] 30))
 obtain⟨h,hh⟩:=fY (w.heap.size)
 obtain⟨W2,aT⟩:=fY (W1.alloc (ak #[af none 0 0,ae .u64 0,ae aj 0] 131))
 have h1:W1.heap[h]?=some (ak #[af A n c,ae aj (k:Int)] 30 (0,0)):=by rw[aS,hh];exact aG w _
 have s1:W1.heap.size=h+1:=by rw[aS,hh];simp
 have aZ:aR W1.heap.size W1 W2:=by rw[aT];exact gC.alloc fZ _
 have b1:aR h w W1:=by rw[aS,hh];exact gC.alloc fZ _
 have b2:aR h w W2:=b1.trans (aZ.mono (by omega))
 have s2:W2.heap.size=h+2:=by rw[aT];simp[s1]
 have h2:W2.heap[h]?=some (ak #[af A n c,ae aj (k:Int)] 30 (0,0)):=(aZ.block h (by omega)).trans h1
 have g2:W2.heap[h+1]?=some (ak #[af none 0 0,ae .u64 0,ae aj 0] 131 (0,0)):=by rw[aT,<-s1];exact aG W1 _
 rw[<-hL,<-hq,<-hh]
 rw[<-hh]at hr
 have a5:=fX hr
 have aU:=(hr.below b2 fZ).more (show h<=W2.heap.size by omega)
 have p0:W2.cell? ⟨h,0,none⟩=some (af A n c):=(aH W2 _ 0 _ _ (0,0) h2).trans rfl
 have p1:W2.cell? ⟨h,1,none⟩=some (ae aj (k:Int)):=(aH W2 _ 1 _ _ (0,0) h2).trans rfl
 have bp:L<=n:=by omega
 have bI:=hr.2.2.1
 have a6:=fun(V:aq) (hV:aR W2.heap.size W2 V)=>DS V A L c f ⟨((aU.below hV fZ).more hV.size).1.part bp,aU.2.1,by omega,aU.2.2.2⟩ (by omega)
 have bJ:(k:Int)/8=(L:Int):=by omega
 have bE:(k:Int).tdiv 8=(L:Int):=by rw[Int.tdiv_eq_ediv_of_nonneg (by omega)];omega
 have bK:(k:Int)%8=(q:Int):=by omega
 have bF:(k:Int).tmod 8=(q:Int):=by rw[Int.tmod_eq_emod_of_nonneg (by omega)];omega
 have bL:L<=c:=by omega
 have bG:¬(c:Int)<(L:Int):=by omega
 have aW:h<W2.heap.size:=by omega
 have hX:(W2.alloc (ak #[af none 0 0,ae .u64 0,ae aj 0] 131)).heap[h+2]?=some (ak #[af none 0 0,ae .u64 0,ae aj 0] 131 (0,0)):=by rw[<-s2];exact aG W2 _
 have bq:=fX a6;have HR:=fX aU;have br:=fX aS;have bt:=fX aT;have HH:=fX hh;have bu:=fX b2;have G2:=fX g2;have HL:=fX hL;have HQ:=fX hq;have HN:=fX hn;have bM:=fX s1
 have bd:aR W2.heap.size W2 W2.drew:=gC.drew
 clear a6 hr aU aS aT hh h1 h2 g2 aZ b1 b2 hL hq hn s1
 go_enter func82,ntmps82
 go_wp2_with (first|rw[<-br.out,<-HH.out,<-bt.out]|fail)
 go_cut [4] (fun v4 wx=>∃X A' c',v4=ag (some ⟨X,0,none⟩)/\wx.heap[X]?=some (ak #[af A' L c',ae .u64 0,ae aj (q:Int)] 131 (0,0))/\wx.ownsRow W2.heap.size 5 1 (af A' L c') L (gD L f)/\W2.heap.size<=X/\aR W2.heap.size W2 wx)
 case first=>
  go_region_law ((refine xo rfl 63 _ _ rfl (enters_of func63 (by kernel_rfl) rfl) (#[af A L c]) (by simp[Act.put,Act.eval,List.setIfInBounds_toArray,List.set_cons_zero,List.set_cons_succ]) (bq.out _ (by first|assumption|exact bd.alloc fZ _|exact((Below.refl W2.heap.size W2).alloc fZ _).drew)) ?_;rintro e w6 ⟨A',c',rfl,a7,ad⟩;(first|(have bx:=(ad.cell (p:=⟨h,1,none⟩) (by first|exact aW|(simp;omega))).trans p1)|(have bx:=(ad.cell (p:=⟨h,1,none⟩) (by first|exact aW|(simp;omega))).trans (((Below.refl W2.heap.size W2).alloc fZ _).cell (p:=⟨h,1,none⟩) aW|>.trans p1))|skip);(first|(have hz:=(ad.block (h+2) (by simp;omega)).trans hX;have av:=(aH w6 (h+2) 0 _ _ (0,0) hz).trans rfl;have bN:=(aH w6 (h+2) 1 _ _ (0,0) hz).trans rfl;have bO:=(aH w6 (h+2) 2 _ _ (0,0) hz).trans rfl;have bP:=aO w6 (h+2) 0 _ _ hz;have bQ:=aO w6 (h+2) 1 _ _ hz;have bR:=aO w6 (h+2) 2 _ _ hz)|skip);have bS:h<w6.heap.size:=(by have:=ad.size;simp at this;omega);refine⟨_,rfl,?_⟩))
  all_goals(
   go_wp2_with fail
   go_meet;first
    |(refine⟨w6.heap.size,A',c',rfl,?_⟩
      have k1:=a7.alloc (ak #[af A' L c',ae .u64 0,ae aj (q:Int)] 131)
      have k2:=(ad.mono (show W2.heap.size<=_ by simp)).alloc ad.size (ak #[af A' L c',ae .u64 0,ae aj (q:Int)] 131)
      refine⟨aG w6 _,qC k1 (by simp),ad.size,bd.trans k2⟩)
    |(refine⟨h+2,A',c',rfl,?_⟩
      have k1:=NG (b:=h+2) a7 (by simp;omega) (af A' L c') (ae .u64 0) (ae aj (q:Int))
      have k2:=(((ad.mono (show W2.heap.size<=_ by simp)).setCell (p:=⟨h+2,0,none⟩) (by show W2.heap.size<=h+2;omega) (af A' L c')).setCell (p:=⟨h+2,1,none⟩) (by show W2.heap.size<=h+2;omega) (ae .u64 0)).setCell (p:=⟨h+2,2,none⟩) (by show W2.heap.size<=h+2;omega) (ae aj (q:Int))
      refine⟨NF hz _ _ _,qC k1 (by simp),by omega,?_⟩
      exact(((Below.refl W2.heap.size W2).alloc fZ _).drew).trans k2))
 case rest=>
  obtain⟨X,A',c',rfl,hx,ho,a8,hb⟩:=hcut;obtain⟨wx,rfl⟩:∃wx:aq,wx=wc:=⟨_,rfl⟩;have bH:h+1<wx.heap.size:=by have:=hb.size;omega
  have e0:=(aH wx X 0 _ _ (0,0) hx).trans rfl;have e2:wx.cell? ⟨X,2,none⟩=some (ae aj (q:Int)):=(aH wx X 2 _ _ (0,0) hx).trans rfl;have f1:=aO wx X 1 _ _ hx;have e1:wx.cell? ⟨X,1,none⟩=some (ae .u64 0):=(aH wx X 1 _ _ (0,0) hx).trans rfl;have bT:wx.cell? ⟨h,0,none⟩=some (af A n c):=(hb.cell (p:=⟨h,0,none⟩) aW).trans p0;have g2:=(hb.block (h+1) (by omega)).trans G2.out;have bU:=fX a8;have bV:h+2<=X:=by omega
  have aX:gP n f L=if 0<q then f L else 0:=by
   unfold gP;have h1:=HL.out;have h2:=HQ.out;have h3:=HN.out
   by_cases h0:0<q
   ·rw[if_pos h0,if_pos (by omega)]
   ·rw[if_neg h0,if_neg (by omega)]
  have aY:∀{V:aq},V.ownsRow W2.heap.size 5 1 (af A' L c') L (gD L f)->V.ownsRow h 5 1 (af A' L c') L (gD L (gP n f)):=fun{V} hV=>by
   have h1:=qC hV (show h<=W2.heap.size by omega);rwa[sy (g:=gP n f) (fun j hj=>by unfold gP;rw[if_pos (by omega)])]at h1
  have al:=fX ho;have a9:=fX aX;have bf:aQ (∀V:aq,V.ownsRow W2.heap.size 5 1 (af A' L c') L (gD L f)->V.ownsRow h 5 1 (af A' L c') L (gD L (gP n f))):=fX fun V hV=>aY hV;have a1:=fX (bu.out.trans (hb.mono (by omega)));have HX:=fX hx;have a2:=fX g2
  clear a8 ho aX aY hb hx g2 p0 p1 bd e0;by_cases bz:0<q
  ·have dq:decide (0<(q:Int))=true:=mT (by omega);have bg:L<n:=by have:=HL.out;have:=HQ.out;have:=HN.out;omega
   have bW:(L:Int)<(n:Int):=by omega
   obtain⟨b,o,rfl,bA,hc⟩:=a5.out.1.2 (by omega);have kb:=(a1.out.cell (p:=⟨b,o+L,none⟩) bA).trans (hc L bg);have av:gP n f L=f L:=by rw[a9.out,if_pos bz]
   obtain⟨y,hy⟩:=fY (f L);have bX:y<256:=by rw[hy];exact a5.out.1.1 L
   rw[<-hy]at kb av;obtain⟨U,hU⟩:=fY (wx.setCell ⟨X,1,none⟩ (ae .u64 (y:Int)));have bj:U.heap[X]?=some (ak #[af A' L c',ae .u64 (y:Int),ae aj (q:Int)] 131 (0,0)):=by rw[hU];exact(aN wx X 1 _ _ _ HX.out).trans (by simp)
   have bk:U.heap[h+1]?=some (ak #[af none 0 0,ae .u64 0,ae aj 0] 131 (0,0)):=by rw[hU];exact(Below.heap_setCell wx _ _ (h+1) (by show h+1≠X;omega)).trans a2.out
   have bl:U.ownsRow h 5 1 (af A' L c') L (gD L (gP n f)):=by rw[hU];exact bf.out _ (mq al.out fun j hj=>Below.heap_setCell wx _ _ j (oG al.out HX.out (by kernel_rfl)<|hj.trans<|congrArg some ·))
   have bm:aR h w U:=by rw[hU];exact a1.out.setCell (by show h<=X;omega) _
   have aV:∀j,(Value.slice A' L c').ownBlock=some j->j≠h+1:=fun j hj=>by have:=(oH al.out j hj).1;omega
   have bB:=fX bj;have bn:=fX bk;have bC:=fX bl;have bD:=fX bm;have HU:=fX hU;have a3:=fX av;have a4:=fX aV
   clear bj bk bl bm hU av hy hc aV;go_wp2_with (first
    |(refine aE rfl _ _ rfl X rfl _ #[af A' L c',ae .u64 (y:Int),ae aj (q:Int)] (0,0) _ (by rw[<-HU.out];exact bB.out) underlying131 rfl (qQ _ _ _) ?_;rw[<-HU.out])
    |(refine aC rfl _ _ _ rfl rfl (h+1) #[af A' L c',ae .u64 (y:Int),ae aj (q:Int)] rfl rfl 131 #[af none 0 0,ae .u64 0,ae aj 0] bn.out (qQ _ _ _) rfl (by simp[Value.oneCell']) ?_)
    |fail)
   rw[a3.out];refine aK (v:=ah #[af A' L c',ae .u64 (y:Int),ae aj (q:Int)]) ?_ rfl ⟨A',c',rfl,mq bC.out fun j hj=>setRow_other _ _ _ _ (a4.out j hj),pH bD.out (by omega) _⟩;exact results_cell_row rfl _ _ (h+1) _ _ (0,0) _ rfl (aI _ _ _ _ _ _ bn.out) underlying131 rfl (qQ _ _ _)
  ·obtain rfl:q=0:=by omega
   have dq:decide (0<((0:Nat):Int))=false:=lW (by omega);have av:gP n f L=0:=by rw[a9.out,if_neg (by omega)]
   have aV:∀j,(Value.slice A' L c').ownBlock=some j->j≠h+1:=fun j hj=>by have:=(oH al.out j hj).1;omega
   have a3:=fX av;have a4:=fX aV
   clear av aV;go_wp2_with (first
    |(refine aE rfl _ _ rfl X rfl _ #[af A' L c',ae .u64 0,ae aj ((0:Nat):Int)] (0,0) _ HX.out underlying131 rfl (qQ _ _ _) ?_)
    |(refine aC rfl _ _ _ rfl rfl (h+1) #[af A' L c',ae .u64 0,ae aj ((0:Nat):Int)] rfl rfl 131 #[af none 0 0,ae .u64 0,ae aj 0] a2.out (qQ _ _ _) rfl (by simp[Value.oneCell']) ?_)
    |fail)
   rw[a3.out];refine aK (v:=ah #[af A' L c',ae .u64 0,ae aj ((0:Nat):Int)]) ?_ rfl ⟨A',c',rfl,mq (bf.out _ al.out) fun j hj=>setRow_other _ _ _ _ (a4.out j hj),pH a1.out (by omega) _⟩;exact results_cell_row rfl _ _ (h+1) _ _ (0,0) _ rfl (aI _ _ _ _ _ _ a2.out) underlying131 rfl (qQ _ _ _)
end Go.Proofs.YtokpcpjnihinfaaGreat
