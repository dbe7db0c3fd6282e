/-
  Words and walks.
-/
import Derived.WalkMore
import Derived.Test.YtokpcpjnihinfaaGreatqwaa
import Derived.Test.YtokpcpjnihinfaaGreatqwab
import Derived.Test.YtokpcpjnihinfaaGreatqwac
import Derived.Test.YtokpcpjnihinfaaGreatqwad
import Derived.Test.YtokpcpjnihinfaaGreatqwaf
import Derived.Test.YtokpcpjnihinfaaGreatqwah
set_option maxRecDepth 100000
set_option maxHeartbeats 16000000
namespace Go.Proofs.YtokpcpjnihinfaaGreat
open Value renaming int → ae, slice → af, pointer → ag, agg → ah
open IntKind renaming i64 → aj
open Obj renaming cells → ak
open Ending renaming returned → ao
open Go renaming World → aq, Addr → au, Calls → aw, Value → ax, TypeId → aB, wpList_store_rowTo → aC, wpList_buildTo → aD, wpList_load_row → aE, wpList_load_mid → aF, heap_alloc_new → aG, cell_of_row → aH, setRow_heap → aI, madeCells → aJ, bodyPost_ret → aK, heap_setCell_same → aN, frozen_of_row → aO
open Go.RowKit renaming intOf → aP, Hid → aQ, Below → aR
open _root_.Go.Proofs.Tryz
open Go.RowKit
def qL(n m:Nat)(w p:Nat->Nat)(z y:Nat->Int)(t:Nat):Int:=
 if ki n m w p (PV n m w p t) (t-PV n m w p t)=true then z (PV n m w p t)else y (t-PV n m w p t)
def Qw:ax->Nat
 |af _ n _=>n
 |_=>0
theorem kJ.next{w:aq}{lo B m c:Nat}{A:Option au}{W:Nat->Nat}{Z:Nat->Int}(h:kJ w lo B A (m+1) W Z)(hc:m+1<=c):
  ∃b o,A=some ⟨b,o,none⟩/\lo<=b/\b<B/\w.cell? ⟨b,o,none⟩=some (ae aj (W 0:Int))/\w.cell? ⟨b,o+1,none⟩=some (ae aj (Z 0))/\
   kJ w lo B (if c=1 then some ⟨b,o,none⟩else some ⟨b,o+2,none⟩) m (fun t=>W (t+1)) (fun t=>Z (t+1)):=by
 obtain⟨b,o,h1,h2,h3,h4⟩:=h (by omega)
 have e0:=h4 0 (by omega)
 have e1:=h4 1 (by omega)
 have p0:=uD W Z 0
 have p1:=wV W Z 0
 rw[Nat.zero_mul]at p0 p1
 rw[p0]at e0
 rw[show(1:Nat)=0+1 by rfl,p1]at e1
 refine⟨b,o,h1,h2,h3,e0,e1,fun hm=>?_⟩
 rw[if_neg (by omega)]
 refine⟨b,o+2,rfl,h2,h3,fun j hj=>?_⟩
 rw[show o+2+j=o+(j+2) by omega,h4 (j+2) (by omega)]
 congr 2
 unfold nz
 rw[show(j+2)%2=j%2 by omega,show(j+2)/2=j/2+1 by omega]
theorem MN(m:Nat)(W:Nat->Nat)(Z:Nat->Int):lF m W Z++[ae aj (W m:Int),ae aj (Z m)]=lF (m+1) W Z:=by
 unfold lF;rw[show(m+1)*2=m*2+1+1 by omega,List.range_succ,List.range_succ];simp only[List.map_append,List.map_cons,List.map_nil,List.append_assoc,List.cons_append,List.nil_append];rw[uD,wV]
theorem E4(m k:Nat)(W W2:Nat->Nat)(Z Z2:Nat->Int)(V:Nat->Nat)(Y:Nat->Int)(h1:∀t,t<m->V t=W t/\Y t=Z t)(h2:∀t,t<k->V (m+t)=W2 t/\Y (m+t)=Z2 t):lF m W Z++lF k W2 Z2=lF (m+k) V Y:=by
 apply List.ext_getElem?;intro j;rw[List.getElem?_append,EU,uE,uE,uE];by_cases hj:j<m*2
 ·rw[if_pos hj,if_pos hj,if_pos (by omega),ER h1 j hj]
 ·rw[if_neg hj];by_cases hk:j-m*2<k*2
  ·rw[if_pos hk,if_pos (by omega)];have h:=h2 ((j-m*2)/2) (by omega);congr 2;unfold nz;rw[show j%2=(j-m*2)%2 by omega,show j/2=m+(j-m*2)/2 by omega,h.1,h.2]
  ·rw[if_neg hk,if_neg (by omega)]
def oE(w:aq)(base:Nat)(A:Option au)(c m:Nat)(W:Nat->Nat)(Z:Nat->Int):Prop:=w.ownsRow base 255 2 (af A m c) m (lF m W Z)
theorem oE.rd{w:aq}{base c m:Nat}{A:Option au}{W:Nat->Nat}{Z:Nat->Int}(h:oE w base A c m W Z):kJ w base w.heap.size A m W Z:=fun hm=>by
 have hs:=iQ.iI h;obtain⟨b,o,e,hb,hc⟩:=hs.2 hm;refine⟨b,o,e,pN h b (by rw[e];rfl),hb,fun j hj=>hc j _ ?_⟩;rw[uE,if_pos hj]
theorem oE.cap{w:aq}{base c m:Nat}{A:Option au}{W:Nat->Nat}{Z:Nat->Int}(h:oE w base A c m W Z):m<=c/\(A=none->c=0):=by
 rcases h.2 with⟨hv,h0⟩|⟨g,cap,cur,hv,_,_,h1,h2,_⟩
 ·injection hv with h3 h4 h5
  exact⟨by omega,fun _=>h5⟩
 ·injection hv with h3 h4 h5
  exact⟨by omega,fun h=>by rw[h]at h3;cases h3⟩
theorem E5(w:aq)(base:Nat)(A:Option au)(c m:Nat)(W:Nat->Nat)(Z:Nat->Int)(h:oE w base A c m W Z)(x z:Int)(hx:x=(W m:Int))(hz:z=Z m)(hm:m<=2000)(ad:base<=w.heap.size):
  ∃A' c' w',(Builtin.append_ #[233,233] 233 #[af A m c,af (some ⟨w.heap.size,0,none⟩) 1 1]).run prog (w.alloc (ak #[ae aj x,ae aj z] 255))=.ok (af A' (m+1) c') w'/\
   oE w' base A' c' (m+1) W Z/\aR base w w':=by
 subst hx;subst hz
 have al:aR base w (w.alloc (ak #[ae aj (W m:Int),ae aj (Z m)] 255)):=(Below.refl base w).alloc ad _
 obtain⟨A',c',w',h2,o2,b2⟩:=pC (z:=ah #[ae aj 0,ae aj 0]) (kS:=16) underlying233 uF rfl (by decide) (w.alloc (ak #[ae aj (W m:Int),ae aj (Z m)] 255)) base _ (af A m c) m _ (World.ownsRow.alloc h _) _ 1 1 _
  (iQ.new w 2 1 #[ae aj (W m:Int),ae aj (Z m)] 255 rfl) (fun u hu=>by simp at hu;rcases hu with rfl|rfl<;>rfl) (by unfold maxLen;omega) (by omega) 233 (fun h=>by cases h) (Nat.le_trans ad al.size)
 refine⟨A',c',w',h2,?_,al.trans b2⟩
 have e:lF m W Z++(#[Value.int aj (W m:Int),ae aj (Z m)]:Array ax).toList=lF (m+1) W Z:=MN m W Z
 rw[e]at o2
 exact o2
theorem MO(n:Nat)(h:n<=2000):∀u:aq,(Instr.makeSlice 233 (ae aj 0) (ae aj (n:Int))).run prog u=
   .ok (af (some ⟨u.heap.size,0,none⟩) 0 n) (u.alloc (ak (aJ #[ae aj 0,ae aj 0] (n*2)) 255)):=fun u=>by
 obtain⟨i0,hi,ad,al,av⟩:=info_parts uF
 have h:=run_make (P:=prog) u 233 255 i0 _ underlying233 hi ad aj aj 0 (n:Int) (by omega) (by omega) (by rw[av];omega) (by omega)
 rw[Int.toNat_natCast]at h
 rw[al]at h
 exact h
theorem MP(w:aq)(n:Nat)(hn:n<=2000)(W:Nat->Nat)(Z:Nat->Int):oE (w.alloc (ak (aJ #[ae aj 0,ae aj 0] (n*2)) 255)) w.heap.size (some ⟨w.heap.size,0,none⟩) n 0 W Z:=
 ⟨by simp[lF],.inr ⟨w.heap.size,n,_,rfl,Nat.le_refl _,aG w _,Nat.zero_le _,by unfold maxLen;omega,by rw[size_madeCells],by simp[lF]⟩⟩
section
variable {n m:Nat} {w p:Nat->Nat}
theorem E6{y:Nat}:∀t,PV n m w p (n+y)=n->y+t<=m->PV n m w p (n+y+t)=n
 |0,h,_=>h
 |t+1,h,ht=>by
  have ih:=E6 t h (by omega);show(if ki n m w p (PV n m w p (n+y+t)) (n+y+t-PV n m w p (n+y+t))=true then PV n m w p (n+y+t)+1 else PV n m w p (n+y+t))=n
  rw[ih,if_neg];unfold ki;simp only[decide_eq_true_eq];omega
theorem E7{x:Nat}:∀t,PV n m w p (x+m)=x->x+t<=n->PV n m w p (x+m+t)=x+t
 |0,h,_=>h
 |t+1,h,ht=>by
  have ih:=E7 t h (by omega);show(if ki n m w p (PV n m w p (x+m+t)) (x+m+t-PV n m w p (x+m+t))=true then PV n m w p (x+m+t)+1 else PV n m w p (x+m+t))=x+(t+1)
  rw[ih,if_pos]
  ·omega
  ·unfold ki;simp only[decide_eq_true_eq];omega
theorem MQ{z y:Nat->Int}{k t:Nat}(h:PV n m w p (n+k)=n)(ht:k+t<m):m7 n m w p (n+k+t)=p (k+t)/\qL n m w p z y (n+k+t)=y (k+t):=by
 have h1:=E6 (y:=k) t h (by omega);unfold m7 qL;rw[h1,if_neg,if_neg,show n+k+t-n=k+t by omega]
 ·exact⟨rfl,rfl⟩
 ·unfold ki;simp only[decide_eq_true_eq];omega
 ·unfold ki;simp only[decide_eq_true_eq];omega
theorem MR{z y:Nat->Int}{x t:Nat}(h:PV n m w p (x+m)=x)(ht:x+t<n):m7 n m w p (x+m+t)=w (x+t)/\qL n m w p z y (x+m+t)=z (x+t):=by
 have h1:=E7 (x:=x) t h (by omega);unfold m7 qL;rw[h1,if_pos,if_pos]
 ·exact⟨rfl,rfl⟩
 ·unfold ki;simp only[decide_eq_true_eq];omega
 ·unfold ki;simp only[decide_eq_true_eq];omega
end
theorem MS(w:aq)(lo:Nat)(A:Option au)(c n:Nat)(W:Nat->Nat)(Z:Nat->Int)(hr:kJ w lo w.heap.size A n W Z)(hc:n<=c)(hA:A=none->c=0)(A2:Option au)(c2 m:Nat)(P:Nat->Nat)(Y:Nat->Int)(a6:kJ w lo w.heap.size A2 m P Y)(bM:m<=c2)(hA2:A2=none->c2=0)(bn:n+m<=2000):
  aw prog 172 #[af A n c,af A2 m c2] w fun e w'=>∃A' c',e=ao (af A' (n+m) c')/\aR w.heap.size w w'/\(n+m)<=c'/\(A'=none->c'=0)/\kJ w' w.heap.size w'.heap.size A' (n+m) (m7 n m W P) (qL n m W P Z Y):=by
 obtain⟨V,hV⟩:∃V:Nat->Nat,V=m7 n m W P:=⟨_,rfl⟩
 obtain⟨U,hU⟩:∃U:Nat->Int,U=qL n m W P Z Y:=⟨_,rfl⟩
 rw[<-hV,<-hU]
 have HR:=gW hr;have bN:=gW a6;have HV:=gW hV;have a8:=gW hU
 have bO:=gW hA;have bP:=gW hA2
 have bq:=MO (n+m) bn
 have br:∀u:aq,(Instr.makeSlice 233 (ae aj 0) (ae aj ((n:Int)+(m:Int)))).run prog u=.ok (af (some ⟨u.heap.size,0,none⟩) 0 (n+m)) (u.alloc (ak (aJ #[ae aj 0,ae aj 0] ((n+m)*2)) 255)):=fun u=>by
  have h:=bq u;rw[Int.natCast_add]at h;exact h
 have aT:=MP w (n+m) bn V U
 have a9:aR w.heap.size w (w.alloc (ak (aJ #[ae aj 0,ae aj 0] ((n+m)*2)) 255)):=(Below.refl _ w).alloc gY _
 obtain⟨u,hu⟩:=gX (w.alloc (ak (aJ #[ae aj 0,ae aj 0] ((n+m)*2)) 255))
 rw[<-hu]at aT a9
 have HU:=gW hu;have bd:=gW a9;have bf:=gW aT
 clear hr a6 hV hU hu aT a9 bq hA hA2
 go_enter func172,ntmps172
 go_wp2
 go_step3
 go_wp2
 rw[<-HU.out]
 clear br
 go_step3
 go_wp2
 go_loopw [0,1,5] (fun vi vp vr wr=>∃(x y r s:Nat) (Ai Ap Ao:Option au) (ci cp co:Nat),n=x+r/\m=y+s/\vi=af Ai r ci/\vp=af Ap s cp/\vr=af Ao (x+y) co/\r<=ci/\s<=cp/\aQ (Ai=none->ci=0)/\aQ (Ap=none->cp=0)/\
   aQ (kJ wr lo w.heap.size Ai r (fun t=>W (x+t)) (fun t=>Z (x+t)))/\aQ (kJ wr lo w.heap.size Ap s (fun t=>P (y+t)) (fun t=>Y (y+t)))/\aQ (oE wr w.heap.size Ao co (x+y) V U)/\aQ (PV n m W P (x+y)=x)/\aQ (aR w.heap.size w wr)) (fun vi vp _ _=>Qw vi+Qw vp)
 case atStart=>exact⟨0,0,n,m,A,A2,_,c,c2,_,by omega,by omega,rfl,rfl,rfl,hc,bM,bO,bP,gW ((HR.out.below bd.out gY).ext (fun t _=>by rw[Nat.zero_add];exact⟨rfl,rfl⟩)),gW ((bN.out.below bd.out gY).ext (fun t _=>by rw[Nat.zero_add];exact⟨rfl,rfl⟩)),bf,gW rfl,bd⟩
 case round=>
  obtain⟨x,y,r,s,Ai,Ap,Ao,ci,cp,co,hn,hm,rfl,rfl,rfl,bQ,bR,bt,bu,HI,HP,HO,aX,HB⟩:=hrel;have a7:=HB.out.size;by_cases bg:r=0
  ·subst bg;have bz:n=x:=by omega
   obtain⟨A',c',w',r1,o1,b1⟩:=pC (z:=ah #[ae aj 0,ae aj 0]) (kS:=16) underlying233 uF rfl (by decide) wr w.heap.size w.heap.size (af Ao (x+y) co) (x+y) _ HO.out Ap s cp _ HP.out.src (ES _ _ _) (by unfold maxLen;omega) (by omega) 233 bu.out a7;have e1:lF (x+y) V U++lF s (fun t=>P (y+t)) (fun t=>Y (y+t))=lF (x+y+s) V U:=by
    refine E4 _ _ _ _ _ _ _ _ (fun _ _=>⟨rfl,rfl⟩) (fun t ht=>?_);rw[HV.out,a8.out];subst bz;exact MQ aX.out (by omega)
   rw[e1]at o1;have av:x+y+s=n+m:=by omega
   rw[av]at r1 o1;have R1:=gW r1;have O1:=gW o1;have B1:=gW (HB.out.trans (b1.mono gY))
   clear r1 o1 b1 e1;obtain⟨xy,al⟩:=gX (x+y);rw[<-al]at R1⊢;have aS:=oE.cap O1.out;have aY:=gW aS;clear al hn hm bz av aS;go_wp2_with (at_builtin;refine wpList_append_run rfl (.tmp 24) (.tmp 25) 233 rfl (af Ao xy co) (af Ap s cp) (af A' (n+m) c') w' rfl rfl R1.out ?_)
   rw[Exit.noGoto_ret];go_ret;exact⟨A',c',rfl,B1.out,aY.out.1,aY.out.2,oE.rd O1.out⟩
  ·obtain⟨r1,bj⟩:∃r1,r=r1+1:=⟨r-1,by omega⟩;by_cases bA:s=0
   ·subst bA;have bB:m=y:=by omega
    have bC:((r:Int)==0)=false:=by simp;omega
    obtain⟨A',c',w',bk,o1,b1⟩:=pC (z:=ah #[ae aj 0,ae aj 0]) (kS:=16) underlying233 uF rfl (by decide) wr w.heap.size w.heap.size (af Ao (x+y) co) (x+y) _ HO.out Ai r ci _ HI.out.src (ES _ _ _) (by unfold maxLen;omega) (by omega) 233 bt.out a7;have e1:lF (x+y) V U++lF r (fun t=>W (x+t)) (fun t=>Z (x+t))=lF (x+y+r) V U:=by
     refine E4 _ _ _ _ _ _ _ _ (fun _ _=>⟨rfl,rfl⟩) (fun t ht=>?_);rw[HV.out,a8.out];subst bB;exact MR aX.out (by omega)
    rw[e1]at o1;have av:x+y+r=n+m:=by omega
    rw[av]at bk o1;have R1:=gW bk;have O1:=gW o1;have B1:=gW (HB.out.trans (b1.mono gY))
    have aS:=oE.cap O1.out;have aY:=gW aS;clear bk o1 b1 e1;obtain⟨xy,al⟩:=gX (x+y);rw[<-al]at R1⊢;have a6:1<=r:=by omega
    clear al hn hm bB av aS bj bg;go_wp2_with (at_builtin;refine wpList_append_run rfl (.tmp 31) (.tmp 32) 233 rfl (af Ao xy co) (af Ai r ci) (af A' (n+m) c') w' rfl rfl R1.out ?_)
    rw[Exit.noGoto_ret];go_ret;exact⟨A',c',rfl,B1.out,aY.out.1,aY.out.2,oE.rd O1.out⟩
   ·obtain⟨s1,bD⟩:∃s1,s=s1+1:=⟨s-1,by omega⟩;have hI:=HI.out;have hP:=HP.out;rw[bj]at hI;rw[bD]at hP;obtain⟨bi,oi,rfl,bY,bZ,aZ,a1,bE⟩:=hI.next (by omega:r1+1<=ci);obtain⟨bp,op,rfl,b0,b2,a2,a3,bF⟩:=hP.next (by omega:s1+1<=cp);have bC:((r:Int)==0)=false:=by simp;omega
    have bW:((s:Int)==0)=false:=by simp;omega
    have a6:1<=r:=by omega
    have b3:1<=s:=by omega
    have b4:(1:Int)<=(r:Int):=by omega
    have b5:(1:Int)<=(s:Int):=by omega
    have b6:0<r:=by omega
    have b7:0<s:=by omega
    have er:r-1=r1:=by omega
    have es:s-1=s1:=by omega
    have aU:PV n m W P (x+y+1)=if ki n m W P x y=true then x+1 else x:=by
     show(if ki n m W P (PV n m W P (x+y)) (x+y-PV n m W P (x+y))=true then PV n m W P (x+y)+1 else PV n m W P (x+y))=_
     rw[aX.out,show x+y-x=y by omega]
    have hv:V (x+y)=if ki n m W P x y=true then W x else P y:=by
     rw[HV.out];unfold m7;rw[aX.out,show x+y-x=y by omega]
    have hz:U (x+y)=if ki n m W P x y=true then Z x else Y y:=by
     rw[a8.out];unfold qL;rw[aX.out,show x+y-x=y by omega]
    have aV:ki n m W P x y=true↔W x<=P y:=by unfold ki;simp only[decide_eq_true_eq];omega
    have e0:W (x+0)=W x:=rfl;have e1:P (y+0)=P y:=rfl;have e2:Z (x+0)=Z x:=rfl;have e3:Y (y+0)=Y y:=rfl;rw[e0]at aZ;rw[e1]at a2;rw[e2]at a1;rw[e3]at a3;obtain⟨a,ha⟩:=gX (W x);obtain⟨b,hb⟩:=gX (P y);obtain⟨za,bG⟩:=gX (Z x);obtain⟨zb,bH⟩:=gX (Y y);rw[<-ha]at aZ hv aV;rw[<-hb]at a2 hv aV;rw[<-bG]at a1 hz;rw[<-bH]at a3 hz;have bS:=gW bE;have bT:=gW bF
    have bI:=gW hn;have bJ:=gW hm
    obtain⟨xy,al⟩:=gX (x+y);have bX:xy<=2000:=by omega
    rw[<-al]at aU hv hz HO⊢;have aW:=gW al;clear hI hP bE bF ha hb bG bH al hn hm bj bD bg bA e0 e1 e2 e3;have bU:=gW er;have bV:=gW es
    by_cases bK:a<=b
    ·have bL:(a:Int)<=(b:Int):=by omega
     rw[if_pos (aV.2 bK)]at aU hv hz;have a4:=gW aU;clear aV aU;go_wp2_with fail
     go_quiet (fail)
     obtain⟨wq,ad⟩:=gX (wr.drewN nq);have bl:aQ (oE wq w.heap.size Ao co xy V U):=by rw[ad];exact HO
     have bm:aQ (aR w.heap.size wr wq):=by rw[ad];exact gW (pJ _ _ _)
     have a5:w.heap.size<=wq.heap.size:=by rw[ad];exact a7
     have d0:wq.cell? ⟨bi,oi,none⟩=some (ae aj (a:Int)):=by rw[ad];exact aZ
     have d1:wq.cell? ⟨bi,oi+1,none⟩=some (ae aj za):=by rw[ad];exact a1
     obtain⟨A',c',w',q1,q2,q3⟩:=E5 wq.drew w.heap.size Ao co xy V U bl.out (a:Int) za (by rw[hv]) hz.symm (by omega) a5;rw[<-ad];have R1:=gW q1;have O1:=gW q2;have B1:=gW (bm.out.drew.trans q3)
     clear q1 q2 q3 hv hz ad aZ a1 a2 a3;go_wp2_with fail
     go_region_law ((refine sT rfl (.tmp 44) (.tmp 48) 233 233 rfl (af Ao xy co) (af (some ⟨wq.heap.size,0,none⟩) 1 1) rfl rfl (af A' (xy+1) c') w' R1.out ?_))
     all_goals go_wp2
     all_goals(
      go_roundw
      case measure=>simp[Qw];omega
      refine⟨_,_,_,?_,rfl,rfl,rfl⟩;refine⟨x+1,y,r1,by have:=bI.out;have:=bU.out;omega,s,bJ.out,_,_,A',_,rfl,_,rfl,c',by rw[aW.out,show x+y+1=x+1+y by omega],by omega,bR,gW (fun h=>by first|(cases h;done)|(split at h<;>cases h)),bu,?_,?_,?_,?_,gW (HB.out.trans B1.out)⟩
      ·have hq:=bS.out;first|rw[if_pos (by assumption)]at hq|rw[if_neg (by assumption)]at hq|skip
       exact gW ((hq.below B1.out gY).ext (fun t _=>by
        show W (x+(t+1))=W (x+1+t)/\Z (x+(t+1))=Z (x+1+t)
        rw[show x+(t+1)=x+1+t by omega];exact⟨rfl,rfl⟩))
      ·exact gW (HP.out.below B1.out gY)
      ·have h:=O1.out;rw[aW.out,show x+y+1=x+1+y by omega]at h;exact gW h
      ·have h:=a4.out;rw[aW.out,show x+y+1=x+1+y by omega]at h;exact gW h)
    ·have bL:¬(a:Int)<=(b:Int):=by omega
     rw[if_neg (fun h=>bK (aV.1 h))]at aU hv hz;have a4:=gW aU;clear aV aU;go_wp2_with fail
     go_quiet (fail)
     obtain⟨wq,ad⟩:=gX (wr.drewN nq);have bl:aQ (oE wq w.heap.size Ao co xy V U):=by rw[ad];exact HO
     have bm:aQ (aR w.heap.size wr wq):=by rw[ad];exact gW (pJ _ _ _)
     have a5:w.heap.size<=wq.heap.size:=by rw[ad];exact a7
     have d0:wq.cell? ⟨bp,op,none⟩=some (ae aj (b:Int)):=by rw[ad];exact a2
     have d1:wq.cell? ⟨bp,op+1,none⟩=some (ae aj zb):=by rw[ad];exact a3
     obtain⟨A',c',w',q1,q2,q3⟩:=E5 wq.drew w.heap.size Ao co xy V U bl.out (b:Int) zb (by rw[hv]) hz.symm (by omega) a5;rw[<-ad];have R1:=gW q1;have O1:=gW q2;have B1:=gW (bm.out.drew.trans q3)
     clear q1 q2 q3 hv hz ad aZ a1 a2 a3;go_wp2_with fail
     go_region_law ((refine sT rfl (.tmp 12) (.tmp 16) 233 233 rfl (af Ao xy co) (af (some ⟨wq.heap.size,0,none⟩) 1 1) rfl rfl (af A' (xy+1) c') w' R1.out ?_))
     all_goals go_wp2
     all_goals(
      go_roundw
      case measure=>simp[Qw];omega
      refine⟨_,_,_,?_,rfl,rfl,rfl⟩;refine⟨x,y+1,r,bI.out,s1,by have:=bJ.out;have:=bV.out;omega,_,_,A',_,rfl,_,rfl,c',by rw[aW.out,show x+y+1=x+(y+1) by omega],bQ,by omega,bt,gW (fun h=>by first|(cases h;done)|(split at h<;>cases h)),?_,?_,?_,?_,gW (HB.out.trans B1.out)⟩
      ·exact gW (HI.out.below B1.out gY)
      ·have hq:=bT.out;first|rw[if_pos (by assumption)]at hq|rw[if_neg (by assumption)]at hq|skip
       exact gW ((hq.below B1.out gY).ext (fun t _=>by
        show P (y+(t+1))=P (y+1+t)/\Y (y+(t+1))=Y (y+1+t)
        rw[show y+(t+1)=y+1+t by omega];exact⟨rfl,rfl⟩))
      ·have h:=O1.out;rw[aW.out,show x+y+1=x+(y+1) by omega]at h;exact gW h
      ·have h:=a4.out;rw[aW.out,show x+y+1=x+(y+1) by omega]at h;exact gW h)
def zK(n:Nat)(W:Nat->Nat)(Z:Nat->Int):Nat->Nat->Int
 |0=>Z
 |K+1=>qL n (iB n K/2) W (jf (iU n W K)) Z (fun _=> -1)
def sK(w:aq)(lo B:Nat)(ex:Option Nat)(A:Option au)(m:Nat)(W:Nat->Nat)(Z:Nat->Int):Prop:=
 ∃b o,A=some ⟨b,o,none⟩/\lo<=b/\b<B/\some b≠ex/\∀j,j<m*2->w.cell? ⟨b,o+j,none⟩=some (ae aj (nz W Z j))
theorem sK.rd{w:aq}{lo B m:Nat}{ex:Option Nat}{A:Option au}{W:Nat->Nat}{Z:Nat->Int}(h:sK w lo B ex A m W Z):kJ w lo B A m W Z:=fun _=>by
 obtain⟨b,o,h1,h2,h3,_,h5⟩:=h;exact⟨b,o,h1,h2,h3,h5⟩
def pK(w:aq)(base lo:Nat)(A:Option au)(c k n:Nat)(W:Nat->Nat)(Z:Nat->Int):Prop:=
 ∃xs,w.ownsRow base 233 1 (af A k c) k xs/\∀K,K<k->∃AK cK,xs[K]?=some (af AK (iB n K) cK)/\iB n K<=cK/\sK w lo w.heap.size (Value.slice A k c).ownBlock AK (iB n K) (iU n W K) (zK n W Z K)
def zr(w:aq)(lo B:Nat)(A:Option au)(k n:Nat)(W:Nat->Nat)(Z:Nat->Int):Prop:=
 ∃b o,A=some ⟨b,o,none⟩/\lo<=b/\b<B/\∀K,K<k->∃AK cK,w.cell? ⟨b,o+K,none⟩=some (af AK (iB n K) cK)/\iB n K<=cK/\kJ w lo B AK (iB n K) (iU n W K) (zK n W Z K)
theorem pK.rd{w:aq}{base lo c k n:Nat}{A:Option au}{W:Nat->Nat}{Z:Nat->Int}(h:pK w base lo A c k n W Z)(hk:0<k)(hb:lo<=base):zr w lo w.heap.size A k n W Z:=by
 obtain⟨xs,h1,h2⟩:=h;have hs:=iQ.iI h1;obtain⟨b,o,e,ad,hc⟩:=hs.2 hk;refine⟨b,o,e,Nat.le_trans hb (pN h1 b (by rw[e];rfl)),ad,fun K hK=>?_⟩;obtain⟨AK,cK,q1,q2,q3⟩:=h2 K hK;exact⟨AK,cK,hc K _ q1,q2,q3.rd⟩
theorem pK.after{w w':aq}{base lo c k n:Nat}{A:Option au}{W:Nat->Nat}{Z:Nat->Int}(h:pK w base lo A c k n W Z)(hb:aR w.heap.size w w'):pK w' base lo A c k n W Z:=by
 obtain⟨xs,h1,h2⟩:=h;have hg:w.grownBy w' none:=⟨hb.os,hb.tape,hb.output,hb.size,fun k hk _=>hb.block k hk⟩;refine⟨xs,h1.kept hg (by cases (Value.slice A k c).ownBlock<;>simp),fun K hK=>?_⟩;obtain⟨AK,cK,q1,q2,b,o,q3,q4,q5,q6,q7⟩:=h2 K hK;have hs:=hb.size;exact⟨AK,cK,q1,q2,b,o,q3,q4,by omega,q6,fun j hj=>by rw[hb.cell (p:=⟨b,o+j,none⟩) q5];exact q7 j hj⟩
theorem MT:(prog.info? 233).map (fun i=>(i.zero,i.size,i.bytes))=some (some (af none 0 0),1,24):=by kernel_rfl
theorem MU(w:aq)(base lo:Nat)(A:Option au)(c k n:Nat)(W:Nat->Nat)(Z:Nat->Int)(h:pK w base lo A c k n W Z)(AK:Option au)(cK:Nat)(aW:iB n k<=cK)(hr:sK w lo w.heap.size (Value.slice A k c).ownBlock AK (iB n k) (iU n W k) (zK n W Z k))(m:Nat)(hm:m=iB n k)(hk:k<=1000)(aT:base<=w.heap.size):
  ∃A' c' w',(Builtin.append_ #[231,231] 231 #[af A k c,af (some ⟨w.heap.size,0,none⟩) 1 1]).run prog (w.alloc (ak #[af AK m cK] 233))=.ok (af A' (k+1) c') w'/\
   pK w' base lo A' c' (k+1) n W Z/\aR base w w':=by
 subst hm
 obtain⟨xs,h1,h2⟩:=h
 obtain⟨U,hU⟩:=gX (w.alloc (ak #[af AK (iB n k) cK] 233))
 have aX:U.heap.size=w.heap.size+1:=by rw[hU];simp
 have aU:aR w.heap.size w U:=by rw[hU];exact ix.alloc gY _
 have av:U.ownsRow base 233 1 (af A k c) k xs:=by rw[hU];exact h1.alloc _
 have aS:=iQ.new w 1 1 #[af AK (iB n k) cK] 233 rfl
 rw[<-hU]at aS
 obtain⟨i0,hi,aY,aZ,a1⟩:=info_parts MT
 have al:∀j u,([Value.slice AK (iB n k) cK]:List ax)[j]?=some u->U.cell? ((⟨w.heap.size,0,none⟩:au).add j)=some u:=by
  intro j u hu;obtain⟨b2,o2,e,_,a2⟩:=aS.2 (by omega);injection e with e
  injection e with e1 e2 e3
  subst e1;subst e2;have e:(⟨w.heap.size,0,none⟩:au).add j=⟨w.heap.size,0+j,none⟩:=by unfold Addr.add;split<;>simp_all
  rw[e];exact a2 j u hu
 obtain⟨v',w',r1,r2,r3,_,r5⟩:=run_append_own_at (P:=prog) U base 231 231 233 i0 _ 1 24 underlying231 hi aY aZ a1 rfl (by decide) (af A k c) k xs av ⟨w.heap.size,0,none⟩ 1 1 _ rfl al
  (fun u hu=>by simp at hu;subst hu;rfl) (by unfold maxLen;omega) (by omega) (by omega)
 have hv:∃A' c',v'=af A' (k+1) c':=by
  rcases r2.2 with⟨_,h⟩|⟨g,cap,cur,rfl,_⟩
  ·omega
  ·exact⟨_,_,rfl⟩
 obtain⟨A',c',rfl⟩:=hv
 have a3:∀d,d<w.heap.size->some d≠(Value.slice A k c).ownBlock->w'.heap[d]?=w.heap[d]?/\some d≠(Value.slice A' (k+1) c').ownBlock:=by
  intro d hd aV;refine⟨(r3.block d (by omega) aV).trans (aU.block d hd),fun e=>?_⟩;rcases r5 with r5|r5
  ·exact aV (e.trans r5)
  ·rw[<-e,aX]at r5;injection r5 with r5;omega
 have a4:w.heap.size<=w'.heap.size:=by have:=r3.size;omega
 have hl:xs.length=k:=by have:=h1.1;omega
 have ad:∀(B:Option au) (V:Nat->Nat) (Y:Nat->Int) (q:Nat),sK w lo w.heap.size (Value.slice A k c).ownBlock B q V Y->sK w' lo w'.heap.size (Value.slice A' (k+1) c').ownBlock B q V Y:=fun B V Y q ⟨b,o,q3,q4,q5,q6,q7⟩=>by
  obtain⟨p1,p2⟩:=a3 b q5 q6;exact⟨b,o,q3,q4,by omega,p2,fun j hj=>by rw[World.cell?_of_block (a:=⟨b,o+j,none⟩) p1];exact q7 j hj⟩
 refine⟨A',c',w',(by rw[<-hU];exact r1),⟨xs++[af AK (iB n k) cK],r2,fun K hK=>?_⟩,((aU.mono aT).grown r3 (by omega) (pN av))⟩
 by_cases e:K=k
 ·subst e;exact⟨AK,cK,by rw[List.getElem?_append_right (by omega),hl];simp,aW,ad _ _ _ _ hr⟩
 ·obtain⟨B,d,q1,q2,q3⟩:=h2 K (by omega);exact⟨B,d,by rw[List.getElem?_append_left (by omega)];exact q1,q2,ad _ _ _ _ q3⟩
theorem MV{w:aq}{lo ad g:Nat}{ex:Option Nat}{A:Option au}{n m k p:Nat}{W V:Nat->Nat}{Z:Nat->Int}(h:kJ w ad w.heap.size A (n+m/2) (m7 n (m/2) W (jf V)) (qL n (m/2) W (jf V) Z (fun _=> -1)))(hm:m=iB n p)(hV:V=iU n W p)(hk:k=p+1)
  (hn:0<n) (al:lo<=ad) (hg:g<ad) (hex:ex=some g):sK w lo w.heap.size ex A (iB n k) (iU n W k) (zK n W Z k):=by
 subst hk;subst hV;subst hm;subst hex
 obtain⟨b,o,h1,h2,h3,h4⟩:=h (by omega)
 exact⟨b,o,h1,by omega,h3,by simp;omega,h4⟩
theorem MW(w:aq)(lo:Nat)(A:Option au)(c n:Nat)(W:Nat->Nat)(Z:Nat->Int)(hr:kJ w lo w.heap.size A n W Z)(aZ:lo<=w.heap.size)(hc:n<=c)(hA:A=none->c=0)(L:Nat)(bg:1<=L)(bE:L<=15)(bj:2<=n)(bk:n<=400)(hW:∀i,i<n->W i<=1073741824):
  aw prog 155 #[af A n c,ae aj (L:Int)] w fun e w'=>∃A' c',e=ao (af A' L c')/\aR w.heap.size w w'/\zr w' lo w'.heap.size A' L n W Z:=by
 have HR:=gW hr;have HA:=gW hA;have HW:=gW hW
 have ad:pK (w.alloc (ak #[af A n c] 233)) w.heap.size lo (some ⟨w.heap.size,0,none⟩) 1 1 n W Z:=by
  refine⟨[af A n c],⟨rfl,.inr ⟨w.heap.size,1,_,rfl,Nat.le_refl _,aG w _,Nat.le_refl _,by unfold maxLen;omega,rfl,rfl⟩⟩,fun K hK=>?_⟩;obtain rfl:K=0:=by omega
  obtain⟨b,o,h1,h2,h3,h4⟩:=hr (by omega);exact⟨A,c,rfl,hc,b,o,h1,h2,by simp;omega,by simp[Value.ownBlock];omega,fun j hj=>by rw[((Below.refl w.heap.size w).alloc gY _).cell (p:=⟨b,o+j,none⟩) h3];exact h4 j hj⟩
 have aS:aR w.heap.size w (w.alloc (ak #[af A n c] 233)):=(Below.refl _ w).alloc gY _
 obtain⟨u,hu⟩:=gX (w.alloc (ak #[af A n c] 233))
 rw[<-hu]at ad aS
 have HU:=gW hu;have bl:=gW aS;have bm:=gW ad
 clear hr hA hW hu ad aS
 go_enter func155,ntmps155
 go_wp2
 rw[<-HU.out]
 go_loopw [5] (fun vl wr=>∃(k:Nat) (Al:Option au) (cl:Nat),1<=k/\k<=L/\vl=af Al k cl/\aQ (pK wr w.heap.size lo Al cl k n W Z)/\aQ (aR w.heap.size w wr)) (fun vl _=>L-Qw vl)
 case atStart=>exact⟨1,_,1,Nat.le_refl _,bg,rfl,bm,bl⟩
 case round=>
  obtain⟨k,Al,cl,bF,bG,rfl,HO,HB⟩:=hrel;have av:=HB.out.size;by_cases bH:k<L
  ·have a1:(k:Int)<(L:Int):=by omega
   obtain⟨p,hp⟩:=gX (k-1);have ep:(k:Int)-1=(p:Int):=by omega
   have bn:p<k:=by omega
   have bp:=pK.rd HO.out (by omega) aZ;obtain⟨b,o,rfl,bI,bJ,a2⟩:=bp;obtain⟨AK,cK,c1,bq,aT⟩:=a2 p bn;have a3:=tF bj bk p;have aU:∀j,j<iB n p->iU n W p j<=70368744177664:=fun j hj=>by
    have h1:=uP HW.out p j hj;have h2:2^p*1073741824<=2^15*1073741824:=Nat.mul_le_mul_right _ (Nat.pow_le_pow_right (by decide) (by omega));omega
   obtain⟨m,hm⟩:=gX (iB n p);rw[<-hm]at c1 bq aT a3 aU;have a4:=gW aT;have a5:=gW aU;have HM:=gW hm;have HP:=gW hp
   obtain⟨V,hV⟩:=gX (iU n W p);obtain⟨Y,hY⟩:=gX (zK n W Z p);rw[<-hV,<-hY]at a4;rw[<-hV]at a5;have HV:=gW hV;have br:m<=1000:=by omega
   have aV:k=p+1:=by omega
   have a6:iB n k=n+m/2:=by rw[aV,hm];rfl
   have a7:=gW a6;have HK:=gW aV
   clear a2 aT aU hm hp hV hY aV a6;go_wp2_with (first
    |(go_at_call 173;refine(ML _ lo AK cK m V Y a4.out br a5.out).mono ?_;rintro e w1 ⟨Ap,cp,rfl,aW,bt,a8,a9⟩;have aX:=gW aW;have bu:=gW a9;have bz:=gW a8;have al:=aW.size;clear aW a9 a8)
    |(go_at_call 172;refine(MS _ lo A c n W Z ((HR.out.below (HB.out.trans (aX.out.mono av)) gY).more gY (Nat.le_trans av al)) hc HA.out Ap cp (m/2) _ _ (bu.out.more (by omega) gY) bt bz.out (by omega)).mono ?_;rintro e w2 ⟨Am,cm,rfl,aY,bA,bB,bd⟩;have bf:=gW aY;have bC:=gW bd;have bD:=aY.size;clear aY bd bB;obtain⟨A',c',w',q1,q2,q3⟩:=MU w2 w.heap.size lo _ cl k n W Z (HO.out.after (aX.out.trans (bf.out.mono al))) Am cm (by rw[a7.out];exact bA) (MV (g:=b) bC.out HM.out HV.out HK.out (by omega) (by omega) (by omega) rfl) (n+m/2) a7.out.symm (by omega) (by omega);have Q1:=gW q1;have Q2:=gW q2;have Q3:=gW q3;clear q1 q2 q3)
    |(at_builtin;refine wpList_append_run rfl (.tmp 12) (.tmp 22) 231 rfl (af (some ⟨b,o,none⟩) k cl) (af (some ⟨w2.heap.size,0,none⟩) 1 1) (af A' (k+1) c') w' rfl rfl Q1.out ?_))
   go_roundw
   case rel=>exact⟨k+1,A',c',by omega,by omega,rfl,Q2,gW ((HB.out.trans (aX.out.mono av)).trans ((bf.out.mono (Nat.le_trans av al)).trans Q3.out))⟩
   case measure=>simp[Qw];omega
  ·obtain rfl:k=L:=by omega
   have a1:¬(k:Int)<(k:Int):=by omega
   go_wp2;go_ret;exact⟨Al,⟨cl,rfl⟩,HB.out,pK.rd HO.out (by omega) aZ⟩
open Go.Shelf
attribute [local go_sem] Oper.semAt_some
def nU(S:Nat->Prop)(W W':aq):Prop:=∀k,S k->W'.heap[k]?=W.heap[k]?
theorem nU.refl(S:Nat->Prop)(W:aq):nU S W W:=fun _ _=>rfl
theorem nU.tr{S:Nat->Prop}{A B C:aq}(h:nU S A B)(k:nU S B C):nU S A C:=fun i hi=>(k i hi).trans (h i hi)
theorem nU.cell{S:Nat->Prop}{W W':aq}(h:nU S W W'){p:au}(hp:S p.block):W'.cell? p=W.cell? p:=by
 simp only[World.cell?,h _ hp]
theorem MY(F:Fence)(n:Nat)(aS:F.fn 182)(aT:F.round=none)(hn:1<=n)(l Bs b o len cap:Nat)(As:Nat->Option au)(ms cs:Nat->Nat)(S:Nat->Prop)(aU:S Bs)(aV:S b)(hlen:len<=100)(J:Nat->aq->Prop)
  (hY:∀j W1,J j W1->j<len->YieldAt F (n-1) prog l #[ae aj ((len-1-j:Nat):Int),af (As (len-1-j)) (ms (len-1-j)) (cs (len-1-j))] W1 fun e W'=>e=ao (.bool true)/\J (j+1) W'/\nU S W1 W')
  (W:aq) (ad:W.cell? ⟨Bs,0,none⟩=some (af (some ⟨b,o,none⟩) len cap)) (hc:∀K,K<len->W.cell? ⟨b,o+K,none⟩=some (af (As K) (ms K) (cs K))) (h0:J 0 W):
  CallsIn F n prog 182 #[.func (.yield l) #[] #[],ag (some ⟨Bs,0,none⟩)] W fun e W'=>(∃v,e=ao v)/\J len W':=by
 refine callsIn_of_wp func182 rfl aS ?_ aT
 simp only[ntmps182,List.size_toArray,List.length_cons,List.length_nil,Nat.reduceAdd,Nat.reduceSub,Array.replicate_succ,Array.replicate_zero,List.push_toArray,List.append_toArray,List.nil_append,List.cons_append]
 gi_wp2
 gi_loopw [3] (fun i wr=>∃j:Nat,j<=len/\i=ae aj ((len:Int)-1-(j:Int))/\J j wr/\nU S W wr) (fun i _=>(aP i+1).toNat)
 case atStart=>exact⟨0,Nat.zero_le _,lx (by omega),h0,nU.refl _ _⟩
 case round=>
  obtain⟨j,hj,rfl,al,hk⟩:=hrel;by_cases aW:j<len
  ·obtain⟨p,hp⟩:=gX (len-1-j);have ep:(len:Int)-1-(j:Int)=(p:Int):=by omega
   have aX:p<len:=by omega
   have a2:=(hk.cell (p:=⟨Bs,0,none⟩) aU).trans ad;have a3:=(hk.cell (p:=⟨b,o+p,none⟩) aV).trans (hc p aX);obtain⟨fn,tmps,assign,body,hy,hR⟩:=hY j wr al aW;rw[<-hp]at hy;have a4:(0:Int)<=(p:Int):=by omega
   rw[ep];have HP:=gW hp;have HK:=gW hk
   clear hc hY ad hp ep hk;gi_wp2
   refine hR.mono ?_;rintro e W3 ⟨rfl,aY,av⟩;have aZ:=gW av;clear av;gi_wp2
   go_roundw
   case rel=>exact⟨j+1,by omega,lx (by have:=HP.out;omega),aY,HK.out.tr aZ.out⟩
   case measure=>simp[aP]
  ·obtain rfl:j=len:=by omega
   have a1:¬(0:Int)<=(j:Int)-1-(j:Int):=by omega
   clear hc hY ad;gi_wp2
   go_end0;exact⟨⟨_,rfl⟩,al⟩
theorem MZ(F:Fence)(n:Nat)(ad:F.fn 171)(al:F.round=none)(a:Option au)(len cap:Nat)(w:aq):
  CallsIn F n prog 171 #[af a len cap] w fun e w'=>e=ao (.func (.func 182) #[] #[ag (some ⟨w.heap.size,0,none⟩)])/\w'=w.alloc (ak #[af a len cap] 231):=by
 refine callsIn_of_wp func171 rfl ad ?_ al
 simp only[ntmps171,List.size_toArray,List.length_cons,List.length_nil,Nat.reduceAdd,Nat.reduceSub,Array.replicate_succ,Array.replicate_zero,List.push_toArray,List.append_toArray,List.nil_append,List.cons_append]
 gi_wp2
 go_ret
 exact⟨rfl,rfl⟩
theorem M0(F:Fence)(n:Nat)(ad:F.fn 182)(al:F.round=none)(hn:1<=n)(Bs b o len cap:Nat)(As:Nat->Option au)(ms cs:Nat->Nat)(S:Nat->Prop)(av:S Bs)(aS:S b)(hlen:len<=100)(w:aq)(aT:w.cell? ⟨Bs,0,none⟩=some (af (some ⟨b,o,none⟩) len cap))(hB:Bs<w.heap.size)(hb:b<w.heap.size)
  (hc:∀K,K<len->w.cell? ⟨b,o+K,none⟩=some (af (As K) (ms K) (cs K))):
  DJ F n prog 182 #[ag (some ⟨Bs,0,none⟩)] (fun j=>#[ae aj ((len-1-j:Nat):Int),af (As (len-1-j)) (ms (len-1-j)) (cs (len-1-j))]) (nU S) len w:=fun l J W hW hY h0=>
 MY F n ad al hn l Bs b o len cap As ms cs S av aS hlen J hY W ((hW.cell hB).trans aT) (fun K hK=>(hW.cell (p:=⟨b,o+K,none⟩) hb).trans (hc K hK)) h0
attribute [local go_sem] Oper.semAt_some
def zt(n:Nat)(W:Nat->Nat):Nat->Nat->Bool
 |0,_=>true
 |K+1,t=>ki n (iB n K/2) W (jf (iU n W K)) (PZ n W (K+1) t) (t-PZ n W (K+1) t)
theorem E9(n:Nat)(W:Nat->Nat):∀K t,PZ n W K (t+1)=if zt n W K t=true then PZ n W K t+1 else PZ n W K t
 |0,_=>rfl
 |_+1,_=>rfl
theorem M1(n:Nat)(W:Nat->Nat)(Z:Nat->Int):∀K t,zK n W Z K t=if zt n W K t=true then Z (PZ n W K t)else-1
 |0,_=>rfl
 |_+1,_=>rfl
def Fa(n:Nat):Nat->Nat
 |0=>0
 |K+1=>iB n K
theorem zu(n:Nat)(W:Nat->Nat):∀K t,t<=iB n K->PZ n W K t<=n/\PZ n W K t<=t/\2*(t-PZ n W K t)<=Fa n K
 |0,t,h=>⟨h,Nat.le_refl _,by show 2*(t-t)<=0;omega⟩
 |K+1,t,h=>by
  have hb:=qp (n:=n) (m:=iB n K/2) (w:=W) (p:=jf (iU n W K)) t h;refine⟨hb.1,hb.2.2,?_⟩;show 2*(t-PV n (iB n K/2) W (jf (iU n W K)) t)<=iB n K
  omega
theorem M3(n:Nat)(W:Nat->Nat):∀K,PZ n W K 0=0
 |0=>rfl
 |_+1=>rfl
theorem Fb(n:Nat)(W:Nat->Nat)(K t:Nat):∀d,PZ n W K t<=PZ n W K (t+d)
 |0=>Nat.le_refl _
 |d+1=>by
  have ih:=Fb n W K t d;rw[<-Nat.add_assoc,E9];split<;>omega
def wW(n:Nat)(W:Nat->Nat):Nat->Nat->Nat->Nat
 |0,_,_=>0
 |K+1,T,i=>Qh n W K T i
theorem Fc(n:Nat)(W:Nat->Nat)(i:Nat):∀K T,wW n W (K+1) T i=(if i<PZ n W K T then 1 else 0)+wW n W K (2*(T-PZ n W K T)) i
 |0,_=>rfl
 |_+1,_=>rfl
def nC(F:Nat->Nat)(N:Nat)(c:Nat->Nat)(s:Nat):Nat:=if s<N/\0<F s then c (nE F N s)else 0
theorem M4{F:Nat->Nat}{N k:Nat}(hk:k<nI F N)(c:Nat->Nat):nC F N c ((PY F N).getD k 0)=c k:=by
 have h:=n0 hk;unfold nC;rw[if_pos h.2,h.1]
theorem Fe{F:Nat->Nat}{N:Nat}{c d:Nat->Nat}(h:∀i,i<nI F N->c i=d i)(s:Nat):nC F N c s=nC F N d s:=by
 unfold nC;split
 ·rename_i hs;exact h _ (qT hs.1 hs.2).1
 ·rfl
theorem M5{F:Nat->Nat}{N k:Nat}(hk:k<nI F N)(c:Nat->Nat)(x:Nat)(hx:x=c k+1)(d:Nat->Nat)(hd:∀i,d i=if i=k then c i+1 else c i):iG (nC F N c) ((PY F N).getD k 0) x=nC F N d:=by
 have h:=n0 hk;funext i;unfold iG nC;by_cases e:i=(PY F N).getD k 0
 ·subst e;rw[if_pos rfl,if_pos h.2,h.1,hd,if_pos rfl];exact hx
 ·rw[if_neg e];by_cases hi:i<N/\0<F i
  ·rw[if_pos hi,if_pos hi,hd,if_neg];intro h2;have hr:=qT hi.1 hi.2;rw[h2]at hr;exact e hr.2.symm
  ·rw[if_neg hi,if_neg hi]
theorem M6{F:Nat->Nat}{N L:Nat}(h2:2<=nI F N){s:Nat}(hs:s<N):nC F N (Qh (nI F N) (jo F N) (L-1) (2*nI F N-2)) s=jx F N L s:=by
 unfold nC jx;by_cases h:0<F s
 ·rw[if_pos ⟨hs,h⟩,if_neg (by omega),if_neg (by omega)]
 ·rw[if_neg (fun hh=>h hh.2),if_pos (by omega)]
theorem M7{W W':aq}{row:Option Nat}{B k:Nat}(hg:W.grownBy W' row)(hr:∀r,row=some r->B<=r/\∃o:Obj,W.heap[r]?=some o/\o.isCells=false)(hk:k<B)(hs:B<=W.heap.size):W'.heap[k]?=W.heap[k]?:=
 hg.block k (by omega) (fun e=>by have:=(hr k e.symm).1;omega)
theorem M8(n:Nat):∀K,n<=iB n K
 |0=>Nat.le_refl _
 |_+1=>Nat.le_add_right _ _
def zv(lo B:Nat)(k:Nat):Prop:=(lo<=k/\k<B)\/k=B+2
def wY(w u:aq)(g N cN n L:Nat)(F:Nat->Nat)(lo:Nat)(j:Nat)(W:aq):Prop:=
 Boxed W w.heap.size 22 (af (some ⟨g,0,none⟩) N cN)/\nU (zv lo w.heap.size) u W/\aR g w W/\u.heap.size<=W.heap.size/\
 ∃(T:Nat) (c:Nat->Nat),Boxed W (w.heap.size+1) 3 (ae aj (T:Int))/\T<=Fa n (L-j)/\(∀i,i<n->c i+wW n (jo F N) (L-j) T i=Qh n (jo F N) (L-1) (2*n-2) i)/\ju W g N (nC F N c)
theorem wY.own(w u:aq)(g N cN n L:Nat)(F:Nat->Nat)(lo:Nat)(hu:u.heap.size=w.heap.size+3)(hg:g<w.heap.size):OwnFrom u.heap.size (wY w u g N cN n L F lo):=by
 rintro j W W' row ⟨h1,h2,h3,h4,T,c,h5,h6,h7,cur,h8,h9⟩ ad hr;have hk:∀k,k<u.heap.size->W'.heap[k]?=W.heap[k]?:=fun k hk=>M7 ad hr hk h4
 refine⟨(hk _ (by omega)).trans h1,fun k hS=>(hk k ?_).trans (h2 k hS),h3.grown ad ?_ (fun r e=>?_),Nat.le_trans h4 ad.size,T,c,(hk _ (by omega)).trans h5,h6,h7,cur,(hk _ (by omega)).trans h8,h9⟩
 ·rcases hS with hS|hS<;>omega
 ·omega
 ·have:=(hr r e).1;omega
theorem M9(w:aq)(g N cN:Nat)(F:Nat->Nat)(a5:ju w g N (nC F N (fun _=>0)))(lo:Nat)(A:Option au)(c n L:Nat)(hn:n=nI F N)(bg:2<=n)(bP:1<=L)(b7:L<=15)(hp:n<=2^L)(hN:N<=400)(hg:g<lo)
  (hr:zr w lo w.heap.size A L n (jo F N) (fun t=>(((PY F N).getD t 0:Nat):Int))) (T0:Nat) (bj:T0=2*n-2):
  aw prog 154 #[af (some ⟨g,0,none⟩) N cN,af A L c,ae aj (T0:Int)] w fun e w'=>e=ao (.tuple #[])/\aR g w w'/\ju w' g N (jx F N L):=by
 obtain⟨b,o,rfl,bQ,bl,bm⟩:=hr
 refine(callsIn_wide (n:=5)).1 ?_
 refine callsIn_of_wp_marks func154 rfl trivial ?_ rfl
 simp only[ntmps154,List.size_toArray,List.length_cons,List.length_nil,Nat.reduceAdd,Nat.reduceSub,Array.replicate_succ,Array.replicate_zero,List.push_toArray,List.append_toArray,List.nil_append,List.cons_append]
 have bn:=gW a5;have bp:=gW bm;have HN:=gW hn;have HP:=gW hp;have HT:=gW bj
 clear a5 bm hn hp bj
 gi_wp2_with (refine⟨trivial,?_⟩;gi_at_call 171;refine(MZ _ _ trivial rfl _ _ _ _).mono ?_;rintro e w' ⟨rfl,rfl⟩)
 have bq:g<w.heap.size:=by omega
 have bR:n<=400:=by rw[HN.out];exact Nat.le_trans (pB F N) hN
 obtain⟨fA,aZ⟩:=Classical.axiomOfChoice (r:=fun(K:Nat) (y:Option au×Nat)=>K<L->w.cell? ⟨b,o+K,none⟩=some (af y.1 (iB n K) y.2)/\iB n K<=y.2/\kJ w lo w.heap.size y.1 (iB n K) (iU n (jo F N) K) (zK n (jo F N) (fun t=>(((PY F N).getD t 0:Nat):Int)) K)) (fun K=>by
  by_cases hK:K<L
  ·obtain⟨AK,cK,q⟩:=bp.out K hK;exact⟨(AK,cK),fun _=>q⟩
  ·exact⟨(none,0),fun h=>absurd h hK⟩)
 obtain⟨u,hu⟩:=gX (((w.alloc (ak #[af (some ⟨g,0,none⟩) N cN] 22)).alloc (ak #[ae aj (T0:Int)] 3)).alloc (ak #[af (some ⟨b,o,none⟩) L c] 231))
 have br:u.heap.size=w.heap.size+3:=by rw[hu];simp
 have aU:aR w.heap.size w u:=by rw[hu];exact(((Below.refl _ w).alloc gY _).alloc (by simp) _).alloc (by simp;omega) _
 have bt:Boxed u w.heap.size 22 (af (some ⟨g,0,none⟩) N cN):=by rw[hu];exact((Boxed.new w _ _).alloc _).alloc _
 have bu:Boxed u (w.heap.size+1) 3 (ae aj (T0:Int)):=by
  rw[hu];have h:=(Boxed.new (w.alloc (ak #[af (some ⟨g,0,none⟩) N cN] 22)) 3 (ae aj (T0:Int))).alloc (ak #[af (some ⟨b,o,none⟩) L c] 231);rwa[World.size_alloc]at h
 have bz:u.cell? ⟨w.heap.size+1+1,0,none⟩=some (af (some ⟨b,o,none⟩) L c):=by
  rw[hu];have h:=(Boxed.new ((w.alloc (ak #[af (some ⟨g,0,none⟩) N cN] 22)).alloc (ak #[ae aj (T0:Int)] 3)) 231 (af (some ⟨b,o,none⟩) L c)).cell;rwa[World.size_alloc,World.size_alloc]at h
 have aV:ju u g N (nC F N (fun _=>0)):=bn.out.below aU bq
 rw[<-hu]
 clear hu bp
 refine J7 (L:=L) rfl (by omega) (gf:=182) (lb:=#[ag (some ⟨w.heap.size+1+1,0,none⟩)]) rfl trivial (enters_of func182 (by kernel_rfl) rfl)
  (M0 _ _ trivial rfl (by omega) (w.heap.size+1+1) b o L c (fun K=>(fA K).1) (iB n) (fun K=>(fA K).2) (zv lo w.heap.size) (.inr rfl) (.inl ⟨bQ,bl⟩) (by omega) u bz (by omega) (by omega) (fun K hK=>by
   rw[aU.cell (p:=⟨b,o+K,none⟩) bl];exact(aZ K hK).1))
  (fun h k=>h.tr k) (fun W l ob b8 hl _ _ _ k hS=>World.putObj_heap_other (by rcases hS with hS|hS<;>omega)) (fun _=>rfl)
  (wY w u g N cN n L F lo) (wY.own w u g N cN n L F lo br bq) ?start
  (fun j=>{tmps:=#[af (some ⟨g,0,none⟩) N cN,af (some ⟨b,o,none⟩) L c,ae aj (T0:Int),ag (some ⟨w.heap.size,0,none⟩),undef,ag (some ⟨w.heap.size+1,0,none⟩),undef,.slice (fA (L-1-j)).1 (iB n (L-1-j)) (fA (L-1-j)).2,undef,undef,undef,af (some ⟨b,o,none⟩) L c,
   .func (.func 182) #[] #[ag (some ⟨w.heap.size+1+1,0,none⟩)],ae aj ((L-1-j:Nat):Int),.slice (fA (L-1-j)).1 (iB n (L-1-j)) (fA (L-1-j)).2,undef,undef,undef,undef,undef,undef,undef,undef,undef,undef,undef,undef,undef,undef,undef,undef,undef,undef,undef,undef,undef,undef],defers:=[]}) ?assign ?body ?done
 case start=>
  refine⟨bt,nU.refl _ _,aU.mono (by omega),Nat.le_refl _,T0,fun _=>0,bu,?_,fun i hi=>?_,aV⟩
  ·have:=tE (n:=n) bP HP.out;obtain⟨K,rfl⟩:∃K,L=K+1:=⟨L-1,by omega⟩;rw[HT.out];exact this
  ·obtain⟨K,rfl⟩:∃K,L=K+1:=⟨L-1,by omega⟩;rw[HT.out,Nat.zero_add];rfl
 case assign=>
  intro l j W K hK;gi_wp2
  exact hK
 case done=>
  rintro D W hD ⟨h1,h2,h3,h4,T,c',h5,h6,h7,h8⟩ hK;gi_wp2
  refine⟨by simp,.inl ⟨_,_,rfl,run_takeDeferred hK,?_⟩⟩;refine⟨_,results_none rfl _ _ _,rfl,h3.grown (grownBy_putObj' W D _) (by omega) (fun r e=>by cases e;omega),?_⟩;have bS:g≠D:=by omega
  obtain⟨cur,q1,q2⟩:=h8;refine ju.ext ⟨cur,(World.putObj_heap_other bS).trans q1,q2⟩ fun s hs=>?_
  rw[<-M6 (by rw[<-HN.out];exact bg) hs,<-HN.out];refine Fe (fun i hi=>?_) s;have h:=h7 i (by rw[HN.out];exact hi);rw[Nat.sub_self]at h;exact h
 case body=>
  rintro l j W ⟨h1,h2,h3,h4,T,c',h5,h6,h7,h8⟩ hj;obtain⟨K,hK⟩:=gX (L-1-j);rw[<-hK];have aW:L-j=K+1:=by omega
  have bT:K<L:=by omega
  rw[aW]at h6 h7;obtain⟨q1,q2,q3⟩:=aZ K bT;obtain⟨AK,bA⟩:=gX ((fA K).1);obtain⟨cK,bB⟩:=gX ((fA K).2);rw[<-bA]at q1 q3⊢;rw[<-bB]at q1 q2⊢;have b3:=tF bg bR K;have bC:T<=iB n K:=h6;have a6:=zu n (jo F N) K T bC;have bU:=M8 n K;obtain⟨bk,ok,rfl,bV,bD,aS⟩:=q3 (by omega);have bE:∀i,i<iB n K*2->W.cell? ⟨bk,ok+i,none⟩=some (ae aj (nz (iU n (jo F N) K) (zK n (jo F N) (fun t=>(((PY F N).getD t 0:Nat):Int)) K) i)):=fun i hi=>by
   rw[h2.cell (p:=⟨bk,ok+i,none⟩) (.inl ⟨bV,bD⟩),aU.cell (p:=⟨bk,ok+i,none⟩) bD];exact aS i hi
  have b9:T<=cK:=by omega
  have ca:T<=800:=by omega
  obtain⟨m,hm⟩:=gX (iB n K);rw[<-hm]at bC⊢;have bF:=h5.cell;have bG:=h5.frozen;have bH:=gW bE;have HM:=gW hm;have H1:=gW h1;have H2:=gW h2;have H3:=gW h3;have H5:=gW h5;have H7:=gW h7;have H8:=gW h8;have bW:=gW hK;have bI:=gW a6;have cb:=gW aZ
  clear bE hm h1 h2 h3 h5 h7 h8 hK a6 aS q1 q2 q3 bA bB aW h6 bt bu bz aV aU aZ bU;gi_wp2
  gi_loopw [8,19] (fun v8 a8 wr=>∃t d:Nat,t<=T/\d<=2000/\v8=ae aj (d:Int)/\a8=ae aj (t:Int)/\aQ (d=2*(t-PZ n (jo F N) K t))/\aQ (ju wr g N (nC F N (fun i=>c' i+if i<PZ n (jo F N) K t then 1 else 0)))/\aQ (KeepsOthers W wr)/\aQ (∀k,k<u.heap.size->k≠g->wr.heap[k]?=W.heap[k]?)/\aQ (aR g w wr)/\u.heap.size<=wr.heap.size) (fun _ a8 _=>T-(aP a8).toNat)
  case atStart=>exact⟨0,0,Nat.zero_le _,by omega,rfl,rfl,gW (by omega),gW (H8.out.ext fun s _=>Fe (fun i _=>by rw[M3,if_neg (by omega)];rfl) s),gW (KeepsOthers.refl _),gW (fun _ _ _=>rfl),H3,h4⟩
  case round=>
   obtain⟨t,d,cf,bX,rfl,rfl,HD,HR,a9,aT,HB,cg⟩:=hrel;by_cases ch:t<T
   ·have bJ:(t:Int)<(T:Int):=by omega
    have bY:g<wr.heap.size:=by omega
    have cj:w.heap.size<wr.heap.size:=by omega
    have b4:bk<wr.heap.size:=by omega
    have ad:∀p:au,p.block<u.heap.size->p.block≠g->wr.cell? p=W.cell? p:=fun p hp al=>by simp only[World.cell?,aT.out _ hp al]
    have c1:=(ad ⟨bk,ok+t*2,none⟩ (by show bk<_;omega) (by show bk≠g;omega)).trans (bH.out (t*2) (by rw[<-HM.out];omega));have c2:=(ad ⟨bk,ok+(t*2+1),none⟩ (by show bk<_;omega) (by show bk≠g;omega)).trans (bH.out (t*2+1) (by rw[<-HM.out];omega));rw[uD]at c1;rw[wV,M1]at c2;rw[<-Nat.add_assoc]at c2;have c3:=(ad ⟨w.heap.size,0,none⟩ (by show w.heap.size<_;omega) (by show w.heap.size≠g;omega)).trans H1.out.cell;obtain⟨x,hx⟩:=gX (iU n (jo F N) K t);rw[<-hx]at c1;have av:=E9 n (jo F N) K t;have bK:=zu n (jo F N) K (t+1) (by rw[<-HM.out];omega);obtain⟨q,hq⟩:=gX (PZ n (jo F N) K t);rw[<-hq]at HD HR av c2;by_cases a1:zt n (jo F N) K t=true
    ·rw[if_pos a1]at av c2;have a2:q<n:=by omega
     have bd:=n0 (F:=F) (n:=N) (r:=q) (by rw[<-HN.out];exact a2);have a3:=M4 (F:=F) (N:=N) (k:=q) (by rw[<-HN.out];exact a2) (fun i=>c' i+if i<q then 1 else 0);have bf:=M5 (F:=F) (N:=N) (k:=q) (by rw[<-HN.out];exact a2) (fun i=>c' i+if i<q then 1 else 0);have bL:=H7.out q a2;have bZ:=rK n (jo F N) (L-1) (2*n-2) q;have a7:=Fc n (jo F N) q K T;have bM:=Fb n (jo F N) K (t+1) (T-(t+1));rw[show t+1+(T-(t+1))=T by omega]at bM;rw[if_pos (by omega)]at a7;obtain⟨s,hs⟩:=gX ((PY F N).getD q 0);rw[<-hs]at bd a3 bf c2;have b0:s<N:=bd.2.1;have c4:=HR.out.cell b0;have f4:=HR.out.frozen s;obtain⟨y,hy⟩:=gX (c' q);simp only[if_neg (Nat.lt_irrefl q),Nat.add_zero]at a3;rw[a3,<-hy]at c4;have b5:y+1<=15:=by omega
     have al:((s:Int)== -1)=false:=by simp
     have aX:=HR.out.set s (y+1);rw[show((y+1:Nat):Int)=(y:Int)+1 by omega]at aX;have bN:=gW aX;have b1:=gW bf;have aY:=gW av;have HQ:=gW hq;have HY:=gW hy
     clear hx av bK hq bd a3 bf bL bZ a7 bM hs hy aX ad a1;gi_wp2
     go_roundw
     case rel=>
      have a4:(wr.setCell ⟨g,s,none⟩ (ae .u8 ((y:Int)+1))).heap.size=wr.heap.size:=by simp[World.setCell]
      refine⟨t+1,d,by omega,bX,rfl,by go_num,gW ?_,gW ?_,gW ((a9.out.trans (KeepsOthers.setCell _ _ _)).trans (KeepsOthers.alloc _ _)),gW (fun k hk al=>?_),gW ((HB.out.setCell (p:=⟨g,s,none⟩) gY _).alloc (by rw[a4];omega) _),by rw[World.size_alloc,a4];omega⟩
      ·rw[aY.out,HD.out];omega
      ·have h:=bN.out;rw[b1.out (y+1) (by rw[HY.out,if_neg (Nat.lt_irrefl q)]) (fun i=>c' i+if i<q+1 then 1 else 0) (fun i=>by
        by_cases e:i=q
        ·rw[if_pos e,if_pos (by omega),if_neg (by omega)]
        ·rw[if_neg e];by_cases e2:i<q
         ·rw[if_pos (by omega),if_pos e2]
         ·rw[if_neg (by omega),if_neg e2])]at h
       rw[aY.out];exact h.below (ix.alloc gY _) (by rw[a4];omega)
      ·exact((Below.heap_alloc _ _ k (by rw[a4];omega)).trans (Below.heap_setCell wr _ _ k al)).trans (aT.out k hk al)
     case measure=>simp[aP];omega
    ·rw[if_neg a1]at av c2;have ck:((-1:Int)== -1)=true:=rfl;have aY:=gW av;have HQ:=gW hq
     have cl:=HD.out;clear hx av hq ad a1 c3;gi_wp2
     go_roundw
     case rel=>
      refine⟨t+1,d+2,by omega,by omega,by go_num,by go_num,gW ?_,gW ?_,gW (a9.out.trans (KeepsOthers.alloc _ _)),gW (fun k hk al=>?_),gW (HB.out.alloc (by omega) _),by rw[World.size_alloc];omega⟩
      ·have h1:=aY.out;have h2:=HD.out;have h3:=HQ.out
       have h4:=bK.2.1;have h5:q<=t:=by rw[h3];exact(zu n (jo F N) K t (by rw[<-HM.out];omega)).2.1
       rw[h1];omega
      ·rw[aY.out];exact HR.out.below (ix.alloc gY _) bY
      ·exact(Below.heap_alloc _ _ k (by omega)).trans (aT.out k hk al)
     case measure=>simp[aP];omega
   ·obtain rfl:t=T:=by omega
    have bJ:¬(t:Int)<(t:Int):=by omega
    have b6:w.heap.size+1<wr.heap.size:=by omega
    have e5:=aT.out (w.heap.size+1) (by omega) (by omega);have c5:wr.cell? ⟨w.heap.size+1,0,none⟩=some (ae aj (t:Int)):=by simp only[World.cell?,e5];exact bF
    have f5:wr.frozen? ⟨w.heap.size+1,0,none⟩=false:=by simp only[World.frozen?,e5];exact bG
    have b2:=gW e5;clear e5 bF bG;gi_wp2
    have aW:L-(j+1)=K:=by have:=bW.out;omega
    have bO:nU (zv lo w.heap.size) W (wr.setCell ⟨w.heap.size+1,0,none⟩ (ae aj (d:Int))):=fun k hS=>by
     have al:k≠w.heap.size+1:=by rcases hS with hS|hS<;>omega
     exact(Below.heap_setCell wr _ _ k al).trans (aT.out k (by rcases hS with hS|hS<;>omega) (by rcases hS with hS|hS<;>omega))
    refine⟨a9.out.trans (KeepsOthers.setCell _ _ _),bO,?_,H2.out.tr bO,HB.out.setCell (p:=⟨w.heap.size+1,0,none⟩) (by show g<=w.heap.size+1;omega) _,by simp[World.setCell];omega,d,(fun i=>c' i+if i<PZ n (jo F N) K t then 1 else 0),?_,?_,fun i hi=>?_,HR.out.other (by show g≠w.heap.size+1;omega) _⟩
    ·exact(Below.heap_setCell wr _ _ _ (by show w.heap.size≠w.heap.size+1;omega)).trans ((aT.out _ (by omega) (by omega)).trans H1.out)
    ·exact Boxed.set _ (b2.out.trans H5.out)
    ·rw[aW,HD.out];exact bI.out.2.2
    ·rw[aW,HD.out];have h:=H7.out i hi;rw[Fc]at h;show(c' i+if i<PZ n (jo F N) K t then 1 else 0)+wW n (jo F N) K (2*(t-PZ n (jo F N) K t)) i=_
     omega
def qM(l:List Int)(il:Int):Int:=if il<1\/15<il then 2 else if 320<l.length then 4 else if qV l l.length=true then 2 else 0
theorem Na(w:aq)(A:Option au)(c:Nat)(l:List Int)(il:Int)(hr:jS w w.heap.size A l)(hn:l.length<=1000)(a1: -9223372036854775808<=il)(a2:il<=9223372036854775807)(hb:∀j,j<l.length->-9223372036854775808<=l.getD j 0/\l.getD j 0<=9223372036854775807):
  aw prog 152 #[af A l.length c,ae aj il] w fun e w'=>e=ao (ae aj (qM l il))/\w'=w:=by
 have HR:=gW hr;have aU:=gW hb
 clear hr hb
 obtain⟨n,av⟩:=gX (l.length)
 obtain⟨E,hE⟩:=gX (qM l il)
 rw[<-av]at hn⊢
 rw[<-hE]
 unfold qM at hE
 rw[<-av]at hE
 have HN:=gW av
 clear av
 by_cases h1:il<1
 ·rw[if_pos (.inl h1)]at hE;subst hE;have hd:decide (il<1)=true:=by simpa using h1
  go_enter func152,ntmps152
  go_wp2;go_ret;exact⟨rfl,rfl⟩
 ·have hd:decide (il<1)=false:=by simpa using h1
  by_cases h2:15<il
  ·rw[if_pos (.inr h2)]at hE;subst hE;go_enter func152,ntmps152
   go_wp2;go_ret;exact⟨rfl,rfl⟩
  ·rw[if_neg (by omega)]at hE;have a3:decide (15<il)=false:=by simpa using h2
   by_cases h3:320<n
   ·rw[if_pos h3]at hE;subst hE;have aV:decide ((320:Int)<(n:Int))=true:=by simp;omega
    have aW:(320:Int)<(n:Int):=by omega
    go_enter func152,ntmps152
    go_wp2;go_ret;exact⟨rfl,rfl⟩
   ·rw[if_neg h3]at hE;have aV:decide ((320:Int)<(n:Int))=false:=by simp;omega
    have aW:¬(320:Int)<(n:Int):=by omega
    have HE:=gW hE;clear hE;go_enter func152,ntmps152
    go_wp2;go_loopw [18] (fun i wr=>∃k:Nat,k<=n/\i=ae aj (k:Int)/\wr=w/\aQ (∀j,j<k->qU (l.getD j 0)=false)) (fun i _=>n-(aP i).toNat)
    case atStart=>exact⟨0,Nat.zero_le _,rfl,rfl,gW (fun j hj=>absurd hj (by omega))⟩
    case round=>
     obtain⟨k,hk,rfl,rfl,aS⟩:=hrel;by_cases al:k<n
     ·have aT:(k:Int)<(n:Int):=by omega
      obtain⟨b,o,rfl,a4,hc⟩:=HR.out.at (k:=k) (by rw[<-HN.out];exact al);have c1:=hc k (by rw[<-HN.out];exact al);have aX:=aU.out k (by rw[<-HN.out];exact al);obtain⟨x,hx⟩:=gX (l.getD k 0);rw[<-hx]at c1 aX;have HX:=gW hx;clear hx hc;by_cases g1:x<0
      ·have aY:decide (x<0)=true:=by simpa using g1
       go_wp2;go_ret;have ad:qV l l.length=true:=uN (k:=k) (by rw[<-HN.out];exact al) (by rw[<-HX.out];exact decide_eq_true (.inl g1));have h:=HE.out;rw[HN.out,if_pos ad]at h;exact⟨nV h.symm,rfl⟩
      ·have aY:decide (x<0)=false:=by simpa using g1
       by_cases g2:1073741824<x
       ·have aZ:decide (1073741824<x)=true:=by simpa using g2
        go_wp2;go_ret;have ad:qV l l.length=true:=uN (k:=k) (by rw[<-HN.out];exact al) (by rw[<-HX.out];exact decide_eq_true (.inr g2));have h:=HE.out;rw[HN.out,if_pos ad]at h;exact⟨nV h.symm,rfl⟩
       ·have aZ:decide (1073741824<x)=false:=by simpa using g2
        go_wp2;go_roundw
        case rel=>exact⟨k+1,by omega,by go_num,trivial,gW (fun j hj=>by
         by_cases e:j=k
         ·rw[e,<-HX.out];exact Gr (by omega) (by omega)
         ·exact aS.out j (by omega))⟩
        case measure=>simp[aP];omega
     ·obtain rfl:k=n:=by omega
      have aT:¬(k:Int)<(k:Int):=by omega
      go_wp2;go_ret;have ad:qV l l.length=false:=Gq (fun j hj=>aS.out j (by rw[HN.out];exact hj));have h:=HE.out;rw[HN.out,if_neg (by rw[ad];exact Bool.false_ne_true)]at h;exact⟨nV h.symm,rfl⟩
theorem Nb{l:List Int}{il:Int}(h:qM l il≠0):nF l il=qM l il:=by
 unfold qM at h⊢;unfold nF;split
 ·rfl
 ·rename_i h1;rw[if_neg h1]at h;split
  ·rfl
  ·rename_i h2;rw[if_neg h2]at h;split
   ·rfl
   ·rename_i h3;rw[if_neg h3]at h;exact absurd rfl h
theorem Nc{l:List Int}{il:Int}(h:qM l il=0):1<=il/\il<=15/\l.length<=320/\(∀j,j<l.length->0<=l.getD j 0/\l.getD j 0<=1073741824)/\nF l il=if 2^il.toNat<nI (iq l) l.length then 4 else 0:=by
 unfold qM at h;unfold nF;split at h
 ·cases h
 ·rename_i h1;rw[if_neg h1];split at h
  ·cases h
  ·rename_i h2;rw[if_neg h2];split at h
   ·cases h
   ·rename_i h3;rw[if_neg h3];refine⟨by omega,by omega,by omega,fun j hj=>?_,rfl⟩;have h4:¬qU (l.getD j 0)=true:=fun hb=>h3 (uN hj hb)
    have h5:=of_decide_eq_false (Bool.not_eq_true _▸h4);omega
theorem zw(w:aq)(A:Option au)(c:Nat)(l:List Int)(il:Int)(hr:jS w w.heap.size A l)(_hc:A=none->c=0)(hn:l.length<=1000)(hb:∀j,j<l.length->-9223372036854775808<=l.getD j 0/\l.getD j 0<=9223372036854775807)
  (bV: -9223372036854775808<=il) (bW:il<=9223372036854775807):
  aw prog 131 #[af A l.length c,ae aj il] w fun e w'=>∃A' c',e=ao (.tuple #[af A' (pQ l il) c',ae aj (nF l il)])/\aR w.heap.size w w'/\iy w' w'.heap.size A' (pQ l il) (oe l il)/\pQ l il<=c'/\c'<=1000/\(A'=none->c'=0)/\(∀b o,A'=some ⟨b,o,none⟩->w.heap.size<=b):=by
 have aS:=gW (Na w A c l il hr hn bV bW hb)
 have HR:=gW hr;have bX:=gW hb
 by_cases hz:qM l il=0
 ·obtain⟨k1,k2,k3,k4,k5⟩:=Nc hz;have aX:=MJ w A c l hr ⟨by omega,fun j hj=>(k4 j hj).1⟩ hb;obtain⟨N,hN⟩:=gX (l.length);obtain⟨n,aY⟩:=gX (nI (iq l) l.length);obtain⟨L,hL⟩:∃L:Nat,il=(L:Int):=⟨il.toNat,by omega⟩;subst hL;rw[Int.toNat_natCast,<-aY]at k5;rw[hz]at aS;rw[<-aY,<-hN]at aX;rw[<-hN]at aS k3⊢;obtain⟨E,hE⟩:=gX (nF l (L:Int));obtain⟨lo,bg⟩:=gX (pQ l (L:Int));obtain⟨ol,aV⟩:=gX (oe l (L:Int));rw[<-hE,<-bg,<-aV];have aZ:=gW hE;have br:=gW bg;have aT:=gW aV;have HN:=gW hN;have bt:=gW aY;have bu:=gW k4;have bz:=gW k5
  have a6:=gW aX;have bA:1<=L:=by omega
  have bj:L<=15:=by omega
  have cf:n<=N:=by rw[aY,hN];exact pB _ _
  obtain⟨Q,hQ⟩:=gX (2^L);have a8:Q<=2^15:=by rw[hQ];exact Nat.pow_le_pow_right (by decide) bj
  have cb:Q<=32768:=a8;have a1:((2:Int)^L)=(Q:Int):=by rw[hQ,Int.natCast_pow];rfl
  have cg:wrap64 ((2:Int)^L)=(Q:Int):=by rw[a1];unfold wrap64;omega
  have HQ:=gW hQ;clear hr hb hz hE bg aV hN aY k4 k5 aX _hc hn hQ a8 a1;by_cases a2:Q<n
  ·have bk:(Q:Int)<(n:Int):=by omega
   have bY:decide ((Q:Int)<(n:Int))=true:=decide_eq_true bk;go_enter func131,ntmps131
   go_wp2_with (first
    |(go_at_call 152;refine aS.out.mono ?_;rintro e w1 ⟨rfl,rfl⟩)
    |(go_at_call 153;refine a6.out.mono ?_;rintro e w2 ⟨A1,c1,rfl,ad,al⟩;have a3:=gW ad;have bB:=gW al;clear ad al))
   go_ret2;have he:E=4:=by rw[aZ.out,bz.out,if_pos (by rw[<-HQ.out];exact a2)]
   have aW:lo=0:=by rw[br.out];unfold pQ;rw[<-aZ.out,he,if_neg (by decide)]
   rw[he,aW,aT.out];exact⟨none,0,rfl,a3.out,⟨fun j=>sU l _ j,fun h=>absurd h (by omega)⟩,by omega,by omega,fun _=>rfl,fun _ _ e=>by cases e⟩
  ·have bk:¬(Q:Int)<(n:Int):=by omega
   have bY:decide ((Q:Int)<(n:Int))=false:=decide_eq_false bk;have bC:n<=2^L:=by rw[<-HQ.out];omega
   have he:E=0:=by rw[aZ.out,bz.out,if_neg (by omega)]
   have aW:lo=N:=by rw[br.out];unfold pQ;rw[<-aZ.out,he,if_pos rfl,<-HN.out]
   have a9:∀j,ol j=jx (iq l) N L j:=fun j=>by rw[aT.out];unfold oe;rw[<-aZ.out,he,if_pos rfl,<-HN.out,Int.toNat_natCast]
   have bl:=gW a9;have bZ:=gW bC
   subst he;subst aW;have ch:=uR lo (by omega);clear a2 a9 bC;by_cases h2:2<=n
   ·have bD:((n:Int)==1)=false:=by simp;omega
    have a4:(1:Int)<(n:Int):=by omega
    have bd:decide ((1:Int)<(n:Int))=true:=decide_eq_true a4;have av:=gW (show n=nI (iq l) lo by rw[HN.out];exact bt.out);go_enter func131,ntmps131
    go_wp2_with (first
     |(go_at_call 152;refine aS.out.mono ?_;rintro e w1 ⟨rfl,rfl⟩)
     |(go_at_call 153;refine a6.out.mono ?_;rintro e w2 ⟨A1,c1,rfl,ad,al⟩;have a7:=gW (show aR w1.heap.size w1 (w2.alloc (ak (aJ #[ae .u8 0] lo) 5))from ad.alloc ad.size _);have b0:=gW (((HR.out.below a7.out gY).more a7.out.size));have bB:=gW ((al.below ((Below.refl w2.heap.size w2).alloc gY (ak (aJ #[ae .u8 0] lo) 5)) gY).more (by simp:w2.heap.size<=(w2.alloc (ak (aJ #[ae .u8 0] lo) 5)).heap.size));have bE:=gW (pP w2 lo);have aU:=ad.size;clear ad al;have bF:=gW (MK _ A c l b0.out A1 c1 (PY (iq l) lo) bB.out (fun j hj=>by have h:=n0 (F:=iq l) (n:=lo) (r:=j) (by rw[<-mE];exact hj);have h2:=h.2.1;rw[HN.out]at h2⊢;exact h2) lo n HN.out (by rw[mE];exact av.out) (by omega) bu.out))
     |(go_at_call 156;refine bF.out.mono ?_;rintro e w3 ⟨A3,c3,rfl,bG,bH,hA3,bI⟩;have bm:=gW bG;have b1:=gW bH;have b2:=gW hA3;have b3:=gW bI;clear bG bH hA3 bI;have bJ:=gW (MW w3 _ A3 c3 n (jo (iq l) lo) (fun t=>(((PY (iq l) lo).getD t 0:Nat):Int)) b3.out bm.out.size b1.out b2.out L bA bj h2 (by omega) (fun i hi=>by have h:=n0 (F:=iq l) (n:=lo) (r:=i) (by rw[<-av.out];exact hi);have h2:=bu.out _ (by rw[<-HN.out];exact h.2.1);show(l.getD ((PY (iq l) lo).getD i 0) 0).toNat<=_;omega)))
     |(go_at_call 155;refine bJ.out.mono ?_;rintro e w4 ⟨A4,c4,rfl,bK,bL⟩;have bM:=gW bK;have b5:=gW bL;clear bK bL))
    have hT:(2*(n:Int)-2)=((2*n-2:Nat):Int):=by omega
    rw[hT];have b6:=bm.out.size;have cj:=bM.out.size;have ck:(w2.alloc (ak (aJ #[ae .u8 0] lo) 5)).heap.size=w2.heap.size+1:=by simp
    have b4:aR (w2.alloc (ak (aJ #[ae .u8 0] lo) 5)).heap.size (w2.alloc (ak (aJ #[ae .u8 0] lo) 5)) w4:=bm.out.trans (bM.out.mono b6);have a5:ju w4 w2.heap.size lo (nC (iq l) lo (fun _=>0)):=(bE.out.below b4 (by omega)).ext (fun s _=>by unfold nC;split<;>rfl);have bf:=M9 w4 w2.heap.size lo lo (iq l) a5 (w2.alloc (ak (aJ #[ae .u8 0] lo) 5)).heap.size A4 c4 n L av.out h2 bA bj bZ.out (by omega) (by omega) b5.out (2*n-2) rfl;have bN:=gW bf;clear bf a5 hT;refine bN.out.mono ?_;rintro e w5 ⟨rfl,bO,bP⟩;have b7:=gW bO;have b8:=gW bP
    clear bO bP;go_wp2;go_ret2;have hr:=b8.out.ext (f':=ol) (fun j _=>(bl.out j).symm);exact⟨_,_,rfl,(a7.out.trans (b4.mono a7.out.size)).trans (b7.out.mono aU),hr.rd (fun j=>by rw[aT.out];exact sU l _ j),Nat.le_refl _,by omega,(fun h=>by cases h),(fun _ _ e=>by injection e with e;injection e with e1;omega)⟩
   ·have av:=gW (show n=nI (iq l) lo by rw[HN.out];exact bt.out);by_cases h1:n=1
    ·have H1:=gW h1;have bD:((n:Int)==1)=true:=by simp;omega
     have a4:¬(1:Int)<(n:Int):=by omega
     have bd:decide ((1:Int)<(n:Int))=false:=decide_eq_false a4;have bQ:0<n:=by omega
     have bR:=n0 (F:=iq l) (n:=lo) (r:=0) (by have:=av.out;omega);obtain⟨s,hs⟩:=gX ((PY (iq l) lo).getD 0 0);have b9:s<lo:=by rw[hs];exact bR.2.1
     have HS:=gW hs;clear hs bR h2 h1;go_enter func131,ntmps131
     go_wp2_with (first
      |(go_at_call 152;refine aS.out.mono ?_;rintro e w1 ⟨rfl,rfl⟩)
      |(go_at_call 153;refine a6.out.mono ?_;rintro e w2 ⟨A1,c1,rfl,ad,al⟩;have bS:=al;obtain⟨b,o,rfl,cl,bT⟩:=bS.at (k:=0) (by have h:=av.out;rw[oI,mE,<-h];exact bQ);have c0:=bT 0 (by have h:=av.out;rw[oI,mE,<-h];exact bQ);rw[rN,<-HS.out,Nat.add_zero]at c0;have a3:=gW ad;have aU:=ad.size;have ca:=(pP w2 lo).cell b9;have cm:=(pP w2 lo).frozen s;clear bS bT ad al))
     go_ret2;have hr:=(AU w2 lo s).ext (f':=ol) (fun j hj=>by rw[bl.out j,HS.out];exact(AS (av.out.symm.trans H1.out) hj).symm);exact⟨_,_,rfl,a3.out.alloc aU _,hr.rd (fun j=>by rw[aT.out];exact sU l _ j),Nat.le_refl _,by omega,(fun h=>by cases h),(fun _ _ e=>by injection e with e;injection e with e1;omega)⟩
    ·have h0:n=0:=by omega
     have H0:=gW h0;have bD:((n:Int)==1)=false:=by simp;omega
     have a4:¬(1:Int)<(n:Int):=by omega
     have bd:decide ((1:Int)<(n:Int))=false:=decide_eq_false a4;clear h0 h1 h2;go_enter func131,ntmps131
     go_wp2_with (first
      |(go_at_call 152;refine aS.out.mono ?_;rintro e w1 ⟨rfl,rfl⟩)
      |(go_at_call 153;refine a6.out.mono ?_;rintro e w2 ⟨A1,c1,rfl,ad,al⟩;have a3:=gW ad;have aU:=ad.size;clear ad al))
     go_ret2;have hr:=(pP w2 lo).ext (f':=ol) (fun j hj=>by rw[bl.out j];exact(AO (av.out.symm.trans H0.out) hj).symm);exact⟨_,_,rfl,a3.out.alloc aU _,hr.rd (fun j=>by rw[aT.out];exact sU l _ j),Nat.le_refl _,by omega,(fun h=>by cases h),(fun _ _ e=>by injection e with e;injection e with e1;omega)⟩
 ·have bn:=aS.out;have bp:=Nb hz;have bq:nF l il≠0:=by rw[bp];exact hz
  obtain⟨N,hN⟩:=gX (l.length);obtain⟨E,hE⟩:=gX (nF l il);rw[<-bp,<-hE,<-hN]at bn;have aW:pQ l il=0:=by unfold pQ;rw[if_neg bq]
  rw[aW,<-hE,<-hN];have aT:=gW (sU l il);obtain⟨ol,aV⟩:=gX (oe l il);rw[<-aV]at aT⊢;have bU:E≠0:=by rw[hE];exact bq
  have cn:(E==0)=false:=by simpa using bU
  have HC:=gW bn;clear bn hr hb hz hE hN aV bp bq aW aS HR bX _hc hn bU;go_enter func131,ntmps131
  go_wp2_with (go_at_call 152;refine HC.out.mono ?_;rintro e w1 ⟨rfl,rfl⟩)
  go_ret2;exact⟨none,0,rfl,Below.refl _ _,⟨aT.out,fun h=>absurd h (by omega)⟩,by omega,by omega,fun _=>rfl,fun _ _ e=>by cases e⟩
open Go.ChangeShapes Go.WideShapes Go.ChangeAt Go.Joins
theorem Ff(f:Nat->Nat)(least:Nat):∀n,n<=least->Qc f least n=least
 |0,_=>rfl
 |k+1,h=>by simp only[Qc];rw[if_neg (by omega)];exact Ff f least k (by omega)
theorem zx(w:aq)(A:Option au)(n c:Nat)(f:Nat->Nat)(least:Nat)(hr:iy w w.heap.size A n f)(aU:n<=c)(hn:n<=1000)(hl:least<=n):
  aw prog 132 #[af A n c,ae aj (least:Int)] w fun e w'=>e=ao (af A (Qc f least n) c)/\w=w':=by
 have HR:=gW hr
 obtain⟨C,hC⟩:=gX (Qc f least n)
 rw[<-hC]
 have HC:=gW hC
 clear hr hC
 go_enter func132,ntmps132
 go_wp2_with fail
 go_loopw [5] (fun nv wr=>∃k:Nat,least<=k/\k<=n/\nv=ae aj (k:Int)/\aQ (C=Qc f least k)/\w=wr) (fun nv _=>(aP nv).toNat)
 case atStart=>exact⟨n,hl,Nat.le_refl _,rfl,HC,rfl⟩
 case round=>
  obtain⟨k,aV,aW,rfl,HK,rfl⟩:=hrel;by_cases h1:least<k
  ·have av:(least:Int)<(k:Int):=by omega
   obtain⟨b,o,rfl,hb,hc⟩:=HR.out.2 (by omega);obtain⟨j,rfl⟩:∃j,k=j+1:=⟨k-1,by omega⟩;have c1:=hc j (by omega);have hj:((j+1:Nat):Int)-1=(j:Int):=by omega
   have aX:(j:Int)<(n:Int):=by omega
   obtain⟨x,hx⟩:=gX (f j);have aY:x<256:=by rw[hx];exact HR.out.1 j
   rw[<-hx]at c1;have HX:=gW hx;clear hc hx;by_cases h2:x=0
   ·subst h2;have ad:C=Qc f least j:=by
     rw[HK.out];simp only[Qc];rw[if_neg (by rw[<-HX.out];omega)]
    have aS:=gW ad;clear ad;go_wp2;go_roundw
    case rel=>exact⟨j,by omega,by omega,by go_num,aS,trivial⟩
    case measure=>simp[aP]
   ·have aZ:((x:Int)==0)=false:=by rw[beq_eq_false_iff_ne];omega
    have ad:C=j+1:=by
     rw[HK.out];simp only[Qc];rw[if_pos ⟨by omega,by rw[<-HX.out];exact h2⟩]
    subst ad;have aT:((j+1:Nat):Int)<=(c:Int):=by omega
    have al:j+1<=c:=by omega
    go_wp2;go_ret;exact⟨rfl,rfl⟩
  ·obtain rfl:k=least:=by omega
   have av:¬(k:Int)<(k:Int):=by omega
   have ad:C=k:=by rw[HK.out];exact Ff f k k gY
   subst ad;have aT:(C:Int)<=(c:Int):=by omega
   have al:C<=c:=by omega
   go_wp2;go_ret;exact⟨rfl,rfl⟩
def P6(T f:Nat->Nat):Nat->Nat
 |0=>0
 |i+1=>P6 T f i+T i*f i
theorem wZ{T f:Nat->Nat}{M:Nat}(hT:∀i,T i<=M)(hf:∀i,f i<=256):∀n,P6 T f n<=n*(M*256)
 |0=>Nat.zero_le _
 |n+1=>by
  have h1:=wZ hT hf n;have h2:=Nat.mul_le_mul (hT n) (hf n);show P6 T f n+T n*f n<=_
  rw[Nat.add_mul,Nat.one_mul];omega
def zy(w:aq)(b o n:Nat)(T:Nat->Nat):Prop:=∀i,i<n->w.cell? ⟨b,o+i,none⟩=some (ae aj ((T i:Nat):Int))
theorem Fg(w:aq)(b o n c:Nat)(T:Nat->Nat)(A2:Option au)(m c2:Nat)(f:Nat->Nat)(hT:zy w b o n T)(hb:b<w.heap.size)(av:∀i,T i<=1000001)(hn:n<=1000)(hr:iy w w.heap.size A2 m f)(k:Nat)(hk:k=min m n):
  aw prog 128 #[af (some ⟨b,o,none⟩) n c,af A2 m c2] w fun e w'=>e=ao (ae aj ((P6 T f k:Nat):Int))/\aR w.heap.size w w':=by
 have HT:=gW hT;have HR:=gW hr;have aS:=gW av
 clear hT hr av
 rcases Nat.lt_or_ge m n with aY|aY
 case' inl=>(have ad:k=m:=by omega);clear hk;obtain rfl:=ad
 case' inr=>(have ad:k=n:=by omega);clear hk;obtain rfl:=ad
 all_goals(
  go_enter func128,ntmps128
  go_wp2_with fail
  go_loopw [5,12] (fun sv iv wr=>∃i:Nat,i<=k/\iv=ae aj (i:Int)/\sv=ae aj ((P6 T f i:Nat):Int)/\aQ (aR w.heap.size w wr)) (fun _ iv _=>k-(aP iv).toNat)
  case atStart=>exact⟨0,Nat.zero_le _,rfl,rfl,gW ix⟩
  case round=>
   obtain⟨i,hi,rfl,rfl,HB⟩:=hrel;by_cases a4:i<k
   ·have aT:(i:Int)<(k:Int):=by omega
    first|(have a2:(i:Int)<(n:Int):=by omega)|skip
    first|(have a3:(i:Int)<(m:Int):=by omega)|skip
    obtain⟨b2,o2,rfl,aZ,aU⟩:=HR.out.2 (by omega);have k1:wr.cell? ⟨b,o+i,none⟩=some (ae aj ((T i:Nat):Int)):=(HB.out.cell (p:=⟨b,o+i,none⟩) hb).trans (HT.out i (by omega));have k2:wr.cell? ⟨b2,o2+i,none⟩=some (ae .u8 ((f i:Nat):Int)):=(HB.out.cell (p:=⟨b2,o2+i,none⟩) aZ).trans (aU i (by omega));have aV:=wZ aS.out (fun j=>Nat.le_of_lt (HR.out.1 j)) i;have aW:=aS.out i;have aX:=HR.out.1 i;have hp:=Nat.mul_le_mul aW (Nat.le_of_lt aX);have hS:P6 T f (i+1)=P6 T f i+T i*f i:=rfl;obtain⟨S,al⟩:=gX (P6 T f i);obtain⟨x,hx⟩:=gX (T i);obtain⟨y,hy⟩:=gX (f i);rw[<-al,<-hx,<-hy]at hS;rw[<-al]at aV⊢;rw[<-hx]at k1 aW hp;rw[<-hy]at k2 aX hp;obtain⟨z,hz⟩:=gX (x*y);have a1:(x:Int)*(y:Int)=(z:Int):=by rw[hz,Int.natCast_mul]
    rw[<-hz]at hS hp;have a5:S<=256001000000:=by
     have:=Nat.mul_le_mul (show i<=1000 by omega) (Nat.le_refl (1000001*256));omega
    have HS:=gW hS;have a6:IntKind.i64.wrap ((x:Int)*(y:Int))=(z:Int):=by rw[a1,IntWalk.i64_in _ ⟨by omega,by omega⟩]
    clear hS aV al hx hy hz aU;go_wp2;go_region;go_wp2;go_roundw
    case rel=>exact⟨i+1,by omega,by go_num,by rw[HS.out];go_num,gW HB.out.drew⟩
    case measure=>simp[aP];omega
   ·obtain rfl:i=k:=by omega
    have aT:¬(i:Int)<(i:Int):=by omega
    go_wp2;go_ret;exact⟨rfl,HB.out⟩)
def nD(w:aq)(g n:Nat)(f:Nat->Nat):Prop:=∃(cur:Array ax) (t:aB),w.heap[g]?=some (ak cur t (0,0))/\∀j,j<n->cur[j]?=some (ae .u8 (f j:Int))
theorem nD.lt{w:aq}{g n:Nat}{f:Nat->Nat}(h:nD w g n f):g<w.heap.size:=by
 obtain⟨cur,t,h,_⟩:=h;exact(Array.getElem?_eq_some_iff.1 h).1
theorem nD.cell{w:aq}{g n:Nat}{f:Nat->Nat}(h:nD w g n f){j:Nat}(hj:j<n):w.cell? ⟨g,j,none⟩=some (ae .u8 (f j:Int)):=by
 obtain⟨cur,t,h,hc⟩:=h;rw[aH w g j _ _ (0,0) h];exact hc j hj
theorem nD.frozen{w:aq}{g n:Nat}{f:Nat->Nat}(h:nD w g n f)(j:Nat):w.frozen? ⟨g,j,none⟩=false:=by
 obtain⟨cur,t,h,_⟩:=h;exact aO w g j _ _ h
theorem nD.set{w:aq}{g n:Nat}{f:Nat->Nat}(h:nD w g n f)(i x:Nat):nD (w.setCell ⟨g,i,none⟩ (ae .u8 (x:Int))) g n (iG f i x):=by
 obtain⟨cur,t,h,hc⟩:=h;refine⟨cur.setIfInBounds i (ae .u8 (x:Int)),t,aN w g i _ _ _ h,fun j hj=>?_⟩;have h1:=hc j hj;have hs:j<cur.size:=(Array.getElem?_eq_some_iff.1 h1).1;rw[Array.getElem?_setIfInBounds];unfold iG;by_cases e:j=i
 ·subst e;rw[if_pos rfl,if_pos hs,if_pos rfl]
 ·rw[if_neg (fun g=>e g.symm),if_neg e];exact h1
theorem nD.below{w w':aq}{g n B:Nat}{f:Nat->Nat}(h:nD w g n f)(hb:aR B w w')(hg:g<B):nD w' g n f:=by
 obtain⟨cur,t,h,hc⟩:=h;exact⟨cur,t,(hb.block g hg).trans h,hc⟩
theorem Nd(T:Nat->Int){k:Nat}(hk:k<19)(w:aq):(Instr.index 193 (ah (ik T 19)) (ae aj (k:Int))).run prog w=.ok (ae aj (T k)) w:=by
 have ad:prog.cellsOf 3=1:=by kernel_rfl
 have hg:=tb T 19 k hk;simp[Instr.index,run_underlying underlying193,asIntOf,go_sem];rw[if_pos hk,hg];rfl
theorem Nf:(prog.info? 236).map (fun i=>(i.zero,i.size))=some (some (ah (iw 19 (fun _=>0)).toArray),19):=by kernel_rfl
theorem Ng(w:aq)(A:Option au)(c:Nat)(f:Nat->Nat)(hr:iy w w.heap.size A 19 f):
  aw prog 135 #[af A 19 c] w fun e w'=>e=ao (af (some ⟨w.heap.size,0,none⟩) (Qc (fun i=>f (kc i)) 4 19) 19)/\nD w' w.heap.size 19 (fun i=>f (kc i))/\aR w.heap.size w w':=by
 obtain⟨C,hC⟩:=gX (Qc (fun i=>f (kc i)) 4 19)
 rw[<-hC]
 have HC:=gW hC
 clear hC
 have hz:=(zero_of_info Nf).1
 obtain⟨Z,hZ⟩:=gX ((iw 19 (fun _=>0)).toArray)
 rw[<-hZ]at hz
 obtain⟨h,hh⟩:=gX (w.heap.size)
 obtain⟨W1,av⟩:=gX (w.alloc (ak Z 236))
 have aV:aR h w W1:=by rw[av,hh];exact ix.alloc gY _
 have aW:nD W1 h 19 (fun _=>0):=⟨Z,236,by rw[av,hh];exact aG w _,fun j hj=>by rw[hZ,List.getElem?_toArray,mh,if_pos hj]⟩
 rw[<-hh]at hr⊢
 obtain⟨T,hT⟩:∃T:Nat->Int,T=fun i=>(kc i:Int):=⟨_,rfl⟩
 have al:=Me W1
 rw[<-hT]at al
 have aX:=gW al;have HR:=gW hr;have a6:=gW aV;have aY:=gW aW;have a7:=gW av;have HH:=gW hh;have HT:=gW hT
 clear al hr aV aW av hh hT hZ
 go_enter func135,ntmps135
 go_wp2_with (first|rw[<-a7.out,<-HH.out]|fail)
 refine aX.out.mono ?_
 rintro e w2 ⟨rfl,aT⟩
 have aS:=aY.out.lt
 have a8:=gW (a6.out.trans (aT.mono (by omega)));have a9:=gW (aY.out.below aT aS)
 clear aT aS
 go_wp2_with fail
 go_loopw [7] (fun iv wr=>∃i:Nat,i<=19/\iv=ae aj (i:Int)/\aQ (nD wr h 19 (fun j=>if j<i then f (kc j)else 0))/\aQ (aR h w wr)) (fun iv _=>19-(aP iv).toNat)
 case atStart=>exact⟨0,by omega,rfl,gW (by simpa using a9.out),a8⟩
 case round=>
  obtain⟨i,hi,rfl,ad,HB⟩:=hrel;by_cases aZ:i<19
  ·have a1:(i:Int)<19:=by omega
   have a2:=fun u=>Nd T aZ u
   have a3:T i=((kc i:Nat):Int):=by rw[HT.out]
   rw[a3]at a2;have a4:=CD i;obtain⟨q,hq⟩:=gX (kc i);rw[<-hq]at a2 a4;obtain⟨b,o,rfl,hb,hc⟩:=HR.out.2 (by omega);have k1:=(HB.out.cell (p:=⟨b,o+q,none⟩) hb).trans (hc q a4);have bd:=HR.out.1 q;obtain⟨x,hx⟩:=gX (f q);rw[<-hx]at k1 bd;have z1:=ad.out.frozen i;have c1:=ad.out.cell aZ;have bj:(q:Int)<19:=by omega
   have hs:=ad.out.set i x;have e:iG (fun j=>if j<i then f (kc j)else 0) i x=fun j=>if j<i+1 then f (kc j)else 0:=by
    funext j;unfold iG;by_cases h1:j=i
    ·rw[if_pos h1,if_pos (by omega),h1,hx,hq]
    ·rw[if_neg h1];show(if j<i then f (kc j)else 0)=_
     by_cases h2:j<i
     ·rw[if_pos h2,if_pos (by omega)]
     ·rw[if_neg h2,if_neg (by omega)]
   rw[e]at hs;have HS:=gW hs;have bk:h<wr.heap.size:=ad.out.lt;have hle:w.heap.size<=h:=by rw[HH.out];exact Nat.le_refl _
   clear hs e hx hq a3 hc;go_wp2;go_roundw
   case rel=>exact⟨i+1,by omega,by go_num,HS,gW (HB.out.setCell gY _)⟩
   case measure=>simp[aP];omega
  ·obtain rfl:i=19:=by omega
   have a1:¬((19:Nat):Int)<19:=by omega
   have a5:iy wr wr.heap.size (some ⟨h,0,none⟩) 19 (fun i=>f (kc i)):=⟨fun j=>HR.out.1 _,fun _=>⟨h,0,rfl,ad.out.lt,fun j hj=>by rw[Nat.zero_add,ad.out.cell hj,if_pos hj]⟩⟩;have aU:=zx wr (some ⟨h,0,none⟩) 19 19 (fun i=>f (kc i)) 4 a5 gY (by omega) (by omega);rw[<-HC.out]at aU;have bf:=gW aU;have bg:aQ (nD wr h 19 (fun i=>f (kc i))):=by
    obtain⟨cur,t,h1,h2⟩:=ad.out;exact gW ⟨cur,t,h1,fun j hj=>by rw[h2 j hj];show some (Value.int .u8 (((if j<19 then f (kc j)else 0:Nat)):Int))=_;rw[if_pos hj]⟩
   clear aU a5;go_wp2_with fail
   refine bf.out.mono ?_;rintro e w3 ⟨rfl,rfl⟩;go_wp2;go_ret;exact⟨rfl,bg.out,HB.out⟩
def jF(w:aq)(g n:Nat)(T:Nat->Nat)(t:aB):Prop:=w.heap[g]?=some (ak (ik (fun i=>((T i:Nat):Int)) n) t (0,0))
theorem jF.lt{w:aq}{g n:Nat}{T:Nat->Nat}{t:aB}(h:jF w g n T t):g<w.heap.size:=(Array.getElem?_eq_some_iff.1 h).1
theorem jF.cell{w:aq}{g n:Nat}{T:Nat->Nat}{t:aB}(h:jF w g n T t){i:Nat}(hi:i<n):w.cell? ⟨g,i,none⟩=some (ae aj ((T i:Nat):Int)):=by
 rw[aH w g i _ _ (0,0) h];exact tb _ n i hi
theorem jF.frozen{w:aq}{g n:Nat}{T:Nat->Nat}{t:aB}(h:jF w g n T t)(i:Nat):w.frozen? ⟨g,i,none⟩=false:=aO w g i _ _ h
theorem jF.below{w w':aq}{g n B:Nat}{T:Nat->Nat}{t:aB}(h:jF w g n T t)(hb:aR B w w')(hg:g<B):jF w' g n T t:=(hb.block g hg).trans h
theorem jF.drew{w:aq}{g n:Nat}{T:Nat->Nat}{t:aB}(h:jF w g n T t):jF w.drew g n T t:=h
theorem jF.set{w:aq}{g n:Nat}{T T':Nat->Nat}{t:aB}(h:jF w g n T t)(i x:Nat)(he:∀k,k<n->(if k=i then x else T k)=T' k):jF (w.setCell ⟨g,i,none⟩ (ae aj (x:Int))) g n T' t:=by
 unfold jF;rw[aN w g i _ _ _ h,tN];refine congrArg (fun a=>some (Obj.cells a t (0,0))) (rZ fun k hk=>?_);rw[<-he k hk];split<;>rfl
theorem jF.rd{w:aq}{g n:Nat}{T:Nat->Nat}{t:aB}(h:jF w g n T t)(o m:Nat)(hm:o+m<=n):jS w w.heap.size (some ⟨g,o,none⟩) (kz (fun i=>T (o+i)) m):=by
 refine⟨by simp[jL,kz],fun _=>⟨g,o,rfl,h.lt,fun j u hu=>?_⟩⟩;have hj:j<m:=by
  rcases Nat.lt_or_ge j m with k|k
  ·exact k
  ·rw[List.getElem?_eq_none (by simpa[jL,kz]using k)]at hu;cases hu
 rw[h.cell (show o+j<n by omega),<-hu];simp[jL,kz,hj]
theorem zA{c:Nat->Nat}{n il:Nat}(h1:1<=il)(h2:il<=15)(hn:n<=320)(ad:n<=2^il)(hc:∀i,c i<=1073741824):pQ (kz c n) (il:Int)=n/\oe (kz c n) (il:Int)=mv c n il:=by
 refine⟨?_,rfl⟩;unfold pQ;rw[if_pos (xV h1 h2 hn ad hc),mG]
theorem Nh(w:aq)(A:Option au)(m c:Nat)(l:List (Int×Int))(hm:m=l.length)(hr:lf w w.heap.size A l)(bG:m<=1000000)(hs:∀r∈l,0<=r.1/\r.1<=18):
  aw prog 134 #[af A m c] w fun e w'=>∃A' c',e=ao (af A' 19 c')/\iy w' w'.heap.size A' 19 (mv (ld l) 19 7)/\19<=c'/\c'<=1000/\(A'=none->c'=0)/\(∀b o,A'=some ⟨b,o,none⟩->w.heap.size<=b)/\aR w.heap.size w w':=by
 have hz:=(zero_of_info vq).1
 obtain⟨Z,hZ⟩:∃Z:Nat->Int,Z=fun _=>0:=⟨_,rfl⟩
 rw[<-hZ]at hz
 obtain⟨h,hh⟩:=gX (w.heap.size)
 obtain⟨W1,aS⟩:=gX (w.alloc (ak (ik Z 19) 193))
 have a8:aR h w W1:=by rw[aS,hh];exact ix.alloc gY _
 have a9:jF W1 h 19 (ld (l.take 0)) 193:=by
  unfold jF;rw[aS,hh,aG,hZ];refine congrArg (fun a=>some (Obj.cells a 193 (0,0))) (rZ fun k hk=>?_);simp[ld]
 have HM:=gW hm;have HR:=gW hr;have HS:=gW hs;have bp:=gW a8;have bq:=gW a9;have br:=gW aS;have HH:=gW hh
 clear hm hr hs a8 a9 aS hh hZ
 go_enter func134,ntmps134
 go_wp2_with (first|rw[<-br.out,<-HH.out]|fail)
 go_loopw [10] (fun iv wr=>∃i:Nat,i<=m/\iv=ae aj (i:Int)/\aQ (jF wr h 19 (ld (l.take i)) 193)/\aQ (aR h w wr)) (fun iv _=>m-(aP iv).toNat)
 case atStart=>exact⟨0,Nat.zero_le _,rfl,bq,bp⟩
 case round=>
  obtain⟨i,hi,rfl,al,HB⟩:=hrel;have hle:w.heap.size=h:=HH.out.symm;by_cases bt:i<m
  ·have bd:(i:Int)<(m:Int):=by omega
   have aT:i<l.length:=by rw[<-HM.out];exact bt
   have aY:lf wr h A l:=by have:=HR.out;rw[hle]at this;exact this.below HB.out gY
   obtain⟨b,o,rfl,bH,hc⟩:=aY.at aT;have aZ:=aY.range rfl aT;obtain⟨s0,bf⟩:=HS.out _ (vB aT);have a1:=yp aT;obtain⟨⟨s,x⟩,ht⟩:∃t,t=l.getD i pf:=⟨_,rfl⟩;rw[<-ht]at aZ s0 bf a1;dsimp only at s0 bf;obtain⟨q,rfl⟩:=Int.eq_ofNat_of_zero_le s0;obtain⟨W3,aU⟩:=gX (iP wr #[ae aj 0,ae aj 0] #[ae aj (q:Int),ae aj x] 192);have av:aR wr.heap.size wr W3:=by rw[aU];exact kU _ _ _ _
   have aW:W3.heap[wr.heap.size]?=some (ak #[ae aj (q:Int),ae aj x] 192 (0,0)):=by rw[aU];exact lq wr _ _ _
   have y0:W3.cell? ⟨wr.heap.size,0,none⟩=some (ae aj (q:Int)):=(aH W3 _ 0 _ _ (0,0) aW).trans rfl;have aV:=al.out.below av al.out.lt;have bg:q<19:=by omega
   have bI:(q:Int)<19:=by omega
   have k1:=aV.cell bg;have z1:=aV.frozen q;have bj:=rf (l.take i) q;have bu:(l.take i).length<=1000000:=by rw[List.length_take];have:=HM.out;omega
   obtain⟨C,hC⟩:=gX (ld (l.take i) q);have ad:=aV.set (T':=ld (l.take (i+1))) q (C+1) (fun k _=>by
    rw[a1,BQ,hC];by_cases hk:k=q
    ·subst hk;rw[if_pos rfl,if_pos rfl]
    ·rw[if_neg hk,if_neg (by dsimp only;omega)];omega)
   rw[<-hC]at k1 bj;have bz:=gW (show wr.rangeAt b (o+i*2) [ae aj (q:Int),ae aj x]from aZ);have bk:=gW ad;have a2:=gW (HB.out.trans (av.mono (by have:=al.out.lt;omega)));have bA:=gW aU
   have bJ:C<=1000000:=by omega
   have eC:((C+1:Nat):Int)=(C:Int)+1:=by omega
   rw[eC]at ad;have a3:=gW ad;have bK:h<wr.heap.size:=al.out.lt;clear aZ ad av aW aU a1 ht hC bj bu aV hc aY bk;go_wp2_with (first|refine aF rfl _ _ rfl b (o+i*2) rfl [ae aj (q:Int),ae aj x] _ bz.out underlying192 rfl lN ?_|refine aC rfl _ _ _ rfl rfl wr.heap.size #[ae aj (q:Int),ae aj x] rfl rfl 192 #[ae aj 0,ae aj 0] (aG wr _) lN rfl (by simp[Value.oneCell']) ?_;change wpList _ _ _ _ _ (iP wr #[ae aj 0,ae aj 0] #[ae aj (q:Int),ae aj x] 192);rw[<-bA.out])
   go_roundw
   case rel=>exact⟨i+1,by omega,by go_num,a3,gW (a2.out.setCell gY _)⟩
   case measure=>simp[aP];omega
  ·obtain rfl:i=m:=by omega
   have bd:¬(i:Int)<(i:Int):=by omega
   have a4:=al.out;rw[HM.out,List.take_length]at a4;have a5:=a4.rd 0 19 (by omega);rw[show(fun i=>ld l (0+i))=ld l from funext fun i=>by rw[Nat.zero_add]]at a5;have a6:∀j,ld l j<=1000000:=fun j=>by have:=rf l j;have:=HM.out;omega
   have a7:=zw wr (some ⟨h,0,none⟩) 19 (kz (ld l) 19) 7 a5 (fun h=>by cases h) (by rw[mG];omega) (fun j hj=>by rw[mG]at hj;rw[sZ _ hj];have:=a6 j;omega) (by omega) (by omega);obtain⟨e1,e2⟩:=zA (c:=ld l) (n:=19) (il:=7) (by omega) (by omega) (by omega) (by decide) (fun j=>by have:=a6 j;omega);rw[show((7:Nat):Int)=7 from rfl]at e1 e2;rw[mG,e1,e2]at a7;have bB:=gW a7;clear a7 e1 e2 a6 a5 a4;go_wp2_with fail
   refine bB.out.mono ?_;rintro e w3 ⟨A',c',rfl,av,aX,bC,bD,bl,bm⟩;have bE:=gW bm;have bn:=gW aX;have bF:=gW bl;have a2:=gW (HB.out.trans (av.mono (by have:=al.out.lt;omega)))
   clear aX bl av bm;go_wp2;go_ret;exact⟨A',c',rfl,bn.out,bC,bD,bF.out,fun b o e=>by have:=bE.out b o e;have:=HB.out.size;omega,by rw[hle];exact a2.out⟩
def ka(M:Nat->Nat):Nat->Nat
 |0=>0
 |b+1=>ka M b+M b
def lv(M:Nat->Nat):Nat->Nat
 |0=>0
 |b+1=>lv M b+M b*kB b
def qk(l m f s o:Int)(M:Nat->Nat):Nat->Int:=fun i=>if i=0 then l else if i=1 then m else if i=2 then f else if i=3 then s else if i<18 then((M (i-4):Nat):Int)else o
def jd(l m f s o:Int)(M:Nat->Nat):Array ax:=ik (qk l m f s o M) 19
theorem zC:(prog.info? 198).map (fun i=>(i.zero,i.size))=some (some (ah (jd 0 0 0 0 0 (fun _=>0))),19):=by kernel_rfl
theorem qN(T:Nat->Int):(prog.info? 198).map (·.size)=some (ik T 19).size:=by rw[iZ];kernel_rfl
def iY(w:aq)(g:Nat)(l m f s o:Int)(M:Nat->Nat):Prop:=w.heap[g]?=some (ak (jd l m f s o M) 198 (0,0))
section
variable {w w':aq} {g:Nat} {l m f s o:Int} {M:Nat->Nat}
theorem iY.lt(h:iY w g l m f s o M):g<w.heap.size:=(Array.getElem?_eq_some_iff.1 h).1
theorem iY.at(h:iY w g l m f s o M){i:Nat}(hi:i<19):w.cell? ⟨g,i,none⟩=some (ae aj (qk l m f s o M i)):=qw h hi
theorem iY.least(h:iY w g l m f s o M):w.cell? ⟨g,0,none⟩=some (ae aj l):=h.at (i:=0) (by omega)
theorem iY.il(h:iY w g l m f s o M):w.cell? ⟨g,1,none⟩=some (ae aj m):=h.at (i:=1) (by omega)
theorem iY.first(h:iY w g l m f s o M):w.cell? ⟨g,2,none⟩=some (ae aj f):=h.at (i:=2) (by omega)
theorem iY.last(h:iY w g l m f s o M):w.cell? ⟨g,3,none⟩=some (ae aj s):=h.at (i:=3) (by omega)
theorem iY.own(h:iY w g l m f s o M):w.cell? ⟨g,18,none⟩=some (ae aj o):=h.at (i:=18) (by omega)
theorem iY.many(h:iY w g l m f s o M){b:Nat}(hb:b<14):w.cell? ⟨g,4+b,none⟩=some (ae aj ((M b:Nat):Int)):=by
 have:=h.at (i:=4+b) (by omega);have e:qk l m f s o M (4+b)=((M b:Nat):Int):=by
  unfold qk;rw[if_neg (by omega),if_neg (by omega),if_neg (by omega),if_neg (by omega),if_pos (by omega),show 4+b-4=b by omega]
 rw[e]at this;exact this
theorem iY.frozen(h:iY w g l m f s o M)(j:Nat):w.frozen? ⟨g,j,none⟩=false:=aO w g j _ _ h
theorem iY.below{B:Nat}(h:iY w g l m f s o M)(hb:aR B w w')(hg:g<B):iY w' g l m f s o M:=(hb.block g hg).trans h
theorem iY.drew(h:iY w g l m f s o M):iY w.drew g l m f s o M:=h
theorem iY.drewN(h:iY w g l m f s o M)(k:Nat):iY (w.drewN k) g l m f s o M:=h
end
theorem Fh(w:aq)(l m f s o:Int)(M:Nat->Nat):iY (w.alloc (ak (jd l m f s o M) 198)) w.heap.size l m f s o M:=aG w _
theorem Fi{B:Nat}{a w:aq}(h:aR B a w)(n:Nat):aR B a (w.drewN n):=⟨h.os,h.tape,h.output,h.size,h.block⟩
theorem Fj(z b:Nat)(hz:z<=40000)(hb:b<14):wrap64 ((z:Int)*2^b)=((z*kB b:Nat):Int)/\z*kB b<=327680000:=by
 have e:(z:Int)*2^b=((z*2^b:Nat):Int):=by rw[Int.natCast_mul,Int.natCast_pow];rfl
 have h1:2^b<=2^13:=Nat.pow_le_pow_right (by omega) (by omega);have h2:z*2^b<=40000*2^13:=Nat.mul_le_mul hz h1;have h3:40000*2^13=327680000:=rfl;rw[e];unfold kB;generalize z*2^b=x at h2;unfold wrap64;omega
theorem Fk(M:Nat->Nat){i:Nat}:∀d,ka M i<=ka M (i+d)
 |0=>Nat.le_refl _
 |d+1=>Nat.le_trans (Fk M d) (Nat.le_add_right _ _)
theorem Fl(M:Nat->Nat){i:Nat}:∀d,lv M i<=lv M (i+d)
 |0=>Nat.le_refl _
 |d+1=>Nat.le_trans (Fl M d) (Nat.le_add_right _ _)
theorem xc(M:Nat->Nat){i j:Nat}(h:i<=j):ka M i<=ka M j:=by
 have:=Fk M (i:=i) (j-i);rwa[show i+(j-i)=j by omega]at this
theorem Fm(M:Nat->Nat){i j:Nat}(h:i<=j):lv M i<=lv M j:=by
 have:=Fl M (i:=i) (j-i);rwa[show i+(j-i)=j by omega]at this
structure zD (l m f s o:Int) (M:Nat->Nat):Prop where
 l0:0<=l/\l<=1000
 f0:0<=f/\f<=1000
 o0:0<=o/\o<=1000
 s0:s<=1100
 m0:m<l+((lv M 14:Nat):Int)
 sC:(o=0/\s<f+((ka M 14:Nat):Int))\/(o≠0/\s<=f+((ka M 14:Nat):Int))
 Fo:ka M 14<=40
 Ni:lv M 14<=40000
theorem Nj{M:Nat->Nat}{b:Nat}(hb:b<14):ka M b+M b<=ka M 14/\lv M b+M b*kB b<=lv M 14:=
 ⟨xc M (i:=b+1) (by omega),Fm M (i:=b+1) (by omega)⟩
section
variable {w:aq} {g:Nat} {l m f s o:Int} {M:Nat->Nat}
theorem iY.Nk(h:iY w g l m f s o M){j:Nat}(hj:j<14)(x:Nat):iY (w.setCell ⟨g,4+j,none⟩ (ae aj (x:Int))) g l m f s o (fun i=>if i=j then x else M i):=by
 unfold iY jd;rw[aN w g (4+j) _ _ _ h];unfold jd;rw[tN];refine congrArg (fun a=>some (Obj.cells a 198 (0,0))) (rZ fun i hi=>?_);unfold qk;by_cases e:i=4+j
 ·subst e;rw[if_pos rfl,if_neg (by omega),if_neg (by omega),if_neg (by omega),if_neg (by omega),if_pos (by omega)];show(x:Int)=((if 4+j-4=j then x else M (4+j-4):Nat):Int)
  rw[if_pos (by omega)]
 ·rw[if_neg e];by_cases h4:i<4
  ·have:i=0\/i=1\/i=2\/i=3:=by omega
   rcases this with rfl|rfl|rfl|rfl<;>rfl
  ·rw[if_neg (show¬i=0 by omega),if_neg (show¬i=1 by omega),if_neg (show¬i=2 by omega),if_neg (show¬i=3 by omega),if_neg (show¬i=0 by omega),if_neg (show¬i=1 by omega),if_neg (show¬i=2 by omega),if_neg (show¬i=3 by omega)];show _=(if i<18 then((if i-4=j then x else M (i-4):Nat):Int)else o)
   rw[if_neg (show¬i-4=j by omega)]
theorem iY.setAt(h:iY w g l m f s o M){l' m' f' s' o':Int}(k:Nat)(x:Int)(he:∀i,i<19->(if i=k then x else qk l m f s o M i)=qk l' m' f' s' o' M i):iY (w.setCell ⟨g,k,none⟩ (ae aj x)) g l' m' f' s' o' M:=by
 unfold iY jd;rw[aN w g k _ _ _ h];unfold jd;rw[tN];exact congrArg (fun a=>some (Obj.cells a 198 (0,0))) (rZ he)
theorem iY.Nl(h:iY w g l m f s o M)(x:Int):iY (w.setCell ⟨g,1,none⟩ (ae aj x)) g l x f s o M:=
 h.setAt 1 x fun i hi=>by
  unfold qk;by_cases e:i=1
  ·subst e;rfl
  ·rw[if_neg e];by_cases e0:i=0
   ·subst e0;rfl
   ·rw[if_neg e0,if_neg e,if_neg e0,if_neg e]
theorem iY.Fp(h:iY w g l m f s o M)(x:Int):iY (w.setCell ⟨g,3,none⟩ (ae aj x)) g l m f x o M:=
 h.setAt 3 x fun i hi=>by
  unfold qk;by_cases e:i=3
  ·subst e;rfl
  ·rw[if_neg e,if_neg e,if_neg e]
theorem iY.Nm(h:iY w g l m f s o M)(x:Int):iY (w.setCell ⟨g,18,none⟩ (ae aj x)) g l m f s x M:=
 h.setAt 18 x fun i hi=>by
  unfold qk;by_cases e:i=18
  ·subst e;rfl
  ·rw[if_neg e];by_cases e0:i<18
   ·rw[if_pos e0,if_pos e0]
   ·omega
theorem iY.other(h:iY w g l m f s o M){p:au}(hp:g≠p.block)(u:ax):iY (w.setCell p u) g l m f s o M:=(Below.heap_setCell w p u g hp).trans h
end
theorem Nn(a b c d:Int):prog.built 198 [(0,ae aj a),(1,ae aj b),(2,ae aj c),(3,ae aj d)]=some (jd a b c d 0 (fun _=>0)):=by kernel_rfl
def oV(L:List Nat)(j:Nat):Nat->Nat:=fun i=>if i<j then L.getD i 0 else 0
theorem No(L:List Nat)(j:Nat):(fun i=>if i=j then L.getD j 0 else oV L j i)=oV L (j+1):=by
 funext i;unfold oV;by_cases e:i=j
 ·subst e;rw[if_pos rfl,if_pos (by omega)]
 ·rw[if_neg e];by_cases h:i<j
  ·rw[if_pos h,if_pos (by omega)]
  ·rw[if_neg h,if_neg (by omega)]
theorem Np(L:List Nat):oV L L.length=fun i=>L.getD i 0:=by
 funext i;unfold oV;by_cases h:i<L.length
 ·rw[if_pos h]
 ·rw[if_neg h,List.getD_eq_getElem?_getD,List.getElem?_eq_none (by omega)];rfl
def ji(L:List Nat):Nat->Nat:=fun i=>L.getD i 0
theorem Fq(w:aq)(l f:Int)(A:Option au)(cap N:Nat)(L:List Nat)(hN:N=L.length)(a6:N<=14)(hr:jS w w.heap.size A (jy L))(hl:0<=l/\l<=1000)(hf:0<=f/\f<=1000)(hS:lv (ji L) N<=40000)(hC:ka (ji L) N<=40):
  aw prog 149 #[ae aj l,ae aj f,af A N cap] w fun e w'=>e=ao (ah (jd l (l-1+((lv (ji L) N:Nat):Int)) f (f-1+((ka (ji L) N:Nat):Int)) 0 (ji L)))/\aR w.heap.size w w':=by
 have hz:=(zero_of_info zC).1
 have HR:=gW hr;have HS:=gW hS;have HC:=gW hC;have HN:=gW hN
 obtain⟨a8,a9⟩:=hl
 obtain⟨bd,bf⟩:=hf
 clear hr hS hC hN
 obtain⟨V,hV⟩:=gX (iP (w.alloc (ak (jd 0 0 0 0 0 (fun _=>0)) 198)) (jd 0 0 0 0 0 (fun _=>0)) (jd l (l-1) f (f-1) 0 (fun _=>0)) 198)
 have v1:iY V (w.heap.size+1) l (l-1) f (f-1) 0 (fun _=>0):=by
  have:=lq (w.alloc (ak (jd 0 0 0 0 0 (fun _=>0)) 198)) (jd 0 0 0 0 0 (fun _=>0)) (jd l (l-1) f (f-1) 0 (fun _=>0)) 198;rw[World.size_alloc,<-hV]at this;exact this
 have bV:=kU (w.alloc (ak (jd 0 0 0 0 0 (fun _=>0)) 198)) (jd 0 0 0 0 0 (fun _=>0)) (jd l (l-1) f (f-1) 0 (fun _=>0)) 198
 rw[<-hV]at bV
 have v0:iY V w.heap.size 0 0 0 0 0 (fun _=>0):=(Fh w 0 0 0 0 0 (fun _=>0)).below bV (by simp)
 have b0:aR w.heap.size w V:=(ix.alloc gY _).trans (bV.mono (by simp))
 have hn:=(aG (w.alloc (ak (jd 0 0 0 0 0 (fun _=>0)) 198)) (ak (jd 0 0 0 0 0 (fun _=>0)) 198))
 rw[World.size_alloc]at hn
 have aV:((w.alloc (ak (jd 0 0 0 0 0 (fun _=>0)) 198)).alloc (ak (jd 0 0 0 0 0 (fun _=>0)) 198)).setRow (w.heap.size+1) (jd l (l-1) f (f-1) 0 (fun _=>0))=V:=by
  rw[hV];unfold iP;rw[World.size_alloc]
 have V0:=gW v0;have V1:=gW v1;have B0:=gW b0;have aZ:=gW hn;have a1:=gW aV
 clear v0 v1 b0 hn aV bV hV
 go_enter func149,ntmps149
 go_wp2_with (first
  |(refine aD rfl 198 #[(0,.tmp 10),(1,.tmp 12),(2,.tmp 13),(3,.tmp 15)] rfl (some 16) rfl (jd l (l-1) f (f-1) 0 (fun _=>0)) ?_ ?_;focus(simpa[Act.eval]using Nn l (l-1) f (f-1)))
  |(refine aC rfl _ _ _ rfl rfl (w.heap.size+1) (jd l (l-1) f (f-1) 0 (fun _=>0)) rfl rfl 198 (jd 0 0 0 0 0 (fun _=>0)) aZ.out (qN _) rfl (kQ _ _) ?_;rw[a1.out])
  |fail)
 go_loopw [19] (fun iv wr=>∃j S C:Nat,j<=N/\S<=40000/\C<=40/\iv=ae aj (j:Int)/\aQ (S=lv (ji L) j)/\aQ (C=ka (ji L) j)/\aQ (iY wr w.heap.size 0 0 0 0 0 (fun _=>0))/\aQ (iY wr (w.heap.size+1) l (l-1+(S:Int)) f (f-1+(C:Int)) 0 (oV L j))/\aQ (aR w.heap.size w wr)) (fun iv _=>N-(aP iv).toNat)
 case atStart=>
  refine⟨0,0,0,Nat.zero_le _,by omega,by omega,rfl,gW rfl,gW rfl,V0,gW ?_,B0⟩;have h0:oV L 0=fun _=>0:=funext fun i=>if_neg (by omega)
  rw[h0];simpa using V1.out
 case round=>
  obtain⟨j,S,C,hj,hS,hC,rfl,aW,aX,K0,K1,al⟩:=hrel;by_cases aY:j<N
  ·have ad:j<14:=by omega
   obtain⟨b,o,rfl,_,hc⟩:=(HR.out.below al.out gY).at (k:=j) (by rw[oI,<-HN.out];exact aY);have e1:=hc j (by rw[oI,<-HN.out];exact aY);rw[rN]at e1;obtain⟨q,hq⟩:=gX (L.getD j 0);rw[<-hq]at e1;have HQ:=gW hq;clear hq hc;have r1:=K1.out.many ad;have r2:=K1.out.frozen (4+j);have s1:=K1.out.Nk ad q;have r3:=s1.il;have r4:=s1.frozen 1;have s2:=(s1.Nl (wrap64 (l-1+(S:Int)+wrap64 ((q:Int)*2^j)))).drew;have r5:=s2.last;have r6:=s2.frozen 3;have s3:=s2.Fp (f-1+(C:Int)+(q:Int));have t3:=(((K0.out.other (p:=⟨w.heap.size+1,4+j,none⟩) (by simp) (ae aj (q:Int))).other (p:=⟨w.heap.size+1,1,none⟩) (by simp) (ae aj (wrap64 (l-1+(S:Int)+wrap64 ((q:Int)*2^j))))).drew).other (p:=⟨w.heap.size+1,3,none⟩) (by simp) (ae aj (f-1+(C:Int)+(q:Int)));have b3:=((((al.out.setCell (p:=⟨w.heap.size+1,4+j,none⟩) (by simp) (ae aj (q:Int))).setCell (p:=⟨w.heap.size+1,1,none⟩) (by simp) (ae aj (wrap64 (l-1+(S:Int)+wrap64 ((q:Int)*2^j))))).drew)).setCell (p:=⟨w.heap.size+1,3,none⟩) (by simp) (ae aj (f-1+(C:Int)+(q:Int)));have S3:=gW s3;have T3:=gW t3;have B3:=gW b3
   clear s1 s2 s3 t3 b3;have a7:q<=40:=by
    have h1:ka (ji L) (j+1)<=ka (ji L) N:=xc _ (by omega);have h2:ka (ji L) (j+1)=ka (ji L) j+q:=by rw[HQ.out];rfl
    have:=HC.out;omega
   go_wp2;go_region;all_goals(
    go_wp2;go_roundw
    case rel=>
     obtain⟨g1,g2⟩:=Fj q j (by omega) ad;have a2:lv (ji L) (j+1)=S+q*kB j:=by rw[aW.out,HQ.out];rfl
     have bg:lv (ji L) (j+1)<=40000:=Nat.le_trans (Fm _ (by omega)) HS.out;have a3:ka (ji L) (j+1)=C+q:=by rw[aX.out,HQ.out];rfl
     have bj:ka (ji L) (j+1)<=40:=Nat.le_trans (xc _ (by omega)) HC.out;have av:wrap64 (l-1+(S:Int)+wrap64 ((q:Int)*2^j))=l-1+((S+q*kB j:Nat):Int):=by rw[g1];unfold wrap64;omega
     have aS:f-1+(C:Int)+(q:Int)=f-1+((C+q:Nat):Int):=by omega
     have s3:=S3.out;have t3:=T3.out;have b3:=B3.out
     rw[av,aS]at s3;have hM:(fun i=>if i=j then q else oV L j i)=oV L (j+1):=by rw[HQ.out];exact No L j
     rw[hM]at s3;rw[av,aS]at t3 b3;rw[av,aS];exact⟨j+1,S+q*kB j,C+q,by omega,by omega,by omega,by go_num,gW a2.symm,gW a3.symm,gW t3,gW s3,gW b3⟩
    case measure=>simp[aP];omega)
  ·obtain rfl:j=N:=by omega
   obtain⟨m1,aT⟩:=gX (l-1+(S:Int));obtain⟨s1,aU⟩:=gX (f-1+(C:Int));have k1:=K1.out;rw[<-aT,<-aU]at k1;have K2:=gW k1;have a4:=gW aT;have a5:=gW aU
   clear k1 aT aU K1;go_wp2_with (first
    |(refine aE rfl _ _ rfl (w.heap.size+1) rfl _ (jd l m1 f s1 0 (oV L j)) (0,0) _ K2.out underlying198 rfl (qN _) ?_)
    |(refine aC rfl _ _ _ rfl rfl w.heap.size (jd l m1 f s1 0 (oV L j)) rfl rfl 198 (jd 0 0 0 0 0 (fun _=>0)) K0.out (qN _) rfl (kQ _ _) ?_)
    |fail)
   refine aK (v:=ah (jd l m1 f s1 0 (oV L j))) ?_ rfl ⟨?_,lX al.out gY _⟩
   ·exact results_cell_row rfl _ _ w.heap.size _ _ (0,0) _ rfl (aI _ _ _ _ _ _ K0.out) underlying198 rfl (qN _)
   ·have hM:oV L j=ji L:=by rw[HN.out];exact Np L
    rw[hM,a4.out,a5.out,aW.out,aX.out]
def mM:List Nat:=[8,4,4,4,4,4]
def mO:List Nat:=[4,2,2,2,2,2,2,2,2,2,2,2,2,2]
theorem Fs(w:aq)(Z:Array ax)(T:aB)(L:List Nat)(cs:Array ax)(h:cs.toList=jL (jy L)):
  jS ((w.alloc (ak Z T)).alloc (ak cs 3)) ((w.alloc (ak Z T)).alloc (ak cs 3)).heap.size (some ⟨w.heap.size+1,0,none⟩) (jy L)/\
  ((w.alloc (ak Z T)).alloc (ak cs 3)).heap[w.heap.size]?=some (ak Z T (0,0))/\aR w.heap.size w ((w.alloc (ak Z T)).alloc (ak cs 3))/\w.heap.size<((w.alloc (ak Z T)).alloc (ak cs 3)).heap.size:=by
 have h1:=Gp (w.alloc (ak Z T)) (jy L) cs h
 have h2:((w.alloc (ak Z T)).alloc (ak cs 3)).heap[w.heap.size]?=some (ak Z T (0,0)):=(Below.heap_alloc _ _ _ (by simp)).trans (aG w _)
 refine⟨?_,h2,(ix.alloc gY _).alloc (by simp) _,by simp;omega⟩
 rw[World.size_alloc w]at h1
 exact h1
theorem Nq(w:aq):aw prog 127 #[] w fun e w'=>e=ao (ah (jd 1 32768 0 29 0 (ji mO)))/\aR w.heap.size w w':=by
 have hz:=(zero_of_info zC).1;obtain⟨hr,v0,b0,al⟩:=Fs w (jd 0 0 0 0 0 (fun _=>0)) 198 mO #[ae aj 4,ae aj 2,ae aj 2,ae aj 2,ae aj 2,ae aj 2,ae aj 2,ae aj 2,ae aj 2,ae aj 2,ae aj 2,ae aj 2,ae aj 2,ae aj 2] rfl;have ad:=Fq _ 1 0 _ 14 14 mO rfl (by omega) hr (by omega) (by omega) (by decide) (by decide);have e1:(1:Int)-1+((lv (ji mO) 14:Nat):Int)=32768:=by decide
 have e2:(0:Int)-1+((ka (ji mO) 14:Nat):Int)=29:=by decide
 rw[e1,e2]at ad;obtain⟨V,hV⟩:=gX (((w.alloc (ak (jd 0 0 0 0 0 (fun _=>0)) 198)).alloc (ak #[ae aj 4,ae aj 2,ae aj 2,ae aj 2,ae aj 2,ae aj 2,ae aj 2,ae aj 2,ae aj 2,ae aj 2,ae aj 2,ae aj 2,ae aj 2,ae aj 2] 3)));rw[<-hV]at ad v0 b0 al;have HF:=gW ad;have V0:=gW v0;have B0:=gW b0;have HV:=gW hV.symm;have aS:=gW al
 clear ad v0 b0 hV hr e1 e2 al;obtain⟨X,hX⟩:=gX (jd 1 32768 0 29 0 (ji mO));obtain⟨x1,x2⟩:X.size=19/\X.all (·.oneCell')=true:=by rw[hX];exact⟨iZ _ _,kQ _ _⟩
 have x3:(prog.info? 198).map (·.size)=some X.size:=by rw[hX];exact qN _
 rw[<-hX]at HF⊢;clear hX;go_enter func127,ntmps127
 go_wp2_with fail
 rw[HV.out];refine HF.out.mono ?_;rintro e w1 ⟨rfl,av⟩;have aT:=(av.block w.heap.size aS.out).trans V0.out;have K1:=gW aT;have aU:=gW (B0.out.trans (av.mono (Nat.le_of_lt aS.out)))
 clear aT av;go_wp2_with (first
  |(refine aC rfl _ _ _ rfl rfl w.heap.size X rfl rfl 198 (jd 0 0 0 0 0 (fun _=>0)) K1.out x3 (by rw[x1];rfl) x2 ?_)
  |fail)
 refine aK (v:=ah X) ?_ rfl ⟨rfl,lX aU.out gY _⟩;exact results_cell_row rfl _ _ w.heap.size _ _ (0,0) _ rfl (aI _ _ _ _ _ _ K1.out) underlying198 rfl x3
theorem Nr(w:aq):aw prog 125 #[] w fun e w'=>e=ao (ah (jd 3 258 257 285 258 (ji mM)))/\aR w.heap.size w w':=by
 have hz:=(zero_of_info zC).1;obtain⟨hr,v0,b0,aS⟩:=Fs w (jd 0 0 0 0 0 (fun _=>0)) 198 mM #[ae aj 8,ae aj 4,ae aj 4,ae aj 4,ae aj 4,ae aj 4] rfl;have al:=Fq _ 3 257 _ 6 6 mM rfl (by omega) hr (by omega) (by omega) (by decide) (by decide);have e1:(3:Int)-1+((lv (ji mM) 6:Nat):Int)=258:=by decide
 have e2:(257:Int)-1+((ka (ji mM) 6:Nat):Int)=284:=by decide
 rw[e1,e2]at al;obtain⟨V,hV⟩:=gX (((w.alloc (ak (jd 0 0 0 0 0 (fun _=>0)) 198)).alloc (ak #[ae aj 8,ae aj 4,ae aj 4,ae aj 4,ae aj 4,ae aj 4] 3)));rw[<-hV]at al v0 b0 aS;have HF:=gW al;have V0:=gW v0;have B0:=gW b0;have HV:=gW hV.symm;have aV:=gW aS
 clear al v0 b0 hV hr e1 e2 aS;obtain⟨MM,aW⟩:=gX (ji mM);rw[<-aW]at HF⊢;clear aW;go_enter func125,ntmps125
 go_wp2_with fail
 rw[HV.out];refine HF.out.mono ?_;rintro e w1 ⟨rfl,aT⟩;have av:iY w1 w.heap.size 0 0 0 0 0 (fun _=>0):=(aT.block w.heap.size aV.out).trans V0.out;have ad:aR w.heap.size w w1:=B0.out.trans (aT.mono (Nat.le_of_lt aV.out));have aU:w.heap.size≠w1.heap.size:=by have:=av.lt;omega
 obtain⟨U,hU⟩:=gX (iP w1 (jd 0 0 0 0 0 (fun _=>0)) (jd 3 258 257 284 0 MM) 198);have u1:iY U w1.heap.size 3 258 257 284 0 MM:=by rw[hU];exact lq _ _ _ _
 have bU:aR w1.heap.size w1 U:=by rw[hU];exact kU _ _ _ _
 have u0:iY U w.heap.size 0 0 0 0 0 (fun _=>0):=av.below bU av.lt;have f1:=u1.frozen 18;have k1:=u1.own;have u2:=u1.Nm 258;have f2:=u2.frozen 3;have k2:=u2.last;have u3:=u2.Fp 285;have z3:=(u0.other (p:=⟨w1.heap.size,18,none⟩) aU (ae aj 258)).other (p:=⟨w1.heap.size,3,none⟩) aU (ae aj 285);have aX:=((ad.trans (bU.mono ad.size)).setCell (p:=⟨w1.heap.size,18,none⟩) ad.size (ae aj 258)).setCell (p:=⟨w1.heap.size,3,none⟩) ad.size (ae aj 285);have HU:=gW hU.symm;have U3:=gW u3;have Z3:=gW z3;have aY:=gW aX
 clear av ad aU hU u1 bU u0 u2 u3 z3 aX aT;go_wp2_with (first
  |(refine aC rfl _ _ _ rfl rfl w1.heap.size (jd 3 258 257 284 0 MM) rfl rfl 198 (jd 0 0 0 0 0 (fun _=>0)) (aG w1 _) (qN _) rfl (kQ _ _) ?_;change wpList _ _ _ _ _ (iP w1 (jd 0 0 0 0 0 (fun _=>0)) (jd 3 258 257 284 0 MM) 198);rw[HU.out])
  |(refine aE rfl _ _ rfl w1.heap.size rfl _ (jd 3 258 257 285 258 MM) (0,0) _ U3.out underlying198 rfl (qN _) ?_)
  |(refine aC rfl _ _ _ rfl rfl w.heap.size (jd 3 258 257 285 258 MM) rfl rfl 198 (jd 0 0 0 0 0 (fun _=>0)) Z3.out (qN _) rfl (kQ _ _) ?_)
  |fail)
 refine aK (v:=ah (jd 3 258 257 285 258 MM)) ?_ rfl ⟨rfl,lX aY.out gY _⟩;exact results_cell_row rfl _ _ w.heap.size _ _ (0,0) _ rfl (aI _ _ _ _ _ _ Z3.out) underlying198 rfl (qN _)
theorem Ns:zD 3 258 257 285 258 (ji mM):=⟨by omega,by omega,by omega,by omega,by decide,.inr (by decide),by decide,by decide⟩
theorem Nt:zD 1 32768 0 29 0 (ji mO):=⟨by omega,by omega,by omega,by omega,by decide,.inl (by decide),by decide,by decide⟩
theorem Nu:∀b,b<14->∀z,z<ji mM b->ka (ji mM) b+z<28/\iW (ka (ji mM) b+z)=3+(lv (ji mM) b+z*kB b)/\lk (ka (ji mM) b+z)=b:=by decide+kernel
theorem Nv:∀b,b<14->∀z,z<ji mO b->ka (ji mO) b+z<30/\jb (ka (ji mO) b+z)=1+(lv (ji mO) b+z*kB b)/\ly (ka (ji mO) b+z)=b:=by decide+kernel
theorem Nw(a b:Nat)(ha:a<9223372036854775808)(hb:b<9223372036854775808):bits .and aj (a:Int) (b:Int)=((a&&&b:Nat):Int):=by
 have hx:a&&&b<2^63:=Nat.and_lt_two_pow _ (by omega);show IntKind.i64.wrap ((BitVec.ofInt 64 (a:Int)&&&BitVec.ofInt 64 (b:Int)).toNat:Int)=_
 rw[BitVec.toNat_and,oW 64 a (by omega),oW 64 b (by omega),IntKind.wrap_i64];have e:(2:Nat)^63=9223372036854775808:=rfl;generalize a&&&b=x at hx⊢;omega
theorem Nx(z b:Nat)(hz:z<=40000)(hb:b<14):bits .and aj (z:Int) (wrap64 (wrap64 ((2:Int)^b)-1))=((z%kB b:Nat):Int):=by
 have e:(2:Int)^b=((2^b:Nat):Int):=by rw[Int.natCast_pow];rfl
 have h1:2^b<=2^13:=Nat.pow_le_pow_right (by omega) (by omega);have h0:0<2^b:=Nat.pow_pos (by omega);have e2:wrap64 (wrap64 ((2:Int)^b)-1)=((2^b-1:Nat):Int):=by
  rw[e];generalize 2^b=x at h1 h0;unfold wrap64;omega
 rw[e2,Nw z _ (by omega) (by omega),Nat.and_two_pow_sub_one_eq_mod];rfl
def pL(l m f s o:Int)(M:Nat->Nat)(n:Int)(e:Ending):Prop:=
 if n<l\/m<n then e=ao (.tuple #[ae aj 0,ae aj 0,ae aj 0,ae aj 2])else
 if n=o then e=ao (.tuple #[ae aj s,ae aj 0,ae aj 0,ae aj 0])else
 ∃b z:Nat,b<14/\z<M b*kB b/\n=l+((lv M b+z:Nat):Int)/\e=ao (.tuple #[ae aj (f+((ka M b+z/kB b:Nat):Int)),ae aj (b:Int),ae aj ((z%kB b:Nat):Int),ae aj 0])
theorem Ft(w:aq)(l m f s o:Int)(M:Nat->Nat)(hk:zD l m f s o M)(n:Int):
  aw prog 126 #[ah (jd l m f s o M),ae aj n] w fun e w'=>pL l m f s o M n e/\aR w.heap.size w w':=by
 have ad:=Fh w l m f s o M
 have hb:aR w.heap.size w (w.alloc (ak (jd l m f s o M) 198)):=ix.alloc gY _
 have k0:=ad.least
 have k1:=ad.il
 have k2:=ad.first
 have k3:=ad.last
 have k4:=ad.own
 have a1:=gW ad;have HB:=gW hb;have HK:=gW hk
 clear ad hb hk
 by_cases y0:n<l
 ·have d0:decide (n<l)=true:=mI y0;go_enter func126,ntmps126
  go_wp2;refine aK (o7 rfl _ _ _) rfl ?_;exact⟨by unfold pL;rw[if_pos (.inl y0)];rfl,HB.out⟩
 have d0:decide (n<l)=false:=mR y0
 by_cases y1:m<n
 ·have d1:decide (m<n)=true:=mI y1;go_enter func126,ntmps126
  go_wp2;refine aK (o7 rfl _ _ _) rfl ?_;exact⟨by unfold pL;rw[if_pos (.inr y1)];rfl,HB.out⟩
 have d1:decide (m<n)=false:=mR y1
 have al:¬(n<l\/m<n):=by omega
 by_cases y2:n=o
 ·subst y2;have d2:(n==n)=true:=by simp
  have HN:=gW al;clear al;go_enter func126,ntmps126
  go_wp2;refine aK (o7 rfl _ _ _) rfl ?_;exact⟨by unfold pL;rw[if_neg HN.out,if_pos rfl];rfl,HB.out⟩
 have d2:(n==o)=false:=by simpa using y2
 obtain⟨a8,a9⟩:=HK.out.l0
 obtain⟨bd,bf⟩:=HK.out.f0
 have av:=HK.out.Ni
 have a2:=HK.out.m0
 have a3:0<=n-l/\n-l<=40000/\n-l<((lv M 14:Nat):Int):=by omega
 obtain⟨bg,bj,aS⟩:=a3
 have HN:=gW al;have H3:=gW aS;have HO:=gW y2
 clear av a2 al aS y2
 go_enter func126,ntmps126
 go_wp2
 go_quiet (fail)
 go_wp2
 go_loopw [4,5,8] (fun sv bv fv wr=>∃b z C:Nat,b<14/\z<=40000/\C<=40/\sv=ae aj (f+(C:Int))/\bv=ae aj (b:Int)/\fv=ae aj (z:Int)/\aQ (C=ka M b)/\aQ (n=l+((lv M b+z:Nat):Int))/\aQ (iY wr w.heap.size l m f s o M)/\aQ (aR w.heap.size w wr)) (fun _ bv _ _=>14-(aP bv).toNat)
 case atStart=>
  refine⟨0,(n-l).toNat,0,by omega,by omega,by omega,by simp,rfl,?_,gW rfl,gW ?_,gW (a1.out.drewN _),gW (Fi HB.out _)⟩
  ·exact lx (by omega)
  ·show n=l+((0+(n-l).toNat:Nat):Int);omega
 case round=>
  obtain⟨b,z,C,hb,hz,hC,rfl,rfl,rfl,aT,HY,aU,aV⟩:=hrel;have c1:=aU.out.many hb;obtain⟨q,hq⟩:=gX (M b);rw[<-hq]at c1;have HQ:=gW hq;clear hq;have a7:q<=40:=by
   rw[HQ.out];have:=(Nj (M:=M) hb).1;have:=HK.out.Fo;omega
  obtain⟨g1,g2⟩:=Fj q b (by omega) hb;obtain⟨P,hP⟩:=gX (q*kB b);rw[<-hP]at g1 g2;have HP:=gW hP;have G1:=gW g1
  clear hP g1;by_cases bk:P<=z
  ·have aW:(P:Int)<=(z:Int):=by omega
   have hd:decide (wrap64 ((q:Int)*2^b)<=(z:Int))=true:=by rw[G1.out];exact mI aW
   go_wp2;go_roundw
   case rel=>
    have aX:b+1<14:=by
     rcases Nat.lt_or_ge (b+1) 14 with h|h
     ·exact h
     ·exfalso;have a4:b=13:=by omega
      have h1:=H3.out;have h2:=HY.out
      have h3:lv M 14=lv M 13+M 13*kB 13:=rfl;have h4:=HP.out;rw[a4]at h2 h4 HQ;rw[HQ.out]at h4;omega
    have a5:lv M (b+1)=lv M b+P:=by rw[HP.out,HQ.out];rfl
    have a6:ka M (b+1)=C+q:=by rw[HQ.out,aT.out];rfl
    have bl:ka M (b+1)<=40:=Nat.le_trans (xc M (by omega)) HK.out.Fo;refine⟨b+1,z-P,C+q,aX,by omega,by omega,lx (by omega),by go_num,lx ?_,gW a6.symm,gW ?_,aU,aV⟩
    ·rw[G1.out];unfold wrap64;omega
    ·rw[HY.out,a5];omega
   case measure=>simp[aP];omega
  ·have hd:decide (wrap64 ((q:Int)*2^b)<=(z:Int))=false:=by rw[G1.out];exact mR (by omega)
   have aY:(z:Int)/2^b=((z/kB b:Nat):Int)/\z/kB b<=40000:=by
    have e:(2:Int)^b=((2^b:Nat):Int):=by rw[Int.natCast_pow];rfl
    refine⟨by rw[e];rfl,Nat.le_trans (Nat.div_le_self _ _) hz⟩
   have aZ:=gW aY;clear aY;go_wp2;go_quiet (fail)
   go_wp2;refine aK (o7 rfl _ _ _) rfl ?_;refine⟨?_,Fi aV.out _⟩;unfold pL;rw[if_neg HN.out,if_neg HO.out];refine⟨b,z,hb,by rw[<-HQ.out,<-HP.out];omega,HY.out,?_⟩;have e1:wrap64 (f+(C:Int)+(z:Int)/2^b)=f+((ka M b+z/kB b:Nat):Int):=by
    rw[aZ.out.1,<-aT.out];have:=aZ.out.2;generalize z/kB b=x at this;unfold wrap64;omega
   rw[e1,Nx z b hz hb];rfl
theorem Ny{n:Int}{e:Ending}(h:pL 3 258 257 285 258 (ji mM) n e):e=ao (.tuple #[ae aj (jN n),ae aj (kY n),ae aj (ll n),ae aj (oh n)]):=by
 unfold pL at h;by_cases h1:n<3\/258<n
 ·rw[if_pos h1]at h;have hk:¬(3<=n/\n<=258):=by omega
  unfold jN kY ll oh;rw[if_neg hk,if_neg hk,if_neg hk,if_neg hk];exact h
 ·rw[if_neg h1]at h;have hk:3<=n/\n<=258:=by omega
  by_cases h2:n=258
  ·rw[if_pos h2]at h;subst h2;exact h
  ·rw[if_neg h2]at h;obtain⟨b,z,hb,hz,hn,he⟩:=h;have hp:0<kB b:=Nat.pow_pos (by omega);have hd:z/kB b<ji mM b:=Nat.div_lt_of_lt_mul (by rw[Nat.mul_comm];exact hz);obtain⟨g1,g2,g3⟩:=Nu b hb _ hd;have hm:=Nat.mod_lt z hp;have ad:=Nat.div_add_mod z (kB b);rw[Nat.mul_comm]at ad;obtain⟨i,hi⟩:=gX (ka (ji mM) b+z/kB b);rw[<-hi]at g1 g2 g3 he;obtain⟨x,hx⟩:=gX (z%kB b);rw[<-hx]at hm ad he;have hT:n=((iW i+x:Nat):Int):=by omega
   have al:¬(i=27/\x=31):=by
    rintro⟨rfl,rfl⟩;have e1:iW 27=227:=rfl;omega
   obtain⟨q1,_,_⟩:=Hk (i:=i) (x:=x) (by omega) (by rw[g3];exact hm) al;have eI:pT n=i:=by rw[hT];exact q1
   have e2:n.toNat-iW i=x:=by omega
   unfold jN kY ll oh;rw[if_pos hk,if_pos hk,if_pos hk,if_pos hk,eI,g3,e2,he];rw[show((257:Int)+(i:Int))=((257+i:Nat):Int) by omega]
theorem Nz{n:Int}{e:Ending}(h:pL 1 32768 0 29 0 (ji mO) n e):e=ao (.tuple #[ae aj (jH n),ae aj (kZ n),ae aj (lC n),ae aj (oo n)]):=by
 unfold pL at h;by_cases h1:n<1\/32768<n
 ·rw[if_pos h1]at h;have hk:¬(1<=n/\n<=32768):=by omega
  unfold jH kZ lC oo;rw[if_neg hk,if_neg hk,if_neg hk,if_neg hk];exact h
 ·rw[if_neg h1]at h;have hk:1<=n/\n<=32768:=by omega
  rw[if_neg (by omega)]at h;obtain⟨b,z,hb,hz,hn,he⟩:=h;have hp:0<kB b:=Nat.pow_pos (by omega);have hd:z/kB b<ji mO b:=Nat.div_lt_of_lt_mul (by rw[Nat.mul_comm];exact hz);obtain⟨g1,g2,g3⟩:=Nv b hb _ hd;have hm:=Nat.mod_lt z hp;have ad:=Nat.div_add_mod z (kB b);rw[Nat.mul_comm]at ad;obtain⟨i,hi⟩:=gX (ka (ji mO) b+z/kB b);rw[<-hi]at g1 g2 g3 he;obtain⟨x,hx⟩:=gX (z%kB b);rw[<-hx]at hm ad he;have hT:n=((jb i+x:Nat):Int):=by omega
  obtain⟨q1,_,_⟩:=Hl (i:=i) (x:=x) (by omega) (by rw[g3];exact hm);have eI:pU n=i:=by rw[hT];exact q1
  have e2:n.toNat-jb i=x:=by omega
  unfold jH kZ lC oo;rw[if_pos hk,if_pos hk,if_pos hk,if_pos hk,eI,g3,e2,he];rw[Int.zero_add]
theorem Fu(w:aq)(n:Int):aw prog 99 #[ae aj n] w fun e w'=>e=ao (.tuple #[ae aj (jN n),ae aj (kY n),ae aj (ll n),ae aj (oh n)])/\aR w.heap.size w w':=by
 obtain⟨X,hX⟩:=gX (jd 3 258 257 285 258 (ji mM));have hs:=fun v=>Ft v 3 258 257 285 258 (ji mM) Ns n
 have hk:=Nr w;rw[<-hX]at hk hs;have HM:=gW hk;have HS:=gW hs
 obtain⟨z0,ad⟩:=gX (jN n);obtain⟨z1,al⟩:=gX (kY n);obtain⟨z2,av⟩:=gX (ll n);obtain⟨z3,aS⟩:=gX (oh n);have hy:∀e,pL 3 258 257 285 258 (ji mM) n e->e=ao (.tuple #[ae aj z0,ae aj z1,ae aj z2,ae aj z3]):=fun e h=>by rw[ad,al,av,aS];exact Ny h
 rw[<-ad,<-al,<-av,<-aS];have HY:=gW hy;clear ad al av aS hX hk hs hy;go_enter func99,ntmps99
 go_wp2_with fail
 refine HM.out.mono ?_;rintro e w1 ⟨rfl,aT⟩;have aU:=gW aT;clear aT;go_wp2_with fail
 refine(HS.out w1).mono ?_;rintro e w2 ⟨he,aV⟩;obtain rfl:=HY.out _ he;have aW:=gW (aU.out.trans (aV.mono aU.out.size));clear aV he;go_wp2;refine aK (o7 rfl _ _ _) rfl ?_;exact⟨rfl,aW.out⟩
theorem Fv(w:aq)(n:Int):aw prog 100 #[ae aj n] w fun e w'=>e=ao (.tuple #[ae aj (jH n),ae aj (kZ n),ae aj (lC n),ae aj (oo n)])/\aR w.heap.size w w':=by
 obtain⟨X,hX⟩:=gX (jd 1 32768 0 29 0 (ji mO));have hs:=fun v=>Ft v 1 32768 0 29 0 (ji mO) Nt n
 have hk:=Nq w;rw[<-hX]at hk hs;have HM:=gW hk;have HS:=gW hs
 obtain⟨z0,ad⟩:=gX (jH n);obtain⟨z1,al⟩:=gX (kZ n);obtain⟨z2,av⟩:=gX (lC n);obtain⟨z3,aS⟩:=gX (oo n);have hy:∀e,pL 1 32768 0 29 0 (ji mO) n e->e=ao (.tuple #[ae aj z0,ae aj z1,ae aj z2,ae aj z3]):=fun e h=>by rw[ad,al,av,aS];exact Nz h
 rw[<-ad,<-al,<-av,<-aS];have HY:=gW hy;clear ad al av aS hX hk hs hy;go_enter func100,ntmps100
 go_wp2_with fail
 refine HM.out.mono ?_;rintro e w1 ⟨rfl,aT⟩;have aU:=gW aT;clear aT;go_wp2_with fail
 refine(HS.out w1).mono ?_;rintro e w2 ⟨he,aV⟩;obtain rfl:=HY.out _ he;have aW:=gW (aU.out.trans (aV.mono aU.out.size));clear aV he;go_wp2;refine aK (o7 rfl _ _ _) rfl ?_;exact⟨rfl,aW.out⟩
def oF(t:iu):Nat:=if t.n=0 then 0 else(kY t.n).toNat+(kZ t.d).toNat
def l9(l:List iu):Nat:=(l.map oF).sum
theorem Fw(l:List iu)(t:iu):l9 (l++[t])=l9 l+oF t:=by unfold l9;simp
def mZ(l:List iu)(i:Nat):Nat:=if i<286 then l.countP (fun t=>decide (jU t=i))else if i<316 then jg l (i-286)else l9 l
theorem NC(l:List iu)(t:iu)(i:Nat):mZ (l++[t]) i=mZ l i+(if i<286 then(if jU t=i then 1 else 0)else if i<316 then(if t.n≠0/\lK t=i-286 then 1 else 0)else oF t):=by
 unfold mZ;split
 ·rw[List.countP_append,List.countP_singleton];simp only[decide_eq_true_eq]
 ·split
  ·rw[vf]
  ·rw[Fw]
theorem ND(l:List iu)(i:Nat)(hi:i<316):mZ l i<=l.length:=by
 unfold mZ;split
 ·exact List.countP_le_length
 ·exact qY _ _
theorem NF{t:iu}(h:iO t=true)(hx:t.x<256):oF t<=18:=by
 unfold oF;by_cases h0:t.n=0
 ·rw[if_pos h0];omega
 ·rw[if_neg h0];obtain⟨ad,al,_⟩:=(mH h hx).2.2 h0;obtain⟨_,_,_,_,_,_,p3,p4⟩:=rR ad;obtain⟨_,_,_,_,_,_,q3,q4⟩:=rS al;omega
theorem zE:∀l:List iu,(∀t∈l,iO t=true/\t.x<256)->l9 l<=18*l.length
 |[],_=>by simp[l9]
 |t::l,h=>by
  have h1:=NF (h t List.mem_cons_self).1 (h t List.mem_cons_self).2;have h2:=zE l fun u hu=>h u (List.mem_cons_of_mem _ hu)
  have e:l9 (t::l)=oF t+l9 l:=by simp[l9]
  rw[e,List.length_cons];omega
def lG(l:List iu)(i:Nat):Nat:=if i=256 then 1 else mZ l i
theorem Fx{l:List iu}(h:∀t∈l,iO t=true/\t.x<256){i:Nat}(hi:i<286):lG l i=jn l i:=by
 unfold lG jn mZ;by_cases e:i=256
 ·subst e;rw[if_pos rfl,if_pos rfl];have:l.countP (fun t=>decide (jU t=256))=0:=by
   rw[List.countP_eq_zero];intro t ht;obtain⟨_,h1,h2⟩:=mH (h t ht).1 (h t ht).2;have hx:=(h t ht).2;simp only[decide_eq_true_eq];by_cases h0:t.n=0
   ·have:=h1 h0;omega
   ·have:=(h2 h0).2.2.1;omega
  omega
 ·rw[if_neg e,if_pos hi,if_neg e];omega
theorem Fy(l:List iu){i:Nat}(hi:i<30):lG l (286+i)=jg l i:=by
 unfold lG mZ;rw[if_neg (by omega),if_neg (by omega),if_pos (by omega),show 286+i-286=i by omega]
theorem NG(l:List iu):lG l 316=l9 l:=by
 unfold lG mZ;rw[if_neg (by omega),if_neg (by omega),if_neg (by omega)]
theorem NI:prog.built 159 []=some (ik (fun _=>0) 317):=by kernel_rfl
theorem Fz(w:aq)(A:Option au)(m c:Nat)(l:List iu)(hm:m=l.length)(hr:km w w.heap.size A l)(cB:m<=1000000)(bI:∀t∈l,iO t=true/\t.x<256):
  aw prog 77 #[af A m c] w fun e w'=>e=ao (ag (some ⟨w.heap.size,0,none⟩))/\jF w' w.heap.size 317 (lG l) 159/\aR w.heap.size w w':=by
 have bp:=NI
 obtain⟨Z,hZ⟩:∃Z:Array ax,Z=ik (fun _=>0) 317:=⟨_,rfl⟩
 rw[<-hZ]at bp
 obtain⟨h,hh⟩:=gX (w.heap.size)
 obtain⟨W1,a5⟩:=gX (w.alloc (ak Z 159))
 have bJ:aR h w W1:=by rw[a5,hh];exact ix.alloc gY _
 have bK:jF W1 h 317 (mZ (l.take 0)) 159:=by
  unfold jF;rw[a5,hh,aG,hZ];refine congrArg (fun a=>some (Obj.cells a 159 (0,0))) (rZ fun k hk=>?_);simp[mZ,jg,l9]
 rw[<-hh]at hr⊢
 have HM:=gW hm;have HR:=gW hr;have bL:=gW bI;have b8:=gW bJ;have b9:=gW bK;have ca:=gW a5;have HH:=gW hh;have cb:=gW bp
 clear hm hr bI bJ bK a5 hh hZ bp
 go_enter func77,ntmps77
 go_wp2_with (first|(refine aD rfl 159 #[] rfl (some 14) rfl Z ?_ ?_;focus(simpa[Act.eval]using cb.out))|rw[<-ca.out,<-HH.out]|fail)
 go_loopw [18] (fun iv wr=>∃i:Nat,i<=m/\iv=ae aj (i:Int)/\aQ (jF wr h 317 (mZ (l.take i)) 159)/\aQ (aR h w wr)) (fun iv _=>m-(aP iv).toNat)
 case atStart=>exact⟨0,Nat.zero_le _,rfl,b9,b8⟩
 case round=>
  obtain⟨i,hi,rfl,bq,HB⟩:=hrel;have hle:w.heap.size=h:=HH.out.symm;have cC:h<wr.heap.size:=bq.out.lt;by_cases cf:i<m
  ·have bM:(i:Int)<(m:Int):=by omega
   have aY:i<l.length:=by rw[<-HM.out];exact cf
   have a6:km wr h A l:=HR.out.below HB.out gY;obtain⟨b,o,rfl,cD,hc⟩:=a6.at aY;have a7:=a6.range rfl aY;have aZ:l.getD i jl∈l:=by rw[List.getD_eq_getElem?_getD,List.getElem?_eq_getElem aY];exact List.getElem_mem aY
   obtain⟨aS,aU⟩:=bL.out _ aZ;have a8:=Qz aY;have bN:(l.take i).length<=1000000:=by rw[List.length_take];omega
   have a1:∀t∈l.take i,iO t=true/\t.x<256:=fun t ht=>bL.out t (List.mem_of_mem_take ht)
   have br:=zE _ a1;obtain⟨t,ht⟩:=gX (l.getD i jl);rw[<-ht]at a7 aS aU a8;have ad:=NC (l.take i) t;rw[<-a8]at ad;have aT:=ND (l.take i);have a2:mZ (l.take i) 316=l9 (l.take i):=by unfold mZ;rw[if_neg (by omega),if_neg (by omega)]
   obtain⟨C,hC⟩:=gX (mZ (l.take i));have hr:=bq.out;rw[<-hC]at ad aT a2 hr;obtain⟨W3,a3⟩:=gX (iP wr #[ae .u8 0,ae aj 0,ae aj 0] (jK t).toArray 128);have a9:aR wr.heap.size wr W3:=by rw[a3];exact kU _ _ _ _
   have av:W3.heap[wr.heap.size]?=some (ak (jK t).toArray 128 (0,0)):=by rw[a3];exact lq wr _ _ _
   have y0:W3.cell? ⟨wr.heap.size,0,none⟩=some (ae .u8 (t.x:Int)):=(aH W3 _ 0 _ _ (0,0) av).trans rfl;have y1:W3.cell? ⟨wr.heap.size,1,none⟩=some (ae aj t.d):=(aH W3 _ 1 _ _ (0,0) av).trans rfl;have y2:W3.cell? ⟨wr.heap.size,2,none⟩=some (ae aj t.n):=(aH W3 _ 2 _ _ (0,0) av).trans rfl;have aV:=hr.below a9 hr.lt;have bO:=gW a7;have bt:=gW ad;have bP:=gW aT;have cg:=gW a2;have ch:=gW br;have cE:=gW aS;have bu:=gW aV;have bd:=gW (HB.out.trans (a9.mono (by omega)));have bQ:=gW a3
   have bR:wr.heap.size<W3.heap.size:=(Array.getElem?_eq_some_iff.1 av).1;by_cases h0:t.n=0
   ·have cj:(t.n==0)=true:=by rw[h0];rfl
    obtain⟨bz,bS,_⟩:=mH aS aU;have bT:=bS h0;have k1:=aV.cell (i:=t.x) (by omega);have z1:=aV.frozen t.x;have bU:=aT t.x (by omega);have al:=aV.set (T':=mZ (l.take (i+1))) t.x (C t.x+1) (fun k hk=>by
     rw[ad k,bT];have e1:oF t=0:=by unfold oF;rw[if_pos h0]
     rw[e1];by_cases bA:k=t.x
     ·subst bA;rw[if_pos rfl,if_pos (by omega),if_pos rfl]
     ·rw[if_neg bA];by_cases h1:k<286
      ·rw[if_pos h1,if_neg (fun e=>bA e.symm)];rfl
      ·rw[if_neg h1];by_cases h2:k<316
       ·rw[if_pos h2,if_neg (fun e=>e.1 h0)];rfl
       ·rw[if_neg h2];rfl)
    obtain⟨q,hq⟩:=gX (t.x);obtain⟨V,hV⟩:=gX (C q);rw[<-hq]at k1 z1 bU al y0 aU;rw[<-hV]at k1 al bU;have eV:((V+1:Nat):Int)=(V:Int)+1:=by omega
    rw[eV]at al;have cF:V<=1000000:=by omega
    have cx:(q:Int)<286:=by omega
    have a4:=gW al.drew;clear a7 ad aT a2 br aV a9 av a3 a8 ht hC bN a1 a6 hc hr al hV hq bz bS bT aZ aS bP;go_wp2_with (first|refine aF rfl _ _ rfl b (o+i*3) rfl (jK t) _ bO.out underlying128 rfl tf ?_|refine aC rfl _ _ _ rfl rfl wr.heap.size (jK t).toArray rfl rfl 128 #[ae .u8 0,ae aj 0,ae aj 0] (aG wr _) (tA _) rfl (uv _) ?_;change wpList _ _ _ _ _ (iP wr #[ae .u8 0,ae aj 0,ae aj 0] (jK t).toArray 128);rw[<-bQ.out])
    go_region;go_wp2;go_roundw
    case rel=>exact⟨i+1,by omega,by go_num,a4,gW (bd.out.setCell gY _).drew⟩
    case measure=>simp[aP];omega
   ·have cj:(t.n==0)=false:=by rw[beq_eq_false_iff_ne];exact h0
    obtain⟨_,_,bV⟩:=mH aS aU;obtain⟨bf,bg,ck,cl⟩:=bV h0;have bz:=(mH aS aU).1;obtain⟨_,_,_,_,_,_,p3,p4⟩:=rR bf;obtain⟨_,_,_,_,_,_,q3,q4⟩:=rS bg;obtain⟨S,hS⟩:=gX (jU t);obtain⟨D,hD⟩:=gX (lK t);have eS:jN t.n=(S:Int):=by
     have h5:3<=t.n/\t.n<=258:=xN bf;have:0<=jN t.n:=by unfold jN;rw[if_pos h5];omega
     rw[hS];unfold jU;rw[if_neg h0];omega
    have eD:jH t.d=(D:Int):=by
     have h5:1<=t.d/\t.d<=32768:=xO bg;have:0<=jH t.d:=by unfold jH;rw[if_pos h5];omega
     rw[hD];unfold lK;omega
    obtain⟨u,eu⟩:=Int.eq_ofNat_of_zero_le p3;obtain⟨v,ev⟩:=Int.eq_ofNat_of_zero_le q3;have bW:oF t=u+v:=by unfold oF;rw[if_neg h0,eu,ev];rfl
    have bB:=fun V:aq=>Fu V t.n
    have bC:=fun V:aq=>Fv V t.d
    rw[eS,eu,bf]at bB;rw[eD,ev,bg]at bC;rw[eu]at p4;rw[ev]at q4;rw[<-hS]at bz ck;rw[<-hD]at cl;have bX:=aT S (by omega);have bY:=aT (286+D) (by omega);obtain⟨VS,bD⟩:=gX (C S);obtain⟨VD,bE⟩:=gX (C (286+D));obtain⟨VX,bF⟩:=gX (C 316);rw[<-bD]at bX;rw[<-bE]at bY;rw[<-bF]at a2;have cy:VS<=1000000:=by omega
    have cz:VD<=1000000:=by omega
    have cA:VX<=18000000:=by omega
    have cm:=gW bB;have cn:=gW bC;have bZ:=gW bD;have b0:=gW bE;have b1:=gW bF;have cp:=gW bW;have HS:=gW hS;have HD:=gW hD
    clear bB bC bD bE bF bW hS hD eS eD eu ev bf bg bV bX bY a2 a7 ad aT br aV a9 av a3 a8 ht hC bN a1 a6 hc hr aZ aS bP cg ch y0 aU;go_wp2_with (first|refine aF rfl _ _ rfl b (o+i*3) rfl (jK t) _ bO.out underlying128 rfl tf ?_|refine aC rfl _ _ _ rfl rfl wr.heap.size (jK t).toArray rfl rfl 128 #[ae .u8 0,ae aj 0,ae aj 0] (aG wr _) (tA _) rfl (uv _) ?_;change wpList _ _ _ _ _ (iP wr #[ae .u8 0,ae aj 0,ae aj 0] (jK t).toArray 128);rw[<-bQ.out]|fail)
    refine(cm.out W3).mono ?_;rintro e w4 ⟨rfl,bj⟩;have cq:=(bj.cell (p:=⟨wr.heap.size,1,none⟩) bR).trans y1;have bk:=gW (bu.out.below bj (by have:=bd.out.size;omega));have b2:=gW (bd.out.trans (bj.mono (by have:=bu.out.lt;omega)))
    clear bj y1 y2 bu bd bR;go_wp2_with fail
    refine(cn.out w4).mono ?_;rintro e w5 ⟨rfl,bG⟩;have bl:=bk.out.below bG bk.out.lt;have cr:=gW (b2.out.trans (bG.mono (by have:=bk.out.lt;omega)));clear bG cq bk b2;have k1:=bl.cell (i:=S) (by omega);have z1:=bl.frozen S;rw[<-bZ.out]at k1;have aW:=(bl.set (T':=fun k=>if k=S then VS+1 else C k) S (VS+1) (fun _ _=>rfl)).drew;have b3:((VS+1:Nat):Int)=(VS:Int)+1:=by omega
    rw[b3]at aW;obtain⟨W6,bm⟩:=gX ((w5.setCell ⟨h,S,none⟩ (ae aj ((VS:Int)+1))).drew);rw[<-bm]at aW;have k2:=aW.cell (i:=286+D) (by omega);rw[if_neg (by omega),<-b0.out]at k2;have z2:=aW.frozen (286+D);have aX:=(aW.set (T':=fun k=>if k=286+D then VD+1 else if k=S then VS+1 else C k) (286+D) (VD+1) (fun _ _=>rfl)).drew;have b4:((VD+1:Nat):Int)=(VD:Int)+1:=by omega
    rw[b4]at aX;obtain⟨W7,bn⟩:=gX ((W6.setCell ⟨h,286+D,none⟩ (ae aj ((VD:Int)+1))).drew);rw[<-bn]at aX;have k3:=aX.cell (i:=316) (by omega);rw[if_neg (by omega),if_neg (by omega),<-b1.out]at k3;have z3:=aX.frozen 316;have bH:=aX.set (T':=mZ (l.take (i+1))) 316 (VX+(u+v)) (fun k hk=>by
     rw[bt.out k,cp.out,<-HS.out,<-HD.out];by_cases h1:k=316
     ·subst h1;rw[if_pos rfl,if_neg (by omega),if_neg (by omega),b1.out]
     ·rw[if_neg h1];by_cases h2:k=286+D
      ·rw[if_pos h2,if_neg (by omega),if_pos (by omega),if_pos ⟨h0,by omega⟩,b0.out,h2]
      ·rw[if_neg h2];by_cases h3:k=S
       ·rw[if_pos h3,if_pos (by omega),if_pos h3.symm,bZ.out,h3]
       ·rw[if_neg h3];by_cases h4:k<286
        ·rw[if_pos h4,if_neg (fun e=>h3 e.symm)];rfl
        ·rw[if_neg h4,if_pos (by omega),if_neg (fun e=>h2 (by omega))];rfl)
    have b5:((VX+(u+v):Nat):Int)=(VX:Int)+((u:Int)+(v:Int)):=by omega
    rw[b5]at bH;have b6:aR h w W6:=by rw[bm];exact(cr.out.setCell gY _).drew
    have b7:aR h w W7:=by rw[bn];exact(b6.setCell gY _).drew
    have ct:=gW bH;have cu:=gW (b7.setCell (p:=⟨h,316,none⟩) gY (ae aj ((VX:Int)+((u:Int)+(v:Int)))));have cv:=gW bm;have cw:=gW bn
    have cG:(S:Int)<286:=by omega
    have cH:(D:Int)<30:=by omega
    clear bl aW aX bH b6 b7 bm bn b3 b4 b5;go_wp2;go_region;rw[<-cv.out];go_wp2;go_region;rw[<-cw.out];go_wp2;go_roundw
    case rel=>exact⟨i+1,by omega,by go_num,ct,cu⟩
    case measure=>simp[aP];omega
  ·obtain rfl:i=m:=by omega
   have bM:¬(i:Int)<(i:Int):=by omega
   have hr:=bq.out;rw[HM.out,List.take_length]at hr;have k1:=hr.cell (i:=256) (by omega);have z1:=hr.frozen 256;have al:=hr.set (T':=lG l) 256 1 (fun k _=>by unfold lG;rfl);have a4:=gW al;clear al hr;go_wp2;go_ret;exact⟨rfl,a4.out,HB.out.setCell gY _⟩
theorem FC{c d:Nat->Nat}{n:Nat}(h:∀i,i<n->c i=d i):kz c n=kz d n:=by
 unfold kz;exact List.map_congr_left fun i hi=>by rw[h i (List.mem_range.1 hi)]
theorem iy.part{w:aq}{B n m:Nat}{A:Option au}{f:Nat->Nat}(h:iy w B A n f)(hm:m<=n):iy w B A m f:=⟨h.1,fun h0=>by
 obtain⟨b,o,e,hb,hc⟩:=h.2 (by omega);exact⟨b,o,e,hb,fun j hj=>hc j (by omega)⟩⟩
theorem FD(w:aq)(g:Nat)(l:List iu)(hg:jF w g 317 (lG l) 159)(hl:l.length<=1000000)(a6:∀t∈l,iO t=true/\t.x<256):
  aw prog 108 #[ag (some ⟨g,0,none⟩)] w fun e w'=>∃A1 c1 A2 c2,e=ao (.tuple #[af A1 (nA l) c1,af A2 (nB l) c2])/\ib w' w'.heap.size A1 (nA l) c1 (jA l)/\ib w' w'.heap.size A2 (nB l) c2 (jE l)/\(∀b o,A1=some ⟨b,o,none⟩->w.heap.size<=b)/\(∀b o,A2=some ⟨b,o,none⟩->w.heap.size<=b)/\aR w.heap.size w w':=by
 obtain⟨e1,e2⟩:=zA (c:=jn l) (n:=286) (il:=15) (by omega) (by omega) (by omega) (by decide) (fun i=>by have:=rX l i;omega)
 obtain⟨e3,e4⟩:=zA (c:=jg l) (n:=30) (il:=15) (by omega) (by omega) (by omega) (by decide) (fun i=>by have:=qY l i;omega)
 rw[show((15:Nat):Int)=15 from rfl]at e1 e2 e3 e4
 obtain⟨_,_,_,_,a1,a2,b1,b2,_⟩:=nc l hl
 have ad:jS w w.heap.size (some ⟨g,0,none⟩) (kz (jn l) 286):=by
  have:=hg.rd 0 286 (by omega);rwa[FC (d:=jn l) (fun i hi=>by rw[Nat.zero_add];exact Fx a6 hi)]at this
 have al:jS w w.heap.size (some ⟨g,286,none⟩) (kz (jg l) 30):=by
  have:=hg.rd 286 30 (by omega);rwa[FC (d:=jg l) (fun i hi=>Fy l hi)]at this
 have h1:=zw w (some ⟨g,0,none⟩) 286 (kz (jn l) 286) 15 ad (fun h=>by cases h) (by rw[mG];omega) (fun j hj=>by rw[mG]at hj;rw[sZ _ hj];have:=rX l j;omega) (by omega) (by omega)
 rw[mG,e1,e2]at h1
 have h2:=fun(V:aq) (hV:aR w.heap.size w V)=>zw V (some ⟨g,286,none⟩) 30 (kz (jg l) 30) 15 ((al.below hV gY).more hV.size) (fun h=>by cases h) (by rw[mG];omega) (fun j hj=>by rw[mG]at hj;rw[sZ _ hj];have:=qY l j;omega) (by omega) (by omega)
 rw[mG,e3,e4]at h2
 have H1:=gW h1;have H2:=gW h2
 have av:nA l=Qc (mv (jn l) 286 15) 257 286:=rfl
 have aS:nB l=Qc (mv (jg l) 30 15) 1 30:=rfl
 have aY:jA l=mv (jn l) 286 15:=rfl
 have aZ:jE l=mv (jg l) 30 15:=rfl
 rw[<-aY]at av
 rw[<-aZ]at aS
 obtain⟨nl,aT⟩:=gX (nA l)
 obtain⟨nd,aU⟩:=gX (nB l)
 obtain⟨F,hF⟩:=gX (jA l)
 obtain⟨G,hG⟩:=gX (jE l)
 rw[<-aY,<-hF]at h1
 rw[<-aZ,<-hG]at h2
 rw[<-aT,<-hF]at av
 rw[<-aU,<-hG]at aS
 rw[<-aT]at a1 a2
 rw[<-aU]at b1 b2
 rw[<-aT,<-aU,<-hF,<-hG]
 have H1:=gW h1;have H2:=gW h2;have bd:=gW av;have bf:=gW aS
 clear h1 h2 e1 e2 e3 e4 ad al av aS aY aZ aT aU hF hG hg a6
 go_enter func108,ntmps108
 go_wp2_with fail
 refine H1.out.mono ?_
 rintro e w1 ⟨A1,c1,rfl,a3,ad,p1,p2,p3,p4⟩
 have bg:=gW p4
 have aV:=gW a3;have a7:=gW ad;have bj:=gW p3
 have a8:=gW (H2.out w1 a3)
 clear a3 ad p3 p4 H1 H2
 go_wp2_with fail
 refine a8.out.mono ?_
 rintro e w2 ⟨A2,c2,rfl,aW,al,q1,q2,q3,q4⟩
 have bk:aQ (∀b o,A2=some ⟨b,o,none⟩->w.heap.size<=b):=gW fun b o e=>Nat.le_trans aV.out.size (q4 b o e)
 have aX:=gW ((a7.out.below aW gY).more aW.size);have bl:=gW (aV.out.trans (aW.mono aV.out.size));have a9:=gW al;have bm:=gW q3
 clear aW al q3 q4 a8 aV a7
 have a4:=zx w2 A1 286 c1 F 257 aX.out p1 (by omega) (by omega)
 have a5:=zx w2 A2 30 c2 G 1 a9.out q1 (by omega) (by omega)
 rw[<-bd.out]at a4
 rw[<-bf.out]at a5
 have bn:=gW a4;have bp:=gW a5
 clear a4 a5
 go_wp2_with fail
 refine bn.out.mono ?_
 rintro e w3 ⟨rfl,rfl⟩
 go_wp2_with fail
 refine bp.out.mono ?_
 rintro e w4 ⟨rfl,rfl⟩
 go_wp2
 go_ret2
 exact⟨A1,c1,A2,c2,rfl,⟨aX.out.part a2,bj.out,by omega,by unfold maxLen;omega⟩,⟨a9.out.part b2,bm.out,by omega,by unfold maxLen;omega⟩,bg.out,bk.out,bl.out⟩
theorem FE(w:aq)(kind:Nat)(A1:Option au)(rn rc:Nat)(A2:Option au)(m c2:Nat)(l:List iu)(bq:kind<256)(hm:m=l.length)(hr:km w w.heap.size A2 l)(br:m<=1000000)(bt:rn<=1000000)(a2:∀t∈l,sG t):
  aw prog 76 #[ae .u8 (kind:Int),af A1 rn rc,af A2 m c2] w fun e w'=>e=ao (ae aj (m9 kind rn l))/\aR w.heap.size w w':=by
 obtain⟨E,hE⟩:=gX (m9 kind rn l)
 rw[<-hE]
 have HE:=gW hE;have HR:=gW hr;have HM:=gW hm;have bk:=gW a2
 have av:=gW (Below.refl w.heap.size w)
 clear hE hr hm a2
 by_cases y0:2<kind
 ·have d0:decide (2<(kind:Int))=true:=by simp;omega
  obtain rfl:E=2:=by rw[HE.out];unfold m9;rw[if_pos y0]
  go_enter func76,ntmps76
  go_wp2;go_ret;exact⟨rfl,av.out⟩
 have d0:decide (2<(kind:Int))=false:=ni (by omega)
 by_cases y1:65535<rn
 ·have d1:decide (65535<(rn:Int))=true:=oM (by omega);obtain rfl:E=4:=by rw[HE.out];unfold m9;rw[if_neg y0,if_pos (.inl y1)]
  go_enter func76,ntmps76
  go_wp2;go_ret;exact⟨rfl,av.out⟩
 have d1:decide (65535<(rn:Int))=false:=ni (by omega)
 by_cases y2:65535<m
 ·have d2:decide (65535<(m:Int))=true:=oM (by omega);obtain rfl:E=4:=by rw[HE.out];unfold m9;rw[if_neg y0,if_pos (.inr (by rw[<-HM.out];exact y2))]
  go_enter func76,ntmps76
  go_wp2;go_ret;exact⟨rfl,av.out⟩
 have d2:decide (65535<(m:Int))=false:=ni (by omega)
 have a3:E=if l.all iO then 0 else 8:=by rw[HE.out];unfold m9;rw[if_neg y0,if_neg (by rw[<-HM.out];omega)]
 have a4:=gW a3
 clear a3 HE
 go_enter func76,ntmps76
 go_wp2_with fail
 go_loopw [22] (fun iv wr=>∃i:Nat,i<=m/\iv=ae aj (i:Int)/\aQ ((l.take i).all iO=true)/\aQ (aR w.heap.size w wr)) (fun iv _=>m-(aP iv).toNat)
 case atStart=>exact⟨0,Nat.zero_le _,rfl,gW (by simp),av⟩
 case round=>
  obtain⟨i,hi,rfl,HA,HB⟩:=hrel;by_cases bl:i<m
  ·have a5:(i:Int)<(m:Int):=by omega
   have al:i<l.length:=by rw[<-HM.out];exact bl
   have aX:=HR.out.below HB.out gY;obtain⟨b,o,rfl,bu,hc⟩:=aX.at al;have aY:=aX.range rfl al;have ad:l.getD i jl∈l:=by rw[List.getD_eq_getElem?_getD,List.getElem?_eq_getElem al];exact List.getElem_mem al
   have aZ:=bk.out _ ad;have a1:=Qz al;obtain⟨t,ht⟩:=gX (l.getD i jl);rw[<-ht]at aY aZ a1 ad;obtain⟨W3,aS⟩:=gX (iP wr #[ae .u8 0,ae aj 0,ae aj 0] (jK t).toArray 128);have a6:aR wr.heap.size wr W3:=by rw[aS];exact kU _ _ _ _
   have aU:W3.heap[wr.heap.size]?=some (ak (jK t).toArray 128 (0,0)):=by rw[aS];exact lq wr _ _ _
   have aV:=LJ W3 t aZ;have bm:=gW aY;have a7:=gW (HB.out.trans (a6.mono HB.out.size));have bn:=gW aS;have a8:=gW aU;have a9:=gW aV;have bp:=gW a1;have bd:=gW ad
   clear aY a6 aU aS a1 ht aX hc ad aZ aV;go_wp2_with (first|refine aF rfl _ _ rfl b (o+i*3) rfl (jK t) _ bm.out underlying128 rfl tf ?_|refine aC rfl _ _ _ rfl rfl wr.heap.size (jK t).toArray rfl rfl 128 #[ae .u8 0,ae aj 0,ae aj 0] (aG wr _) (tA _) rfl (uv _) ?_;change wpList _ _ _ _ _ (iP wr #[ae .u8 0,ae aj 0,ae aj 0] (jK t).toArray 128);rw[<-bn.out]|refine aE rfl _ _ rfl wr.heap.size rfl _ (jK t).toArray (0,0) _ a8.out underlying128 rfl (tA _) ?_|fail)
   refine a9.out.mono ?_;rintro e w4 ⟨rfl,bf⟩;have bg:=gW (a7.out.trans (bf.mono a7.out.size));clear bf;by_cases aT:iO t=true
   ·have e0:qI t=0:=by unfold qI;rw[if_pos aT]
    rw[e0];have aW:(l.take (i+1)).all iO=true:=by rw[bp.out,List.all_append,HA.out];simp[aT]
    have bj:=gW aW;clear aW;go_wp2;go_roundw
    case rel=>exact⟨i+1,by omega,by go_num,bj,bg⟩
    case measure=>simp[aP];omega
   ·have e0:qI t=8:=by unfold qI;rw[if_neg aT]
    rw[e0];obtain rfl:E=8:=by
     rw[a4.out,if_neg];intro h;exact aT (List.all_eq_true.1 h t bd.out)
    go_wp2;go_ret;exact⟨rfl,bg.out⟩
  ·obtain rfl:i=m:=by omega
   have a5:¬(i:Int)<(i:Int):=by omega
   have ha:=HA.out;rw[HM.out,List.take_length]at ha;obtain rfl:E=0:=by rw[a4.out,if_pos ha]
   clear ha;go_wp2;go_ret;exact⟨rfl,HB.out⟩
theorem NJ(w:aq)(g:Nat)(l:List iu)(hg:jF w g 317 (lG l) 159)(hl:l.length<=1000000)(aS:∀t∈l,iO t=true/\t.x<256)(A1:Option au)(n1 c1:Nat)(F:Nat->Nat)(A2:Option au)(n2 c2:Nat)(G:Nat->Nat)(h1:iy w w.heap.size A1 n1 F)(h2:iy w w.heap.size A2 n2 G)(k1 k2:Nat)(aU:k1=min n1 286)(aV:k2=min n2 30):
  aw prog 101 #[ag (some ⟨g,0,none⟩),af A1 n1 c1,af A2 n2 c2] w fun e w'=>e=ao (ae aj ((P6 (jn l) F k1+P6 (jg l) G k2+l9 l:Nat):Int))/\aR w.heap.size w w':=by
 have hA:∀i,jn l i<=1000001:=fun i=>by have:=rX l i;omega
 have hB:∀i,jg l i<=1000000:=fun i=>by have:=qY l i;omega
 have aT:=hg.lt
 have r1:∀V,aR w.heap.size w V->zy V g 0 286 (jn l):=fun V hV i hi=>by
  rw[Nat.zero_add,(hg.below hV aT).cell (by omega),Fx aS hi]
 have r2:∀V,aR w.heap.size w V->zy V g 286 30 (jg l):=fun V hV i hi=>by
  rw[(hg.below hV aT).cell (by omega),Fy l hi]
 have x3:∀V,aR w.heap.size w V->V.cell? ⟨g,316,none⟩=some (ae aj ((l9 l:Nat):Int)):=fun V hV=>by
  rw[(hg.below hV aT).cell (by omega),NG]
 have s1:=wZ hA (fun j=>Nat.le_of_lt (h1.1 j)) k1
 have s2:=wZ hB (fun j=>Nat.le_of_lt (h2.1 j)) k2
 have s3:=zE l aS
 obtain⟨S1,ad⟩:=gX (P6 (jn l) F k1)
 obtain⟨S2,al⟩:=gX (P6 (jg l) G k2)
 obtain⟨S3,av⟩:=gX (l9 l)
 have T1:aQ (∀V,aR w.heap.size w V->aw prog 128 #[af (some ⟨g,0,none⟩) 286 286,af A1 n1 c1] V fun e w'=>e=ao (ae aj (S1:Int))/\aR w.heap.size w w'):=gW fun V hV=>by
  rw[ad];exact(Fg V g 0 286 286 (jn l) A1 n1 c1 F (r1 V hV) (by have:=hV.size;omega) hA (by omega) ((h1.below hV gY).more hV.size) k1 aU).mono fun _ _ ⟨e,b⟩=>⟨e,hV.trans (b.mono hV.size)⟩
 have T2:aQ (∀V,aR w.heap.size w V->aw prog 128 #[af (some ⟨g,286,none⟩) 30 30,af A2 n2 c2] V fun e w'=>e=ao (ae aj (S2:Int))/\aR w.heap.size w w'):=gW fun V hV=>by
  rw[al];exact(Fg V g 286 30 30 (jg l) A2 n2 c2 G (r2 V hV) (by have:=hV.size;omega) (fun i=>by have:=hB i;omega) (by omega) ((h2.below hV gY).more hV.size) k2 aV).mono fun _ _ ⟨e,b⟩=>⟨e,hV.trans (b.mono hV.size)⟩
 have aW:k1*(1000001*256)<=286*(1000001*256):=Nat.mul_le_mul_right _ (by omega)
 have aX:k2*(1000000*256)<=30*(1000000*256):=Nat.mul_le_mul_right _ (by omega)
 rw[<-ad]at s1
 rw[<-al]at s2
 rw[<-av]at s3
 have q1:S1<=74000000000:=by omega
 have q2:S2<=8000000000:=by omega
 have q3:S3<=18000000:=by omega
 have k0:∀p:kN w.heap.size w,p.w.cell? ⟨g,316,none⟩=some (ae aj (S3:Int)):=fun p=>by rw[av];exact x3 p.w p.h
 rw[<-ad,<-al,<-av]
 clear ad al av s1 s2 s3 aW aX r1 r2 x3 hA hB hg aS h1 h2 aU aV
 go_enter func101,ntmps101
 go_wp2
 refine tL w.heap.size w ix (by kernel_rfl) (by kernel_rfl) ?_
 repeat (go_big_quiet_step (first|(with_reducible exact nH T1.out _)|(with_reducible exact nH T2.out _)))
 refine wpQuiet_nil ?_
 rintro V ⟨⟨V,hV⟩,rfl⟩
 go_wp2
 go_ret
 exact⟨by first|rfl|go_num,hV⟩
theorem lV(v n:Int):prog.built 169 [(0,ae .u32 v),(1,ae aj n)]=some #[ae .u32 v,ae aj n]:=by kernel_rfl
theorem oG(w:aq)(S:Nat->Prop)(B g:Nat)(f:Nat->Nat)(K:Nat)(P:List (Nat×Nat))(m:Nat)(hm:m=P.length)(cs:Array ax)(ad:cs.toList=P9 P)(h:iX w S B g f K)(av:m<=1000)(al:∀x∈P,qe x)(hk:K+PR P<=16000000):
  aw prog 105 #[ag (some ⟨g,0,none⟩),af (some ⟨w.heap.size,0,none⟩) m m] (w.alloc (ak cs 169)) fun e w'=>e=ao (.tuple #[])/\iX w' S B g (iE f K P) (K+PR P)/\iC S w w'/\aR B w w':=by
 have hb:=(Below.refl w.heap.size w).alloc gY (ak cs 169)
 have aS:cs.size=m*2:=by rw[<-Array.length_toList,ad,rj,hm]
 have aT:mo (w.alloc (ak cs 169)) (w.alloc (ak cs 169)).heap.size (some ⟨w.heap.size,0,none⟩) P:=by
  have:=iQ.new w 2 m cs 169 aS;rw[ad,hm]at this;exact this
 refine(LN _ _ B g f K (some ⟨w.heap.size,0,none⟩) m m P (h.grow hb) aT (fun b o _ e=>?_) hm av al hk).mono fun e w' ⟨h1,h2,h3,h4⟩=>⟨h1,h2.less fun _ k=>.inl k,(iC.below h.top hb).tr (h3.less fun _ k=>.inl k),(hb.mono h.size).trans h4⟩
 injection e with e
 injection e with e1
 refine .inr ?_
 simp only[World.size_alloc];omega
theorem xd(w:aq)(S:Nat->Prop)(B g:Nat)(f:Nat->Nat)(K:Nat)(h:iX w S B g f K)(hK:K<=16000000):
  aw prog 87 #[ag (some ⟨g,0,none⟩)] w fun e w'=>e=ao (ae aj (K:Int))/\w'=w.drew:=by
 obtain⟨_,A,c,hq⟩:=h
 obtain⟨z0,_,z2,_,_,_⟩:=hq.cells
 obtain⟨L,hL⟩:=gX (K/8)
 obtain⟨q,ad⟩:=gX (K%8)
 rw[<-hL]at z0
 rw[<-ad]at z2
 have al:K=8*L+q:=by omega
 have av:L<=2000000:=by omega
 have aS:q<8:=by omega
 clear hq hL ad hK
 subst al
 go_enter func87,ntmps87
 go_wp2
 go_region
 go_wp2
 go_ret
 exact⟨by first|rfl|go_num,rfl⟩
theorem FG(w:aq)(S:Nat->Prop)(B g:Nat)(f:Nat->Nat)(K n p:Nat)(h:iX w S B g f K)(hn:n<=65535)(hK:K<=15000000)(hp:p=(8-K%8)%8):
  aw prog 106 #[ag (some ⟨g,0,none⟩),ae aj (n:Int)] w fun e w'=>e=ao (.tuple #[])/\iX w' S B g (iE f K [(0,p),(n,16),(65535-n,16)]) (K+PR [(0,p),(n,16),(65535-n,16)])/\iC S w w'/\aR B w w':=by
 have aU:p<8:=by omega
 have al:PR [(0,p),(n,16),(65535-n,16)]=p+32:=by simp[PR]
 have ad:=oG w S B g f K [(0,p),(n,16),(65535-n,16)] 3 rfl #[ae .u32 0,ae aj (p:Int),ae .u32 (n:Int),ae aj 16,ae .u32 ((65535-n:Nat):Int),ae aj 16] rfl h (by omega) (fun x hx=>by
  simp only[List.mem_cons,List.not_mem_nil,or_false]at hx;rcases hx with rfl|rfl|rfl
  ·exact l7 (Nat.two_pow_pos _) (by omega)
  ·exact l7 (by omega) (by omega)
  ·exact l7 (by omega) (by omega)) (by rw[al];omega)
 obtain⟨_,A,c,hq⟩:=h
 obtain⟨_,_,z2,_,_,_⟩:=hq.cells
 obtain⟨q,av⟩:=gX (K%8)
 rw[<-av]at z2 hp
 have aV:q<8:=by omega
 have aW:((8:Int)-(q:Int)).tmod 8=(p:Int):=by rw[Int.tmod_eq_emod_of_nonneg (by omega)];omega
 have aX:((8:Int)-(q:Int))%8=(p:Int):=by omega
 have aT:(65535:Int)-(n:Int)=((65535-n:Nat):Int):=by omega
 obtain⟨y,hy⟩:=gX (65535-n)
 rw[<-hy]at ad aT⊢
 have aY:y<=65535:=by omega
 have aS:=gW ad
 clear ad hq av hp al hy
 go_enter func106,ntmps106
 go_wp2_with (first
  |(refine aD rfl 169 #[(0,.const (ae .u32 0)),(1,.tmp 12)] rfl (some 13) rfl #[ae .u32 0,ae aj (p:Int)] ?_ ?_;focus(simpa[Act.eval]using lV 0 (p:Int)))
  |(refine aD rfl 169 #[(0,.tmp 15),(1,.const (ae aj 16))] rfl (some 16) rfl #[ae .u32 (n:Int),ae aj 16] ?_ ?_;focus(simpa[Act.eval]using lV (n:Int) 16))
  |(refine aD rfl 169 #[(0,.tmp 19),(1,.const (ae aj 16))] rfl (some 20) rfl #[ae .u32 (y:Int),ae aj 16] ?_ ?_;focus(simpa[Act.eval]using lV (y:Int) 16))
  |fail)
 refine aS.out.mono ?_
 rintro e w1 ⟨rfl,h1,h2,h3⟩
 have H1:=gW h1;have H2:=gW h2;have H3:=gW h3
 clear h1 h2 h3
 go_wp2
 go_end0
 exact⟨rfl,H1.out,H2.out,H3.out⟩
theorem rI(a b c:ax):(prog.info? 131).map (·.size)=some #[a,b,c].size:=by kernel_rfl
theorem NK{w:aq}{b:Nat}{a0 a1 a2:ax}{t:aB}(hz:w.heap[b]?=some (ak #[a0,a1,a2] t (0,0)))(x y z:ax):(((w.setCell ⟨b,0,none⟩ x).setCell ⟨b,1,none⟩ y).setCell ⟨b,2,none⟩ z).heap[b]?=some (ak #[x,y,z] t (0,0)):=by
 have h1:=aN w b 0 _ _ x hz;have h2:=aN _ b 1 _ _ y h1;have h3:=aN _ b 2 _ _ z h2;rw[h3];simp
theorem NL{w:aq}{base sz n b:Nat}{e:aB}{v:ax}{xs:List ax}(h:w.ownsRow base e sz v n xs)(hb:b<base)(x y z:ax):(((w.setCell ⟨b,0,none⟩ x).setCell ⟨b,1,none⟩ y).setCell ⟨b,2,none⟩ z).ownsRow base e sz v n xs:=by
 have ad:∀j,v.ownBlock=some j->j≠b:=fun j hj=>by have:=(oD h j hj).1;omega
 exact mV (mV (mV h fun j hj=>Below.heap_setCell _ _ _ j (ad j hj)) fun j hj=>Below.heap_setCell _ _ _ j (ad j hj)) fun j hj=>Below.heap_setCell _ _ _ j (ad j hj)
theorem NN(w:aq)(A:Option au)(n c:Nat)(f:Nat->Nat)(k:Nat)(hr:ib w w.heap.size A n c f)(hk:k<=8388608)(hn:n=(k+7)/8):
  aw prog 82 #[ah #[af A n c,ae aj (k:Int)]] w fun e w'=>∃A' c',e=ao (ah #[af A' (k/8) c',ae .u64 ((iK n f (k/8):Nat):Int),ae aj ((k%8:Nat):Int)])/\w'.ownsRow w.heap.size 5 1 (af A' (k/8) c') (k/8) (iw (k/8) (iK n f))/\aR w.heap.size w w':=by
 obtain⟨L,hL⟩:=gX (k/8)
 obtain⟨q,hq⟩:=gX (k%8)
 obtain⟨W1,aS⟩:=gX (w.alloc (ak #[af A n c,ae aj (k:Int)] 30))
 obtain⟨h,hh⟩:=gX (w.heap.size)
 obtain⟨W2,aT⟩:=gX (W1.alloc (ak #[af none 0 0,ae .u64 0,ae aj 0] 131))
 have h1:W1.heap[h]?=some (ak #[af A n c,ae aj (k:Int)] 30 (0,0)):=by rw[aS,hh];exact aG w _
 have s1:W1.heap.size=h+1:=by rw[aS,hh];simp
 have aZ:aR W1.heap.size W1 W2:=by rw[aT];exact ix.alloc gY _
 have b1:aR h w W1:=by rw[aS,hh];exact ix.alloc gY _
 have b2:aR h w W2:=b1.trans (aZ.mono (by omega))
 have s2:W2.heap.size=h+2:=by rw[aT];simp[s1]
 have h2:W2.heap[h]?=some (ak #[af A n c,ae aj (k:Int)] 30 (0,0)):=(aZ.block h (by omega)).trans h1
 have g2:W2.heap[h+1]?=some (ak #[af none 0 0,ae .u64 0,ae aj 0] 131 (0,0)):=by rw[aT,<-s1];exact aG W1 _
 rw[<-hL,<-hq,<-hh]
 rw[<-hh]at hr
 have a5:=gW hr
 have aU:=(hr.below b2 gY).more (show h<=W2.heap.size by omega)
 have p0:W2.cell? ⟨h,0,none⟩=some (af A n c):=(aH W2 _ 0 _ _ (0,0) h2).trans rfl
 have p1:W2.cell? ⟨h,1,none⟩=some (ae aj (k:Int)):=(aH W2 _ 1 _ _ (0,0) h2).trans rfl
 have bp:L<=n:=by omega
 have bJ:=hr.2.2.1
 have a6:=fun(V:aq) (hV:aR W2.heap.size W2 V)=>En V A L c f ⟨((aU.below hV gY).more hV.size).1.part bp,aU.2.1,by omega,aU.2.2.2⟩ (by omega)
 have bK:(k:Int)/8=(L:Int):=by omega
 have bF:(k:Int).tdiv 8=(L:Int):=by rw[Int.tdiv_eq_ediv_of_nonneg (by omega)];omega
 have bL:(k:Int)%8=(q:Int):=by omega
 have bG:(k:Int).tmod 8=(q:Int):=by rw[Int.tmod_eq_emod_of_nonneg (by omega)];omega
 have bM:L<=c:=by omega
 have bH:¬(c:Int)<(L:Int):=by omega
 have aW:h<W2.heap.size:=by omega
 have hX:(W2.alloc (ak #[af none 0 0,ae .u64 0,ae aj 0] 131)).heap[h+2]?=some (ak #[af none 0 0,ae .u64 0,ae aj 0] 131 (0,0)):=by rw[<-s2];exact aG W2 _
 have bq:=gW a6;have HR:=gW aU;have br:=gW aS;have bt:=gW aT;have HH:=gW hh;have bu:=gW b2;have G2:=gW g2;have HL:=gW hL;have HQ:=gW hq;have HN:=gW hn;have bN:=gW s1
 have bd:aR W2.heap.size W2 W2.drew:=ix.drew
 clear a6 hr aU aS aT hh h1 h2 g2 aZ b1 b2 hL hq hn s1
 go_enter func82,ntmps82
 go_wp2_with (first|rw[<-br.out,<-HH.out,<-bt.out]|fail)
 go_cut [4] (fun v4 wx=>∃X A' c',v4=ag (some ⟨X,0,none⟩)/\wx.heap[X]?=some (ak #[af A' L c',ae .u64 0,ae aj (q:Int)] 131 (0,0))/\wx.ownsRow W2.heap.size 5 1 (af A' L c') L (iw L f)/\W2.heap.size<=X/\aR W2.heap.size W2 wx)
 case first=>
  go_region_law ((refine xZ rfl 63 _ _ rfl (enters_of func63 (by kernel_rfl) rfl) (#[af A L c]) (by simp[Act.put,Act.eval,List.setIfInBounds_toArray,List.set_cons_zero,List.set_cons_succ]) (bq.out _ (by first|assumption|exact bd.alloc gY _|exact((Below.refl W2.heap.size W2).alloc gY _).drew)) ?_;rintro e w6 ⟨A',c',rfl,a7,ad⟩;(first|(have bz:=(ad.cell (p:=⟨h,1,none⟩) (by first|exact aW|(simp;omega))).trans p1)|(have bz:=(ad.cell (p:=⟨h,1,none⟩) (by first|exact aW|(simp;omega))).trans (((Below.refl W2.heap.size W2).alloc gY _).cell (p:=⟨h,1,none⟩) aW|>.trans p1))|skip);(first|(have hz:=(ad.block (h+2) (by simp;omega)).trans hX;have av:=(aH w6 (h+2) 0 _ _ (0,0) hz).trans rfl;have bO:=(aH w6 (h+2) 1 _ _ (0,0) hz).trans rfl;have bP:=(aH w6 (h+2) 2 _ _ (0,0) hz).trans rfl;have bQ:=aO w6 (h+2) 0 _ _ hz;have bR:=aO w6 (h+2) 1 _ _ hz;have bS:=aO w6 (h+2) 2 _ _ hz)|skip);have bT:h<w6.heap.size:=(by have:=ad.size;simp at this;omega);refine⟨_,rfl,?_⟩))
  all_goals(
   go_wp2_with fail
   go_meet;first
    |(refine⟨w6.heap.size,A',c',rfl,?_⟩
      have k1:=a7.alloc (ak #[af A' L c',ae .u64 0,ae aj (q:Int)] 131)
      have k2:=(ad.mono (show W2.heap.size<=_ by simp)).alloc ad.size (ak #[af A' L c',ae .u64 0,ae aj (q:Int)] 131)
      refine⟨aG w6 _,rq k1 (by simp),ad.size,bd.trans k2⟩)
    |(refine⟨h+2,A',c',rfl,?_⟩
      have k1:=NL (b:=h+2) a7 (by simp;omega) (af A' L c') (ae .u64 0) (ae aj (q:Int))
      have k2:=(((ad.mono (show W2.heap.size<=_ by simp)).setCell (p:=⟨h+2,0,none⟩) (by show W2.heap.size<=h+2;omega) (af A' L c')).setCell (p:=⟨h+2,1,none⟩) (by show W2.heap.size<=h+2;omega) (ae .u64 0)).setCell (p:=⟨h+2,2,none⟩) (by show W2.heap.size<=h+2;omega) (ae aj (q:Int))
      refine⟨NK hz _ _ _,rq k1 (by simp),by omega,?_⟩
      exact(((Below.refl W2.heap.size W2).alloc gY _).drew).trans k2))
 case rest=>
  obtain⟨X,A',c',rfl,hx,ho,a8,hb⟩:=hcut;obtain⟨wx,rfl⟩:∃wx:aq,wx=wc:=⟨_,rfl⟩;have bI:h+1<wx.heap.size:=by have:=hb.size;omega
  have e0:=(aH wx X 0 _ _ (0,0) hx).trans rfl;have e2:wx.cell? ⟨X,2,none⟩=some (ae aj (q:Int)):=(aH wx X 2 _ _ (0,0) hx).trans rfl;have f1:=aO wx X 1 _ _ hx;have e1:wx.cell? ⟨X,1,none⟩=some (ae .u64 0):=(aH wx X 1 _ _ (0,0) hx).trans rfl;have bU:wx.cell? ⟨h,0,none⟩=some (af A n c):=(hb.cell (p:=⟨h,0,none⟩) aW).trans p0;have g2:=(hb.block (h+1) (by omega)).trans G2.out;have bV:=gW a8;have bW:h+2<=X:=by omega
  have aX:iK n f L=if 0<q then f L else 0:=by
   unfold iK;have h1:=HL.out;have h2:=HQ.out;have h3:=HN.out
   by_cases h0:0<q
   ·rw[if_pos h0,if_pos (by omega)]
   ·rw[if_neg h0,if_neg (by omega)]
  have aY:∀{V:aq},V.ownsRow W2.heap.size 5 1 (af A' L c') L (iw L f)->V.ownsRow h 5 1 (af A' L c') L (iw L (iK n f)):=fun{V} hV=>by
   have h1:=rq hV (show h<=W2.heap.size by omega);rwa[ta (g:=iK n f) (fun j hj=>by unfold iK;rw[if_pos (by omega)])]at h1
  have al:=gW ho;have a9:=gW aX;have bf:aQ (∀V:aq,V.ownsRow W2.heap.size 5 1 (af A' L c') L (iw L f)->V.ownsRow h 5 1 (af A' L c') L (iw L (iK n f))):=gW fun V hV=>aY hV;have a1:=gW (bu.out.trans (hb.mono (by omega)));have HX:=gW hx;have a2:=gW g2
  clear a8 ho aX aY hb hx g2 p0 p1 bd e0;by_cases bA:0<q
  ·have dq:decide (0<(q:Int))=true:=oM (by omega);have bg:L<n:=by have:=HL.out;have:=HQ.out;have:=HN.out;omega
   have bX:(L:Int)<(n:Int):=by omega
   obtain⟨b,o,rfl,bB,hc⟩:=a5.out.1.2 (by omega);have kb:=(a1.out.cell (p:=⟨b,o+L,none⟩) bB).trans (hc L bg);have av:iK n f L=f L:=by rw[a9.out,if_pos bA]
   obtain⟨y,hy⟩:=gX (f L);have bY:y<256:=by rw[hy];exact a5.out.1.1 L
   rw[<-hy]at kb av;obtain⟨U,hU⟩:=gX (wx.setCell ⟨X,1,none⟩ (ae .u64 (y:Int)));have bj:U.heap[X]?=some (ak #[af A' L c',ae .u64 (y:Int),ae aj (q:Int)] 131 (0,0)):=by rw[hU];exact(aN wx X 1 _ _ _ HX.out).trans (by simp)
   have bk:U.heap[h+1]?=some (ak #[af none 0 0,ae .u64 0,ae aj 0] 131 (0,0)):=by rw[hU];exact(Below.heap_setCell wx _ _ (h+1) (by show h+1≠X;omega)).trans a2.out
   have bl:U.ownsRow h 5 1 (af A' L c') L (iw L (iK n f)):=by rw[hU];exact bf.out _ (mV al.out fun j hj=>Below.heap_setCell wx _ _ j (oU al.out HX.out (by kernel_rfl)<|hj.trans<|congrArg some ·))
   have bm:aR h w U:=by rw[hU];exact a1.out.setCell (by show h<=X;omega) _
   have aV:∀j,(Value.slice A' L c').ownBlock=some j->j≠h+1:=fun j hj=>by have:=(oD al.out j hj).1;omega
   have bC:=gW bj;have bn:=gW bk;have bD:=gW bl;have bE:=gW bm;have HU:=gW hU;have a3:=gW av;have a4:=gW aV
   clear bj bk bl bm hU av hy hc aV;go_wp2_with (first
    |(refine aE rfl _ _ rfl X rfl _ #[af A' L c',ae .u64 (y:Int),ae aj (q:Int)] (0,0) _ (by rw[<-HU.out];exact bC.out) underlying131 rfl (rI _ _ _) ?_;rw[<-HU.out])
    |(refine aC rfl _ _ _ rfl rfl (h+1) #[af A' L c',ae .u64 (y:Int),ae aj (q:Int)] rfl rfl 131 #[af none 0 0,ae .u64 0,ae aj 0] bn.out (rI _ _ _) rfl (by simp[Value.oneCell']) ?_)
    |fail)
   rw[a3.out];refine aK (v:=ah #[af A' L c',ae .u64 (y:Int),ae aj (q:Int)]) ?_ rfl ⟨A',c',rfl,mV bD.out fun j hj=>setRow_other _ _ _ _ (a4.out j hj),qf bE.out (by omega) _⟩;exact results_cell_row rfl _ _ (h+1) _ _ (0,0) _ rfl (aI _ _ _ _ _ _ bn.out) underlying131 rfl (rI _ _ _)
  ·obtain rfl:q=0:=by omega
   have dq:decide (0<((0:Nat):Int))=false:=ni (by omega);have av:iK n f L=0:=by rw[a9.out,if_neg (by omega)]
   have aV:∀j,(Value.slice A' L c').ownBlock=some j->j≠h+1:=fun j hj=>by have:=(oD al.out j hj).1;omega
   have a3:=gW av;have a4:=gW aV
   clear av aV;go_wp2_with (first
    |(refine aE rfl _ _ rfl X rfl _ #[af A' L c',ae .u64 0,ae aj ((0:Nat):Int)] (0,0) _ HX.out underlying131 rfl (rI _ _ _) ?_)
    |(refine aC rfl _ _ _ rfl rfl (h+1) #[af A' L c',ae .u64 0,ae aj ((0:Nat):Int)] rfl rfl 131 #[af none 0 0,ae .u64 0,ae aj 0] a2.out (rI _ _ _) rfl (by simp[Value.oneCell']) ?_)
    |fail)
   rw[a3.out];refine aK (v:=ah #[af A' L c',ae .u64 0,ae aj ((0:Nat):Int)]) ?_ rfl ⟨A',c',rfl,mV (bf.out _ al.out) fun j hj=>setRow_other _ _ _ _ (a4.out j hj),qf a1.out (by omega) _⟩;exact results_cell_row rfl _ _ (h+1) _ _ (0,0) _ rfl (aI _ _ _ _ _ _ a2.out) underlying131 rfl (rI _ _ _)
end Go.Proofs.YtokpcpjnihinfaaGreat
