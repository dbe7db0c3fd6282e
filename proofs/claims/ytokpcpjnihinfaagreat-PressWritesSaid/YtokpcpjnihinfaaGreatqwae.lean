/-
  Words and walks.
-/
import Derived.Sort.QuietIn
import Derived.Test.YtokpcpjnihinfaaGreatqwaa
import Derived.Test.YtokpcpjnihinfaaGreatqwac
import Derived.Test.YtokpcpjnihinfaaGreatqwad
set_option maxRecDepth 100000
set_option maxHeartbeats 16000000
namespace Go.Proofs.YtokpcpjnihinfaaGreat
open Value renaming int → ae, slice → af, pointer → ag, agg → ah, bool → ai
open IntKind renaming i64 → aj
open Obj renaming cells → ak
open Ending renaming returned → ao
open Go renaming World → aq, Addr → au, Calls → aw, Value → ax, TypeId → aB, wpList_store_rowTo → aC, cell_of_row → aH, bodyPost_ret → aK
open Go.RowKit renaming intOf → aP, Hid → aQ, Below → aR
open _root_.Go.Proofs.Tryz
open Go.RowKit Go.Shelf
attribute [local go_sem] Oper.semAt_some
theorem vS(f:FuncId):Fence.wide.fn f=True:=rfl
attribute [local simp] vS
theorem yD{w:aq}{B n c lo hi:Nat}{ad:au}{A2:Option au}{f:Nat->Nat}(h:iy w B (some ad) n f)(av:lo<=hi)(aS:hi<=n)(hc:n<=c)(hA:(if c=lo then(some ad:Option au)else some (ad.add lo))=A2):iy w B A2 (hi-lo) (fun k=>f (k+lo)):=by
 refine⟨fun j=>h.1 _,fun hn=>?_⟩;obtain⟨b,o,e,hb,al⟩:=h.2 (by omega);cases e
 rw[if_neg (by omega)]at hA;have e:(⟨b,o,none⟩:au).add lo=⟨b,o+lo,none⟩:=by unfold Addr.add;split<;>simp_all
 rw[e]at hA;refine⟨b,o+lo,hA.symm,hb,fun j hj=>?_⟩;have:=al (j+lo) (by omega);rw[show o+lo+j=o+(j+lo) by omega];exact this
theorem DL{f:Nat->Nat}{L a q:Nat}(h:a+3<=L):3<=jO f L a q↔∀i,i<3->f (q+i)=f (a+i):=by
 obtain⟨h1,h2,h3⟩:=sX f L a q;constructor
 ·intro h i hi;exact(h2 i (by omega)).2
 ·intro hh;rcases Nat.lt_or_ge (jO f L a q) 3 with g|g
  ·rcases h3 with h3|h3
   ·omega
   ·exact absurd ⟨by omega,hh _ g⟩ h3
  ·exact g
theorem Ka{f:Nat->Nat}{L a q:Nat}(h:a<=L)(h3:L-a<3):¬3<=jO f L a q:=by
 have:=BA (f:=f) (p:=q) h;omega
theorem DM{f:Nat->Nat}{L a q:Nat}(h:f q≠f a):¬3<=jO f L a q:=by
 intro h3;obtain⟨h1,h2,_⟩:=sX f L a q;exact h (h2 0 (by omega)).2
def oR(f:Nat->Nat)(n a j:Nat):Prop:=3<=jO f n a (a-1-j)
def ug(a j:Nat):Array ax:=#[ae aj ((a-1-j:Nat):Int)]
theorem vT{J:Nat->aq->Prop}{ok:Nat->Prop}{L:Nat}(h:∀j W1,J j W1->j<L->¬ok j->J (j+1) W1){j:Nat}{W:aq}(hJ:J j W):∀d,j+d<=L->(∀i,j<=i->i<j+d->¬ok i)->J (j+d) W
 |0,_,_=>hJ
 |d+1,h1,h2=>h (j+d) W (vT h hJ d (by omega) fun i hi ad=>h2 i hi (by omega)) (by omega) (h2 (j+d) (by omega) (by omega))
theorem Kb(fu:Nat)(hn:1<=fu)(l Bb Ba Bs B:Nat)(A:Option au)(n c a z:Nat)(f:Nat->Nat)(S:Nat->Prop)(hS:S Bb/\S Ba/\S Bs)(bA:∀k,k<B->S k)(hlen:n<=1000000)(_:c<=maxLen)(ha:a<=n)(bf:n<=c)(hz:z<=1000000)
  (J Jx:Nat->aq->Prop)
  (bB:∀j W1,J j W1->j<min z a->¬oR f n a j->J (j+1) W1)
  (hY:∀j W1,J j W1->j<min z a->oR f n a j->YieldAt Fence.wide (fu-1) prog l (ug a j) W1 fun e W'=>(e=ao (ai true)/\J (j+1) W'/\iC S W1 W')\/(e=ao (ai false)/\Jx j W'))
  (hd:∀W1 W2 j,J j W1->(∃t,W2=W1.drewN t)->J j W2)
  (W:aq) (bQ:W.cell? ⟨Bb,0,none⟩=some (af A n c)) (bC:W.cell? ⟨Ba,0,none⟩=some (ae aj (a:Int))) (b5:W.cell? ⟨Bs,0,none⟩=some (ae aj (z:Int))) (hr:iy W B A n f) (h0:J 0 W):
  CallsIn Fence.wide fu prog 183 #[.func (.yield l) #[] #[],ag (some ⟨Bb,0,none⟩),ag (some ⟨Ba,0,none⟩),ag (some ⟨Bs,0,none⟩)] W fun e W'=>(∃v,e=ao v)/\(J (min z a) W'\/∃j,j<min z a/\Jx j W'):=by
 obtain⟨M,hM⟩:=gX (min (n-a) 258)
 have bg:=vQ W A n c a ha hlen
 rw[<-hM]at bg
 have bj:=gW bg
 refine callsIn_of_wp func183 rfl trivial ?_ rfl
 simp only[ntmps183,List.size_toArray,List.length_cons,List.length_nil,Nat.reduceAdd,Nat.reduceSub,Array.replicate_succ,Array.replicate_zero,List.push_toArray,List.append_toArray,List.nil_append,List.cons_append]
 have HR:=gW hr;have HS:=gW bA;have HM:=gW hM;have HY:=gW hY;have a1:=gW bB;have HD:=gW hd
 clear hr bA hM bg hY bB hd
 by_cases b6:M<3
 ·have bd:∀i,¬oR f n a i:=fun i=>Ka ha (by have:=HM.out;omega)
  have aU:=vT a1.out h0 (min z a) (by omega) (fun i _ _=>bd i);rw[Nat.zero_add]at aU;have bk:=gW aU;have bR:(M:Int)<3:=by omega
  clear bd aU;gi_wp2_with (gi_at_call 177;refine(callsIn_wide.2 bj.out).mono ?_;rintro e w' ⟨rfl,rfl⟩)
  refine aK (results_none rfl _ _ _) rfl ?_;exact⟨⟨_,rfl⟩,.inl bk.out⟩
 ·have bR:¬(M:Int)<3:=by omega
  have bl:a+3<=n:=by have:=HM.out;omega
  obtain⟨ad,rfl⟩:∃ad,A=some ad:=by
   obtain⟨b,o,h,_⟩:=HR.out.2 (by omega);exact⟨_,h⟩
  obtain⟨A1,hA1⟩:∃A1,(if c=a then(some ad:Option au)else some (ad.add a))=A1:=⟨_,rfl⟩;have aW:=yD (hi:=a+3) HR.out (by omega) bl bf hA1;obtain⟨b1,o1,rfl,bS,bT⟩:=aW.2 (by omega);obtain⟨low,bU⟩:=gX (a-z);obtain⟨L,hL⟩:=gX (min z a);have eL:L=a-low:=by omega
  have b7:low<=a:=by omega
  have bD:(if(a:Int)-(z:Int)<0 then 0 else(a:Int)-(z:Int))=(low:Int):=by split<;>omega
  have e3:a+3-a=3:=by omega
  rw[e3]at aW;rw[<-hL]at HY a1⊢;have bE:=gW aW;have b8:=gW hA1
  clear aW bT bS hL bU;gi_wp2_with (gi_at_call 177;refine(callsIn_wide.2 bj.out).mono ?_;rintro e w' ⟨rfl,rfl⟩)
  gi_region
  simp only[e3];have aS:=HD.out _ _ _ h0 ⟨1,rfl⟩;change J 0 W.drew at aS;have aT:iC S W W.drew:=iC.refl S W;obtain⟨V,hV⟩:=gX (W.drew);rw[<-hV]at aS aT⊢;have bV:=(aT.cell (p:=⟨Ba,0,none⟩) hS.2.1).trans bC;have bW:=gW aS;have bX:=gW aT
  clear hV aS aT h0 bD e3 bj hA1;gi_wp2
  gi_loopw [7] (fun kv wr=>∃j:Nat,j<=L/\kv=ae aj ((a-j:Nat):Int)/\aQ (J j wr)/\aQ (iC S W wr)) (fun kv _=>(aP kv).toNat)
  case atStart=>exact⟨0,Nat.zero_le _,rfl,bW,bX⟩
  case round=>
   obtain⟨j,hj,rfl,HJ,HK⟩:=hrel;obtain⟨g,hg⟩:=gX (a-j);rw[<-hg];have bY:low<=g:=by omega
   have b9:g<=a:=by omega
   have c1:=(HK.out.cell (p:=⟨Bb,0,none⟩) hS.1).trans bQ;have c2:=(HK.out.cell (p:=⟨Ba,0,none⟩) hS.2.1).trans bC;have bm:=gW (HR.out.kept HK.out HS.out);have bn:=gW (bE.out.kept HK.out HS.out);obtain⟨b2,o2,a2,_,bF⟩:=bn.out.2 (by omega);injection a2 with a2
   injection a2 with a2 bZ _
   subst a2;subst bZ;have c3:wr.cell? ⟨b1,o1,none⟩=some (ae .u8 (f a:Int)):=by have h:=bF 0 (by omega);simpa using h
   have a3:=yD (hi:=g) bm.out bY (by omega) bf (if_neg (by omega));obtain⟨R,hR⟩:=gX (Qn (fun k=>f (k+low)) (f a) (g-low));have bp:=fun(t cc:Nat)=>J3 (wr.drewN t) B (some (ad.add low)) (g-low) cc (fun k=>f (k+low)) (f a) a3 (by omega)
   rw[<-hR]at bp;have bq:=DH (fun k=>f (k+low)) (f a) (g-low);rw[<-hR]at bq;have bG:=gW bp;have b0:=gW bq;have HG:=gW hg;have br:=gW eL
   have ca:(low:Int)<=(g:Int):=by omega
   have cb:(g:Int)<=(c:Int):=by omega
   clear bp bq a3 bF hR hg eL;clear bV;gi_wp2
   gi_quiet ((gi_at_call 184;exact CallsIn.quiet_of_same (callsIn_wide.2 (bG.out _ _))))
   have aS:=HD.out _ _ _ HJ.out ⟨nq,rfl⟩;have aT:iC S W (wr.drewN nq):=HK.out;have a4:iy (wr.drewN nq) B (some ad) n f:=bm.out;have a5:iy (wr.drewN nq) B (some ⟨b1,o1,none⟩) 3 (fun k=>f (k+a)):=bn.out;have v1:(wr.drewN nq).cell? ⟨Bb,0,none⟩=some (af (some ad) n c):=c1;obtain⟨V,hV⟩:=gX (wr.drewN nq);rw[<-hV]at aS aT a4 a5 v1⊢;have bH:=gW aS;have bI:=gW aT
   clear aS aT hV HJ HK bm bn bG c1 c2 c3;rcases b0.out with⟨rfl,bJ⟩|⟨m,rfl,hm,bK,aV⟩
   ·have a6:∀i,j<=i->i<L->¬oR f n a i:=fun i h1 h2=>by
     have bL:=HG.out;have bM:=br.out
     have h:=bJ (a-1-i-low) (by omega);refine DM ?_;rw[show a-1-i=a-1-i-low+low by omega];exact h
    have aU:=vT a1.out bH.out (L-j) (by omega) (fun i h1 h2=>a6 i h1 (by omega));rw[show j+(L-j)=L by omega]at aU;have bk:=gW aU;clear bJ a6 aU a4 a5 v1;gi_wp2
    refine aK (results_none rfl _ _ _) rfl ?_;exact⟨⟨_,rfl⟩,.inl bk.out⟩
   ·obtain⟨p,hp⟩:=gX (low+m);have ep:(low:Int)+(m:Int)=(p:Int):=by omega
    have cf:p<g:=by omega
    have cg:p<n:=by omega
    obtain⟨js,bN⟩:=gX (a-1-p);have av:j<=js/\js<L/\a-1-js=p/\a-(js+1)=p:=by
     have bL:=HG.out;have bM:=br.out;omega
    have a7:=vT a1.out bH.out (js-j) (by omega) (fun i h1 h2=>by
     have bL:=HG.out;have bM:=br.out
     refine DM ?_;have h:=aV (a-1-i-low) (by omega) (by omega);rw[show a-1-i=a-1-i-low+low by omega];exact h)
    rw[show j+(js-j)=js by omega]at a7;have bt:=yD (hi:=n) a4 (show p<=n by omega) gY bf (if_neg (by omega));have aY:=J6 V B (some (ad.add p)) (some ⟨b1,o1,none⟩) (n-p) (c-p) 3 (c-a) (fun k=>f (k+p)) (fun k=>f (k+a)) bt a5 (by omega) (by omega);have aX:∀k,f k<256:=HR.out.1;have ch:¬(m:Int)<0:=by omega
    have cj:(p:Int)<=(n:Int):=by omega
    by_cases al:∀i,i<3->f (i+p)=f (i+a)
    ·have a8:oR f n a js:=by
      unfold oR;rw[av.2.2.1,DL bl];intro i hi;rw[Nat.add_comm p i,Nat.add_comm a i];exact al i hi
     rw[J4 al]at aY;obtain⟨fn,tmps,assign,body,hy,hR⟩:=HY.out _ _ a7 av.2.1 a8;have bO:ug a js=#[ae aj (p:Int)]:=by unfold ug;rw[av.2.2.1]
     rw[bO]at hy;have bu:=gW aY;have b3:=gW hR
     have aZ:=gW av;clear aY hR bt a5 a4 a8 aV bK bO a7 al aX hp bN av;gi_wp2_with (gi_at_call 185;refine(callsIn_wide.2 bu.out).mono ?_;rintro e w' ⟨rfl,rfl⟩)
     refine b3.out.mono ?_;rintro e W3 (⟨rfl,a9,bP⟩|⟨rfl,hX⟩)
     ·have bz:=gW a9;have b4:=gW (bI.out.tr bP)
      clear a9 bP;gi_wp2
      go_roundw
      case rel=>exact⟨js+1,aZ.out.2.1,by rw[aZ.out.2.2.2],bz,b4⟩
      case measure=>simp[aP];omega
     ·have HX:=gW hX;clear hX;gi_wp2
      refine aK (results_none rfl _ _ _) rfl ?_;exact⟨⟨_,rfl⟩,.inr ⟨js,aZ.out.2.1,HX.out⟩⟩
    ·have a8:¬oR f n a js:=by
      unfold oR;rw[av.2.2.1,DL bl];intro h;refine al fun i hi=>?_
      have:=h i hi;rw[Nat.add_comm p i,Nat.add_comm a i]at this;exact this
     rw[J5 (fun k=>aX _) (fun k=>aX _) al]at aY;have a9:=a1.out _ _ a7 av.2.1 a8;have bu:=gW aY;have aZ:=gW av;have bz:=gW a9
     clear aY bt a5 a4 a8 aV bK a7 al aX hp bN av a9;gi_wp2_with (gi_at_call 185;refine(callsIn_wide.2 bu.out).mono ?_;rintro e w' ⟨rfl,rfl⟩)
     all_goals(try refine⟨(fun f h=>by cases h),?_⟩)
     all_goals(try gi_wp2)
     go_roundw
     case rel=>exact⟨js+1,aZ.out.2.1,by rw[aZ.out.2.2.2],bz,bI⟩
     case measure=>simp[aP];omega
theorem Kc(fu:Nat)(hn:1<=fu)(Bb Ba Bs B:Nat)(A:Option au)(n c a z:Nat)(f:Nat->Nat)(S:Nat->Prop)(hS:S Bb/\S Ba/\S Bs)(al:∀k,k<B->S k)(hlen:n<=1000000)(av:c<=maxLen)(ha:a<=n)(aS:n<=c)(hz:z<=1000000)
  (w:aq) (aT:w.cell? ⟨Bb,0,none⟩=some (af A n c)) (aU:w.cell? ⟨Ba,0,none⟩=some (ae aj (a:Int))) (aV:w.cell? ⟨Bs,0,none⟩=some (ae aj (z:Int))) (ad:Bb<w.heap.size/\Ba<w.heap.size/\Bs<w.heap.size) (hB:B<=w.heap.size) (hr:iy w B A n f):
  DK Fence.wide fu prog 183 #[ag (some ⟨Bb,0,none⟩),ag (some ⟨Ba,0,none⟩),ag (some ⟨Bs,0,none⟩)] (ug a) (oR f n a) (iC S) (min z a) w:=fun l J Jx W hW aW hY hd _ h0=>
 Kb fu hn l Bb Ba Bs B A n c a z f S hS al hlen av ha aS hz J Jx aW hY hd W ((hW.cell ad.1).trans aT) ((hW.cell ad.2.1).trans aU) ((hW.cell ad.2.2).trans aV) (hr.below hW hB) h0
theorem Kd(n:Nat)(A:Option au)(len cap:Nat)(a z:Nat)(w:aq):
  CallsIn Fence.wide n prog 175 #[af A len cap,ae aj (a:Int),ae aj (z:Int)] w fun e w'=>e=ao (.func (.func 183) #[] #[ag (some ⟨w.heap.size,0,none⟩),ag (some ⟨w.heap.size+1,0,none⟩),ag (some ⟨w.heap.size+2,0,none⟩)])/\
   w'=((w.alloc (ak #[af A len cap] 22)).alloc (ak #[ae aj (a:Int)] 3)).alloc (ak #[ae aj (z:Int)] 3):=by
 refine callsIn_of_wp func175 rfl trivial ?_ rfl
 simp only[ntmps175,List.size_toArray,List.length_cons,List.length_nil,Nat.reduceAdd,Nat.reduceSub,Array.replicate_succ,Array.replicate_zero,List.push_toArray,List.append_toArray,List.nil_append,List.cons_append]
 gi_wp2
 go_ret
 exact⟨rfl,rfl⟩
attribute [local go_sem] Oper.semAt_some
attribute [local simp] vS
theorem yE{f:Nat->Nat}{L a s:Nat}:∀p d n,PS f L a s p 0 d n=(d,n)
 |0,_,_=>rfl
 |p+1,d,n=>by simp only[PS];rw[if_neg (by omega)]
theorem vU{f:Nat->Nat}{L a s:Nat}{n:Nat}(h:∀q,jO f L a q<=n):∀p c d,PS f L a s p c d n=(d,n)
 |0,_,_=>rfl
 |p+1,c,d=>by
  have:=h p;simp only[PS];split
  ·split
   ·exact vU h p c d
   ·rw[if_neg (by omega)];exact vU h p (c-1) d
  ·rfl
theorem Ke{f:Nat->Nat}{L a s:Nat}(c d n:Nat):PS f L a s (a-min s a) c d n=(d,n):=by
 rcases Nat.eq_zero_or_pos (a-min s a)with h|h
 ·rw[h];rfl
 ·obtain⟨k,hk⟩:∃k,a-min s a=k+1:=⟨a-min s a-1,by omega⟩;rw[hk];simp only[PS];rw[if_neg (by omega)]
theorem Kf{f:Nat->Nat}{L a s j:Nat}(hj:j<min s a){c:Nat}(hc:0<c)(d n:Nat)(ad:¬oR f L a j):PS f L a s (a-j) c d n=PS f L a s (a-(j+1)) c d n:=by
 unfold oR at ad;rw[show a-j=(a-1-j)+1 by omega,show a-(j+1)=a-1-j by omega];conv=>lhs;unfold PS
 rw[if_pos ⟨by omega,hc⟩,if_pos (by omega)]
theorem Kg{f:Nat->Nat}{L a s j:Nat}(hj:j<min s a){c:Nat}(hc:0<c)(d n:Nat)(ad:oR f L a j):
  PS f L a s (a-j) c d n=if n<jO f L a (a-1-j)then PS f L a s (a-(j+1)) (c-1) (j+1) (jO f L a (a-1-j))else PS f L a s (a-(j+1)) (c-1) d n:=by
 unfold oR at ad
 rw[show a-j=(a-1-j)+1 by omega,show a-(j+1)=a-1-j by omega]
 conv=>lhs;unfold PS
 rw[if_pos ⟨by omega,hc⟩,if_neg (by omega),show a-(a-1-j)=j+1 by omega]
theorem yF{f:Nat->Nat}{L a:Nat}(ha:a<=L)(q:Nat):jO f L a q<=min (L-a) 258:=by
 have h1:=(sX f L a q).1;have h2:=BA (f:=f) (p:=q) ha;omega
def uh(h k:Nat):Prop:=k<h+2\/(h+5<=k/\k<h+8)
def ui(w u:aq)(h:Nat)(f:Nat->Nat)(L a z:Nat)(T:Nat×Nat)(j:Nat)(W:aq):Prop:=
 aR h w W/\iC (uh h) u W/\h+8<=W.heap.size/\∃c d n:Nat,Boxed W (h+2) 3 (ae aj (c:Int))/\Boxed W (h+3) 3 (ae aj (d:Int))/\Boxed W (h+4) 3 (ae aj (n:Int))/\0<c/\c<=256/\n<=258/\d<=a/\PS f L a z (a-j) c d n=T
def vV(w:aq)(h _:Nat)(T:Nat×Nat)(_:Nat)(W:aq):Prop:=
 aR h w W/\∃d n:Nat,Boxed W (h+3) 3 (ae aj (d:Int))/\Boxed W (h+4) 3 (ae aj (n:Int))/\(d,n)=T
theorem uj{W W':aq}{row:Option Nat}{B:Nat}{t:aB}{v:ax}(h:Boxed W B t v)(hg:W.grownBy W' row)(hr:∀r,row=some r->∃o:Obj,W.heap[r]?=some o/\o.isCells=false):Boxed W' B t v:=
 h.kept hg (fun e=>by obtain⟨o,h1,h2⟩:=hr B e.symm;rw[h]at h1;cases h1;cases h2)
theorem ui.own(w u:aq)(f:Nat->Nat)(L a z:Nat)(T:Nat×Nat)(B:Nat)(hB:w.heap.size+8<=B):OwnFrom B (ui w u w.heap.size f L a z T):=by
 rintro j W W' row ⟨h1,h2,hs,c,d,n,h3,h4,h5,h6⟩ hg hr;refine⟨h1.grown hg h1.size (fun r e=>by have:=(hr r e).1;omega),fun k hk=>?_,Nat.le_trans hs hg.size,c,d,n,uj h3 hg fun r e=>(hr r e).2,uj h4 hg fun r e=>(hr r e).2,uj h5 hg fun r e=>(hr r e).2,h6⟩;refine(hg.block k (by rcases hk with hk|hk<;>omega) (fun e=>?_)).trans (h2 k hk);have:=(hr k e.symm).1;rcases hk with hk|hk<;>omega
theorem vV.own(w:aq)(a:Nat)(T:Nat×Nat)(B:Nat)(hB:w.heap.size<=B):OwnFrom B (vV w w.heap.size a T):=by
 rintro j W W' row ⟨h1,d,n,h4,h5,h6⟩ hg hr;exact⟨h1.grown hg h1.size (fun r e=>by have:=(hr r e).1;omega),d,n,uj h4 hg fun r e=>(hr r e).2,uj h5 hg fun r e=>(hr r e).2,h6⟩
def oS(w W:aq)(h c d n:Nat)(X:aq):Prop:=
 aR h w X/\iC (uh h) W X/\KeepsOthers W X/\h+8<=X.heap.size/\Boxed X (h+2) 3 (ae aj (c:Int))/\Boxed X (h+3) 3 (ae aj (d:Int))/\Boxed X (h+4) 3 (ae aj (n:Int))
theorem p8{X:aq}{B C:Nat}{t:aB}{u v:ax}(h:Boxed X B t u)(ad:B≠C):Boxed (X.setCell ⟨C,0,none⟩ v) B t u:=(Below.heap_setCell X _ _ B ad).trans h
theorem yG{h C:Nat}{W X:aq}{v:ax}(hk:iC (uh h) W X)(hC:h+2<=C/\C<h+5):iC (uh h) W (X.setCell ⟨C,0,none⟩ v):=fun k hS=>
 (Below.heap_setCell X _ _ k (by show k≠C;rcases hS with hS|hS<;>omega)).trans (hk k hS)
theorem QC(X:aq)(p:au)(v:ax):(X.setCell p v).heap.size=X.heap.size:=by simp[World.setCell]
theorem oS.DN{w W X:aq}{h c d n:Nat}(H:oS w W h c d n X)(v:Nat):oS w W h v d n (X.setCell ⟨h+2,0,none⟩ (ae aj (v:Int))):=by
 obtain⟨h1,h2,h3,h4,h5,h6,h7⟩:=H;exact⟨h1.setCell (p:=⟨h+2,0,none⟩) (by show h<=h+2;omega) _,yG h2 (by omega),h3.trans (KeepsOthers.setCell _ _ _),by rw[QC];exact h4,h5.set _,p8 h6 (by omega),p8 h7 (by omega)⟩
theorem oS.Kh{w W X:aq}{h c d n:Nat}(H:oS w W h c d n X)(v:Nat):oS w W h c v n (X.setCell ⟨h+3,0,none⟩ (ae aj (v:Int))):=by
 obtain⟨h1,h2,h3,h4,h5,h6,h7⟩:=H;exact⟨h1.setCell (p:=⟨h+3,0,none⟩) (by show h<=h+3;omega) _,yG h2 (by omega),h3.trans (KeepsOthers.setCell _ _ _),by rw[QC];exact h4,p8 h5 (by omega),h6.set _,p8 h7 (by omega)⟩
theorem oS.Ki{w W X:aq}{h c d n:Nat}(H:oS w W h c d n X)(v:Nat):oS w W h c d v (X.setCell ⟨h+4,0,none⟩ (ae aj (v:Int))):=by
 obtain⟨h1,h2,h3,h4,h5,h6,h7⟩:=H;exact⟨h1.setCell (p:=⟨h+4,0,none⟩) (by show h<=h+4;omega) _,yG h2 (by omega),h3.trans (KeepsOthers.setCell _ _ _),by rw[QC];exact h4,p8 h5 (by omega),p8 h6 (by omega),h7.set _⟩
theorem oS.kX{w W X Y:aq}{h c d n:Nat}(H:oS w W h c d n X)(hd:jI X Y):oS w W h c d n Y:=by
 obtain⟨t,rfl⟩:=hd;obtain⟨h1,h2,h3,h4,h5⟩:=H;exact⟨⟨h1.os,h1.tape,h1.output,h1.size,h1.block⟩,h2,h3.trans ⟨Nat.le_refl _,fun _ _ h _=>h⟩,h4,h5⟩
theorem Kj(w:aq)(A:Option au)(n c a z ch:Nat)(f:Nat->Nat)(hr:ib w w.heap.size A n c f)(ha:a<=n)(hn:n<=1000000)(cb:1<=z)(hz:z<=32768)(b5:ch<=256):
  aw prog 166 #[af A n c,ae aj (a:Int),ae aj (z:Int),ae aj (ch:Int)] w fun e w'=>e=ao (.tuple #[ae aj ((PS f n a z a ch 0 0).1:Nat),ae aj ((PS f n a z a ch 0 0).2:Nat)])/\aR w.heap.size w w':=by
 obtain⟨T,hT⟩:=gX (PS f n a z a ch 0 0)
 rw[<-hT]
 refine(callsIn_wide (n:=5)).1 ?_
 obtain⟨h1,h2,h3,h4⟩:=hr
 obtain⟨v,hv⟩:=gX (((((w.alloc (ak #[af A n c] 22)).alloc (ak #[ae aj (a:Int)] 3)).alloc (ak #[ae aj (ch:Int)] 3)).alloc (ak #[ae aj 0] 3)).alloc (ak #[ae aj 0] 3))
 refine callsIn_of_wp_marks func166 rfl trivial ?_ rfl
 simp only[ntmps166,List.size_toArray,List.length_cons,List.length_nil,Nat.reduceAdd,Nat.reduceSub,Array.replicate_succ,Array.replicate_zero,List.push_toArray,List.append_toArray,List.nil_append,List.cons_append]
 rcases Nat.eq_zero_or_pos ch with h0|h0
 ·subst h0;rw[yE]at hT;subst hT;have bu:aR w.heap.size w v:=by
   rw[hv];exact(((((Below.refl w.heap.size w).alloc gY _).alloc (by simp) _).alloc (by simp;omega) _).alloc (by simp;omega) _).alloc (by simp;omega) _
  rw[show((0:Nat):Int)=0 from rfl]at hv;have e1:v.cell? ⟨w.heap.size+1+1+1,0,none⟩=some (ae aj 0):=by
   have:=((Boxed.new (((w.alloc (ak #[af A n c] 22)).alloc (ak #[ae aj (a:Int)] 3)).alloc (ak #[ae aj 0] 3)) 3 (ae aj 0)).alloc (ak #[ae aj 0] 3)).cell;rw[World.size_alloc,World.size_alloc,World.size_alloc]at this;rw[hv];exact this
  have e2:v.cell? ⟨w.heap.size+1+1+1+1,0,none⟩=some (ae aj 0):=by
   have:=(Boxed.new ((((w.alloc (ak #[af A n c] 22)).alloc (ak #[ae aj (a:Int)] 3)).alloc (ak #[ae aj 0] 3)).alloc (ak #[ae aj 0] 3)) 3 (ae aj 0)).cell;rw[World.size_alloc,World.size_alloc,World.size_alloc,World.size_alloc]at this;rw[hv];exact this
  have HV:=gW hv;have HZ:=gW bu;have E1:=gW e1;have E2:=gW e2
  clear hv bu e1 e2;gi_wp2
  rw[<-HV.out];refine⟨_,(by simp[results,Tryz.results166,go_sem,E1.out,E2.out]),rfl,HZ.out⟩
 ·have bz:((ch:Int)==0)=false:=by simp;omega
  obtain⟨h,hh⟩:=gX (w.heap.size);obtain⟨u,hu⟩:=gX (((v.alloc (ak #[af A n c] 22)).alloc (ak #[ae aj (a:Int)] 3)).alloc (ak #[ae aj (z:Int)] 3));have a3:v.heap.size=h+5:=by rw[hv,hh];simp
  have cf:u.heap.size=h+8:=by rw[hu];simp[a3]
  have bA:aR h w v:=by
   rw[hv,hh];exact(((((Below.refl w.heap.size w).alloc gY _).alloc (by simp) _).alloc (by simp;omega) _).alloc (by simp;omega) _).alloc (by simp;omega) _
  have aW:aR (h+5) v u:=by
   rw[hu];exact(((Below.refl (h+5) v).alloc (by omega) _).alloc (by simp;omega) _).alloc (by simp;omega) _
  have a5:aR h w u:=bA.trans (aW.mono (by omega));have bB:Boxed u h 22 (af A n c):=by
   refine(aW.block h (by omega)).trans ?_;rw[hv,hh];exact((((Boxed.new w _ _).alloc _).alloc _).alloc _).alloc _
  have bC:Boxed u (h+1) 3 (ae aj (a:Int)):=by
   refine(aW.block (h+1) (by omega)).trans ?_;have:=((((Boxed.new (w.alloc (ak #[af A n c] 22)) 3 (ae aj (a:Int))).alloc (ak #[ae aj (ch:Int)] 3)).alloc (ak #[ae aj 0] 3)).alloc (ak #[ae aj 0] 3));rw[World.size_alloc]at this;rw[hv,hh];exact this
  have bE:Boxed u (h+2) 3 (ae aj (ch:Int)):=by
   refine(aW.block (h+2) (by omega)).trans ?_;have:=(((Boxed.new ((w.alloc (ak #[af A n c] 22)).alloc (ak #[ae aj (a:Int)] 3)) 3 (ae aj (ch:Int))).alloc (ak #[ae aj 0] 3)).alloc (ak #[ae aj 0] 3));rw[World.size_alloc,World.size_alloc]at this;rw[hv,hh];exact this
  have bF:Boxed u (h+3) 3 (ae aj ((0:Nat):Int)):=by
   refine(aW.block (h+3) (by omega)).trans ?_;have:=((Boxed.new (((w.alloc (ak #[af A n c] 22)).alloc (ak #[ae aj (a:Int)] 3)).alloc (ak #[ae aj (ch:Int)] 3)) 3 (ae aj 0)).alloc (ak #[ae aj 0] 3));rw[World.size_alloc,World.size_alloc,World.size_alloc]at this;rw[hv,hh];exact this
  have bG:Boxed u (h+4) 3 (ae aj ((0:Nat):Int)):=by
   refine(aW.block (h+4) (by omega)).trans ?_;have:=Boxed.new ((((w.alloc (ak #[af A n c] 22)).alloc (ak #[ae aj (a:Int)] 3)).alloc (ak #[ae aj (ch:Int)] 3)).alloc (ak #[ae aj 0] 3)) 3 (ae aj 0);rw[World.size_alloc,World.size_alloc,World.size_alloc,World.size_alloc]at this;rw[hv,hh];exact this
  have bH:Boxed u (h+5) 22 (af A n c):=by
   have:=((Boxed.new v 22 (af A n c)).alloc (ak #[ae aj (a:Int)] 3)).alloc (ak #[ae aj (z:Int)] 3);rw[a3]at this;rw[hu];exact this
  have bI:Boxed u (h+6) 3 (ae aj (a:Int)):=by
   have:=(Boxed.new (v.alloc (ak #[af A n c] 22)) 3 (ae aj (a:Int))).alloc (ak #[ae aj (z:Int)] 3);rw[World.size_alloc,a3]at this;rw[hu];exact this
  have bJ:Boxed u (h+7) 3 (ae aj (z:Int)):=by
   have:=Boxed.new ((v.alloc (ak #[af A n c] 22)).alloc (ak #[ae aj (a:Int)] 3)) 3 (ae aj (z:Int));rw[World.size_alloc,World.size_alloc,a3]at this;rw[hu];exact this
  have bK:iy u h A n f:=(hh▸h1:iy w h A n f).below a5 gY;have bL:ui w u h f n a z T 0 u:=⟨a5,iC.refl _ _,by omega,ch,0,0,bE,bF,bG,h0,b5,by omega,by omega,by rw[hT];rfl⟩;have bM:u=((((((((w.alloc (ak #[af A n c] 22)).alloc (ak #[ae aj (a:Int)] 3)).alloc (ak #[ae aj (ch:Int)] 3)).alloc (ak #[ae aj 0] 3)).alloc (ak #[ae aj 0] 3)).alloc (ak #[af A n c] 22)).alloc (ak #[ae aj (a:Int)] 3)).alloc (ak #[ae aj (z:Int)] 3)):=by rw[hu,hv]
  have HU:=gW bM;have a9:=gW bL;have a6:=gW bK;have bN:=gW a5;have HH:=gW hh
  have bd:=gW bB;have bf:=gW bC;have bg:=gW bH;have bj:=gW bI;have bk:=gW bJ
  clear bM bL bK a5 aW bA a3 hv hu bB bC bE bF bG bH bI bJ h1 v hT;clear hh;gi_wp2_with (gi_at_call 175;refine(Kd _ _ _ _ _ _ _).mono ?_;rintro e w' ⟨rfl,rfl⟩)
  rw[<-HU.out];simp only[Nat.add_assoc,Nat.reduceAdd];rw[<-HH.out];refine J8 (L:=min z a) rfl (by omega) (gf:=183) (lb:=#[ag (some ⟨h+5,0,none⟩),ag (some ⟨h+6,0,none⟩),ag (some ⟨h+7,0,none⟩)]) rfl trivial (enters_of func183 (by kernel_rfl) rfl)
   (Kc _ (by omega) (h+5) (h+6) (h+7) h A n c a z f (uh h) ⟨.inr (by omega),.inr (by omega),.inr (by omega)⟩ (fun k hk=>.inl (by omega)) hn h4 ha h3 (by omega) u bg.out.cell bj.out.cell bk.out.cell (by omega) (by omega) a6.out)
   (fun h k=>h.tr k) (fun W l ob cg hl _ _ _ k hS=>World.putObj_heap_other (by rcases hS with hS|hS<;>omega)) (fun _=>rfl)
   (.exit 0) (.exit 0) (.inr ⟨_,rfl,rfl⟩)
   (ui w u h f n a z T) (vV w h a T) (by rw[HH.out];exact ui.own w u f n a z T _ (by have:=HH.out;omega)) (by rw[HH.out];exact vV.own w a T _ (by have:=HH.out;omega)) a9.out
   (fun j=>{tmps:=#[af A n c,ae aj a,ae aj z,ae aj ch,ag (some ⟨h,0,none⟩),ag (some ⟨h+1,0,none⟩),undef,ag (some ⟨h+2,0,none⟩),ag (some ⟨h+3,0,none⟩),ag (some ⟨h+4,0,none⟩),
    ae aj ((a-1-j:Nat):Int),undef,ae aj ch,ai false,af A n c,ae aj a,ae aj z,.func (.func 183) #[] #[ag (some ⟨h+5,0,none⟩),ag (some ⟨h+6,0,none⟩),ag (some ⟨h+7,0,none⟩)],ae aj ((a-1-j:Nat):Int),
    undef,undef,undef,undef,undef,undef,undef,undef,undef,undef,undef,undef,undef,undef,undef,undef,undef,undef,undef,undef,undef,undef,undef,undef],defers:=[]}) ?skip ?assign ?body ?done ?stop
  case skip=>
   rintro j W ⟨h1,h2,hs,c',d,m,h3,h4,h5,h6,h7,h8,h9,b6⟩ hj b7;exact⟨h1,h2,hs,c',d,m,h3,h4,h5,h6,h7,h8,h9,by rw[<-Kf hj h6 d m b7];exact b6⟩
  case assign=>
   intro l j W K hK;simp only[ug];obtain⟨q,hq⟩:=gX (a-1-j);rw[<-hq]at hK⊢;clear hq;gi_wp2
   exact hK
  case body=>
   rintro l j W ⟨g1,g2,gs,c',d,m,g3,g4,g5,g6,g7,g8,g9,a4⟩ hj bl;have bO:oS w W h c' d m W:=⟨g1,iC.refl _ _,⟨Nat.le_refl _,fun _ _ h _=>h⟩,gs,g3,g4,g5⟩;have aT:=Kg hj g6 d m bl;rw[a4]at aT;have x0:=(g2.cell (p:=⟨h,0,none⟩) (.inl (by show h<h+2;omega))).trans bd.out.cell;have x1:=(g2.cell (p:=⟨h+1,0,none⟩) (.inl (by show h+1<h+2;omega))).trans bf.out.cell;have bP:=a6.out.kept g2 (fun k hk=>.inl (by omega));obtain⟨q,hq⟩:=gX (a-1-j);have b8:q<a:=by omega
   have aX:=JX W h A n c f a q bP b8 ha hn;obtain⟨k,hk⟩:=gX (jO f n a q);have bm:=yF (f:=f) ha q;rw[<-hq]at aT⊢;rw[<-hk]at aT aX bm;obtain⟨j1,bn⟩:=gX (j+1);have cj:(a:Int)-(q:Int)=(j1:Int):=by omega
   obtain⟨c1,bQ⟩:=gX (c'-1);have ck:(c':Int)-1=(c1:Int):=by omega
   have a8:c1<=256:=by omega
   have bR:j1<=a:=by omega
   rw[<-bn,<-bQ]at aT;have bS:=gW bn;have ca:prog.follows .mixedOrders=true:=by kernel_rfl
   have bT:=gW aX;have bU:=gW bO;have aS:=gW aT;have b9:=gW bm;have HK:=gW hk;have bV:=gW g2;have cl:=gW bl
   clear aT aX bP bO g1 g2 g3 g4 g5 a4 bm hk bl hq gs bn bQ;gi_wp2_with fail
   refine((callsIn_wide.2 bT.out).inRound l).mono ?_;rintro e V ⟨rfl,bW⟩;have aV:=bU.out.kX bW;have bX:=(aV.2.1.cell (p:=⟨h+1,0,none⟩) (.inl (by show h+1<h+2;omega))).trans x1;have bZ:=aV.2.2.2.2.1.cell;have y3:=aV.2.2.2.2.2.1.cell;have b0:=aV.2.2.2.2.2.2.cell;have z2:=aV.2.2.2.2.1.frozen;have z3:=aV.2.2.2.2.2.1.frozen;have z4:=aV.2.2.2.2.2.2.frozen;have a7:=gW aV;clear aV bW bT bU;by_cases b1:m<k
   ·have b2:(m:Int)<(k:Int):=by omega
    have al:=aS.out;rw[if_pos b1]at al;have aS:=gW al;clear al;gi_wp2
    have av:=((a7.out.Kh j1).Ki k).DN c1;obtain⟨Y,hY⟩:=gX (((V.setCell ⟨h+3,0,none⟩ (ae aj (j1:Int))).setCell ⟨h+4,0,none⟩ (ae aj (k:Int))).setCell ⟨h+2,0,none⟩ (ae aj (c1:Int)));rw[<-hY]at av⊢;have y0:=(av.2.1.cell (p:=⟨h,0,none⟩) (.inl (by show h<h+2;omega))).trans x0;have y1:=(av.2.1.cell (p:=⟨h+1,0,none⟩) (.inl (by show h+1<h+2;omega))).trans x1;have y2:=av.2.2.2.2.1.cell;have y4:=av.2.2.2.2.2.2.cell;have ad:=gW av;clear av hY bX x0 x1 bZ y3 b0 z2 z3 z4 a7;obtain⟨M,hM⟩:=gX (min (n-a) 258);have aY:=fun u=>vQ u A n c a ha hn
    rw[<-hM]at aY;have aZ:=gW aY;have HM:=gW hM
    clear aY hM;rcases Nat.eq_zero_or_pos c1 with a1|a1
    ·subst a1;have al:=aS.out;rw[yE]at al;have a2:=gW al;have y2:Y.cell? ⟨h+2,0,none⟩=some (ae aj 0):=y2;clear al aS;gi_region_with_o (gi_at_call 177;refine((callsIn_wide.2 (aZ.out _)).inRound l).mono ?_;rintro e V2 ⟨rfl,rfl⟩)
     all_goals gi_wp2
     all_goals exact⟨ad.out.2.2.1.trans (KeepsOthers.drew _),(ad.out.kX ⟨1,rfl⟩).1,j1,k,(ad.out.kX ⟨1,rfl⟩).2.2.2.2.2.1,(ad.out.kX ⟨1,rfl⟩).2.2.2.2.2.2,a2.out.symm⟩
    ·have bz:((c1:Int)==0)=false:=by simp;omega
     by_cases aU:k=M
     ·have bp:((k:Int)==(M:Int))=true:=by simp;omega
      have al:=aS.out;rw[vU (fun q=>by have:=yF (f:=f) ha q;have:=HM.out;omega)]at al;have a2:=gW al;clear al aS aU;gi_region_with_o (gi_at_call 177;refine((callsIn_wide.2 (aZ.out _)).inRound l).mono ?_;rintro e V2 ⟨rfl,rfl⟩)
      all_goals gi_wp2
      all_goals exact⟨ad.out.2.2.1.trans (KeepsOthers.drew _),(ad.out.kX ⟨1,rfl⟩).1,j1,k,(ad.out.kX ⟨1,rfl⟩).2.2.2.2.2.1,(ad.out.kX ⟨1,rfl⟩).2.2.2.2.2.2,a2.out.symm⟩
     ·have bp:((k:Int)==(M:Int))=false:=by simp;omega
      clear aU;gi_region_with_o (gi_at_call 177;refine((callsIn_wide.2 (aZ.out _)).inRound l).mono ?_;rintro e V2 ⟨rfl,rfl⟩)
      all_goals gi_wp2
      all_goals exact⟨ad.out.2.2.1.trans (KeepsOthers.drew _),(ad.out.kX ⟨1,rfl⟩).2.1,(ad.out.kX ⟨1,rfl⟩).1,bV.out.tr (ad.out.kX ⟨1,rfl⟩).2.1,(ad.out.kX ⟨1,rfl⟩).2.2.2.1,c1,j1,k,(ad.out.kX ⟨1,rfl⟩).2.2.2.2.1,(ad.out.kX ⟨1,rfl⟩).2.2.2.2.2.1,(ad.out.kX ⟨1,rfl⟩).2.2.2.2.2.2,a1,a8,(by have:=b9.out;omega),bR,(by rw[<-bS.out];exact aS.out.symm)⟩
   ·have b2:¬(m:Int)<(k:Int):=by omega
    have al:=aS.out;rw[if_neg b1]at al;have aS:=gW al;clear al;gi_wp2
    have av:=a7.out.DN c1;obtain⟨Y,hY⟩:=gX (V.setCell ⟨h+2,0,none⟩ (ae aj (c1:Int)));rw[<-hY]at av⊢;have y0:=(av.2.1.cell (p:=⟨h,0,none⟩) (.inl (by show h<h+2;omega))).trans x0;have y1:=(av.2.1.cell (p:=⟨h+1,0,none⟩) (.inl (by show h+1<h+2;omega))).trans x1;have y2:=av.2.2.2.2.1.cell;have y4:=av.2.2.2.2.2.2.cell;have ad:=gW av;clear av hY bX x0 x1 bZ y3 b0 z2 z3 z4 a7;obtain⟨M,hM⟩:=gX (min (n-a) 258);have aY:=fun u=>vQ u A n c a ha hn
    rw[<-hM]at aY;have aZ:=gW aY;have HM:=gW hM
    clear aY hM;rcases Nat.eq_zero_or_pos c1 with a1|a1
    ·subst a1;have al:=aS.out;rw[yE]at al;have a2:=gW al;have y2:Y.cell? ⟨h+2,0,none⟩=some (ae aj 0):=y2;clear al aS;gi_region_with_o (gi_at_call 177;refine((callsIn_wide.2 (aZ.out _)).inRound l).mono ?_;rintro e V2 ⟨rfl,rfl⟩)
     all_goals gi_wp2
     all_goals exact⟨ad.out.2.2.1.trans (KeepsOthers.drew _),(ad.out.kX ⟨1,rfl⟩).1,d,m,(ad.out.kX ⟨1,rfl⟩).2.2.2.2.2.1,(ad.out.kX ⟨1,rfl⟩).2.2.2.2.2.2,a2.out.symm⟩
    ·have bz:((c1:Int)==0)=false:=by simp;omega
     by_cases aU:m=M
     ·have bp:((m:Int)==(M:Int))=true:=by simp;omega
      have al:=aS.out;rw[vU (fun q=>by have:=yF (f:=f) ha q;have:=HM.out;omega)]at al;have a2:=gW al;clear al aS aU;gi_region_with_o (gi_at_call 177;refine((callsIn_wide.2 (aZ.out _)).inRound l).mono ?_;rintro e V2 ⟨rfl,rfl⟩)
      all_goals gi_wp2
      all_goals exact⟨ad.out.2.2.1.trans (KeepsOthers.drew _),(ad.out.kX ⟨1,rfl⟩).1,d,m,(ad.out.kX ⟨1,rfl⟩).2.2.2.2.2.1,(ad.out.kX ⟨1,rfl⟩).2.2.2.2.2.2,a2.out.symm⟩
     ·have bp:((m:Int)==(M:Int))=false:=by simp;omega
      clear aU;gi_region_with_o (gi_at_call 177;refine((callsIn_wide.2 (aZ.out _)).inRound l).mono ?_;rintro e V2 ⟨rfl,rfl⟩)
      all_goals gi_wp2
      all_goals exact⟨ad.out.2.2.1.trans (KeepsOthers.drew _),(ad.out.kX ⟨1,rfl⟩).2.1,(ad.out.kX ⟨1,rfl⟩).1,bV.out.tr (ad.out.kX ⟨1,rfl⟩).2.1,(ad.out.kX ⟨1,rfl⟩).2.2.2.1,c1,d,m,(ad.out.kX ⟨1,rfl⟩).2.2.2.2.1,(ad.out.kX ⟨1,rfl⟩).2.2.2.2.2.1,(ad.out.kX ⟨1,rfl⟩).2.2.2.2.2.2,a1,a8,g8,g9,(by rw[<-bS.out];exact aS.out.symm)⟩
  case done=>
   rintro D W hD ⟨g1,g2,gs,c',d,m,g3,g4,g5,g6,g7,g8,g9,a4⟩ hK;rw[Ke]at a4;subst a4;have y3:=g4.cell;have y4:=g5.cell;have z3:=g4.frozen;have z4:=g5.frozen
   have bq:=gW g1;have br:=gW g4;have bt:=gW g5;have HK:=gW hK
   clear g1 g2 gs g3 g4 g5 hK bd bf bg bj bk a9 a6 bN HU;gi_wp2
   gi_region
   obtain⟨Y,hY⟩:=gX (((W.setCell ⟨h+3,0,none⟩ (ae aj (d:Int))).setCell ⟨h+4,0,none⟩ (ae aj (m:Int))).drew);have b3:Boxed Y (h+3) 3 (ae aj (d:Int)):=by rw[hY];exact p8 (br.out.set _) (by omega)
   have b4:Boxed Y (h+4) 3 (ae aj (m:Int)):=by rw[hY];exact(p8 bt.out (by omega)).set _
   have bD:Y.heap[D]?=some (.deferred (some [])):=by
    rw[hY];exact(Below.heap_setCell _ _ _ D (by show D≠h+4;omega)).trans ((Below.heap_setCell _ _ _ D (by show D≠h+3;omega)).trans HK.out)
   have bY:aR h w Y:=by
    rw[hY];exact((bq.out.setCell (p:=⟨h+3,0,none⟩) (by show h<=h+3;omega) _).setCell (p:=⟨h+4,0,none⟩) (by show h<=h+4;omega) _).drew
   rw[<-hY];have c3:=(Boxed.kept b3 (grownBy_putObj' Y D (.deferred none)) (fun e=>by injection e;omega)).cell;have c4:=(Boxed.kept b4 (grownBy_putObj' Y D (.deferred none)) (fun e=>by injection e;omega)).cell;have BD:=gW bD;have BY:=gW bY;have C3:=gW c3;have C4:=gW c4
   clear hY b3 b4 bD bY c3 c4 y3 y4 z3 z4;gi_wp2
   refine⟨by simp,.inl ⟨_,_,rfl,run_takeDeferred BD.out,?_⟩⟩;refine⟨_,(by simp[results,Tryz.results166,go_sem,C3.out,C4.out]),rfl,?_⟩;rw[<-HH.out];exact BY.out.grown (grownBy_putObj' Y D _) (by have:=BY.out.size;have:=HH.out;omega) (fun r e=>by cases e;omega)
  case stop=>
   rintro D j W hD hj ⟨g1,d,m,g4,g5,rfl⟩ hK;have y3:=g4.cell;have y4:=g5.cell;have z3:=g4.frozen;have z4:=g5.frozen
   have bq:=gW g1;have br:=gW g4;have bt:=gW g5;have HK:=gW hK
   clear g1 g4 g5 hK bd bf bg bj bk a9 a6 bN HU;gi_wp2
   gi_region
   obtain⟨Y,hY⟩:=gX (((W.setCell ⟨h+3,0,none⟩ (ae aj (d:Int))).setCell ⟨h+4,0,none⟩ (ae aj (m:Int))).drew);have b3:Boxed Y (h+3) 3 (ae aj (d:Int)):=by rw[hY];exact p8 (br.out.set _) (by omega)
   have b4:Boxed Y (h+4) 3 (ae aj (m:Int)):=by rw[hY];exact(p8 bt.out (by omega)).set _
   have bD:Y.heap[D]?=some (.deferred (some [])):=by
    rw[hY];exact(Below.heap_setCell _ _ _ D (by show D≠h+4;omega)).trans ((Below.heap_setCell _ _ _ D (by show D≠h+3;omega)).trans HK.out)
   have bY:aR h w Y:=by
    rw[hY];exact((bq.out.setCell (p:=⟨h+3,0,none⟩) (by show h<=h+3;omega) _).setCell (p:=⟨h+4,0,none⟩) (by show h<=h+4;omega) _).drew
   rw[<-hY];have c3:=(Boxed.kept b3 (grownBy_putObj' Y D (.deferred none)) (fun e=>by injection e;omega)).cell;have c4:=(Boxed.kept b4 (grownBy_putObj' Y D (.deferred none)) (fun e=>by injection e;omega)).cell;have BD:=gW bD;have BY:=gW bY;have C3:=gW c3;have C4:=gW c4
   clear hY b3 b4 bD bY c3 c4 y3 y4 z3 z4;gi_wp2
   refine⟨by simp,.inl ⟨_,_,rfl,run_takeDeferred BD.out,?_⟩⟩;refine⟨_,(by simp[results,Tryz.results166,go_sem,C3.out,C4.out]),rfl,?_⟩;rw[<-HH.out];exact BY.out.grown (grownBy_putObj' Y D _) (by have:=BY.out.size;have:=HH.out;omega) (fun r e=>by cases e;omega)
open Go.ChangeShapes Go.WideShapes Go.ChangeAt Go.Joins
def ph(f:Nat->Nat)(n:Nat)(a s h:Int):Nat×Nat:=if¬131072<n/\0<=a/\a<=(n:Int)/\1<=s/\s<=32768/\0<=h/\h<=256 then PS f n a.toNat s.toNat a.toNat h.toNat 0 0 else(0,0)
def sB(f:Nat->Nat)(n:Nat)(a s h:Int):Int:=if 131072<n then 4 else if 0<=a/\a<=(n:Int)/\1<=s/\s<=32768/\0<=h/\h<=256 then(if(ph f n a s h).2=0 then 6 else 0)else 2
theorem Kl(f:Nat->Nat)(n:Nat)(a s h:Int)(h0:(ph f n a s h).2=0):ph f n a s h=(0,0):=by
 unfold ph at h0⊢;split
 ·rename_i hc;rw[if_pos hc]at h0;rcases sY (f:=f) (L:=n) (a:=a.toNat) (size:=s.toNat) a.toNat h.toNat 0 0 gY (.inl ⟨rfl,rfl⟩)with⟨h1,h2⟩|⟨_,_,_,h3,_⟩
  ·exact Prod.ext h1 h2
  ·omega
 ·rfl
theorem Km{n:Nat}{a s h:Int}(ad:¬(0<=a/\a<=(n:Int)/\1<=s/\s<=32768/\0<=h/\h<=256)):
  a<0\/(¬a<0/\(n:Int)<a)\/(¬a<0/\¬(n:Int)<a/\s<1)\/(¬a<0/\¬(n:Int)<a/\¬s<1/\32768<s)\/(¬a<0/\¬(n:Int)<a/\¬s<1/\¬32768<s/\h<0)\/(¬a<0/\¬(n:Int)<a/\¬s<1/\¬32768<s/\¬h<0/\256<h):=by omega
theorem lP{p:Prop}[Decidable p](h:¬p):decide p=false:=by simp[h]
theorem qE{p:Prop}[Decidable p](h:p):decide p=true:=by simp[h]
theorem Kn(w:aq)(A:Option au)(n c:Nat)(f:Nat->Nat)(a s h:Int)(hr:ib w w.heap.size A n c f):
  aw prog 150 #[af A n c,ae aj a,ae aj s,ae aj h] w fun e w'=>e=ao (.tuple #[ae aj ((ph f n a s h).1:Nat),ae aj ((ph f n a s h).2:Nat),ae aj (sB f n a s h)])/\aR w.heap.size w w':=by
 have HR:=gW hr
 clear hr
 by_cases hn:131072<n
 ·have e1:sB f n a s h=4:=if_pos hn;have e2:ph f n a s h=(0,0):=if_neg (by omega);rw[e1,e2];have aS:131072<(n:Int):=by omega
  clear e1 e2;go_enter func150,ntmps150
  go_wp2;go_ret3
  exact⟨rfl,Below.refl _ _⟩
 have aS:¬131072<(n:Int):=by omega
 by_cases ad:0<=a/\a<=(n:Int)/\1<=s/\s<=32768/\0<=h/\h<=256
 ·obtain⟨T,hT⟩:=gX (ph f n a s h);have e1:sB f n a s h=if T.2=0 then 6 else 0:=by unfold sB;rw[if_neg hn,if_pos ad,hT]
  have e2:T=PS f n a.toNat s.toNat a.toNat h.toNat 0 0:=by rw[hT];unfold ph;rw[if_pos ⟨hn,ad⟩]
  have e3:=Kl f n a s h;obtain⟨E,hE⟩:∃E:Int,E=if T.2=0 then 6 else 0:=⟨_,rfl⟩
  rw[e1,<-hE];rw[<-hT]at e3⊢;obtain⟨x1,x2,x3,x4,x5,x6⟩:=ad;obtain⟨a,rfl⟩:=Int.eq_ofNat_of_zero_le x1;obtain⟨s,rfl⟩:=Int.eq_ofNat_of_zero_le (show 0<=s by omega);obtain⟨h,rfl⟩:=Int.eq_ofNat_of_zero_le x5;rw[Int.toNat_natCast,Int.toNat_natCast,Int.toNat_natCast]at e2;have hb:=Kj w A n c a s h f HR.out (by omega) (by omega) (by omega) (by omega) (by omega);rw[<-e2]at hb;have HB:=gW hb;have d1:decide ((a:Int)<0)=false:=lP (by omega);have d2:decide ((n:Int)<(a:Int))=false:=lP (by omega);have d3:decide ((s:Int)<1)=false:=lP (by omega);have d4:decide (32768<(s:Int))=false:=lP (by omega);have d5:decide ((h:Int)<0)=false:=lP (by omega);have d6:decide (256<(h:Int))=false:=lP (by omega);obtain⟨t1,t2⟩:=T;have E3:=gW e3;have HE:=gW hE
  clear e1 e2 e3 hb hT hE;go_enter func150,ntmps150
  go_wp2_with fail
  refine HB.out.mono ?_;rintro e w' ⟨rfl,hb⟩;have al:=gW hb;clear hb;rcases Nat.eq_zero_or_pos t2 with h0|h0
  ·subst h0;have:=E3.out rfl;injection this with h1 _
   subst h1;obtain rfl:E=6:=HE.out;go_wp2;go_ret3
   exact⟨rfl,al.out⟩
  ·have aT:((t2:Int)==0)=false:=by simp;omega
   obtain rfl:E=0:=HE.out.trans (if_neg (by show¬t2=0;omega));go_wp2;go_ret3
   exact⟨rfl,al.out⟩
 ·have e1:sB f n a s h=2:=by unfold sB;rw[if_neg hn,if_neg ad]
  have e2:ph f n a s h=(0,0):=if_neg (fun q=>ad q.2);rw[e1,e2];have av:=Km ad;clear e1 e2 ad;rcases av with q1|⟨q1,q2⟩|⟨q1,q2,q3⟩|⟨q1,q2,q3,q4⟩|⟨q1,q2,q3,q4,q5⟩|⟨q1,q2,q3,q4,q5,q6⟩
  ·have d1:=qE q1;go_enter func150,ntmps150
   go_wp2;go_ret3
   exact⟨rfl,Below.refl _ _⟩
  ·have d1:=lP q1;have d2:=qE q2
   go_enter func150,ntmps150
   go_wp2;go_ret3
   exact⟨rfl,Below.refl _ _⟩
  ·have d1:=lP q1;have d2:=lP q2;have d3:=qE q3
   go_enter func150,ntmps150
   go_wp2;go_ret3
   exact⟨rfl,Below.refl _ _⟩
  ·have d1:=lP q1;have d2:=lP q2;have d3:=lP q3;have d4:=qE q4
   go_enter func150,ntmps150
   go_wp2;go_ret3
   exact⟨rfl,Below.refl _ _⟩
  ·have d1:=lP q1;have d2:=lP q2;have d3:=lP q3;have d4:=lP q4;have d5:=qE q5
   go_enter func150,ntmps150
   go_wp2;go_ret3
   exact⟨rfl,Below.refl _ _⟩
  ·have d1:=lP q1;have d2:=lP q2;have d3:=lP q3;have d4:=lP q4;have d5:=lP q5;have d6:=qE q6
   go_enter func150,ntmps150
   go_wp2;go_ret3
   exact⟨rfl,Below.refl _ _⟩
theorem yH{f:Nat->Nat}{L a s:Nat}{p c d n:Nat}(hp:p<=a)(h:p=0\/s<a-(p-1)\/c=0):PS f L a s p c d n=(d,n):=by
 rcases p with _|p
 ·rfl
 ·simp only[PS];rw[if_neg (by omega)]
theorem Ko{f:Nat->Nat}{L a s:Nat}{p c d n:Nat}(h1:a-p<=s)(h2:0<c)(h3:jO f L a p<3):PS f L a s (p+1) c d n=PS f L a s p c d n:=by
 simp only[PS];rw[if_pos ⟨h1,h2⟩,if_pos h3]
theorem Kq{f:Nat->Nat}{L a s:Nat}{p c d n:Nat}(h1:a-p<=s)(h2:0<c)(h3:¬jO f L a p<3)(h4:n<jO f L a p):PS f L a s (p+1) c d n=PS f L a s p (c-1) (a-p) (jO f L a p):=by
 simp only[PS];rw[if_pos ⟨h1,h2⟩,if_neg h3,if_pos h4]
theorem Kr{f:Nat->Nat}{L a s:Nat}{p c d n:Nat}(h1:a-p<=s)(h2:0<c)(h3:¬jO f L a p<3)(h4:¬n<jO f L a p):PS f L a s (p+1) c d n=PS f L a s p (c-1) d n:=by
 simp only[PS];rw[if_pos ⟨h1,h2⟩,if_neg h3,if_neg h4]
theorem DO(w:aq)(B:Nat)(A:Option au)(n c a z ch:Nat)(f:Nat->Nat)(hr:iy w B A n f)(ha:a<=n)(hn:n<=1000000)(hz:z<=32768)(a1:ch<=256):
  aw prog 92 #[af A n c,ae aj (a:Int),ae aj (z:Int),ae aj (ch:Int)] w fun e w'=>e=ao (.tuple #[ae aj ((PS f n a z a ch 0 0).1:Nat),ae aj ((PS f n a z a ch 0 0).2:Nat)])/\jI w w':=by
 obtain⟨T,hT⟩:=gX (PS f n a z a ch 0 0)
 rw[<-hT]
 have HR:=gW hr;have HT:=gW hT
 clear hr hT
 go_enter func92,ntmps92
 go_wp2
 go_loopw [3,10,11,12] (fun cv dv nv pv wr=>∃p c d m:Nat,p<=a/\c<=256/\d<=a/\m<=258/\cv=ae aj (c:Int)/\dv=ae aj (d:Int)/\nv=ae aj (m:Int)/\pv=ae aj ((p:Int)-1)/\aQ (T=PS f n a z p c d m)/\aQ (jI w wr)) (fun _ _ _ pv _=>(aP pv+1).toNat)
 case atStart=>exact⟨a,ch,0,0,Nat.le_refl _,a1,Nat.zero_le _,by omega,rfl,rfl,rfl,by go_num,HT,gW (jI.refl w)⟩
 case round=>
  obtain⟨p,c',d,m,hp,hc,hd,hm,rfl,rfl,rfl,rfl,HK,HD⟩:=hrel;rcases Nat.eq_zero_or_pos p with h0|h0
  ·subst h0;have ad:=HK.out.trans (yH (Nat.zero_le _) (.inl rfl));subst ad;have d1:decide ((0:Int)<=((0:Nat):Int)-1)=false:=by decide
   go_wp2;go_ret2;exact⟨rfl,HD.out⟩
  ·obtain⟨q,rfl⟩:∃q,p=q+1:=⟨p-1,by omega⟩;rw[show((q+1:Nat):Int)-1=(q:Int) by omega];obtain⟨k,hk⟩:=gX (jO f n a q);have aS:=(sX f n a q).1;rw[<-hk]at aS;have d1:decide ((0:Int)<=(q:Int))=true:=by simp
   obtain⟨g,hg⟩:=gX (a-q);have eg:(a:Int)-(q:Int)=(g:Int):=by omega
   by_cases a6:g<=z
   ·have d2:decide ((g:Int)<=(z:Int))=true:=qE (by omega);have a2:decide (g<=z)=true:=qE (by omega);by_cases a3:c'=0
    ·subst a3;have ad:=HK.out.trans (yH hp (.inr (.inr rfl)));subst ad;have d3:decide ((0:Int)<((0:Nat):Int))=false:=by decide
     clear hg hk;go_wp2;go_ret2;exact⟨rfl,HD.out⟩
    ·have d3:decide ((0:Int)<(c':Int))=true:=qE (by omega);obtain⟨c1,rfl⟩:∃c1,c'=c1+1:=⟨c'-1,by omega⟩;have ec:((c1+1:Nat):Int)-1=(c1:Int):=by omega
     obtain⟨cv,al⟩:∃cv:Int,cv=((c1+1:Nat):Int):=⟨_,rfl⟩;have hs:=JY wr B A n c f a q (HD.out.rd HR.out) (by omega) ha hn;rw[<-hk]at hs;have HS:=gW hs;have a7:=gW hk
     by_cases aV:k<3
     ·have ad:=HK.out.trans (Ko (by omega) (by omega) (by rw[<-hk];exact aV));have aT:=gW ad;have a4:(c1:Int)+1=cv:=by omega
      rw[<-al]at d3 ec⊢;have aW:=gW al;have aX:(k:Int)<3:=by omega
      clear ad hs hk hg al a4;go_wp2_with fail
      refine HS.out.mono ?_;rintro e w2 ⟨rfl,av⟩;have aU:=gW (show jI w w2 by obtain⟨t,ht⟩:=av;rw[ht];exact HD.out.more t);clear av;go_wp2;go_roundw
      case rel=>exact⟨q,c1+1,d,m,by omega,hc,hd,hm,by rw[aW.out],rfl,rfl,rfl,aT,aU⟩
      case measure=>simp[aP]
     ·have aX:¬(k:Int)<3:=by omega
      by_cases aY:m<k
      ·have ad:=HK.out.trans (Kq (by omega) (by omega) (by rw[<-hk];exact aV) (by rw[<-hk];exact aY));rw[<-hk,<-hg]at ad;have aT:=gW ad;rw[<-al]at d3 ec⊢;have aW:=gW al;have aZ:(m:Int)<(k:Int):=by omega
       have a5:g<=a:=by omega
       clear ad hs hk hg al;go_wp2_with fail
       refine HS.out.mono ?_;rintro e w2 ⟨rfl,av⟩;have aU:=gW (show jI w w2 by obtain⟨t,ht⟩:=av;rw[ht];exact HD.out.more t);clear av;go_wp2;go_roundw
       case rel=>exact⟨q,c1,g,k,by omega,by omega,a5,aS,rfl,rfl,rfl,rfl,aT,aU⟩
       case measure=>simp[aP]
      ·have ad:=HK.out.trans (Kr (by omega) (by omega) (by rw[<-hk];exact aV) (by rw[<-hk];exact aY));have aT:=gW ad;rw[<-al]at d3 ec⊢;have aW:=gW al;have aZ:¬(m:Int)<(k:Int):=by omega
       clear ad hs hk hg al;go_wp2_with fail
       refine HS.out.mono ?_;rintro e w2 ⟨rfl,av⟩;have aU:=gW (show jI w w2 by obtain⟨t,ht⟩:=av;rw[ht];exact HD.out.more t);clear av;go_wp2;go_roundw
       case rel=>exact⟨q,c1,d,m,by omega,by omega,hd,hm,rfl,rfl,rfl,rfl,aT,aU⟩
       case measure=>simp[aP]
   ·have ad:=HK.out.trans (yH hp (.inr (.inl (by omega))));subst ad;have d2:decide ((g:Int)<=(z:Int))=false:=lP (by omega);have a2:decide (g<=z)=false:=lP (by omega);clear hg hk;go_wp2;go_ret2;exact⟨rfl,HD.out⟩
def jW(w:aq)(B:Nat)(A:Option au)(n c:Nat)(l:List iu):Prop:=n=l.length/\km w B A l/\(A=none->c=0)/\n<=c/\c<=maxLen
theorem jW.below{w w':aq}{B B' n c:Nat}{A:Option au}{l:List iu}(h:jW w B A n c l)(hb:aR B' w w')(hB:B<=B'):jW w' B A n c l:=⟨h.1,h.2.1.below hb hB,h.2.2⟩
theorem jW.more{w:aq}{B B' n c:Nat}{A:Option au}{l:List iu}(h:jW w B A n c l)(hB:B<=B'):jW w B' A n c l:=⟨h.1,h.2.1.more hB,h.2.2⟩
theorem jW.nil(w:aq)(B:Nat):jW w B none 0 0 []:=⟨rfl,km.nil w B none,fun _=>rfl,Nat.le_refl _,by unfold maxLen;omega⟩
theorem jW.iI{w:aq}{base n c:Nat}{A:Option au}{l:List iu}(h:w.ownsRow base 128 3 (af A n c) n (Ql l)):jW w w.heap.size A n c l:=by
 obtain⟨h1,h2⟩:=km.iI h;refine⟨h1,h2,?_⟩;rcases h.2 with⟨hv,h0⟩|⟨g,cap,cur,hv,_,_,k1,k2,_⟩
 ·injection hv with h3 h4 h5
  exact⟨fun _=>h5,by omega,by unfold maxLen;omega⟩
 ·injection hv with h3 h4 h5
  exact⟨(fun h=>by rw[h]at h3;cases h3),by omega,by omega⟩
theorem qF{w u:aq}{base n:Nat}{e:aB}{sz:Nat}{v:ax}{xs:List ax}(h:w.ownsRow base e sz v n xs)(hd:jI w u):u.ownsRow base e sz v n xs:=by
 obtain⟨t,rfl⟩:=hd;exact h
theorem Ks(w:aq)(A:Option au)(n c a z ch:Nat)(m:Int)(lz:Bool)(f:Nat->Nat)(hr:iy w w.heap.size A n f)(ha:a<=n)(hn:n<=131072)(hz:z<=32768)(bC:ch<=256):
  aw prog 70 #[af A n c,ae aj (a:Int),ah #[ae aj (z:Int),ae aj (ch:Int),ae aj m,ai lz]] w fun e w'=>∃A' n' c',e=ao (af A' n' c')/\jW w' w'.heap.size A' n' c' (jk f n z ch lz a)/\aR w.heap.size w w':=by
 obtain⟨W1,bl⟩:=gX (w.alloc (ak #[ae aj (z:Int),ae aj (ch:Int),ae aj m,ai lz] 27))
 have bu:aR w.heap.size w W1:=by rw[bl];exact ix.alloc gY _
 have bD:W1.heap.size=w.heap.size+1:=by rw[bl];simp
 have bE:W1.heap[w.heap.size]?=some (ak #[ae aj (z:Int),ae aj (ch:Int),ae aj m,ai lz] 27 (0,0)):=by rw[bl];exact heap_alloc_new w _
 have HR:=gW ((hr.below bu gY).more bu.size);have bL:=gW bu;have bM:=gW bl;have aY:=gW bD;have bN:=gW bE
 obtain⟨h,hh⟩:=gX (w.heap.size)
 have HH:=gW hh
 clear hr bl bu bD bE hh
 go_enter func70,ntmps70
 go_wp2
 rw[<-bM.out,<-HH.out]
 go_loopw [7,8] (fun ov av wr=>∃(p a':Nat) (At:Option au) (ct:Nat) (pre:List iu),a'<=n/\p<=a'/\ov=af At p ct/\av=ae aj (a':Int)/\aQ (pre++jk f n z ch lz a'=jk f n z ch lz a)/\aQ (wr.ownsRow (h+1) 128 3 (af At p ct) p (Ql pre))/\aQ (aR (h+1) W1 wr)) (fun _ av _=>n-(aP av).toNat)
 case atStart=>exact⟨0,a,none,0,[],ha,Nat.zero_le _,rfl,rfl,gW rfl,gW (World.ownsRow_nil _ _ _ _),gW ix⟩
 case round=>
  obtain⟨p,a',At,ct,pre,bO,bQ,rfl,rfl,HK,HO,HB⟩:=hrel;have bz:aR w.heap.size w wr:=bL.out.trans (HB.out.mono (by have:=HH.out;omega));have bP:=gW bz;by_cases a5:a'<n
  ·have bF:(a':Int)<(n:Int):=by omega
   have bf:wr.heap[h]?=some (ak #[ae aj (z:Int),ae aj (ch:Int),ae aj m,ai lz] 27 (0,0)):=(HB.out.block h (by omega)).trans (by rw[HH.out];exact bN.out);have x0:wr.cell? ⟨h,0,none⟩=some (ae aj (z:Int)):=(aH wr _ 0 _ _ (0,0) bf).trans rfl;have x1:wr.cell? ⟨h,1,none⟩=some (ae aj (ch:Int)):=(aH wr _ 1 _ _ (0,0) bf).trans rfl;have x3:wr.cell? ⟨h,3,none⟩=some (ai lz):=(aH wr _ 3 _ _ (0,0) bf).trans rfl;obtain⟨T,hT⟩:=gX (PS f n a' z a' ch 0 0);have bd:=DO wr W1.heap.size A n c a' z ch f (HR.out.below HB.out (by have:=aY.out;have:=HH.out;omega)) bO (by omega) hz bC;rw[<-hT]at bd;have bm:=gW bd;have HT:=gW hT
   clear bz bf hT bd;obtain⟨d,k⟩:=T;go_wp2_with fail
   refine bm.out.mono ?_;rintro e w2 ⟨rfl,bn⟩;have aX:=gW bn;have y0:w2.cell? ⟨h,0,none⟩=some (ae aj (z:Int)):=by obtain⟨t,ht⟩:=bn;rw[ht];exact x0
   have y1:w2.cell? ⟨h,1,none⟩=some (ae aj (ch:Int)):=by obtain⟨t,ht⟩:=bn;rw[ht];exact x1
   have y3:w2.cell? ⟨h,3,none⟩=some (ai lz):=by obtain⟨t,ht⟩:=bn;rw[ht];exact x3
   clear bn x0 x1 x3 bm;have aZ:k=0->((k:Int)==0)=true:=fun e=>by simp[e]
   have bG:k≠0->((k:Int)==0)=false:=fun e=>by simp;omega
   have bA:=gW aZ;have bg:=gW bG
   clear aZ bG;obtain⟨a1,bp⟩:=gX (a'+1);have bR:(a':Int)+1=(a1:Int):=by omega
   have a6:=gW bp;have bS:a1<=200000:=by omega
   by_cases bj:lz=true/\a1<n
   ·obtain⟨rfl,bT⟩:=bj;have l1:decide ((a1:Int)<(n:Int))=true:=by simp;omega
    have l2:decide (a1<n)=true:=by simp;omega
    obtain⟨T2,bB⟩:=gX (PS f n a1 z a1 ch 0 0);have bd:=DO w2 W1.heap.size A n c a1 z ch f (HR.out.below (aX.out.below HB.out) (by have:=aY.out;have:=HH.out;omega)) (by omega) (by omega) hz bC;rw[<-bB]at bd;obtain⟨d2,q⟩:=T2;have bk:pE f n z ch true a'=q:=by unfold pE;rw[if_pos ⟨rfl,by omega⟩,<-bp,<-bB]
    have bm:=gW bd;have a8:=gW bk
    clear bB bd bk bp;go_wp2_with fail
    refine bm.out.mono ?_;rintro e w3 ⟨rfl,bH⟩;have a7:=gW (show jI wr w3 by obtain⟨t,ht⟩:=bH;rw[ht];exact aX.out.more t);clear bH y0 y1 y3 bm l1 l2;by_cases hb:k=0\/k<q
    ·by_cases aZ:k=0
     ·have g1:=bA.out aZ;clear aZ;obtain⟨b,o,rfl,_,hc⟩:=(HR.out.below (jI.below a7.out HB.out) (by have:=aY.out;have:=HH.out;omega)).2 (by omega);have x9:=hc a' a5;obtain⟨u,hu⟩:=gX (f a');rw[<-hu]at x9;obtain⟨A',c',w',al,aS,aT⟩:=qx w3 (h+1) At p ct pre (qF HO.out a7.out) ⟨u,0,0⟩ (by omega) (by have:=HB.out.size;have:=aY.out;have:=HH.out;obtain⟨t,ht⟩:=a7.out;rw[ht];show h+1<=wr.heap.size;omega);have ad:=HK.out;rw[sj a5 (by rw[<-HT.out,a8.out];exact hb)]at ad;rw[<-hu,<-a6.out]at ad;have a3:=gW (show(pre++[⟨u,0,0⟩])++jk f n z ch true a1=jk f n z ch true a by rw[List.append_assoc];exact ad);have aU:=gW al;have aV:=gW aS;have a4:=gW ((jI.below a7.out HB.out).trans aT)
      have aW:p+1<=a1/\a1<=n/\a'<a1:=by have:=a6.out;omega
      clear al aS aT ad hc hu;go_wp2_with (at_builtin;refine wpList_append_run rfl (.tmp 54) (.tmp 60) 79 rfl (af At p ct) (af (some ⟨w3.heap.size,0,none⟩) 1 1) (af A' (p+1) c') w' rfl rfl aU.out ?_)
      go_roundw
      case rel=>exact⟨p+1,a1,A',c',pre++[⟨u,0,0⟩],aW.2.1,aW.1,rfl,by go_num,a3,aV,a4⟩
      case measure=>simp[aP];omega
     ·have g1:=bg.out aZ;have g2:decide ((k:Int)<(q:Int))=true:=by simp;omega
      have g3:decide (k<q)=true:=by simp;omega
      clear aZ;obtain⟨b,o,rfl,_,hc⟩:=(HR.out.below (jI.below a7.out HB.out) (by have:=aY.out;have:=HH.out;omega)).2 (by omega);have x9:=hc a' a5;obtain⟨u,hu⟩:=gX (f a');rw[<-hu]at x9;obtain⟨A',c',w',al,aS,aT⟩:=qx w3 (h+1) At p ct pre (qF HO.out a7.out) ⟨u,0,0⟩ (by omega) (by have:=HB.out.size;have:=aY.out;have:=HH.out;obtain⟨t,ht⟩:=a7.out;rw[ht];show h+1<=wr.heap.size;omega);have ad:=HK.out;rw[sj a5 (by rw[<-HT.out,a8.out];exact hb)]at ad;rw[<-hu,<-a6.out]at ad;have a3:=gW (show(pre++[⟨u,0,0⟩])++jk f n z ch true a1=jk f n z ch true a by rw[List.append_assoc];exact ad);have aU:=gW al;have aV:=gW aS;have a4:=gW ((jI.below a7.out HB.out).trans aT)
      have aW:p+1<=a1/\a1<=n/\a'<a1:=by have:=a6.out;omega
      clear al aS aT ad hc hu;go_wp2_with (at_builtin;refine wpList_append_run rfl (.tmp 54) (.tmp 60) 79 rfl (af At p ct) (af (some ⟨w3.heap.size,0,none⟩) 1 1) (af A' (p+1) c') w' rfl rfl aU.out ?_)
      go_roundw
      case rel=>exact⟨p+1,a1,A',c',pre++[⟨u,0,0⟩],aW.2.1,aW.1,rfl,by go_num,a3,aV,a4⟩
      case measure=>simp[aP];omega
    ·have g1:=bg.out (by omega);have g2:decide ((k:Int)<(q:Int))=false:=by simp;omega
     have g3:decide (k<q)=false:=by simp;omega
     have bq:a'+k<=n:=by
      have h1:=(qX (f:=f) (L:=n) (a:=a') (size:=z) (chain:=ch) (by rw[<-HT.out];omega)).2.2.2.2.2;rw[<-HT.out]at h1;have:=(h1 (k-1) (by show k-1<k;omega)).1;omega
     obtain⟨a2,a9⟩:=gX (a'+k);have bI:(a':Int)+(k:Int)=(a2:Int):=by omega
     obtain⟨A',c',w',al,aS,aT⟩:=qx w3 (h+1) At p ct pre (qF HO.out a7.out) ⟨0,(d:Int),(k:Int)⟩ (by omega) (by have:=HB.out.size;have:=aY.out;have:=HH.out;obtain⟨t,ht⟩:=a7.out;rw[ht];show h+1<=wr.heap.size;omega);have ad:=HK.out;rw[vI a5 (by rw[<-HT.out,a8.out];exact hb)]at ad;rw[<-HT.out]at ad;replace ad:pre++⟨0,(d:Int),(k:Int)⟩::jk f n z ch true (a'+k)=jk f n z ch true a:=ad;rw[<-a9]at ad;have a3:=gW (show(pre++[⟨0,(d:Int),(k:Int)⟩])++jk f n z ch true a2=jk f n z ch true a by rw[List.append_assoc];exact ad);have aU:=gW al;have aV:=gW aS;have a4:=gW ((jI.below a7.out HB.out).trans aT)
     have aW:p+1<=a2/\a2<=n/\a'<a2:=by have:=a6.out;omega
     clear al aS aT ad a9 bq;go_wp2_with (at_builtin;refine wpList_append_run rfl (.tmp 64) (.tmp 68) 79 rfl (af At p ct) (af (some ⟨w3.heap.size,0,none⟩) 1 1) (af A' (p+1) c') w' rfl rfl aU.out ?_)
     go_roundw
     case rel=>exact⟨p+1,a2,A',c',pre++[⟨0,(d:Int),(k:Int)⟩],aW.2.1,aW.1,rfl,by go_num,a3,aV,a4⟩
     case measure=>simp[aP];omega
   ·have bk:pE f n z ch lz a'=0:=by unfold pE;rw[if_neg (by rw[<-bp];exact bj)]
    obtain⟨q,hq⟩:∃q,q=0:=⟨_,rfl⟩;rw[<-hq]at bk;have a8:=gW bk;have bJ:(0:Int)=(q:Int):=by omega
    have HQ:=gW hq;clear bk bp;subst hq;cases lz with
    |true=>
     have l1:decide ((a1:Int)<(n:Int))=false:=by simp at bj;simp;omega
     have l2:decide (a1<n)=false:=by simp at bj;simp;omega
     clear bj bJ;by_cases hb:k=0\/k<0
     ·by_cases aZ:k=0
      ·have g1:=bA.out aZ;clear aZ;obtain⟨b,o,rfl,_,hc⟩:=(HR.out.below (jI.below aX.out HB.out) (by have:=aY.out;have:=HH.out;omega)).2 (by omega);have x9:=hc a' a5;obtain⟨u,hu⟩:=gX (f a');rw[<-hu]at x9;obtain⟨A',c',w',al,aS,aT⟩:=qx w2 (h+1) At p ct pre (qF HO.out aX.out) ⟨u,0,0⟩ (by omega) (by have:=HB.out.size;have:=aY.out;have:=HH.out;obtain⟨t,ht⟩:=aX.out;rw[ht];show h+1<=wr.heap.size;omega);have ad:=HK.out;rw[sj a5 (by rw[<-HT.out,a8.out];exact hb)]at ad;rw[<-hu,<-a6.out]at ad;have a3:=gW (show(pre++[⟨u,0,0⟩])++jk f n z ch true a1=jk f n z ch true a by rw[List.append_assoc];exact ad);have aU:=gW al;have aV:=gW aS;have a4:=gW ((jI.below aX.out HB.out).trans aT)
       have aW:p+1<=a1/\a1<=n/\a'<a1:=by have:=a6.out;omega
       clear al aS aT ad hc hu;go_wp2_with (at_builtin;refine wpList_append_run rfl (.tmp 54) (.tmp 60) 79 rfl (af At p ct) (af (some ⟨w2.heap.size,0,none⟩) 1 1) (af A' (p+1) c') w' rfl rfl aU.out ?_)
       go_roundw
       case rel=>exact⟨p+1,a1,A',c',pre++[⟨u,0,0⟩],aW.2.1,aW.1,rfl,by go_num,a3,aV,a4⟩
       case measure=>simp[aP];omega
      ·have g1:=bg.out aZ;have g2:decide ((k:Int)<0)=true:=by simp;omega
       have g3:decide (k<0)=true:=by simp;omega
       clear aZ;obtain⟨b,o,rfl,_,hc⟩:=(HR.out.below (jI.below aX.out HB.out) (by have:=aY.out;have:=HH.out;omega)).2 (by omega);have x9:=hc a' a5;obtain⟨u,hu⟩:=gX (f a');rw[<-hu]at x9;obtain⟨A',c',w',al,aS,aT⟩:=qx w2 (h+1) At p ct pre (qF HO.out aX.out) ⟨u,0,0⟩ (by omega) (by have:=HB.out.size;have:=aY.out;have:=HH.out;obtain⟨t,ht⟩:=aX.out;rw[ht];show h+1<=wr.heap.size;omega);have ad:=HK.out;rw[sj a5 (by rw[<-HT.out,a8.out];exact hb)]at ad;rw[<-hu,<-a6.out]at ad;have a3:=gW (show(pre++[⟨u,0,0⟩])++jk f n z ch true a1=jk f n z ch true a by rw[List.append_assoc];exact ad);have aU:=gW al;have aV:=gW aS;have a4:=gW ((jI.below aX.out HB.out).trans aT)
       have aW:p+1<=a1/\a1<=n/\a'<a1:=by have:=a6.out;omega
       clear al aS aT ad hc hu;go_wp2_with (at_builtin;refine wpList_append_run rfl (.tmp 54) (.tmp 60) 79 rfl (af At p ct) (af (some ⟨w2.heap.size,0,none⟩) 1 1) (af A' (p+1) c') w' rfl rfl aU.out ?_)
       go_roundw
       case rel=>exact⟨p+1,a1,A',c',pre++[⟨u,0,0⟩],aW.2.1,aW.1,rfl,by go_num,a3,aV,a4⟩
       case measure=>simp[aP];omega
     ·have g1:=bg.out (by omega);have g2:decide ((k:Int)<0)=false:=by simp<;>omega
      have g3:decide (k<0)=false:=by simp<;>omega
      have bq:a'+k<=n:=by
       have h1:=(qX (f:=f) (L:=n) (a:=a') (size:=z) (chain:=ch) (by rw[<-HT.out];omega)).2.2.2.2.2;rw[<-HT.out]at h1;have:=(h1 (k-1) (by show k-1<k;omega)).1;omega
      obtain⟨a2,a9⟩:=gX (a'+k);have bI:(a':Int)+(k:Int)=(a2:Int):=by omega
      obtain⟨A',c',w',al,aS,aT⟩:=qx w2 (h+1) At p ct pre (qF HO.out aX.out) ⟨0,(d:Int),(k:Int)⟩ (by omega) (by have:=HB.out.size;have:=aY.out;have:=HH.out;obtain⟨t,ht⟩:=aX.out;rw[ht];show h+1<=wr.heap.size;omega);have ad:=HK.out;rw[vI a5 (by rw[<-HT.out,a8.out];exact hb)]at ad;rw[<-HT.out]at ad;replace ad:pre++⟨0,(d:Int),(k:Int)⟩::jk f n z ch true (a'+k)=jk f n z ch true a:=ad;rw[<-a9]at ad;have a3:=gW (show(pre++[⟨0,(d:Int),(k:Int)⟩])++jk f n z ch true a2=jk f n z ch true a by rw[List.append_assoc];exact ad);have aU:=gW al;have aV:=gW aS;have a4:=gW ((jI.below aX.out HB.out).trans aT)
      have aW:p+1<=a2/\a2<=n/\a'<a2:=by have:=a6.out;omega
      clear al aS aT ad a9 bq;go_wp2_with (at_builtin;refine wpList_append_run rfl (.tmp 64) (.tmp 68) 79 rfl (af At p ct) (af (some ⟨w2.heap.size,0,none⟩) 1 1) (af A' (p+1) c') w' rfl rfl aU.out ?_)
      go_roundw
      case rel=>exact⟨p+1,a2,A',c',pre++[⟨0,(d:Int),(k:Int)⟩],aW.2.1,aW.1,rfl,by go_num,a3,aV,a4⟩
      case measure=>simp[aP];omega
    |false=>
     clear bj bJ;by_cases hb:k=0\/k<0
     ·by_cases aZ:k=0
      ·have g1:=bA.out aZ;clear aZ;obtain⟨b,o,rfl,_,hc⟩:=(HR.out.below (jI.below aX.out HB.out) (by have:=aY.out;have:=HH.out;omega)).2 (by omega);have x9:=hc a' a5;obtain⟨u,hu⟩:=gX (f a');rw[<-hu]at x9;obtain⟨A',c',w',al,aS,aT⟩:=qx w2 (h+1) At p ct pre (qF HO.out aX.out) ⟨u,0,0⟩ (by omega) (by have:=HB.out.size;have:=aY.out;have:=HH.out;obtain⟨t,ht⟩:=aX.out;rw[ht];show h+1<=wr.heap.size;omega);have ad:=HK.out;rw[sj a5 (by rw[<-HT.out,a8.out];exact hb)]at ad;rw[<-hu,<-a6.out]at ad;have a3:=gW (show(pre++[⟨u,0,0⟩])++jk f n z ch false a1=jk f n z ch false a by rw[List.append_assoc];exact ad);have aU:=gW al;have aV:=gW aS;have a4:=gW ((jI.below aX.out HB.out).trans aT)
       have aW:p+1<=a1/\a1<=n/\a'<a1:=by have:=a6.out;omega
       clear al aS aT ad hc hu;go_wp2_with (at_builtin;refine wpList_append_run rfl (.tmp 54) (.tmp 60) 79 rfl (af At p ct) (af (some ⟨w2.heap.size,0,none⟩) 1 1) (af A' (p+1) c') w' rfl rfl aU.out ?_)
       go_roundw
       case rel=>exact⟨p+1,a1,A',c',pre++[⟨u,0,0⟩],aW.2.1,aW.1,rfl,by go_num,a3,aV,a4⟩
       case measure=>simp[aP];omega
      ·have g1:=bg.out aZ;have g2:decide ((k:Int)<0)=true:=by simp;omega
       have g3:decide (k<0)=true:=by simp;omega
       clear aZ;obtain⟨b,o,rfl,_,hc⟩:=(HR.out.below (jI.below aX.out HB.out) (by have:=aY.out;have:=HH.out;omega)).2 (by omega);have x9:=hc a' a5;obtain⟨u,hu⟩:=gX (f a');rw[<-hu]at x9;obtain⟨A',c',w',al,aS,aT⟩:=qx w2 (h+1) At p ct pre (qF HO.out aX.out) ⟨u,0,0⟩ (by omega) (by have:=HB.out.size;have:=aY.out;have:=HH.out;obtain⟨t,ht⟩:=aX.out;rw[ht];show h+1<=wr.heap.size;omega);have ad:=HK.out;rw[sj a5 (by rw[<-HT.out,a8.out];exact hb)]at ad;rw[<-hu,<-a6.out]at ad;have a3:=gW (show(pre++[⟨u,0,0⟩])++jk f n z ch false a1=jk f n z ch false a by rw[List.append_assoc];exact ad);have aU:=gW al;have aV:=gW aS;have a4:=gW ((jI.below aX.out HB.out).trans aT)
       have aW:p+1<=a1/\a1<=n/\a'<a1:=by have:=a6.out;omega
       clear al aS aT ad hc hu;go_wp2_with (at_builtin;refine wpList_append_run rfl (.tmp 54) (.tmp 60) 79 rfl (af At p ct) (af (some ⟨w2.heap.size,0,none⟩) 1 1) (af A' (p+1) c') w' rfl rfl aU.out ?_)
       go_roundw
       case rel=>exact⟨p+1,a1,A',c',pre++[⟨u,0,0⟩],aW.2.1,aW.1,rfl,by go_num,a3,aV,a4⟩
       case measure=>simp[aP];omega
     ·have g1:=bg.out (by omega);have g2:decide ((k:Int)<0)=false:=by simp<;>omega
      have g3:decide (k<0)=false:=by simp<;>omega
      have bq:a'+k<=n:=by
       have h1:=(qX (f:=f) (L:=n) (a:=a') (size:=z) (chain:=ch) (by rw[<-HT.out];omega)).2.2.2.2.2;rw[<-HT.out]at h1;have:=(h1 (k-1) (by show k-1<k;omega)).1;omega
      obtain⟨a2,a9⟩:=gX (a'+k);have bI:(a':Int)+(k:Int)=(a2:Int):=by omega
      obtain⟨A',c',w',al,aS,aT⟩:=qx w2 (h+1) At p ct pre (qF HO.out aX.out) ⟨0,(d:Int),(k:Int)⟩ (by omega) (by have:=HB.out.size;have:=aY.out;have:=HH.out;obtain⟨t,ht⟩:=aX.out;rw[ht];show h+1<=wr.heap.size;omega);have ad:=HK.out;rw[vI a5 (by rw[<-HT.out,a8.out];exact hb)]at ad;rw[<-HT.out]at ad;replace ad:pre++⟨0,(d:Int),(k:Int)⟩::jk f n z ch false (a'+k)=jk f n z ch false a:=ad;rw[<-a9]at ad;have a3:=gW (show(pre++[⟨0,(d:Int),(k:Int)⟩])++jk f n z ch false a2=jk f n z ch false a by rw[List.append_assoc];exact ad);have aU:=gW al;have aV:=gW aS;have a4:=gW ((jI.below aX.out HB.out).trans aT)
      have aW:p+1<=a2/\a2<=n/\a'<a2:=by have:=a6.out;omega
      clear al aS aT ad a9 bq;go_wp2_with (at_builtin;refine wpList_append_run rfl (.tmp 64) (.tmp 68) 79 rfl (af At p ct) (af (some ⟨w2.heap.size,0,none⟩) 1 1) (af A' (p+1) c') w' rfl rfl aU.out ?_)
      go_roundw
      case rel=>exact⟨p+1,a2,A',c',pre++[⟨0,(d:Int),(k:Int)⟩],aW.2.1,aW.1,rfl,by go_num,a3,aV,a4⟩
      case measure=>simp[aP];omega
  ·obtain rfl:a'=n:=by omega
   have bF:¬(a':Int)<(a':Int):=by omega
   have br:=HK.out;rw[Db gY,List.append_nil]at br;have bt:=jW.iI HO.out;rw[br]at bt;have bK:=gW bt;clear br bt bz;go_wp2;go_ret;exact⟨At,p,ct,rfl,bK.out,bP.out⟩
def sE(n:Nat)(a s h m:Int):Int:=if iJ s h m=false then 8 else if 131072<n then 4 else if 0<=a/\a<=(n:Int)then 0 else 2
def um(f:Nat->Nat)(n:Nat)(a s h m:Int)(lz:Bool):List iu:=if sE n a s h m=0 then jk f n s.toNat h.toNat lz a.toNat else[]
theorem Kt{s h m:Int}(e:iJ s h m=true):1<=s/\s<=32768/\0<=h/\h<=256/\1<=m/\m<=65535:=by unfold iJ at e;exact of_decide_eq_true e
theorem DQ(w:aq)(p:iz)(Ah:Option au)(hc:Nat)(Aw:Option au)(wc:Nat)(Ap:Option au)(pc:Nat)(hp:iD w w.heap.size p Ah hc Aw wc Ap pc)(hm:iJ p.s p.h p.m=true)(hl:p.hist.length<=32768)
  (A2:Option au) (c2:Nat) (raw:List Nat) (aW:ib w w.heap.size A2 raw.length c2 (hH raw)) (h2:raw.length<=65535):
  aw prog 54 #[ah (iA p Ah hc Aw wc Ap pc),af A2 raw.length c2] w fun e w'=>∃A' n' c',e=ao (af A' n' c')/\jW w' w'.heap.size A' n' c' (jq p raw)/\aR w.heap.size w w':=by
 obtain⟨h,hh⟩:=gX (w.heap.size)
 obtain⟨X,hX⟩:=gX (iA p Ah hc Aw wc Ap pc)
 rw[<-hX]
 obtain⟨W1,aS⟩:=gX (w.alloc (ak X 32))
 have b1:aR h w W1:=by rw[aS,hh];exact ix.alloc gY _
 have x1:gZ W1 h X 32:=by rw[aS,hh];exact gZ.new w _ _
 have aU:h<W1.heap.size:=x1.lt
 obtain⟨A1,c1,w1,al,a4,A3,c3,w3,av,aV,aX⟩:=yz W1 h (by omega) Ah hc p.hist (hh▸hp.hist.below (hh▸b1) gY) A2 c2 raw (hh▸aW.below (hh▸b1) gY) (by omega) (by omega)
 obtain⟨n,hn⟩:=gX (p.hist.length)
 obtain⟨m,aT⟩:=gX (raw.length)
 obtain⟨t,ht⟩:=gX (n+m)
 have et:(p.hist++raw).length=t:=by rw[List.length_append,<-hn,<-aT,ht]
 have ad:X=#[ae aj p.s,ae aj p.h,ae aj p.m,ai p.z,af Ah n hc,af Aw p.wait.length wc,af Ap p.ie.length pc,ae aj p.k,ai p.iH]:=by rw[hX,hn];rfl
 have x3:=x1.below aV aU
 have hs:=lr hm
 have hcut:=Ks w3 A3 t c3 n p.s.toNat p.h.toNat p.m p.z (hH (p.hist++raw)) (by rw[<-et];exact aX.rd.1) (by omega) (by omega) (by omega) (by omega)
 rw[Int.toNat_of_nonneg (by omega),Int.toNat_of_nonneg (by omega)]at hcut
 have e:jk (hH (p.hist++raw)) t p.s.toNat p.h.toNat p.z n=jq p raw:=by unfold jq;rw[et,<-hn]
 rw[e]at hcut
 rw[<-hn,<-aT,<-ht]at av
 rw[<-hn]at al
 rw[<-aT]
 have q4:W1.cell? ⟨h,4,none⟩=some (af Ah n hc):=by rw[x1.cell,ad];rfl
 have r4:w3.cell? ⟨h,4,none⟩=some (af Ah n hc):=by rw[x3.cell,ad];rfl
 have r0:w3.cell? ⟨h,0,none⟩=some (ae aj p.s):=by rw[x3.cell,ad];rfl
 have r1:w3.cell? ⟨h,1,none⟩=some (ae aj p.h):=by rw[x3.cell,ad];rfl
 have r2:w3.cell? ⟨h,2,none⟩=some (ae aj p.m):=by rw[x3.cell,ad];rfl
 have r3:w3.cell? ⟨h,3,none⟩=some (ai p.z):=by rw[x3.cell,ad];rfl
 have a5:=gW aS;have aY:=gW al;have aZ:=gW av;have HH:=gW hh;have a1:=gW hcut;have a2:aQ (aR h w w3):=gW (b1.trans (aV.mono (by omega)))
 clear aS al av hh hcut b1 x1 x3 a4 aV aX hp aW hm hl h2 et ht hn aT hX ad hs e aU
 go_enter func54,ntmps54
 go_wp2_with (first
  |(rw[<-a5.out,<-HH.out])
  |(at_builtin;refine wpList_append_run rfl (.const (af none 0 0)) (.tmp 7) 22 rfl (af none 0 0) (af Ah n hc) (af A1 n c1) w1 rfl rfl aY.out ?_)
  |(at_builtin;refine wpList_append_run rfl (.tmp 8) (.tmp 9) 22 rfl (af A1 n c1) (af A2 m c2) (af A3 t c3) w3 rfl rfl aZ.out ?_)
  |fail)
 refine a1.out.mono ?_
 rintro e w4 ⟨A',n',c',rfl,ht,a3⟩
 have hb:=a2.out.trans (a3.mono (by rw[HH.out];exact a2.out.size))
 have HT:=gW ht;have HB:=gW hb
 clear ht hb a3
 go_wp2
 go_ret
 exact⟨A',n',c',rfl,HT.out,by rw[<-HH.out];exact HB.out⟩
theorem DR(w:aq)(q:List Nat)(K:Nat)(A:Option au)(c:Nat)(kind:Nat)(A1:Option au)(c1:Nat)(raw:List Nat)(A2:Option au)(t c2:Nat)(l:List iu)(last:Bool)
  (hq:ib w w.heap.size A q.length c (hH q)) (bn:q.length=(K+7)/8) (al:Qa (hH q) K) (hK:K+PR (iM (K%8) kind raw.length (hH raw) l last)<=8388608) (aT:kind<=2) (hr:ib w w.heap.size A1 raw.length c1 (hH raw)) (aU:raw.length<=65535) (ht:jW w w.heap.size A2 t c2 l) (aV:l.length<=65535) (aW:∀t∈l,iO t=true/\t.x<256):
  aw prog 56 #[ah #[af A q.length c,ae aj (K:Int)],ae .u8 (kind:Int),af A1 raw.length c1,af A2 t c2,ai last] w fun e w'=>∃A' c',e=ao (ah #[af A' (ke q K kind raw l last).1.length c',ae aj (((ke q K kind raw l last).2:Nat):Int)])/\ib w' w'.heap.size A' (ke q K kind raw l last).1.length c' (hH (ke q K kind raw l last).1)/\aR w.heap.size w w':=by
 obtain⟨h,hh⟩:=gX (w.heap.size)
 obtain⟨n,hn⟩:=gX (q.length)
 obtain⟨m,hm⟩:=gX (raw.length)
 obtain⟨a,aX⟩:=gX (K%8)
 obtain⟨PP,ad⟩:=gX (iM (K%8) kind raw.length (hH raw) l last)
 obtain⟨Z,hZ⟩:=gX ((ke q K kind raw l last).1)
 obtain⟨KT,aY⟩:=gX ((ke q K kind raw l last).2)
 obtain⟨L,hL⟩:=gX (Z.length)
 have aZ:KT=K+PR PP:=by rw[aY,ad];rfl
 have eL:L=(KT+7)/8:=by rw[hL,hZ,aY];exact rv ..
 have bE:KT<=8388608:=by rw[aZ,ad];exact hK
 have a7:=hr.1.1
 have bd:(∀x∈PP,pY x):=by rw[ad];exact CQ aT aU a7 aV aW
 have bp:PR PP<=4320000:=by rw[ad];exact ti aT aU a7 aV aW
 have bq:PP.length<=270000:=by rw[ad];exact yr aU aV
 have bf:hH Z=iE (hH q) K PP:=by
  have hc:=al.rW PP;rw[hZ,ad];rw[ad]at hc;show hH (oJ _ _)=_
  rw[yx,vG hc rfl]
 rw[<-hZ,<-aY,<-hL]
 obtain⟨W1,av⟩:=gX ((w.alloc (ak #[af A n c,ae aj (K:Int)] 30)).alloc (ak #[af none 0 0,ae aj 0] 30))
 have b1:aR h w W1:=by rw[av,hh];exact(ix.alloc gY _).alloc (by simp) _
 have x1:gZ W1 h #[af A n c,ae aj (K:Int)] 30:=by rw[av,hh];exact(gZ.new w _ _).old _
 have y1:gZ W1 (h+1) #[af none 0 0,ae aj 0] 30:=by
  rw[av,hh];have:=gZ.new (w.alloc (ak #[af A n c,ae aj (K:Int)] 30)) #[af none 0 0,ae aj 0] 30
  rwa[World.size_alloc]at this
 have aS:h+1<W1.heap.size:=y1.lt
 have on:∀V,aR W1.heap.size W1 V->aR h w V:=fun V hV=>b1.trans (hV.mono (by omega))
 have BX:aQ (∀V,aR W1.heap.size W1 V->gZ V h #[af A n c,ae aj (K:Int)] 30/\V.rangeAt h 0 [af A n c,ae aj (K:Int)]/\V.cell? ⟨h,1,none⟩=some (ae aj (K:Int))):=gW fun V hV=>
  have hx:=x1.below hV (by omega)
  ⟨hx,C9 hx,hx.cell.trans rfl⟩
 have TW:aQ (∀V,aR W1.heap.size W1 V->aw prog 35 #[ah #[af A n c,ae aj (K:Int)]] V fun e w'=>∃A' c',e=ao (ah #[af A' n c',ae aj (K:Int)])/\ib w' w'.heap.size A' n c' (hH q)/\aR V.heap.size V w'/\(∀g o,0<n->A'=some ⟨g,o,none⟩->g≠h+1)):=gW fun V hV=>by
  have a3:ib V V.heap.size A n c (hH q):=by rw[hn];exact(hq.below (hh▸on V hV) gY).more (hh▸on V hV).size
  exact(CY V A n c (hH q) (K:Int) a3.1 (by omega) a3.2.1).mono fun e w' ⟨A',c',h1,h2,h3⟩=>⟨A',c',h1,ib.iI h2 al.1,h3,fun g o h0 e=>by have:=(jh.iI h2 al.1).new g o h0 e;have:=hV.size;omega⟩
 have br:aQ (∀(V:aq),(binOp .rem 3 (ae aj (K:Int)) (ae aj 8)).run prog V=.ok (ae aj (a:Int)) V):=gW fun V=>by rw[aX];exact yC prog 3 aj K 8 (by omega) V
 have NM:aQ (∀V,aR W1.heap.size W1 V->aw prog 73 #[ae aj (a:Int),ae .u8 (kind:Int),af A1 m c1,af A2 t c2,ai last] V fun e w'=>∃A' n' c',e=ao (af A' n' c')/\lp w' w'.heap.size A' n' c' PP/\aR V.heap.size V w'):=gW fun V hV=>by
  have hb:=hh▸on V hV;have a3:ib V V.heap.size A1 m c1 (hH raw):=by rw[hm];exact(hr.below hb gY).more hb.size
  have a8:=(ht.below hb gY).more hb.size;have a5:=Dy V a kind A1 m c1 (hH raw) A2 t c2 l last (by omega) aT a3.1 (by omega) a8.1 a8.2.1 (by have:=a8.1;omega) aW;rw[aX,hm,<-ad]at a5;rw[aX,hm];exact a5
 have PT:aQ (∀(V:aq),h+1<V.heap.size->∀(A':Option au) (c':Nat) (A3:Option au) (n3 c3:Nat),ib V V.heap.size A' n c' (hH q)->(∀g o,0<n->A'=some ⟨g,o,none⟩->g≠h+1)->lp V V.heap.size A3 n3 c3 PP->aw prog 72 #[ah #[af A' n c',ae aj (K:Int)],af A3 n3 c3] V fun e w'=>∃A4 c4,e=ao (ah #[af A4 L c4,ae aj (KT:Int)])/\ib w' w'.heap.size A4 L c4 (hH Z)/\aR V.heap.size V w'/\(∀g o,0<L->A4=some ⟨g,o,none⟩->g≠h+1)):=gW fun V bF A' c' A3 n3 c3 r1 a9 r2=>by
  have bg:iK n (hH q)=hH q:=by rw[hn];exact vJ q
  have a6:=Jj V A' n c' (hH q) K A3 n3 c3 PP r1.1 r1.2 (by omega) (by rw[bg];exact al) r2.1 r2.2.1 (by have:=r2.1;omega) bd (by omega);rw[bg]at a6;refine a6.mono fun e w' ⟨A4,c4,L4,e1,e2,h1,h2,h3,h5⟩=>?_
  have el:L4=L:=by rw[e1,eL,aZ]
  subst el;exact⟨A4,c4,by rw[e2,aZ],by rw[bf];exact⟨h1,h2⟩,h3,fun g o h0 e=>by
   rcases h5 g o h0 e with⟨a1,a2⟩|a1
   ·exact a9 g o (by omega) (by rw[<-a1];exact e)
   ·omega⟩
 have bt:=gW av;have HH:=gW hh;have bu:=gW b1;have bz:=gW y1;have bj:=gW aS;have LT:=gW aS;have HN:=gW hn;have HM:=gW hm
 rw[<-hn,<-hm]
 clear av hh b1 x1 y1 aS on hq hr ht a7 bd bp bq bf al aW ad hZ aY hL aZ eL aX bn hK aT aU aV hn hm
 go_enter func56,ntmps56
 go_wp2_with (rw[<-bt.out,<-HH.out])
 refine uc 11 (nM [fun v _=>v=ah #[af A n c,ae aj (K:Int)],fun v W=>∃A' c',v=ah #[af A' n c',ae aj (K:Int)]/\ib W W.heap.size A' n c' (hH q)/\(∀g o,0<n->A'=some ⟨g,o,none⟩->g≠h+1),fun v _=>v=ag (some ⟨h,1,none⟩),fun v _=>v=ae aj (K:Int),fun v _=>v=ae aj (a:Int),fun v _=>v=ae .u8 (kind:Int),fun v _=>v=af A1 m c1,fun v _=>v=af A2 t c2,fun v _=>v=ai last,fun v W=>∃A' n' c',v=af A' n' c'/\lp W W.heap.size A' n' c' PP,fun v W=>∃A' c',v=ah #[af A' L c',ae aj (KT:Int)]/\ib W W.heap.size A' L c' (hH Z)/\(∀g o,0<L->A'=some ⟨g,o,none⟩->g≠h+1)]) W1 ix (by kernel_rfl) (by kernel_rfl) ?_ ?_
 case refine_1=>
  simp only[List.take_succ_cons,List.take_zero];refine ia.cons (fun aa wv hb ha hS Kk Qq hK=>nN (ic rfl) _ _ rfl h 0 ((ha 5 (by kernel_rfl)).trans rfl) [af A n c,ae aj (K:Int)] _ (BX.out wv hb).2.1 underlying30 rfl (ou _ _) (ij rfl) hK) ?_;refine ia.cons (fun aa wv hb ha hS Kk Qq hK=>mq (ic rfl) 35 _ _ rfl (enters_of func35 (by kernel_rfl) rfl) #[ah #[af A n c,ae aj (K:Int)]] (by simp[(show aa.eval (.tmp 11)=ah #[af A n c,ae aj (K:Int)]from(hS 0 11 (by kernel_rfl) rfl).here)]) (TW.out wv hb) (fun ee w' ⟨A',c',h1,h2,h3,h4⟩=>⟨_,h1,h3,fun W hW=>⟨_,_,rfl,(h2.below hW gY).more hW.size,h4⟩⟩) hK) ?_;refine ia.cons (fun aa wv hb ha hS Kk Qq hK=>iL (ic rfl) _ _ _ rfl _ (ag (some ⟨h,1,none⟩)) ((ha 5 (by kernel_rfl)).trans rfl) (by go_simp) (ij rfl) hK) ?_;refine ia.cons (fun aa wv hb ha hS Kk Qq hK=>lu (ic rfl) _ _ rfl _ (ae aj (K:Int)) (hS 2 13 (by kernel_rfl) rfl).here (by have hc:=(BX.out wv hb).2.2;go_simp) (ij rfl) hK) ?_;refine ia.cons (fun aa wv hb ha hS Kk Qq hK=>qD (ic rfl) _ _ _ _ _ rfl _ _ (ae aj (a:Int)) (hS 3 14 (by kernel_rfl) rfl).here rfl (sy _ _ _ _ _ _ _ (by decide) (by decide) _) (br.out wv) (ij rfl) hK) ?_;refine ia.cons (fun aa wv hb ha hS Kk Qq hK=>iS (ic rfl) _ rfl (ij ((ha 1 (by kernel_rfl)).trans rfl)) hK) ?_;refine ia.cons (fun aa wv hb ha hS Kk Qq hK=>iS (ic rfl) _ rfl (ij ((ha 2 (by kernel_rfl)).trans rfl)) hK) ?_;refine ia.cons (fun aa wv hb ha hS Kk Qq hK=>iS (ic rfl) _ rfl (ij ((ha 3 (by kernel_rfl)).trans rfl)) hK) ?_;refine ia.cons (fun aa wv hb ha hS Kk Qq hK=>iS (ic rfl) _ rfl (ij ((ha 4 (by kernel_rfl)).trans rfl)) hK) ?_;refine ia.cons (fun aa wv hb ha hS Kk Qq hK=>mq (ic rfl) 73 _ _ rfl (enters_of func73 (by kernel_rfl) rfl) #[ae aj (a:Int),ae .u8 (kind:Int),af A1 m c1,af A2 t c2,ai last] (by simp[(show aa.eval (.tmp 15)=ae aj (a:Int)from(hS 4 15 (by kernel_rfl) rfl).here),(show aa.eval (.tmp 16)=ae .u8 (kind:Int)from(hS 5 16 (by kernel_rfl) rfl).here),(show aa.eval (.tmp 17)=af A1 m c1 from(hS 6 17 (by kernel_rfl) rfl).here),(show aa.eval (.tmp 18)=af A2 t c2 from(hS 7 18 (by kernel_rfl) rfl).here),(show aa.eval (.tmp 19)=ai last from(hS 8 19 (by kernel_rfl) rfl).here)]) (NM.out wv hb) (fun ee w' ⟨A',n',c',h1,h2,h3⟩=>⟨_,h1,h3,fun W hW=>⟨_,_,_,rfl,(h2.below hW gY).more hW.size⟩⟩) hK) ?_;refine ia.cons (fun aa wv hb ha hS Kk Qq hK=>by obtain⟨A',c',e1,r1,a9⟩:=(hS 1 12 (by kernel_rfl) rfl).here;obtain⟨A3,n3,c3,e2,r2⟩:=(hS 9 20 (by kernel_rfl) rfl).here;exact mq (ic rfl) 72 _ _ rfl (enters_of func72 (by kernel_rfl) rfl) #[ah #[af A' n c',ae aj (K:Int)],af A3 n3 c3] (by simp[e1,e2]) (PT.out wv (by have:=LT.out;have:=hb.size;omega) A' c' A3 n3 c3 r1 a9 r2) (fun ee w' ⟨A4,c4,h1,h2,h3,h4⟩=>⟨_,h1,h3,fun W hW=>⟨_,_,rfl,(h2.below hW gY).more hW.size,h4⟩⟩) hK) ?_;exact ia.nil
 intro vals w6 hb hv
 obtain⟨A',c',bk,a4,bl⟩:=(hv 10 21 rfl).here
 have y6:=bz.out.below hb bj.out
 have bm:=bu.out.trans (hb.mono (by have:=bj.out;omega))
 obtain⟨U,hU⟩:=gX (w6.setRow (h+1) #[af A' L c',ae aj (KT:Int)])
 have bA:aQ (gZ U (h+1) #[af A' L c',ae aj (KT:Int)] 30):=gW (by rw[hU];exact y6.row _)
 have bB:aQ (aR h w U):=gW (by rw[hU];exact mf bm (by omega) _)
 have bG:=gW a4;have bC:=gW y6
 have bD:aQ (ib U U.heap.size A' L c' (hH Z)):=gW (by
  rw[hU,size_setRow];exact⟨a4.1.setRow _ fun g o h0 e=>bl g o h0 e,a4.2⟩)
 have HU:=gW hU
 clear hU y6 bm a4 hv hb
 simp only[List.take_succ_cons,List.take_zero,List.drop_succ_cons,List.drop_zero,List.map_cons,List.map_nil,P5,Act.put,List.setIfInBounds_toArray,List.set_cons_zero,List.set_cons_succ,bk]
 clear bk
 go_wp2_with (refine aC rfl _ _ _ rfl rfl (h+1) #[af A' L c',ae aj (KT:Int)] rfl rfl 30 #[af none 0 0,ae aj 0] bC.out lZ rfl (by simp[Value.oneCell']) ?_;rw[<-HU.out])
 refine aK (JQ rfl _ _ (h+1) #[af A' L c',ae aj (KT:Int)] rfl rfl bA.out) rfl ?_
 exact⟨A',c',rfl,bD.out,by rw[<-HH.out];exact bB.out⟩
theorem DS(A:Option au)(n c:Nat)(k:Int):prog.built 30 [(0,af A n c),(1,ae aj k)]=some #[af A n c,ae aj k]:=by kernel_rfl
theorem Ku(A:Option au)(n c:Nat)(k:Int):prog.built 108 [(0,ae aj k),(1,af A n c)]=some #[ae aj k,af A n c]:=by kernel_rfl
theorem Kv(s:Int)(A:Option au)(n c:Nat)(w:aq):(Instr.field 108 (ah #[ae aj s,af A n c]) 1).run prog w=.ok (af A n c) w:=by kernel_rfl
theorem Kw{P:Program}{w:aq}{ops:Array Oper}{rest:List Oper}{o:Oper}{a:Act}{Q:Exit->Act->aq->Prop}(ad:o.guard=none)(ty:aB)(x:Operand)(i:Nat)(ho:o.op=.field ty x i)(u v:ax)(hx:a.eval x=u)(hr:(Instr.field ty u i).run P w=.ok v w)(h:wpList P ops Q rest (a.put o.dst v) w):wpList P ops Q (o::rest) a w:=by
 refine wpList_plain ad fun K hK=>?_
 unfold Oper.wp;have:(execOp a.eval o).run P w=.ok (.value v) w:=by unfold execOp;simp only[ho,hx,Sem.run_bind,hr,Result.andThen_ok];rfl
 rw[this];exact hK _ _ h
theorem p9{w:aq}{g:Nat}{cs:Array ax}{t:aB}(h:gZ w g cs t):w.rangeAt g 0 cs.toList:=fun i v hv=>by
 rw[h.cell,Nat.zero_add];simpa using hv
def mA(base:Nat)(A:Option au)(n:Nat):Prop:=∀g o,0<n->A=some ⟨g,o,none⟩->base<=g
theorem DT(w:aq)(p:iz)(Ah:Option au)(hc:Nat)(Aw:Option au)(wc:Nat)(Ap:Option au)(pc:Nat)(hp:iD w w.heap.size p Ah hc Aw wc Ap pc)(bO:1<=p.s)(bP:p.s<=32768)(hl:p.hist.length<=1000000)
  (q:List Nat) (K:Nat) (A:Option au) (c:Nat) (hq:ib w w.heap.size A q.length c (hH q)) (bQ:q.length=(K+7)/8) (hK:K<=8388608) (A2:Option au) (c2:Nat) (raw:List Nat) (br:ib w w.heap.size A2 raw.length c2 (hH raw)) (h2:raw.length<=65535):
  aw prog 55 #[ah (iA p Ah hc Aw wc Ap pc),ah #[af A q.length c,ae aj (K:Int)],af A2 raw.length c2] w fun e w'=>∃a8 bt a9 bu Ao oc,e=ao (.tuple #[ah (iA (jQ p (q,K) raw).1 a8 bt Aw wc a9 bu),af Ao (jQ p (q,K) raw).2.length oc])/\
   iD w' w'.heap.size (jQ p (q,K) raw).1 a8 bt Aw wc a9 bu/\ib w' w'.heap.size Ao (jQ p (q,K) raw).2.length oc (hH (jQ p (q,K) raw).2)/\aR w.heap.size w w'/\mA w.heap.size a8 (jQ p (q,K) raw).1.hist.length/\mA w.heap.size a9 (jQ p (q,K) raw).1.ie.length/\mA w.heap.size Ao (jQ p (q,K) raw).2.length:=by
 obtain⟨h,hh⟩:=gX (w.heap.size)
 obtain⟨X,hX⟩:=gX (iA p Ah hc Aw wc Ap pc)
 rw[<-hX]
 obtain⟨Z,hZ⟩:=gX (iA (iR 0 0 0 false) none 0 none 0 none 0)
 have hz:=(zero_of_info oP).1
 rw[<-hZ]at hz
 obtain⟨n,hn⟩:=gX (q.length)
 obtain⟨D,hD⟩:=gX (K/8)
 obtain⟨R,hR⟩:=gX (K%8)
 obtain⟨PX,bd⟩:∃P:Array ax,P=#[af A n c,ae aj (K:Int)]:=⟨_,rfl⟩
 obtain⟨W1,av⟩:=gX (((w.alloc (ak X 32)).alloc (ak PX 30)).alloc (ak Z 32))
 have b1:aR h w W1:=by rw[av,hh];exact((ix.alloc gY _).alloc (by simp) _).alloc (by simp;omega) _
 have x1:gZ W1 h X 32:=by rw[av,hh];exact((gZ.new w _ _).old _).old _
 have p1:gZ W1 (h+1) PX 30:=by
  rw[av,hh];have:=(gZ.new (w.alloc (ak X 32)) PX 30).old (ak Z 32)
  rwa[World.size_alloc]at this
 have z1:gZ W1 (h+2) Z 32:=by
  rw[av,hh];have:=gZ.new ((w.alloc (ak X 32)).alloc (ak PX 30)) Z 32
  rwa[World.size_alloc,World.size_alloc]at this
 have a7:h+2<W1.heap.size:=z1.lt
 have aX:X=#[ae aj p.s,ae aj p.h,ae aj p.m,ai p.z,af Ah p.hist.length hc,af Aw p.wait.length wc,af Ap p.ie.length pc,ae aj p.k,ai p.iH]:=hX
 obtain⟨aY,aZ⟩:=gX (p.hist.length)
 obtain⟨rn,bf⟩:=gX (raw.length)
 obtain⟨NH,a1⟩:=gX (kq p.s.toNat (p.hist++raw))
 have a2:=JS W1 p.s.toNat (by omega) (by omega) Ah hc p.hist (hp.hist.below (hh▸b1) gY|>.more (hh▸b1).size) A2 c2 raw (br.below (hh▸b1) gY|>.more (hh▸b1).size) hl (by omega)
 rw[Int.toNat_of_nonneg (by omega),<-a1,<-aZ,<-bf]at a2
 have cm:W1.cell? ⟨h+1,1,none⟩=some (ae aj (K:Int)):=by rw[p1.cell,bd];rfl
 have q0:W1.cell? ⟨h,0,none⟩=some (ae aj p.s):=by rw[x1.cell,aX];rfl
 have q4:W1.cell? ⟨h,4,none⟩=some (af Ah aY hc):=by rw[x1.cell,aX,aZ];rfl
 have e8:(K:Int)/8=(D:Int):=by omega
 have a3:D<=n:=by omega
 have bR:n<=c:=by rw[hn];exact hq.2.2.1
 obtain⟨A5,hA5⟩:∃A5,(if c=D then A else A.map (·.add D))=A5:=⟨_,rfl⟩
 have RF:aQ (∀V,(Instr.sliceAt 22 (af A n c) (some (ae aj (D:Int))) none none).run prog V=.ok (af A5 (n-D) (c-D)) V):=gW fun V=>ud A A5 n c D a3 hA5 V
 have RT:aQ (∀V,(Instr.sliceAt 22 (af A n c) none (some (ae aj (D:Int))) none).run prog V=.ok (af A D c) V):=gW fun V=>vP A n c D (by omega) V
 have bS:aQ (∀(V:aq),(binOp .rem 3 (ae aj (K:Int)) (ae aj 8)).run prog V=.ok (ae aj (R:Int)) V):=gW fun V=>by rw[hR];exact yC prog 3 aj K 8 (by omega) V
 have bg:∀V,aR h w V->ib V V.heap.size A n c (hH q):=fun V hV=>by
  rw[hn];exact(hq.below (hh▸hV) gY).more (hh▸hV).size
 have bq:=kH (kE hq)
 have AP:aQ (∀V,aR h w V->h+3<=V.heap.size->∃A' c' w',(Builtin.append_ #[22,22] 22 #[af none 0 0,af A5 (n-D) (c-D)]).run prog V=.ok (af A' (n-D) c') w'/\jh w' (h+3) A' (n-D) c' (hH (q.drop D))/\aR V.heap.size V w'):=gW fun V hV bj=>by
  have aU:iy V V.heap.size A5 (n-D) (hH (q.drop D))/\(A5=none->c-D=0):=by
   have hv:=bg V hV;have ef:hH (q.drop D)=fun j=>hH q (j+D):=funext fun j=>tm q D j
   rcases A with _|ad
   ·have h0:=hv.2.1 rfl;have:n-D=0:=by omega
    exact⟨⟨fun j=>by rw[ef];exact bq _,fun h=>absurd h (by omega)⟩,fun _=>by omega⟩
   ·have:=hv.drop a3 hA5;rw[ef];exact⟨this.1,this.2.1⟩
  obtain⟨A',c',w',h1,h3,h4,_⟩:=qo V V.heap.size A5 (n-D) (c-D) _ aU.1 (by omega) 22 aU.2;exact⟨A',c',w',h1,(jh.iI h3 aU.1.1).mono bj,h4⟩
 have AQ:aQ (∀V,aR h w V->h+3<=V.heap.size->∃A' c' w',(Builtin.append_ #[22,22] 22 #[af none 0 0,af A D c]).run prog V=.ok (af A' D c') w'/\jh w' (h+3) A' D c' (hH (q.take D))/\aR V.heap.size V w'):=gW fun V hV bj=>by
  have hv:=bg V hV;have aU:iy V V.heap.size A D (hH (q.take D)):=by
   refine⟨fun j=>?_,fun h0=>?_⟩
   ·rcases Nat.lt_or_ge j D with g|g
    ·rw[tp q g];exact bq j
    ·rw[tZ (by rw[List.length_take];omega)];omega
   ·obtain⟨b,o,e1,e2,e3⟩:=hv.1.2 (by omega);exact⟨b,o,e1,e2,fun j hj=>by rw[tp q hj];exact e3 j (by omega)⟩
  obtain⟨A',c',w',h1,h3,h4,_⟩:=qo V V.heap.size A D c _ aU (by omega) 22 hv.2.1;exact⟨A',c',w',h1,(jh.iI h3 aU.1).mono bj,h4⟩
 have eN:(NH.length,n-D,D)=((jQ p (q,K) raw).1.hist.length,(jQ p (q,K) raw).1.ie.length,(jQ p (q,K) raw).2.length):=by
  show _=((kq p.s.toNat (p.hist++raw)).length,(q.drop (K/8)).length,(q.take (K/8)).length)
  rw[<-a1,<-hD,List.length_drop,List.length_take,<-hn,Nat.min_eq_left a3]
 obtain⟨nh,bk⟩:=gX (NH.length)
 rw[<-bk]at a2 eN
 have eL:jQ p (q,K) raw=({p with hist:=NH,ie:=q.drop D,k:=((R:Nat):Int)},q.take D):=by rw[a1,hD,hR];rfl
 have bz:=hp.wait
 have a4:=gW aX;have HH:=gW hh;have bT:=gW b1;have bU:=gW x1;have bV:=gW z1;have bW:=gW a7;have bX:=gW a2;have bA:=gW eL;have bB:=gW eN;have bY:aQ (Z.size=9):=gW (by rw[hZ];rfl)
 have cl:=gW bk;have bZ:=gW bz;have b0:=gW aZ;have b2:aQ (IntKind.i64.wrap ((K:Int)/8)=(D:Int)):=gW (by rw[e8];exact wrap_i64 D (by omega))
 have cn:=b2.out
 have cp:wrap64 (D:Int)=(D:Int):=by unfold wrap64;omega
 rw[bd]at av p1
 have b3:=gW p1
 have b4:=gW av
 rw[<-hn,<-bf]
 clear hZ hD hR bd av hh b1 x1 p1 z1 a7 aX hX a2 a3 bR bg bq hA5 eN eL bz bk a1 hn bf aZ hp hq br bQ hK hl h2 bO bP
 go_enter func55,ntmps55
 go_wp2_with (first
  |(rw[<-b4.out,<-HH.out])
  |(refine wpList_buildTo rfl 108 #[(0,.tmp 14),(1,.tmp 16)] rfl (some 17) rfl #[ae aj p.s,af Ah aY hc] ?_ ?_;focus(simpa[Act.eval,Act.put]using Ku Ah aY hc p.s))
  |fail)
 refine bX.out.mono ?_
 rintro e w2 ⟨A6,c6,rfl,bC,aW⟩
 have bD:=bW.out
 have x2:=bU.out.below aW (by omega)
 have p2:=b3.out.below aW (by omega)
 have z2:=bV.out.below aW bD
 have r4:w2.cell? ⟨h,4,none⟩=some (af Ah aY hc):=by rw[x2.cell,a4.out,b0.out];rfl
 have f4:w2.frozen? ⟨h,4,none⟩=false:=x2.free
 obtain⟨w3,aS⟩:=gX (w2.setCell ⟨h,4,none⟩ (af A6 nh c6))
 have bE:aQ (gZ w3 h (X.setIfInBounds 4 (af A6 nh c6)) 32):=gW (by rw[aS];exact x2.set 4 _)
 have aV:aQ (gZ w3 (h+1) #[af A n c,ae aj (K:Int)] 30):=gW (by rw[aS];exact p2.other (by show h+1≠h;omega) _)
 have bl:aQ (gZ w3 (h+2) Z 32):=gW (by rw[aS];exact z2.other (by show h+2≠h;omega) _)
 have bF:aQ (aR h w w3):=gW (by rw[aS];exact kh (bT.out.trans (aW.mono (by omega))) gY _ _)
 have bm:aQ (h+3<=w3.heap.size):=gW (by have:=bl.out.lt;omega)
 have b5:aQ (jh w3 (h+3) A6 nh c6 (hH NH)):=gW (by rw[aS];exact(bC.mono (by omega)).set (by omega) _ _)
 have b6:=gW aS
 clear aS x2 p2 z2 bC aW bD
 go_wp2_with (first
  |(rw[<-b6.out])
  |(refine Kw rfl _ _ _ rfl _ _ rfl (Kv p.s A6 nh c6 _) ?_))
 refine uc 10 (nM [fun v _=>v=ag (some ⟨h+1,0,none⟩),fun v _=>v=af A n c,fun v _=>v=ae aj (D:Int),fun v _=>v=af A5 (n-D) (c-D),fun v W=>∃A' c',v=af A' (n-D) c'/\jh W (h+3) A' (n-D) c' (hH (q.drop D)),fun v _=>v=ag (some ⟨h+1,1,none⟩),fun v _=>v=ae aj (K:Int),fun v _=>v=ae aj (R:Int),fun v W=>∃A' c',v=ah #[af A' (n-D) c',ae aj (R:Int)]/\jh W (h+3) A' (n-D) c' (hH (q.drop D)),fun v _=>v=ag (some ⟨h,6,none⟩)]) w3 ix (by kernel_rfl) (by kernel_rfl) ?_ ?_
 case refine_1=>
  simp only[List.take_succ_cons,List.take_zero];refine ia.cons (fun aa wv hb ha hS Kk Qq hK=>iL (ic rfl) _ _ _ rfl _ (ag (some ⟨h+1,0,none⟩)) ((ha 4 (by kernel_rfl)).trans rfl) (by go_simp) (ij rfl) hK) ?_;refine ia.cons (fun aa wv hb ha hS Kk Qq hK=>lu (ic rfl) _ _ rfl _ (af A n c) (hS 0 22 (by kernel_rfl) rfl).here (by have hc:wv.cell? ⟨h+1,0,none⟩=some (af A n c):=(aV.out.below hb aV.out.lt).cell.trans rfl;go_simp) (ij rfl) hK) ?_;refine ia.cons (fun aa wv hb ha hS Kk Qq hK=>iS (ic rfl) _ rfl (ij ((ha 8 (by kernel_rfl)).trans rfl)) hK) ?_;refine ia.cons (fun aa wv hb ha hS Kk Qq hK=>rB (ic rfl) _ _ _ _ _ rfl (af A n c) (af A5 (n-D) (c-D)) (some (ae aj (D:Int))) none none (hS 1 23 (by kernel_rfl) rfl).here (congrArg some (hS 2 24 (by kernel_rfl) rfl).here) rfl rfl (RF.out wv) (ij rfl) hK) ?_;refine ia.cons (fun aa wv hb ha hS Kk Qq hK=>by obtain⟨A',c',w',h1,h2,h3⟩:=AP.out wv (bF.out.trans (hb.mono (by have:=bm.out;omega))) (by have:=bm.out;have:=hb.size;omega);exact DE (ic rfl) _ _ _ rfl _ _ _ rfl (hS 3 25 (by kernel_rfl) rfl).here h1 h3 (fun W hW=>⟨_,_,rfl,h2.below hW⟩) hK) ?_;refine ia.cons (fun aa wv hb ha hS Kk Qq hK=>iL (ic rfl) _ _ _ rfl _ (ag (some ⟨h+1,1,none⟩)) ((ha 4 (by kernel_rfl)).trans rfl) (by go_simp) (ij rfl) hK) ?_;refine ia.cons (fun aa wv hb ha hS Kk Qq hK=>lu (ic rfl) _ _ rfl _ (ae aj (K:Int)) (hS 5 27 (by kernel_rfl) rfl).here (by have hc:wv.cell? ⟨h+1,1,none⟩=some (ae aj (K:Int)):=(aV.out.below hb aV.out.lt).cell.trans rfl;go_simp) (ij rfl) hK) ?_;refine ia.cons (fun aa wv hb ha hS Kk Qq hK=>qD (ic rfl) _ _ _ _ _ rfl _ _ (ae aj (R:Int)) (hS 6 28 (by kernel_rfl) rfl).here rfl (sy _ _ _ _ _ _ _ (by decide) (by decide) _) (bS.out wv) (ij rfl) hK) ?_;refine ia.cons (fun aa wv hb ha hS Kk Qq hK=>by have b7:=(show aa.eval (.tmp 29)=ae aj (R:Int)from(hS 7 29 (by kernel_rfl) rfl).here);have b8:=hS 4 26 (by kernel_rfl) rfl;obtain⟨A',c',e1,r1⟩:=b8.here;exact DF (ic rfl) _ #[(0,.tmp 26),(1,.tmp 29)] rfl #[af A' (n-D) c',ae aj (R:Int)] (by simpa[e1,b7]using DS A' (n-D) c' (R:Int)) (fun W hW=>⟨_,_,rfl,r1.below hW⟩) hK) ?_;refine ia.cons (fun aa wv hb ha hS Kk Qq hK=>iL (ic rfl) _ _ _ rfl _ (ag (some ⟨h,6,none⟩)) ((ha 3 (by kernel_rfl)).trans rfl) (by go_simp) (ij rfl) hK) ?_;exact ia.nil
 intro vals w5 hb hv
 obtain⟨A7,c7,bG,n7⟩:=(hv 8 30 rfl).here
 have bH:vals 31=ag (some ⟨h,6,none⟩):=(hv 9 31 rfl).here
 have x5:=bE.out.below hb bE.out.lt
 have p5:=aV.out.below hb aV.out.lt
 have z5:=bl.out.below hb bl.out.lt
 have s6:w5.cell? ⟨h,6,none⟩=some (af Ap p.ie.length pc):=by rw[x5.cell,a4.out];rfl
 have s7:w5.cell? ⟨h,7,none⟩=some (ae aj p.k):=by rw[x5.cell,a4.out];rfl
 have f6:w5.frozen? ⟨h,6,none⟩=false:=x5.free
 have f7:w5.frozen? ⟨h,7,none⟩=false:=x5.free
 obtain⟨w4,al⟩:=gX ((w5.setCell ⟨h,6,none⟩ (af A7 (n-D) c7)).setCell ⟨h,7,none⟩ (ae aj (R:Int)))
 obtain⟨Y,hY⟩:=gX (iA (jQ p (q,K) raw).1 A6 c6 Aw wc A7 c7)
 have aT:=bB.out
 have bI:aQ (gZ w4 h Y 32):=gW (by
  have a:=(x5.set 6 (af A7 (n-D) c7)).set 7 (ae aj (R:Int));rw[a4.out]at a;rw[al,hY];have e1:(jQ p (q,K) raw).1.hist.length=nh:=(congrArg (·.1) aT).symm;have e2:(jQ p (q,K) raw).1.ie.length=n-D:=(congrArg (·.2.1) aT).symm;unfold iA;rw[e1,e2,bA.out];exact a)
 have bJ:aQ (gZ w4 (h+1) #[af A n c,ae aj (K:Int)] 30):=gW (by rw[al];exact(p5.other (by show h+1≠h;omega) _).other (by show h+1≠h;omega) _)
 have bn:aQ (gZ w4 (h+2) Z 32):=gW (by rw[al];exact(z5.other (by show h+2≠h;omega) _).other (by show h+2≠h;omega) _)
 have bK:aQ (aR h w w4):=gW (by rw[al];exact kh (kh (bF.out.trans (hb.mono (by have:=bm.out;omega))) gY _ _) gY _ _)
 have bp:aQ (h+3<=w4.heap.size):=gW (by have:=bn.out.lt;omega)
 have b9:aQ (jh w4 (h+3) A6 nh c6 (hH NH)):=gW (by rw[al];exact((b5.out.below hb).set (by omega) _ _).set (by omega) _ _)
 have ca:aQ (jh w4 (h+3) A7 (n-D) c7 (hH (q.drop D))):=gW (by rw[al];exact(n7.set (by omega) _ _).set (by omega) _ _)
 have a5:aQ (Y.size=9):=gW (by rw[hY];rfl)
 have cb:aQ (Y.all (·.oneCell')=true):=gW (by rw[hY];exact kW ..)
 have cf:=gW hY;have cg:=gW al
 clear al hY x5 p5 z5 n7 hb hv aT
 simp only[List.take_succ_cons,List.take_zero,List.drop_succ_cons,List.drop_zero,List.map_cons,List.map_nil,P5,Act.put,List.setIfInBounds_toArray,List.set_cons_zero,List.set_cons_succ,bG,bH]
 clear bG bH
 go_wp2_with (rw[<-cg.out])
 refine uc 6 (nM [fun v _=>v=ah Y,fun v _=>v=ag (some ⟨h+1,0,none⟩),fun v _=>v=af A n c,fun v _=>v=ae aj (D:Int),fun v _=>v=af A D c,fun v W=>∃A' c',v=af A' D c'/\jh W (h+3) A' D c' (hH (q.take D))]) w4 ix (by kernel_rfl) (by kernel_rfl) ?_ ?_
 case refine_1=>
  simp only[List.take_succ_cons,List.take_zero];refine ia.cons (fun aa wv hb ha hS Kk Qq hK=>by have hx:=bI.out.below hb bI.out.lt;exact nN (ic rfl) _ _ rfl h 0 ((ha 3 (by kernel_rfl)).trans rfl) Y.toList _ (p9 hx) underlying32 rfl (by rw[Array.length_toList,a5.out];exact iF) (ij rfl) hK) ?_;refine ia.cons (fun aa wv hb ha hS Kk Qq hK=>iL (ic rfl) _ _ _ rfl _ (ag (some ⟨h+1,0,none⟩)) ((ha 4 (by kernel_rfl)).trans rfl) (by go_simp) (ij rfl) hK) ?_;refine ia.cons (fun aa wv hb ha hS Kk Qq hK=>lu (ic rfl) _ _ rfl _ (af A n c) (hS 1 33 (by kernel_rfl) rfl).here (by have hc:wv.cell? ⟨h+1,0,none⟩=some (af A n c):=(bJ.out.below hb bJ.out.lt).cell.trans rfl;go_simp) (ij rfl) hK) ?_;refine ia.cons (fun aa wv hb ha hS Kk Qq hK=>iS (ic rfl) _ rfl (ij ((ha 8 (by kernel_rfl)).trans rfl)) hK) ?_;refine ia.cons (fun aa wv hb ha hS Kk Qq hK=>rB (ic rfl) _ _ _ _ _ rfl (af A n c) (af A D c) none (some (ae aj (D:Int))) none (hS 2 34 (by kernel_rfl) rfl).here rfl (congrArg some (hS 3 35 (by kernel_rfl) rfl).here) rfl (RT.out wv) (ij rfl) hK) ?_;refine ia.cons (fun aa wv hb ha hS Kk Qq hK=>by obtain⟨A',c',w',h1,h2,h3⟩:=AQ.out wv (bK.out.trans (hb.mono (by have:=bp.out;omega))) (by have:=bp.out;have:=hb.size;omega);exact DE (ic rfl) _ _ _ rfl _ _ _ rfl (hS 4 36 (by kernel_rfl) rfl).here h1 h3 (fun W hW=>⟨_,_,rfl,h2.below hW⟩) hK) ?_;exact ia.nil
 intro vals w6 hb hv
 obtain⟨A8,c8,bL,n8⟩:=(hv 5 37 rfl).here
 have bM:vals 32=ah Y:=(hv 0 32 rfl).here
 have z6:=bn.out.below hb bn.out.lt
 obtain⟨U,hU⟩:=gX (w6.setRow (h+2) Y)
 have ch:aQ (gZ U (h+2) Y 32):=gW (by rw[hU];exact z6.row Y)
 have bN:aQ (aR h w U):=gW (by rw[hU];exact mf (bK.out.trans (hb.mono (by have:=bp.out;omega))) (by omega) _)
 have cj:aQ (jh U (h+3) A6 nh c6 (hH NH)/\jh U (h+3) A7 (n-D) c7 (hH (q.drop D))/\jh U (h+3) A8 D c8 (hH (q.take D))):=gW (by
  rw[hU];exact⟨(b9.out.below hb).row (by omega) _,(ca.out.below hb).row (by omega) _,n8.row (by omega) _⟩)
 have HU:=gW hU;have ck:=gW z6
 clear hU z6 hb hv n8
 simp only[List.take_succ_cons,List.take_zero,List.drop_succ_cons,List.drop_zero,List.map_cons,List.map_nil,P5,Act.put,List.setIfInBounds_toArray,List.set_cons_zero,List.set_cons_succ,bM,bL]
 clear bM bL
 go_wp2_with (refine aC rfl _ _ _ rfl rfl (h+2) Y rfl rfl 32 Z ck.out (by rw[a5.out];exact iF) (by rw[bY.out,a5.out]) cb.out ?_;rw[<-HU.out])
 refine aK (sk rfl _ _ (h+2) Y a5.out rfl ch.out) rfl ?_
 obtain⟨u1,u2,u3⟩:=cj.out
 have aT:=bB.out
 have e1:nh=(jQ p (q,K) raw).1.hist.length:=congrArg (·.1) aT
 have e2:n-D=(jQ p (q,K) raw).1.ie.length:=congrArg (·.2.1) aT
 have e3:D=(jQ p (q,K) raw).2.length:=congrArg (·.2.2) aT
 have a6:=bA.out
 have g1:(jQ p (q,K) raw).1.hist=NH:=by rw[a6]
 have g2:(jQ p (q,K) raw).1.ie=q.drop D:=by rw[a6]
 have g3:(jQ p (q,K) raw).2=q.take D:=by rw[a6]
 have g4:(jQ p (q,K) raw).1.wait=p.wait:=by rw[a6]
 refine⟨A6,c6,A7,c7,A8,c8,?_,⟨?_,?_,?_⟩,?_,by rw[<-HH.out];exact bN.out,?_,?_,?_⟩
 ·rw[<-cf.out,<-e3];rfl
 ·rw[<-e1,g1];exact u1.rd
 ·rw[g4];have hb:=bN.out;rw[HH.out]at hb;exact(bZ.out.below hb gY).more hb.size
 ·rw[<-e2,g2];exact u2.rd
 ·rw[<-e3,g3];exact u3.rd
 ·rw[<-e1,<-HH.out];exact fun g o h0 e=>by have:=u1.new g o h0 e;omega
 ·rw[<-e2,<-HH.out];exact fun g o h0 e=>by have:=u2.new g o h0 e;omega
 ·rw[<-e3,<-HH.out];exact fun g o h0 e=>by have:=u3.new g o h0 e;omega
theorem Kx(w:aq)(p:iz)(Ah:Option au)(hc:Nat)(Aw:Option au)(wc:Nat)(Ap:Option au)(pc:Nat)(hp:iD w w.heap.size p Ah hc Aw wc Ap pc)(aT:1<=p.s)(aU:p.s<=32768)(hl:p.hist.length<=1000000)
  (q:List Nat) (K:Nat) (A:Option au) (c:Nat) (hq:ib w w.heap.size A q.length c (hH q)) (aV:q.length=(K+7)/8) (hK:K<=8388608) (A2:Option au) (c2:Nat) (raw:List Nat) (aW:ib w w.heap.size A2 raw.length c2 (hH raw)) (h2:raw.length<=65535):
  aw prog 55 #[ah (iA p Ah hc Aw wc Ap pc),ah #[af A q.length c,ae aj (K:Int)],af A2 raw.length c2] w fun e w'=>∃ad al av aS Ao oc,e=ao (.tuple #[ah (iA (jQ p (q,K) raw).1 ad al Aw wc av aS),af Ao (jQ p (q,K) raw).2.length oc])/\
   iD w' w'.heap.size (jQ p (q,K) raw).1 ad al Aw wc av aS/\ib w' w'.heap.size Ao (jQ p (q,K) raw).2.length oc (hH (jQ p (q,K) raw).2)/\aR w.heap.size w w':=
 (DT w p Ah hc Aw wc Ap pc hp aT aU hl q K A c hq aV hK A2 c2 raw aW h2).mono fun _ _ ⟨a1,a2,a3,a4,a5,a6,k1,k2,k3,k4,_⟩=>⟨a1,a2,a3,a4,a5,a6,k1,k2,k3,k4⟩
end Go.Proofs.YtokpcpjnihinfaaGreat
