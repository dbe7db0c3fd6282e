/-
  Words and walks.
-/
import Derived.Sort.QuietIn
import Derived.Test.YtgokdgcmkcmjeaaGreatqkaa
import Derived.Test.YtgokdgcmkcmjeaaGreatqkab
import Derived.Test.YtgokdgcmkcmjeaaGreatqkad
import Derived.Test.YtgokdgcmkcmjeaaGreatqkae
set_option maxRecDepth 100000
set_option maxHeartbeats 16000000
namespace Go.Proofs.YtgokdgcmkcmjeaaGreat
open Value renaming int → ae, slice → af, pointer → ag
open IntKind renaming i64 → ak
open Obj renaming cells → ao
open Ending renaming returned → aq
open Go renaming World → au, Addr → aw, Value → ay, bodyPost_ret → aL
open Go.RowKit renaming Below → aS
open _root_.Go.Proofs.Tryz
open Go.RowKit Go.Shelf
attribute [local go_sem] Oper.semAt_some
theorem sE(f:FuncId):Fence.wide.fn f=True:=rfl
attribute [local simp] sE
theorem Bf{w:au}{B n c lo hi:Nat}{ad:aw}{A2:Option aw}{f:Nat->Nat}(h:fB w B (some ad) n f)(al:lo<=hi)(av:hi<=n)(hc:n<=c)(hA:(if c=lo then(some ad:Option aw)else some (ad.add lo))=A2):fB w B A2 (hi-lo) (fun k=>f (k+lo)):=by
 refine⟨fun j=>h.1 _,fun hn=>?_⟩;obtain⟨b,o,e,hb,ah⟩:=h.2 (by omega);cases e
 rw[if_neg (by omega)]at hA;have e:(⟨b,o,none⟩:aw).add lo=⟨b,o+lo,none⟩:=by unfold Addr.add;split<;>simp_all
 rw[e]at hA;refine⟨b,o+lo,hA.symm,hb,fun j hj=>?_⟩;have:=ah (j+lo) (by omega);rw[show o+lo+j=o+(j+lo) by omega];exact this
theorem GC{f:Nat->Nat}{L a q:Nat}(h:a+3<=L):3<=jL f L a q↔∀i,i<3->f (q+i)=f (a+i):=by
 obtain⟨h1,h2,h3⟩:=uO f L a q;constructor
 ·intro h i hi;exact(h2 i (by omega)).2
 ·intro hh;rcases Nat.lt_or_ge (jL f L a q) 3 with g|g
  ·rcases h3 with h3|h3
   ·omega
   ·exact absurd ⟨by omega,hh _ g⟩ h3
  ·exact g
theorem OZ{f:Nat->Nat}{L a q:Nat}(h:a<=L)(h3:L-a<3):¬3<=jL f L a q:=by
 have:=DM (f:=f) (p:=q) h;omega
theorem GD{f:Nat->Nat}{L a q:Nat}(h:f q≠f a):¬3<=jL f L a q:=by
 intro h3;obtain⟨h1,h2,_⟩:=uO f L a q;exact h (h2 0 (by omega)).2
def od(f:Nat->Nat)(n a j:Nat):Prop:=3<=jL f n a (a-1-j)
def vG(a j:Nat):Array ay:=#[ae ak ((a-1-j:Nat):Int)]
theorem xV{J:Nat->au->Prop}{ok:Nat->Prop}{L:Nat}(h:∀j W1,J j W1->j<L->¬ok j->J (j+1) W1){j:Nat}{W:au}(hJ:J j W):∀d,j+d<=L->(∀i,j<=i->i<j+d->¬ok i)->J (j+d) W
 |0,_,_=>hJ
 |d+1,h1,h2=>h (j+d) W (xV h hJ d (by omega) fun i hi ad=>h2 i hi (by omega)) (by omega) (h2 (j+d) (by omega) (by omega))
theorem O0(fu:Nat)(hn:1<=fu)(l Bb Ba Bs B:Nat)(A:Option aw)(n c a z:Nat)(f:Nat->Nat)(S:Nat->Prop)(hS:S Bb/\S Ba/\S Bs)(bD:∀k,k<B->S k)(hlen:n<=1000000)(_:c<=maxLen)(ha:a<=n)(bg:n<=c)(hz:z<=1000000)
  (J Jx:Nat->au->Prop)
  (bE:∀j W1,J j W1->j<min z a->¬od f n a j->J (j+1) W1)
  (hY:∀j W1,J j W1->j<min z a->od f n a j->YieldAt Fence.wide (fu-1) prog l (vG a j) W1 fun e W'=>(e=aq (.bool true)/\J (j+1) W'/\fC S W1 W')\/(e=aq (.bool false)/\Jx j W'))
  (hd:∀W1 W2 j,J j W1->(∃t,W2=W1.drewN t)->J j W2)
  (W:au) (bT:W.cell? ⟨Bb,0,none⟩=some (af A n c)) (bF:W.cell? ⟨Ba,0,none⟩=some (ae ak (a:Int))) (b8:W.cell? ⟨Bs,0,none⟩=some (ae ak (z:Int))) (hr:fB W B A n f) (h0:J 0 W):
  CallsIn Fence.wide fu prog 207 #[.func (.yield l) #[] #[],ag (some ⟨Bb,0,none⟩),ag (some ⟨Ba,0,none⟩),ag (some ⟨Bs,0,none⟩)] W fun e W'=>(∃v,e=aq v)/\(J (min z a) W'\/∃j,j<min z a/\Jx j W'):=by
 obtain⟨M,hM⟩:=fb (min (n-a) 258)
 have bj:=xU W A n c a ha hlen
 rw[<-hM]at bj
 have bl:=fa bj
 refine callsIn_of_wp func207 rfl trivial ?_ rfl
 simp only[ntmps207,List.size_toArray,List.length_cons,List.length_nil,Nat.reduceAdd,Nat.reduceSub,Array.replicate_succ,Array.replicate_zero,List.push_toArray,List.append_toArray,List.nil_append,List.cons_append]
 have HR:=fa hr;have HS:=fa bD;have HM:=fa hM;have HY:=fa hY;have a1:=fa bE;have HD:=fa hd
 clear hr bD hM bj hY bE hd
 by_cases b9:M<3
 ·have bf:∀i,¬od f n a i:=fun i=>OZ ha (by have:=HM.out;omega)
  have aU:=xV a1.out h0 (min z a) (by omega) (fun i _ _=>bf i);rw[Nat.zero_add]at aU;have bn:=fa aU;have bU:(M:Int)<3:=by omega
  clear bf aU;gi_wp2_with (gi_at_call 206;refine(callsIn_wide.2 bl.out).mono ?_;rintro e w' ⟨rfl,rfl⟩)
  refine aL (results_none rfl _ _ _) rfl ?_;exact⟨⟨_,rfl⟩,.inl bn.out⟩
 ·have bU:¬(M:Int)<3:=by omega
  have bq:a+3<=n:=by have:=HM.out;omega
  obtain⟨ad,rfl⟩:∃ad,A=some ad:=by
   obtain⟨b,o,h,_⟩:=HR.out.2 (by omega);exact⟨_,h⟩
  obtain⟨A1,hA1⟩:∃A1,(if c=a then(some ad:Option aw)else some (ad.add a))=A1:=⟨_,rfl⟩;have aW:=Bf (hi:=a+3) HR.out (by omega) bq bg hA1;obtain⟨b1,o1,rfl,bV,bW⟩:=aW.2 (by omega);obtain⟨low,bX⟩:=fb (a-z);obtain⟨L,hL⟩:=fb (min z a);have eL:L=a-low:=by omega
  have ca:low<=a:=by omega
  have bG:(if(a:Int)-(z:Int)<0 then 0 else(a:Int)-(z:Int))=(low:Int):=by split<;>omega
  have e3:a+3-a=3:=by omega
  rw[e3]at aW;rw[<-hL]at HY a1⊢;have bH:=fa aW;have cb:=fa hA1
  clear aW bW bV hL bX;gi_wp2_with (gi_at_call 206;refine(callsIn_wide.2 bl.out).mono ?_;rintro e w' ⟨rfl,rfl⟩)
  gi_region
  simp only[e3];have av:=HD.out _ _ _ h0 ⟨1,rfl⟩;change J 0 W.drew at av;have aT:fC S W W.drew:=fC.refl S W;obtain⟨V,hV⟩:=fb (W.drew);rw[<-hV]at av aT⊢;have bY:=(aT.cell (p:=⟨Ba,0,none⟩) hS.2.1).trans bF;have bZ:=fa av;have b0:=fa aT
  clear hV av aT h0 bG e3 bl hA1;gi_wp2
  gi_loopw [7] (fun kv wr=>∃j:Nat,j<=L/\kv=ae ak ((a-j:Nat):Int)/\Hid (J j wr)/\Hid (fC S W wr)) (fun kv _=>(intOf kv).toNat)
  case atStart=>exact⟨0,Nat.zero_le _,rfl,bZ,b0⟩
  case round=>
   obtain⟨j,hj,rfl,HJ,HK⟩:=hrel;obtain⟨g,hg⟩:=fb (a-j);rw[<-hg];have b3:low<=g:=by omega
   have cf:g<=a:=by omega
   have c1:=(HK.out.cell (p:=⟨Bb,0,none⟩) hS.1).trans bT;have c2:=(HK.out.cell (p:=⟨Ba,0,none⟩) hS.2.1).trans bF;have br:=fa (HR.out.kept HK.out HS.out);have bt:=fa (bH.out.kept HK.out HS.out);obtain⟨b2,o2,a2,_,bI⟩:=bt.out.2 (by omega);injection a2 with a2
   injection a2 with a2 b4 _
   subst a2;subst b4;have c3:wr.cell? ⟨b1,o1,none⟩=some (ae .u8 (f a:Int)):=by have h:=bI 0 (by omega);simpa using h
   have a3:=Bf (hi:=g) br.out b3 (by omega) bg (if_neg (by omega));obtain⟨R,hR⟩:=fb (Vu (fun k=>f (k+low)) (f a) (g-low));have bu:=fun(t cc:Nat)=>OT (wr.drewN t) B (some (ad.add low)) (g-low) cc (fun k=>f (k+low)) (f a) a3 (by omega)
   rw[<-hR]at bu;have bx:=Gy (fun k=>f (k+low)) (f a) (g-low);rw[<-hR]at bx;have bJ:=fa bu;have b5:=fa bx;have HG:=fa hg;have bz:=fa eL
   have cg:(low:Int)<=(g:Int):=by omega
   have ch:(g:Int)<=(c:Int):=by omega
   clear bu bx a3 bI hR hg eL;clear bY;gi_wp2
   gi_quiet ((gi_at_call 208;exact CallsIn.quiet_of_same (callsIn_wide.2 (bJ.out _ _))))
   have av:=HD.out _ _ _ HJ.out ⟨nq,rfl⟩;have aT:fC S W (wr.drewN nq):=HK.out;have a4:fB (wr.drewN nq) B (some ad) n f:=br.out;have a5:fB (wr.drewN nq) B (some ⟨b1,o1,none⟩) 3 (fun k=>f (k+a)):=bt.out;have v1:(wr.drewN nq).cell? ⟨Bb,0,none⟩=some (af (some ad) n c):=c1;obtain⟨V,hV⟩:=fb (wr.drewN nq);rw[<-hV]at av aT a4 a5 v1⊢;have bK:=fa av;have bL:=fa aT
   clear av aT hV HJ HK br bt bJ c1 c2 c3;rcases b5.out with⟨rfl,bM⟩|⟨m,rfl,hm,bN,aV⟩
   ·have a6:∀i,j<=i->i<L->¬od f n a i:=fun i h1 h2=>by
     have bO:=HG.out;have bP:=bz.out
     have h:=bM (a-1-i-low) (by omega);refine GD ?_;rw[show a-1-i=a-1-i-low+low by omega];exact h
    have aU:=xV a1.out bK.out (L-j) (by omega) (fun i h1 h2=>a6 i h1 (by omega));rw[show j+(L-j)=L by omega]at aU;have bn:=fa aU;clear bM a6 aU a4 a5 v1;gi_wp2
    refine aL (results_none rfl _ _ _) rfl ?_;exact⟨⟨_,rfl⟩,.inl bn.out⟩
   ·obtain⟨p,hp⟩:=fb (low+m);have ep:(low:Int)+(m:Int)=(p:Int):=by omega
    have cj:p<g:=by omega
    have ck:p<n:=by omega
    obtain⟨js,bQ⟩:=fb (a-1-p);have al:j<=js/\js<L/\a-1-js=p/\a-(js+1)=p:=by
     have bO:=HG.out;have bP:=bz.out;omega
    have a7:=xV a1.out bK.out (js-j) (by omega) (fun i h1 h2=>by
     have bO:=HG.out;have bP:=bz.out
     refine GD ?_;have h:=aV (a-1-i-low) (by omega) (by omega);rw[show a-1-i=a-1-i-low+low by omega];exact h)
    rw[show j+(js-j)=js by omega]at a7;have bA:=Bf (hi:=n) a4 (show p<=n by omega) fe bg (if_neg (by omega));have aY:=OX V B (some (ad.add p)) (some ⟨b1,o1,none⟩) (n-p) (c-p) 3 (c-a) (fun k=>f (k+p)) (fun k=>f (k+a)) bA a5 (by omega) (by omega);have aX:∀k,f k<256:=HR.out.1;have cl:¬(m:Int)<0:=by omega
    have cm:(p:Int)<=(n:Int):=by omega
    by_cases ah:∀i,i<3->f (i+p)=f (i+a)
    ·have a8:od f n a js:=by
      unfold od;rw[al.2.2.1,GC bq];intro i hi;rw[Nat.add_comm p i,Nat.add_comm a i];exact ah i hi
     rw[OV ah]at aY;obtain⟨fn,tmps,assign,body,hy,hR⟩:=HY.out _ _ a7 al.2.1 a8;have bR:vG a js=#[ae ak (p:Int)]:=by unfold vG;rw[al.2.2.1]
     rw[bR]at hy;have bB:=fa aY;have b6:=fa hR
     have aZ:=fa al;clear aY hR bA a5 a4 a8 aV bN bR a7 ah aX hp bQ al;gi_wp2_with (gi_at_call 209;refine(callsIn_wide.2 bB.out).mono ?_;rintro e w' ⟨rfl,rfl⟩)
     refine b6.out.mono ?_;rintro e W3 (⟨rfl,a9,bS⟩|⟨rfl,hX⟩)
     ·have bC:=fa a9;have b7:=fa (bL.out.tr bS)
      clear a9 bS;gi_wp2
      go_roundw
      case rel=>exact⟨js+1,aZ.out.2.1,by rw[aZ.out.2.2.2],bC,b7⟩
      case measure=>simp[intOf];omega
     ·have HX:=fa hX;clear hX;gi_wp2
      refine aL (results_none rfl _ _ _) rfl ?_;exact⟨⟨_,rfl⟩,.inr ⟨js,aZ.out.2.1,HX.out⟩⟩
    ·have a8:¬od f n a js:=by
      unfold od;rw[al.2.2.1,GC bq];intro h;refine ah fun i hi=>?_
      have:=h i hi;rw[Nat.add_comm p i,Nat.add_comm a i]at this;exact this
     rw[OW (fun k=>aX _) (fun k=>aX _) ah]at aY;have a9:=a1.out _ _ a7 al.2.1 a8;have bB:=fa aY;have aZ:=fa al;have bC:=fa a9
     clear aY bA a5 a4 a8 aV bN a7 ah aX hp bQ al a9;gi_wp2_with (gi_at_call 209;refine(callsIn_wide.2 bB.out).mono ?_;rintro e w' ⟨rfl,rfl⟩)
     all_goals(try refine⟨(fun f h=>by cases h),?_⟩)
     all_goals(try gi_wp2)
     go_roundw
     case rel=>exact⟨js+1,aZ.out.2.1,by rw[aZ.out.2.2.2],bC,bL⟩
     case measure=>simp[intOf];omega
theorem O5(fu:Nat)(hn:1<=fu)(Bb Ba Bs B:Nat)(A:Option aw)(n c a z:Nat)(f:Nat->Nat)(S:Nat->Prop)(hS:S Bb/\S Ba/\S Bs)(ah:∀k,k<B->S k)(hlen:n<=1000000)(al:c<=maxLen)(ha:a<=n)(av:n<=c)(hz:z<=1000000)
  (w:au) (aT:w.cell? ⟨Bb,0,none⟩=some (af A n c)) (aU:w.cell? ⟨Ba,0,none⟩=some (ae ak (a:Int))) (aV:w.cell? ⟨Bs,0,none⟩=some (ae ak (z:Int))) (ad:Bb<w.heap.size/\Ba<w.heap.size/\Bs<w.heap.size) (hB:B<=w.heap.size) (hr:fB w B A n f):
  Gz Fence.wide fu prog 207 #[ag (some ⟨Bb,0,none⟩),ag (some ⟨Ba,0,none⟩),ag (some ⟨Bs,0,none⟩)] (vG a) (od f n a) (fC S) (min z a) w:=fun l J Jx W hW aW hY hd _ h0=>
 O0 fu hn l Bb Ba Bs B A n c a z f S hS ah hlen al ha av hz J Jx aW hY hd W ((hW.cell ad.1).trans aT) ((hW.cell ad.2.1).trans aU) ((hW.cell ad.2.2).trans aV) (hr.below hW hB) h0
theorem O6(n:Nat)(A:Option aw)(len cap:Nat)(a z:Nat)(w:au):
  CallsIn Fence.wide n prog 204 #[af A len cap,ae ak (a:Int),ae ak (z:Int)] w fun e w'=>e=aq (.func (.func 207) #[] #[ag (some ⟨w.heap.size,0,none⟩),ag (some ⟨w.heap.size+1,0,none⟩),ag (some ⟨w.heap.size+2,0,none⟩)])/\
   w'=((w.alloc (ao #[af A len cap] 22)).alloc (ao #[ae ak (a:Int)] 3)).alloc (ao #[ae ak (z:Int)] 3):=by
 refine callsIn_of_wp func204 rfl trivial ?_ rfl
 simp only[ntmps204,List.size_toArray,List.length_cons,List.length_nil,Nat.reduceAdd,Nat.reduceSub,Array.replicate_succ,Array.replicate_zero,List.push_toArray,List.append_toArray,List.nil_append,List.cons_append]
 gi_wp2
 go_ret
 exact⟨rfl,rfl⟩
attribute [local go_sem] Oper.semAt_some
attribute [local simp] sE
theorem Bg{f:Nat->Nat}{L a s:Nat}:∀p d n,UW f L a s p 0 d n=(d,n)
 |0,_,_=>rfl
 |p+1,d,n=>by simp only[UW];rw[if_neg (by omega)]
theorem xW{f:Nat->Nat}{L a s:Nat}{n:Nat}(h:∀q,jL f L a q<=n):∀p c d,UW f L a s p c d n=(d,n)
 |0,_,_=>rfl
 |p+1,c,d=>by
  have:=h p;simp only[UW];split
  ·split
   ·exact xW h p c d
   ·rw[if_neg (by omega)];exact xW h p (c-1) d
  ·rfl
theorem O7{f:Nat->Nat}{L a s:Nat}(c d n:Nat):UW f L a s (a-min s a) c d n=(d,n):=by
 rcases Nat.eq_zero_or_pos (a-min s a)with h|h
 ·rw[h];rfl
 ·obtain⟨k,hk⟩:∃k,a-min s a=k+1:=⟨a-min s a-1,by omega⟩;rw[hk];simp only[UW];rw[if_neg (by omega)]
theorem O8{f:Nat->Nat}{L a s j:Nat}(hj:j<min s a){c:Nat}(hc:0<c)(d n:Nat)(ad:¬od f L a j):UW f L a s (a-j) c d n=UW f L a s (a-(j+1)) c d n:=by
 unfold od at ad;rw[show a-j=(a-1-j)+1 by omega,show a-(j+1)=a-1-j by omega];conv=>lhs;unfold UW
 rw[if_pos ⟨by omega,hc⟩,if_pos (by omega)]
theorem O9{f:Nat->Nat}{L a s j:Nat}(hj:j<min s a){c:Nat}(hc:0<c)(d n:Nat)(ad:od f L a j):
  UW f L a s (a-j) c d n=if n<jL f L a (a-1-j)then UW f L a s (a-(j+1)) (c-1) (j+1) (jL f L a (a-1-j))else UW f L a s (a-(j+1)) (c-1) d n:=by
 unfold od at ad
 rw[show a-j=(a-1-j)+1 by omega,show a-(j+1)=a-1-j by omega]
 conv=>lhs;unfold UW
 rw[if_pos ⟨by omega,hc⟩,if_neg (by omega),show a-(a-1-j)=j+1 by omega]
theorem Bh{f:Nat->Nat}{L a:Nat}(ha:a<=L)(q:Nat):jL f L a q<=min (L-a) 258:=by
 have h1:=(uO f L a q).1;have h2:=DM (f:=f) (p:=q) ha;omega
def vH(h k:Nat):Prop:=k<h+2\/(h+5<=k/\k<h+8)
def vI(w u:au)(h:Nat)(f:Nat->Nat)(L a z:Nat)(T:Nat×Nat)(j:Nat)(W:au):Prop:=
 aS h w W/\fC (vH h) u W/\h+8<=W.heap.size/\∃c d n:Nat,Boxed W (h+2) 3 (ae ak (c:Int))/\Boxed W (h+3) 3 (ae ak (d:Int))/\Boxed W (h+4) 3 (ae ak (n:Int))/\0<c/\c<=256/\n<=258/\d<=a/\UW f L a z (a-j) c d n=T
def xX(w:au)(h _:Nat)(T:Nat×Nat)(_:Nat)(W:au):Prop:=
 aS h w W/\∃d n:Nat,Boxed W (h+3) 3 (ae ak (d:Int))/\Boxed W (h+4) 3 (ae ak (n:Int))/\(d,n)=T
theorem vJ{W W':au}{row:Option Nat}{B:Nat}{t:TypeId}{v:ay}(h:Boxed W B t v)(hg:W.grownBy W' row)(hr:∀r,row=some r->∃o:Obj,W.heap[r]?=some o/\o.isCells=false):Boxed W' B t v:=
 h.kept hg (fun e=>by obtain⟨o,h1,h2⟩:=hr B e.symm;rw[h]at h1;cases h1;cases h2)
theorem vI.own(w u:au)(f:Nat->Nat)(L a z:Nat)(T:Nat×Nat)(B:Nat)(hB:w.heap.size+8<=B):OwnFrom B (vI w u w.heap.size f L a z T):=by
 rintro j W W' row ⟨h1,h2,hs,c,d,n,h3,h4,h5,h6⟩ hg hr;refine⟨h1.grown hg h1.size (fun r e=>by have:=(hr r e).1;omega),fun k hk=>?_,Nat.le_trans hs hg.size,c,d,n,vJ h3 hg fun r e=>(hr r e).2,vJ h4 hg fun r e=>(hr r e).2,vJ h5 hg fun r e=>(hr r e).2,h6⟩;refine(hg.block k (by rcases hk with hk|hk<;>omega) (fun e=>?_)).trans (h2 k hk);have:=(hr k e.symm).1;rcases hk with hk|hk<;>omega
theorem xX.own(w:au)(a:Nat)(T:Nat×Nat)(B:Nat)(hB:w.heap.size<=B):OwnFrom B (xX w w.heap.size a T):=by
 rintro j W W' row ⟨h1,d,n,h4,h5,h6⟩ hg hr;exact⟨h1.grown hg h1.size (fun r e=>by have:=(hr r e).1;omega),d,n,vJ h4 hg fun r e=>(hr r e).2,vJ h5 hg fun r e=>(hr r e).2,h6⟩
def oe(w W:au)(h c d n:Nat)(X:au):Prop:=
 aS h w X/\fC (vH h) W X/\KeepsOthers W X/\h+8<=X.heap.size/\Boxed X (h+2) 3 (ae ak (c:Int))/\Boxed X (h+3) 3 (ae ak (d:Int))/\Boxed X (h+4) 3 (ae ak (n:Int))
theorem pX{X:au}{B C:Nat}{t:TypeId}{u v:ay}(h:Boxed X B t u)(ad:B≠C):Boxed (X.setCell ⟨C,0,none⟩ v) B t u:=(Below.heap_setCell X _ _ B ad).trans h
theorem Bi{h C:Nat}{W X:au}{v:ay}(hk:fC (vH h) W X)(hC:h+2<=C/\C<h+5):fC (vH h) W (X.setCell ⟨C,0,none⟩ v):=fun k hS=>
 (Below.heap_setCell X _ _ k (by show k≠C;rcases hS with hS|hS<;>omega)).trans (hk k hS)
theorem VN(X:au)(p:aw)(v:ay):(X.setCell p v).heap.size=X.heap.size:=by simp[World.setCell]
theorem oe.GG{w W X:au}{h c d n:Nat}(H:oe w W h c d n X)(v:Nat):oe w W h v d n (X.setCell ⟨h+2,0,none⟩ (ae ak (v:Int))):=by
 obtain⟨h1,h2,h3,h4,h5,h6,h7⟩:=H;exact⟨h1.setCell (p:=⟨h+2,0,none⟩) (by show h<=h+2;omega) _,Bi h2 (by omega),h3.trans (KeepsOthers.setCell _ _ _),by rw[VN];exact h4,h5.set _,pX h6 (by omega),pX h7 (by omega)⟩
theorem oe.Pa{w W X:au}{h c d n:Nat}(H:oe w W h c d n X)(v:Nat):oe w W h c v n (X.setCell ⟨h+3,0,none⟩ (ae ak (v:Int))):=by
 obtain⟨h1,h2,h3,h4,h5,h6,h7⟩:=H;exact⟨h1.setCell (p:=⟨h+3,0,none⟩) (by show h<=h+3;omega) _,Bi h2 (by omega),h3.trans (KeepsOthers.setCell _ _ _),by rw[VN];exact h4,pX h5 (by omega),h6.set _,pX h7 (by omega)⟩
theorem oe.Pb{w W X:au}{h c d n:Nat}(H:oe w W h c d n X)(v:Nat):oe w W h c d v (X.setCell ⟨h+4,0,none⟩ (ae ak (v:Int))):=by
 obtain⟨h1,h2,h3,h4,h5,h6,h7⟩:=H;exact⟨h1.setCell (p:=⟨h+4,0,none⟩) (by show h<=h+4;omega) _,Bi h2 (by omega),h3.trans (KeepsOthers.setCell _ _ _),by rw[VN];exact h4,pX h5 (by omega),pX h6 (by omega),h7.set _⟩
theorem oe.jP{w W X Y:au}{h c d n:Nat}(H:oe w W h c d n X)(hd:pk X Y):oe w W h c d n Y:=by
 obtain⟨t,rfl⟩:=hd;obtain⟨h1,h2,h3,h4,h5⟩:=H;exact⟨⟨h1.os,h1.tape,h1.output,h1.size,h1.block⟩,h2,h3.trans ⟨Nat.le_refl _,fun _ _ h _=>h⟩,h4,h5⟩
theorem Pc(w:au)(A:Option aw)(n c a z ch:Nat)(f:Nat->Nat)(hr:fq w w.heap.size A n c f)(ha:a<=n)(hn:n<=1000000)(cj:1<=z)(hz:z<=32768)(b8:ch<=256):
  Calls prog 202 #[af A n c,ae ak (a:Int),ae ak (z:Int),ae ak (ch:Int)] w fun e w'=>e=aq (.tuple #[ae ak ((UW f n a z a ch 0 0).1:Nat),ae ak ((UW f n a z a ch 0 0).2:Nat)])/\aS w.heap.size w w':=by
 obtain⟨T,hT⟩:=fb (UW f n a z a ch 0 0)
 rw[<-hT]
 refine(callsIn_wide (n:=5)).1 ?_
 obtain⟨h1,h2,h3,h4⟩:=hr
 obtain⟨v,hv⟩:=fb (((((w.alloc (ao #[af A n c] 22)).alloc (ao #[ae ak (a:Int)] 3)).alloc (ao #[ae ak (ch:Int)] 3)).alloc (ao #[ae ak 0] 3)).alloc (ao #[ae ak 0] 3))
 refine callsIn_of_wp_marks func202 rfl trivial ?_ rfl
 simp only[ntmps202,List.size_toArray,List.length_cons,List.length_nil,Nat.reduceAdd,Nat.reduceSub,Array.replicate_succ,Array.replicate_zero,List.push_toArray,List.append_toArray,List.nil_append,List.cons_append]
 rcases Nat.eq_zero_or_pos ch with h0|h0
 ·subst h0;rw[Bg]at hT;subst hT;have bB:aS w.heap.size w v:=by
   rw[hv];exact(((((Below.refl w.heap.size w).alloc fe _).alloc (by simp) _).alloc (by simp;omega) _).alloc (by simp;omega) _).alloc (by simp;omega) _
  rw[show((0:Nat):Int)=0 from rfl]at hv;have e1:v.cell? ⟨w.heap.size+1+1+1,0,none⟩=some (ae ak 0):=by
   have:=((Boxed.new (((w.alloc (ao #[af A n c] 22)).alloc (ao #[ae ak (a:Int)] 3)).alloc (ao #[ae ak 0] 3)) 3 (ae ak 0)).alloc (ao #[ae ak 0] 3)).cell;rw[World.size_alloc,World.size_alloc,World.size_alloc]at this;rw[hv];exact this
  have e2:v.cell? ⟨w.heap.size+1+1+1+1,0,none⟩=some (ae ak 0):=by
   have:=(Boxed.new ((((w.alloc (ao #[af A n c] 22)).alloc (ao #[ae ak (a:Int)] 3)).alloc (ao #[ae ak 0] 3)).alloc (ao #[ae ak 0] 3)) 3 (ae ak 0)).cell;rw[World.size_alloc,World.size_alloc,World.size_alloc,World.size_alloc]at this;rw[hv];exact this
  have HV:=fa hv;have HZ:=fa bB;have E1:=fa e1;have E2:=fa e2
  clear hv bB e1 e2;gi_wp2
  rw[<-HV.out];refine⟨_,(by simp[results,Tryz.results202,go_sem,E1.out,E2.out]),rfl,HZ.out⟩
 ·have bC:((ch:Int)==0)=false:=by simp;omega
  obtain⟨h,hh⟩:=fb (w.heap.size);obtain⟨u,hu⟩:=fb (((v.alloc (ao #[af A n c] 22)).alloc (ao #[ae ak (a:Int)] 3)).alloc (ao #[ae ak (z:Int)] 3));have a3:v.heap.size=h+5:=by rw[hv,hh];simp
  have ck:u.heap.size=h+8:=by rw[hu];simp[a3]
  have bE:aS h w v:=by
   rw[hv,hh];exact(((((Below.refl w.heap.size w).alloc fe _).alloc (by simp) _).alloc (by simp;omega) _).alloc (by simp;omega) _).alloc (by simp;omega) _
  have aW:aS (h+5) v u:=by
   rw[hu];exact(((Below.refl (h+5) v).alloc (by omega) _).alloc (by simp;omega) _).alloc (by simp;omega) _
  have a5:aS h w u:=bE.trans (aW.mono (by omega));have bF:Boxed u h 22 (af A n c):=by
   refine(aW.block h (by omega)).trans ?_;rw[hv,hh];exact((((Boxed.new w _ _).alloc _).alloc _).alloc _).alloc _
  have bG:Boxed u (h+1) 3 (ae ak (a:Int)):=by
   refine(aW.block (h+1) (by omega)).trans ?_;have:=((((Boxed.new (w.alloc (ao #[af A n c] 22)) 3 (ae ak (a:Int))).alloc (ao #[ae ak (ch:Int)] 3)).alloc (ao #[ae ak 0] 3)).alloc (ao #[ae ak 0] 3));rw[World.size_alloc]at this;rw[hv,hh];exact this
  have bH:Boxed u (h+2) 3 (ae ak (ch:Int)):=by
   refine(aW.block (h+2) (by omega)).trans ?_;have:=(((Boxed.new ((w.alloc (ao #[af A n c] 22)).alloc (ao #[ae ak (a:Int)] 3)) 3 (ae ak (ch:Int))).alloc (ao #[ae ak 0] 3)).alloc (ao #[ae ak 0] 3));rw[World.size_alloc,World.size_alloc]at this;rw[hv,hh];exact this
  have bI:Boxed u (h+3) 3 (ae ak ((0:Nat):Int)):=by
   refine(aW.block (h+3) (by omega)).trans ?_;have:=((Boxed.new (((w.alloc (ao #[af A n c] 22)).alloc (ao #[ae ak (a:Int)] 3)).alloc (ao #[ae ak (ch:Int)] 3)) 3 (ae ak 0)).alloc (ao #[ae ak 0] 3));rw[World.size_alloc,World.size_alloc,World.size_alloc]at this;rw[hv,hh];exact this
  have bJ:Boxed u (h+4) 3 (ae ak ((0:Nat):Int)):=by
   refine(aW.block (h+4) (by omega)).trans ?_;have:=Boxed.new ((((w.alloc (ao #[af A n c] 22)).alloc (ao #[ae ak (a:Int)] 3)).alloc (ao #[ae ak (ch:Int)] 3)).alloc (ao #[ae ak 0] 3)) 3 (ae ak 0);rw[World.size_alloc,World.size_alloc,World.size_alloc,World.size_alloc]at this;rw[hv,hh];exact this
  have bK:Boxed u (h+5) 22 (af A n c):=by
   have:=((Boxed.new v 22 (af A n c)).alloc (ao #[ae ak (a:Int)] 3)).alloc (ao #[ae ak (z:Int)] 3);rw[a3]at this;rw[hu];exact this
  have bL:Boxed u (h+6) 3 (ae ak (a:Int)):=by
   have:=(Boxed.new (v.alloc (ao #[af A n c] 22)) 3 (ae ak (a:Int))).alloc (ao #[ae ak (z:Int)] 3);rw[World.size_alloc,a3]at this;rw[hu];exact this
  have bM:Boxed u (h+7) 3 (ae ak (z:Int)):=by
   have:=Boxed.new ((v.alloc (ao #[af A n c] 22)).alloc (ao #[ae ak (a:Int)] 3)) 3 (ae ak (z:Int));rw[World.size_alloc,World.size_alloc,a3]at this;rw[hu];exact this
  have bN:fB u h A n f:=(hh▸h1:fB w h A n f).below a5 fe;have bO:vI w u h f n a z T 0 u:=⟨a5,fC.refl _ _,by omega,ch,0,0,bH,bI,bJ,h0,b8,by omega,by omega,by rw[hT];rfl⟩;have bP:u=((((((((w.alloc (ao #[af A n c] 22)).alloc (ao #[ae ak (a:Int)] 3)).alloc (ao #[ae ak (ch:Int)] 3)).alloc (ao #[ae ak 0] 3)).alloc (ao #[ae ak 0] 3)).alloc (ao #[af A n c] 22)).alloc (ao #[ae ak (a:Int)] 3)).alloc (ao #[ae ak (z:Int)] 3)):=by rw[hu,hv]
  have HU:=fa bP;have a9:=fa bO;have a6:=fa bN;have bQ:=fa a5;have HH:=fa hh
  have bf:=fa bF;have bg:=fa bG;have bj:=fa bK;have bl:=fa bL;have bn:=fa bM
  clear bP bO bN a5 aW bE a3 hv hu bF bG bH bI bJ bK bL bM h1 v hT;clear hh;gi_wp2_with (gi_at_call 204;refine(O6 _ _ _ _ _ _ _).mono ?_;rintro e w' ⟨rfl,rfl⟩)
  rw[<-HU.out];simp only[Nat.add_assoc,Nat.reduceAdd];rw[<-HH.out];refine OY (L:=min z a) rfl (by omega) (gf:=207) (lb:=#[ag (some ⟨h+5,0,none⟩),ag (some ⟨h+6,0,none⟩),ag (some ⟨h+7,0,none⟩)]) rfl trivial (enters_of func207 (by kernel_rfl) rfl)
   (O5 _ (by omega) (h+5) (h+6) (h+7) h A n c a z f (vH h) ⟨.inr (by omega),.inr (by omega),.inr (by omega)⟩ (fun k hk=>.inl (by omega)) hn h4 ha h3 (by omega) u bj.out.cell bl.out.cell bn.out.cell (by omega) (by omega) a6.out)
   (fun h k=>h.tr k) (fun W l ob cl hl _ _ _ k hS=>World.putObj_heap_other (by rcases hS with hS|hS<;>omega)) (fun _=>rfl)
   (.exit 0) (.exit 0) (.inr ⟨_,rfl,rfl⟩)
   (vI w u h f n a z T) (xX w h a T) (by rw[HH.out];exact vI.own w u f n a z T _ (by have:=HH.out;omega)) (by rw[HH.out];exact xX.own w a T _ (by have:=HH.out;omega)) a9.out
   (fun j=>{tmps:=#[af A n c,ae ak a,ae ak z,ae ak ch,ag (some ⟨h,0,none⟩),ag (some ⟨h+1,0,none⟩),undef,ag (some ⟨h+2,0,none⟩),ag (some ⟨h+3,0,none⟩),ag (some ⟨h+4,0,none⟩),
    ae ak ((a-1-j:Nat):Int),undef,ae ak ch,.bool false,af A n c,ae ak a,ae ak z,.func (.func 207) #[] #[ag (some ⟨h+5,0,none⟩),ag (some ⟨h+6,0,none⟩),ag (some ⟨h+7,0,none⟩)],ae ak ((a-1-j:Nat):Int),
    undef,undef,undef,undef,undef,undef,undef,undef,undef,undef,undef,undef,undef,undef,undef,undef,undef,undef,undef,undef,undef,undef,undef,undef],defers:=[]}) ?skip ?assign ?body ?done ?stop
  case skip=>
   rintro j W ⟨h1,h2,hs,c',d,m,h3,h4,h5,h6,h7,h8,h9,b9⟩ hj ca;exact⟨h1,h2,hs,c',d,m,h3,h4,h5,h6,h7,h8,h9,by rw[<-O8 hj h6 d m ca];exact b9⟩
  case assign=>
   intro l j W K hK;simp only[vG];obtain⟨q,hq⟩:=fb (a-1-j);rw[<-hq]at hK⊢;clear hq;gi_wp2
   exact hK
  case body=>
   rintro l j W ⟨g1,g2,gs,c',d,m,g3,g4,g5,g6,g7,g8,g9,a4⟩ hj bq;have bR:oe w W h c' d m W:=⟨g1,fC.refl _ _,⟨Nat.le_refl _,fun _ _ h _=>h⟩,gs,g3,g4,g5⟩;have aT:=O9 hj g6 d m bq;rw[a4]at aT;have x0:=(g2.cell (p:=⟨h,0,none⟩) (.inl (by show h<h+2;omega))).trans bf.out.cell;have x1:=(g2.cell (p:=⟨h+1,0,none⟩) (.inl (by show h+1<h+2;omega))).trans bg.out.cell;have bS:=a6.out.kept g2 (fun k hk=>.inl (by omega));obtain⟨q,hq⟩:=fb (a-1-j);have cb:q<a:=by omega
   have aX:=OP W h A n c f a q bS cb ha hn;obtain⟨k,hk⟩:=fb (jL f n a q);have br:=Bh (f:=f) ha q;rw[<-hq]at aT⊢;rw[<-hk]at aT aX br;obtain⟨j1,bt⟩:=fb (j+1);have cm:(a:Int)-(q:Int)=(j1:Int):=by omega
   obtain⟨c1,bT⟩:=fb (c'-1);have cn:(c':Int)-1=(c1:Int):=by omega
   have a8:c1<=256:=by omega
   have bU:j1<=a:=by omega
   rw[<-bt,<-bT]at aT;have bV:=fa bt;have cg:prog.follows .mixedOrders=true:=by kernel_rfl
   have bW:=fa aX;have bX:=fa bR;have av:=fa aT;have cf:=fa br;have HK:=fa hk;have bZ:=fa g2;have cp:=fa bq
   clear aT aX bS bR g1 g2 g3 g4 g5 a4 br hk bq hq gs bt bT;gi_wp2_with fail
   refine((callsIn_wide.2 bW.out).inRound l).mono ?_;rintro e V ⟨rfl,b0⟩;have aV:=bX.out.jP b0;have b1:=(aV.2.1.cell (p:=⟨h+1,0,none⟩) (.inl (by show h+1<h+2;omega))).trans x1;have b2:=aV.2.2.2.2.1.cell;have y3:=aV.2.2.2.2.2.1.cell;have b5:=aV.2.2.2.2.2.2.cell;have z2:=aV.2.2.2.2.1.frozen;have z3:=aV.2.2.2.2.2.1.frozen;have z4:=aV.2.2.2.2.2.2.frozen;have a7:=fa aV;clear aV b0 bW bX;by_cases b6:m<k
   ·have b7:(m:Int)<(k:Int):=by omega
    have ah:=av.out;rw[if_pos b6]at ah;have av:=fa ah;clear ah;gi_wp2
    have al:=((a7.out.Pa j1).Pb k).GG c1;obtain⟨Y,hY⟩:=fb (((V.setCell ⟨h+3,0,none⟩ (ae ak (j1:Int))).setCell ⟨h+4,0,none⟩ (ae ak (k:Int))).setCell ⟨h+2,0,none⟩ (ae ak (c1:Int)));rw[<-hY]at al⊢;have y0:=(al.2.1.cell (p:=⟨h,0,none⟩) (.inl (by show h<h+2;omega))).trans x0;have y1:=(al.2.1.cell (p:=⟨h+1,0,none⟩) (.inl (by show h+1<h+2;omega))).trans x1;have y2:=al.2.2.2.2.1.cell;have y4:=al.2.2.2.2.2.2.cell;have ad:=fa al;clear al hY b1 x0 x1 b2 y3 b5 z2 z3 z4 a7;obtain⟨M,hM⟩:=fb (min (n-a) 258);have aY:=fun u=>xU u A n c a ha hn
    rw[<-hM]at aY;have aZ:=fa aY;have HM:=fa hM
    clear aY hM;rcases Nat.eq_zero_or_pos c1 with a1|a1
    ·subst a1;have ah:=av.out;rw[Bg]at ah;have a2:=fa ah;have y2:Y.cell? ⟨h+2,0,none⟩=some (ae ak 0):=y2;clear ah av;gi_region_with_o (gi_at_call 206;refine((callsIn_wide.2 (aZ.out _)).inRound l).mono ?_;rintro e V2 ⟨rfl,rfl⟩)
     all_goals gi_wp2
     all_goals exact⟨ad.out.2.2.1.trans (KeepsOthers.drew _),(ad.out.jP ⟨1,rfl⟩).1,j1,k,(ad.out.jP ⟨1,rfl⟩).2.2.2.2.2.1,(ad.out.jP ⟨1,rfl⟩).2.2.2.2.2.2,a2.out.symm⟩
    ·have bC:((c1:Int)==0)=false:=by simp;omega
     by_cases aU:k=M
     ·have bu:((k:Int)==(M:Int))=true:=by simp;omega
      have ah:=av.out;rw[xW (fun q=>by have:=Bh (f:=f) ha q;have:=HM.out;omega)]at ah;have a2:=fa ah;clear ah av aU;gi_region_with_o (gi_at_call 206;refine((callsIn_wide.2 (aZ.out _)).inRound l).mono ?_;rintro e V2 ⟨rfl,rfl⟩)
      all_goals gi_wp2
      all_goals exact⟨ad.out.2.2.1.trans (KeepsOthers.drew _),(ad.out.jP ⟨1,rfl⟩).1,j1,k,(ad.out.jP ⟨1,rfl⟩).2.2.2.2.2.1,(ad.out.jP ⟨1,rfl⟩).2.2.2.2.2.2,a2.out.symm⟩
     ·have bu:((k:Int)==(M:Int))=false:=by simp;omega
      clear aU;gi_region_with_o (gi_at_call 206;refine((callsIn_wide.2 (aZ.out _)).inRound l).mono ?_;rintro e V2 ⟨rfl,rfl⟩)
      all_goals gi_wp2
      all_goals exact⟨ad.out.2.2.1.trans (KeepsOthers.drew _),(ad.out.jP ⟨1,rfl⟩).2.1,(ad.out.jP ⟨1,rfl⟩).1,bZ.out.tr (ad.out.jP ⟨1,rfl⟩).2.1,(ad.out.jP ⟨1,rfl⟩).2.2.2.1,c1,j1,k,(ad.out.jP ⟨1,rfl⟩).2.2.2.2.1,(ad.out.jP ⟨1,rfl⟩).2.2.2.2.2.1,(ad.out.jP ⟨1,rfl⟩).2.2.2.2.2.2,a1,a8,(by have:=cf.out;omega),bU,(by rw[<-bV.out];exact av.out.symm)⟩
   ·have b7:¬(m:Int)<(k:Int):=by omega
    have ah:=av.out;rw[if_neg b6]at ah;have av:=fa ah;clear ah;gi_wp2
    have al:=a7.out.GG c1;obtain⟨Y,hY⟩:=fb (V.setCell ⟨h+2,0,none⟩ (ae ak (c1:Int)));rw[<-hY]at al⊢;have y0:=(al.2.1.cell (p:=⟨h,0,none⟩) (.inl (by show h<h+2;omega))).trans x0;have y1:=(al.2.1.cell (p:=⟨h+1,0,none⟩) (.inl (by show h+1<h+2;omega))).trans x1;have y2:=al.2.2.2.2.1.cell;have y4:=al.2.2.2.2.2.2.cell;have ad:=fa al;clear al hY b1 x0 x1 b2 y3 b5 z2 z3 z4 a7;obtain⟨M,hM⟩:=fb (min (n-a) 258);have aY:=fun u=>xU u A n c a ha hn
    rw[<-hM]at aY;have aZ:=fa aY;have HM:=fa hM
    clear aY hM;rcases Nat.eq_zero_or_pos c1 with a1|a1
    ·subst a1;have ah:=av.out;rw[Bg]at ah;have a2:=fa ah;have y2:Y.cell? ⟨h+2,0,none⟩=some (ae ak 0):=y2;clear ah av;gi_region_with_o (gi_at_call 206;refine((callsIn_wide.2 (aZ.out _)).inRound l).mono ?_;rintro e V2 ⟨rfl,rfl⟩)
     all_goals gi_wp2
     all_goals exact⟨ad.out.2.2.1.trans (KeepsOthers.drew _),(ad.out.jP ⟨1,rfl⟩).1,d,m,(ad.out.jP ⟨1,rfl⟩).2.2.2.2.2.1,(ad.out.jP ⟨1,rfl⟩).2.2.2.2.2.2,a2.out.symm⟩
    ·have bC:((c1:Int)==0)=false:=by simp;omega
     by_cases aU:m=M
     ·have bu:((m:Int)==(M:Int))=true:=by simp;omega
      have ah:=av.out;rw[xW (fun q=>by have:=Bh (f:=f) ha q;have:=HM.out;omega)]at ah;have a2:=fa ah;clear ah av aU;gi_region_with_o (gi_at_call 206;refine((callsIn_wide.2 (aZ.out _)).inRound l).mono ?_;rintro e V2 ⟨rfl,rfl⟩)
      all_goals gi_wp2
      all_goals exact⟨ad.out.2.2.1.trans (KeepsOthers.drew _),(ad.out.jP ⟨1,rfl⟩).1,d,m,(ad.out.jP ⟨1,rfl⟩).2.2.2.2.2.1,(ad.out.jP ⟨1,rfl⟩).2.2.2.2.2.2,a2.out.symm⟩
     ·have bu:((m:Int)==(M:Int))=false:=by simp;omega
      clear aU;gi_region_with_o (gi_at_call 206;refine((callsIn_wide.2 (aZ.out _)).inRound l).mono ?_;rintro e V2 ⟨rfl,rfl⟩)
      all_goals gi_wp2
      all_goals exact⟨ad.out.2.2.1.trans (KeepsOthers.drew _),(ad.out.jP ⟨1,rfl⟩).2.1,(ad.out.jP ⟨1,rfl⟩).1,bZ.out.tr (ad.out.jP ⟨1,rfl⟩).2.1,(ad.out.jP ⟨1,rfl⟩).2.2.2.1,c1,d,m,(ad.out.jP ⟨1,rfl⟩).2.2.2.2.1,(ad.out.jP ⟨1,rfl⟩).2.2.2.2.2.1,(ad.out.jP ⟨1,rfl⟩).2.2.2.2.2.2,a1,a8,g8,g9,(by rw[<-bV.out];exact av.out.symm)⟩
  case done=>
   rintro D W hD ⟨g1,g2,gs,c',d,m,g3,g4,g5,g6,g7,g8,g9,a4⟩ hK;rw[O7]at a4;subst a4;have y3:=g4.cell;have y4:=g5.cell;have z3:=g4.frozen;have z4:=g5.frozen
   have bx:=fa g1;have bz:=fa g4;have bA:=fa g5;have HK:=fa hK
   clear g1 g2 gs g3 g4 g5 hK bf bg bj bl bn a9 a6 bQ HU;gi_wp2
   gi_region
   obtain⟨Y,hY⟩:=fb (((W.setCell ⟨h+3,0,none⟩ (ae ak (d:Int))).setCell ⟨h+4,0,none⟩ (ae ak (m:Int))).drew);have b3:Boxed Y (h+3) 3 (ae ak (d:Int)):=by rw[hY];exact pX (bz.out.set _) (by omega)
   have b4:Boxed Y (h+4) 3 (ae ak (m:Int)):=by rw[hY];exact(pX bA.out (by omega)).set _
   have bD:Y.heap[D]?=some (.deferred (some [])):=by
    rw[hY];exact(Below.heap_setCell _ _ _ D (by show D≠h+4;omega)).trans ((Below.heap_setCell _ _ _ D (by show D≠h+3;omega)).trans HK.out)
   have bY:aS h w Y:=by
    rw[hY];exact((bx.out.setCell (p:=⟨h+3,0,none⟩) (by show h<=h+3;omega) _).setCell (p:=⟨h+4,0,none⟩) (by show h<=h+4;omega) _).drew
   rw[<-hY];have c3:=(Boxed.kept b3 (grownBy_putObj' Y D (.deferred none)) (fun e=>by injection e;omega)).cell;have c4:=(Boxed.kept b4 (grownBy_putObj' Y D (.deferred none)) (fun e=>by injection e;omega)).cell;have BD:=fa bD;have BY:=fa bY;have C3:=fa c3;have C4:=fa c4
   clear hY b3 b4 bD bY c3 c4 y3 y4 z3 z4;gi_wp2
   refine⟨by simp,.inl ⟨_,_,rfl,run_takeDeferred BD.out,?_⟩⟩;refine⟨_,(by simp[results,Tryz.results202,go_sem,C3.out,C4.out]),rfl,?_⟩;rw[<-HH.out];exact BY.out.grown (grownBy_putObj' Y D _) (by have:=BY.out.size;have:=HH.out;omega) (fun r e=>by cases e;omega)
  case stop=>
   rintro D j W hD hj ⟨g1,d,m,g4,g5,rfl⟩ hK;have y3:=g4.cell;have y4:=g5.cell;have z3:=g4.frozen;have z4:=g5.frozen
   have bx:=fa g1;have bz:=fa g4;have bA:=fa g5;have HK:=fa hK
   clear g1 g4 g5 hK bf bg bj bl bn a9 a6 bQ HU;gi_wp2
   gi_region
   obtain⟨Y,hY⟩:=fb (((W.setCell ⟨h+3,0,none⟩ (ae ak (d:Int))).setCell ⟨h+4,0,none⟩ (ae ak (m:Int))).drew);have b3:Boxed Y (h+3) 3 (ae ak (d:Int)):=by rw[hY];exact pX (bz.out.set _) (by omega)
   have b4:Boxed Y (h+4) 3 (ae ak (m:Int)):=by rw[hY];exact(pX bA.out (by omega)).set _
   have bD:Y.heap[D]?=some (.deferred (some [])):=by
    rw[hY];exact(Below.heap_setCell _ _ _ D (by show D≠h+4;omega)).trans ((Below.heap_setCell _ _ _ D (by show D≠h+3;omega)).trans HK.out)
   have bY:aS h w Y:=by
    rw[hY];exact((bx.out.setCell (p:=⟨h+3,0,none⟩) (by show h<=h+3;omega) _).setCell (p:=⟨h+4,0,none⟩) (by show h<=h+4;omega) _).drew
   rw[<-hY];have c3:=(Boxed.kept b3 (grownBy_putObj' Y D (.deferred none)) (fun e=>by injection e;omega)).cell;have c4:=(Boxed.kept b4 (grownBy_putObj' Y D (.deferred none)) (fun e=>by injection e;omega)).cell;have BD:=fa bD;have BY:=fa bY;have C3:=fa c3;have C4:=fa c4
   clear hY b3 b4 bD bY c3 c4 y3 y4 z3 z4;gi_wp2
   refine⟨by simp,.inl ⟨_,_,rfl,run_takeDeferred BD.out,?_⟩⟩;refine⟨_,(by simp[results,Tryz.results202,go_sem,C3.out,C4.out]),rfl,?_⟩;rw[<-HH.out];exact BY.out.grown (grownBy_putObj' Y D _) (by have:=BY.out.size;have:=HH.out;omega) (fun r e=>by cases e;omega)
open Go.ChangeShapes Go.WideShapes Go.ChangeAt Go.Joins
def oI(f:Nat->Nat)(n:Nat)(a s h:Int):Nat×Nat:=if¬131072<n/\0<=a/\a<=(n:Int)/\1<=s/\s<=32768/\0<=h/\h<=256 then UW f n a.toNat s.toNat a.toNat h.toNat 0 0 else(0,0)
def sF(f:Nat->Nat)(n:Nat)(a s h:Int):Int:=if 131072<n then 4 else if 0<=a/\a<=(n:Int)/\1<=s/\s<=32768/\0<=h/\h<=256 then(if(oI f n a s h).2=0 then 6 else 0)else 2
theorem Pd(f:Nat->Nat)(n:Nat)(a s h:Int)(h0:(oI f n a s h).2=0):oI f n a s h=(0,0):=by
 unfold oI at h0⊢;split
 ·rename_i hc;rw[if_pos hc]at h0;rcases tc (f:=f) (L:=n) (a:=a.toNat) (size:=s.toNat) a.toNat h.toNat 0 0 fe (.inl ⟨rfl,rfl⟩)with⟨h1,h2⟩|⟨_,_,_,h3,_⟩
  ·exact Prod.ext h1 h2
  ·omega
 ·rfl
theorem Pe{n:Nat}{a s h:Int}(ad:¬(0<=a/\a<=(n:Int)/\1<=s/\s<=32768/\0<=h/\h<=256)):
  a<0\/(¬a<0/\(n:Int)<a)\/(¬a<0/\¬(n:Int)<a/\s<1)\/(¬a<0/\¬(n:Int)<a/\¬s<1/\32768<s)\/(¬a<0/\¬(n:Int)<a/\¬s<1/\¬32768<s/\h<0)\/(¬a<0/\¬(n:Int)<a/\¬s<1/\¬32768<s/\¬h<0/\256<h):=by omega
theorem kS{p:Prop}[Decidable p](h:¬p):decide p=false:=by simp[h]
theorem tV{p:Prop}[Decidable p](h:p):decide p=true:=by simp[h]
theorem Pf(w:au)(A:Option aw)(n c:Nat)(f:Nat->Nat)(a s h:Int)(hr:fq w w.heap.size A n c f):
  Calls prog 200 #[af A n c,ae ak a,ae ak s,ae ak h] w fun e w'=>e=aq (.tuple #[ae ak ((oI f n a s h).1:Nat),ae ak ((oI f n a s h).2:Nat),ae ak (sF f n a s h)])/\aS w.heap.size w w':=by
 have HR:=fa hr
 clear hr
 by_cases hn:131072<n
 ·have e1:sF f n a s h=4:=if_pos hn;have e2:oI f n a s h=(0,0):=if_neg (by omega);rw[e1,e2];have av:131072<(n:Int):=by omega
  clear e1 e2;go_enter func200,ntmps200
  go_wp2;go_ret3
  exact⟨rfl,Below.refl _ _⟩
 have av:¬131072<(n:Int):=by omega
 by_cases ad:0<=a/\a<=(n:Int)/\1<=s/\s<=32768/\0<=h/\h<=256
 ·obtain⟨T,hT⟩:=fb (oI f n a s h);have e1:sF f n a s h=if T.2=0 then 6 else 0:=by unfold sF;rw[if_neg hn,if_pos ad,hT]
  have e2:T=UW f n a.toNat s.toNat a.toNat h.toNat 0 0:=by rw[hT];unfold oI;rw[if_pos ⟨hn,ad⟩]
  have e3:=Pd f n a s h;obtain⟨E,hE⟩:∃E:Int,E=if T.2=0 then 6 else 0:=⟨_,rfl⟩
  rw[e1,<-hE];rw[<-hT]at e3⊢;obtain⟨x1,x2,x3,x4,x5,x6⟩:=ad;obtain⟨a,rfl⟩:=Int.eq_ofNat_of_zero_le x1;obtain⟨s,rfl⟩:=Int.eq_ofNat_of_zero_le (show 0<=s by omega);obtain⟨h,rfl⟩:=Int.eq_ofNat_of_zero_le x5;rw[Int.toNat_natCast,Int.toNat_natCast,Int.toNat_natCast]at e2;have hb:=Pc w A n c a s h f HR.out (by omega) (by omega) (by omega) (by omega) (by omega);rw[<-e2]at hb;have HB:=fa hb;have d1:decide ((a:Int)<0)=false:=kS (by omega);have d2:decide ((n:Int)<(a:Int))=false:=kS (by omega);have d3:decide ((s:Int)<1)=false:=kS (by omega);have d4:decide (32768<(s:Int))=false:=kS (by omega);have d5:decide ((h:Int)<0)=false:=kS (by omega);have d6:decide (256<(h:Int))=false:=kS (by omega);obtain⟨t1,t2⟩:=T;have E3:=fa e3;have HE:=fa hE
  clear e1 e2 e3 hb hT hE;go_enter func200,ntmps200
  go_wp2_with fail
  refine HB.out.mono ?_;rintro e w' ⟨rfl,hb⟩;have ah:=fa hb;clear hb;rcases Nat.eq_zero_or_pos t2 with h0|h0
  ·subst h0;have:=E3.out rfl;injection this with h1 _
   subst h1;obtain rfl:E=6:=HE.out;go_wp2;go_ret3
   exact⟨rfl,ah.out⟩
  ·have aT:((t2:Int)==0)=false:=by simp;omega
   obtain rfl:E=0:=HE.out.trans (if_neg (by show¬t2=0;omega));go_wp2;go_ret3
   exact⟨rfl,ah.out⟩
 ·have e1:sF f n a s h=2:=by unfold sF;rw[if_neg hn,if_neg ad]
  have e2:oI f n a s h=(0,0):=if_neg (fun q=>ad q.2);rw[e1,e2];have al:=Pe ad;clear e1 e2 ad;rcases al with q1|⟨q1,q2⟩|⟨q1,q2,q3⟩|⟨q1,q2,q3,q4⟩|⟨q1,q2,q3,q4,q5⟩|⟨q1,q2,q3,q4,q5,q6⟩
  ·have d1:=tV q1;go_enter func200,ntmps200
   go_wp2;go_ret3
   exact⟨rfl,Below.refl _ _⟩
  ·have d1:=kS q1;have d2:=tV q2
   go_enter func200,ntmps200
   go_wp2;go_ret3
   exact⟨rfl,Below.refl _ _⟩
  ·have d1:=kS q1;have d2:=kS q2;have d3:=tV q3
   go_enter func200,ntmps200
   go_wp2;go_ret3
   exact⟨rfl,Below.refl _ _⟩
  ·have d1:=kS q1;have d2:=kS q2;have d3:=kS q3;have d4:=tV q4
   go_enter func200,ntmps200
   go_wp2;go_ret3
   exact⟨rfl,Below.refl _ _⟩
  ·have d1:=kS q1;have d2:=kS q2;have d3:=kS q3;have d4:=kS q4;have d5:=tV q5
   go_enter func200,ntmps200
   go_wp2;go_ret3
   exact⟨rfl,Below.refl _ _⟩
  ·have d1:=kS q1;have d2:=kS q2;have d3:=kS q3;have d4:=kS q4;have d5:=kS q5;have d6:=tV q6
   go_enter func200,ntmps200
   go_wp2;go_ret3
   exact⟨rfl,Below.refl _ _⟩
def iK(w:au)(B:Nat)(A:Option aw)(n c:Nat)(l:List fi):Prop:=n=l.length/\j5 w B A l/\(A=none->c=0)/\n<=c/\c<=maxLen
theorem iK.below{w w':au}{B B' n c:Nat}{A:Option aw}{l:List fi}(h:iK w B A n c l)(hb:aS B' w w')(hB:B<=B'):iK w' B A n c l:=⟨h.1,h.2.1.below hb hB,h.2.2⟩
theorem iK.more{w:au}{B B' n c:Nat}{A:Option aw}{l:List fi}(h:iK w B A n c l)(hB:B<=B'):iK w B' A n c l:=⟨h.1,h.2.1.more hB,h.2.2⟩
theorem iK.nil(w:au)(B:Nat):iK w B none 0 0 []:=⟨rfl,j5.nil w B none,fun _=>rfl,Nat.le_refl _,by unfold maxLen;omega⟩
theorem iK.gD{w:au}{base n c:Nat}{A:Option aw}{l:List fi}(h:w.ownsRow base 36 3 (af A n c) n (Vt l)):iK w w.heap.size A n c l:=by
 obtain⟨h1,h2⟩:=j5.gD h;refine⟨h1,h2,?_⟩;rcases h.2 with⟨hv,h0⟩|⟨g,cap,cur,hv,_,_,k1,k2,_⟩
 ·injection hv with h3 h4 h5
  exact⟨fun _=>h5,by omega,by unfold maxLen;omega⟩
 ·injection hv with h3 h4 h5
  exact⟨(fun h=>by rw[h]at h3;cases h3),by omega,by omega⟩
def sG(n:Nat)(a s h m:Int):Int:=if iI s h m=false then 8 else if 131072<n then 4 else if 0<=a/\a<=(n:Int)then 0 else 2
def vK(f:Nat->Nat)(n:Nat)(a s h m:Int)(lz:Bool):List fi:=if sG n a s h m=0 then lu f n s.toNat h.toNat lz a.toNat else[]
theorem Pg{s h m:Int}(e:iI s h m=true):1<=s/\s<=32768/\0<=h/\h<=256/\1<=m/\m<=65535:=by unfold iI at e;exact of_decide_eq_true e
open Go.Deep
theorem Ph:prog.cellsOf 55=4:=by kernel_rfl
def qz(t:fi):Prop:=t.x<256/\(-9223372036854775808<=t.d/\t.d<=9223372036854775807)/\(-9223372036854775808<=t.n/\t.n<=9223372036854775807)
theorem Pj{H:Type}{enc:TypeId×ay->H}{W:au}{r:Reach}{b0 base:Nat}{sp:Nat->Bool}{hd:Bool}{v:ay}{d:DataW H}{p:List MemPlace}
  (hv:Value.okWide prog W r b0 55 v) (h:DataW.Trod enc prog W base sp hd 55 v d p):
  ∃(s h m:Int) (z:Bool),v=.agg #[ae ak s,ae ak h,ae ak m,.bool z]/\(-9223372036854775808<=s/\s<=9223372036854775807)/\(-9223372036854775808<=h/\h<=9223372036854775807)/\(-9223372036854775808<=m/\m<=9223372036854775807):=by
 obtain⟨c0,c1,c2,c3,y0,y1,y2,y3,m,rfl,rfl,rfl,h0,h1,h2,h3⟩:=open_agg4 underlying55 (by kernel_rfl) Ph hv h
 obtain⟨k0,e0,_,w0⟩:=DataW.trod_int underlying3 h0
 obtain⟨k1,e1,_,w1⟩:=DataW.trod_int underlying3 h1
 obtain⟨k2,e2,_,w2⟩:=DataW.trod_int underlying3 h2
 obtain⟨k3,e3,_⟩:=DataW.trod_bool underlying4 h3
 simp only[List.cons.injEq,and_true]at e0 e1 e2 e3
 subst e0;subst e1;subst e2;subst e3
 exact⟨k0,k1,k2,k3,rfl,wH w0,wH w1,wH w2⟩
end Go.Proofs.YtgokdgcmkcmjeaaGreat
