/-
  Words and walks.
-/
import Derived.Test.YtgokdgcmkcmjeaaGreatqkaa
import Derived.Test.YtgokdgcmkcmjeaaGreatqkac
import Derived.Test.YtgokdgcmkcmjeaaGreatqkad
import Derived.Test.YtgokdgcmkcmjeaaGreatqkag
import Derived.Test.YtgokdgcmkcmjeaaGreatqkah
import Derived.Test.YtgokdgcmkcmjeaaGreatqkan
set_option maxRecDepth 100000
set_option maxHeartbeats 16000000
namespace Go.Proofs.YtgokdgcmkcmjeaaGreat
open Value renaming int → ae, slice → af, pointer → ag, agg → ai, bool → aj
open IntKind renaming i64 → ak
open Obj renaming cells → ao
open Ending renaming returned → aq
open Go renaming World → au, Addr → aw, Calls → ax, Value → ay, Program → aA, TypeId → aC, wpList_store_rowTo → aD, wpList_buildTo → aE, wpList_load_row → aF, heap_alloc_new → aH, cell_of_row → aI, setRow_heap → aJ, bodyPost_ret → aL
open Go.RowKit renaming Hid → aR, Below → aS
open _root_.Go.Proofs.Tryz
open Go.RowKit
theorem Sp(w:au)(A:Option aw)(l c:Nat)(a:Int)(_: -9223372036854775808<=a)(_:a<=9223372036854775807)(hl:l<=1000000):
  ax prog 24 #[af A l c,ae ak a] w fun e w'=>e=aq (ae ak (l8 l a))/\w=w':=by
 obtain⟨q,hq⟩:=fb (l8 l a)
 rw[<-hq]
 unfold l8 at hq
 by_cases y0:131072<l
 ·rw[if_pos y0]at hq;subst hq;have d1:decide ((131072:Int)<(l:Int))=true:=kP (by omega);have d2:decide (131072<l)=true:=kc y0;clear y0;go_enter func24,ntmps24
  go_wp2;go_ret;exact⟨rfl,rfl⟩
 rw[if_neg y0]at hq
 have d1:decide ((131072:Int)<(l:Int))=false:=lq (by omega)
 have d2:decide (131072<l)=false:=jd y0
 have ad:l<=131072:=by omega
 clear y0
 by_cases y1:a<0
 ·rw[if_pos (.inl y1)]at hq;subst hq;have d3:decide (a<0)=true:=kP y1;go_enter func24,ntmps24
  go_wp2;go_ret;exact⟨rfl,rfl⟩
 have d3:decide (a<0)=false:=lq y1
 by_cases y2:8*(l:Int)<a
 ·rw[if_pos (.inr y2)]at hq;subst hq;have d4:decide (8*(l:Int)<a)=true:=kP y2;go_enter func24,ntmps24
  go_wp2;go_ret;exact⟨rfl,rfl⟩
 ·rw[if_neg (by rintro(h|h);exact y1 h;exact y2 h)]at hq;subst hq;have d4:decide (8*(l:Int)<a)=false:=lq y2;go_enter func24,ntmps24
  go_wp2;go_ret;exact⟨rfl,rfl⟩
theorem kU{Y:Array ay}(h:Y.size=3):(prog.info? 69).map (·.size)=some Y.size:=by rw[h];exact M0
structure pB (T:List fi) (M:Nat):Prop where
 may:∀t∈T,fH t=true/\t.x<256
 wm:Vx [] T
 len:M=(T.foldl fV []).length
structure lW (g:Nat->Nat) (L ff:Nat) (R:List Nat×Nat×Int) (T:List fi) (M:Nat) (q:Rz) (st:Option fP):Prop where
 ok:pB T M
 room:M<=ff
 err:q.2=0
 place:q.1<=8*L
 told:iU g L ff st (T.foldl fV []) q.1=R
structure nO (ff:Nat) (R:List Nat×Nat×Int) (T:List fi) (q:Rz):Prop where
 ok:∃M,pB T M/\M<=ff
 err:q.2≠0
 same:q.2=R.2.2
 out:T.foldl fV []=R.1
structure rK (ff:Nat) (R:List Nat×Nat×Int) (T:List fi) (q:Rz):Prop where
 ok:∃M,pB T M/\M<=ff
 err:q.2=0
 same:R.2.2=0
 place:q.1=R.2.1
 out:T.foldl fV []=R.1
theorem Jl(T:List fi)(t:fi):(T++[t]).foldl fV []=fV (T.foldl fV []) t:=by rw[List.foldl_append];rfl
theorem Jm:∀(T:List fi) (out:List Nat) (t:fi),Vx out T->t.d<=((T.foldl fV out).length:Int)->Vx out (T++[t])
 |[],_,_,_,h=>⟨h,trivial⟩
 |_::T,_,t,h,hd=>⟨h.1,Jm T _ t h.2 hd⟩
theorem pB.app{T:List fi}{M:Nat}(h:pB T M){t:fi}(hm:fH t=true/\t.x<256)(hd:t.d<=(M:Int)):pB (T++[t]) (M+il t):=by
 refine⟨fun u hu=>?_,Jm T [] t h.wm (by rw[<-h.len];exact hd),by rw[Jl,rV,<-h.len]⟩;rcases List.mem_append.1 hu with hu|hu
 ·exact h.may u hu
 ·rw[List.mem_singleton.1 hu];exact hm
theorem Sq{t:fi}(h:fH t=true):1<=il t:=by
 rcases tX h with h|h
 ·unfold il;rw[if_pos h.1];omega
 ·unfold il;rw[if_neg h.1];omega
theorem Cr:∀(T:List fi) (out:List Nat),(∀t∈T,fH t=true/\t.x<256)->out.length+T.length<=(T.foldl fV out).length
 |[],_,_=>by simp
 |t::T,out,h=>by
  have h1:=Sq (h t (by simp)).1;have h2:=Cr T (fV out t) fun u hu=>h u (by simp[hu])
  rw[rV]at h2;simp only[List.foldl_cons,List.length_cons];omega
theorem pB.count{T:List fi}{M:Nat}(h:pB T M):T.length<=M:=by
 have:=Cr T [] h.may;rw[h.len];simpa using this
theorem Jn:∀(T:List fi) (out:List Nat),(∀t∈T,fH t=true/\t.x<256)->Vx out T->(T.foldl fV out).length<=131072->Vw 0 T out=(0,T.foldl fV out)
 |[],_,_,_,_=>rfl
 |t::T,out,h,hp,hl=>by
  have h2:=Cr T (fV out t) fun u hu=>h u (by simp[hu])
  simp only[List.foldl_cons]at hl⊢;rw[rV]at h2;unfold Vw;have hd:t.d<=(out.length:Int):=hp.1;rw[if_neg (by rw[(h t (by simp)).1];decide),if_neg (by omega),if_neg (by omega)];exact Jn T _ (fun u hu=>h u (by simp[hu])) hp.2 hl
theorem pB.Sr{T:List fi}{M:Nat}(h:pB T M)(hM:M<=131072)(f:Nat->Nat):po f 0 T=(0,T.foldl fV []):=by
 unfold po;have:=h.count;rw[if_neg (by omega)];have e:iF f 0=[]:=rfl;rw[e];exact Jn T [] h.may h.wm (by rw[<-h.len];exact hM)
theorem Ss{y x:Nat}(h:pQ false y x=0):3<=oD false y x/\oD false y x<=258:=uN (KM h).1
theorem Sv{y x:Nat}(h:pQ true y x=0):1<=oD true y x/\oD true y x<=32768:=by
 have:=(KN h).1;show 1<=kM _ _/\kM _ _<=32768
 unfold ni at this;split at this
 ·assumption
 ·exact absurd this (by decide)
theorem Jo{fL:Bool}{s:Nat}{g:Nat->Nat}{L a:Nat}(h:(jF fL s g L a).2.2=0):if fL then 1<=(jF fL s g L a).1/\(jF fL s g L a).1<=32768 else 3<=(jF fL s g L a).1/\(jF fL s g L a).1<=258:=by
 unfold jF at h⊢;split at h
 ·rename_i h1;exact absurd h h1
 ·rename_i h1;rw[if_neg h1];split at h
  ·exact absurd h (by decide)
  ·rename_i h2;rw[if_neg h2];cases fL
   ·exact Ss h
   ·exact Sv h
theorem Sw{k:fP}{g:Nat->Nat}{L a:Nat}(h:(fO k g L a).2.2.2=0)(he:(fO k g L a).2.1=false):fH (fO k g L a).1=true/\(fO k g L a).1.x<256:=by
 have hb:∀x,fH ⟨x,0,0⟩=true:=fun x=>decide_eq_true (.inl ⟨rfl,rfl⟩)
 unfold fO at h he⊢;by_cases h0:k.kind=0
 ·rw[if_pos h0]at h he⊢;unfold tM at h he⊢;by_cases h1:k.left=0
  ·rw[if_pos h1]at he;exact absurd he (show¬(true=false) by decide)
  ·rw[if_neg h1]at h he⊢;by_cases h2:8*L<a+8
   ·rw[if_pos h2]at h;exact absurd h (by decide)
   ·rw[if_neg h2];exact⟨hb _,nj g a 8⟩
 ·rw[if_neg h0]at h he⊢;generalize UT k.F k.n g L a 17 0=r at h he⊢;unfold sk at h he⊢;by_cases h1:r.2.2≠0
  ·rw[if_pos h1]at h;exact absurd h h1
  ·rw[if_neg h1]at h he⊢;by_cases h2:r.1<256
   ·rw[if_pos h2];exact⟨hb _,h2⟩
   ·rw[if_neg h2]at h he⊢;by_cases h3:r.1=256
    ·rw[if_pos h3]at he;exact absurd he (show¬(true=false) by decide)
    ·rw[if_neg h3]at h he⊢;have hx:=Jo (fL:=false) (s:=r.1) (g:=g) (L:=L) (a:=r.2.1);generalize jF false r.1 g L r.2.1=x at h he hx⊢;unfold vz at h he⊢;by_cases h4:x.2.2≠0
     ·rw[if_pos h4]at h;exact absurd h h4
     ·rw[if_neg h4]at h he⊢;generalize UT k.G k.m g L x.2.1 17 0=q at h he⊢;unfold vy at h he⊢;by_cases h5:q.2.2≠0
      ·rw[if_pos h5]at h;exact absurd h h5
      ·rw[if_neg h5]at h he⊢;have hy:=Jo (fL:=true) (s:=q.1) (g:=g) (L:=L) (a:=q.2.1);generalize jF true q.1 g L q.2.1=y at h he hy⊢;unfold vw at h he⊢;by_cases h6:y.2.2≠0
       ·rw[if_pos h6]at h;exact absurd h h6
       ·rw[if_neg h6];have k1:=hx (by omega);have k2:=hy (by omega);simp only[Bool.false_eq_true,if_false]at k1;simp only[if_true]at k2;exact⟨decide_eq_true (.inr ⟨by show¬x.1=0;omega,rfl,k1.1,k1.2,k2.1,k2.2⟩),by show 0<256;omega⟩
theorem lW.head{g:Nat->Nat}{L ff:Nat}{R:List Nat×Nat×Int}{T:List fi}{M a:Nat}(h:lW g L ff R T M (a,0) none):
  ((fS g L a).2.2≠0->∀b,nO ff R T (b,(fS g L a).2.2))/\((fS g L a).2.2=0->lW g L ff R T M ((fS g L a).2.1,0) (some (fS g L a).1)):=by
 have ht:=h.told
 have ha:a<=8*L:=h.place
 rw[Fc ha]at ht
 constructor
 ·intro h1 b;rw[if_pos h1]at ht;exact⟨⟨M,h.ok,h.room⟩,h1,by rw[<-ht],by rw[<-ht]⟩
 ·intro h1;rw[if_neg (fun e=>e h1)]at ht;exact⟨h.ok,h.room,rfl,(xC h1).2,ht⟩
def kE(ff M:Nat)(t:fi)(q:Rz):Rz:=ig (ig q (decide (t.d<=(M:Int))) 60) (decide (M+il t<=ff)) 140
def qS(ff M:Nat)(T:List fi)(t:fi)(q:Rz):List fi:=if(kE ff M t q).2=0 then T++[t]else T
theorem Sx(ff M:Nat)(t:fi)(q:Rz):(kE ff M t q).1=q.1:=by unfold kE;rw[nX,nX]
theorem lW.step{g:Nat->Nat}{L ff:Nat}{R:List Nat×Nat×Int}{T:List fi}{M a:Nat}{k:fP}(h:lW g L ff R T M (a,0) (some k)):
  ((gC k g L (a,0)).2.2.2≠0->nO ff R T (gC k g L (a,0)).2.2)/\
  ((gC k g L (a,0)).2.2.2=0->(gC k g L (a,0)).2.1=true->if k.last=true then rK ff R T (gC k g L (a,0)).2.2 else lW g L ff R T M (gC k g L (a,0)).2.2 none)/\
  ((gC k g L (a,0)).2.2.2=0->(gC k g L (a,0)).2.1=false->fH (gC k g L (a,0)).1=true/\(gC k g L (a,0)).1.x<256/\a+1<=(gC k g L (a,0)).2.2.1/\(gC k g L (a,0)).2.2.1<=8*L/\
   ((kE ff M (gC k g L (a,0)).1 (gC k g L (a,0)).2.2).2≠0->nO ff R (qS ff M T (gC k g L (a,0)).1 (gC k g L (a,0)).2.2) (kE ff M (gC k g L (a,0)).1 (gC k g L (a,0)).2.2))/\
   ((kE ff M (gC k g L (a,0)).1 (gC k g L (a,0)).2.2).2=0->lW g L ff R (qS ff M T (gC k g L (a,0)).1 (gC k g L (a,0)).2.2) (M+il (gC k g L (a,0)).1) (kE ff M (gC k g L (a,0)).1 (gC k g L (a,0)).2.2) (some (rq k)))):=by
 have ht:=h.told
 have ha:a<=8*L:=h.place
 rw[Af ha]at ht
 obtain⟨s1,s2⟩:=Fh (k:=k) (g:=g) (L:=L) (a:=a)
 have hf:=xD (k:=k) (g:=g) ha
 have hm:=Sw (k:=k) (g:=g) (L:=L) (a:=a)
 by_cases h1:(fO k g L a).2.2.2≠0
 ·rw[if_pos h1]at ht;have e1:=s2 h1;refine⟨fun _=>⟨⟨M,h.ok,h.room⟩,by rw[e1];exact h1,by rw[e1,<-ht],by rw[<-ht]⟩,fun e=>absurd (e1.symm.trans e) h1,fun e=>absurd (e1.symm.trans e) h1⟩
 ·rw[if_neg h1]at ht;have h0:(fO k g L a).2.2.2=0:=by omega
  have e1:=s1 h0;obtain⟨f1,f2,f3⟩:=hf h0;have ad:=hm h0;rw[e1];generalize fO k g L a=N at ht f1 f2 f3 ad⊢;obtain⟨t,en,b,e⟩:=N;dsimp only at ht f1 f2 f3 ad⊢;refine⟨fun h=>absurd rfl h,fun _ he=>?_,fun _ he=>?_⟩
  ·rw[if_pos he]at ht;by_cases hl:k.last=true
   ·rw[if_pos hl]at ht⊢;exact⟨⟨M,h.ok,h.room⟩,rfl,by rw[<-ht],by rw[<-ht],by rw[<-ht]⟩
   ·rw[if_neg hl]at ht⊢;exact⟨h.ok,h.room,rfl,f2,ht⟩
  ·subst he;rw[if_neg (by decide)]at ht;obtain⟨m1,m2⟩:=ad rfl;refine⟨m1,m2,f3 rfl,f2,?_⟩;rw[<-h.ok.len]at ht;unfold qS;by_cases d1:(M:Int)<t.d
   ·rw[if_pos d1]at ht;have e2:kE ff M t (b,0)=(b,60):=by
     unfold kE;rw[decide_eq_false (by omega)];have:(ig (b,0) false 60:Rz)=(b,60):=rfl;rw[this,pa (s:=(b,60)) (show(60:Int)≠0 by decide)]
    rw[e2,if_neg (show¬(60:Int)=0 by decide)];exact⟨fun _=>⟨⟨M,h.ok,h.room⟩,show(60:Int)≠0 by decide,by rw[<-ht],by rw[<-ht]⟩,fun e=>absurd e (show¬(60:Int)=0 by decide)⟩
   ·rw[if_neg d1]at ht;by_cases d2:ff<M+il t
    ·rw[if_pos d2]at ht;have e2:kE ff M t (b,0)=(b,140):=by
      unfold kE;rw[decide_eq_true (show t.d<=(M:Int) by omega),decide_eq_false (by omega)];rfl
     rw[e2,if_neg (show¬(140:Int)=0 by decide)];exact⟨fun _=>⟨⟨M,h.ok,h.room⟩,show(140:Int)≠0 by decide,by rw[<-ht],by rw[<-ht]⟩,fun e=>absurd e (show¬(140:Int)=0 by decide)⟩
    ·rw[if_neg d2]at ht;have e2:kE ff M t (b,0)=(b,0):=by
      unfold kE;rw[decide_eq_true (show t.d<=(M:Int) by omega),decide_eq_true (show M+il t<=ff by omega)];rfl
     rw[e2,if_pos rfl];exact⟨fun e=>absurd rfl e,fun _=>⟨h.ok.app ⟨m1,m2⟩ (by omega),by omega,rfl,f2,by rw[Jl];exact ht⟩⟩
def Jp(F:Fence)(n:Nat)(P:aA)(g:Nat)(lb:Array ay)(ad:Nat->Array ay)(Kp:au->au->Prop)(L:Nat)(w:au):Prop:=
 ∀(l:Nat) (J:Nat->au->Prop) (W:au),aS w.heap.size w W->
  (∀j W1 W2,J j W1->aS W1.heap.size W1 W2->J j W2)->
  (∀j W1,J j W1->j<L->YieldAt F (n-1) P l (ad j) W1 fun e W'=>e=aq (aj true)/\J (j+1) W'/\Kp W1 W')->
  J 0 W->CallsIn F n P g (#[.func (.yield l) #[] #[]]++lb) W fun e W'=>(∃v,e=aq v)/\J L W'
theorem Sz{W W':au}(h:aS W.heap.size W W'):W.grownBy W' none:=⟨h.os,h.tape,h.output,h.size,fun k hk _=>h.block k hk⟩
theorem SB{F:Fence}{n:Nat}{P:aA}{g:Operand}{ps:Array Tmp}{assign body:Code}{Q:Exit->Act->au->Prop}{a:Act}{w:au}
  (a7:F.round=none) (h1:1<=n) {gf:Nat} {lb:Array ay} (hg:a.eval g=.func (.func gf) #[] lb) (a8:F.fn gf) (eg:∀args w,(callFunc gf args).run P w=.ok (.enter gf args) w)
  {ah:Nat->Array ay} {Kp:au->au->Prop} {L:Nat} (aY:Jp F (n-1) P gf lb ah Kp L w)
  (aV:∀{A B C:au},Kp A B->Kp B C->Kp A C) (aZ:∀(W:au) (l:Nat) (o o':Obj),w.heap.size<=l->W.heap[l]?=some o->o.isCells=false->o.isWalk=false->Kp W (W.putObj l o')) (a9:∀j,(ah j).size=ps.size)
  (I:Nat->au->Prop) (hI:OwnFrom w.heap.size I) (h0:I 0 w) (I1:Nat->Act->au->Prop) (bf:∀a₁,OwnFrom w.heap.size (fun j=>I1 j a₁))
  (al:∀(l j:Nat) (W:au) (K:Act->au->Prop),I j W->j<L->(∀a₁ W₁,KeepsOthers W W₁->Kp W W₁->I1 j a₁ W₁->K a₁ W₁)->
   assign.wpIn (F.inRound l) (n-1-1) P (Exit.then K (fun _ _ _=>False)) {tmps:=(ps.zip (ah j)).foldl (fun t (p,v)=>t.setIfInBounds p v) a.tmps,defers:=[]} W)
  (aW:∀(l j:Nat) (a₁:Act) (W:au),I1 j a₁ W->j<L->body.wpIn (F.inRound l) (n-1-1) P (fun e _ W'=>e=.normal/\KeepsOthers W W'/\Kp W W'/\I (j+1) W') a₁ W)
  (aX:∀(D:Nat) (W:au),w.heap.size<=D->I L W->W.heap[D]?=some (.deferred (some []))->Q .normal {a with defers:={target:=.collected D,args:=#[]}::a.defers} W):
  (Code.rangeFunc g ps assign body).wpIn F n P Q a w:=by
 refine wpIn_rangeFunc fun fn bg=>?_
 rw[a7]
 obtain⟨rec,ad⟩:∃rec:LoopState->Loop,rec=fun st=>{state:=st,pending:=none,fn,tmps:=a.tmps,params:=ps,assign,body,defers:=w.heap.size}:=⟨_,rfl⟩
 obtain⟨D,hD⟩:=fb (w.heap.size)
 obtain⟨W1,av⟩:=fb ((w.alloc (.deferred (some []))).alloc (.loop (rec .ready)))
 have bj:W1.heap[D+1]?=some (.loop (rec .ready)):=by
  rw[av,hD];have h:=World.alloc_heap_new (w.alloc (.deferred (some []))) (.loop (rec .ready));rwa[World.size_alloc]at h
 have bl:W1.heap[D]?=some (.deferred (some [])):=by
  rw[av,hD];exact(Below.heap_alloc _ _ _ (by simp)).trans (World.alloc_heap_new w _)
 have a1:I 0 W1:=by rw[av];exact hI.alloc _ (hI.alloc _ h0)
 have bn:aS w.heap.size w W1:=by
  rw[av];exact((Below.refl _ w).alloc fe _).alloc (by simp) _
 refine⟨D+1,[{target:=.collected D,args:=#[]}],W1,{target:=.fn (.func gf) lb,args:=#[.func (.yield (D+1)) #[] #[]]},W1,gf,#[.func (.yield (D+1)) #[] #[]]++lb,W1,?_,?_,?_,?_,fun _=>h1,?_⟩
 ·rw[av,ad,hD];exact run_enterLoop_outer _ _ _ _ _
 ·simp only[resolve,hg];simp[go_sem]
 ·intro f' a2;simp[Target.leads]at a2;subst a2;exact a8
 ·simp[invoke,go_sem,eg]
 ·refine(aY (D+1) (fun j W=>I j W/\W.heap[D+1]?=some (.loop (rec .ready))/\W.heap[D]?=some (.deferred (some []))) W1 bn ?_ ?_ ⟨a1,bj,bl⟩).mono ?_
  ·rintro j A B ⟨hi,hl,hk⟩ hb;exact⟨hI _ _ _ none hi (Sz hb) (fun r e=>by cases e),(hb.block _ (Array.getElem?_eq_some_iff.1 hl).1).trans hl,(hb.block _ (Array.getElem?_eq_some_iff.1 hk).1).trans hk⟩
  ·rintro j W ⟨hi,hl,hk⟩ hj;have bC:D+1<W.heap.size:=(Array.getElem?_eq_some_iff.1 hl).1;have hy:=run_yield (P:=P) (args:=ah j) hl (by rw[ad];exact a9 j);rw[ad]at hy;refine⟨fn,_,assign,body,hy,roundIn_of_wpIn bg (al _ j W _ hi hj fun a₁ Wa a4 bq br=>?_)⟩;have aU:=a4.same _ _ hl rfl;have bt:=a4.same _ _ hk rfl;have a5:D+1<Wa.heap.size:=(Array.getElem?_eq_some_iff.1 aU).1;refine⟨_,run_beginRound aU (by rw[ad]),?_⟩;have bu:(Wa.putObj (D+1) (.loop {rec .ready with state:=.busy})).heap[D+1]?=some (.loop {rec .ready with state:=.busy}):=World.putObj_heap_same a5;have bx:(Wa.putObj (D+1) (.loop {rec .ready with state:=.busy})).heap[D]?=some (.deferred (some [])):=(World.putObj_heap_other (by omega)).trans bt;have bz:Kp W (Wa.putObj (D+1) (.loop {rec .ready with state:=.busy})):=aV bq (aZ Wa _ _ _ (by omega) aU rfl rfl);refine wpIn_mono (aW _ j _ _ ((bf a₁).putObj _ br (by omega) aU rfl) hj) ?_;rintro e a3 W3 ⟨rfl,a6,bA,bB⟩;have aT:=a6.same _ _ bu rfl;have hr:=run_endRound (P:=P) none aT;rw[ad]at hr aT;refine⟨_,_,hr,rfl,⟨hI.putObj _ bB (by omega) aT rfl,?_,(World.putObj_heap_other (by omega)).trans (a6.same _ _ bx rfl)⟩,aV (aV bz bA) (aZ W3 _ _ _ (by omega) aT rfl rfl)⟩;rw[World.putObj_heap_same (Array.getElem?_eq_some_iff.1 aT).1,ad];rfl
  ·rintro e W2 ⟨⟨v,rfl⟩,hi,hl,hk⟩;refine⟨none,_,by have h:=run_endLoop (P:=P) hl (by rw[ad];simp);rw[ad]at h;exact h,?_⟩;exact aX D _ (by omega) (hI.putObj _ hi (by omega) hl rfl) ((World.putObj_heap_other (by omega)).trans hk)
theorem SC{F:Fence}{n:Nat}{P:aA}{g:Operand}{ps:Array Tmp}{assign body:Code}{Q:Exit->Act->au->Prop}{a:Act}{w:au}
  (a5:F.round=none) (h1:1<=n) {gf:Nat} {lb:Array ay} (hg:a.eval g=.func (.func gf) #[] lb) (a6:F.fn gf) (eg:∀args w,(callFunc gf args).run P w=.ok (.enter gf args) w)
  {σ:Type} (enc:σ->Array ay) (a7:∀s,(enc s).size=ps.size) (Is Ie:au->Prop) (I0 I1:σ->au->Prop)
  (aW:OwnFrom w.heap.size (fun _:Unit=>Is)) (a8:OwnFrom w.heap.size I1) (a9:OwnFrom w.heap.size (fun _:Unit=>Ie))
  (aX:∀(l:Nat) (X:au->Prop) (W:au),(∀W1 W2,X W1->(∀k,(k=w.heap.size\/k=w.heap.size+1)->W2.heap[k]?=W1.heap[k]?)->X W2)->
   (∀s W1,I0 s W1->w.heap.size+2<=W1.heap.size->X W1->YieldAt F (n-1-1) P l (enc s) W1 fun e W'=>e=aq (aj true)/\I1 s W'/\w.heap.size+2<=W'.heap.size/\X W')->
   w.heap.size+2<=W.heap.size->Is W->X W->CallsIn F (n-1) P gf (#[.func (.yield l) #[] #[]]++lb) W fun e W'=>(∃v,e=aq v)/\Ie W'/\X W')
  (h0:Is w) (Ia:σ->Act->au->Prop) (bf:∀a₁,OwnFrom w.heap.size (fun s=>Ia s a₁))
  (ah:∀(l:Nat) (s:σ) (W:au) (K:Act->au->Prop),I0 s W->w.heap.size+2<=W.heap.size->(∀a₁ W₁,KeepsOthers W W₁->W.heap.size<=W₁.heap.size->Ia s a₁ W₁->K a₁ W₁)->
   assign.wpIn (F.inRound l) (n-1-1) P (Exit.then K (fun _ _ _=>False)) {tmps:=(ps.zip (enc s)).foldl (fun t (p,v)=>t.setIfInBounds p v) a.tmps,defers:=[]} W)
  (aT:∀(l:Nat) (s:σ) (a₁:Act) (W:au),Ia s a₁ W->body.wpIn (F.inRound l) (n-1-1) P (fun e _ W'=>e=.normal/\KeepsOthers W W'/\W.heap.size<=W'.heap.size/\I1 s W') a₁ W)
  (aU:∀(D:Nat) (W:au),w.heap.size<=D->Ie W->W.heap[D]?=some (.deferred (some []))->Q .normal {a with defers:={target:=.collected D,args:=#[]}::a.defers} W):
  (Code.rangeFunc g ps assign body).wpIn F n P Q a w:=by
 refine wpIn_rangeFunc fun fn bg=>?_
 rw[a5]
 obtain⟨rec,ad⟩:∃rec:LoopState->Loop,rec=fun st=>{state:=st,pending:=none,fn,tmps:=a.tmps,params:=ps,assign,body,defers:=w.heap.size}:=⟨_,rfl⟩
 obtain⟨D,hD⟩:=fb (w.heap.size)
 obtain⟨W1,al⟩:=fb ((w.alloc (.deferred (some []))).alloc (.loop (rec .ready)))
 have bj:W1.heap[D+1]?=some (.loop (rec .ready)):=by
  rw[al,hD];have h:=World.alloc_heap_new (w.alloc (.deferred (some []))) (.loop (rec .ready));rwa[World.size_alloc]at h
 have bl:W1.heap[D]?=some (.deferred (some [])):=by
  rw[al,hD];exact(Below.heap_alloc _ _ _ (by simp)).trans (World.alloc_heap_new w _)
 have aY:Is W1:=by rw[al];exact aW.alloc (s:=()) _ (aW.alloc (s:=()) _ h0)
 have bB:W1.heap.size=D+2:=by rw[al,hD];simp
 refine⟨D+1,[{target:=.collected D,args:=#[]}],W1,{target:=.fn (.func gf) lb,args:=#[.func (.yield (D+1)) #[] #[]]},W1,gf,#[.func (.yield (D+1)) #[] #[]]++lb,W1,?_,?_,?_,?_,fun _=>h1,?_⟩
 ·rw[al,ad,hD];exact run_enterLoop_outer _ _ _ _ _
 ·simp only[resolve,hg];simp[go_sem]
 ·intro f' aZ;simp[Target.leads]at aZ;subst aZ;exact a6
 ·simp[invoke,go_sem,eg]
 ·refine(aX (D+1) (fun W=>W.heap[D+1]?=some (.loop (rec .ready))/\W.heap[D]?=some (.deferred (some []))) W1 ?_ ?_ (by omega) aY ⟨bj,bl⟩).mono ?_
  ·rintro A B ⟨hl,hk⟩ hb;exact⟨(hb _ (.inr (by omega))).trans hl,(hb _ (.inl hD)).trans hk⟩
  ·rintro s W hi bn ⟨hl,hk⟩;have bC:D+1<W.heap.size:=(Array.getElem?_eq_some_iff.1 hl).1;have hy:=run_yield (P:=P) (args:=enc s) hl (by rw[ad];exact a7 s);rw[ad]at hy;refine⟨fn,_,assign,body,hy,roundIn_of_wpIn bg (ah _ s W _ hi bn fun a₁ Wa a1 bD bq=>?_)⟩;have aV:=a1.same _ _ hl rfl;have br:=a1.same _ _ hk rfl;have a2:D+1<Wa.heap.size:=(Array.getElem?_eq_some_iff.1 aV).1;refine⟨_,run_beginRound aV (by rw[ad]),?_⟩;have bt:(Wa.putObj (D+1) (.loop {rec .ready with state:=.busy})).heap[D+1]?=some (.loop {rec .ready with state:=.busy}):=World.putObj_heap_same a2;have bu:(Wa.putObj (D+1) (.loop {rec .ready with state:=.busy})).heap[D]?=some (.deferred (some [])):=(World.putObj_heap_other (by omega)).trans br;have bx:∀(V:au) (i:Nat) (o:Obj),(V.putObj i o).heap.size=V.heap.size:=fun V i o=>by simp[World.putObj]
   refine wpIn_mono (aT _ s _ _ ((bf a₁).putObj _ bq (by omega) aV rfl)) ?_;rintro e a3 W3 ⟨rfl,a4,bz,bA⟩;have av:=a4.same _ _ bt rfl;have hr:=run_endRound (P:=P) none av;rw[ad]at hr av;refine⟨_,_,hr,rfl,a8.putObj _ bA (by omega) av rfl,?_,?_,(World.putObj_heap_other (by omega)).trans (a4.same _ _ bu rfl)⟩
   ·rw[bx]at bz⊢;omega
   ·rw[World.putObj_heap_same (Array.getElem?_eq_some_iff.1 av).1,ad];rfl
  ·rintro e W2 ⟨⟨v,rfl⟩,hi,hl,hk⟩;refine⟨none,_,by have h:=run_endLoop (P:=P) hl (by rw[ad];simp);rw[ad]at h;exact h,?_⟩;exact aU D _ (by omega) (a9.putObj (s:=()) _ hi (by omega) hl rfl) ((World.putObj_heap_other (by omega)).trans hk)
open Go.ChangeShapes Go.WideShapes Go.ChangeAt Go.Joins
theorem uw(w:au)(A:Option aw)(n c:Nat)(f:Nat->Nat)(A2:Option aw)(m c2:Nat)(l:List fi)(hr:fq w w.heap.size A n c f)(ht:iK w w.heap.size A2 m c2 l)(bB:∀t∈l,qz t):
  ax prog 76 #[af A n c,af A2 m c2] w fun e w'=>∃A' n' c',e=aq (.tuple #[af A' n' c',ae ak (po f n l).1])/\n'=(po f n l).2.length/\fq w' w'.heap.size A' n' c' (fc (po f n l).2)/\aS w.heap.size w w'/\iT w' w.heap.size A' n':=by
 obtain⟨hm,bC,_⟩:=ht
 obtain⟨O,hO⟩:=fb (po f n l)
 rw[<-hO]
 have HR:=fa hr;have HT:=fa bC;have HX:=fa bB;have HM:=fa hm;have HO:=fa hO
 have aX:∀j,fc [] j<256:=fun j=>by unfold fc;simp
 clear hr bC bB hO
 by_cases aY:131072<n\/131072<m
 ·have e:O=(4,[]):=HO.out.trans (if_pos (by rw[<-hm];exact aY));subst e;by_cases q2:131072<n
  ·have d1:decide (131072<(n:Int))=true:=by simp;omega
   clear hm;go_enter func76,ntmps76
   go_wp2;go_ret2;exact⟨none,0,0,rfl,rfl,fq.nil _ _ _ aX,Below.refl _ _,iT.nil _ _ _⟩
  ·have d1:decide (131072<(n:Int))=false:=by simp;omega
   have d2:decide (131072<(m:Int))=true:=by simp;omega
   clear hm;go_enter func76,ntmps76
   go_wp2;go_ret2;exact⟨none,0,0,rfl,rfl,fq.nil _ _ _ aX,Below.refl _ _,iT.nil _ _ _⟩
 have d1:decide (131072<(n:Int))=false:=by simp;omega
 have d2:decide (131072<(m:Int))=false:=by simp;omega
 have bD:O=Vw n l (iF f n):=HO.out.trans (if_neg (by rw[<-hm];exact aY))
 have bE:∀x∈iF f n,x<256:=fun x hx=>by
  unfold iF at hx;rw[List.mem_map]at hx;obtain⟨i,_,rfl⟩:=hx;exact HR.out.1.1 i
 have bF:=fa (GK w A n c f HR.out (by omega))
 have b2:=fa bE;have b3:=fa bD
 have cn:n<=131072:=by omega
 have cp:m<=131072:=by omega
 clear bE bD HO hm aY
 go_enter func76,ntmps76
 go_wp2_with fail
 refine bF.out.mono ?_
 rintro e w1 ⟨A1,c1,rfl,aZ,bG⟩
 rw[Pm]at aZ
 have bH:=fa aZ;have b4:=fa bG
 clear aZ bG bF
 go_wp2_with fail
 go_loopw [6,22] (fun ov iv wr=>∃(i q:Nat) (At:Option aw) (ct:Nat) (L:List Nat),i<=m/\n<=q/\q<=n+131072/\ov=af At q ct/\iv=ae ak (i:Int)/\aR (q=L.length)/\aR (Vw n (l.drop i) L=O)/\aR (∀x∈L,x<256)/\aR (wr.ownsRow w.heap.size 5 1 (af At q ct) q (ft q (fc L)))/\aR (aS w.heap.size w wr)) (fun _ iv _=>m-(intOf iv).toNat)
 case atStart=>exact⟨0,n,A1,c1,iF f n,Nat.zero_le _,Nat.le_refl _,by omega,rfl,rfl,fa (qp f n).symm,fa b3.out.symm,b2,bH,b4⟩
 case round=>
  obtain⟨i,q,At,ct,L,hi,bI,cq,rfl,rfl,HQ,HP,HL,HW,HB⟩:=hrel;by_cases b5:i<m
  ·have bJ:(i:Int)<(m:Int):=by omega
   have aV:i<l.length:=by rw[<-HM.out];exact b5
   have bg:=HT.out.below HB.out fe;obtain⟨b,o,rfl,cr,hc⟩:=bg.at aV;have bj:=bg.range rfl aV;have av:=Pn (A:=n) aV L;obtain⟨t,bl⟩:=fb (l.getD i gH);rw[<-bl]at bj av;have bn:qz t:=by
    rw[bl,List.getD_eq_getElem?_getD,List.getElem?_eq_getElem aV];exact HX.out _ (List.getElem_mem aV)
   rw[HP.out,<-HQ.out]at av;clear bl aV hc bg;obtain⟨tx,td,tn⟩:=t;obtain⟨mb,bq⟩:=fb (fH ⟨tx,td,tn⟩);obtain⟨h,hh⟩:=fb (wr.heap.size);obtain⟨W2,a1⟩:=fb (gi wr #[ae .u8 0,ae ak 0,ae ak 0] (gY ⟨tx,td,tn⟩).toArray 36);have br:aS wr.heap.size wr W2:=by rw[a1];exact km _ _ _ _
   have aT:W2.heap[h]?=some (ao (gY ⟨tx,td,tn⟩).toArray 36 (0,0)):=by rw[a1,hh];exact kO wr _ _ _
   have a6:h<W2.heap.size:=by rw[a1,hh,wZ];omega
   have bt:=GJ W2 ⟨tx,td,tn⟩ bn;obtain⟨E,hE⟩:=fb (pY ⟨tx,td,tn⟩);rw[<-hE]at bt;have bK:E=if mb=true then 0 else 8:=by rw[hE,bq];rfl
   have x0:W2.cell? ⟨h,0,none⟩=some (ae .u8 (tx:Int)):=(aI W2 _ 0 _ _ (0,0) aT).trans rfl;have x1:W2.cell? ⟨h,1,none⟩=some (ae ak td):=(aI W2 _ 1 _ _ (0,0) aT).trans rfl;have x2:W2.cell? ⟨h,2,none⟩=some (ae ak tn):=(aI W2 _ 2 _ _ (0,0) aT).trans rfl;have bL:=fa bj;have a2:=fa av;have bM:=fa bn;have a7:=fa bq;have HH:=fa hh;have bN:=fa a1;have bu:=fa (HB.out.trans (br.mono HB.out.size));have bO:=fa aT;have bP:=fa bt;have bQ:=fa (mW HW.out br);have bR:=fa bK
   clear bj av bq bn a1 br aT bt hh HW HB hE bK;go_wp2_with (first|refine wpList_load_mid rfl _ _ rfl b (o+i*3) rfl (gY ⟨tx,td,tn⟩) _ bL.out underlying36 rfl mT ?_|refine aD rfl _ _ _ rfl rfl wr.heap.size (gY ⟨tx,td,tn⟩).toArray rfl rfl 36 #[ae .u8 0,ae ak 0,ae ak 0] (aH wr _) (sH _) rfl (tY _) ?_;change wpList _ _ _ _ _ (gi wr #[ae .u8 0,ae ak 0,ae ak 0] (gY ⟨tx,td,tn⟩).toArray 36);rw[<-bN.out,<-HH.out])
   refine bP.out.mono ?_;rintro e w3 ⟨rfl,aW⟩;have a8:=fa (bu.out.trans (aW.mono bu.out.size));have b6:=fa (mW bQ.out aW);have y0:=(aW.cell (p:=⟨h,0,none⟩) a6).trans x0;have y1:=(aW.cell (p:=⟨h,1,none⟩) a6).trans x1;have y2:=(aW.cell (p:=⟨h,2,none⟩) a6).trans x2;have ah:=a2.out;clear x0 x1 x2 a6 aW a2 bP bQ bu bL bN bO;cases mb with
   |false=>
    rw[if_pos a7.out.symm]at ah;subst ah;obtain rfl:E=8:=bR.out;clear y0 y1 y2;go_wp2;go_ret2;exact⟨none,0,0,rfl,rfl,fq.nil _ _ _ aX,a8.out,iT.nil _ _ _⟩
   |true=>
    rw[if_neg (by rw[<-a7.out];decide)]at ah;obtain rfl:E=0:=bR.out;by_cases bS:(q:Int)<td
    ·rw[if_pos bS]at ah;subst ah;go_wp2;go_ret2;exact⟨none,0,0,rfl,rfl,fq.nil _ _ _ aX,a8.out,iT.nil _ _ _⟩
    rw[if_neg bS]at ah;have bT:=fa (Pr w3 w.heap.size ⟨tx,td,tn⟩ At ct q L HQ.out HL.out bM.out.1 b6.out a8.out.size (by omega) a7.out.symm (by show td<=(q:Int);omega));have bU:=fa ah;clear ah;go_wp2_with fail
    refine bT.out.mono ?_;rintro e w4 ⟨A',q',c',rfl,bx,bV,bW⟩;have hl:=rV L ⟨tx,td,tn⟩;have bX:=KS a7.out.symm;have ah:=bU.out;rw[<-bx,<-HQ.out]at hl;have bY:=fa (a8.out.trans bW);have bZ:∀x∈fV L ⟨tx,td,tn⟩,x<256:=GH HL.out bM.out.1;obtain⟨g,hg⟩:=fb (q'-n);have eg:(q':Int)-(n:Int)=(g:Int):=by omega
    rw[show q-n+il ⟨tx,td,tn⟩=g by omega]at ah;have b7:=fa bx;have b8:=fa bV;have b9:=fa bZ
    have ca:n<=q'/\q'<=n+131072+258:=by omega
    obtain⟨cb,cu⟩:=ca;have b0:g=q'-n:=hg;clear bx bV bW bZ hl bX y0 y1 y2 bT bU hg;by_cases aU:131072<g
    ·rw[if_pos aU]at ah;subst ah;have dm:131072<(g:Int):=by omega
     clear b0;go_wp2;go_ret2;exact⟨none,0,0,rfl,rfl,fq.nil _ _ _ aX,bY.out,iT.nil _ _ _⟩
    ·rw[if_neg aU]at ah;have dm:¬131072<(g:Int):=by omega
     have cf:q'<=n+131072:=by omega
     have cg:=fa ah.symm;clear b0 ah aU;go_wp2;go_roundw
     case rel=>
      exact⟨i+1,q',A',c',fV L ⟨tx,td,tn⟩,by omega,cb,cf,rfl,by go_num,b7,cg,b9,b8,bY⟩
     case measure=>simp[intOf];omega
  ·obtain rfl:i=m:=by omega
   have bJ:¬(i:Int)<(i:Int):=by omega
   have al:=HP.out;have bz:l.drop i=[]:=List.drop_eq_nil_of_le (by rw[<-HM.out];exact Nat.le_refl _);rw[bz]at al;have ch:O=(0,L.drop n):=al.symm;subst ch;have a3:=fq.gD HW.out (jz HL.out);have hlen:q-n=(L.drop n).length:=by rw[List.length_drop,HQ.out]
   have bA:∀j,fc L (j+n)=fc (L.drop n) j:=fun j=>by
    unfold fc;rw[List.getD_eq_getElem?_getD,List.getD_eq_getElem?_getD,List.getElem?_drop,Nat.add_comm]
   have a9:∀j,fc (L.drop n) j<256:=jz fun x hx=>HL.out x (List.mem_of_mem_drop hx)
   have cj:q<=ct:=a3.2.2.1;have cv:(n:Int)<=(q:Int):=by omega
   rcases At with _|ad
   ·have ck:=a3.2.1 rfl;obtain rfl:ct=0:=ck;have cl:q=0:=by omega
    have cm:n=0:=by omega
    subst cl;subst cm;have al:fq wr wr.heap.size none 0 0 (fc (L.drop 0)):=fq.nil _ _ _ a9;have a4:=fa al;have a5:=fa hlen
    clear al a3 hlen bA a9 bz;go_wp2;go_ret2;exact⟨none,0,0,rfl,(by have:=a5.out;simpa using this),a4.out,HB.out,iT.nil _ _ _⟩
   ·obtain⟨A3,hA3⟩:∃A3,(if ct=n then(some ad:Option aw)else some (ad.add n))=A3:=⟨_,rfl⟩;have al:=(a3.drop (p:=n) bI hA3).ext a9 (fun j _=>bA j);have bf:=iT.gD HW.out cj bI hA3;have a4:=fa al;have a5:=fa hlen;have b1:=fa bf
    clear al a3 hlen bA a9 bz bf;go_wp2;go_ret2;exact⟨A3,q-n,ct-n,rfl,(by have:=a5.out;simpa using this),a4.out,HB.out,b1.out⟩
theorem SD(d k:Int):prog.built 182 [(1,ae ak d),(2,ae ak k)]=some #[ae .u8 0,ae ak d,ae ak k]:=by kernel_rfl
theorem Jq(x:Int):prog.built 182 [(0,ae .u8 x)]=some #[ae .u8 x,ae ak 0,ae ak 0]:=by kernel_rfl
theorem Cs:(prog.info? 182).map (·.size)=some 3:=by kernel_rfl
theorem qb(a b c:ay):(prog.info? 182).map (·.size)=some (#[a,b,c]:Array ay).size:=Cs
theorem ux(x:Int)(d k:Int):(#[ae .u8 x,ae ak d,ae ak k]:Array ay).all (·.oneCell')=true:=by simp[Value.oneCell']
theorem wu{fn:Func}{p:Tmp}(h:fn.results=#[.cell p 182])(tmps:Array ay)(w:au)(g:Nat)(cs:Array ay)(hs:cs.size=3)(hp:tmps.getD p undef=ag (some ⟨g,0,none⟩))(ht:w.heap[g]?=some (ao cs 182 (0,0))):
  (results fn tmps).run prog w=.ok (ai cs) w:=by
 have ad:tmps[p]?.getD undef=ag (some ⟨g,0,none⟩):=by simpa using hp
 have hl:=run_loadVar_row (P:=prog) w g 182 182 cs (0,0) _ ht underlying182 rfl (by rw[hs];exact Cs)
 simp[results,h,ad,asAddr,hl]
theorem Ct(w:au)(A:Option aw)(n c:Nat)(f:Nat->Nat)(a z ch:Nat)(m:Int)(lz:Bool)(hr:fq w w.heap.size A n c f)(ha:a<=n)(hn:n<=131072)(a3:1<=z)(hz:z<=32768)(a4:ch<=256):
  ax prog 197 #[af A n c,ae ak (a:Int),ai #[ae ak (z:Int),ae ak (ch:Int),ae ak m,aj lz]] w fun e w'=>
   e=aq (ai #[ae .u8 0,ae ak ((UW f n a z a ch 0 0).1:Nat),ae ak ((UW f n a z a ch 0 0).2:Nat)])/\aS w.heap.size w w':=by
 obtain⟨T,hT⟩:=fb (UW f n a z a ch 0 0)
 have eT:oI f n a z ch=T:=by
  unfold oI;rw[if_pos ⟨by omega,by omega,by omega,by omega,by omega,by omega,by omega⟩,Int.toNat_natCast,Int.toNat_natCast,Int.toNat_natCast,hT]
 rw[<-hT]
 obtain⟨d,k⟩:=T
 clear hT
 obtain⟨h,hh⟩:=fb (w.heap.size)
 obtain⟨W1,ad⟩:=fb ((w.alloc (ao #[ae ak (z:Int),ae ak (ch:Int),ae ak m,aj lz] 55)).alloc (ao #[ae .u8 0,ae ak 0,ae ak 0] 182))
 have ah:aS h w W1:=by rw[ad,hh];exact(fz.alloc fe _).alloc (by simp) _
 have aT:W1.heap.size=h+2:=by rw[ad,hh];simp
 have al:W1.heap[h]?=some (ao #[ae ak (z:Int),ae ak (ch:Int),ae ak m,aj lz] 55 (0,0)):=by
  rw[ad,hh];exact(Below.heap_alloc _ _ _ (by simp)).trans (aH w _)
 have aU:W1.heap[h+1]?=some (ao #[ae .u8 0,ae ak 0,ae ak 0] 182 (0,0)):=by
  have:=aH (w.alloc (ao #[ae ak (z:Int),ae ak (ch:Int),ae ak m,aj lz] 55)) (ao #[ae .u8 0,ae ak 0,ae ak 0] 182);rw[World.size_alloc,<-ad,<-hh]at this;exact this
 have x0:W1.cell? ⟨h,0,none⟩=some (ae ak (z:Int)):=(aI W1 _ 0 _ _ (0,0) al).trans rfl
 have x1:W1.cell? ⟨h,1,none⟩=some (ae ak (ch:Int)):=(aI W1 _ 1 _ _ (0,0) al).trans rfl
 have hf:=Pf W1 A n c f a z ch ((hr.below (hh▸ah) (by omega)).more (by omega))
 rw[eT]at hf
 obtain⟨E,hE⟩:=fb (sF f n a z ch)
 rw[<-hE]at hf
 have HF:=fa hf;have aY:=fa ah;have aV:=fa aT;have aZ:=fa aU;have a1:=fa ad;have HH:=fa hh
 clear hf ah aT aU al ad hE eT hr hh
 go_enter func197,ntmps197
 go_wp2_with fail
 rw[<-a1.out,<-HH.out]
 refine HF.out.mono ?_
 rintro e w2 ⟨rfl,av⟩
 have aW:=(av.block (h+1) (by have:=aV.out;omega)).trans aZ.out
 have a2:=fa (aY.out.trans (av.mono (by have:=aV.out;omega)))
 have aX:=fa aW
 clear av aW x0 x1
 go_wp2_with (first
  |(refine aE rfl 182 #[(1,.tmp 21),(2,.tmp 22)] rfl (some 23) rfl #[ae .u8 0,ae ak (d:Int),ae ak (k:Int)] ?_ ?_;focus(simpa[Act.eval]using SD (d:Int) (k:Int)))
  |(refine aD rfl _ _ _ rfl rfl (h+1) #[ae .u8 0,ae ak (d:Int),ae ak (k:Int)] rfl rfl 182 #[ae .u8 0,ae ak 0,ae ak 0] aX.out (qb _ _ _) rfl (ux _ _ _) ?_))
 refine aL (wu rfl _ _ (h+1) _ rfl rfl (aJ _ _ _ _ _ _ aX.out)) rfl ⟨rfl,?_⟩
 rw[<-HH.out]
 exact pZ a2.out (by omega) _
def m9(f:Nat->Nat)(n z ch:Nat)(lz:Bool)(a:Nat):fi:=
 if(UW f n a z a ch 0 0).2=0\/(UW f n a z a ch 0 0).2<rU f n z ch lz a then⟨f a,0,0⟩else⟨0,((UW f n a z a ch 0 0).1:Nat),((UW f n a z a ch 0 0).2:Nat)⟩
theorem yx(x d n:Int)(w:au):(Instr.field 182 (ai #[ae .u8 x,ae ak d,ae ak n]) 2).run prog w=.ok (ae ak n) w:=by
 have hi:(prog.info? 3).map (·.size)=some 1:=by kernel_rfl
 unfold Instr.field;simp[go_sem,asAgg]
theorem yz{P:aA}{C:au->Prop}{K:Act->Prop}{a:Act}{o:Oper}(ty:aC)(x:Operand)(i:Nat)(ho:o.op=.field ty x i)(v u:ay)(hx:a.eval x=v)
  (ad:∀w,(Instr.field ty v i).run P w=.ok u w) (hk:K (a.put o.dst u)):o.quiet P a C K:=
 ⟨_,fun w hw=>by
  unfold Oper.quietAt execOp;simp only[ho,hx,Sem.run_bind,ad,Result.andThen_ok];exact⟨rfl,rfl⟩,hk⟩
theorem yA(a b c:ay):(prog.info? 182).map (·.size)=some ([a,b,c]:List ay).length:=Cs
theorem yB(a b c d:ay):(prog.info? 55).map (·.size)=some ([a,b,c,d]:List ay).length:=vL
theorem SE(w:au)(A:Option aw)(n c:Nat)(f:Nat->Nat)(a z ch:Nat)(m:Int)(lz:Bool)(hr:fq w w.heap.size A n c f)(ha:a<n)(hn:n<=131072)(br:1<=z)(hz:z<=32768)(bt:ch<=256):
  ax prog 189 #[af A n c,ae ak (a:Int),ai #[ae ak (z:Int),ae ak (ch:Int),ae ak m,aj lz]] w fun e w'=>
   e=aq (ai #[ae .u8 ((m9 f n z ch lz a).x:Int),ae ak (m9 f n z ch lz a).d,ae ak (m9 f n z ch lz a).n])/\aS w.heap.size w w':=by
 obtain⟨R,hR⟩:=fb (m9 f n z ch lz a)
 rw[<-hR]
 unfold m9 at hR
 obtain⟨T,hT⟩:=fb (UW f n a z a ch 0 0)
 rw[<-hT]at hR
 obtain⟨a1,bf⟩:=fb (a+1)
 obtain⟨T2,a4⟩:=fb (UW f n a1 z a1 ch 0 0)
 have a9:rU f n z ch lz a=if lz=true then T2.2 else 0:=by
  unfold rU;rw[<-bf];cases lz with
  |false=>rfl
  |true=>
   rw[if_pos rfl];by_cases h:a1<n
   ·rw[if_pos ⟨rfl,h⟩,a4]
   ·rw[if_neg (fun q=>h q.2),a4];obtain rfl:a1=n:=by omega
    by_cases h2:(UW f a1 a1 z a1 ch 0 0).2=0
    ·exact h2.symm
    ·obtain⟨b1,b2,b3,b4,b5,b6⟩:=tf h2;have:=(b6 0 (by omega)).1;omega
 rw[a9]at hR
 have bg:T.2=0->T.1=0:=fun h0=>by
  rw[hT]at h0⊢;rcases tc (f:=f) (L:=n) (a:=a) (size:=z) a ch 0 0 fe (.inl ⟨rfl,rfl⟩)with⟨h1,h2⟩|⟨_,_,_,h3,_⟩
  ·exact h1
  ·omega
 have bD:=Ct
 have bj:∀V,fq V V.heap.size A n c f->ax prog 197 #[af A n c,ae ak (a:Int),ai #[ae ak (z:Int),ae ak (ch:Int),ae ak m,aj lz]] V fun e w'=>
   e=aq (ai #[ae .u8 0,ae ak (T.1:Nat),ae ak (T.2:Nat)])/\aS V.heap.size V w':=fun V hV=>by
  rw[hT];exact Ct V A n c f a z ch m lz hV (by omega) hn br hz bt
 have bl:∀V,fq V V.heap.size A n c f->ax prog 197 #[af A n c,ae ak (a1:Int),ai #[ae ak (z:Int),ae ak (ch:Int),ae ak m,aj lz]] V fun e w'=>
   e=aq (ai #[ae .u8 0,ae ak (T2.1:Nat),ae ak (T2.2:Nat)])/\aS V.heap.size V w':=fun V hV=>by
  rw[a4];exact Ct V A n c f a1 z ch m lz hV (by omega) hn br hz bt
 obtain⟨d,k⟩:=T
 obtain⟨d2,k2⟩:=T2
 clear hT a4 a9 bD
 dsimp only at hR bg bj bl
 obtain⟨h,hh⟩:=fb (w.heap.size)
 obtain⟨W1,aU⟩:=fb ((w.alloc (ao #[ae ak (z:Int),ae ak (ch:Int),ae ak m,aj lz] 55)).alloc (ao #[ae .u8 0,ae ak 0,ae ak 0] 182))
 have bn:aS h w W1:=by rw[aU,hh];exact(fz.alloc fe _).alloc (by simp) _
 have bu:W1.heap.size=h+2:=by rw[aU,hh];simp
 have bx:W1.heap[h]?=some (ao #[ae ak (z:Int),ae ak (ch:Int),ae ak m,aj lz] 55 (0,0)):=by
  rw[aU,hh];exact(Below.heap_alloc _ _ _ (by simp)).trans (aH w _)
 have bz:W1.heap[h+1]?=some (ao #[ae .u8 0,ae ak 0,ae ak 0] 182 (0,0)):=by
  have:=aH (w.alloc (ao #[ae ak (z:Int),ae ak (ch:Int),ae ak m,aj lz] 55)) (ao #[ae .u8 0,ae ak 0,ae ak 0] 182);rw[World.size_alloc,<-aU,<-hh]at this;exact this
 have hf:=bj W1 ((hr.below (hh▸bn) (by omega)).more (by omega))
 rw[<-hh]at hr
 have HR:=fa hr.1;have bE:=fa hr;have aT:=fa hR;have bF:=fa bl;have bG:=fa bg
 have HF:=fa hf;have bH:=fa bn;have a5:=fa bu;have bA:=fa bx;have bI:=fa bz;have bJ:=fa aU;have HH:=fa hh
 have bq:IntKind.i64.wrap ((a:Int)+1)=(a1:Int):=by rw[bf,IntKind.wrap_i64];omega
 have bK:=fa bq
 clear hf bn bu bz bx aU hr hh hR bj bl bg bf bq
 go_enter func189,ntmps189
 go_wp2_with (refine aF rfl _ _ rfl h rfl _ #[ae ak (z:Int),ae ak (ch:Int),ae ak m,aj lz] (0,0) _ bA.out underlying55 rfl vL ?_)
 rw[<-bJ.out,<-HH.out]
 refine HF.out.mono ?_
 rintro e w2 ⟨rfl,aW⟩
 obtain⟨g,hg⟩:=fb (w2.heap.size)
 obtain⟨W3,aX⟩:=fb (gi w2 #[ae .u8 0,ae ak 0,ae ak 0] #[ae .u8 0,ae ak (d:Int),ae ak (k:Int)] 182)
 have a6:aS w2.heap.size w2 W3:=by rw[aX];exact km _ _ _ _
 have bB:W3.heap.size=g+1:=by rw[aX,hg,wZ]
 have bO:h+2<=g:=by have:=aW.size;have:=a5.out;omega
 have y5:=(a6.block h (by omega)).trans ((aW.block h (by have:=a5.out;omega)).trans bA.out)
 have y6:=(a6.block (h+1) (by omega)).trans ((aW.block (h+1) (by have:=a5.out;omega)).trans bI.out)
 have y7:W3.heap[g]?=some (ao #[ae .u8 0,ae ak (d:Int),ae ak (k:Int)] 182 (0,0)):=by rw[aX,hg];exact kO w2 _ _ _
 have aY:aS h w W3:=(bH.out.trans (aW.mono (by have:=a5.out;omega))).trans (a6.mono (by omega))
 have a7:=fa aY;have ah:=fa bB;have a8:=fa y6;have aV:=fa y7;have HG:=fa hg;have bL:=fa aX
 have S7:∀V,(∃p:kN W3.heap.size W3,V=p.w)->V.rangeAt g 0 [ae .u8 0,ae ak (d:Int),ae ak (k:Int)]:=by
  rintro V ⟨⟨V,hV⟩,rfl⟩ i v hv;rw[aI V g _ _ _ (0,0) ((hV.block g (by omega)).trans aV.out),Nat.zero_add];simpa using hv
 have S5:∀V,(∃p:kN W3.heap.size W3,V=p.w)->V.rangeAt h 0 [ae ak (z:Int),ae ak (ch:Int),ae ak m,aj lz]:=by
  rintro V ⟨⟨V,hV⟩,rfl⟩ i v hv;rw[aI V h _ _ _ (0,0) ((hV.block h (by omega)).trans y5),Nat.zero_add];simpa using hv
 have z3:∀p:kN W3.heap.size W3,p.w.cell? ⟨h,3,none⟩=some (aj lz):=by
  rintro⟨V,hV⟩;exact(aI V h 3 _ _ (0,0) ((hV.block h (by omega)).trans y5)).trans rfl
 have z2:∀p:kN W3.heap.size W3,p.w.cell? ⟨g,2,none⟩=some (ae ak (k:Int)):=by
  rintro⟨V,hV⟩;exact(aI V g 2 _ _ (0,0) ((hV.block g (by omega)).trans aV.out)).trans rfl
 have U1:∀V,aS W3.heap.size W3 V->ax prog 122 #[ai #[ae .u8 0,ae ak (d:Int),ae ak (k:Int)]] V fun e V'=>e=aq (aj (m7 ⟨0,(d:Int),(k:Int)⟩))/\aS W3.heap.size W3 V':=fun V hV=>
  (Bk V ⟨0,(d:Int),(k:Int)⟩).mono fun _ _ q=>⟨q.1,hV.trans (q.2.mono hV.size)⟩
 have U2:∀V,aS W3.heap.size W3 V->ax prog 197 #[af A n c,ae ak (a1:Int),ai #[ae ak (z:Int),ae ak (ch:Int),ae ak m,aj lz]] V fun e V'=>e=aq (ai #[ae .u8 0,ae ak (d2:Int),ae ak (k2:Int)])/\aS W3.heap.size W3 V':=fun V hV=>
  (bF.out V ((bE.out.below (aY.trans (hV.mono (by omega))) fe).more (by have:=hV.size;omega))).mono fun _ _ q=>⟨q.1,hV.trans (q.2.mono hV.size)⟩
 have R7:=fa S7;have R5:=fa S5;have T2:=fa U2;have T1:=fa U1
 clear S7 S5 U2 U1 a6 bB y5 y6 y7 aY hg aX aW HF
 go_wp2_with (refine aD rfl _ _ _ rfl rfl w2.heap.size #[ae .u8 0,ae ak (d:Int),ae ak (k:Int)] rfl rfl 182 #[ae .u8 0,ae ak 0,ae ak 0] (aH w2 _) (qb _ _ _) rfl (ux _ _ _) ?_;change wpList _ _ _ _ _ (gi w2 #[ae .u8 0,ae ak 0,ae ak 0] #[ae .u8 0,ae ak (d:Int),ae ak (k:Int)] 182);rw[<-bL.out,<-HG.out])
 have bq:=bK.out
 by_cases aZ:k=0
 ·have a2:m7 ⟨0,(d:Int),(k:Int)⟩=false:=by have:=bG.out aZ;simp[m7,aZ,this]
  rw[a2]at T1;obtain⟨u,hu⟩:=fb (f a);have HU:=fa hu;have al:R=⟨u,0,0⟩:=by rw[aT.out,if_pos (.inl aZ),hu]
  clear hu;subst al;clear a2 aZ;refine qq W3.heap.size W3 fz (by kernel_rfl) (by kernel_rfl) ?_;repeat (first
   |(go_big_quiet_want;with_reducible refine pJ _ _ rfl _ _ rfl _ _ R7.out underlying182 rfl (yA _ _ _) ?_;go_big_quiet_on;simp only[Act.put,List.setIfInBounds_toArray,List.set_cons_zero,List.set_cons_succ])
   |(go_big_quiet_want;with_reducible refine pJ _ _ rfl _ _ rfl _ _ R5.out underlying55 rfl (yB _ _ _ _) ?_;go_big_quiet_on;simp only[Act.put,List.setIfInBounds_toArray,List.set_cons_zero,List.set_cons_succ])
   |(go_big_quiet_want;with_reducible refine yz _ _ _ rfl (ai #[ae .u8 0,ae ak (d2:Int),ae ak (k2:Int)]) (ae ak (k2:Int)) rfl (fun w=>yx 0 (d2:Int) (k2:Int) w) ?_;go_big_quiet_on;simp only[Act.put,List.setIfInBounds_toArray,List.set_cons_zero,List.set_cons_succ])
   |(go_big_quiet_step (first|(with_reducible exact mP T1.out _)|(with_reducible exact mP T2.out _))))
  refine wpQuiet_nil ?_;rintro V ⟨⟨V,hV⟩,rfl⟩;have HV:=fa (a7.out.trans (hV.mono (by have:=ah.out;omega)));have y6:=(hV.block (h+1) (by have:=ah.out;omega)).trans a8.out;have y7:=(hV.block g (by have:=ah.out;omega)).trans aV.out;have ad:=fa y6;have av:=fa y7
  have a3:=HR.out.below HV.out (by omega);obtain⟨bb,o,rfl,_,hc⟩:=a3.2 (by omega);have x9:=hc a ha;rw[<-HU.out]at x9;clear a3 hc hV y6 y7;go_wp2_with (first
   |(refine aE rfl 182 #[(0,.tmp 33)] rfl (some 34) rfl #[ae .u8 (u:Int),ae ak 0,ae ak 0] ?_ ?_;focus(simpa[Act.eval]using Jq (u:Int)))
   |(refine aD rfl _ _ _ rfl rfl (h+1) #[ae .u8 (u:Int),ae ak 0,ae ak 0] rfl rfl 182 #[ae .u8 0,ae ak 0,ae ak 0] ad.out (qb _ _ _) rfl (ux _ _ _) ?_))
  refine aL (wu rfl _ _ (h+1) _ rfl rfl (aJ _ _ _ _ _ _ ad.out)) rfl ⟨rfl,?_⟩;rw[<-HH.out];exact pZ HV.out (by omega) _
 ·have a2:m7 ⟨0,(d:Int),(k:Int)⟩=true:=by simp[m7];omega
  rw[a2]at T1;clear a2;cases lz with
  |false=>
   have al:R=⟨0,(d:Int),(k:Int)⟩:=by rw[aT.out,if_neg (by simp[aZ])]
   subst al;refine qq W3.heap.size W3 fz (by kernel_rfl) (by kernel_rfl) ?_;repeat (first
    |(go_big_quiet_want;with_reducible refine pJ _ _ rfl _ _ rfl _ _ R7.out underlying182 rfl (yA _ _ _) ?_;go_big_quiet_on;simp only[Act.put,List.setIfInBounds_toArray,List.set_cons_zero,List.set_cons_succ])
    |(go_big_quiet_want;with_reducible refine pJ _ _ rfl _ _ rfl _ _ R5.out underlying55 rfl (yB _ _ _ _) ?_;go_big_quiet_on;simp only[Act.put,List.setIfInBounds_toArray,List.set_cons_zero,List.set_cons_succ])
    |(go_big_quiet_want;with_reducible refine yz _ _ _ rfl (ai #[ae .u8 0,ae ak (d2:Int),ae ak (k2:Int)]) (ae ak (k2:Int)) rfl (fun w=>yx 0 (d2:Int) (k2:Int) w) ?_;go_big_quiet_on;simp only[Act.put,List.setIfInBounds_toArray,List.set_cons_zero,List.set_cons_succ])
    |(go_big_quiet_step (first|(with_reducible exact mP T1.out _)|(with_reducible exact mP T2.out _))))
   refine wpQuiet_nil ?_;rintro V ⟨⟨V,hV⟩,rfl⟩;have HV:=fa (a7.out.trans (hV.mono (by have:=ah.out;omega)));have y6:=(hV.block (h+1) (by have:=ah.out;omega)).trans a8.out;have y7:=(hV.block g (by have:=ah.out;omega)).trans aV.out;have ad:=fa y6;have av:=fa y7
   clear hV y6 y7;go_wp2_with (first
    |(refine aF rfl _ _ rfl g rfl _ #[ae .u8 0,ae ak (d:Int),ae ak (k:Int)] (0,0) _ av.out underlying182 rfl (qb _ _ _) ?_)
    |(refine aD rfl _ _ _ rfl rfl (h+1) #[ae .u8 0,ae ak (d:Int),ae ak (k:Int)] rfl rfl 182 #[ae .u8 0,ae ak 0,ae ak 0] ad.out (qb _ _ _) rfl (ux _ _ _) ?_))
   refine aL (wu rfl _ _ (h+1) _ rfl rfl (aJ _ _ _ _ _ _ ad.out)) rfl ⟨rfl,?_⟩;rw[<-HH.out];exact pZ HV.out (by omega) _
  |true=>
   by_cases bM:k<k2
   ·have bN:decide ((k:Int)<(k2:Int))=true:=by simp;omega
    have bC:decide (k<k2)=true:=by simp;omega
    obtain⟨u,hu⟩:=fb (f a);have HU:=fa hu;have al:R=⟨u,0,0⟩:=by rw[aT.out,if_pos (.inr (by simpa using bM)),hu]
    clear hu;subst al;refine qq W3.heap.size W3 fz (by kernel_rfl) (by kernel_rfl) ?_;repeat (first
     |(go_big_quiet_want;with_reducible refine pJ _ _ rfl _ _ rfl _ _ R7.out underlying182 rfl (yA _ _ _) ?_;go_big_quiet_on;simp only[Act.put,List.setIfInBounds_toArray,List.set_cons_zero,List.set_cons_succ])
     |(go_big_quiet_want;with_reducible refine pJ _ _ rfl _ _ rfl _ _ R5.out underlying55 rfl (yB _ _ _ _) ?_;go_big_quiet_on;simp only[Act.put,List.setIfInBounds_toArray,List.set_cons_zero,List.set_cons_succ])
     |(go_big_quiet_want;with_reducible refine yz _ _ _ rfl (ai #[ae .u8 0,ae ak (d2:Int),ae ak (k2:Int)]) (ae ak (k2:Int)) rfl (fun w=>yx 0 (d2:Int) (k2:Int) w) ?_;go_big_quiet_on;simp only[Act.put,List.setIfInBounds_toArray,List.set_cons_zero,List.set_cons_succ])
     |(go_big_quiet_step (first|(with_reducible exact mP T1.out _)|(with_reducible exact mP T2.out _))))
    refine wpQuiet_nil ?_;rintro V ⟨⟨V,hV⟩,rfl⟩;have HV:=fa (a7.out.trans (hV.mono (by have:=ah.out;omega)));have y6:=(hV.block (h+1) (by have:=ah.out;omega)).trans a8.out;have y7:=(hV.block g (by have:=ah.out;omega)).trans aV.out;have ad:=fa y6;have av:=fa y7
    have a3:=HR.out.below HV.out (by omega);obtain⟨bb,o,rfl,_,hc⟩:=a3.2 (by omega);have x9:=hc a ha;rw[<-HU.out]at x9;clear a3 hc hV y6 y7;go_wp2_with (first
     |(refine aE rfl 182 #[(0,.tmp 33)] rfl (some 34) rfl #[ae .u8 (u:Int),ae ak 0,ae ak 0] ?_ ?_;focus(simpa[Act.eval]using Jq (u:Int)))
     |(refine aD rfl _ _ _ rfl rfl (h+1) #[ae .u8 (u:Int),ae ak 0,ae ak 0] rfl rfl 182 #[ae .u8 0,ae ak 0,ae ak 0] ad.out (qb _ _ _) rfl (ux _ _ _) ?_))
    refine aL (wu rfl _ _ (h+1) _ rfl rfl (aJ _ _ _ _ _ _ ad.out)) rfl ⟨rfl,?_⟩;rw[<-HH.out];exact pZ HV.out (by omega) _
   ·have bN:decide ((k:Int)<(k2:Int))=false:=by simp;omega
    have bC:decide (k<k2)=false:=by simp;omega
    have al:R=⟨0,(d:Int),(k:Int)⟩:=by rw[aT.out,if_neg (by simp;omega)]
    subst al;refine qq W3.heap.size W3 fz (by kernel_rfl) (by kernel_rfl) ?_;repeat (first
     |(go_big_quiet_want;with_reducible refine pJ _ _ rfl _ _ rfl _ _ R7.out underlying182 rfl (yA _ _ _) ?_;go_big_quiet_on;simp only[Act.put,List.setIfInBounds_toArray,List.set_cons_zero,List.set_cons_succ])
     |(go_big_quiet_want;with_reducible refine pJ _ _ rfl _ _ rfl _ _ R5.out underlying55 rfl (yB _ _ _ _) ?_;go_big_quiet_on;simp only[Act.put,List.setIfInBounds_toArray,List.set_cons_zero,List.set_cons_succ])
     |(go_big_quiet_want;with_reducible refine yz _ _ _ rfl (ai #[ae .u8 0,ae ak (d2:Int),ae ak (k2:Int)]) (ae ak (k2:Int)) rfl (fun w=>yx 0 (d2:Int) (k2:Int) w) ?_;go_big_quiet_on;simp only[Act.put,List.setIfInBounds_toArray,List.set_cons_zero,List.set_cons_succ])
     |(go_big_quiet_step (first|(with_reducible exact mP T1.out _)|(with_reducible exact mP T2.out _))))
    refine wpQuiet_nil ?_;rintro V ⟨⟨V,hV⟩,rfl⟩;have HV:=fa (a7.out.trans (hV.mono (by have:=ah.out;omega)));have y6:=(hV.block (h+1) (by have:=ah.out;omega)).trans a8.out;have y7:=(hV.block g (by have:=ah.out;omega)).trans aV.out;have ad:=fa y6;have av:=fa y7
    clear hV y6 y7;go_wp2_with (first
     |(refine aF rfl _ _ rfl g rfl _ #[ae .u8 0,ae ak (d:Int),ae ak (k:Int)] (0,0) _ av.out underlying182 rfl (qb _ _ _) ?_)
     |(refine aD rfl _ _ _ rfl rfl (h+1) #[ae .u8 0,ae ak (d:Int),ae ak (k:Int)] rfl rfl 182 #[ae .u8 0,ae ak 0,ae ak 0] ad.out (qb _ _ _) rfl (ux _ _ _) ?_))
    refine aL (wu rfl _ _ (h+1) _ rfl rfl (aJ _ _ _ _ _ _ ad.out)) rfl ⟨rfl,?_⟩;rw[<-HH.out];exact pZ HV.out (by omega) _
open Go.Shelf
attribute [local go_sem] Oper.semAt_some
attribute [local simp] sE
theorem SF{f:Nat->Nat}{n z ch:Nat}{lz:Bool}{a:Nat}(ha:a<n):
  lu f n z ch lz a=m9 f n z ch lz a::lu f n z ch lz (a+il (m9 f n z ch lz a))/\1<=il (m9 f n z ch lz a)/\a+il (m9 f n z ch lz a)<=n/\
  (if(m9 f n z ch lz a).n<1 then 1 else(m9 f n z ch lz a).n)=((il (m9 f n z ch lz a):Nat):Int)/\(m9 f n z ch lz a).x<256\/¬(∀j,f j<256):=by
 by_cases hf:∀j,f j<256
 ·refine .inl ?_;unfold m9;by_cases h:(UW f n a z a ch 0 0).2=0\/(UW f n a z a ch 0 0).2<rU f n z ch lz a
  ·rw[if_pos h];have e:il ⟨f a,0,0⟩=1:=by unfold il;rw[if_pos rfl]
   rw[e];exact⟨L6 ha h,Nat.le_refl _,by omega,rfl,hf a⟩
  ·rw[if_neg h];obtain⟨b1,b2,b3,b4,b5,b6⟩:=tf (f:=f) (L:=n) (a:=a) (size:=z) (chain:=ch) (fun q=>h (.inl q));have e:il ⟨0,((UW f n a z a ch 0 0).1:Nat),((UW f n a z a ch 0 0).2:Nat)⟩=(UW f n a z a ch 0 0).2:=by
    unfold il;rw[if_neg (by show¬((((UW f n a z a ch 0 0).2:Nat):Int)=0);omega)];exact Int.toNat_natCast _
   rw[e];have hl:=(b6 ((UW f n a z a ch 0 0).2-1) (by omega)).1;refine⟨L7 ha h,by omega,by omega,?_,by show 0<256;omega⟩;rw[if_neg (by show¬((((UW f n a z a ch 0 0).2:Nat):Int)<1);omega)]
 ·exact .inr hf
theorem SG{w:au}{B n:Nat}{A:Option aw}{f:Nat->Nat}(h:fB w B A n f):fB w w.heap.size A n f:=by
 refine⟨h.1,fun hn=>?_⟩;obtain⟨b,o,rfl,_,hc⟩:=h.2 hn;refine⟨b,o,rfl,?_,hc⟩;have:=hc 0 hn;rcases Nat.lt_or_ge b w.heap.size with g|g
 ·exact g
 ·simp only[World.cell?]at this;rw[Array.getElem?_eq_none g]at this;simp at this
def rL(S:Nat->Prop)(W W':au):Prop:=fC S W W'/\(∀(k:Nat) (cs:Array ay),W.heap[k]?=some (ao cs 182 (0,0))->W'.heap[k]?=some (ao cs 182 (0,0)))/\W.heap.size<=W'.heap.size
theorem rL.tr{S:Nat->Prop}{A B C:au}(h:rL S A B)(k:rL S B C):rL S A C:=⟨h.1.tr k.1,fun i cs hi=>k.2.1 i cs (h.2.1 i cs hi),Nat.le_trans h.2.2 k.2.2⟩
theorem Cu{S:Nat->Prop}{N:Nat}{W W':au}(hb:aS W.heap.size W W')(hN:N<=W.heap.size)(hS:∀k,S k->k<N):fC S W W':=fun k hk=>hb.block k (by have:=hS k hk;omega)
def Cv(t:fi):ay:=ai #[ae .u8 (t.x:Int),ae ak t.d,ae ak t.n]
def wy(T:List fi)(j:Nat):Array ay:=#[Cv (T.getD j gH)]
theorem SH(fu:Nat)(bU:1<=fu)(l Bb Ba Bs B N:Nat)(A:Option aw)(n c a z ch:Nat)(m:Int)(lz:Bool)(f:Nat->Nat)(S:Nat->Prop)(hS:S Bb/\S Ba/\S Bs)(bf:∀k,k<B->S k)(bg:∀k,S k->k<N)(ha:a<=n)(hn:n<=131072)(bI:1<=z)(hz:z<=32768)(bJ:ch<=256)
  (T:List fi) (hT:T=lu f n z ch lz a) (J:Nat->au->Prop)
  (hd:∀j W1 W2,J j W1->aS W1.heap.size W1 W2->J j W2)
  (hY:∀j W1,J j W1->j<T.length->YieldAt Fence.wide (fu-1) prog l (wy T j) W1 fun e W'=>e=aq (aj true)/\J (j+1) W'/\rL S W1 W')
  (W:au) (hN:N<=W.heap.size) (bK:W.cell? ⟨Bb,0,none⟩=some (af A n c)) (bV:W.cell? ⟨Ba,0,none⟩=some (ae ak (a:Int))) (bL:W.heap[Bs]?=some (ao #[ae ak (z:Int),ae ak (ch:Int),ae ak m,aj lz] 55 (0,0))) (hr:fq W B A n c f) (h0:J 0 W):
  CallsIn Fence.wide fu prog 188 #[.func (.yield l) #[] #[],ag (some ⟨Ba,0,none⟩),ag (some ⟨Bb,0,none⟩),ag (some ⟨Bs,0,none⟩)] W fun e W'=>(∃v,e=aq v)/\J T.length W':=by
 refine callsIn_of_wp func188 rfl trivial ?_ rfl
 simp only[ntmps188,List.size_toArray,List.length_cons,List.length_nil,Nat.reduceAdd,Nat.reduceSub,Array.replicate_succ,Array.replicate_zero,List.push_toArray,List.append_toArray,List.nil_append,List.cons_append]
 have HR:=fa hr;have bM:=fa bf;have bj:=fa bg;have HY:=fa hY;have HD:=fa hd;have HT:=fa hT;have HN:=fa hN;have bN:=fa bL
 clear hr bf bg hY hd hT hN
 gi_wp2
 gi_loopw [5] (fun av wr=>∃j a':Nat,a'<=n/\av=ae ak (a':Int)/\aR (j<=T.length/\T.drop j=lu f n z ch lz a')/\aR (J j wr)/\aR (fC S W wr)/\aR (N<=wr.heap.size)) (fun av _=>n-(intOf av).toNat)
 case atStart=>exact⟨0,a,ha,rfl,fa ⟨Nat.zero_le _,HT.out⟩,fa h0,fa (fC.refl _ _),HN⟩
 case round=>
  obtain⟨j,a',bW,rfl,HK,HJ,ah,a6⟩:=hrel;have c1:=(ah.out.cell (p:=⟨Bb,0,none⟩) hS.1).trans bK;by_cases bl:a'<n
  ·have bn:(a':Int)<(n:Int):=by omega
   have aZ:=(ah.out Bs hS.2.2).trans bN.out;have bq:fq wr wr.heap.size A n c f:=⟨SG (HR.out.1.kept ah.out bM.out),HR.out.2⟩;have a7:=SE wr A n c f a' z ch m lz bq bl hn bI hz bJ;rcases SF (f:=f) (n:=n) (z:=z) (ch:=ch) (lz:=lz) bl with⟨q1,q2,q3,q4,q5⟩|q
   ·obtain⟨t,ht⟩:=fb (m9 f n z ch lz a');rw[<-ht]at a7 q1 q2 q3 q4;obtain⟨tx,td,tn⟩:=t;obtain⟨E,hE⟩:=fb (il ⟨tx,td,tn⟩);rw[<-hE]at q1 q2 q3 q4;have ad:T.drop j=⟨tx,td,tn⟩::lu f n z ch lz (a'+E):=HK.out.2.trans q1;have al:j<T.length:=by
     rcases Nat.lt_or_ge j T.length with g|g
     ·exact g
     ·rw[List.drop_eq_nil_of_le g]at ad;cases ad
    have a1:T.getD j gH=⟨tx,td,tn⟩:=by
     rw[List.drop_eq_getElem_cons al]at ad;injection ad with h1 _
     rw[List.getD_eq_getElem?_getD,List.getElem?_eq_getElem al];exact h1
    have a2:T.drop (j+1)=lu f n z ch lz (a'+E):=by
     rw[List.drop_eq_getElem_cons al]at ad;injection ad with _ h2
    have aT:=GI;have br:=fa a7;have bO:=fa a2;have bt:=fa a1;have a3:=fa aZ;have bP:=fa q4
    clear a7 ad a2 a1 bq ht hE q1 q4 q5 aZ aT;gi_wp2_with (refine rB rfl _ _ rfl Bs rfl _ #[ae ak (z:Int),ae ak (ch:Int),ae ak m,aj lz] (0,0) _ a3.out underlying55 rfl vL ?_)
    refine(callsIn_wide.2 br.out).mono ?_;rintro e w2 ⟨rfl,a8⟩;obtain⟨g,hg⟩:=fb (w2.heap.size);have aW:aS wr.heap.size wr (w2.alloc (ao #[ae .u8 (tx:Int),ae ak td,ae ak tn] 182)):=a8.alloc a8.size _;have bu:=HD.out _ _ _ HJ.out aW;have a4:=ah.out.tr (Cu aW a6.out bj.out);have bx:N<=(w2.alloc (ao #[ae .u8 (tx:Int),ae ak td,ae ak tn] 182)).heap.size:=Nat.le_trans a6.out aW.size;have aU:(w2.alloc (ao #[ae .u8 (tx:Int),ae ak td,ae ak tn] 182)).heap[g]?=some (ao #[ae .u8 (tx:Int),ae ak td,ae ak tn] 182 (0,0)):=by rw[hg];exact aH w2 _
    obtain⟨fn,tmps,assign,body,hy,bz⟩:=HY.out _ _ bu al;have bA:wy T j=#[ai #[ae .u8 (tx:Int),ae ak td,ae ak tn]]:=by unfold wy Cv;rw[bt.out]
    rw[bA]at hy;have a5:=fa a4;have bB:=fa bx;have aV:=fa aU;have bC:=fa bz;have HG:=fa hg
    clear a8 aW bu a4 bx aU bz bA ah HJ a6 br a3 c1 hg;gi_wp2
    refine bC.out.mono ?_;rintro e W4 ⟨rfl,bD,aX⟩;have a9:=fa (aX.2.1 g _ aV.out);have bE:=fa (a5.out.tr aX.1);have bF:=fa (Nat.le_trans bB.out aX.2.2);have bQ:=fa bD;have aT:=GI W4 ⟨tx,td,tn⟩;rw[bP.out]at aT;have bR:=fa aT;clear aX bD aT hy aV bC a5 bB;rw[<-HG.out];gi_wp2_with (refine rB rfl _ _ rfl g rfl _ #[ae .u8 (tx:Int),ae ak td,ae ak tn] (0,0) _ a9.out underlying182 rfl (qb _ _ _) ?_)
    refine(callsIn_wide.2 bR.out).mono ?_;rintro e w5 ⟨rfl,aY⟩;have bS:=fa (HD.out _ _ _ bQ.out aY);have bG:=fa (bE.out.tr (Cu aY bF.out bj.out));have bT:=fa (Nat.le_trans bF.out aY.size);clear aY;gi_wp2
    go_roundw
    case rel=>exact⟨j+1,a'+E,q3,by go_num,fa ⟨al,bO.out⟩,bS,bG,bT⟩
    case measure=>simp[intOf];omega
   ·exact absurd HR.out.1.1 q
  ·obtain rfl:a'=n:=by omega
   have bn:¬(a':Int)<(a':Int):=by omega
   have bH:j=T.length:=by
    have h1:=HK.out.2;rw[L5 fe]at h1;have h2:=congrArg List.length h1;rw[List.length_drop]at h2;have:=HK.out.1;simp at h2;omega
   subst bH;gi_wp2
   go_end0;exact⟨⟨_,rfl⟩,HJ.out⟩
theorem SI(n:Nat)(A:Option aw)(len cap a:Nat)(z ch m:Int)(lz:Bool)(w:au):
  CallsIn Fence.wide n prog 178 #[af A len cap,ae ak (a:Int),ai #[ae ak z,ae ak ch,ae ak m,aj lz]] w fun e w'=>e=aq (.func (.func 188) #[] #[ag (some ⟨w.heap.size+1,0,none⟩),ag (some ⟨w.heap.size,0,none⟩),ag (some ⟨w.heap.size+2,0,none⟩)])/\
   w'=((w.alloc (ao #[af A len cap] 22)).alloc (ao #[ae ak (a:Int)] 3)).alloc (ao #[ae ak z,ae ak ch,ae ak m,aj lz] 55):=by
 refine callsIn_of_wp func178 rfl trivial ?_ rfl
 simp only[ntmps178,List.size_toArray,List.length_cons,List.length_nil,Nat.reduceAdd,Nat.reduceSub,Array.replicate_succ,Array.replicate_zero,List.push_toArray,List.append_toArray,List.nil_append,List.cons_append]
 gi_wp2
 go_ret
 exact⟨rfl,rfl⟩
theorem SJ(fu:Nat)(ah:1<=fu)(Bb Ba Bs B N:Nat)(A:Option aw)(n c a z ch:Nat)(m:Int)(lz:Bool)(f:Nat->Nat)(S:Nat->Prop)(hS:S Bb/\S Ba/\S Bs)(al:∀k,k<B->S k)(ad:∀k,S k->k<N)(ha:a<=n)(hn:n<=131072)(av:1<=z)(hz:z<=32768)(aT:ch<=256)
  (T:List fi) (hT:T=lu f n z ch lz a) (w:au) (hN:N<=w.heap.size) (aU:w.cell? ⟨Bb,0,none⟩=some (af A n c)) (aV:w.cell? ⟨Ba,0,none⟩=some (ae ak (a:Int))) (aW:w.heap[Bs]?=some (ao #[ae ak (z:Int),ae ak (ch:Int),ae ak m,aj lz] 55 (0,0))) (hr:fq w B A n c f) (hB:B<=w.heap.size):
  Jp Fence.wide fu prog 188 #[ag (some ⟨Ba,0,none⟩),ag (some ⟨Bb,0,none⟩),ag (some ⟨Bs,0,none⟩)] (wy T) (rL S) T.length w:=fun l J W hW hd hY h0=>
 SH fu ah l Bb Ba Bs B N A n c a z ch m lz f S hS al ad ha hn av hz aT T hT J hd hY W (Nat.le_trans hN hW.size) ((hW.cell (Nat.lt_of_lt_of_le (ad _ hS.1) hN)).trans aU) ((hW.cell (Nat.lt_of_lt_of_le (ad _ hS.2.1) hN)).trans aV) ((hW.block Bs (Nat.lt_of_lt_of_le (ad _ hS.2.2) hN)).trans aW) (hr.below hW hB) h0
attribute [local go_sem] Oper.semAt_some
attribute [local simp] sE
theorem Jr(w:au)(base:Nat)(A:Option aw)(n c:Nat)(l:List fi)(av:w.ownsRow base 36 3 (af A n c) n (Vt l))(t:fi)(hn:n<=1000000)(ad:base<=w.heap.size):
  ∃A' c' w',(Builtin.append_ #[60,60] 60 #[af A n c,af (some ⟨w.heap.size,0,none⟩) 1 1]).run prog (w.alloc (ao #[ae .u8 (t.x:Int),ae ak t.d,ae ak t.n] 36))=.ok (af A' (n+1) c') w'/\
   w'.ownsRow base 36 3 (af A' (n+1) c') (n+1) (Vt (l++[t]))/\aS base w w'/\KeepsOthers w w'/\(∀k,k<w.heap.size->(Value.slice A n c).ownBlock≠some k->w'.heap[k]?=w.heap[k]?):=by
 have ah:aS base w (w.alloc (ao #[ae .u8 (t.x:Int),ae ak t.d,ae ak t.n] 36)):=(Below.refl base w).alloc ad _
 have al:=av.alloc (ao #[ae .u8 (t.x:Int),ae ak t.d,ae ak t.n] 36)
 obtain⟨A',c',w',h2,o2,b2⟩:=zH (kI:=24) underlying60 Lw rfl (by decide) (w.alloc (ao #[ae .u8 (t.x:Int),ae ak t.d,ae ak t.n] 36)) base _ (af A n c) n _ al _ 1 1 _
  (gR.new w 3 1 #[ae .u8 (t.x:Int),ae ak t.d,ae ak t.n] 36 rfl) (fun u hu=>by simp at hu;rcases hu with rfl|rfl|rfl<;>rfl) (by unfold maxLen;omega) (by omega) 60 (fun h=>by cases h) (Nat.le_trans ad ah.size)
 refine⟨A',c',w',h2,?_,ah.trans ((Below.refl base _).grown b2 (Nat.le_trans ad ah.size) (ql al)),(KeepsOthers.alloc w _).trans (KeepsOthers.of_grownBy b2 (D8 al)),fun k hk aT=>?_⟩
 ·rw[D3];exact o2
 ·refine(b2.block k (by simp;omega) (fun e=>aT e.symm)).trans ?_;exact(Below.refl w.heap.size w).alloc fe (ao #[ae .u8 (t.x:Int),ae ak t.d,ae ak t.n] 36)|>.block k hk
def yC(B b k:Nat):Prop:=k<B\/(b+1<=k/\k<b+4)
def sU(w u:au)(b:Nat)(T:List fi)(j:Nat)(W:au):Prop:=
 aS w.heap.size w W/\fC (yC w.heap.size b) u W/\u.heap.size<=W.heap.size/\
 ∃(A:Option aw) (c:Nat),Boxed W b 60 (af A j c)/\W.ownsRow (b+4) 36 3 (af A j c) j (Vt (T.take j))
theorem sU.own(w u:au)(b:Nat)(T:List fi)(hb:w.heap.size<=b)(hu:u.heap.size=b+4):OwnFrom u.heap.size (sU w u b T):=by
 rintro j W W' row ⟨h1,h2,h3,A,c,h5,h6⟩ ad hr;have hk:∀k,k<u.heap.size->W'.heap[k]?=W.heap[k]?:=fun k hk=>ad.block k (by omega) (fun e=>by have:=(hr k e.symm).1;omega)
 refine⟨h1.grown ad ?_ (fun r e=>?_),fun k hS=>(hk k ?_).trans (h2 k hS),Nat.le_trans h3 ad.size,A,c,(hk _ (by omega)).trans h5,ri h6 ad (fun r e=>(hr r e).2)⟩
 ·omega
 ·have:=(hr r e).1;omega
 ·rcases hS with hS|hS<;>omega
def Cw(A:Option aw)(n c a z ch:Nat)(m:Int)(lz:Bool)(g b x:Nat)(t:fi):Act:=
 {tmps:=#[af A n c,ae ak (a:Int),ai #[ae ak (z:Int),ae ak (ch:Int),ae ak m,aj lz],undef,undef,ag (some ⟨g,0,none⟩),af none 0 0,ae ak 0,ae ak 0,ag (some ⟨b,0,none⟩),ag (some ⟨x,0,none⟩),
  ai #[ae ak (z:Int),ae ak (ch:Int),ae ak m,aj lz],ae ak 0,ae ak 0,aj false,undef,af A n c,ae ak (n:Int),aj false,ae ak (a:Int),aj false,aj false,ae ak (a:Int),af A n c,ae ak (n:Int),aj false,aj false,af A n c,ae ak (a:Int),
  ai #[ae ak (z:Int),ae ak (ch:Int),ae ak m,aj lz],.func (.func 188) #[] #[ag (some ⟨b+2,0,none⟩),ag (some ⟨b+1,0,none⟩),ag (some ⟨b+3,0,none⟩)],ai #[ae .u8 (t.x:Int),ae ak t.d,ae ak t.n],undef,undef,undef,undef,undef],defers:=[]}
def yD(w u:au)(b:Nat)(V:List fi)(fr:Nat->fi->Act)(j:Nat)(a₁:Act)(W:au):Prop:=
 ∃x:Nat,a₁=fr x (V.getD j gH)/\u.heap.size<=x/\W.heap[x]?=some (ao #[ae .u8 ((V.getD j gH).x:Int),ae ak (V.getD j gH).d,ae ak (V.getD j gH).n] 182 (0,0))/\sU w u b V j W
theorem qc{W W':au}{row:Option Nat}{x:Nat}{cs:Array ay}{t:aC}{fr:Nat×Nat}(h:W.heap[x]?=some (ao cs t fr))(hg:W.grownBy W' row)(hr:∀r,row=some r->∃o:Obj,W.heap[r]?=some o/\o.isCells=false):W'.heap[x]?=some (ao cs t fr):=by
 refine(hg.block x (Array.getElem?_eq_some_iff.1 h).1 fun he=>?_).trans h;obtain⟨o,ho,hc⟩:=hr x he.symm;rw[ho]at h;cases h;cases hc
theorem yD.own(w u:au)(b:Nat)(V:List fi)(fr:Nat->fi->Act)(hb:w.heap.size<=b)(hu:u.heap.size=b+4)(a₁:Act):OwnFrom u.heap.size (fun j=>yD w u b V fr j a₁):=by
 rintro j W W' row ⟨x,h1,h2,h3,h4⟩ ad hr;exact⟨x,h1,h2,qc h3 ad (fun r e=>(hr r e).2),sU.own w u b V hb hu j W W' row h4 ad hr⟩
theorem SK{S:Nat->Prop}{N:Nat}(hS:∀k,S k->k<N)(W:au)(l:Nat)(o o':Obj)(hl:N<=l)(h:W.heap[l]?=some o)(hc:o.isCells=false):rL S W (W.putObj l o'):=by
 refine⟨fun k hk=>World.putObj_heap_other (by have:=hS k hk;omega),fun k cs hk=>?_,by simp[World.putObj]⟩;refine(World.putObj_heap_other (fun e=>?_)).trans hk;subst e;rw[h]at hk;cases hk;cases hc
theorem SL(w:au)(A:Option aw)(n c:Nat)(f:Nat->Nat)(a s h m:Int)(lz:Bool)(hr:fq w w.heap.size A n c f)(_: -9223372036854775808<=a)(_:a<=9223372036854775807):
  ax prog 160 #[af A n c,ae ak a,ai #[ae ak s,ae ak h,ae ak m,aj lz]] w fun e w'=>∃A' n' c',e=aq (.tuple #[af A' n' c',ae ak (sG n a s h m)])/\iK w' w'.heap.size A' n' c' (vK f n a s h m lz)/\aS w.heap.size w w':=by
 obtain⟨E,hE⟩:=fb (sG n a s h m)
 obtain⟨V,hV⟩:=fb (vK f n a s h m lz)
 rw[<-hE,<-hV]
 unfold vK at hV
 rw[<-hE]at hV
 obtain⟨W1,aZ⟩:=fb (w.alloc (ao #[ae ak s,ae ak h,ae ak m,aj lz] 55))
 have bB:aS w.heap.size w W1:=by rw[aZ];exact fz.alloc fe _
 have bq:W1.heap.size=w.heap.size+1:=by rw[aZ];simp
 have aT:W1.heap[w.heap.size]?=some (ao #[ae ak s,ae ak h,ae ak m,aj lz] 55 (0,0)):=by rw[aZ];exact aH w _
 obtain⟨g,hg⟩:=fb (w.heap.size)
 rw[<-hg]at aT bq
 have br:=Bj W1 s h m lz
 obtain⟨e1,al⟩:=fb (kT s h m)
 rw[<-al]at br
 have HR:=fa hr;have HE:=fa hE;have HV:=fa hV;have ah:=fa bB;have bC:=fa bq;have a1:=fa aT;have HG:=fa hg;have a2:=fa br;have aX:=fa al;have a3:=fa aZ
 clear hr hE hV bB bq aT hg br al aZ
 by_cases aU:E=0
 ·have b0:iI s h m=true/\n<=131072/\0<=a/\a<=(n:Int):=by
   have:=HE.out;rw[aU]at this;unfold sG at this;by_cases q1:iI s h m=true
   ·rw[if_neg (by rw[q1];decide)]at this;by_cases q2:131072<n
    ·rw[if_pos q2]at this;omega
    ·rw[if_neg q2]at this;by_cases q3:0<=a/\a<=(n:Int)
     ·exact⟨q1,by omega,q3.1,q3.2⟩
     ·rw[if_neg q3]at this;omega
   ·rw[if_pos (by simpa using q1)]at this;omega
  subst aU;obtain⟨bt,hn,b1,cm⟩:=b0;obtain⟨m1,m2,m3,m4,m5,m6⟩:=Pg bt;obtain rfl:e1=0:=by rw[aX.out];unfold kT;rw[if_pos bt]
  obtain⟨a,rfl⟩:=Int.eq_ofNat_of_zero_le b1;obtain⟨z,rfl⟩:=Int.eq_ofNat_of_zero_le (show 0<=s by omega);obtain⟨ch,rfl⟩:=Int.eq_ofNat_of_zero_le (show 0<=h by omega);have a7:V=lu f n z ch lz a:=by rw[HV.out,if_pos rfl,Int.toNat_natCast,Int.toNat_natCast,Int.toNat_natCast]
  have bD:=fa a7;clear a7 HE HV aX bt;have d1:decide (131072<(n:Int))=false:=by simp;omega
  have d2:decide ((a:Int)<0)=false:=by simp
  have d3:decide ((n:Int)<(a:Int))=false:=by simp;omega
  have d4:decide (n<a)=false:=by simp;omega
  refine(callsIn_wide (n:=5)).1 ?_;refine callsIn_of_wp_marks func160 rfl trivial ?_ rfl;simp only[ntmps160,List.size_toArray,List.length_cons,List.length_nil,Nat.reduceAdd,Nat.reduceSub,Array.replicate_succ,Array.replicate_zero,List.push_toArray,List.append_toArray,List.nil_append,List.cons_append];gi_wp2_with fail
  rw[<-a3.out,<-HG.out];refine(callsIn_wide.2 a2.out).mono ?_;rintro e w2 ⟨rfl,ad⟩;have bu:=(ad.block g (by have:=bC.out;omega)).trans a1.out;have av:=fa (ah.out.trans (ad.mono ah.out.size));have b2:=fa bu
  obtain⟨b,hb⟩:=fb (w2.heap.size);have b3:g<b:=by have:=ad.size;have:=bC.out;omega
  have bE:(w2.alloc (ao #[af none 0 0] 60)).heap[g]?=some (ao #[ae ak (z:Int),ae ak (ch:Int),ae ak m,aj lz] 55 (0,0)):=(Below.heap_alloc _ _ _ (by omega)).trans bu;have bF:=fa bE;clear ad bu bE;gi_wp2_with (first
   |(refine rB rfl _ _ rfl g rfl _ #[ae ak (z:Int),ae ak (ch:Int),ae ak m,aj lz] (0,0) _ bF.out underlying55 rfl vL ?_)
   |(gi_at_call 178;refine(SI _ _ _ _ _ _ _ _ _ _).mono ?_;rintro e w' ⟨rfl,rfl⟩))
  obtain⟨u,hu⟩:=fb ((((w2.alloc (ao #[af none 0 0] 60)).alloc (ao #[af A n c] 22)).alloc (ao #[ae ak (a:Int)] 3)).alloc (ao #[ae ak (z:Int),ae ak (ch:Int),ae ak m,aj lz] 55));have bG:u.heap.size=b+4:=by rw[hu,hb];simp
  have bH:aS b w2 u:=by
   rw[hu,hb];exact((((Below.refl w2.heap.size w2).alloc fe _).alloc (by simp) _).alloc (by simp;omega) _).alloc (by simp;omega) _
  have bI:aS w.heap.size w u:=av.out.trans (bH.mono (by have:=HG.out;omega));have bJ:Boxed u b 60 (af none 0 0):=by
   rw[hu,hb];exact(((Boxed.new w2 _ _).alloc _).alloc _).alloc _
  have bK:Boxed u (b+1) 22 (af A n c):=by
   have:=((Boxed.new (w2.alloc (ao #[af none 0 0] 60)) 22 (af A n c)).alloc (ao #[ae ak (a:Int)] 3)).alloc (ao #[ae ak (z:Int),ae ak (ch:Int),ae ak m,aj lz] 55);rw[World.size_alloc,<-hb]at this;rw[hu];exact this
  have bL:Boxed u (b+2) 3 (ae ak (a:Int)):=by
   have:=(Boxed.new ((w2.alloc (ao #[af none 0 0] 60)).alloc (ao #[af A n c] 22)) 3 (ae ak (a:Int))).alloc (ao #[ae ak (z:Int),ae ak (ch:Int),ae ak m,aj lz] 55);rw[World.size_alloc,World.size_alloc,<-hb]at this;rw[hu];exact this
  have bM:u.heap[b+3]?=some (ao #[ae ak (z:Int),ae ak (ch:Int),ae ak m,aj lz] 55 (0,0)):=by
   have:=aH (((w2.alloc (ao #[af none 0 0] 60)).alloc (ao #[af A n c] 22)).alloc (ao #[ae ak (a:Int)] 3)) (ao #[ae ak (z:Int),ae ak (ch:Int),ae ak m,aj lz] 55);rw[World.size_alloc,World.size_alloc,World.size_alloc,<-hb]at this;rw[hu];exact this
  have HU:=fa hu;have HB:=fa hb;have aV:=fa bG;have bx:=fa bI;have b4:=fa bJ;have b5:=fa bK;have b6:=fa bL;have b7:=fa bM
  clear hu bG bH bI bJ bK bL bM bF b2 hb;rw[<-HU.out];simp only[Nat.add_assoc,Nat.reduceAdd];rw[<-HB.out];refine SB (L:=V.length) rfl (by omega) (gf:=188) (lb:=#[ag (some ⟨b+2,0,none⟩),ag (some ⟨b+1,0,none⟩),ag (some ⟨b+3,0,none⟩)]) rfl trivial (enters_of func188 (by kernel_rfl) rfl)
   (SJ _ (by omega) (b+1) (b+2) (b+3) w.heap.size (b+4) A n c a z ch m lz f (yC w.heap.size b) ⟨.inr (by omega),.inr (by omega),.inr (by omega)⟩ (fun k hk=>.inl hk) (fun k hk=>by rcases hk with hk|hk<;>have:=HG.out<;>omega) (by omega) hn (by omega) (by omega) (by omega) V bD.out u (by rw[aV.out];exact Nat.le_refl _) b5.out.cell b6.out.cell b7.out (HR.out.below bx.out fe) bx.out.size)
   (fun h k=>h.tr k) ?keep (fun _=>rfl)
   (sU w u b V) (sU.own w u b V (by have:=HG.out;omega) aV.out) ?start
   (yD w u b V (Cw A n c a z ch m lz g b)) (fun a₁=>yD.own w u b V _ (by have:=HG.out;omega) aV.out a₁) ?assign ?body ?done
  case keep=>
   intro W l o o' hl ho hc _;exact SK (N:=u.heap.size) (fun k hk=>by rw[aV.out];rcases hk with hk|hk<;>have:=HG.out<;>omega) W l o o' hl ho hc
  case start=>exact⟨bx.out,fC.refl _ _,Nat.le_refl _,none,0,b4.out,World.ownsRow_nil _ _ _ _⟩
  case assign=>
   intro l j W K hI hj hK;have hb:aS W.heap.size W (W.alloc (ao #[ae .u8 ((V.getD j gH).x:Int),ae ak (V.getD j gH).d,ae ak (V.getD j gH).n] 182)):=fz.alloc fe _;have hn:(W.alloc (ao #[ae .u8 ((V.getD j gH).x:Int),ae ak (V.getD j gH).d,ae ak (V.getD j gH).n] 182)).heap[W.heap.size]?=some (ao #[ae .u8 ((V.getD j gH).x:Int),ae ak (V.getD j gH).d,ae ak (V.getD j gH).n] 182 (0,0)):=aH W _;have bf:=(sU.own w u b V (by have:=HG.out;omega) aV.out).alloc (ao #[ae .u8 ((V.getD j gH).x:Int),ae ak (V.getD j gH).d,ae ak (V.getD j gH).n] 182) hI;have bN:KeepsOthers W (W.alloc (ao #[ae .u8 ((V.getD j gH).x:Int),ae ak (V.getD j gH).d,ae ak (V.getD j gH).n] 182)):=KeepsOthers.alloc W _;have bO:rL (yC w.heap.size b) W (W.alloc (ao #[ae .u8 ((V.getD j gH).x:Int),ae ak (V.getD j gH).d,ae ak (V.getD j gH).n] 182)):=
    ⟨Cu hb hI.2.2.1 (fun k hk=>by rw[aV.out];rcases hk with hk|hk<;>have:=HG.out<;>omega),fun k cs hk=>(hb.block k (Array.getElem?_eq_some_iff.1 hk).1).trans hk,hb.size⟩
   have bP:=hI.2.2.1;obtain⟨t,ht⟩:=fb (V.getD j gH);have aY:=hK (Cw A n c a z ch m lz g b W.heap.size (V.getD j gH)) _ bN bO ⟨W.heap.size,rfl,bP,hn,bf⟩;simp only[wy,Cv];rw[<-ht]at aY⊢;obtain⟨tx,td,tn⟩:=t;have bz:=fa aY;clear aY hK bN bO bf hn hb hI ht bP;gi_wp2
   exact bz.out
  case body=>
   rintro l j a₁ W ⟨x,rfl,hx,aW,h1,h2,h3,A1,c1,h5,h6⟩ hj;have bA:V.take (j+1)=V.take j++[V.getD j gH]:=by
    rw[List.take_succ_eq_append_getElem hj,List.getD_eq_getElem?_getD,List.getElem?_eq_getElem hj];rfl
   have b8:V.length<=n-a:=by rw[bD.out];exact(wV lz (by omega) _ _ (by omega)).1
   obtain⟨t,ht⟩:=fb (V.getD j gH);rw[<-ht]at aW bA⊢;obtain⟨A',c',w3,bg,a4,a8,bj,bQ⟩:=Jr W (b+4) A1 j c1 _ h6 t (by omega) (by rw[<-aV.out];exact h3);obtain⟨tx,td,tn⟩:=t;have a5:=me h6 aW (by kernel_rfl);have bR:=(Array.getElem?_eq_some_iff.1 aW).1;have bl:u.heap.size<=w3.heap.size:=by have:=a8.size;omega
   have bS:∀k,k<b+4->w3.heap[k]?=W.heap[k]?:=fun k hk=>a8.block k hk
   have aT:=(bS b (by omega)).trans h5;have cl:=h5.cell;have cn:=Boxed.cell aT;have cp:=Boxed.frozen aT;have ck:g<b:=b3;have bT:=fa aW;have bU:=fa bg;have bV:=fa a4;have a9:=fa a8;have b9:=fa bj;have ca:=fa bQ;have H1:=fa h1;have H2:=fa h2;have cb:=fa bA;have a1:=fa aT;have H6:=fa h6;have bW:=fa bl
   have cq:=fa a5;have HX:=fa hx;have cr:=fa bR
   clear aW bg a4 a8 bj bQ h1 h2 bA aT h6 bS a5 ht b8 bl hx bR;unfold Cw;gi_wp2_with (first
    |(refine rB rfl _ _ rfl x rfl _ #[ae .u8 (tx:Int),ae ak td,ae ak tn] (0,0) _ bT.out underlying182 rfl (qb _ _ _) ?_)
    |(gi_at_builtin;refine AN rfl (.tmp 32) (.tmp 34) 60 rfl (af A1 j c1) (af (some ⟨W.heap.size,0,none⟩) 1 1) (af A' (j+1) c') w3 rfl rfl bU.out ?_))
   have bn:=Boxed.set (af A' (j+1) c') a1.out;obtain⟨Y,hY⟩:=fb (w3.setCell ⟨b,0,none⟩ (af A' (j+1) c'));have bX:Y.heap.size=w3.heap.size:=by rw[hY];simp[World.setCell]
   have bY:∀k,k≠b->Y.heap[k]?=w3.heap[k]?:=fun k hk=>by rw[hY];exact Below.heap_setCell w3 _ _ k (by show k≠b;exact hk)
   have cf:KeepsOthers w3 Y:=by rw[hY];exact KeepsOthers.setCell _ _ _
   have cg:aS w.heap.size w Y:=by rw[hY];exact(H1.out.trans (a9.out.mono (by have:=HG.out;omega))).setCell (p:=⟨b,0,none⟩) (by show w.heap.size<=b;have:=HG.out;omega) _
   have a6:=ownsRow_setCell_below bV.out (a:=⟨b,0,none⟩) (by show b<_;omega) (af A' (j+1) c');rw[<-hY]at bn a6⊢;have bZ:fC (yC w.heap.size b) W Y:=fun k hS=>(bY k (by have:=HG.out;rcases hS with hS|hS<;>omega)).trans (a9.out.block k (by have:=HG.out;rcases hS with hS|hS<;>omega))
   refine⟨b9.out.trans cf,⟨bZ,fun k cs hk=>?_,by rw[bX];exact a9.out.size⟩,cg,fun k hS=>(bZ k hS).trans (H2.out k hS),by rw[bX];exact bW.out,A',c',bn,?_⟩
   ·have cj:k≠b:=fun e=>by
     subst e;have:=cl;have h9:=a9.out.block k (by omega);rw[a1.out]at h9;rw[hk]at h9;injection h9 with h9
     injection h9 with _ h9 _
     exact absurd h9 (by decide)
    exact(bY k cj).trans ((ca.out k (Array.getElem?_eq_some_iff.1 hk).1 (me H6.out hk (by kernel_rfl))).trans hk)
   ·rw[cb.out];exact a6
  case done=>
   rintro D W hD ⟨h1,h2,h3,A1,c1,h5,h6⟩ hK;rw[List.take_length]at h6;have cl:=h5.cell;have H1:=fa h1;have H6:=fa h6;have HK:=fa hK
   clear h1 h2 h3 h5 h6 hK;gi_wp2
   refine⟨by simp,.inl ⟨_,_,rfl,run_takeDeferred HK.out,?_⟩⟩;refine⟨_,(by simp[results,Tryz.results160,go_sem]),A1,V.length,c1,rfl,?_,?_⟩
   ·have ho:=ri H6.out (grownBy_putObj' W D (.deferred none)) (fun r e=>by cases e;exact⟨_,HK.out,rfl⟩);exact iK.gD ho
   ·exact H1.out.grown (grownBy_putObj' W D _) H1.out.size (fun r e=>by cases e;rw[aV.out]at hD;have:=HG.out;omega)
 ·have a7:V=[]:=by rw[HV.out,if_neg aU]
  subst a7;have hE:=HE.out;have al:=aX.out;clear HV a1;unfold sG at hE;unfold kT at al;by_cases q1:iI s h m=false
  ·rw[if_pos q1]at hE;rw[if_neg (by rw[q1];decide)]at al;subst hE;subst al;clear aU HE aX;go_enter func160,ntmps160
   go_wp2_with fail
   rw[<-a3.out,<-HG.out];refine a2.out.mono ?_;rintro e w2 ⟨rfl,ad⟩;have av:=fa (ah.out.trans (ad.mono ah.out.size));clear ad;go_wp2;go_ret2;exact⟨none,0,0,rfl,iK.nil _ _,av.out⟩
  rw[if_neg q1]at hE;rw[if_pos (by simpa using q1)]at al;subst al;by_cases q2:131072<n
  ·rw[if_pos q2]at hE;subst hE;have d1:decide (131072<(n:Int))=true:=by simp;omega
   clear aU HE aX;go_enter func160,ntmps160
   go_wp2_with fail
   rw[<-a3.out,<-HG.out];refine a2.out.mono ?_;rintro e w2 ⟨rfl,ad⟩;have av:=fa (ah.out.trans (ad.mono ah.out.size));clear ad;go_wp2;go_ret2;exact⟨none,0,0,rfl,iK.nil _ _,av.out⟩
  rw[if_neg q2]at hE;have d1:decide (131072<(n:Int))=false:=by simp;omega
  by_cases q3:a<0
  ·rw[if_neg (by omega)]at hE;subst hE;have d2:decide (a<0)=true:=by simp;omega
   clear aU HE aX;go_enter func160,ntmps160
   go_wp2_with fail
   rw[<-a3.out,<-HG.out];refine a2.out.mono ?_;rintro e w2 ⟨rfl,ad⟩;have av:=fa (ah.out.trans (ad.mono ah.out.size));clear ad;go_wp2;go_ret2;exact⟨none,0,0,rfl,iK.nil _ _,av.out⟩
  have d2:decide (a<0)=false:=by simp;omega
  by_cases q4:(n:Int)<a
  ·rw[if_neg (by omega)]at hE;subst hE;have d3:decide ((n:Int)<a)=true:=by simp;omega
   clear aU HE aX;go_enter func160,ntmps160
   go_wp2_with fail
   rw[<-a3.out,<-HG.out];refine a2.out.mono ?_;rintro e w2 ⟨rfl,ad⟩;have av:=fa (ah.out.trans (ad.mono ah.out.size));clear ad;go_wp2;go_ret2;exact⟨none,0,0,rfl,iK.nil _ _,av.out⟩
  ·rw[if_pos (by omega)]at hE;exact absurd hE aU
attribute [local go_sem] Oper.semAt_some
attribute [local simp] sE
structure gu where
 w0:au
 p:Nat
 A:Option aw
 l:Nat
 c:Nat
 z:Nat
 ff:Nat
 ds:List Nat
 top:Nat
 ok:w0.heap.size=z/\p<z
 tok:z<=top
def gu.u(x:gu):Nat:=x.z+4
structure jI (x:gu) (T:List fi) (M:Nat) (q:Rz) (W:au):Prop where
 jU:fx W x.p x.A x.l x.c q
 bp:Boxed W x.z 112 (ag (some ⟨x.p,0,none⟩))
 bm:Boxed W (x.z+1) 3 (ae ak (x.ff:Int))
 bd:Boxed W (x.z+3) 3 (ae ak (M:Int))
 row:∃(B:Option aw) (n:Nat),Boxed W (x.z+2) 60 (af B T.length n)/\W.ownsRow x.u 36 3 (af B T.length n) T.length (Vt T)
 fr:Fr (At x.p) x.w0 W
 rM:∀D∈x.ds,x.z<=D/\D<x.top/\W.heap[D]?=some (.deferred (some []))
theorem Cx{W:au}{D g:Nat}{cs:Array ay}{t:aC}(h:W.heap[D]?=some (.deferred (some [])))(hb:W.heap[g]?=some (ao cs t (0,0))):D≠g:=fun e=>by
 subst e;rw[h]at hb;cases hb
theorem mL{S:Nat->Prop}{w w':au}{g:Nat}{v:ay}{t:aC}(h:Boxed w g t v)(k:Fr S w w')(hg:¬S g):Boxed w' g t v:=fg.fr h k hg
theorem jI.step{x:gu}{T:List fi}{M:Nat}{q q':Rz}{W W':au}(h:jI x T M q W)(f:Fr (At x.p) W W')(r:fx W' x.p x.A x.l x.c q'):jI x T M q' W':=by
 obtain⟨B,n,b,o⟩:=h.row;have hp:=x.ok;have hn:∀i,¬At x.p (x.z+i):=fun i (e:x.z+i=x.p)=>by omega
 exact⟨r,mL h.bp f (hn 0),mL h.bm f (hn 1),mL h.bd f (hn 3),⟨B,n,mL b f (hn 2),pz o f (fun j (e:j=x.p)=>by unfold gu.u;omega)⟩,h.fr.trans f,fun D hD=>by
  obtain⟨d1,d2,d3⟩:=h.rM D hD;exact⟨d1,d2,(f.block D (Array.getElem?_eq_some_iff.1 d3).1 (fun(e:D=x.p)=>by omega)).trans d3⟩⟩
theorem jI.on{x:gu}{T:List fi}{M:Nat}{q:Rz}{W W':au}(h:jI x T M q W)(f:aS W.heap.size W W'):jI x T M q W':=h.step (Fr.of f) (fg.below h.jU f h.jU.lt)
theorem Fr.grown{S:Nat->Prop}{w W W':au}{row:Option Nat}(h:Fr S w W)(hg:W.grownBy W' row)(hr:∀r,row=some r->w.heap.size<=r):Fr S w W':=
 ⟨hg.os.trans h.os,hg.tape.trans h.tape,hg.output.trans h.output,Nat.le_trans h.size hg.size,fun i hi hS=>(hg.block i (Nat.lt_of_lt_of_le hi h.size) (fun e=>by have:=hr i e.symm;omega)).trans (h.block i hi hS)⟩
theorem jI.grown{x:gu}{T:List fi}{M:Nat}{q:Rz}{W W':au}{row:Option Nat}(h:jI x T M q W)(hg:W.grownBy W' row)(hr:∀r,row=some r->x.top<=r/\∃o:Obj,W.heap[r]?=some o/\o.isCells=false):jI x T M q W':=by
 obtain⟨B,n,b,o⟩:=h.row;have hk:=fun r e=>(hr r e).2
 exact⟨qc h.jU hg hk,qc h.bp hg hk,qc h.bm hg hk,qc h.bd hg hk,⟨B,n,qc b hg hk,ri o hg hk⟩,h.fr.grown hg fun r e=>(by rw[x.ok.1];exact Nat.le_trans x.tok (hr r e).1),fun D hD=>by
  obtain⟨d1,d2,d3⟩:=h.rM D hD;exact⟨d1,d2,(hg.block D (Array.getElem?_eq_some_iff.1 d3).1 (fun e=>by have:=(hr D e.symm).1;omega)).trans d3⟩⟩
structure lj (x:gu) (k:fP) (c1 c2:Nat->Int) (v1 v2:ay) (y1 y2:List Int) (b:Nat) (left:Nat) (W:au):Prop where
 bp:Boxed W b 112 (ag (some ⟨x.p,0,none⟩))
 bk:fg W (b+1) (iu k.kind k.last left c1 c2 v1 v2) 28
 o1:iz W x.u v1 y1
 o2:iz W x.u v2 y2
 le:x.u<=b
theorem lj.fr{x:gu}{k:fP}{c1 c2:Nat->Int}{v1 v2:ay}{y1 y2:List Int}{b left:Nat}{W W':au}(h:lj x k c1 c2 v1 v2 y1 y2 b left W)(f:Fr (At x.p) W W'):lj x k c1 c2 v1 v2 y1 y2 b left W':=by
 have hp:=x.ok;have hl:=h.le;unfold gu.u at hl;have hS:∀j,At x.p j->j<x.u:=fun j (e:j=x.p)=>by unfold gu.u;omega
 exact⟨mL h.bp f (fun(e:b=x.p)=>by omega),h.bk.fr f (fun(e:b+1=x.p)=>by omega),h.o1.fr f hS,h.o2.fr f hS,h.le⟩
theorem lj.grown{x:gu}{k:fP}{c1 c2:Nat->Int}{v1 v2:ay}{y1 y2:List Int}{b left:Nat}{W W':au}{row:Option Nat}(h:lj x k c1 c2 v1 v2 y1 y2 b left W)(hg:W.grownBy W' row)(hk:∀r,row=some r->∃o:Obj,W.heap[r]?=some o/\o.isCells=false):lj x k c1 c2 v1 v2 y1 y2 b left W':=
 ⟨qc h.bp hg hk,qc h.bk hg hk,ri h.o1 hg hk,ri h.o2 hg hk,h.le⟩
theorem SM(k:Nat)(b:Bool)(l l':Nat)(c1 c2:Nat->Int)(v1 v2:ay):(iu k b l c1 c2 v1 v2).setIfInBounds 2 (ae ak (l':Int))=iu k b l' c1 c2 v1 v2:=by kernel_rfl
theorem lj.less{x:gu}{k:fP}{c1 c2:Nat->Int}{v1 v2:ay}{y1 y2:List Int}{b left:Nat}{W:au}(h:lj x k c1 c2 v1 v2 y1 y2 b left W)(ad:Nat):lj x k c1 c2 v1 v2 y1 y2 b ad (W.setCell ⟨b+1,2,none⟩ (ae ak (ad:Int))):=by
 have f:=Fr.cell W (b+1) 2 (ae ak (ad:Int));refine⟨mL h.bp f (fun(e:b=b+1)=>by omega),?_,?_,?_,h.le⟩
 ·have:=h.bk.set 2 (ae ak (ad:Int));rwa[SM]at this
 ·exact iB h.o1 fun j hj=>f.block j (gP h.o1 j hj).2 fun(e:j=b+1)=>me h.o1 h.bk (by kernel_rfl) (e▸hj)
 ·exact iB h.o2 fun j hj=>f.block j (gP h.o2 j hj).2 fun(e:j=b+1)=>me h.o2 h.bk (by kernel_rfl) (e▸hj)
theorem jI.less{x:gu}{T:List fi}{M:Nat}{q:Rz}{k:fP}{c1 c2:Nat->Int}{v1 v2:ay}{y1 y2:List Int}{b left:Nat}{W:au}(h:jI x T M q W)(hb:lj x k c1 c2 v1 v2 y1 y2 b left W)(ad:Nat):jI x T M q (W.setCell ⟨b+1,2,none⟩ (ae ak (ad:Int))):=by
 obtain⟨B,n,b',o⟩:=h.row;have hp:=x.ok;have hl:=hb.le;unfold gu.u at hl;have f:=Fr.cell W (b+1) 2 (ae ak (ad:Int));have hn:∀i,i<4->¬At (b+1) (x.z+i):=fun i hi (e:x.z+i=b+1)=>by omega
 exact⟨h.jU.fr f (fun(e:x.p=b+1)=>by omega),mL h.bp f (hn 0 (by omega)),mL h.bm f (hn 1 (by omega)),mL h.bd f (hn 3 (by omega)),⟨B,n,mL b' f (hn 2 (by omega)),iB o fun j hj=>f.block j (gP o j hj).2 fun(e:j=b+1)=>me o hb.bk (by kernel_rfl) (e▸hj)⟩,h.fr.from f fun j (e:j=b+1)=>.inr (by rw[x.ok.1];omega),fun D hD=>by
  obtain⟨d1,d2,d3⟩:=h.rM D hD;exact⟨d1,d2,(f.block D (Array.getElem?_eq_some_iff.1 d3).1 (fun(e:D=b+1)=>Cx d3 hb.bk e)).trans d3⟩⟩
structure Sy where
 T:List fi
 M:Nat
 q:Rz
 left:Nat
 t:fi
def yE(s:Sy):Array ay:=#[ai #[ae .u8 (s.t.x:Int),ae ak s.t.d,ae ak s.t.n]]
def Cy(x:gu)(s:Sy):Prop:=s.q.2=0/\s.q.1<=8*x.l/\s.M<=x.ff/\s.T.length<=s.M/\fH s.t=true/\s.t.x<256
def Cz(x:gu)(k:fP)(c1 c2:Nat->Int)(v1 v2:ay)(y1 y2:List Int)(b:Nat)(s:Sy)(W:au):Prop:=jI x s.T s.M s.q W/\lj x k c1 c2 v1 v2 y1 y2 b s.left W/\Cy x s
def uy(x:gu)(k:fP)(c1 c2:Nat->Int)(v1 v2:ay)(y1 y2:List Int)(b:Nat)(s:Sy)(W:au):Prop:=
 jI x (qS x.ff s.M s.T s.t s.q) (s.M+il s.t) (kE x.ff s.M s.t s.q) W/\lj x k c1 c2 v1 v2 y1 y2 b s.left W/\Cy x s
def Js(g:Nat->Nat)(x:gu)(k:fP)(R:List Nat×Nat×Int)(T:List fi)(M:Nat)(q:Rz)(lo:Nat):Prop:=nO x.ff R T q\/((if k.last=true then rK x.ff R T q else lW g x.l x.ff R T M q none)/\lo<=q.1)
def wz(g:Nat->Nat)(x:gu)(k:fP)(R:List Nat×Nat×Int)(lo:Nat)(W:au):Prop:=∃T M q,jI x T M q W/\Js g x k R T M q lo
def CA(g:Nat->Nat)(x:gu)(k:fP)(Gd:Prop)(R:List Nat×Nat×Int)(T:List fi)(M:Nat)(q:Rz)(left lo:Nat):Prop:=(Gd/\lW g x.l x.ff R T M q (some {k with left:=left})/\lo<=q.1)\/(nO x.ff R T q/\q.1<=8*x.l)
def uz(g:Nat->Nat)(x:gu)(k:fP)(c1 c2:Nat->Int)(v1 v2:ay)(y1 y2:List Int)(b:Nat)(Gd:Prop)(R:List Nat×Nat×Int)(lo:Nat)(W:au):Prop:=
 ∃T M q left,jI x T M q W/\lj x k c1 c2 v1 v2 y1 y2 b left W/\left<=65535/\(k.kind≠0->left=0)/\CA g x k Gd R T M q left lo
attribute [local go_sem] Oper.semAt_some
attribute [local simp] sE
theorem SN{k:fP}{g:Nat->Nat}{L:Nat}{s:Rz}(h:s.1<=8*L):(gC k g L s).2.2.1<=8*L:=by
 unfold gC;split
 ·split
  ·exact h
  ·exact ld h
 ·dsimp only;split
  ·exact rr h
  ·split
   ·exact rr h
   ·exact Ak (rr (Ak (rr h)))
theorem SO{k:fP}{g:Nat->Nat}{L:Nat}{s:Rz}(h:s.1<=8*L)(h0:s.2=0):(gC k g L s).2.2.2=0->s.1<=(gC k g L s).2.2.1:=by
 obtain⟨a,e⟩:=s;have e0:e=0:=h0;subst e0;intro h1;obtain⟨s1,s2⟩:=Fh (k:=k) (g:=g) (L:=L) (a:=a);rcases Int.decEq (fO k g L a).2.2.2 0 with h2|h2
 ·exact absurd ((s2 h2).symm.trans h1) h2
 ·rw[s1 h2];exact(xD h h2).1
theorem lW.SP{g:Nat->Nat}{L ff:Nat}{R:List Nat×Nat×Int}{T:List fi}{M:Nat}{q:Rz}{k:fP}(h:lW g L ff R T M q (some k)){t:fi}{en:Bool}{q':Rz}(hr:(t,en,q')=gC k g L q):
  (q'.2≠0->nO ff R T q')/\(q'.2=0->en=true->if k.last=true then rK ff R T q' else lW g L ff R T M q' none)/\
  (q'.2=0->en=false->fH t=true/\t.x<256/\q.1+1<=q'.1/\q'.1<=8*L/\((kE ff M t q').2≠0->nO ff R (qS ff M T t q') (kE ff M t q'))/\((kE ff M t q').2=0->lW g L ff R (qS ff M T t q') (M+il t) (kE ff M t q') (some (rq k)))):=by
 obtain⟨a,e⟩:=q
 have e0:e=0:=h.err
 subst e0
 have:=h.step
 rw[<-hr]at this
 exact this
theorem VT(fu:Nat)(cH:1<=fu)(g:Nat->Nat)(x:gu)(bH:jN (At x.p) x.w0 x.A x.l g)(hl:x.l<=1000000)(k:fP)(ch:k.kind<256)(hn:k.n<=320)(hm:k.m<=320)(c1 c2:Nat->Int)(v1 v2:ay)(y1 y2:List Int)(b:Nat)
  (Gd:Prop) (bI:Gd->k.kind≠0->lC c1 y1 (fG k.n k.F)/\lC c2 y2 (fG k.m k.G)) (R:List Nat×Nat×Int) (lo:Nat) (lY:Nat) (X:au->Prop) (D:Nat) (cI:b+1<D)
  (hX:∀W1 W2,X W1->(∀k,(k=D\/k=D+1)->W2.heap[k]?=W1.heap[k]?)->X W2)
  (hY:∀s W1,Cz x k c1 c2 v1 v2 y1 y2 b s W1->D+2<=W1.heap.size->X W1->YieldAt Fence.wide (fu-1) prog lY (yE s) W1 fun e W'=>e=aq (aj true)/\uy x k c1 c2 v1 v2 y1 y2 b s W'/\D+2<=W'.heap.size/\X W')
  (W:au) (hD:D+2<=W.heap.size) (hI:uz g x k c1 c2 v1 v2 y1 y2 b Gd R lo W) (hx:X W):
  CallsIn Fence.wide fu prog 159 #[.func (.yield lY) #[] #[],ag (some ⟨b,0,none⟩),ag (some ⟨b+1,0,none⟩)] W fun e W'=>(∃v,e=aq v)/\wz g x k R lo W'/\X W':=by
 refine callsIn_of_wp func159 rfl trivial ?_ rfl
 simp only[ntmps159,List.size_toArray,List.length_cons,List.length_nil,Nat.reduceAdd,Nat.reduceSub,Array.replicate_succ,Array.replicate_zero,List.push_toArray,List.append_toArray,List.nil_append,List.cons_append]
 have cj:=fa bH;have ck:=fa bI;have HX:=fa hX;have HY:=fa hY;have bJ:=fa x.ok
 have cm:=fa hI;have cn:=fa hx
 clear bH bI hX hY hI hx
 gi_wp2
 gi_loopw [] (fun wr=>∃(T:List fi) (M:Nat) (q:Rz) (left:Nat),aR (jI x T M q wr)/\aR (lj x k c1 c2 v1 v2 y1 y2 b left wr)/\left<=65535/\aR (k.kind≠0->left=0)/\aR (CA g x k Gd R T M q left lo)/\aR (X wr)/\D+2<=wr.heap.size) (fun wr=>match wr.cell? ⟨x.p,1,none⟩,wr.cell? ⟨x.p,2,none⟩with|some (ae ak a),some (ae ak e)=>if e=0 then 8*x.l+1-a.toNat else 0|_,_=>0)
 case atStart=>
  obtain⟨T,M,q,left,h1,h2,h3,h4,h5⟩:=cm.out;exact⟨T,M,q,left,fa h1,fa h2,h3,fa h4,fa h5,cn,hD⟩
 case round=>
  obtain⟨T,M,q,left,HC,HB,bn,cp,a8,bK,bL⟩:=hrel;have cb:=(HB.out.bp).cell;have bq:q.1<=8*x.l:=by rcases a8.out with h|h;exact h.2.1.place;exact h.2
  obtain⟨kk,av⟩:∃kk:fP,kk={k with left:=left}:=⟨_,rfl⟩;have hS:∀j,At x.p j->j<x.u:=fun j (e:j=x.p)=>by have:=bJ.out;unfold gu.u;omega
  have cq:x.p<wr.heap.size:=HC.out.jU.lt;have br:=Qb wr x.p x.A x.l x.c g q HC.out.jU (At x.p) rfl (fun j (e:j=x.p)=>by omega) (cj.out.fr HC.out.fr) hl bq kk (by rw[av];exact ch) (by rw[av];exact bn) (by rw[av];exact hn) (by rw[av];exact hm) c1 c2 v1 v2 HB.out.o1.one HB.out.o2.one (fun e=>by
   rcases a8.out with h|h
   ·intro k0;rw[av]at k0⊢;obtain⟨t1,t2⟩:=ck.out h.1 k0;exact⟨⟨y1,pb.gD HB.out.o1 hS,t1⟩,⟨y2,pb.gD HB.out.o2 hS,t2⟩⟩
   ·exact absurd e h.1.err)
  have bt:q.2=0->Gd/\lW g x.l x.ff R T M q (some kk)/\lo<=q.1:=fun e=>by
   rcases a8.out with h|h
   ·exact⟨h.1,by rw[av];exact h.2.1,h.2.2⟩
   ·exact absurd e h.1.err
  have bM:q.2≠0->nO x.ff R T q:=fun e=>by
   rcases a8.out with h|h
   ·exact absurd h.2.1.err e
   ·exact h.1
  have aZ:kk.last=k.last/\kk.kind=k.kind/\kk.left=left:=by rw[av];exact⟨rfl,rfl,rfl⟩
  have a1:=fa (ML (k:=kk) (g:=g) (L:=x.l) (s:=q));obtain⟨⟨⟨tx,td,tn⟩,en,q'⟩,hr⟩:∃r,r=gC kk g x.l q:=⟨_,rfl⟩;rw[<-hr]at br a1;have bg:q'.1<=8*x.l:=by have:=SN (k:=kk) (g:=g) (L:=x.l) (s:=q) bq;rw[<-hr]at this;exact this
  have aX:=fa fun e=>(bt e).2.1.SP hr
  have a2:=fa br;have aV:=fa bt;have bN:=fa bM;have cr:=fa aZ;have cE:=fa bg
  have bO:=fa (HC.out.jU.a);have bP:=fa (HC.out.jU.e)
  rw[aZ.2.1,aZ.1,aZ.2.2]at a2;obtain⟨V,hV⟩:=fb (iu k.kind k.last left c1 c2 v1 v2);rw[<-hV]at a2;have ct:aR (fg wr (b+1) V 28):=fa (by rw[hV];exact HB.out.bk);have cu:aR (V.size=37):=fa (by rw[hV];exact rC ..);unfold yf ye at a2;have bQ:=fa hr;have bu:=fa av;have cJ:=fa hV
  clear br bt bM aZ hr hV av bg hS cq bq;gi_wp2_with (first
   |(refine rB rfl _ _ rfl (b+1) rfl _ V (0,0) _ ct.out underlying28 rfl (oJ _ cu.out) ?_)
   |fail)
  refine(callsIn_wide.2 a2.out).mono ?_;rintro e w2 ⟨rfl,r2,f2⟩;have cK:D≠x.p/\D+1≠x.p:=by have:=bJ.out;have:=HB.out.le;unfold gu.u at this;omega
  have bR:=HC.out.step f2 r2;have bS:=HB.out.fr f2;have bT:=HX.out wr w2 bK.out (fun j hj=>f2.block j (by rcases hj with e|e<;>omega) (fun(e:j=x.p)=>by rcases hj with h|h<;>omega));have bU:D+2<=w2.heap.size:=Nat.le_trans bL f2.size;obtain⟨W3,a3⟩:=fb (w2.alloc (ao #[ae .u8 (tx:Int),ae ak td,ae ak tn] 36));have a4:aS w2.heap.size w2 W3:=by rw[a3];exact fz.alloc fe _
  have aW:=fa (bR.on a4);have bx:=fa (bS.fr (Fr.of a4));have aY:=fa (HX.out w2 W3 bT (fun j hj=>a4.block j (by rcases hj with e|e<;>omega)));have cv:D+2<=W3.heap.size:=Nat.le_trans bU a4.size;have cw:aR (fg W3 w2.heap.size #[ae .u8 (tx:Int),ae ak td,ae ak tn] 36):=fa (by rw[a3];exact fg.new w2 _ _);have bV:=(bx.out.bp).cell;have bW:W3.cell? ⟨x.p,2,none⟩=some (ae ak q'.2):=aW.out.jU.e;rw[a3]at bV bW;have bz:=fa a3;clear r2 f2 bR bS bT bU a4 a3 a2 bK bL cb;have a5:aR (q'.2≠0->nO x.ff R T q'):=fa (fun e=>by
   rcases Int.decEq q.2 0 with e0|e0
   ·have e2:q'=q:=a1.out e0;rw[e2]at e⊢;exact bN.out e0
   ·exact(aX.out e0).1 e)
  cases en
  ·by_cases he:q'.2=0
   ·have ad:q.2=0:=by
     rcases Int.decEq q.2 0 with e0|e0
     ·have e2:q'=q:=a1.out e0;rw[e2]at he;exact he
     ·exact e0
    have d0:(q'.2==0)=true:=by rw[he];rfl
    have d1:(q'.2 !=0)=false:=by simp[bne,d0]
    obtain⟨m1,m2,m3,m4,m5,m6⟩:=(aX.out ad).2.2 he rfl;have bX:Cy x ⟨T,M,q',left,⟨tx,td,tn⟩⟩:=⟨he,m4,(aV.out ad).2.1.room,(aV.out ad).2.1.ok.count,m1,m2⟩;obtain⟨fn,tmps,assign,body,hy,bA⟩:=HY.out ⟨T,M,q',left,⟨tx,td,tn⟩⟩ W3 ⟨aW.out,bx.out,bX⟩ cv aY.out;have bY:yE ⟨T,M,q',left,⟨tx,td,tn⟩⟩=#[ai #[ae .u8 (tx:Int),ae ak td,ae ak tn]]:=rfl;rw[bY]at hy;rw[bz.out]at hy bA;have bj:=fa bA;have HM:=fa (And.intro m3 (And.intro m4 (And.intro m5 m6)));have bZ:=fa ad;have cL:=fa he
    have b0:=fa (aV.out ad).1;have b1:=fa (aV.out ad).2.2
    clear m1 m2 m3 m4 m5 m6 bX bY bA ad he aV bN a1 aX a5;gi_wp2
    refine bj.out.mono ?_;rintro e W4 ⟨rfl,⟨i1,i2,i3⟩,b2,b3⟩;obtain⟨q4,a9⟩:=fb (kE x.ff M ⟨tx,td,tn⟩ q');obtain⟨T4,bB⟩:=fb (qS x.ff M T ⟨tx,td,tn⟩ q');obtain⟨M4,bC⟩:=fb (M+il ⟨tx,td,tn⟩);have b4:jI x T4 M4 q4 W4:=by rw[bB,bC,a9];exact i1
    have a6:lj x k c1 c2 v1 v2 y1 y2 b left W4:=i2;have ca:=a6.bk.cell (i:=0);have cl:=a6.bk.cell (i:=2);have fl:=a6.bk.free (i:=2);rw[show(iu k.kind k.last left c1 c2 v1 v2)[0]?=some (ae .u8 (k.kind:Int))from rfl]at ca;rw[show(iu k.kind k.last left c1 c2 v1 v2)[2]?=some (ae ak (left:Int))from rfl]at cl;have bD:=HM.out;rw[<-a9,<-bB,<-bC]at bD;have bl:q4.1=q'.1:=by rw[a9];exact Sx _ _ _ _
    have bf:=fa b4;have bE:=fa a6;have b5:=fa b3;have ah:=fa bD;have al:=fa bl
    clear i1 i2 i3 b4 a6 b3 bD a9 bB bC bl hy bj HM aW bx aY cw bV bW;by_cases k0:k.kind=0
    ·have d2:((k.kind:Int)==0)=true:=by rw[k0];rfl
     have cM:1<=left:=by
      rcases Nat.eq_zero_or_pos left with z|z
      ·exfalso;have b6:=bQ.out;rw[bu.out,Hl (k:={k with left:=left}) k0 z]at b6;injection b6 with _ h2
       injection h2 with h2 _
       cases h2
      ·exact z
     have hle:(left:Int)-1=((left-1:Nat):Int):=by omega
     have cx:=fa hle;have b7:=fa k0;obtain⟨kd,aT⟩:=fb (k.kind);rw[<-aT]at ca d2;clear k0 hle aT;have aU:=bf.out.less bE.out (left-1);have a7:=bE.out.less (left-1);rw[<-cx.out]at aU a7;have n1:=aU.jU.a;have n2:=aU.jU.e;have b8:=HX.out W4 (W4.setCell ⟨b+1,2,none⟩ (ae ak ((left:Int)-1))) b5.out (fun j hj=>Below.heap_setCell W4 ⟨b+1,2,none⟩ _ j (by show j≠b+1;rcases hj with e|e<;>omega));have b9:(W4.setCell ⟨b+1,2,none⟩ (ae ak ((left:Int)-1))).heap.size=W4.heap.size:=by simp[World.setCell]
     have bF:=fa n1;have bG:=fa n2;have cy:=fa aU;have cz:=fa a7;have cA:=fa b8;have cB:=fa b9
     clear n1 n2 aU a7 b8 b9;gi_wp2
     refine⟨⟨T4,M4,q4,left-1,cy.out,cz.out,by omega,fa (fun h=>absurd b7.out h),fa ?_,cA,by rw[cB.out];exact b2⟩,?_⟩
     ·rcases Int.decEq q4.2 0 with e|e
      ·exact .inr ⟨ah.out.2.2.1 e,by rw[al.out];exact ah.out.2.1⟩
      ·refine .inl ⟨b0.out,?_⟩;have:=ah.out.2.2.2 e;rw[bu.out]at this;exact⟨this,by have:=b1.out;have:=ah.out.1;have:=al.out;omega⟩
     ·rw[bF.out,bG.out,bO.out,bP.out];show(if q4.2=0 then 8*x.l+1-(q4.1:Int).toNat else 0)<(if q.2=0 then 8*x.l+1-(q.1:Int).toNat else 0)
      have h1:=ah.out.1;have h2:=ah.out.2.1;have h3:=al.out
      rw[if_pos bZ.out];split<;>omega
    ·have d2:((k.kind:Int)==0)=false:=beq_eq_false_iff_ne.2 (by omega);have cf:=cp.out k0;obtain⟨kd,aT⟩:=fb (k.kind);rw[<-aT]at ca d2;have n1:=bf.out.jU.a;have n2:=bf.out.jU.e;have bF:=fa n1;have bG:=fa n2;have HZ:=fa cf;have b7:=fa k0
     clear k0 aT n1 n2 cf;gi_wp2
     refine⟨⟨T4,M4,q4,left,bf,bE,by omega,fa (fun _=>HZ.out),fa ?_,b5,b2⟩,?_⟩
     ·rcases Int.decEq q4.2 0 with e|e
      ·exact .inr ⟨ah.out.2.2.1 e,by rw[al.out];exact ah.out.2.1⟩
      ·refine .inl ⟨b0.out,?_⟩;have:=ah.out.2.2.2 e;rw[bu.out]at this;have hz:=HZ.out;subst hz;exact⟨this,by have:=b1.out;have:=ah.out.1;have:=al.out;omega⟩
     ·rw[bF.out,bG.out,bO.out,bP.out];show(if q4.2=0 then 8*x.l+1-(q4.1:Int).toNat else 0)<(if q.2=0 then 8*x.l+1-(q.1:Int).toNat else 0)
      have h1:=ah.out.1;have h2:=ah.out.2.1;have h3:=al.out
      rw[if_pos bZ.out];split<;>omega
   ·have d0:(q'.2==0)=false:=beq_eq_false_iff_ne.2 he;have d1:(q'.2 !=0)=true:=by simp[bne,d0]
    have cC:=fa (a5.out he);rw[bz.out]at aY aW;clear he;gi_wp2
    refine aL (results_none rfl _ _ _) rfl ?_;exact⟨⟨_,rfl⟩,⟨T,M,q',aW.out,.inl cC.out⟩,aY.out⟩
  ·have cD:aR (Js g x k R T M q' lo):=fa (by
    rcases Int.decEq q'.2 0 with e|e
    ·exact .inl (a5.out e)
    ·right;have ad:q.2=0:=by
      rcases Int.decEq q.2 0 with e0|e0
      ·have e2:q'=q:=a1.out e0;rw[e2]at e;exact e
      ·exact e0
     have:=(aX.out ad).2.1 e rfl;rw[cr.out.1]at this;have cg:=SO (k:=kk) (g:=g) (L:=x.l) (aV.out ad).2.1.place ad;rw[<-bQ.out]at cg;exact⟨this,Nat.le_trans (aV.out ad).2.2 (cg e)⟩)
   rw[bz.out]at aY aW;gi_wp2
   refine aL (results_none rfl _ _ _) rfl ?_;exact⟨⟨_,rfl⟩,⟨T,M,q',aW.out,cD.out⟩,aY.out⟩
attribute [local go_sem] Oper.semAt_some
attribute [local simp] sE
theorem uy.own(x:gu)(k:fP)(c1 c2:Nat->Int)(v1 v2:ay)(y1 y2:List Int)(b B:Nat)(hB:x.top<=B):OwnFrom B (uy x k c1 c2 v1 v2 y1 y2 b):=fun _ _ _ _ ⟨h1,h2,h3⟩ hg hr=>⟨h1.grown hg fun r e=>⟨Nat.le_trans hB (hr r e).1,(hr r e).2⟩,h2.grown hg fun r e=>(hr r e).2,h3⟩
theorem wz.own(g:Nat->Nat)(x:gu)(k:fP)(R:List Nat×Nat×Int)(lo B:Nat)(hB:x.top<=B):OwnFrom B (fun _:Unit=>wz g x k R lo):=fun _ _ _ _ ⟨T,M,q,h1,h2⟩ hg hr=>⟨T,M,q,h1.grown hg fun r e=>⟨Nat.le_trans hB (hr r e).1,(hr r e).2⟩,h2⟩
theorem uz.own(g:Nat->Nat)(x:gu)(k:fP)(c1 c2:Nat->Int)(v1 v2:ay)(y1 y2:List Int)(b:Nat)(Gd:Prop)(R:List Nat×Nat×Int)(lo B:Nat)(hB:x.top<=B):OwnFrom B (fun _:Unit=>uz g x k c1 c2 v1 v2 y1 y2 b Gd R lo):=fun _ _ _ _ ⟨T,M,q,left,h1,h2,h3⟩ hg hr=>⟨T,M,q,left,h1.grown hg fun r e=>⟨Nat.le_trans hB (hr r e).1,(hr r e).2⟩,h2.grown hg fun r e=>(hr r e).2,h3⟩
theorem SQ(n:Nat)(p:Nat)(V:Array ay)(w:au):
  CallsIn Fence.wide n prog 116 #[ag (some ⟨p,0,none⟩),ai V] w fun e w'=>e=aq (.func (.func 159) #[] #[ag (some ⟨w.heap.size,0,none⟩),ag (some ⟨w.heap.size+1,0,none⟩)])/\
   w'=(w.alloc (ao #[ag (some ⟨p,0,none⟩)] 112)).alloc (ao V 28):=by
 refine callsIn_of_wp func116 rfl trivial ?_ rfl
 simp only[ntmps116,List.size_toArray,List.length_cons,List.length_nil,Nat.reduceAdd,Nat.reduceSub,Array.replicate_succ,Array.replicate_zero,List.push_toArray,List.append_toArray,List.nil_append,List.cons_append]
 gi_wp2
 go_ret
 exact⟨rfl,rfl⟩
theorem SR{w:au}{base sz n j:Nat}{e:aC}{v:ay}{xs:List ay}(h:w.ownsRow base e sz v n xs)(hj:v.ownBlock=some j):∃cur,w.heap[j]?=some (ao cur e (0,0)):=by
 rcases h.2 with⟨rfl,_⟩|⟨g,cap,cur,rfl,hg,hh,_⟩
 ·simp[Value.ownBlock]at hj
 ·simp[Value.ownBlock]at hj;subst hj;exact⟨cur,hh⟩
theorem Jt{p:Nat}{W W':au}{cs:Array ay}{t:aC}(h:fg W p cs t)(f:Fr (At p) W W'):KeepsOthers W W':=⟨f.size,fun k o hk hc=>(f.block k (Array.getElem?_eq_some_iff.1 hk).1 (fun(e:k=p)=>by
 subst e;have h':W.heap[k]?=some (ao cs t (0,0)):=h;rw[h']at hk;cases hk;cases hc)).trans hk⟩
theorem Fr.low{S:Nat->Prop}{w a b:au}{B:Nat}(h:Fr S w a)(k:aS B a b)(hB:w.heap.size<=B):Fr S w b:=⟨k.os.trans h.os,k.tape.trans h.tape,k.output.trans h.output,Nat.le_trans h.size k.size,fun i hi hS=>(k.block i (by omega)).trans (h.block i hi hS)⟩
def yF(D:Nat):Deferred:={target:=.collected D,args:=#[]}
theorem Ju{F:Fence}{n:Nat}{P:aA}{fn:Func}{tmps:Array ay}{R:Ending->au->Prop}(I:au->Prop)(B:Nat)(hI:OwnFrom B (fun _:Unit=>I))(hR:∀W,I W->LeavesIn F n P fn tmps R [] .returning W):
  ∀(Ds:List Nat) (W:au),I W->(∀D∈Ds,B<=D/\W.heap[D]?=some (.deferred (some [])))->Ds.Nodup->LeavesInM F n P fn tmps R (Ds.map yF) .returning W
 |[],W,hi,_,_=>hR W hi
 |D::Ds,W,hi,hm,hn=>by
  obtain⟨h1,h2⟩:=hm D (by simp);obtain⟨ah,al⟩:=List.nodup_cons.1 hn;refine⟨by simp,.inl ⟨D,_,rfl,run_takeDeferred h2,?_⟩⟩;refine Ju I B hI hR Ds _ (hI.putObj (s:=()) _ hi h1 h2 rfl) (fun D' ad=>?_) al;obtain⟨e1,e2⟩:=hm D' (by simp[ad]);exact⟨e1,(World.putObj_heap_other (by intro e;apply ah;first|(rw[e];exact ad)|(rw[<-e];exact ad))).trans e2⟩
theorem SS(tm:Array ay)(h:tm.size=53):∃u:Nat->ay,tm=#[u 0,u 1,u 2,u 3,u 4,u 5,u 6,u 7,u 8,u 9,u 10,u 11,u 12,u 13,u 14,u 15,u 16,u 17,u 18,u 19,u 20,u 21,u 22,u 23,u 24,u 25,u 26,u 27,u 28,u 29,u 30,u 31,u 32,u 33,u 34,u 35,u 36,u 37,u 38,u 39,u 40,u 41,u 42,u 43,u 44,u 45,u 46,u 47,u 48,u 49,u 50,u 51,u 52]/\∀i,i<53->tm[i]?=some (u i):=by
 refine⟨fun i=>tm.getD i undef,?_,fun i hi=>?_⟩
 ·have e:tm=((List.range 53).map fun i=>tm.getD i undef).toArray:=by
   apply Array.ext
   ·simp[h]
   ·intro i h1 h2;simp[Array.getD,h1]
  exact e.trans rfl
 ·rw[Array.getElem?_eq_getElem (by omega)];simp[Array.getD,h,hi]
structure SU (x:gu) (lb:Bool) (a:Act):Prop where
 df:a.defers=x.ds.map yF
 sz:a.tmps.size=53
 t0:a.tmps[0]?=some (ag (some ⟨x.p,0,none⟩))
 t1:a.tmps[1]?=some (ae ak (x.ff:Int))
 t2:a.tmps[2]?=some (ag (some ⟨x.z,0,none⟩))
 t3:a.tmps[3]?=some (ag (some ⟨x.z+1,0,none⟩))
 t4:a.tmps[4]?=some (af none 0 0)
 t5:a.tmps[5]?=some (ag (some ⟨x.z+2,0,none⟩))
 t6:a.tmps[6]?=some (ag (some ⟨x.z+3,0,none⟩))
 t7:a.tmps[7]?=some (aj lb)
def SV(g:Nat->Nat)(R:List Nat×Nat×Int)(x:gu)(T:List fi)(M:Nat)(q:Rz)(lb:Bool)(W:au):Prop:=jI x T M q W/\x.top<=W.heap.size/\x.z+4<=W.heap.size/\x.ds.Nodup/\((lb=false/\lW g x.l x.ff R T M q none)\/nO x.ff R T q\/(lb=true/\rK x.ff R T q))
theorem jI.move{x:gu}{T:List fi}{M:Nat}{q:Rz}{W:au}(h:jI x T M q W)(ds:List Nat)(top:Nat)(ht:x.z<=top)(hd:∀D∈ds,x.z<=D/\D<top/\W.heap[D]?=some (.deferred (some []))):jI ⟨x.w0,x.p,x.A,x.l,x.c,x.z,x.ff,ds,top,x.ok,ht⟩ T M q W:=
 ⟨h.jU,h.bp,h.bm,h.bd,h.row,h.fr,hd⟩
theorem SW{g:Nat->Nat}{L a:Nat}(ha:a<=8*L)(h:(fS g L a).2.2=0):(fS g L a).1.n<=320/\(fS g L a).1.m<=320:=by
 by_cases k0:(fS g L a).1.kind=0
 ·unfold fS at h k0⊢;split at h
  ·exact absurd h (by decide)
  ·rename_i h1;rw[if_neg h1]at k0⊢;unfold sj at h k0⊢;split at h
   ·exact absurd h (by decide)
   ·rename_i h2;rw[if_neg h2]at k0⊢;split at h
    ·rename_i h3;rw[if_pos h3]at k0;have:=((Ji (g:=g) (L:=L) (a:=a+3) (last:=decide (UR g a 3%2=1)) (by omega)).1 h).2.1;rw[k0]at this;exact absurd this (by decide)
    ·rename_i h3;rw[if_neg h3]at k0⊢;split at h
     ·rename_i h4;rw[if_pos h4]at k0;exact absurd k0 (show¬(1:Nat)=0 by decide)
     ·rename_i h4;rw[if_neg h4];unfold nx at h⊢;split at h
      ·exact absurd h (by decide)
      ·rename_i h5;rw[if_neg h5];unfold tL at h⊢;split at h
       ·exact absurd h (by decide)
       ·rename_i h6;rw[if_neg h6];exact⟨Nat.zero_le _,Nat.zero_le _⟩
 ·obtain⟨_,_,_,_,_,_,_,h8⟩:=(Jj (g:=g) (L:=L) ha).1 h;obtain⟨_,_,_,_,_,c5,c6⟩:=h8 k0;exact⟨(lk c5).2.2.1,(lk c6).2.2.1⟩
theorem SY(g:Nat->Nat)(L:Nat)(s:Rz):oN g L s<=65535/\(gL g L s≠0->oN g L s=0)/\gL g L s<256:=by
 have h1:o7 g L (ij L s)<65536:=mF _ _ _ _;have h2:gL g L s<4:=mF _ _ _ _;refine⟨?_,fun h=>?_,by omega⟩
 ·unfold oN;split<;>omega
 ·unfold oN;rw[if_neg h]
theorem SZ{g:Nat->Nat}{L:Nat}{s:Rz}(h:s.1<=8*L):(nL g L s).1<=8*L:=by
 have hq:(ij L s).1<=8*L:=ld (ld h);unfold nL;split
 ·unfold oF;rw[nX];exact ld (ld (MN hq))
 ·split
  ·unfold hH;rw[nX,nX];exact hq
  ·split
   ·have h5:=Cf (g:=g) hq;have hR:∀k made l s,s.1<=8*L->(lnS (fG 19 (mh g L (ij L s))) g L made k made l s).2.1<=8*L\/True:=fun _ _ _ _ _=>.inr trivial
    have ad:∀(F:Nat->Nat) (n k made:Nat) (l:List (Int×Int)) (s:Rz),s.1<=8*L->(lnS F g L n k made l s).2.1<=8*L:=by
     intro F n k;induction k with
     |zero=>intro _ _ _ h;exact h
     |succ k ih=>
      intro made l s h;unfold lnS;split
      ·exact ih _ _ _ (Cc h)
      ·exact h
    unfold pA;split
    ·exact ad _ _ _ _ _ _ h5
    ·unfold hH;rw[nX,nX,nX];exact ad _ _ _ _ _ _ h5
   ·rw[tP];exact hq
theorem S8{g:Nat->Nat}{x:gu}{R:List Nat×Nat×Int}{T:List fi}{M a:Nat}(h:lW g x.l x.ff R T M (a,0) none):∃(k:fP) (Gd:Prop),k.kind=gL g x.l (a,0)/\k.last=rI g x.l (a,0)/\k.left=oN g x.l (a,0)/\k.n<=320/\k.m<=320/\
  (Gd->k.kind≠0->lC (qL g x.l (a,0)) (qN g x.l (a,0)) (fG k.n k.F)/\lC (qM g x.l (a,0)) (qO g x.l (a,0)) (fG k.m k.G))/\CA g x k Gd R T M (nL g x.l (a,0)) k.left (a+1):=by
 have ha:a<=8*x.l:=h.place
 obtain⟨h1,h2⟩:=h.head
 obtain⟨i1,i2⟩:=Jj (g:=g) (L:=x.l) ha
 rcases Int.decEq (fS g x.l a).2.2 0 with e|e
 ·refine⟨⟨gL g x.l (a,0),rI g x.l (a,0),oN g x.l (a,0),jE,0,jE,0⟩,False,rfl,rfl,rfl,Nat.zero_le _,Nat.zero_le _,fun f=>f.elim,.inr ⟨?_,SZ ha⟩⟩;have:=h1 e (nL g x.l (a,0)).1;have e3:nL g x.l (a,0)=((nL g x.l (a,0)).1,(fS g x.l a).2.2):=Prod.ext rfl (i2 e);rw[e3];exact this
 ·obtain⟨e1,e2,e3,e4,e5,e6,e7,e8⟩:=i1 e;obtain⟨s1,s2⟩:=SW ha e;refine⟨(fS g x.l a).1,True,e2.symm,e3.symm,e4.symm,s1,s2,fun _ k0=>?_,.inl ⟨trivial,?_,?_⟩⟩
  ·obtain⟨c0,c1,c2,c3,c4,c5,c6⟩:=e8 k0;rw[c1,c2,c3,c4];exact⟨vu c5,vu c6⟩
  ·rw[e1];exact h2 e
  ·rw[e1];have:=(xC e).1;show a+1<=(fS g x.l a).2.1;omega
def CB(x0:gu)(R:List Nat×Nat×Int)(e:Ending)(w':au):Prop:=∃(T:List fi) (q:Rz) (B:Option aw) (n:Nat),e=aq (af B T.length n)/\iK w' w'.heap.size B T.length n T/\fx w' x0.p x0.A x0.l x0.c q/\Fr (At x0.p) x0.w0 w'/\(nO x0.ff R T q\/rK x0.ff R T q)
theorem Ta(x0:gu)(aZ:x0.ds=[])(b1:x0.top=x0.z)(g:Nat->Nat)(a:Nat)(h:fx x0.w0 x0.p x0.A x0.l x0.c (a,0))(hg:jN (At x0.p) x0.w0 x0.A x0.l g)(hl:x0.l<=1000000)(ha:a<=8*x0.l)(cx:x0.ff<=131072)(R:List Nat×Nat×Int)(hR:iU g x0.l x0.ff none [] a=R):
  ax prog 77 #[ag (some ⟨x0.p,0,none⟩),ae ak (x0.ff:Int)] x0.w0 fun e w'=>CB x0 R e w':=by
 have aW:lW g x0.l x0.ff R [] 0 (a,0) none:=⟨⟨fun t ht=>by simp at ht,trivial,rfl⟩,Nat.zero_le _,rfl,ha,hR⟩
 obtain⟨W1,aX⟩:=fb ((((x0.w0.alloc (ao #[ag (some ⟨x0.p,0,none⟩)] 112)).alloc (ao #[ae ak (x0.ff:Int)] 3)).alloc (ao #[af none 0 0] 60)).alloc (ao #[ae ak 0] 3))
 have hz:=x0.ok.1
 have b2:aS x0.w0.heap.size x0.w0 W1:=by rw[aX];exact(((fz.alloc fe _).alloc (by simp) _).alloc (by simp;omega) _).alloc (by simp;omega) _
 have cy:W1.heap.size=x0.z+4:=by rw[aX];simp;omega
 have ad:jI x0 [] 0 (a,0) W1:=by
  refine⟨fg.below h b2 h.lt,?_,?_,?_,⟨none,0,?_,World.ownsRow_nil _ _ _ _⟩,Fr.of b2,fun D hD=>by rw[aZ]at hD;simp at hD⟩
  ·rw[<-hz,aX];exact(((Boxed.new x0.w0 _ _).alloc _).alloc _).alloc _
  ·have:=((Boxed.new (x0.w0.alloc (ao #[ag (some ⟨x0.p,0,none⟩)] 112)) 3 (ae ak (x0.ff:Int))).alloc (ao #[af none 0 0] 60)).alloc (ao #[ae ak 0] 3);rw[World.size_alloc,hz]at this;rw[aX];exact this
  ·have:=Boxed.new (((x0.w0.alloc (ao #[ag (some ⟨x0.p,0,none⟩)] 112)).alloc (ao #[ae ak (x0.ff:Int)] 3)).alloc (ao #[af none 0 0] 60)) 3 (ae ak 0);rw[World.size_alloc,World.size_alloc,World.size_alloc,hz]at this;rw[aX];exact this
  ·have:=(Boxed.new ((x0.w0.alloc (ao #[ag (some ⟨x0.p,0,none⟩)] 112)).alloc (ao #[ae ak (x0.ff:Int)] 3)) 60 (af none 0 0)).alloc (ao #[ae ak 0] 3);rw[World.size_alloc,World.size_alloc,hz]at this;rw[aX];exact this
 have HG:=fa hg;have dq:=fa aX;have HZ:=fa hz;have dr:=fa ad;have dt:=fa aW
 have cz:=fa cy
 have HP:=fa x0.ok
 clear h hg aX ad aW b2 cy hR
 refine(callsIn_wide (n:=9)).1 ?_
 refine callsIn_of_wp_marks func77 rfl trivial ?_ rfl
 simp only[ntmps77,List.size_toArray,List.length_cons,List.length_nil,Nat.reduceAdd,Nat.reduceSub,Array.replicate_succ,Array.replicate_zero,List.push_toArray,List.append_toArray,List.nil_append,List.cons_append]
 gi_wp2_with fail
 simp only[Nat.add_assoc,Nat.reduceAdd]
 rw[<-dq.out]
 refine wpIn_loop (fun a w=>∃(x:gu) (T:List fi) (M:Nat) (q:Rz) (lb:Bool),(x.w0=x0.w0/\x.p=x0.p/\x.A=x0.A/\x.l=x0.l/\x.c=x0.c/\x.z=x0.z/\x.ff=x0.ff)/\SU x lb a/\SV g R x T M q lb w)
  (fun a w=>match a.tmps.getD 7 undef,w.cell? ⟨x0.p,1,none⟩,w.cell? ⟨x0.p,2,none⟩with|aj false,some (ae ak a),some (ae ak e)=>if e=0 then 8*x0.l+1-a.toNat else 0|_,_,_=>0) ?start ?round
 case start=>exact⟨x0,[],0,(a,0),false,⟨rfl,rfl,rfl,rfl,rfl,rfl,rfl⟩,⟨by rw[aZ];rfl,rfl,rfl,rfl,rfl,rfl,rfl,rfl,rfl,rfl⟩,dr.out,by rw[b1,cz.out];omega,by rw[cz.out];exact Nat.le_refl _,by rw[aZ];exact List.nodup_nil,.inl ⟨rfl,dt.out⟩⟩
 case round=>
  rintro⟨tm,df⟩ wr ⟨x,T,M,q,lb,E,hF,hC⟩;have du:=E.2.1;have cA:aR (jN (At x.p) x.w0 x.A x.l g):=fa (by rw[E.1,E.2.1,E.2.2.1,E.2.2.2.1];exact HG.out);have a1:x.l<=1000000:=by rw[E.2.2.2.1];exact hl
  have dv:x.ff<=131072:=by rw[E.2.2.2.2.2.2];exact cx
  have dw:aR (∀(W:au) (B:Option aw) (n:Nat),fx W x.p x.A x.l x.c q->Fr (At x.p) x.w0 W->W.ownsRow x.u 36 3 (af B T.length n) T.length (Vt T)->(nO x.ff R T q\/rK x.ff R T q)->CB x0 R (Ending.returned (af B T.length n)) W):=fa (fun W B n h1 h2 h4 h3=>⟨T,q,B,n,rfl,iK.gD h4,by rw[<-E.2.1,<-E.2.2.1,<-E.2.2.2.1,<-E.2.2.2.2.1];exact h1,by rw[<-E.2.1,<-E.1];exact h2,by rw[<-E.2.2.2.2.2.2];exact h3⟩);have HE:=fa E;obtain⟨b3,bl,t0,t1,t2,t3,t4,t5,t6,t7⟩:=hF;obtain⟨u,rfl,hu⟩:=SS tm bl;have b3:df=x.ds.map yF:=b3;subst b3;have e0:=Option.some.inj ((hu 0 (by omega)).symm.trans t0);have e1:=Option.some.inj ((hu 1 (by omega)).symm.trans t1);have e2:=Option.some.inj ((hu 2 (by omega)).symm.trans t2);have e3:=Option.some.inj ((hu 3 (by omega)).symm.trans t3);have e4:=Option.some.inj ((hu 4 (by omega)).symm.trans t4);have e5:=Option.some.inj ((hu 5 (by omega)).symm.trans t5);have e6:=Option.some.inj ((hu 6 (by omega)).symm.trans t6);have e7:=Option.some.inj ((hu 7 (by omega)).symm.trans t7)
  rw[e0,e1,e2,e3,e4,e5,e6,e7];clear bl t0 t1 t2 t3 t4 t5 t6 t7 hu e0 e1 e2 e3 e4 e5 e6 e7 E;obtain⟨bn,cB,bD,cC,hI⟩:=hC;have HC:=fa bn;have HI:=fa hI;have cD:=fa cC
  have HP:=fa x.ok;clear bn hI cC du;obtain⟨ds,aZ⟩:=fb (x.ds);rw[<-aZ];have cE:=fa aZ;clear aZ;have cp:=(HC.out.bp).cell;have ce:wr.cell? ⟨x.p,2,none⟩=some (ae ak q.2):=HC.out.jU.e;obtain⟨B,n,bE,a4⟩:=HC.out.row;have cl:=bE.cell;by_cases aW:lb=false/\q.2=0
  ·obtain⟨rfl,a8⟩:=aW;have cH:lW g x.l x.ff R T M q none:=by
    rcases HI.out with h|h|h
    ·exact h.2
    ·exact absurd a8 h.err
    ·exact absurd h.1 (by decide)
   have d0:(q.2==0)=true:=by rw[a8];rfl
   obtain⟨qa,qe⟩:=q;have dx:qe=0:=a8;subst dx;have bF:=fa cH;clear a8 HI cH cl bE a4;have eb:wr.cell? ⟨x.p,2,none⟩=some (ae ak 0):=ce;clear ce;have cI:∀j,At x.p j->j<wr.heap.size:=fun j (e:j=x.p)=>by have:=HP.out;omega
   have bN:(ij x.l (qa,0)).1<=8*x.l:=ld (ld bF.out.place);have bq:=fa (RP wr x.p x.A x.l x.c g (qa,0) HC.out.jU (At x.p) rfl cI (cA.out.fr HC.out.fr) a1 bF.out.place (fun he=>(Jf g x.l (ij x.l (qa,0)) bN he).1));obtain⟨k,Gd,b5,cJ,b6,dy,dz,b7,b8⟩:=S8 bF.out;obtain⟨cK,a1,cL⟩:=SY g x.l (qa,0);rw[<-b5]at a1 cL;rw[<-b6]at cK a1;rw[<-b5,<-cJ,<-b6]at bq;obtain⟨C1,cM⟩:=fb (qL g x.l (qa,0));obtain⟨C2,cN⟩:=fb (qM g x.l (qa,0));obtain⟨y1,cO⟩:=fb (qN g x.l (qa,0));obtain⟨y2,cP⟩:=fb (qO g x.l (qa,0));obtain⟨q2,cQ⟩:=fb (nL g x.l (qa,0));rw[<-cM,<-cN,<-cO,<-cP]at bq b7;rw[<-cQ]at bq b8;have dA:=fa b7;have dB:=fa b8;have dC:=fa a1
   have dD:=fa (HC.out.jU.a);have dE:=fa (HC.out.jU.e)
   obtain⟨Z,hZ⟩:=fb (iu 0 false 0 (fun _=>0) (fun _=>0) (af none 0 0) (af none 0 0));have ec:∀u:au,(zeroValue 28).run prog u=.ok (ai Z) u:=by rw[hZ];exact(zero_of_info By).1
   have dF:aR (Z.size=37):=fa (by rw[hZ];exact rC ..);clear cI bN b5 cJ b6 b7 b8 cM cN cO cP cQ a1 hZ;gi_wp2_with fail
   refine(callsIn_wide.2 bq.out).mono ?_;rintro e w2 ⟨u1,u2,rfl,r2,o1,o2,f2⟩;obtain⟨V,hV⟩:=fb (iu k.kind k.last k.left C1 C2 u1 u2);rw[<-hV];have b9:aR (V.size=37):=fa (by rw[hV];exact rC ..);have dG:aR (V.all (·.oneCell')=true):=fa (by rw[hV];exact Hk _ _ _ _ _ _ _ o1.one o2.one);have cR:V[1]?=some (aj k.last):=by rw[hV];rfl
   obtain⟨k0,a9⟩:=fb (w2.heap.size);obtain⟨W3,br⟩:=fb (gi w2 Z V 28);have bG:aS w2.heap.size w2 W3:=by rw[br];exact km _ _ _ _
   have x3:fg W3 k0 V 28:=by rw[br,a9];exact kO w2 Z V _
   have cS:W3.heap.size=k0+1:=by rw[br,wZ,a9]
   have ca:=(HC.out.step f2 r2).on bG;have dH:=(ca.bp).cell;have cT:=x3.cell (i:=1);rw[cR]at cT;have ed:x.z+4<=k0:=by rw[a9];exact Nat.le_trans bD f2.size
   have ef:x.top<=k0:=by rw[a9];exact Nat.le_trans cB f2.size
   have p1:iz W3 x.u u1 y1:=lZ (mS o1 bG) (by unfold gu.u;exact bD);have p2:iz W3 x.u u2 y2:=lZ (mS o2 bG) (by unfold gu.u;exact bD);have cU:=fa x3;have dI:=fa br;have cV:=fa a9;have cW:=fa ca;have dJ:=fa p1;have dK:=fa p2;have dL:=fa hV;have bH:=fa cS
   clear r2 o1 o2 f2 hV cR a9 br bG x3 cS ca p1 p2 bq HC;gi_wp2_with (first
    |(refine FZ rfl _ _ _ rfl rfl w2.heap.size V rfl rfl 28 Z (aH w2 _) (oJ _ b9.out) (by rw[dF.out,b9.out]) dG.out ?_;change wpListIn _ _ _ _ _ _ _ (gi w2 Z V 28);rw[<-dI.out,<-cV.out])
    |(refine rB rfl _ _ rfl k0 rfl _ V (0,0) _ cU.out underlying28 rfl (oJ _ b9.out) ?_)
    |(gi_at_call 116;refine(SQ _ _ _ _).mono ?_;rintro e w' ⟨rfl,rfl⟩))
   obtain⟨W5,a2⟩:=fb ((W3.alloc (ao #[ag (some ⟨x.p,0,none⟩)] 112)).alloc (ao V 28));have al:aS W3.heap.size W3 W5:=by rw[a2];exact(fz.alloc fe _).alloc (by simp) _
   have cX:=cW.out.on al;have cb:W5.heap.size=W3.heap.size+2:=by rw[a2];simp
   have av:lj x k C1 C2 u1 u2 y1 y2 W3.heap.size k.left W5:=by
    refine⟨?_,?_,mS dJ.out al,mS dK.out al,by rw[bH.out];unfold gu.u;omega⟩
    ·rw[a2];exact(Boxed.new W3 _ _).alloc _
    ·rw[a2,<-dL.out];have:=fg.new (W3.alloc (ao #[ag (some ⟨x.p,0,none⟩)] 112)) V 28;rwa[World.size_alloc]at this
   have cY:uz g x k C1 C2 u1 u2 y1 y2 W3.heap.size Gd R (qa+1) W5:=⟨T,M,q2,k.left,cX,av,cK,dC.out,dB.out⟩;have dM:=fa cY;obtain⟨fr,cZ⟩:∃fr:Nat->fi->Act,fr=fun y t=>{tmps:=#[ag (some ⟨x.p,0,none⟩),ae ak (x.ff:Int),ag (some ⟨x.z,0,none⟩),ag (some ⟨x.z+1,0,none⟩),af none 0 0,ag (some ⟨x.z+2,0,none⟩),ag (some ⟨x.z+3,0,none⟩),aj k.last,ag (some ⟨k0,0,none⟩),ag (some ⟨y,0,none⟩),aj false,aj true,aj true,ag (some ⟨x.p,0,none⟩),ag (some ⟨x.p,0,none⟩),ag (some ⟨x.p,2,none⟩),ae ak 0,aj true,aj true,ag (some ⟨x.p,0,none⟩),ai V,ag (some ⟨k0,1,none⟩),aj k.last,ag (some ⟨x.p,0,none⟩),ai V,.func (.func 159) #[] #[ag (some ⟨W3.heap.size,0,none⟩),ag (some ⟨W3.heap.size+1,0,none⟩)],ai #[ae .u8 (t.x:Int),ae ak t.d,ae ak t.n],u 27,u 28,u 29,u 30,u 31,u 32,u 33,u 34,u 35,u 36,u 37,u 38,u 39,u 40,u 41,u 42,u 43,u 44,u 45,u 46,u 47,u 48,u 49,u 50,u 51,u 52],defers:=[]}:=⟨_,rfl⟩
   have c7:=fa cZ;have a5:x.top<=W5.heap.size:=by rw[cb,bH.out];omega
   rw[<-a2];have eg:=fa a2;have cf:=fa cb
   clear a2 al cX cb av cY cZ cW cU dH cT cV;refine SC rfl (by omega) (gf:=159) (lb:=#[ag (some ⟨W3.heap.size,0,none⟩),ag (some ⟨W3.heap.size+1,0,none⟩)]) rfl trivial (enters_of func159 (by kernel_rfl) rfl)
    yE (fun _=>rfl) (uz g x k C1 C2 u1 u2 y1 y2 W3.heap.size Gd R (qa+1)) (wz g x k R (qa+1)) (Cz x k C1 C2 u1 u2 y1 y2 W3.heap.size) (uy x k C1 C2 u1 u2 y1 y2 W3.heap.size)
    (uz.own _ _ _ _ _ _ _ _ _ _ _ _ _ _ a5) (uy.own _ _ _ _ _ _ _ _ _ _ a5) (wz.own _ _ _ _ _ _ a5)
    (fun lY X W hX hY hD hI hx=>VT _ (by omega) g x cA.out a1 k cL dy dz C1 C2 u1 u2 y1 y2 W3.heap.size Gd dA.out R (qa+1) lY X W5.heap.size (by rw[cf.out];omega) hX hY W hD hI hx)
    dM.out
    (fun s a₁ W=>∃y:Nat,a₁=fr y s.t/\x.z+4<=y/\fg W y #[ae .u8 (s.t.x:Int),ae ak s.t.d,ae ak s.t.n] 36/\Cz x k C1 C2 u1 u2 y1 y2 W3.heap.size s W)
    (fun a₁ s W W' row h hg hr=>by
     obtain⟨y,e1,e2,e3,e4,e5,e6⟩:=h;exact⟨y,e1,e2,qc e3 hg fun r e=>(hr r e).2,e4.grown hg fun r e=>⟨Nat.le_trans a5 (hr r e).1,(hr r e).2⟩,e5.grown hg fun r e=>(hr r e).2,e6⟩)
    ?assign ?body ?done
   case assign=>
    intro l s W K hI bD hK;obtain⟨sT,sM,sq,sl,⟨tx,td,tn⟩⟩:=s;have hb:aS W.heap.size W (W.alloc (ao #[ae .u8 (tx:Int),ae ak td,ae ak tn] 36)):=fz.alloc fe _;have a3:=hK (fr W.heap.size ⟨tx,td,tn⟩) _ (KeepsOthers.alloc W (ao #[ae .u8 (tx:Int),ae ak td,ae ak tn] 36)) hb.size ⟨W.heap.size,rfl,by have:=cf.out;have:=bH.out;omega,fg.new W _ _,hI.1.on hb,hI.2.1.fr (Fr.of hb),hI.2.2⟩;rw[c7.out]at a3;have cg:=fa a3;clear a3 hK hb hI;simp only[yE];gi_wp2
    exact cg.out
   case body=>
    rintro l s a₁ W ⟨y,rfl,eh,bt,ad,av,dN⟩;obtain⟨sT,sM,sq,sl,⟨tx,td,tn⟩⟩:=s;obtain⟨bI,bJ,ch,cj,bf,ck⟩:=dN;have bt:fg W y #[ae .u8 (tx:Int),ae ak td,ae ak tn] 36:=bt;have ad:jI x sT sM sq W:=ad;have av:lj x k C1 C2 u1 u2 y1 y2 W3.heap.size sl W:=av;have bf:fH ⟨tx,td,tn⟩=true:=bf;have ch:sM<=x.ff:=ch;have cj:sT.length<=sM:=cj;have bI:sq.2=0:=bI;have bJ:sq.1<=8*x.l:=bJ;have ck:tx<256:=ck;obtain⟨E,hE⟩:=fb (il ⟨tx,td,tn⟩);have dX:0<=td/\td<=32768/\0<=tn/\tn<=258:=by rcases tX bf with h|h<;>(have:=h.1;dsimp only at*;omega)
    have ei:(if tn<1 then(1:Int)else tn)=(E:Int):=by
     rw[hE];unfold il;rcases tX bf with h|h
     ·have h0:tn=0:=h.1;rw[if_pos (show(⟨tx,td,tn⟩:fi).n=0 from h0),if_pos (by omega)];rfl
     ·have h1:3<=tn:=h.2.2.1;rw[if_neg (show¬(⟨tx,td,tn⟩:fi).n=0 by show¬tn=0;omega),if_neg (by omega)];show tn=((tn.toNat:Nat):Int);omega
    have dO:E<=258:=by
     rw[hE];unfold il;split
     ·omega
     ·show tn.toNat<=258;omega
    obtain⟨M2,cm⟩:=fb (sM+E);have dY:(sM:Int)+(E:Int)=(M2:Int):=by omega
    have cn:kE x.ff sM ⟨tx,td,tn⟩ sq=ig (ig sq (decide (td<=(sM:Int))) 60) (decide (M2<=x.ff)) 140:=by rw[cm,hE];rfl
    obtain⟨q3,bu⟩:=fb (ig sq (decide (td<=(sM:Int))) 60);obtain⟨q4,bK⟩:=fb (kE x.ff sM ⟨tx,td,tn⟩ sq);rw[<-bu,<-bK]at cn;have c8:qS x.ff sM sT ⟨tx,td,tn⟩ sq=if q4.2=0 then sT++[⟨tx,td,tn⟩]else sT:=by rw[bK];rfl
    have bO:aR (∀W',KeepsOthers W W'->jI x (if q4.2=0 then sT++[⟨tx,td,tn⟩]else sT) M2 q4 W'->lj x k C1 C2 u1 u2 y1 y2 W3.heap.size sl W'->KeepsOthers W W'/\W.heap.size<=W'.heap.size/\uy x k C1 C2 u1 u2 y1 y2 W3.heap.size ⟨sT,sM,sq,sl,⟨tx,td,tn⟩⟩ W'):=fa (fun W' k1 k2 k3=>⟨k1,k1.size,by
     refine⟨?_,k3,bI,bJ,ch,cj,bf,ck⟩;show jI x (qS x.ff sM sT ⟨tx,td,tn⟩ sq) (sM+il ⟨tx,td,tn⟩) (kE x.ff sM ⟨tx,td,tn⟩ sq) W'
     rw[c8,<-hE,<-cm,<-bK];exact k2⟩)
    have cp:=ad.bp.cell;have cd:=ad.bd.cell;have dP:W.cell? ⟨y,1,none⟩=some (ae ak td):=bt.cell.trans rfl;have cq:=fa (nE W x.p x.A x.l x.c sq ad.jU (decide (td<=(sM:Int))) 60);rw[<-bu]at cq;have c9:=fa bt;have cr:=fa ad;have da:=fa av;have dQ:=fa cn
    clear bt ad av cn c8 bu bK hE cm bI bJ bf;rw[c7.out];gi_wp2_with fail
    refine((callsIn_wide.2 cq.out).inRound l).mono ?_;rintro e w2 ⟨rfl,r2,f2⟩;have db:y≠x.p:=by have:=HP.out;omega
    have ah:=cr.out.step f2 r2;have bP:=fa (da.out.fr f2);have bx:=fa (c9.out.fr f2 (fun(e:y=x.p)=>db e));have bQ:=fa (Jt cr.out.jU f2);have ej:=ah.bd.cell;have ek:=ah.bd.frozen;have en:w2.cell? ⟨y,2,none⟩=some (ae ak tn):=bx.out.cell.trans rfl;obtain⟨U,hU⟩:=fb (w2.setCell ⟨x.z+3,0,none⟩ (ae ak (M2:Int)));have fU:Fr (At (x.z+3)) w2 U:=by rw[hU];exact Fr.cell _ _ _ _
    have bL:∀i,i<3->¬At (x.z+3) (x.z+i):=fun i hi (e:x.z+i=x.z+3)=>by omega
    have bg:jI x sT M2 q3 U:=by
     obtain⟨B',n',b',o'⟩:=ah.row;have dR:=HP.out;refine⟨ah.jU.fr fU (fun(e:x.p=x.z+3)=>by omega),mL ah.bp fU (bL 0 (by omega)),mL ah.bm fU (bL 1 (by omega)),?_,⟨B',n',mL b' fU (bL 2 (by omega)),pz o' fU (fun j (e:j=x.z+3)=>by unfold gu.u;omega)⟩,ah.fr.from fU fun j (e:j=x.z+3)=>.inr (by rw[HP.out.1];omega),fun D hD=>(by
      obtain⟨d1,d2,d3⟩:=ah.rM D hD;exact⟨d1,d2,(fU.block D (Array.getElem?_eq_some_iff.1 d3).1 (fun(e:D=x.z+3)=>Cx d3 ah.bd e)).trans d3⟩)⟩
     rw[hU];exact Boxed.set _ ah.bd
    have bR:lj x k C1 C2 u1 u2 y1 y2 W3.heap.size sl U:=by
     have bj:=bP.out;have hle:=bj.le;unfold gu.u at hle;refine⟨mL bj.bp fU (fun(e:W3.heap.size=x.z+3)=>by omega),bj.bk.fr fU (fun(e:W3.heap.size+1=x.z+3)=>by omega),bj.o1.fr fU (fun j (e:j=x.z+3)=>by unfold gu.u;omega),bj.o2.fr fU (fun j (e:j=x.z+3)=>by unfold gu.u;omega),bj.le⟩
    have bS:fg U y #[ae .u8 (tx:Int),ae ak td,ae ak tn] 36:=bx.out.fr fU (fun(e:y=x.z+3)=>by omega);have bT:aR (KeepsOthers W U):=fa (bQ.out.trans (by rw[hU];exact KeepsOthers.setCell _ _ _));have dc:=bg.bp.cell;have dd:=bg.bd.cell;have de:=bg.bm.cell;have eo:=ah.bp.cell;have ep:=ah.bm.cell;have ct:=fa fun b=>nE U x.p x.A x.l x.c q3 bg.jU b 140
    rw[hU]at dc dd de;have HU:=fa hU;have cu:=fa bg;have bU:=fa bR;have bV:=fa bS
    clear r2 f2 ah bP bx da c9 cr cq hU fU bL bg bR bS bQ cp cd dP;gi_wp2_with fail
    rw[<-HU.out];refine((callsIn_wide.2 (ct.out _)).inRound l).mono ?_;rintro e w4 ⟨rfl,r4,f4⟩;have bz:fx w4 x.p x.A x.l x.c q4:=by rw[dQ.out];simpa using r4
    have aT:=cu.out.step f4 bz;have aU:=bU.out.fr f4;have cv:=bV.out.fr f4 (fun(e:y=x.p)=>db e);have a6:=bT.out.trans (Jt cu.out.jU f4);have er:w4.cell? ⟨x.p,2,none⟩=some (ae ak q4.2):=bz.e;have et:=aT.bp.cell;by_cases he:q4.2=0
    ·have d4:(q4.2==0)=true:=by rw[he];rfl
     obtain⟨B4,n4,b4,o4⟩:=aT.row;have dS:=b4.cell;have bW:x.u<=w4.heap.size:=by
      have h1:=b4.lt;have h2:=aT.bd.lt;unfold gu.u;omega
     obtain⟨A',c',w5,bX,bA,al,bB,bY⟩:=Jr w4 x.u B4 sT.length n4 sT o4 ⟨tx,td,tn⟩ (by omega) bW;have eu:w5.cell? ⟨x.z+2,0,none⟩=some (af B4 sT.length n4):=by rw[al.cell (p:=⟨x.z+2,0,none⟩) (by show x.z+2<x.u;unfold gu.u;omega)];exact dS
     have a7:Boxed w5 (x.z+2) 60 (af B4 sT.length n4):=(al.block (x.z+2) (by unfold gu.u;omega)).trans b4;have ev:=a7.frozen;obtain⟨Y,hY⟩:=fb (w5.setCell ⟨x.z+2,0,none⟩ (af A' (sT.length+1) c'));have fY:Fr (At (x.z+2)) w5 Y:=by rw[hY];exact Fr.cell _ _ _ _
     have dg:=al.size;have dR:=HP.out;have bZ:(sT++[(⟨tx,td,tn⟩:fi)]).length=sT.length+1:=by simp
     have dh:jI x (sT++[⟨tx,td,tn⟩]) M2 q4 Y:=by
      have lo:∀{g:Nat} {v:ay} {t:aC},Boxed w4 g t v->g<x.u->g≠x.z+2->Boxed Y g t v:=fun{g v t} h h1 h2=>mL ((al.block g h1).trans h:Boxed w5 g t v) fY (fun(e:g=x.z+2)=>h2 e)
      refine⟨?_,lo aT.bp (by unfold gu.u;omega) (by omega),lo aT.bm (by unfold gu.u;omega) (by omega),lo aT.bd (by unfold gu.u;omega) (by omega),⟨A',c',?_,?_⟩,?_,fun D hD=>(by
       obtain⟨d1,d2,d3⟩:=aT.rM D hD;have d4:=bB.same D _ d3 rfl;exact⟨d1,d2,(fY.block D (Array.getElem?_eq_some_iff.1 d4).1 (fun(e:D=x.z+2)=>Cx d4 a7 e)).trans d4⟩)⟩
      ·exact fg.fr (fg.below bz al (by unfold gu.u;omega)) fY (fun(e:x.p=x.z+2)=>by omega)
      ·rw[hY,bZ];exact Boxed.set _ a7
      ·rw[bZ];exact pz bA fY (fun j (e:j=x.z+2)=>by unfold gu.u;omega)
      ·exact(aT.fr.low al (by rw[HP.out.1];unfold gu.u;omega)).from fY fun j (e:j=x.z+2)=>.inr (by rw[HP.out.1];omega)
     have di:lj x k C1 C2 u1 u2 y1 y2 W3.heap.size sl Y:=by
      have hle:=aU.le;unfold gu.u at hle;have hi:∀{j:Nat} {cs:Array ay} {t:aC},w4.heap[j]?=some (ao cs t (0,0))->(36==t)=false->w5.heap[j]?=w4.heap[j]?:=fun{j cs t} h ht=>bY j (Array.getElem?_eq_some_iff.1 h).1 (me o4 h ht)
      have ho:∀{v:ay} {ys:List Int},iz w4 x.u v ys->iz Y x.u v ys:=fun{v ys} o=>iz.fr (iB o fun j hj=>by obtain⟨cur,hc⟩:=SR o hj;exact hi hc (by kernel_rfl)) fY (fun j (e:j=x.z+2)=>by unfold gu.u;omega)
      exact⟨mL ((hi aU.bp (by kernel_rfl)).trans aU.bp:Boxed w5 _ _ _) fY (fun(e:W3.heap.size=x.z+2)=>by omega),fg.fr ((hi aU.bk (by kernel_rfl)).trans aU.bk:fg w5 _ _ _) fY (fun(e:W3.heap.size+1=x.z+2)=>by omega),ho aU.o1,ho aU.o2,aU.le⟩
     have aY:=fa (bO.out Y ((a6.trans bB).trans (by rw[hY];exact KeepsOthers.setCell _ _ _)) (by rw[if_pos he];exact dh) di);have dj:=fa bX;have HY:=fa hY;have dT:=fa cv
     clear r4 f4 bz aT aU cv a6 he b4 o4 bX bA al bB bY a7 fY dh di hY ct bW dg cu bU bV bT dc dd de;gi_wp2_with (first
      |(refine rB rfl _ _ rfl y rfl _ #[ae .u8 (tx:Int),ae ak td,ae ak tn] (0,0) _ dT.out underlying36 rfl mT ?_)
      |(gi_at_builtin;refine AN rfl (.tmp 48) (.tmp 50) 60 rfl (af B4 sT.length n4) (af (some ⟨w4.heap.size,0,none⟩) 1 1) (af A' (sT.length+1) c') w5 rfl rfl dj.out ?_))
     rw[<-HY.out];exact⟨aY.out.1,by have h1:=aY.out.2.1;have h2:Y.heap.size=w5.heap.size:=by {rw[HY.out];simp[World.setCell]};omega,aY.out.2.2⟩
    ·have d4:(q4.2==0)=false:=beq_eq_false_iff_ne.2 he;have aY:=fa (bO.out w4 a6 (by rw[if_neg he];exact aT) aU);clear r4 f4 bz aT aU cv a6 he ct;gi_wp2
     exact aY.out
   case done=>
    rintro D W hD ⟨T2,M2,q3,aV,b0⟩ hK;have dU:D<W.heap.size:=(Array.getElem?_eq_some_iff.1 hK).1;have ew:=x.tok;have dZ:=cf.out;have ea:=bH.out;have dk:∀D'∈D::x.ds,x.z<=D'/\D'<W.heap.size/\W.heap[D']?=some (.deferred (some [])):=fun D' dV=>by
     rcases List.mem_cons.1 dV with e|e
     ·subst e;exact⟨by omega,dU,hK⟩
     ·obtain⟨d1,d2,d3⟩:=aV.rM D' e;exact⟨d1,by omega,d3⟩
    have dm:(D::x.ds).Nodup:=List.nodup_cons.2 ⟨fun e=>by have:=(aV.rM D e).2.1;omega,cD.out⟩;have n1:W.cell? ⟨x0.p,1,none⟩=some (ae ak (q3.1:Int)):=by rw[<-HE.out.2.1];exact aV.jU.a
    have n2:W.cell? ⟨x0.p,2,none⟩=some (ae ak q3.2):=by rw[<-HE.out.2.1];exact aV.jU.e
    have o1:wr.cell? ⟨x0.p,1,none⟩=some (ae ak (qa:Int)):=by rw[<-HE.out.2.1];exact dD.out
    have o2:wr.cell? ⟨x0.p,2,none⟩=some (ae ak 0):=by rw[<-HE.out.2.1];exact dE.out
    simp only[Exit.inBlock];refine⟨⟨⟨x.w0,x.p,x.A,x.l,x.c,x.z,x.ff,D::x.ds,W.heap.size,x.ok,by omega⟩,T2,M2,q3,k.last,HE.out,⟨by rw[cE.out];rfl,rfl,rfl,rfl,rfl,rfl,rfl,rfl,rfl,rfl⟩,aV.move _ _ _ dk,Nat.le_refl _,by show x.z+4<=W.heap.size;omega,dm,?_⟩,?_⟩
    ·rcases b0 with h|⟨h,_⟩
     ·exact .inr (.inl h)
     ·cases cw:k.last
      ·rw[cw,if_neg (by decide)]at h;exact .inl ⟨rfl,h⟩
      ·rw[cw,if_pos rfl]at h;exact .inr (.inr ⟨rfl,h⟩)
    ·show(match (Value.bool k.last),W.cell? ⟨x0.p,1,none⟩,W.cell? ⟨x0.p,2,none⟩with|aj false,some (ae ak a),some (ae ak e)=>if e=0 then 8*x0.l+1-a.toNat else 0|_,_,_=>0)<(match (Value.bool false),wr.cell? ⟨x0.p,1,none⟩,wr.cell? ⟨x0.p,2,none⟩with|aj false,some (ae ak a),some (ae ak e)=>if e=0 then 8*x0.l+1-a.toNat else 0|_,_,_=>0)
     rw[n1,n2,o1,o2];have ey:qa<=8*x0.l:=by have:=bF.out.place;rw[HE.out.2.2.2.1]at this;exact this
     have dn:(if(0:Int)=0 then 8*x0.l+1-(qa:Int).toNat else 0)=8*x0.l+1-qa:=by rw[if_pos rfl,Int.toNat_natCast]
     cases cw:k.last
     ·show(if q3.2=0 then 8*x0.l+1-(q3.1:Int).toNat else 0)<(if(0:Int)=0 then 8*x0.l+1-(qa:Int).toNat else 0)
      rw[dn];split
      ·rename_i bu;rcases b0 with h|⟨_,h⟩
       ·exact absurd bu h.err
       ·omega
      ·omega
     ·show 0<(if(0:Int)=0 then 8*x0.l+1-(qa:Int).toNat else 0)
      rw[dn];omega
  ·have bC:nO x.ff R T q\/rK x.ff R T q:=by
    rcases HI.out with h|h|h
    ·exact absurd ⟨h.1,h.2.err⟩ aW
    ·exact .inl h
    ·exact .inr h.2
   have bM:=HC.out.rM;have dp:aR (∀tmps:Array ay,tmps.getD 4 undef=af B T.length n->LeavesInM Fence.wide 9 prog Tryz.f77 tmps (fun e w'=>CB x0 R e w') (ds.map yF) .returning wr):=fa (fun tmps ht=>by
    rw[cE.out];refine Ju (fun W=>fx W x.p x.A x.l x.c q/\Fr (At x.p) x.w0 W/\W.ownsRow x.u 36 3 (af B T.length n) T.length (Vt T)) x.z ?_ ?_ x.ds wr ⟨HC.out.jU,HC.out.fr,a4⟩ (fun D hD=>⟨(bM D hD).1,(bM D hD).2.2⟩) cD.out
    ·rintro _ W W' row ⟨h1,h2,h3⟩ hg hr;exact⟨qc h1 hg fun r e=>(hr r e).2,h2.grown hg fun r e=>by rw[x.ok.1];exact(hr r e).1,ri h3 hg fun r e=>(hr r e).2⟩
    ·rintro W ⟨h1,h2,h3⟩;exact⟨_,(by {have dW:tmps[4]?.getD undef=af B T.length n:=(by simpa using ht);simp[results,Tryz.results77,go_sem,dW]}),dw.out W B n h1 h2 h3 bC⟩)
   cases lb
   ·have a8:¬q.2=0:=fun e=>aW ⟨rfl,e⟩
    have d0:(q.2==0)=false:=beq_eq_false_iff_ne.2 a8;clear aW bC bM a4 bE;gi_wp2
    refine dp.out _ ?_;rfl
   ·clear aW bC bM a4 bE;gi_wp2
    refine dp.out _ ?_;rfl
end Go.Proofs.YtgokdgcmkcmjeaaGreat
