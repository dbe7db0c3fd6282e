/-
  Words and walks.
-/
import Derived.Test.YtgokdgcmkcmjeaaGreatqkaa
import Derived.Test.YtgokdgcmkcmjeaaGreatqkae
import Derived.Test.YtgokdgcmkcmjeaaGreatqkan
set_option maxRecDepth 100000
set_option maxHeartbeats 16000000
namespace Go.Proofs.YtgokdgcmkcmjeaaGreat
open Value renaming int → ae, slice → af, pointer → ag, bool → aj
open IntKind renaming i64 → ak
open Obj renaming cells → ao
open Ending renaming returned → aq
open Go renaming World → au, Addr → aw, Calls → ax, Value → ay, wpList_store_rowTo → aD, wpList_buildTo → aE, wpList_load_mid → aG, heap_alloc_new → aH, cell_of_row → aI
open Go.RowKit renaming intOf → aQ, Hid → aR, Below → aS
open _root_.Go.Proofs.Tryz
open Go.RowKit Go.ChangeShapes Go.WideShapes Go.ChangeAt Go.Joins
theorem T9{C:au->Prop}{K:Act->Prop}{a:Act}{o:Oper}(f:FuncId)(r:ay)(x:Operand)(xs:Array Operand)(ts:Array TypeId)(ho:o.op=.call {callee:=.value x,args:=xs,argTypes:=ts})(d:Option Tmp)(hd:o.dst=d)(hv:a.eval x=.func (.func f) #[r] #[])
  (eg:∀args w,(callFunc f args).run prog w=.ok (.enter f args) w) (args:Array ay) (hx:#[r]++xs.map a.eval=args) (v:ay) (hc:∀w,C w->ax prog f args w fun e w'=>e=aq v/\C w') (hk:K (a.put d v)):o.quiet prog a C K:=by
 subst hd
 have ad:∀(ρ:Operand->ay) (w:au),ρ x=.func (.func f) #[r] #[]->#[r]++xs.map ρ=args->(execOp ρ o).run prog w=.ok (.enter f args) w:=by
  intro ρ w h1 h2;simp[execOp,ho,resolve,invoke,h1,h2,go_sem,eg,Deferred.ofValue]
 exact⟨v,fun w hw=>by unfold Oper.quietAt;rw[ad _ w hv hx];exact⟨rfl,hc w hw⟩,hk⟩
theorem jD.kept{S:Nat->Prop}{w w':au}{g n:Nat}{x l:Nat->Nat}(h:jD w g n x l)(hk:fC S w w')(hS:S g):jD w' g n x l:=by
 obtain⟨cur,h1,h2⟩:=h;exact⟨cur,(hk g hS).trans h1,h2⟩
theorem jX.CO{S:Nat->Prop}{w w':au}{B:Nat}{A:Option aw}{l:List (Int×Int)}(h:jX w B A l)(hk:fC S w w'){b o:Nat}(hA:A=some ⟨b,o,none⟩)(hS:S b){j:Nat}(hj:j<l.length):w'.rangeAt b (o+j*2) (kQ (l.getD j ka)):=
 fun i v hv=>(hk.cell (p:=⟨b,o+j*2+i,none⟩) hS).trans (h.range hA hj i v hv)
theorem Ua(w:au)(S:Nat->Prop)(B g:Nat)(f:Nat->Nat)(K:Nat)(A2:Option aw)(m c2:Nat)(l:List (Int×Int))(F:Nat->Nat)(gk ck:Nat)(h:gq w S B g f K)(hm:m=l.length)(hr:jX w w.heap.size A2 l)(hS:pq S A2 m)(b2:m<=1000)
  (bu:jD w gk 19 (gG F 19) F) (bx:S gk) (hF:fD F 19 15=0) (hl:∀r∈l,0<=r.1/\r.1<=18/\0<=r.2/\pj (r.2.toNat,(iR r.1).toNat)) (hk:K+UQ (l.flatMap (gS F))<=16000000):
  ax prog 129 #[ag (some ⟨g,0,none⟩),af A2 m c2,.func (.func 49) #[af (some ⟨gk,0,none⟩) 19 ck] #[]] w fun e w'=>e=aq (.tuple #[])/\gq w' S B g (fE f K (l.flatMap (gS F))) (K+UQ (l.flatMap (gS F)))/\fC S w w'/\aS B w w':=by
 have H:=fa h;have HM:=fa hm;have HR:=fa hr;have HS:=fa hS;have bK:=fa bu;have bL:=fa bx;have HF:=fa hF;have HL:=fa hl;have HK:=fa hk
 clear h hm hr hS bu bx hF hl hk
 go_enter func129,ntmps129
 go_wp2_with fail
 go_loopw [12] (fun iv wr=>∃i:Nat,i<=m/\iv=ae ak (i:Int)/\aR (gq wr S B g (fE f K ((l.take i).flatMap (gS F))) (K+UQ ((l.take i).flatMap (gS F))))/\aR (fC S w wr)/\aR (aS B w wr)) (fun iv _=>m-(aQ iv).toNat)
 case atStart=>exact⟨0,Nat.zero_le _,rfl,fa H.out,fa (fC.refl _ _),fa fz⟩
 case round=>
  obtain⟨i,hi,rfl,a5,a6,HB⟩:=hrel;by_cases bM:i<m
  ·have bz:(i:Int)<(m:Int):=by omega
   have a7:i<l.length:=by rw[<-HM.out];exact bM
   obtain⟨b,o,rfl,bN,hc⟩:=HR.out.at a7;have bA:S b:=HS.out b o (by omega) rfl;have bl:=HR.out.CO a6.out rfl bA a7;obtain⟨s0,bn,x0,ah⟩:=HL.out _ (Ed a7);have ad:=LG (F:=F) a7;have hle:UQ ((l.take (i+1)).flatMap (gS F))<=UQ (l.flatMap (gS F)):=by
    have e:l.flatMap (gS F)=(l.take (i+1)).flatMap (gS F)++(l.drop (i+1)).flatMap (gS F):=by rw[<-List.flatMap_append,List.take_append_drop]
    rw[e,gm];omega
   obtain⟨⟨s,x⟩,ht⟩:∃t,t=l.getD i ka:=⟨_,rfl⟩;rw[<-ht]at bl s0 bn x0 ah ad;dsimp only at s0 bn x0 ah;obtain⟨q,rfl⟩:=Int.eq_ofNat_of_zero_le s0;obtain⟨y,rfl⟩:=Int.eq_ofNat_of_zero_le x0;have aU:iR ((q:Nat):Int)=((fI (q:Int):Nat):Int):=by unfold iR;rw[if_pos (by omega)]
   obtain⟨bb,bq⟩:=fb (fI (q:Int));rw[<-bq]at aU;have bO:bb<=7:=by rw[bq];exact zI _
   rw[aU,Int.toNat_natCast,Int.toNat_natCast]at ah;have hy:y<128:=by
    have:=ah.1;have e:(2:Nat)^bb<=2^7:=Nat.pow_le_pow_right (by omega) bO;have e2:(2:Nat)^7=128:=rfl;dsimp only at this;omega
   have bB:gS F ((q:Int),(y:Int))=[iG F 19 q,(y,bb)]:=by unfold gS;rw[aU,Int.toNat_natCast,Int.toNat_natCast,Int.toNat_natCast]
   rw[bB]at ad;obtain⟨⟨Z,Y⟩,aV⟩:∃t,t=iG F 19 q:=⟨_,rfl⟩;obtain⟨G,hG⟩:=fb (fE f K ((l.take i).flatMap (gS F)));obtain⟨k,a8⟩:=fb (K+UQ ((l.take i).flatMap (gS F)));have aW:=a5.out;rw[<-hG,<-a8]at aW;obtain⟨W3,a9⟩:=fb (gi wr #[ae ak 0,ae ak 0] #[ae ak (q:Int),ae ak (y:Int)] 208);have aX:aS wr.heap.size wr W3:=by rw[a9];exact km _ _ _ _
   have av:W3.heap[wr.heap.size]?=some (ao #[ae ak (q:Int),ae ak (y:Int)] 208 (0,0)):=by rw[a9];exact kO wr _ _ _
   have br:wr.heap.size<W3.heap.size:=(Array.getElem?_eq_some_iff.1 av).1;have y0:W3.cell? ⟨wr.heap.size,0,none⟩=some (ae ak (q:Int)):=(aI W3 _ 0 _ _ (0,0) av).trans rfl;have y1:W3.cell? ⟨wr.heap.size,1,none⟩=some (ae ak (y:Int)):=(aI W3 _ 1 _ _ (0,0) av).trans rfl;have bt:=fun V:au=>Gr V ((q:Nat):Int)
   rw[aU]at bt;have aY:pj (Z,Y):=by
    obtain⟨h1,h2⟩:=Cp HF.out (show q<19 by omega);rw[aV];exact⟨tg _ _,by show F q<=16;omega⟩
   have bf:k+UQ [(Z,Y),(y,bb)]=K+UQ ((l.take (i+1)).flatMap (gS F)):=by rw[ad,gm,a8,aV];omega
   have bg:fE G k [(Z,Y),(y,bb)]=fE f K ((l.take (i+1)).flatMap (gS F)):=by rw[ad,ku,hG,a8,aV]
   have bP:k+UQ [(Z,Y),(y,bb)]<=16000000:=by have:=HK.out;omega
   have aZ:=bK.out.kept a6.out bL.out;have bQ:gk<wr.heap.size:=aZ.lt;have bC:=aW.top;have aT:=fa (aW.after aX);have bj:=fa (a6.out.tr (fC.below bC aX));have bD:=fa (HB.out.trans (aX.mono aW.size));have a1:=fa (aZ.below aX bQ);have bR:=fa a9;have bS:=fa (show wr.rangeAt b (o+i*2) [ae ak (q:Int),ae ak (y:Int)]from bl)
   have bT:=fa bt;have bU:=fa aY;have bV:=fa bf;have bW:=fa bg;have bX:=fa aV;have bY:=fa ah
   have bE:q<19:=by omega
   have b3:(bb:Int)<=7:=by omega
   clear bl aX av a9 bt aY bf bg aV ah aW aZ bC ad hle ht hc bN bA s0 bn x0 aU bq bB hG a8 a5;go_wp2_with (first
    |refine aG rfl _ _ rfl b (o+i*2) rfl [ae ak (q:Int),ae ak (y:Int)] _ bS.out underlying208 rfl jy ?_
    |(refine aD rfl _ _ _ rfl rfl wr.heap.size #[ae ak (q:Int),ae ak (y:Int)] rfl rfl 208 #[ae ak 0,ae ak 0] (aH wr _) jy rfl (by simp[Value.oneCell']) ?_;change wpList _ _ _ _ _ (gi wr #[ae ak 0,ae ak 0] #[ae ak (q:Int),ae ak (y:Int)] 208);rw[<-bR.out])
    |fail)
   refine(bT.out W3).mono ?_;rintro e w4 ⟨rfl,al⟩;have bF:wr.heap.size<w4.heap.size:=by have:=al.size;omega
   have x0:∀p:kN w4.heap.size w4,p.w.cell? ⟨wr.heap.size,0,none⟩=some (ae ak (q:Int)):=fun p=>(p.h.cell (p:=⟨wr.heap.size,0,none⟩) bF).trans ((al.cell (p:=⟨wr.heap.size,0,none⟩) br).trans y0)
   have x1:∀p:kN w4.heap.size w4,p.w.cell? ⟨wr.heap.size,1,none⟩=some (ae ak (y:Int)):=fun p=>(p.h.cell (p:=⟨wr.heap.size,1,none⟩) bF).trans ((al.cell (p:=⟨wr.heap.size,1,none⟩) br).trans y1)
   have a2:=a1.out.below al a1.out.lt;have T1:aR (∀V,aS w4.heap.size w4 V->ax prog 49 #[af (some ⟨gk,0,none⟩) 19 ck,ae ak (q:Int)] V fun e w'=>e=aq (.agg #[ae .u32 (Z:Int),ae ak (Y:Int)])/\aS w4.heap.size w4 w'):=fa fun V hV=>by
    have h1:=I7 V gk 19 ck F q (a2.below hV a2.lt) HF.out bE (by omega);rw[<-bX.out]at h1;exact h1.mono fun _ _ ⟨e,b⟩=>⟨e,hV.trans (b.mono hV.size)⟩
   have a3:=fa (aT.out.after al);have bG:=fa (bj.out.tr (fC.below aT.out.top al));have bZ:=fa (bD.out.trans (al.mono aT.out.size))
   clear al y0 y1 br a2 aT bj bD a1;go_wp2;refine D1 9 w4.heap.size w4 fz (by kernel_rfl) (by kernel_rfl) (.tmp 0) (ag (some ⟨g,0,none⟩)) rfl (some 22) rfl rfl rfl rfl (by kernel_rfl) (fun _ _ _ h=>h) ?_;simp only[List.take_succ_cons,List.take_zero,List.drop_succ_cons,List.drop_zero,Act.put,List.setIfInBounds_toArray,List.set_cons_zero,List.set_cons_succ];repeat (first
    |(go_big_quiet_want;refine Lu 146 #[(0,.tmp 29),(1,.tmp 30)] rfl (some 31) rfl #[ae .u32 (y:Int),ae ak (bb:Int)] (by simpa[Act.eval]using ks (y:Int) (bb:Int)) ?_;go_big_quiet_on;simp only[Act.put,List.setIfInBounds_toArray,List.set_cons_zero,List.set_cons_succ])
    |(go_big_quiet_want;refine T9 49 (af (some ⟨gk,0,none⟩) 19 ck) (.tmp 23) #[.tmp 25] #[3] rfl (some 26) rfl (by simp[Act.eval]) (enters_of func49 (by kernel_rfl) rfl) #[af (some ⟨gk,0,none⟩) 19 ck,ae ak (q:Int)] (by simp[Act.eval]) (.agg #[ae .u32 (Z:Int),ae ak (Y:Int)]) (fun V ⟨p,hp⟩=>by rw[hp];exact mP T1.out p) ?_;go_big_quiet_on;simp only[Act.put,List.setIfInBounds_toArray,List.set_cons_zero,List.set_cons_succ])
    |(go_big_quiet_step (fail)))
   refine wpQuiet_nil ?_;rintro V ⟨⟨V,hV⟩,rfl⟩;have bH:=a3.out.after hV;have a4:=nN V S B g G k [(Z,Y),(y,bb)] 2 rfl #[ae .u32 (Z:Int),ae ak (Y:Int),ae .u32 (y:Int),ae ak (bb:Int)] rfl bH (by omega) (fun z hz=>by
    simp only[List.mem_cons,List.not_mem_nil,or_false]at hz;rcases hz with rfl|rfl
    ·exact bU.out
    ·exact bY.out) bP
   rw[bV.out,bW.out]at a4;have bI:=fa a4;have bJ:=fa (bG.out.tr (fC.below a3.out.top hV));have b0:=fa (bZ.out.trans (hV.mono a3.out.size))
   clear a4 bH hV x0 x1 T1;go_wp2_with fail
   refine bI.out.mono ?_;rintro e w5 ⟨rfl,h1,h2,h3⟩;have H1:=fa h1;have H2:=fa (bJ.out.tr h2);have H3:=fa (b0.out.trans h3)
   clear h1 h2 h3;go_wp2;go_roundw
   case rel=>exact⟨i+1,by omega,by go_num,H1,H2,H3⟩
   case measure=>simp[aQ];omega
  ·obtain rfl:i=m:=by omega
   have bz:¬(i:Int)<(i:Int):=by omega
   have hr:=a5.out;rw[HM.out,List.take_length]at hr;have b1:=fa hr;clear hr a5;go_wp2;go_end0;exact⟨rfl,b1.out,a6.out,HB.out⟩
theorem j5.CO{S:Nat->Prop}{w w':au}{B:Nat}{A:Option aw}{l:List fi}(h:j5 w B A l)(hk:fC S w w'){b o:Nat}(hA:A=some ⟨b,o,none⟩)(hS:S b){j:Nat}(hj:j<l.length):w'.rangeAt b (o+j*3) (gY (l.getD j gH)):=
 fun i v hv=>(hk.cell (p:=⟨b,o+j*3+i,none⟩) hS).trans (h.range hA hj i v hv)
structure pE (w:au) (S:Nat->Prop) (g n:Nat) (F:Nat->Nat):Prop where
 row:jD w g n (gG F n) F
 ins:S g
 CP:fD F n 15=0
theorem pE.kept{S:Nat->Prop}{w w':au}{g n:Nat}{F:Nat->Nat}(h:pE w S g n F)(hk:fC S w w'):pE w' S g n F:=⟨h.row.kept hk h.ins,h.ins,h.CP⟩
theorem pE.of{S:Nat->Prop}{w:au}{g n:Nat}{F:Nat->Nat}(h:pE w S g n F)(c i:Nat)(hi:i<n)(hn:n<=1000000)(Z Y:Nat)(hZ:iG F n i=(Z,Y)):
  ax prog 49 #[af (some ⟨g,0,none⟩) n c,ae ak (i:Int)] w fun e w'=>e=aq (.agg #[ae .u32 (Z:Int),ae ak (Y:Int)])/\aS w.heap.size w w':=by
 have h1:=I7 w g n c F i h.row h.CP hi hn
 rw[hZ]at h1
 exact h1
theorem pE.fit{S:Nat->Prop}{w:au}{g n:Nat}{F:Nat->Nat}(h:pE w S g n F){i:Nat}(hi:i<n):pj (iG F n i):=by
 obtain⟨_,h2⟩:=Cp h.CP hi;exact⟨tg _ _,by show F i<=16;omega⟩
theorem Ub{F G:Nat->Nat}{n k:Nat}{l:List fi}{i:Nat}(h:i<l.length):(l.take (i+1)).flatMap (gT F n G k)=(l.take i).flatMap (gT F n G k)++gT F n G k (l.getD i gH):=by
 rw[VO h,List.flatMap_append];simp
theorem Uc{F G:Nat->Nat}{n k:Nat}(l:List fi)(i:Nat):UQ ((l.take i).flatMap (gT F n G k))<=UQ (ix F n G k l):=by
 have e:l.flatMap (gT F n G k)=(l.take i).flatMap (gT F n G k)++(l.drop i).flatMap (gT F n G k):=by rw[<-List.flatMap_append,List.take_append_drop]
 unfold ix;rw[e,gm,gm];omega
theorem Ud(w:au)(S:Nat->Prop)(B g:Nat)(f:Nat->Nat)(K:Nat)(A2:Option aw)(m c2:Nat)(l:List fi)(F:Nat->Nat)(ga n ca:Nat)(G:Nat->Nat)(gb k cb:Nat)(h:gq w S B g f K)(hm:m=l.length)(hr:j5 w w.heap.size A2 l)(hS:pq S A2 m)(c8:m<=1000000)
  (ha:pE w S ga n F) (hb:pE w S gb k G) (hn:n<=1000) (c9:k<=1000) (bS:256<n) (b8:∀t∈l,fH t=true/\t.x<256) (b9:∀t∈l,iP t<n/\(t.n≠0->kl t<k)) (hk:K+UQ (ix F n G k l)<=16000000):
  ax prog 47 #[ag (some ⟨g,0,none⟩),af A2 m c2,.func (.func 49) #[af (some ⟨ga,0,none⟩) n ca] #[],.func (.func 49) #[af (some ⟨gb,0,none⟩) k cb] #[]] w fun e w'=>e=aq (.tuple #[])/\gq w' S B g (fE f K (ix F n G k l)) (K+UQ (ix F n G k l))/\fC S w w'/\aS B w w':=by
 have H:=fa h;have HM:=fa hm;have HR:=fa hr;have HS:=fa hS;have HA:=fa ha;have cf:=fa hb;have cL:=fa b8;have cM:=fa b9;have HK:=fa hk
 clear h hm hr hS ha hb b8 b9 hk
 go_enter func47,ntmps47
 go_wp2_with fail
 go_loopw [16] (fun iv wr=>∃i:Nat,i<=m/\iv=ae ak (i:Int)/\aR (gq wr S B g (fE f K ((l.take i).flatMap (gT F n G k))) (K+UQ ((l.take i).flatMap (gT F n G k))))/\aR (fC S w wr)/\aR (aS B w wr)) (fun iv _=>m-(aQ iv).toNat)
 case atStart=>exact⟨0,Nat.zero_le _,rfl,fa H.out,fa (fC.refl _ _),fa fz⟩
 case round=>
  obtain⟨i,hi,rfl,bB,bC,HB⟩:=hrel;by_cases cN:i<m
  ·have cg:(i:Int)<(m:Int):=by omega
   have bl:i<l.length:=by rw[<-HM.out];exact cN
   obtain⟨b,o,rfl,cO,hc⟩:=HR.out.at bl;have ch:S b:=HS.out b o (by omega) rfl;have bY:=HR.out.CO bC.out rfl ch bl;have bn:l.getD i gH∈l:=by rw[List.getD_eq_getElem?_getD,List.getElem?_eq_getElem bl];exact List.getElem_mem bl
   obtain⟨a9,bq⟩:=cL.out _ bn;obtain⟨aZ,br⟩:=cM.out _ bn;have aY:=Ub (F:=F) (G:=G) (n:=n) (k:=k) bl;have hle:=Uc (F:=F) (G:=G) (n:=n) (k:=k) l (i+1);obtain⟨t,ht⟩:=fb (l.getD i gH);rw[<-ht]at bY a9 bq aZ br aY;obtain⟨Q,hQ⟩:=fb (fE f K ((l.take i).flatMap (gT F n G k)));obtain⟨q,hq⟩:=fb (K+UQ ((l.take i).flatMap (gT F n G k)));have bt:=bB.out;rw[<-hQ,<-hq]at bt;have ah:q+UQ (gT F n G k t)=K+UQ ((l.take (i+1)).flatMap (gT F n G k)):=by rw[aY,gm,hq];omega
   have al:fE Q q (gT F n G k t)=fE f K ((l.take (i+1)).flatMap (gT F n G k)):=by rw[aY,ku,hQ,hq]
   have aW:q+UQ (gT F n G k t)<=16000000:=by have:=HK.out;omega
   obtain⟨W3,bD⟩:=fb (gi wr #[ae .u8 0,ae ak 0,ae ak 0] (gY t).toArray 36);have bE:aS wr.heap.size wr W3:=by rw[bD];exact km _ _ _ _
   have a1:W3.heap[wr.heap.size]?=some (ao (gY t).toArray 36 (0,0)):=by rw[bD];exact kO wr _ _ _
   have bZ:wr.heap.size<W3.heap.size:=(Array.getElem?_eq_some_iff.1 a1).1;obtain⟨S',bF⟩:∃S':Nat->Prop,S'=fun j=>S j\/(wr.heap.size<=j/\j<W3.heap.size):=⟨_,rfl⟩
   have cj:∀j,S j->S' j:=fun j hj=>by rw[bF];exact .inl hj
   have ck:S' wr.heap.size:=by rw[bF];exact .inr ⟨Nat.le_refl _,bZ⟩
   have bT:gq W3 S' B g Q q:=by rw[bF];exact bt.grow bE
   have y0:W3.cell? ⟨wr.heap.size,0,none⟩=some (ae .u8 (t.x:Int)):=(aI W3 _ 0 _ _ (0,0) a1).trans rfl;have y1:W3.cell? ⟨wr.heap.size,1,none⟩=some (ae ak t.d):=(aI W3 _ 1 _ _ (0,0) a1).trans rfl;have y2:W3.cell? ⟨wr.heap.size,2,none⟩=some (ae ak t.n):=(aI W3 _ 2 _ _ (0,0) a1).trans rfl;have cl:fC S w W3:=bC.out.tr (fC.below bt.top bE);have aV:=fa bT;have aX:=fa cj;have cP:=fa ck;have bG:=fa cl;have b0:=fa (HB.out.trans (bE.mono bt.size));have cm:=fa bD;have cn:=fa bY
   have a2:=fa ah;have a3:=fa al;have cp:=fa a9;have cq:=fa br
   clear bT cj ck cl bE a1 bD bF bt bY ah al hQ hq aY hle ht bn hc cO ch bB;by_cases h0:t.n=0
   ·have cQ:(t.n==0)=true:=by rw[h0];rfl
    have cr:iP t=t.x:=by unfold iP;rw[if_pos h0]
    have aU:gT F n G k t=[iG F n t.x]:=by unfold gT;rw[if_pos h0]
    rw[cr]at aZ;rw[aU]at aW;have ah:=a2.out;have al:=a3.out;rw[aU]at ah al;obtain⟨x,hx⟩:=fb (t.x);rw[<-hx]at aZ aW ah al y0 bq;have a4:=HA.out.fit (i:=x) aZ;obtain⟨⟨Z,Y⟩,hZ⟩:∃t,t=iG F n x:=⟨_,rfl⟩;rw[<-hZ]at aW ah al a4;have bu:=(HA.out.kept bG.out).of ca x aZ (by omega) Z Y hZ.symm;have b1:=fa bu;have a2:=fa ah;have a3:=fa al;have b2:=fa a4
    clear bu ah al a4 hZ hx cr aU cp cq a9 br;go_wp2_with (first|refine aG rfl _ _ rfl b (o+i*3) rfl (gY t) _ cn.out underlying36 rfl mT ?_|refine aD rfl _ _ _ rfl rfl wr.heap.size (gY t).toArray rfl rfl 36 #[ae .u8 0,ae ak 0,ae ak 0] (aH wr _) (sH _) rfl (tY _) ?_;change wpList _ _ _ _ _ (gi wr #[ae .u8 0,ae ak 0,ae ak 0] (gY t).toArray 36);rw[<-cm.out]|fail)
    refine b1.out.mono ?_;rintro e w4 ⟨rfl,av⟩;have ad:=nN w4 S' B g Q q [(Z,Y)] 1 rfl #[ae .u32 (Z:Int),ae ak (Y:Int)] rfl (aV.out.after av) (by omega) (fun z hz=>by
     simp only[List.mem_singleton]at hz;rw[hz];exact b2.out) aW
    rw[a2.out,a3.out]at ad;have aT:=fa ad;have a5:=fa (bG.out.tr ((fC.below aV.out.top av).less aX.out));have bf:=fa (b0.out.trans (av.mono aV.out.size))
    clear ad av y0 y1 y2;go_wp2_with fail
    refine aT.out.mono ?_;rintro e w5 ⟨rfl,h1,h2,h3⟩;have H1:=fa (h1.less aX.out);have H2:=fa (a5.out.tr (h2.less aX.out));have H3:=fa (bf.out.trans h3)
    clear h1 h2 h3;go_wp2;go_roundw
    case rel=>exact⟨i+1,by omega,by go_num,H1,H2,H3⟩
    case measure=>simp[aQ];omega
   ·have cQ:(t.n==0)=false:=by rw[beq_eq_false_iff_ne];exact h0
    obtain⟨bH,bI,_,_⟩:=(mR a9 bq).2.2 h0;obtain⟨bg,bj⟩:=Gv a9 bq h0;obtain⟨_,_,_,_,p1,_,p3,p4⟩:=ta bH;obtain⟨_,_,_,_,q1,_,q3,q4⟩:=tb bI;have b3:=br h0;have eS:gv t.n=((iP t:Nat):Int):=by
     have h5:3<=t.n/\t.n<=258:=uN bH;have:0<=gv t.n:=by unfold gv;rw[if_pos h5];omega
     unfold iP;rw[if_neg h0];omega
    have eD:gE t.d=((kl t:Nat):Int):=by
     have h5:1<=t.d/\t.d<=32768:=wT bI;have:0<=gE t.d:=by unfold gE;rw[if_pos h5];omega
     unfold kl;omega
    have aU:gT F n G k t=[iG F n (gv t.n).toNat,((jK t.n).toNat,(iN t.n).toNat),iG G k (gE t.d).toNat,((jQ t.d).toNat,(jo t.d).toNat)]:=by unfold gT;rw[if_neg h0]
    rw[eS,eD,Int.toNat_natCast,Int.toNat_natCast]at aU;obtain⟨u,eu⟩:=Int.eq_ofNat_of_zero_le p3;obtain⟨v,ev⟩:=Int.eq_ofNat_of_zero_le q3;obtain⟨x1,bJ⟩:=Int.eq_ofNat_of_zero_le p1;obtain⟨x2,bK⟩:=Int.eq_ofNat_of_zero_le q1;have bL:=fun V:au=>Gl V t.n
    have bM:=fun V:au=>Gm V t.d
    rw[eS,eu,bJ,bH]at bL;rw[eD,ev,bK,bI]at bM;rw[bJ,eu,Int.toNat_natCast,Int.toNat_natCast]at bg;rw[bK,ev,Int.toNat_natCast,Int.toNat_natCast]at bj;rw[bJ,eu,bK,ev,Int.toNat_natCast,Int.toNat_natCast,Int.toNat_natCast,Int.toNat_natCast]at aU;have da:x1<65536:=by
     have h1:x1<2^u:=bg.1;have e:(2:Nat)^u<=2^16:=Nat.pow_le_pow_right (by omega) bg.2;have e2:(2:Nat)^16=65536:=rfl;omega
    have db:x2<65536:=by
     have h1:x2<2^v:=bj.1;have e:(2:Nat)^v<=2^16:=Nat.pow_le_pow_right (by omega) bj.2;have e2:(2:Nat)^16=65536:=rfl;omega
    have dc:u<=16:=bg.2;have dd:v<=16:=bj.2;obtain⟨sA,ct⟩:=fb (iP t);obtain⟨sD,bU⟩:=fb (kl t);rw[<-ct]at bL aU aZ;rw[<-bU]at bM aU b3;have bx:=HA.out.fit (i:=sA) aZ;have bz:=cf.out.fit (i:=sD) b3;obtain⟨⟨Z1,Y1⟩,bN⟩:∃t,t=iG F n sA:=⟨_,rfl⟩;obtain⟨⟨Z2,Y2⟩,bO⟩:∃t,t=iG G k sD:=⟨_,rfl⟩;rw[<-bN,<-bO]at aU;rw[<-bN]at bx;rw[<-bO]at bz;have b4:([(Z1,Y1),(x1,u),(Z2,Y2),(x2,v)]:List (Nat×Nat))=[(Z1,Y1),(x1,u)]++[(Z2,Y2),(x2,v)]:=rfl;have ah:=a2.out;have al:=a3.out;rw[aU,b4,gm]at aW ah;rw[aU,b4,ku]at al;obtain⟨q2,bP⟩:=fb (q+UQ [(Z1,Y1),(x1,u)]);obtain⟨Q2,b5⟩:=fb (fE Q q [(Z1,Y1),(x1,u)]);rw[<-Nat.add_assoc,<-bP]at aW ah;rw[<-b5,<-bP]at al;have bV:q+UQ [(Z1,Y1),(x1,u)]<=16000000:=by omega
    have cR:=fa bL;have cS:=fa bM;have cu:=fa ah;have cv:=fa al;have cT:=fa aW;have cw:=fa bV;have cU:=fa bP;have cx:=fa b5
    have cy:=fa bx;have cz:=fa bz;have cV:=fa bg;have cW:=fa bj;have cX:=fa bN;have cY:=fa bO;have cA:=fa y1
    clear bL bM ah al aW bV bP b5 bx bz bg bj bN bO aU b4 ct bU eS eD eu ev bJ bK bH bI p1 p3 p4 q1 q3 q4 br a9 bq cp cq a2 a3 y0 y1;go_wp2_with (first|refine aG rfl _ _ rfl b (o+i*3) rfl (gY t) _ cn.out underlying36 rfl mT ?_|refine aD rfl _ _ _ rfl rfl wr.heap.size (gY t).toArray rfl rfl 36 #[ae .u8 0,ae ak 0,ae ak 0] (aH wr _) (sH _) rfl (tY _) ?_;change wpList _ _ _ _ _ (gi wr #[ae .u8 0,ae ak 0,ae ak 0] (gY t).toArray 36);rw[<-cm.out]|fail)
    refine(cR.out W3).mono ?_;rintro e w4 ⟨rfl,av⟩;have a6:=fa (aV.out.after av);have a5:=fa (bG.out.tr ((fC.below aV.out.top av).less aX.out));have bf:=fa (b0.out.trans (av.mono aV.out.size))
    have cB:=fa ((av.cell (p:=⟨wr.heap.size,1,none⟩) bZ).trans cA.out);have cC:wr.heap.size<w4.heap.size:=by have:=av.size;omega
    have bW:=fa ((HA.out.kept a5.out).of ca sA aZ (by omega) Z1 Y1 cX.out.symm);clear av y2 aV bG b0 cA bZ;go_wp2_with fail
    refine bW.out.mono ?_;rintro e w5 ⟨rfl,bA⟩;have ad:=nN w5 S' B g Q q [(Z1,Y1),(x1,u)] 2 rfl #[ae .u32 (Z1:Int),ae ak (Y1:Int),ae .u32 (x1:Int),ae ak (u:Int)] rfl (a6.out.after bA) (by omega) (fun z hz=>by
     simp only[List.mem_cons,List.not_mem_nil,or_false]at hz;rcases hz with rfl|rfl
     ·exact cy.out
     ·exact cV.out) cw.out
    rw[<-cU.out,<-cx.out]at ad;have aT:=fa ad;have cD:=fa (a5.out.tr ((fC.below a6.out.top bA).less aX.out));have cE:=fa (bf.out.trans (bA.mono a6.out.size))
    have cH:=fa ((bA.cell (p:=⟨wr.heap.size,1,none⟩) cC).trans cB.out);clear ad bA a6 a5 bf cB bW cC;go_wp2_with (first
     |(refine aE rfl 146 #[(0,.tmp 44),(1,.tmp 45)] rfl (some 46) rfl #[ae .u32 (x1:Int),ae ak (u:Int)] ?_ ?_;focus(simpa[Act.eval]using ks (x1:Int) (u:Int)))
     |fail)
    refine aT.out.mono ?_;rintro e w6 ⟨rfl,h1,h2,h3⟩;have y6:=(h2.cell (p:=⟨wr.heap.size,1,none⟩) cP.out).trans cH.out;have a7:=fa h1;have cI:=fa (cD.out.tr (h2.less aX.out));have cJ:=fa (cE.out.trans h3)
    clear h1 h2 h3 aT cD cE cH;go_wp2_with fail
    refine(cS.out w6).mono ?_;rintro e w7 ⟨rfl,bQ⟩;have a8:=fa (a7.out.after bQ);have b6:=fa (cI.out.tr ((fC.below a7.out.top bQ).less aX.out));have cK:=fa (cJ.out.trans (bQ.mono a7.out.size))
    have bX:=fa ((cf.out.kept b6.out).of cb sD b3 (by omega) Z2 Y2 cY.out.symm);clear bQ y6 a7 cI cJ;go_wp2_with fail
    refine bX.out.mono ?_;rintro e w8 ⟨rfl,bR⟩;have ad:=nN w8 S' B g Q2 q2 [(Z2,Y2),(x2,v)] 2 rfl #[ae .u32 (Z2:Int),ae ak (Y2:Int),ae .u32 (x2:Int),ae ak (v:Int)] rfl (a8.out.after bR) (by omega) (fun z hz=>by
     simp only[List.mem_cons,List.not_mem_nil,or_false]at hz;rcases hz with rfl|rfl
     ·exact cz.out
     ·exact cW.out) cT.out
    rw[cu.out,cv.out]at ad;have aT:=fa ad;have cZ:=fa (b6.out.tr ((fC.below a8.out.top bR).less aX.out));have c7:=fa (cK.out.trans (bR.mono a8.out.size))
    clear ad bR a8 b6 cK bX;go_wp2_with (first
     |(refine aE rfl 146 #[(0,.tmp 62),(1,.tmp 63)] rfl (some 64) rfl #[ae .u32 (x2:Int),ae ak (v:Int)] ?_ ?_;focus(simpa[Act.eval]using ks (x2:Int) (v:Int)))
     |fail)
    refine aT.out.mono ?_;rintro e w9 ⟨rfl,h1,h2,h3⟩;have H1:=fa (h1.less aX.out);have H2:=fa (cZ.out.tr (h2.less aX.out));have H3:=fa (c7.out.trans h3)
    clear h1 h2 h3;go_wp2;go_roundw
    case rel=>exact⟨i+1,by omega,by go_num,H1,H2,H3⟩
    case measure=>simp[aQ];omega
  ·obtain rfl:i=m:=by omega
   have cg:¬(i:Int)<(i:Int):=by omega
   have hr:=bB.out;rw[HM.out,List.take_length]at hr;obtain⟨Q,hQ⟩:=fb (fE f K (l.flatMap (gT F n G k)));obtain⟨q,hq⟩:=fb (K+UQ (l.flatMap (gT F n G k)));rw[<-hQ,<-hq]at hr;obtain⟨⟨Z,Y⟩,hZ⟩:∃t,t=iG F n 256:=⟨_,rfl⟩;have ah:q+UQ [(Z,Y)]=K+UQ (ix F n G k l):=by unfold ix;rw[gm,hq,hZ];omega
   have al:fE Q q [(Z,Y)]=fE f K (ix F n G k l):=by unfold ix;rw[ku,hQ,hq,hZ]
   have a4:=HA.out.fit (i:=256) bS;rw[<-hZ]at a4;have bu:=(HA.out.kept bC.out).of ca 256 bS (by omega) Z Y hZ.symm;have aW:q+UQ [(Z,Y)]<=16000000:=by rw[ah];exact HK.out
   have b7:=fa hr;have b1:=fa bu;have a2:=fa ah;have a3:=fa al;have b2:=fa a4
   clear hr bu ah al a4 hZ hQ hq bB;go_wp2_with fail
   refine b1.out.mono ?_;rintro e w4 ⟨rfl,av⟩;have ad:=nN w4 S B g Q q [(Z,Y)] 1 rfl #[ae .u32 (Z:Int),ae ak (Y:Int)] rfl (b7.out.after av) (by omega) (fun z hz=>by
    simp only[List.mem_singleton]at hz;rw[hz];exact b2.out) aW
   rw[a2.out,a3.out]at ad;have aT:=fa ad;have a5:=fa (bC.out.tr (fC.below b7.out.top av));have bf:=fa (HB.out.trans (av.mono b7.out.size))
   clear ad av;go_wp2_with fail
   refine aT.out.mono ?_;rintro e w5 ⟨rfl,h1,h2,h3⟩;have H1:=fa h1;have H2:=fa (a5.out.tr h2);have H3:=fa (bf.out.trans h3)
   clear h1 h2 h3;go_wp2;go_end0;exact⟨rfl,H1.out,H2.out,H3.out⟩
theorem fB.jv{S:Nat->Prop}{w w':au}{B n:Nat}{A:Option aw}{f:Nat->Nat}(h:fB w B A n f)(hk:fC S w w')(hS:pq S A n)(hB:B<=w'.heap.size):fB w' w'.heap.size A n f:=⟨h.1,fun h0=>by
 obtain⟨b,o,rfl,hb,hc⟩:=h.2 h0;exact⟨b,o,rfl,by omega,fun j hj=>(hk.cell (p:=⟨b,o+j,none⟩) (hS b o h0 rfl)).trans (hc j hj)⟩⟩
theorem jX.jv{S:Nat->Prop}{w w':au}{B n:Nat}{A:Option aw}{l:List (Int×Int)}(h:jX w B A l)(hk:fC S w w')(hn:n=l.length)(hS:pq S A n)(hB:B<=w'.heap.size):jX w' w'.heap.size A l:=⟨h.1,fun h0=>by
 obtain⟨b,o,rfl,hb,hc⟩:=h.2 h0;exact⟨b,o,rfl,by omega,fun j u hu=>(hk.cell (p:=⟨b,o+j,none⟩) (hS b o (by omega) rfl)).trans (hc j u hu)⟩⟩
def VJ(a b:Nat):Nat->Nat
 |0=>a
 |_=>b
def yL(f g:Nat->Nat):Nat->Nat->Nat
 |0=>f
 |_=>g
theorem Ue(f g:Nat->Nat)(a b:Nat):Vg (VJ a b) 2=a+b/\Vy (VJ a b) (yL f g) 2=cat f a g:=by
 refine⟨by simp[Vg,VJ],?_⟩;funext j;show cat (cat (fun _=>0) 0 f) (0+a) g j=cat f a g j
 unfold cat;rw[Nat.zero_add];by_cases h:j<a
 ·rw[if_pos h,if_pos h,if_neg (by omega),Nat.sub_zero]
 ·rw[if_neg h,if_neg h]
theorem Uf(l:List fi)(hl:l.length<=1000000):wR (lN l) (nA l+nB l)=ju l/\rT (lN l) (nA l+nB l)=0:=by
 obtain⟨_,_,_,_,_,a2,_,b2,_⟩:=lO l hl;have h:rT (lN l) (nA l+nB l)=0:=by unfold rT;rw[if_neg (by omega),if_pos (fun i _=>uR l hl i)]
 exact⟨by unfold wR;rw[if_pos h];rfl,h⟩
theorem J3(w:au)(S:Nat->Prop)(B g:Nat)(f:Nat->Nat)(K:Nat)(A1:Option aw)(c1:Nat)(A2:Option aw)(c2:Nat)(l:List fi)(h:gq w S B g f K)(hl:l.length<=1000000)
  (h1:fq w w.heap.size A1 (nA l) c1 (ja l)) (h2:fq w w.heap.size A2 (nB l) c2 (jb l)) (hk:K+UQ (jC l)<=16000000):
  ax prog 89 #[ag (some ⟨g,0,none⟩),af A1 (nA l) c1,af A2 (nB l) c2] w fun e w'=>e=aq (.tuple #[])/\gq w' S B g (fE f K (jC l)) (K+UQ (jC l))/\fC S w w'/\aS B w w':=by
 obtain⟨_,_,_,_,a1,a2,b1,b2,_⟩:=lO l hl
 obtain⟨aU,dg⟩:=oz l hl
 obtain⟨aZ,a7⟩:=Uf l hl
 have bX:∀r∈ju l,0<=r.1/\r.1<=18/\0<=r.2/\pj (r.2.toNat,(iR r.1).toNat):=fun r hr=>by
  obtain⟨x1,x2,x3,_⟩:=aU r hr;exact⟨x1,x2,x3,Gw hl hr⟩
 have bY:=Sj l hl
 have a8:∀i,kW l i<=7:=(tp (c:=j0 (ju l)) (n:=19) (fh:=7) (by omega) (by omega) (by omega) (by decide) (fun i=>by have:=rb (ju l) i;omega)).1
 have r1:=tq (mr l) 4 19
 have r2:=ra (mr l) 4 19 (by omega)
 have ad:jC l=[(nA l-257,5),(nB l-1,5),(nR l-4,4)]++((List.range (nR l)).map fun i=>(mr l i,3))++(ju l).flatMap (gS (kW l)):=rfl
 have bB:nR l=Vj (fun i=>kW l (gU i)) 4 19:=rfl
 have bC:kW l=lM (j0 (ju l)) 19 7:=rfl
 have ah:cat (ja l) (nA l) (jb l)=lN l:=rfl
 have bD:∀i,mr l i=kW l (gU i):=fun _=>rfl
 have aV:∀j,ja l j<256:=h1.1.1
 have aW:∀j,jb l j<256:=h2.1.1
 obtain⟨nl,cg⟩:=fb (nA l)
 obtain⟨nd,ch⟩:=fb (nB l)
 obtain⟨nr,bZ⟩:=fb (nR l)
 obtain⟨FA,cj⟩:=fb (ja l)
 obtain⟨FB,cl⟩:=fb (jb l)
 obtain⟨FR,cm⟩:=fb (kW l)
 obtain⟨RR,cn⟩:=fb (mr l)
 obtain⟨al,cp⟩:=fb (lN l)
 obtain⟨rl,bP⟩:=fb (ju l)
 obtain⟨P,hP⟩:=fb (jC l)
 rw[<-cg]at a1 a2 h1 aZ a7 ad ah⊢
 rw[<-ch]at b1 b2 h2 aZ a7 ad⊢
 rw[<-cj]at h1 ah aV
 rw[<-cl]at h2 ah aW
 rw[<-cp]at aZ a7 ah
 rw[<-bP]at aZ bX dg bC ad
 rw[<-cm]at bY a8 bC ad bD bB
 rw[<-cn]at ad bD
 rw[<-bZ]at ad bB
 rw[<-hP]at ad hk⊢
 rw[show Vj (mr l) 4 19=nR l from rfl,<-bZ]at r1 r2
 clear aU cg ch bZ cj cl cm cn cp bP hP
 obtain⟨W1,bE⟩:=fb (w.alloc (ao #[af A1 nl c1,af A2 nd c2] 22))
 have a3:aS w.heap.size w W1:=by rw[bE];exact fz.alloc fe _
 have aX:W1.heap[w.heap.size]?=some (ao #[af A1 nl c1,af A2 nd c2] 22 (0,0)):=by rw[bE];exact aH w _
 have a9:VF W1 W1.heap.size (some ⟨w.heap.size,0,none⟩) 2 (VJ nl nd) (yL FA FB):=fun _=>by
  refine⟨w.heap.size,0,rfl,(Array.getElem?_eq_some_iff.1 aX).1,fun i hi=>?_⟩;rcases i with _|_|i
  ·exact⟨A1,c1,(aI W1 _ 0 _ _ (0,0) aX).trans rfl,(h1.1.below a3 fe).more a3.size,h1.2.1⟩
  ·exact⟨A2,c2,(aI W1 _ 1 _ _ (0,0) aX).trans rfl,(h2.1.below a3 fe).more a3.size,h2.2.1⟩
  ·omega
 obtain⟨e1,e2⟩:=Ue FA FB nl nd
 have bf:=Hn W1 (some ⟨w.heap.size,0,none⟩) 2 2 (VJ nl nd) (yL FA FB) (fun i j=>by unfold yL;split;exact aV j;exact aW j) a9 (by omega) (by rw[e1];omega)
 rw[e1,e2,ah]at bf
 have bQ:∀j,al j<256:=fun j=>by rw[<-ah];exact CX aV aW j
 have H:=fa h;have bR:=fa bf;have dh:=fa bE;have b0:=fa a3;have cq:=fa bQ;have di:=fa aZ;have dj:=fa a7;have b3:=fa bX;have cr:=fa bY;have ct:=fa a8;have cv:=fa ad;have dk:=fa bB;have dm:=fa bC;have cw:=fa bD;have HK:=fa hk
 clear h bf bE a3 aX a9 e1 e2 bQ aZ a7 bX bY a8 ad bB bC bD hk ah aV aW h1 h2
 have dB:∀(fn:Fn) (first cap:Array ay) (w:au),(Instr.makeFunc fn first cap).run prog w=.ok (.func fn first cap) w:=fun _ _ _ _=>rfl
 go_enter func89,ntmps89
 go_wp2_with (first|rw[<-dh.out]|fail)
 refine bR.out.mono ?_
 rintro e w1 ⟨Ac,cc,rfl,cx,cy⟩
 have bF:=fa (b0.out.trans (cy.mono b0.out.size))
 have bg:=OD w1 Ac (nl+nd) cc al (fq.gD cx cq.out)
 rw[di.out,dj.out]at bg
 have bS:=fa bg
 clear cx cy bg bR b0
 go_wp2_with fail
 refine bS.out.mono ?_
 rintro e w2 ⟨Au,nu,cu,rfl,aU,cz,cA⟩
 obtain⟨b4,bj,_⟩:=aU
 have bG:=fa (bF.out.trans (cz.mono bF.out.size))
 have b5:=RQ w2 Au nu cu rl b4 bj (by omega) (fun r hr=>⟨(b3.out r hr).1,(b3.out r hr).2.1⟩)
 rw[<-dm.out]at b5
 have cB:=fa b5;have cC:=fa bj;have b6:=fa b4;have cD:aR (∀b o,Au=some ⟨b,o,none⟩->w.heap.size<=b):=fa fun b o e=>Nat.le_trans bF.out.size (cA b o e)
 have cE:nu<=1000:=by omega
 clear b5 bj cz cA bS bF b4
 go_wp2_with fail
 refine cB.out.mono ?_
 rintro e w3 ⟨As,cs,rfl,a4,dA,de,_,cH,bH⟩
 have bI:=fa (bG.out.trans (bH.mono bG.out.size))
 have bT:=fa ((cC.out.below bH fe).more bH.size)
 have b7:=Rn w3 As cs FR a4
 rw[<-dk.out]at b7
 have cI:=fa b7;have cJ:=fa a4;have cK:aR (∀b o,As=some ⟨b,o,none⟩->w.heap.size<=b):=fa fun b o e=>Nat.le_trans bG.out.size (cH b o e)
 clear b7 a4 cH bH cB cC bG
 go_wp2_with fail
 refine cI.out.mono ?_
 rintro e w4 ⟨rfl,bl,a5⟩
 have bJ:=bI.out.trans (a5.mono bI.out.size)
 have bU:=bI.out.size
 obtain⟨S4,bK⟩:∃S':Nat->Prop,S'=fun j=>S j\/(w.heap.size<=j/\j<w4.heap.size):=⟨_,rfl⟩
 have bn:gq w4 S4 B g f K:=by rw[bK];exact H.out.grow bJ
 have cL:∀j,S j->S4 j:=fun j hj=>by rw[bK];exact .inl hj
 have bL:∀j,w.heap.size<=j->j<w4.heap.size->S4 j:=fun j a b=>by rw[bK];exact .inr ⟨a,b⟩
 have bq:=(bT.out.below a5 fe).more a5.size
 have br:=(cJ.out.below a5 fe).more a5.size
 have cM:pq S4 Au nu:=fun b o h0 e=>by
  obtain⟨b',o',e',cN,_⟩:=bq.at (k:=0) (by have:=b6.out;omega);rw[e]at e';injection e' with e'
  injection e' with e1
  exact bL b (cD.out b o e) (by omega)
 have cO:pq S4 As 19:=fun b o h0 e=>by
  obtain⟨b',o',e',cN,_⟩:=br.2 h0;rw[e]at e';injection e' with e'
  injection e' with e1
  exact bL b (cK.out b o e) (by omega)
 have cP:S4 w3.heap.size:=bL _ bU bl.lt
 have cQ:fC S w w4:=fC.below H.out.top bJ
 have cR:aS B w w4:=bJ.mono H.out.size
 have b8:=fa bn;have b9:=fa cL;have cS:=fa bq;have cT:=fa br;have cU:=fa cM;have dn:=fa cO;have cV:=fa cP;have dp:=fa cQ;have dq:=fa cR;have bV:=fa bl
 clear bn cL bL bq br cM cO cP cQ cR bl bK bJ a5 cI bT cJ bI cD cK bU
 obtain⟨xa,cW⟩:=fb (nl-257)
 obtain⟨xb,cX⟩:=fb (nd-1)
 obtain⟨xr,cY⟩:=fb (nr-4)
 have ad:=cv.out
 rw[<-cW,<-cX,<-cY]at ad
 have eA:(nl:Int)-257=(xa:Int):=by omega
 have eB:(nd:Int)-1=(xb:Int):=by omega
 have eR:(nr:Int)-4=(xr:Int):=by omega
 have lA:xa<=29:=by omega
 have lB:xb<=29:=by omega
 have lR:xr<=15:=by omega
 have aT:UQ [(xa,5),(xb,5),(xr,4)]=14:=by simp[UQ]
 have cZ:K+14+UQ ((List.range nr).map fun i=>(RR i,3))+UQ (rl.flatMap (gS FR))=K+UQ P:=by
  rw[ad,gm,gm,aT];omega
 have ca:fE (fE (fE f K [(xa,5),(xb,5),(xr,4)]) (K+14) ((List.range nr).map fun i=>(RR i,3))) (K+14+UQ ((List.range nr).map fun i=>(RR i,3))) (rl.flatMap (gS FR))=fE f K P:=by
  rw[ad,ku,ku,gm,aT,Nat.add_assoc]
 obtain⟨Q,hQ⟩:=fb (fE f K [(xa,5),(xb,5),(xr,4)])
 have av:=nN w4 S4 B g f K [(xa,5),(xb,5),(xr,4)] 3 rfl #[ae .u32 (xa:Int),ae ak 5,ae .u32 (xb:Int),ae ak 5,ae .u32 (xr:Int),ae ak 4] rfl b8.out (by omega) (fun z hz=>by
  simp only[List.mem_cons,List.not_mem_nil,or_false]at hz;rcases hz with rfl|rfl|rfl
  ·exact kB (by omega) (by omega)
  ·exact kB (by omega) (by omega)
  ·exact kB (by omega) (by omega)) (by rw[aT];have:=HK.out;omega)
 rw[aT,<-hQ]at av
 rw[<-hQ]at ca
 have aY:=fa av;have cb:=fa cZ;have dr:=fa ca
 clear av cZ ca hQ aT ad cW cX cY cv
 go_wp2_with (first
  |(refine aE rfl 146 #[(0,.tmp 28),(1,.const (ae ak 5))] rfl (some 29) rfl #[ae .u32 (xa:Int),ae ak 5] ?_ ?_;focus(simpa[Act.eval]using ks (xa:Int) 5))
  |(refine aE rfl 146 #[(0,.tmp 33),(1,.const (ae ak 5))] rfl (some 34) rfl #[ae .u32 (xb:Int),ae ak 5] ?_ ?_;focus(simpa[Act.eval]using ks (xb:Int) 5))
  |(refine aE rfl 146 #[(0,.tmp 38),(1,.const (ae ak 4))] rfl (some 39) rfl #[ae .u32 (xr:Int),ae ak 4] ?_ ?_;focus(simpa[Act.eval]using ks (xr:Int) 4))
  |fail)
 refine aY.out.mono ?_
 rintro e w5 ⟨rfl,h1,h2,h3⟩
 have cf:=fa h1;have dt:=fa h2;have du:=fa h3
 clear h1 h2 h3 aY eA eB eR
 obtain⟨h,hh⟩:=fb (w3.heap.size)
 rw[<-hh]at cV bV⊢
 have HH:=fa hh
 clear hh
 go_wp2_with fail
 go_loopw [44] (fun iv wr=>∃i:Nat,i<=nr/\iv=ae ak (i:Int)/\aR (gq wr S4 B g (fE Q (K+14) ((List.range i).map fun i=>(RR i,3))) (K+14+UQ ((List.range i).map fun i=>(RR i,3))))/\aR (fC S4 w4 wr)/\aR (aS B w4 wr)) (fun iv _=>nr-(aQ iv).toNat)
 case atStart=>exact⟨0,Nat.zero_le _,rfl,cf,dt,du⟩
 case round=>
  obtain⟨i,hi,rfl,bM,bt,HB⟩:=hrel;by_cases cN:i<nr
  ·have c7:(i:Int)<(nr:Int):=by omega
   have k1:=(bt.out.cell (p:=⟨h,i,none⟩) cV.out).trans (bV.out.cell (j:=i) (by omega));rw[<-cw.out i]at k1;have dv:RR i<=7:=by rw[cw.out];exact ct.out _
   obtain⟨x,hx⟩:=fb (RR i);rw[<-hx]at k1 dv;have bN:((List.range (i+1)).map fun i=>(RR i,3))=((List.range i).map fun i=>(RR i,3))++[(x,3)]:=by rw[List.range_succ,List.map_append,hx];rfl
   have dw:UQ ((List.range (i+1)).map fun i=>(RR i,3))<=UQ ((List.range nr).map fun i=>(RR i,3)):=by
    have e:((List.range nr).map fun i=>(RR i,3))=((List.range nr).map fun i=>(RR i,3)).take (i+1)++((List.range nr).map fun i=>(RR i,3)).drop (i+1):=(List.take_append_drop _ _).symm;rw[e,gm,<-List.map_take,List.take_range,Nat.min_eq_left (by omega)];omega
   have av:=nN wr S4 B g _ _ [(x,3)] 1 rfl #[ae .u32 (x:Int),ae ak 3] rfl bM.out (by omega) (fun z hz=>by
    simp only[List.mem_singleton]at hz;rw[hz];exact kB (by omega) (by omega)) (by
    have e:=congrArg UQ bN;rw[gm]at e;have:=HK.out;have:=cb.out;omega)
   have eb:K+14+UQ ((List.range i).map fun i=>(RR i,3))+UQ [(x,3)]=K+14+UQ ((List.range (i+1)).map fun i=>(RR i,3)):=by rw[bN,gm];omega
   have ef:fE (fE Q (K+14) ((List.range i).map fun i=>(RR i,3))) (K+14+UQ ((List.range i).map fun i=>(RR i,3))) [(x,3)]=fE Q (K+14) ((List.range (i+1)).map fun i=>(RR i,3)):=by rw[bN,ku]
   rw[eb,ef]at av;have aY:=fa av;clear av bN dw hx eb ef;go_wp2_with (first
    |(refine aE rfl 146 #[(0,.tmp 50),(1,.const (ae ak 3))] rfl (some 51) rfl #[ae .u32 (x:Int),ae ak 3] ?_ ?_;focus(simpa[Act.eval]using ks (x:Int) 3))
    |fail)
   refine aY.out.mono ?_;rintro e w6 ⟨rfl,h1,h2,h3⟩;have H1:=fa h1;have H2:=fa (bt.out.tr h2);have H3:=fa (HB.out.trans h3)
   clear h1 h2 h3;go_wp2;go_roundw
   case rel=>exact⟨i+1,by omega,by go_num,H1,H2,H3⟩
   case measure=>simp[aQ];omega
  ·obtain rfl:i=nr:=by omega
   have c7:¬(i:Int)<(i:Int):=by omega
   have c8:w4.heap.size<=wr.heap.size:=HB.out.size;have a4:=cT.out.jv bt.out dn.out c8;have aU:=cS.out.jv bt.out b6.out cU.out c8;have c9:=Co wr As 19 cs FR a4 (by omega) (by omega) cr.out;have dx:=fa c9;have da:=fa aU
   clear c9 aU a4;go_wp2_with fail
   refine dx.out.mono ?_;rintro e w7 ⟨gk,ck,rfl,db,bu,a6⟩;obtain⟨S7,bO⟩:∃S':Nat->Prop,S'=fun j=>S4 j\/(wr.heap.size<=j/\j<w7.heap.size):=⟨_,rfl⟩
   have bx:gq w7 S7 B g (fE Q (K+14) ((List.range i).map fun i=>(RR i,3))) (K+14+UQ ((List.range i).map fun i=>(RR i,3))):=by rw[bO];exact bM.out.grow a6
   have bz:∀j,S4 j->S7 j:=fun j hj=>by rw[bO];exact .inl hj
   have dc:S7 gk:=by rw[bO];exact .inr ⟨db,bu.lt⟩
   have bA:=Ua w7 S7 B g _ _ Au nu cu rl FR gk ck bx b6.out ((da.out.below a6 fe).more a6.size) (fun b o h0 e=>bz b (cU.out b o h0 e)) cE bu dc cr.out b3.out (by have:=HK.out;have:=cb.out;omega);rw[cb.out,dr.out]at bA;have dd:=fa bA;have bW:=fa bz
   have dy:=fa (dp.out.tr ((bt.out.tr (fC.below bM.out.top a6)).less b9.out));have dz:=fa (dq.out.trans (HB.out.trans (a6.mono bM.out.size)))
   clear bA bz dc bx bO bu a6 db;go_wp2_with fail
   refine dd.out.mono ?_;rintro e w8 ⟨rfl,h1,h2,h3⟩;have H1:=fa (h1.less fun j hj=>bW.out j (b9.out j hj));have H2:=fa (dy.out.tr (h2.less fun j hj=>bW.out j (b9.out j hj)));have H3:=fa (dz.out.trans h3)
   clear h1 h2 h3;go_wp2;go_end0;exact⟨rfl,H1.out,H2.out,H3.out⟩
def gX(k kind n:Nat)(l:List fi)(last:Bool):List (Nat×Nat):=
 [(if last then 1 else 0,1),(kind,2)]++(if kind=1 then[]else if kind=2 then jC l else[(0,(8-(k+3)%8)%8),(n,16),(65535-n,16)])
def oP(kind:Nat)(l:List fi):Nat->Nat:=if kind=1 then iH else if kind=2 then ja l else fun _=>0
def oQ(kind:Nat)(l:List fi):Nat->Nat:=if kind=1 then iZ else if kind=2 then jb l else fun _=>0
def lI(kind:Nat)(l:List fi):Nat:=if kind=1 then 288 else if kind=2 then nA l else 0
def lJ(kind:Nat)(l:List fi):Nat:=if kind=1 then 32 else if kind=2 then nB l else 0
def sW(S:Nat->Prop)(B g:Nat)(f:Nat->Nat)(K kind n:Nat)(l:List fi)(last:Bool)(w:au)(e:Ending)(w':au):Prop:=
 ∃A1 c1 A2 c2,e=aq (.tuple #[af A1 (lI kind l) c1,af A2 (lJ kind l) c2])/\fB w' w'.heap.size A1 (lI kind l) (oP kind l)/\fB w' w'.heap.size A2 (lJ kind l) (oQ kind l)/\
  gq w' S B g (fE f K (gX K kind n l last)) (K+UQ (gX K kind n l last))/\fC S w w'/\aS B w w'
theorem Ug(w:au)(S:Nat->Prop)(B g:Nat)(f:Nat->Nat)(K n gc:Nat)(l:List fi)(h:gq w S B g f K)(hn:n<=65535)(hK:K<=8388608)(aT:iw w gc 317 (kg l) 153)(_:l.length<=65535)(aU:∀t∈l,fH t=true/\t.x<256)(hb:K+UQ (gX K 0 n l false)<=16000000):
  ax prog 45 #[ag (some ⟨g,0,none⟩),ae .u8 0,aj false,ae ak (n:Int),ag (some ⟨gc,0,none⟩)] w (sW S B g f K 0 n l false w):=by
 have ad:=nN w S B g f K [(0,1),(0,2)] 2 rfl #[ae .u32 0,ae ak 1,ae .u32 0,ae ak 2] rfl h (by omega) (fun z hz=>by
  simp only[List.mem_cons,List.not_mem_nil,or_false]at hz;rcases hz with rfl|rfl
  ·exact kB (by omega) (by omega)
  ·exact kB (by omega) (by omega)) (by simp[UQ];omega)
 have ah:UQ [(0,1),(0,2)]=3:=rfl
 rw[ah]at ad
 obtain⟨Q,hQ⟩:=fb (fE f K [(0,1),(0,2)])
 rw[<-hQ]at ad
 have hop:gX K 0 n l false=[(0,1),(0,2)]++[(0,(8-(K+3)%8)%8),(n,16),(65535-n,16)]:=rfl
 have aV:fE Q (K+3) [(0,(8-(K+3)%8)%8),(n,16),(65535-n,16)]=fE f K (gX K 0 n l false):=by rw[hop,ku,ah,hQ]
 have aW:K+3+UQ [(0,(8-(K+3)%8)%8),(n,16),(65535-n,16)]=K+UQ (gX K 0 n l false):=by rw[hop,gm,ah];omega
 have al:=fa ad;have aX:=fa aV;have aY:=fa aW;have HH:=fa h;have a1:=fa aT;have a2:=fa aU;have a3:=fa hb
 clear ad aV aW hQ hop ah h aT aU hb
 go_enter func45,ntmps45
 go_wp2_with (first
  |(refine aE rfl 146 #[(0,.tmp 15),(1,.const (ae ak 1))] rfl (some 16) rfl #[ae .u32 0,ae ak 1] ?_ ?_;focus(simpa[Act.eval]using ks 0 1))
  |(refine aE rfl 146 #[(0,.tmp 18),(1,.const (ae ak 2))] rfl (some 19) rfl #[ae .u32 0,ae ak 2] ?_ ?_;focus(simpa[Act.eval]using ks 0 2))
  |fail)
 refine al.out.mono ?_
 rintro e w1 ⟨rfl,h1,h2,h3⟩
 have av:=IY w1 S B g Q (K+3) n ((8-(K+3)%8)%8) h1 hn (by omega) rfl
 rw[aX.out,aY.out]at av
 have aZ:=fa av;have H2:=fa h2;have H3:=fa h3
 clear av h1 h2 h3 al
 go_wp2_with fail
 refine aZ.out.mono ?_
 rintro e w2 ⟨rfl,k1,k2,k3⟩
 have K1:=fa k1;have K2:=fa (H2.out.tr k2);have K3:=fa (H3.out.trans k3)
 clear k1 k2 k3
 go_wp2
 go_ret2
 exact⟨none,0,none,0,rfl,⟨fun _=>by show 0<256;omega,fun h=>absurd h (by show¬0<0;omega)⟩,⟨fun _=>by show 0<256;omega,fun h=>absurd h (by show¬0<0;omega)⟩,K1.out,K2.out,K3.out⟩
theorem Uh(w:au)(S:Nat->Prop)(B g:Nat)(f:Nat->Nat)(K n gc:Nat)(l:List fi)(h:gq w S B g f K)(hn:n<=65535)(hK:K<=8388608)(aT:iw w gc 317 (kg l) 153)(_:l.length<=65535)(aU:∀t∈l,fH t=true/\t.x<256)(hb:K+UQ (gX K 0 n l true)<=16000000):
  ax prog 45 #[ag (some ⟨g,0,none⟩),ae .u8 0,aj true,ae ak (n:Int),ag (some ⟨gc,0,none⟩)] w (sW S B g f K 0 n l true w):=by
 have ad:=nN w S B g f K [(1,1),(0,2)] 2 rfl #[ae .u32 1,ae ak 1,ae .u32 0,ae ak 2] rfl h (by omega) (fun z hz=>by
  simp only[List.mem_cons,List.not_mem_nil,or_false]at hz;rcases hz with rfl|rfl
  ·exact kB (by omega) (by omega)
  ·exact kB (by omega) (by omega)) (by simp[UQ];omega)
 have ah:UQ [(1,1),(0,2)]=3:=rfl
 rw[ah]at ad
 obtain⟨Q,hQ⟩:=fb (fE f K [(1,1),(0,2)])
 rw[<-hQ]at ad
 have hop:gX K 0 n l true=[(1,1),(0,2)]++[(0,(8-(K+3)%8)%8),(n,16),(65535-n,16)]:=rfl
 have aV:fE Q (K+3) [(0,(8-(K+3)%8)%8),(n,16),(65535-n,16)]=fE f K (gX K 0 n l true):=by rw[hop,ku,ah,hQ]
 have aW:K+3+UQ [(0,(8-(K+3)%8)%8),(n,16),(65535-n,16)]=K+UQ (gX K 0 n l true):=by rw[hop,gm,ah];omega
 have al:=fa ad;have aX:=fa aV;have aY:=fa aW;have HH:=fa h;have a1:=fa aT;have a2:=fa aU;have a3:=fa hb
 clear ad aV aW hQ hop ah h aT aU hb
 go_enter func45,ntmps45
 go_wp2_with (first
  |(refine aE rfl 146 #[(0,.tmp 15),(1,.const (ae ak 1))] rfl (some 16) rfl #[ae .u32 1,ae ak 1] ?_ ?_;focus(simpa[Act.eval]using ks 1 1))
  |(refine aE rfl 146 #[(0,.tmp 18),(1,.const (ae ak 2))] rfl (some 19) rfl #[ae .u32 0,ae ak 2] ?_ ?_;focus(simpa[Act.eval]using ks 0 2))
  |fail)
 refine al.out.mono ?_
 rintro e w1 ⟨rfl,h1,h2,h3⟩
 have av:=IY w1 S B g Q (K+3) n ((8-(K+3)%8)%8) h1 hn (by omega) rfl
 rw[aX.out,aY.out]at av
 have aZ:=fa av;have H2:=fa h2;have H3:=fa h3
 clear av h1 h2 h3 al
 go_wp2_with fail
 refine aZ.out.mono ?_
 rintro e w2 ⟨rfl,k1,k2,k3⟩
 have K1:=fa k1;have K2:=fa (H2.out.tr k2);have K3:=fa (H3.out.trans k3)
 clear k1 k2 k3
 go_wp2
 go_ret2
 exact⟨none,0,none,0,rfl,⟨fun _=>by show 0<256;omega,fun h=>absurd h (by show¬0<0;omega)⟩,⟨fun _=>by show 0<256;omega,fun h=>absurd h (by show¬0<0;omega)⟩,K1.out,K2.out,K3.out⟩
theorem Ui(w:au)(S:Nat->Prop)(B g:Nat)(f:Nat->Nat)(K n gc:Nat)(l:List fi)(h:gq w S B g f K)(_:n<=65535)(hK:K<=8388608)(aT:iw w gc 317 (kg l) 153)(_:l.length<=65535)(aU:∀t∈l,fH t=true/\t.x<256)(hb:K+UQ (gX K 1 n l false)<=16000000):
  ax prog 45 #[ag (some ⟨g,0,none⟩),ae .u8 1,aj false,ae ak (n:Int),ag (some ⟨gc,0,none⟩)] w (sW S B g f K 1 n l false w):=by
 have ad:=nN w S B g f K [(0,1),(1,2)] 2 rfl #[ae .u32 0,ae ak 1,ae .u32 1,ae ak 2] rfl h (by omega) (fun z hz=>by
  simp only[List.mem_cons,List.not_mem_nil,or_false]at hz;rcases hz with rfl|rfl
  ·exact kB (by omega) (by omega)
  ·exact kB (by omega) (by omega)) (by simp[UQ];omega)
 have av:UQ [(0,1),(1,2)]=3:=rfl
 rw[av]at ad
 obtain⟨Q,hQ⟩:=fb (fE f K [(0,1),(1,2)])
 rw[<-hQ]at ad
 have hop:gX K 1 n l false=[(0,1),(1,2)]:=rfl
 have aV:Q=fE f K (gX K 1 n l false):=by rw[hop,hQ]
 have aW:K+3=K+UQ (gX K 1 n l false):=by rw[hop,av]
 have al:=fa ad;have aX:=fa aV;have aY:=fa aW;have HH:=fa h;have a1:=fa aT;have a2:=fa aU;have a3:=fa hb
 clear ad aV aW hQ hop av h aT aU hb
 go_enter func45,ntmps45
 go_wp2_with (first
  |(refine aE rfl 146 #[(0,.tmp 15),(1,.const (ae ak 1))] rfl (some 16) rfl #[ae .u32 0,ae ak 1] ?_ ?_;focus(simpa[Act.eval]using ks 0 1))
  |(refine aE rfl 146 #[(0,.tmp 18),(1,.const (ae ak 2))] rfl (some 19) rfl #[ae .u32 1,ae ak 2] ?_ ?_;focus(simpa[Act.eval]using ks 1 2))
  |fail)
 refine al.out.mono ?_
 rintro e w1 ⟨rfl,h1,h2,h3⟩
 rw[aX.out,aY.out]at h1
 have H1:=fa h1;have H2:=fa h2;have H3:=fa h3
 have aZ:=fa (BA w1)
 clear h1 h2 h3 al
 go_wp2_with fail
 refine aZ.out.mono ?_
 rintro e w2 ⟨A1,c1,A2,c2,rfl,o1,o2,_,ah⟩
 have R1:=fa (fB.gD o1 (fun j=>by have:=uW j;omega));have R2:=fa (fB.gD o2 (fun j=>by have:=uX j;omega));have K1:=fa (H1.out.after ah);have K2:=fa (H2.out.tr (fC.below H1.out.top ah));have K3:=fa (H3.out.trans (ah.mono H1.out.size))
 clear o1 o2 ah H1 H2 H3
 go_wp2
 go_ret2
 exact⟨A1,c1,A2,c2,rfl,R1.out,R2.out,K1.out,K2.out,K3.out⟩
theorem Uj(w:au)(S:Nat->Prop)(B g:Nat)(f:Nat->Nat)(K n gc:Nat)(l:List fi)(h:gq w S B g f K)(_:n<=65535)(hK:K<=8388608)(aT:iw w gc 317 (kg l) 153)(_:l.length<=65535)(aU:∀t∈l,fH t=true/\t.x<256)(hb:K+UQ (gX K 1 n l true)<=16000000):
  ax prog 45 #[ag (some ⟨g,0,none⟩),ae .u8 1,aj true,ae ak (n:Int),ag (some ⟨gc,0,none⟩)] w (sW S B g f K 1 n l true w):=by
 have ad:=nN w S B g f K [(1,1),(1,2)] 2 rfl #[ae .u32 1,ae ak 1,ae .u32 1,ae ak 2] rfl h (by omega) (fun z hz=>by
  simp only[List.mem_cons,List.not_mem_nil,or_false]at hz;rcases hz with rfl|rfl
  ·exact kB (by omega) (by omega)
  ·exact kB (by omega) (by omega)) (by simp[UQ];omega)
 have av:UQ [(1,1),(1,2)]=3:=rfl
 rw[av]at ad
 obtain⟨Q,hQ⟩:=fb (fE f K [(1,1),(1,2)])
 rw[<-hQ]at ad
 have hop:gX K 1 n l true=[(1,1),(1,2)]:=rfl
 have aV:Q=fE f K (gX K 1 n l true):=by rw[hop,hQ]
 have aW:K+3=K+UQ (gX K 1 n l true):=by rw[hop,av]
 have al:=fa ad;have aX:=fa aV;have aY:=fa aW;have HH:=fa h;have a1:=fa aT;have a2:=fa aU;have a3:=fa hb
 clear ad aV aW hQ hop av h aT aU hb
 go_enter func45,ntmps45
 go_wp2_with (first
  |(refine aE rfl 146 #[(0,.tmp 15),(1,.const (ae ak 1))] rfl (some 16) rfl #[ae .u32 1,ae ak 1] ?_ ?_;focus(simpa[Act.eval]using ks 1 1))
  |(refine aE rfl 146 #[(0,.tmp 18),(1,.const (ae ak 2))] rfl (some 19) rfl #[ae .u32 1,ae ak 2] ?_ ?_;focus(simpa[Act.eval]using ks 1 2))
  |fail)
 refine al.out.mono ?_
 rintro e w1 ⟨rfl,h1,h2,h3⟩
 rw[aX.out,aY.out]at h1
 have H1:=fa h1;have H2:=fa h2;have H3:=fa h3
 have aZ:=fa (BA w1)
 clear h1 h2 h3 al
 go_wp2_with fail
 refine aZ.out.mono ?_
 rintro e w2 ⟨A1,c1,A2,c2,rfl,o1,o2,_,ah⟩
 have R1:=fa (fB.gD o1 (fun j=>by have:=uW j;omega));have R2:=fa (fB.gD o2 (fun j=>by have:=uX j;omega));have K1:=fa (H1.out.after ah);have K2:=fa (H2.out.tr (fC.below H1.out.top ah));have K3:=fa (H3.out.trans (ah.mono H1.out.size))
 clear o1 o2 ah H1 H2 H3
 go_wp2
 go_ret2
 exact⟨A1,c1,A2,c2,rfl,R1.out,R2.out,K1.out,K2.out,K3.out⟩
theorem Uk(w:au)(S:Nat->Prop)(B g:Nat)(f:Nat->Nat)(K n gc:Nat)(l:List fi)(h:gq w S B g f K)(_:n<=65535)(hK:K<=8388608)(aX:S gc)(aY:iw w gc 317 (kg l) 153)(hl:l.length<=65535)(aZ:∀t∈l,fH t=true/\t.x<256)(hb:K+UQ (gX K 2 n l false)<=16000000):
  ax prog 45 #[ag (some ⟨g,0,none⟩),ae .u8 2,aj false,ae ak (n:Int),ag (some ⟨gc,0,none⟩)] w (sW S B g f K 2 n l false w):=by
 have ad:=nN w S B g f K [(0,1),(2,2)] 2 rfl #[ae .u32 0,ae ak 1,ae .u32 2,ae ak 2] rfl h (by omega) (fun z hz=>by
  simp only[List.mem_cons,List.not_mem_nil,or_false]at hz;rcases hz with rfl|rfl
  ·exact kB (by omega) (by omega)
  ·exact kB (by omega) (by omega)) (by simp[UQ];omega)
 have av:UQ [(0,1),(2,2)]=3:=rfl
 rw[av]at ad
 obtain⟨Q,hQ⟩:=fb (fE f K [(0,1),(2,2)])
 rw[<-hQ]at ad
 have hop:gX K 2 n l false=[(0,1),(2,2)]++jC l:=rfl
 have a1:fE Q (K+3) (jC l)=fE f K (gX K 2 n l false):=by rw[hop,ku,av,hQ]
 have a2:K+3+UQ (jC l)=K+UQ (gX K 2 n l false):=by rw[hop,gm,av];omega
 have aU:=fa ad;have bj:=fa a1;have a3:=fa a2;have HH:=fa h;have bl:=fa aX;have bn:=fa aY;have bq:=fa aZ;have br:=fa hb
 clear ad a1 a2 hQ hop av h aY aZ hb aX
 go_enter func45,ntmps45
 go_wp2_with (first
  |(refine aE rfl 146 #[(0,.tmp 15),(1,.const (ae ak 1))] rfl (some 16) rfl #[ae .u32 0,ae ak 1] ?_ ?_;focus(simpa[Act.eval]using ks 0 1))
  |(refine aE rfl 146 #[(0,.tmp 18),(1,.const (ae ak 2))] rfl (some 19) rfl #[ae .u32 2,ae ak 2] ?_ ?_;focus(simpa[Act.eval]using ks 2 2))
  |fail)
 refine aU.out.mono ?_
 rintro e w1 ⟨rfl,h1,h2,h3⟩
 have a4:iw w1 gc 317 (kg l) 153:=(h2 gc bl.out).trans bn.out
 have a5:=IW w1 gc l a4 (by omega) bq.out
 have a6:=fa a5;have H1:=fa h1;have H2:=fa h2;have H3:=fa h3
 clear a5 a4 h1 h2 h3 aU
 go_wp2_with fail
 refine a6.out.mono ?_
 rintro e w2 ⟨A1,c1,A2,c2,rfl,r1,r2,n1,n2,aT⟩
 obtain⟨S2,ah⟩:∃S':Nat->Prop,S'=fun j=>S j\/(w1.heap.size<=j/\j<w2.heap.size):=⟨_,rfl⟩
 have al:gq w2 S2 B g Q (K+3):=by rw[ah];exact H1.out.grow aT
 have a7:∀j,S j->S2 j:=fun j hj=>by rw[ah];exact .inl hj
 have a8:pq S2 A1 (nA l):=fun b o h0 e=>by
  obtain⟨b',o',e',bt,_⟩:=r1.1.2 h0;have aV:=n1 b o e;rw[e]at e';injection e' with e'
  injection e' with e1
  rw[ah];exact .inr ⟨aV,by omega⟩
 have a9:pq S2 A2 (nB l):=fun b o h0 e=>by
  obtain⟨b',o',e',bt,_⟩:=r2.1.2 h0;have aV:=n2 b o e;rw[e]at e';injection e' with e'
  injection e' with e1
  rw[ah];exact .inr ⟨aV,by omega⟩
 have aW:=J3 w2 S2 B g Q (K+3) A1 c1 A2 c2 l al (by omega) r1 r2 (by rw[a3.out];exact br.out)
 rw[bj.out,a3.out]at aW
 have bu:=fa aW;have R1:=fa r1;have R2:=fa r2;have bx:=fa a8;have bz:=fa a9;have bf:=fa a7
 have K2:=fa (H2.out.tr (fC.below H1.out.top aT));have K3:=fa (H3.out.trans (aT.mono H1.out.size))
 clear aW r1 r2 a8 a9 a7 al ah n1 n2 aT H1 H2 H3 a6
 go_wp2_with fail
 refine bu.out.mono ?_
 rintro e w3 ⟨rfl,k1,k2,k3⟩
 have K1:=fa (k1.less bf.out);have KP:=fa k2;have K4:=fa (K2.out.tr (k2.less bf.out));have K5:=fa (K3.out.trans k3)
 have bg:=k3.size
 clear k1 k2 k3
 go_wp2
 go_ret2
 exact⟨A1,c1,A2,c2,rfl,R1.out.1.jv KP.out bx.out bg,R2.out.1.jv KP.out bz.out bg,K1.out,K4.out,K5.out⟩
theorem Ul(w:au)(S:Nat->Prop)(B g:Nat)(f:Nat->Nat)(K n gc:Nat)(l:List fi)(h:gq w S B g f K)(_:n<=65535)(hK:K<=8388608)(aX:S gc)(aY:iw w gc 317 (kg l) 153)(hl:l.length<=65535)(aZ:∀t∈l,fH t=true/\t.x<256)(hb:K+UQ (gX K 2 n l true)<=16000000):
  ax prog 45 #[ag (some ⟨g,0,none⟩),ae .u8 2,aj true,ae ak (n:Int),ag (some ⟨gc,0,none⟩)] w (sW S B g f K 2 n l true w):=by
 have ad:=nN w S B g f K [(1,1),(2,2)] 2 rfl #[ae .u32 1,ae ak 1,ae .u32 2,ae ak 2] rfl h (by omega) (fun z hz=>by
  simp only[List.mem_cons,List.not_mem_nil,or_false]at hz;rcases hz with rfl|rfl
  ·exact kB (by omega) (by omega)
  ·exact kB (by omega) (by omega)) (by simp[UQ];omega)
 have av:UQ [(1,1),(2,2)]=3:=rfl
 rw[av]at ad
 obtain⟨Q,hQ⟩:=fb (fE f K [(1,1),(2,2)])
 rw[<-hQ]at ad
 have hop:gX K 2 n l true=[(1,1),(2,2)]++jC l:=rfl
 have a1:fE Q (K+3) (jC l)=fE f K (gX K 2 n l true):=by rw[hop,ku,av,hQ]
 have a2:K+3+UQ (jC l)=K+UQ (gX K 2 n l true):=by rw[hop,gm,av];omega
 have aU:=fa ad;have bj:=fa a1;have a3:=fa a2;have HH:=fa h;have bl:=fa aX;have bn:=fa aY;have bq:=fa aZ;have br:=fa hb
 clear ad a1 a2 hQ hop av h aY aZ hb aX
 go_enter func45,ntmps45
 go_wp2_with (first
  |(refine aE rfl 146 #[(0,.tmp 15),(1,.const (ae ak 1))] rfl (some 16) rfl #[ae .u32 1,ae ak 1] ?_ ?_;focus(simpa[Act.eval]using ks 1 1))
  |(refine aE rfl 146 #[(0,.tmp 18),(1,.const (ae ak 2))] rfl (some 19) rfl #[ae .u32 2,ae ak 2] ?_ ?_;focus(simpa[Act.eval]using ks 2 2))
  |fail)
 refine aU.out.mono ?_
 rintro e w1 ⟨rfl,h1,h2,h3⟩
 have a4:iw w1 gc 317 (kg l) 153:=(h2 gc bl.out).trans bn.out
 have a5:=IW w1 gc l a4 (by omega) bq.out
 have a6:=fa a5;have H1:=fa h1;have H2:=fa h2;have H3:=fa h3
 clear a5 a4 h1 h2 h3 aU
 go_wp2_with fail
 refine a6.out.mono ?_
 rintro e w2 ⟨A1,c1,A2,c2,rfl,r1,r2,n1,n2,aT⟩
 obtain⟨S2,ah⟩:∃S':Nat->Prop,S'=fun j=>S j\/(w1.heap.size<=j/\j<w2.heap.size):=⟨_,rfl⟩
 have al:gq w2 S2 B g Q (K+3):=by rw[ah];exact H1.out.grow aT
 have a7:∀j,S j->S2 j:=fun j hj=>by rw[ah];exact .inl hj
 have a8:pq S2 A1 (nA l):=fun b o h0 e=>by
  obtain⟨b',o',e',bt,_⟩:=r1.1.2 h0;have aV:=n1 b o e;rw[e]at e';injection e' with e'
  injection e' with e1
  rw[ah];exact .inr ⟨aV,by omega⟩
 have a9:pq S2 A2 (nB l):=fun b o h0 e=>by
  obtain⟨b',o',e',bt,_⟩:=r2.1.2 h0;have aV:=n2 b o e;rw[e]at e';injection e' with e'
  injection e' with e1
  rw[ah];exact .inr ⟨aV,by omega⟩
 have aW:=J3 w2 S2 B g Q (K+3) A1 c1 A2 c2 l al (by omega) r1 r2 (by rw[a3.out];exact br.out)
 rw[bj.out,a3.out]at aW
 have bu:=fa aW;have R1:=fa r1;have R2:=fa r2;have bx:=fa a8;have bz:=fa a9;have bf:=fa a7
 have K2:=fa (H2.out.tr (fC.below H1.out.top aT));have K3:=fa (H3.out.trans (aT.mono H1.out.size))
 clear aW r1 r2 a8 a9 a7 al ah n1 n2 aT H1 H2 H3 a6
 go_wp2_with fail
 refine bu.out.mono ?_
 rintro e w3 ⟨rfl,k1,k2,k3⟩
 have K1:=fa (k1.less bf.out);have KP:=fa k2;have K4:=fa (K2.out.tr (k2.less bf.out));have K5:=fa (K3.out.trans k3)
 have bg:=k3.size
 clear k1 k2 k3
 go_wp2
 go_ret2
 exact⟨A1,c1,A2,c2,rfl,R1.out.1.jv KP.out bx.out bg,R2.out.1.jv KP.out bz.out bg,K1.out,K4.out,K5.out⟩
theorem J4(w:au)(S:Nat->Prop)(B g:Nat)(f:Nat->Nat)(K n gc kind:Nat)(l:List fi)(last:Bool)(h:gq w S B g f K)(av:kind<=2)(hn:n<=65535)(hK:K<=8388608)(al:S gc)(ad:iw w gc 317 (kg l) 153)(hl:l.length<=65535)(ah:∀t∈l,fH t=true/\t.x<256)(hb:K+UQ (gX K kind n l last)<=16000000):
  ax prog 45 #[ag (some ⟨g,0,none⟩),ae .u8 (kind:Int),aj last,ae ak (n:Int),ag (some ⟨gc,0,none⟩)] w (sW S B g f K kind n l last w):=by
 have hc:kind=0\/kind=1\/kind=2:=by omega
 rcases hc with rfl|rfl|rfl<;>cases last
 ·exact Ug w S B g f K n gc l h hn hK ad hl ah hb
 ·exact Uh w S B g f K n gc l h hn hK ad hl ah hb
 ·exact Ui w S B g f K n gc l h hn hK ad hl ah hb
 ·exact Uj w S B g f K n gc l h hn hK ad hl ah hb
 ·exact Uk w S B g f K n gc l h hn hK al ad hl ah hb
 ·exact Ul w S B g f K n gc l h hn hK al ad hl ah hb
theorem yM(T:Nat->Nat)(f:Nat->Nat)(s d:Nat):∀N,Vb (fun i=>T i+if i=s then d else 0) f N=Vb T f N+if s<N then d*f s else 0
 |0=>by simp[Vb]
 |N+1=>by
  have ih:=yM T f s d N;show Vb (fun i=>T i+if i=s then d else 0) f N+(T N+if N=s then d else 0)*f N=Vb T f N+T N*f N+_
  rw[ih,Nat.add_mul];by_cases h:N=s
  ·subst h;rw[if_pos rfl,if_neg (by omega),if_pos (by omega)];omega
  ·rw[if_neg h];by_cases h2:s<N
   ·rw[if_pos h2,if_pos (by omega)];omega
   ·rw[if_neg h2,if_neg (by omega)];omega
theorem wD{T T' f:Nat->Nat}:∀N,(∀i,i<N->T i=T' i)->Vb T f N=Vb T' f N
 |0,_=>rfl
 |N+1,h=>by
  show Vb T f N+T N*f N=Vb T' f N+T' N*f N
  rw[wD N (fun i hi=>h i (by omega)),h N (by omega)]
theorem Um{α:Type}{p:List α->Prop}(h0:p [])(h1:∀l x,p l->p (l++[x]))(l:List α):p l:=by
 have:∀n (l:List α),l.length=n->p l:=by
  intro n;induction n with
  |zero=>intro l h;rw[List.length_eq_zero_iff.1 h];exact h0
  |succ n ih=>
   intro l h;have ad:l≠[]:=by intro e;rw[e]at h;cases h
   rw[<-List.dropLast_concat_getLast ad];exact h1 _ _ (ih _ (by rw[List.length_dropLast];omega))
 exact this _ l rfl
theorem J5(F G:Nat->Nat)(n m N M:Nat)(hN:256<N)(l:List fi):(∀t∈l,fH t=true/\t.x<256/\iP t<N/\(t.n≠0->kl t<M))->
  UQ (ix F n G m l)=Vb (iC l) F N+Vb (iq l) G M+kD l:=by
 refine Um (p:=fun l=>(∀t∈l,fH t=true/\t.x<256/\iP t<N/\(t.n≠0->kl t<M))->UQ (ix F n G m l)=Vb (iC l) F N+Vb (iq l) G M+kD l) ?_ ?_ l
 ·intro _;have e1:Vb (iC []) F N=F 256:=by
   have h:=yM (fun _=>0) F 256 1 N;have h0:∀K,Vb (fun _=>0) F K=0:=by
    intro K;induction K with
    |zero=>rfl
    |succ K ih=>show Vb (fun _=>0) F K+0*F K=0;rw[ih];omega
   rw[h0,if_pos hN,Nat.one_mul,Nat.zero_add]at h;rw[<-h];exact wD N fun i _=>by simp[iC]
  have e2:Vb (iq []) G M=0:=by
   have h0:∀K,Vb (iq []) G K=0:=by
    intro K;induction K with
    |zero=>rfl
    |succ K ih=>show Vb (iq []) G K+iq [] K*G K=0;rw[ih];simp[iq]
   exact h0 M
  rw[e1,e2];simp[ix,UQ,iG,kD]
 ·intro l t ih h;have ih:=ih fun u hu=>h u (List.mem_append_left _ hu)
  obtain⟨al,hx,ad,ah⟩:=h t (by simp);have e0:UQ (ix F n G m (l++[t]))=UQ (ix F n G m l)+UQ (gT F n G m t):=by
   unfold ix;rw[List.flatMap_append,gm,gm,gm];simp;omega
  have e1:Vb (iC (l++[t])) F N=Vb (iC l) F N+F (iP t):=by
   have h:=yM (iC l) F (iP t) 1 N;rw[if_pos ad,Nat.one_mul]at h;rw[<-h];exact wD N fun i _=>by
    rw[Lh];by_cases e:i=iP t
    ·rw[if_pos e,if_pos e.symm]
    ·rw[if_neg e,if_neg (fun k=>e k.symm)]
  rw[e0,e1,IQ,ih];by_cases h0:t.n=0
  ·have e2:Vb (iq (l++[t])) G M=Vb (iq l) G M:=wD M fun i _=>by rw[zx,if_neg (fun k=>k.1 h0)];rfl
   have e3:gT F n G m t=[iG F n t.x]:=by unfold gT;rw[if_pos h0]
   have e4:nM t=0:=by unfold nM;rw[if_pos h0]
   have e5:iP t=t.x:=by unfold iP;rw[if_pos h0]
   rw[e2,e3,e4,e5];simp[UQ,iG];omega
  ·have e2:Vb (iq (l++[t])) G M=Vb (iq l) G M+G (kl t):=by
    have h:=yM (iq l) G (kl t) 1 M;rw[if_pos (ah h0),Nat.one_mul]at h;rw[<-h];exact wD M fun i _=>by
     rw[zx];by_cases e:i=kl t
     ·rw[if_pos e,if_pos ⟨h0,e.symm⟩]
     ·rw[if_neg e,if_neg (fun k=>e k.2.symm)]
   have e3:gT F n G m t=[iG F n (iP t),((jK t.n).toNat,(iN t.n).toNat),iG G m (kl t),((jQ t.d).toNat,(jo t.d).toNat)]:=by
    unfold gT iP kl;rw[if_neg h0,if_neg h0]
   have e4:nM t=(iN t.n).toNat+(jo t.d).toNat:=by unfold nM;rw[if_neg h0]
   rw[e2,e3,e4];simp[UQ,iG];omega
theorem Un(k kind n:Nat)(r:Nat->Nat)(l:List fi)(last:Bool)(ah:kind<=2)(hl:l.length<=65535)(ad:∀t∈l,fH t=true/\t.x<256):
  UQ (gp (k%8) kind n r l last)=UQ (gX k kind n l last)+if kind=0 then 8*n else Vb (iC l) (oP kind l) (min (lI kind l) 286)+Vb (iq l) (oQ kind l) (min (lJ kind l) 30)+kD l:=by
 have hc:kind=0\/kind=1\/kind=2:=by omega
 rcases hc with rfl|rfl|rfl
 ·rw[Ey,if_pos rfl];have e:gX k 0 n l last=[(if last then 1 else 0,1),(0,2)]++[(0,(8-(k+3)%8)%8),(n,16),(65535-n,16)]:=rfl;rw[e,gm];have e2:UQ [((if last then 1 else 0:Nat),1),(0,2)]=3:=rfl;rw[e2];have e3:UQ [(0,(8-(k+3)%8)%8),(n,16),(65535-n,16)]=(8-(k+3)%8)%8+32:=by simp[UQ]
  rw[e3];unfold jV;omega
 ·rw[if_neg (by omega)];have e:gp (k%8) 1 n r l last=gX k 1 n l last++ix iH 288 iZ 32 l:=by
   unfold gp gX;rw[if_pos rfl,if_pos rfl,List.append_nil]
  rw[e,gm];have hm:min (lI 1 l) 286=286:=rfl;have hn:min (lJ 1 l) 30=30:=rfl;rw[hm,hn];have:=J5 iH iZ 288 32 286 30 (by omega) l (fun t ht=>by
   obtain⟨h1,_,h3⟩:=mR (ad t ht).1 (ad t ht).2;exact⟨(ad t ht).1,(ad t ht).2,h1,fun h=>(h3 h).2.2.2⟩)
  show _+UQ (ix iH 288 iZ 32 l)=_+(Vb (iC l) iH 286+Vb (iq l) iZ 30+kD l)
  rw[this]
 ·rw[if_neg (by omega)];have e:gp (k%8) 2 n r l last=gX k 2 n l last++ix (ja l) (nA l) (jb l) (nB l) l:=by
   unfold gp gX;rw[if_neg (show¬(2:Nat)=1 by omega),if_pos rfl,if_neg (show¬(2:Nat)=1 by omega),if_pos rfl,List.append_assoc]
  rw[e,gm];obtain⟨_,_,_,_,a1,a2,b1,b2,hA,hB⟩:=lO l (by omega);have hm:min (lI 2 l) 286=nA l:=by show min (nA l) 286=nA l;omega
  have hn:min (lJ 2 l) 30=nB l:=by show min (nB l) 30=nB l;omega
  rw[hm,hn];have:=J5 (ja l) (jb l) (nA l) (nB l) (nA l) (nB l) (by omega) l (fun t ht=>by
   obtain⟨h1,_,h3⟩:=mR (ad t ht).1 (ad t ht).2;exact⟨(ad t ht).1,(ad t ht).2,(hA _ h1 (zy ht)).1,fun h=>(hB _ (h3 h).2.2.2 (zz ht h)).1⟩)
  show _+UQ (ix (ja l) (nA l) (jb l) (nB l) l)=_+(Vb (iC l) (ja l) (nA l)+Vb (iq l) (jb l) (nB l)+kD l)
  rw[this]
theorem Uo(k:Int):prog.built 99 [(2,ae ak k)]=some #[af none 0 0,ae .u64 0,ae ak k]:=by kernel_rfl
theorem Uq(kind:Nat)(l:List fi)(hl:l.length<=1000000):lI kind l<=288/\lJ kind l<=32:=by
 obtain⟨_,_,_,_,a1,a2,b1,b2,_⟩:=lO l hl;unfold lI lJ;constructor
 ·split
  ·omega
  ·split<;>omega
 ·split
  ·omega
  ·split<;>omega
theorem Ur(w:au)(a kind n gc:Nat)(r:Nat->Nat)(l:List fi)(ha:a<=7)(aY:kind<=2)(hn:n<=65535)(hr:∀j,r j<256)(aV:iw w gc 317 (kg l) 153)(hl:l.length<=65535)(av:∀t∈l,fH t=true/\t.x<256):
  ax prog 162 #[ae ak (a:Int),ae .u8 (kind:Int),ae ak (n:Int),ag (some ⟨gc,0,none⟩)] w fun e w'=>e=aq (ae ak ((UQ (gp a kind n r l false):Nat):Int))/\aS w.heap.size w w':=by
 have ad:=Un a kind n r l false aY hl av
 rw[Nat.mod_eq_of_lt (show a<8 by omega)]at ad
 have a7:=xh (a:=a) (last:=false) aY hn hr hl av
 obtain⟨om,on⟩:=Uq kind l (by omega)
 obtain⟨T,hT⟩:=fb (UQ (gp a kind n r l false))
 obtain⟨O,hO⟩:=fb (UQ (gX a kind n l false))
 rw[<-hT]at ad a7⊢
 rw[<-hO]at ad
 have bD:O<=T:=by omega
 obtain⟨W1,aW⟩:=fb (gi w #[af none 0 0,ae .u64 0,ae ak 0] #[af none 0 0,ae .u64 0,ae ak (a:Int)] 99)
 have b1:aS w.heap.size w W1:=by rw[aW];exact km _ _ _ _
 have aT:W1.heap[w.heap.size]?=some (ao #[af none 0 0,ae .u64 0,ae ak (a:Int)] 99 (0,0)):=by rw[aW];exact kO w _ _ _
 obtain⟨S,hS⟩:∃S:Nat->Prop,S=fun j=>j<w.heap.size:=⟨_,rfl⟩
 have a8:gq W1 S w.heap.size w.heap.size (fun _=>0) a:=by
  refine⟨⟨fun _=>by show 0<256;omega,fun _ _=>rfl,Nat.two_pow_pos _⟩,none,0,?_⟩;rw[show a/8=0 by omega,Nat.mod_eq_of_lt (show a<8 by omega)];exact⟨Nat.le_refl _,by have:=(Array.getElem?_eq_some_iff.1 aT).1;omega,by rw[hS];omega,aT,World.ownsRow_nil _ _ _ _,fun j h=>by simp[Value.ownBlock]at h,fun j h=>by rw[hS]at h;have:=b1.size;omega⟩
 have aZ:S gc:=by rw[hS];exact aV.lt
 have aU:iw W1 gc 317 (kg l) 153:=aV.below b1 aV.lt
 have hop:=J4 W1 S w.heap.size w.heap.size (fun _=>0) a n gc kind l false a8 aY hn (by omega) aZ aU hl av (by rw[<-hO];omega)
 have a9:∀j,j<w.heap.size->S j:=fun j hj=>by rw[hS];exact hj
 have bf:=fa hop;have HO:=fa hO;have bg:=fa ad;have bx:=fa aW;have B1:=fa b1;have bj:=fa aU;have bz:=fa aZ;have bE:=fa a9;have bA:=fa av
 clear hop hO ad aW b1 aT a8 aZ aU aV a9 hS hT av hr
 go_enter func162,ntmps162
 go_wp2_with (first
  |(refine aE rfl 99 #[(2,.tmp 13)] rfl (some 14) rfl #[af none 0 0,ae .u64 0,ae ak (a:Int)] ?_ ?_;focus(simpa[Act.eval]using Uo (a:Int)))
  |(refine aD rfl _ _ _ rfl rfl w.heap.size #[af none 0 0,ae .u64 0,ae ak (a:Int)] rfl rfl 99 #[af none 0 0,ae .u64 0,ae ak 0] (aH w _) (rJ _ _ _) rfl (by simp[Value.oneCell']) ?_;change wpList _ _ _ _ _ (gi w #[af none 0 0,ae .u64 0,ae ak 0] #[af none 0 0,ae .u64 0,ae ak (a:Int)] 99);rw[<-bx.out])
  |fail)
 refine bf.out.mono ?_
 rintro e w2 ⟨A1,c1,A2,c2,rfl,a1,a2,ah,bl,bn⟩
 rw[<-HO.out]at ah
 have bq:=yu w2 S w.heap.size w.heap.size _ (a+O) ah (by omega)
 have a3:=fa bq
 have aX:iw w2 gc 317 (kg l) 153:=(bl gc bz.out).trans bj.out
 obtain⟨M,hM⟩:=fb (lI kind l)
 obtain⟨N,hN⟩:=fb (lJ kind l)
 rw[<-hM]at a1 om⊢
 rw[<-hN]at a2 on⊢
 have ad:=bg.out
 rw[<-hM,<-hN]at ad
 have a4:=RZ w2.drew gc l aX.drew (by omega) bA.out A1 M c1 (oP kind l) A2 N c2 (oQ kind l) a1 a2 _ _ rfl rfl
 obtain⟨C,hC⟩:=fb (Vb (iC l) (oP kind l) (min M 286)+Vb (iq l) (oQ kind l) (min N 30)+kD l)
 rw[<-hC]at a4 ad
 have br:=fa a4
 have a5:=fa (show aS w.heap.size w w2 from B1.out.trans bn)
 have al:=fa ad
 clear bq ah a1 a2 aX hM hN hC a4 bl bn bf bg ad
 go_wp2_with fail
 refine a3.out.mono ?_
 rintro e w3 ⟨rfl,rfl⟩
 have eO:((a+O:Nat):Int)-(a:Int)=(O:Int):=by omega
 by_cases bt:kind=0
 ·subst bt;have a6:T=O+8*n:=by rw[al.out,if_pos rfl]
  clear al br a3;subst a6;have bB:(a:Int)+(O:Int)-(a:Int)=(O:Int):=by omega
  go_wp2;go_ret;exact⟨by first|rfl|go_num,a5.out.drew⟩
 ·have bF:((kind:Int)==0)=false:=by rw[beq_eq_false_iff_ne];omega
  have a6:T=O+C:=by rw[al.out,if_neg bt]
  clear al a3;subst a6;have bB:(a:Int)+(O:Int)-(a:Int)=(O:Int):=by omega
  go_wp2_with fail
  refine br.out.mono ?_;rintro e w4 ⟨rfl,bu⟩;have bC:=fa (a5.out.drew.trans (bu.mono a5.out.drew.size));clear bu;go_wp2;go_ret;exact⟨by first|rfl|go_num,bC.out⟩
theorem Us:Qf:=by
 intro w a A1 rn rc r A2 m c2 l bX bY av bK bL bj aT;obtain⟨hm,ad,_⟩:=bL;obtain⟨V,hV⟩:=fb (xi a rn r l);obtain⟨E,hE⟩:=fb (rp a rn l);rw[<-hV,<-hE];have ah:V=if E=0 then uZ a.toNat rn r l else 0:=by rw[hV,hE];rfl
 clear hV;have bl:=fa (Below.refl w.heap.size w);by_cases y0:a<0
 ·have d0:decide (a<0)=true:=kc y0;obtain rfl:E=2:=by rw[hE];unfold rp tC;rw[if_pos (.inl y0)]
  obtain rfl:V=0:=by rw[ah,if_neg (by omega)]
  clear av ad aT hE ah;go_enter func119,ntmps119
  go_wp2;go_ret2;exact⟨rfl,bl.out⟩
 have d0:decide (a<0)=false:=jd y0;by_cases y1:7<a
 ·have d1:decide (7<a)=true:=kc y1;obtain rfl:E=2:=by rw[hE];unfold rp tC;rw[if_pos (.inr y1)]
  obtain rfl:V=0:=by rw[ah,if_neg (by omega)]
  clear av ad aT hE ah;go_enter func119,ntmps119
  go_wp2;go_ret2;exact⟨rfl,bl.out⟩
 have d1:decide (7<a)=false:=jd y1;have aX:E=my 0 rn l:=by rw[hE];unfold rp tC;rw[if_neg (by omega)]
 clear hE;obtain⟨p,rfl⟩:=Int.eq_ofNat_of_zero_le (show 0<=a by omega);have aY:=IX w 0 A1 rn rc A2 m c2 l (by omega) hm ad bj bK aT;rw[<-aX]at aY;have a9:=fa aY;by_cases he:E=0
 ·subst he;obtain⟨_,n2,l2,a6⟩:=Ei aX.symm;have aZ:∀t∈l,fH t=true/\t.x<256:=fun t ht=>⟨a6 t ht,(aT t ht).1⟩
  rw[if_pos rfl,Int.toNat_natCast]at ah;have bM:p<=7:=by omega
  obtain⟨f,hf⟩:∃f:Nat->Nat,f=fun k=>UQ (gp p k rn r l false):=⟨_,rfl⟩
  have bn:V=shF f 2:=by rw[ah,hf];rfl
  have aV:∀(U:au) (gc k:Nat),k<=2->iw U gc 317 (kg l) 153->ax prog 162 #[ae ak (p:Int),ae .u8 (k:Int),ae ak (rn:Int),ag (some ⟨gc,0,none⟩)] U fun e w'=>e=aq (ae ak ((f k:Nat):Int))/\aS U.heap.size U w':=fun U gc k hk hg=>by
   rw[hf];exact Ur U p k rn gc r l bM hk n2 av.1.1 hg l2 aZ
  have bq:∀k,k<=2->f k<=4320000:=fun k hk=>by rw[hf];exact xh hk n2 av.1.1 l2 aZ
  have bN:=fa aZ;have bO:=fa bn;have bP:=fa ad;have HM:=fa hm;have aW:=fa aV;have br:=fa bq
  clear aY aX aZ ah ad hm av aT a6 hf bn aV bq;go_enter func119,ntmps119
  go_wp2_with fail
  refine a9.out.mono ?_;rintro e w1 ⟨rfl,al⟩;have bt:=IU w1 A2 m c2 l HM.out ((bP.out.below al fe).more al.size) bj bN.out;have bu:=fa bt;have a1:=fa al
  clear bt al a9;go_wp2_with fail
  refine bu.out.mono ?_;rintro e w2 ⟨rfl,hg,bx⟩;have aU:=aW.out w2 w1.heap.size 0 (by omega) hg;have a2:=fa aU;have bz:=fa (a1.out.trans (bx.mono a1.out.size));have bf:=fa hg
  clear aU bx hg bu;go_wp2_with fail
  refine a2.out.mono ?_;rintro e w3 ⟨rfl,bg⟩;have bA:=fa (bz.out.trans (bg.mono bz.out.size));have a3:=fa (bf.out.below bg bf.out.lt)
  clear bg a2 bf;obtain⟨gc,a7⟩:=fb (w1.heap.size);rw[<-a7]at a3⊢;clear a7;obtain⟨W4,a4⟩:=fb (w3.alloc (ao #[ae .u8 1,ae .u8 2] 5));have b4:aS w3.heap.size w3 W4:=by rw[a4];exact fz.alloc fe _
  have a8:W4.heap[w3.heap.size]?=some (ao #[ae .u8 1,ae .u8 2] 5 (0,0)):=by rw[a4];exact aH w3 _
  have bQ:=fa a4;have bB:=fa (a3.out.below b4 a3.out.lt);have bC:=fa (bA.out.trans (b4.mono bA.out.size));have HN:=fa a8
  clear a4 b4 a8 a3;go_wp2_with (first|rw[<-bQ.out]|fail)
  go_loopw [10,11,36] (fun kv nv iv wr=>∃(i s:Nat),i<=2/\s<=2/\aR (s=shF f i)/\kv=ae .u8 (s:Int)/\nv=ae ak ((f s:Nat):Int)/\iv=ae ak (i:Int)/\aR (aS W4.heap.size W4 wr)) (fun _ _ iv _=>2-(aQ iv).toNat)
  case atStart=>exact⟨0,0,by omega,by omega,fa rfl,rfl,rfl,rfl,fa fz⟩
  case round=>
   obtain⟨i,s,hi,bD,HS,rfl,rfl,rfl,HB⟩:=hrel;have bE:w3.heap.size<W4.heap.size:=(Array.getElem?_eq_some_iff.1 HN.out).1;by_cases bZ:i<2
   ·have bF:(i:Int)<2:=by omega
    have bR:wr.cell? ⟨w3.heap.size,i,none⟩=some (ae .u8 ((i+1:Nat):Int)):=by
     rw[HB.out.cell (p:=⟨w3.heap.size,i,none⟩) bE,aI W4 w3.heap.size i _ _ (0,0) HN.out];rcases i with _|_|i
     ·rfl
     ·rfl
     ·omega
    obtain⟨j,hj⟩:=fb (i+1);rw[<-hj]at bR;have a5:shF f j=if f j<f s then j else s:=by rw[hj,HS.out];rfl
    have aU:=aW.out wr gc j (by omega) (bB.out.below HB.out bB.out.lt);have bS:=br.out j (by omega);have bT:=br.out s bD;obtain⟨x,hx⟩:=fb (f j);obtain⟨y,hy⟩:=fb (f s);rw[<-hx]at aU bS a5;rw[<-hy]at bT a5⊢;have a2:=fa aU;have bG:=fa a5;have HX:=fa hx;have HY:=fa hy;have HJ:=fa hj
    have bU:j<=2:=by omega
    clear aU a5 hx hy hj;go_wp2_with fail
    refine a2.out.mono ?_;rintro e w5 ⟨rfl,bH⟩;have bI:=fa (HB.out.trans (bH.mono HB.out.size));clear bH;by_cases bJ:x<y
    ·have bV:(x:Int)<(y:Int):=by omega
     go_wp2;go_roundw
     case rel=>exact⟨i+1,j,by omega,bU,fa (by rw[<-HJ.out,bG.out,if_pos bJ]),rfl,by rw[HX.out],by go_num,bI⟩
     case measure=>simp[aQ];omega
    ·have bV:¬(x:Int)<(y:Int):=by omega
     go_wp2;go_roundw
     case rel=>exact⟨i+1,s,by omega,bD,fa (by rw[<-HJ.out,bG.out,if_neg bJ]),rfl,by rw[HY.out],by go_num,bI⟩
     case measure=>simp[aQ];omega
   ·obtain rfl:i=2:=by omega
    have bF:¬((2:Nat):Int)<2:=by omega
    obtain rfl:s=V:=by rw[HS.out,bO.out]
    have bW:=fa (bC.out.trans (HB.out.mono bC.out.size));go_wp2;go_ret2;exact⟨rfl,bW.out⟩
 ·obtain rfl:V=0:=by rw[ah,if_neg he]
  have b0:(E==0)=false:=by rw[beq_eq_false_iff_ne];exact he
  clear aY aX ah ad hm av aT;go_enter func119,ntmps119
  go_wp2_with fail
  refine a9.out.mono ?_;rintro e w1 ⟨rfl,al⟩;have a1:=fa al;clear al;go_wp2;go_ret2;exact⟨rfl,a1.out⟩
end Go.Proofs.YtgokdgcmkcmjeaaGreat
