/-
  Words and walks.
-/
import Derived.Deep.RegionWith
import Derived.Lib.Bytes
import Derived.Test.YtgokdgcmkcmjeaaGreatqkaa
import Derived.Test.YtgokdgcmkcmjeaaGreatqkab
import Derived.Test.YtgokdgcmkcmjeaaGreatqkad
set_option maxRecDepth 100000
set_option maxHeartbeats 16000000
namespace Go.Proofs.YtgokdgcmkcmjeaaGreat
open Value renaming int → ae, slice → af, pointer → ag, bool → aj
open IntKind renaming i64 → ak
open Obj renaming cells → ao
open Ending renaming returned → aq
open Go renaming World → au, Addr → aw, Calls → ax, Value → ay, wpList_load_row → aF, wpList_load_mid → aG, heap_alloc_new → aH
open Go.RowKit renaming intOf → aQ, Hid → aR, Below → aS
open _root_.Go.Proofs.Tryz
open Go.RowKit Go.ChangeShapes Go.WideShapes Go.ChangeAt Go.Joins
theorem tU{w:au}{X:Nat}{s x:Int}(h0:w.cell? ⟨X,0,none⟩=some (ae ak s))(h1:w.cell? ⟨X,1,none⟩=some (ae ak x)):w.rangeAt X 0 (kQ (s,x)):=by
 intro i v hv;rcases i with _|_|i
 ·simp[kQ]at hv;subst hv;exact h0
 ·simp[kQ]at hv;subst hv;exact h1
 ·simp[kQ]at hv
theorem Oz{U w':au}{x y:ay}{t:TypeId}(h:nk (U.alloc (ao #[x,y] t)).drew w'):mH w' U.heap.size x y:=by
 obtain⟨k,rfl⟩:=h;have h:=mH.new U x y t;exact⟨h.lt,h.c0,h.c1,h.f0,h.f1⟩
theorem OC{w:au}{base sz n c:Nat}{e:TypeId}{A:Option aw}{xs:List ay}(h:w.ownsRow base e sz (af A n c) n xs):∀b o,A=some ⟨b,o,none⟩->base<=b:=fun b o hA=>by
 rcases h.2 with⟨hv,_⟩|⟨g,cap,cur,hv,hg,_⟩
 ·injection hv with h1;rw[hA]at h1;cases h1
 ·injection hv with h1;rw[hA]at h1;injection h1 with h1;injection h1 with h1;omega
theorem OD(w:au)(A:Option aw)(n c:Nat)(f:Nat->Nat)(hr:fq w w.heap.size A n c f):
  ax prog 126 #[af A n c] w fun e w'=>∃A' n' c',e=aq (.tuple #[af A' n' c',ae ak (rT f n)])/\pM w' w'.heap.size A' n' c' (wR f n)/\aS w.heap.size w w'/\(∀b o,A'=some ⟨b,o,none⟩->w.heap.size<=b):=by
 replace hr:=hr.1
 have a4:∀(fn:Fn) (first cap:Array ay) (w:au),(Instr.makeFunc fn first cap).run prog w=.ok (.func fn first cap) w:=fun _ _ _ _=>rfl
 have bZ:=fa a4
 obtain⟨E,hE⟩:=fb (rT f n)
 obtain⟨V,hV⟩:=fb (wR f n)
 have aT:V=if E=0 then ki f n 0 else[]:=by rw[hV,hE];rfl
 rw[<-hE,<-hV]
 unfold rT at hE
 have HR:=fa hr;have HE:=fa hE;have HV:=fa aT
 obtain⟨K,a5⟩:=fb (w.heap.size)
 obtain⟨W1,aV⟩:=fb (w.alloc (ao #[af A n c] 22))
 have bE:aS w.heap.size w W1:=by rw[aV];exact fz.alloc fe _
 have bq:W1.cell? ⟨K,0,none⟩=some (af A n c):=by rw[aV,a5];exact(cell_of_row _ _ 0 _ _ (0,0) (aH w _)).trans rfl
 have bF:w.heap.size<W1.heap.size:=by rw[aV];simp
 have aU:=fa bE;have b0:=fa bq;have b1:=fa bF;have bG:=fa aV;have br:=fa a5
 clear hr hE hV aT a4 bE bF aV
 by_cases bg:320<n
 ·have b2:(320:Int)<(n:Int):=by omega
  obtain rfl:E=4:=by rw[HE.out,if_pos bg]
  obtain rfl:V=[]:=by rw[HV.out,if_neg (by omega)]
  clear HE HV a5;go_enter func126,ntmps126
  go_wp2_with (rw[<-bG.out,<-br.out])
  go_ret2;exact⟨none,0,0,rfl,pM.nil _ _,aU.out,fun _ _ e=>by cases e⟩
 have b2:¬(320:Int)<(n:Int):=by omega
 have he:=HE.out
 rw[if_neg bg]at he
 have bt:=fa he
 clear he HE a5
 go_enter func126,ntmps126
 go_wp2_with (rw[<-bG.out,<-br.out])
 go_loopw [17] (fun iv wr=>∃i:Nat,i<=n/\iv=ae ak (i:Int)/\aR (∀j,j<i->f j<=15)/\W1=wr) (fun iv _=>n-(aQ iv).toNat)
 case atStart=>exact⟨0,Nat.zero_le _,rfl,fa (fun j hj=>by omega),rfl⟩
 case round=>
  obtain⟨i,hi,rfl,HK,rfl⟩:=hrel;by_cases ah:i<n
  ·have aW:(i:Int)<(n:Int):=by omega
   obtain⟨b,o,rfl,bu,hc⟩:=HR.out.2 (by omega);have c1:=(aU.out.cell (p:=⟨b,o+i,none⟩) bu).trans (hc i ah);have aX:=HR.out.1 i;by_cases bH:15<f i
   ·obtain rfl:E=2:=by rw[bt.out,if_neg (fun q=>by have:=q i ah;omega)]
    obtain rfl:V=[]:=by rw[HV.out,if_neg (by omega)]
    obtain⟨x,hx⟩:=fb (f i);rw[<-hx]at c1 bH aX;have b3:(15:Int)<(x:Int):=by omega
    clear hc hx bq;go_wp2;go_ret2;exact⟨none,0,0,rfl,pM.nil _ _,aU.out,fun _ _ e=>by cases e⟩
   ·have b4:aR (∀j,j<i+1->f j<=15):=fa fun j hj=>by
     rcases Nat.lt_or_ge j i with g|g
     ·exact HK.out j g
     ·have e:j=i:=by omega
      subst e;omega
    obtain⟨x,hx⟩:=fb (f i);rw[<-hx]at c1 bH aX;have b3:¬(15:Int)<(x:Int):=by omega
    clear hc hx bq;go_wp2;go_roundw
    case rel=>exact⟨i+1,by omega,by go_num,b4,trivial⟩
    case measure=>simp[aQ];omega
  ·obtain rfl:i=n:=by omega
   have aW:¬(i:Int)<(i:Int):=by omega
   obtain rfl:E=0:=by rw[bt.out,if_pos HK.out]
   have hv:V=ki f i 0:=by rw[HV.out,if_pos rfl]
   have b5:=fa hv;have b6:=HK;have a4:=bZ.out;clear hv bt ah hi;go_wp2;clear a4;go_loopw [7,8] (fun ov av wr=>∃(p a:Nat) (At:Option aw) (ct:Nat) (pre:List (Int×Int)),a<=i/\p<=a/\ov=af At p ct/\av=ae ak (a:Int)/\aR (pre++ki f i a=ki f i 0)/\aR (wr.ownsRow W1.heap.size 208 2 (af At p ct) p (Vk pre))/\aR (aS W1.heap.size W1 wr)) (fun _ av _=>i-(aQ av).toNat)
   case atStart=>exact⟨0,0,none,0,[],Nat.zero_le _,Nat.le_refl _,rfl,rfl,fa rfl,fa (World.ownsRow_nil _ _ _ _),fa fz⟩
   case round=>
    obtain⟨p,a,At,ct,pre,ha,cq,rfl,rfl,HK,HO,bx⟩:=hrel;have HB:=fa (aU.out.trans (bx.out.mono aU.out.size));have b7:aR (K<W1.heap.size):=fa (by rw[br.out];exact b1.out);have HC:=fa ((bx.out.cell (p:=⟨K,0,none⟩) b7.out).trans b0.out);by_cases ah:a<i
    ·have aW:(a:Int)<(i:Int):=by omega
     obtain⟨b,o,rfl,bu,hc⟩:=HR.out.2 (by omega);have bz:∀j,j<i->wr.cell? ⟨b,o+j,none⟩=some (ae .u8 (f j:Int)):=fun j hj=>(HB.out.cell (p:=⟨b,o+j,none⟩) bu).trans (hc j hj)
     have c1:=bz a ah;have aX:=HR.out.1 a;obtain⟨kn,bI⟩:=fb (decide (mq f a=some (f a)));have cr:(a:Int)<(i:Int):=by omega
     have cu:(0:Int)<=(a:Int):=by omega
     obtain⟨g1,g2,g3⟩:=zr (f:=f) ah b6.out;obtain⟨l1,l2⟩:=uM (f:=f) ah;have a6:=fa bI;have b8:=fa bz;have bJ:=fa g1
     have ck:=HC.out;obtain⟨x,hx⟩:=fb (f a);rw[<-hx]at c1 aX;have HX:=fa hx;clear hc bz bI g1 hx;go_wp2;go_cut [9] (fun v9 wx=>v9=aj kn/\∃q,wx=wr.drewN q)
     case first=>
      by_cases a7:a=0
      ·have dz:decide (0<(a:Int))=false:=by simp;omega
       have b9:decide (0<a)=false:=by simp;omega
       obtain rfl:kn=false:=by rw[a6.out];exact jd (fun q=>by unfold mq at q;rw[if_pos a7]at q;cases q)
       clear a7;go_quiet (fail)
       go_wp2;go_meet;exact⟨rfl,_,rfl⟩
      ·have dz:decide (0<(a:Int))=true:=by simp;omega
       have b9:decide (0<a)=true:=by simp;omega
       obtain⟨d,hd⟩:=fb (a-1);have ed:(a:Int)-1=(d:Int):=by omega
       have cv:(d:Int)<(i:Int):=by omega
       have cw:(0:Int)<=(d:Int):=by omega
       have c0:=b8.out d (by omega);have aY:=a6.out;unfold mq at aY;rw[if_neg a7,<-hd,<-HX.out]at aY;obtain⟨y,hy⟩:=fb (f d);rw[<-hy]at c0 aY;have cx:((y:Int)==(x:Int))=kn:=by
        rw[aY];by_cases e:y=x
        ·subst e;simp
        ·rw[jd (fun q=>e (by injection q))];simp;omega
       clear aY hy hd a7;go_quiet (fail)
       go_wp2;go_meet;exact⟨rfl,_,rfl⟩
     case rest=>
      obtain⟨rfl,q,rfl⟩:=hcut;obtain⟨U,hU⟩:=fb (wr.drewN q);have a8:aS w.heap.size w U:=hU▸ph HB.out q;have bK:aS W1.heap.size W1 U:=hU▸ph bx.out q;have bL:U.ownsRow W1.heap.size 208 2 (af At p ct) p (Vk pre):=hU▸HO.out;have uk:U.cell? ⟨K,0,none⟩=some (af (some ⟨b,o,none⟩) i c):=hU▸ck;have u1:U.cell? ⟨b,o+a,none⟩=some (ae .u8 (x:Int)):=hU▸c1;have bA:K<U.heap.size:=by have:=World.block_lt_of_cell? U ⟨K,0,none⟩ uk;exact this
      have bM:b<U.heap.size:=by have:=World.block_lt_of_cell? U ⟨b,o+a,none⟩ u1;exact this
      have bN:fB U w.heap.size (some ⟨b,o,none⟩) i f:=HR.out.below a8 fe;obtain⟨L,hL⟩:=fb (mo f i a);obtain⟨R,a9⟩:=fb (lL f i a);obtain⟨⟨rs,rx⟩,rk⟩:=R;rw[<-hL]at l1 l2;rw[<-a9]at g2 g3;have bj:iX (mq f a) x L=((rs,rx),rk):=by rw[HX.out,hL];exact a9.symm
      have ca:aR (∀V,aS U.heap.size U V->ax prog 171 #[ae ak (a:Int),ag (some ⟨K,0,none⟩)] V fun e w'=>e=aq (ae ak (L:Int))/\nk V w'):=
       fa fun V hV=>by rw[hL];exact Ow V K w.heap.size (some ⟨b,o,none⟩) i c f a ((hV.cell (p:=⟨K,0,none⟩) bA).trans uk) (bN.below (hV.mono a8.size) fe) ah (by omega)
      have cb:aR (∀V:au,ax prog 172 #[ae .u8 (x:Int),aj kn,ae ak (L:Int)] V fun e w'=>e=aq (.tuple #[.agg #[ae ak rs,ae ak rx],ae ak (rk:Int)])/\aS V.heap.size V w'):=
       fa fun V=>by have h:=Ox V (mq f a) x L kn (by rw[a6.out,HX.out]) (by have:=aX;omega) l1 (by omega);rw[bj]at h;exact h
      have cf:aR (ki f i a=(rs,rx)::ki f i (a+rk)):=fa (by rw[bJ.out,<-a9]);have cy:=fa a8;have bO:=fa bK;have cg:=fa bL;have bP:=fa bA;have bQ:=fa bM
      rw[<-hU];have aZ:aS U.heap.size U U.drew:=fz.drew;have ch:(U.alloc (ao #[ae ak 0,ae ak 0] 208)).drew.cell? ⟨K,0,none⟩=some (af (some ⟨b,o,none⟩) i c):=((((Below.refl U.heap.size U).alloc fe (ao #[ae ak 0,ae ak 0] 208)).cell (p:=⟨K,0,none⟩) bA).trans uk);have cj:(U.alloc (ao #[ae ak 0,ae ak 0] 208)).drew.cell? ⟨b,o+a,none⟩=some (ae .u8 (x:Int)):=((((Below.refl U.heap.size U).alloc fe (ao #[ae ak 0,ae ak 0] 208)).cell (p:=⟨b,o+a,none⟩) bM).trans u1);have cl:U.drew.cell? ⟨K,0,none⟩=some (af (some ⟨b,o,none⟩) i c):=uk;have cm:U.drew.cell? ⟨b,o+a,none⟩=some (ae .u8 (x:Int)):=u1;clear hU a8 bK bL bN hL a9 bj a6 bJ HX c1 ck;go_wp2_with fail
      go_cut [10,11] (fun v10 v11 wx=>v11=ae ak (rk:Int)/\∃X,v10=ag (some ⟨X,0,none⟩)/\mH wx X (ae ak rs) (ae ak rx)/\aS U.heap.size U wx)
      case first=>
       go_region_law (first
        |(refine qu rfl 172 _ _ rfl (enters_of func172 (by kernel_rfl) rfl) (#[ae .u8 (x:Int),aj kn,ae ak (L:Int)]) (by simp[Act.put,Act.eval,List.setIfInBounds_toArray,List.set_cons_zero,List.set_cons_succ]) (cb.out _) ?_;rintro e w7 ⟨rfl,bf⟩;have al:aS U.heap.size U w7:=(by first|exact ad.trans (bf.mono ad.size)|exact(ad.alloc ad.size _).trans (bf.mono (ad.alloc ad.size _).size));(first|(have a1:=bB.below bf bB.lt;obtain⟨z1,z2,z3,z4,z5⟩:=id a1)|(have a1:=(mH.new w6 _ _ _).below bf (mH.new w6 _ _ _).lt;obtain⟨z1,z2,z3,z4,z5⟩:=id a1)|skip);refine⟨_,rfl,?_⟩)
        |(refine Oy rfl 171 #[ag (some ⟨K,0,none⟩)] _ _ _ rfl (by simp[Act.put,Act.eval,List.setIfInBounds_toArray,List.set_cons_zero,List.set_cons_succ]) (enters_of func171 (by kernel_rfl) rfl) (#[ae ak (a:Int),ag (some ⟨K,0,none⟩)]) (by simp[Act.put,Act.eval,List.setIfInBounds_toArray,List.set_cons_zero,List.set_cons_succ]) (ca.out _ (by first|assumption|exact aZ.alloc fe _)) ?_;rintro e w6 ⟨rfl,bC⟩;have ad:aS U.heap.size U w6:=bC.below (by first|assumption|exact aZ.alloc fe _);(first|(have bB:=Oz bC;obtain⟨y1,y2,y3,y4,y5⟩:=id bB)|skip);have k6:=(ad.cell (p:=⟨K,0,none⟩) bP.out).trans uk;have u6:=(ad.cell (p:=⟨b,o+a,none⟩) bQ.out).trans u1;have k8:=((ad.alloc ad.size (ao #[ae ak 0,ae ak 0] 208)).cell (p:=⟨K,0,none⟩) bP.out).trans uk;have u8:=((ad.alloc ad.size (ao #[ae ak 0,ae ak 0] 208)).cell (p:=⟨b,o+a,none⟩) bQ.out).trans u1;clear bC;refine⟨_,rfl,?_⟩))
       all_goals(
        go_wp2_with fail
        go_meet;first
         |exact⟨rfl,w7.heap.size,rfl,mH.new w7 _ _ _,al.alloc al.size _⟩
         |exact⟨rfl,w6.heap.size,rfl,a1.set _ _,(al.setCell (p:=⟨w6.heap.size,0,none⟩) ad.size _).setCell (p:=⟨w6.heap.size,1,none⟩) ad.size _⟩
         |exact⟨rfl,U.heap.size,rfl,a1.set _ _,(al.setCell (p:=⟨U.heap.size,0,none⟩) fe _).setCell (p:=⟨U.heap.size,1,none⟩) fe _⟩)
      case rest=>
       obtain⟨rfl,X,rfl,bD,a2⟩:=hcut;obtain⟨wx,rfl⟩:∃wx:au,wx=wc:=⟨_,rfl⟩;have aT:=bO.out.trans (a2.mono bO.out.size);obtain⟨A',c',w',bl,bn,bR⟩:=xe wx W1.heap.size At p ct pre (uV cg.out a2) (rs,rx) (by omega) aT.size;have bS:=fa bl;have bT:=fa bn;have cn:=fa (aT.trans bR);have cp:=fa (show wx.rangeAt X 0 [ae ak rs,ae ak rx]from tU bD.c0 bD.c1)
       have bU:=fa (show(pre++[(rs,rx)])++ki f i (a+rk)=ki f i 0 by have bV:=HK.out;rw[cf.out]at bV;rw[List.append_assoc];exact bV);have hq:p+1<=a+rk:=by omega
       clear bl bn bR aT bD a2 uk u1 ch cj cl cm aZ;obtain⟨q,bW⟩:=fb (a+rk);have eq:(a:Int)+(rk:Int)=(q:Int):=by omega
       rw[<-bW]at g3 hq bU;clear bW;go_wp2_with (first
        |(refine aG rfl _ _ rfl X 0 rfl [ae ak rs,ae ak rx] _ cp.out underlying208 rfl jy ?_)
        |(at_builtin;refine wpList_append_run rfl (.tmp 55) (.tmp 57) 195 rfl (af At p ct) (af (some ⟨wx.heap.size,0,none⟩) 1 1) (af A' (p+1) c') w' rfl rfl bS.out ?_))
       go_roundw
       case rel=>exact⟨p+1,q,A',c',pre++[(rs,rx)],g3,hq,rfl,by go_num,bU,bT,cn⟩
       case measure=>simp[aQ];omega
    ·obtain rfl:a=i:=by omega
     have aW:¬(a:Int)<(a:Int):=by omega
     have hk:=HK.out;have ck:=HC.out;rw[KG fe,List.append_nil,<-b5.out]at hk;have a3:=pM.gD HO.out;have bX:=fa (OC HO.out);rw[hk]at a3;have bY:=fa a3;clear a3 hk ah;go_wp2;go_ret2;exact⟨At,p,ct,rfl,bY.out,HB.out,fun b o e=>Nat.le_trans aU.out.size (bX.out b o e)⟩
theorem Gr(w:au)(s:Int):ax prog 173 #[ae ak s] w fun e w'=>e=aq (.tuple #[ae ak (iR s),ae ak (ll s)])/\aS w.heap.size w w':=
 (Gq w s).mono fun _ _ ⟨a,b⟩=>⟨a,b▸Below.refl _ _⟩
theorem OE(s:Int)(L:List Nat):nS s L=pW s (L.getLast?.getD 0):=rfl
theorem OF(w:au)(A:Option aw)(m c:Nat)(l:List (Int×Int))(n:Int)(hr:pM w w.heap.size A m c l)(hm:m<=1000000)(_: -9223372036854775808<=n)(_:n<=9223372036854775807):
  ax prog 139 #[af A m c,ae ak n] w fun e w'=>∃A' n' c',e=aq (.tuple #[af A' n' c',ae ak (nh l n).1])/\n'=(nh l n).2.length/\fq w' w'.heap.size A' n' c' (fc (nh l n).2)/\aS w.heap.size w w'/\iT w' w.heap.size A' n':=by
 obtain⟨b3,b4,_⟩:=hr
 obtain⟨O,hO⟩:=fb (nh l n)
 rw[<-hO]
 unfold nh at hO
 have HT:=fa b4;have HM:=fa b3;have HO:=fa hO
 have b5:∀j,fc [] j<256:=fun j=>by unfold fc;simp
 have bj:=fa b5
 have HB:=fa (Below.refl w.heap.size w)
 clear b4 hO b3 b5
 by_cases y0:n<0
 ·have d0:decide (n<0)=true:=kc y0;obtain rfl:O=(2,[]):=by rw[HO.out,if_pos (.inl y0)]
  go_enter func139,ntmps139
  go_wp2;go_ret2;exact⟨none,0,0,rfl,rfl,fq.nil _ _ _ bj.out,HB.out,iT.nil _ _ _⟩
 have d0:decide (n<0)=false:=jd y0
 by_cases y1:320<n
 ·have d1:decide (320<n)=true:=kc y1;obtain rfl:O=(2,[]):=by rw[HO.out,if_pos (.inr y1)]
  go_enter func139,ntmps139
  go_wp2;go_ret2;exact⟨none,0,0,rfl,rfl,fq.nil _ _ _ bj.out,HB.out,iT.nil _ _ _⟩
 have d1:decide (320<n)=false:=jd y1
 obtain⟨N,rfl⟩:=Int.eq_ofNat_of_zero_le (show 0<=n by omega)
 have b6:O=Vq N l []:=by rw[HO.out,if_neg (by omega),Int.toNat_natCast]
 have cp:=fa b6
 have hN:N<=320:=by omega
 have cq:=Lk N (by omega)
 obtain⟨W1,bI⟩:=fb (w.alloc (ao (madeCells #[ae .u8 0] N) 5))
 have b7:aS w.heap.size w W1:=by rw[bI];exact fz.alloc fe _
 have b8:W1.ownsRow w.heap.size 5 1 (af (some ⟨w.heap.size,0,none⟩) 0 N) 0 (ft 0 (fc [])):=by rw[bI];exact Ll w N (by omega) _
 have cr:=fa b7;have cu:=fa b8;have cv:=fa bI
 clear b6 HO HB b7 b8 bI y0 y1
 go_enter func139,ntmps139
 go_wp2_with (rw[<-cv.out])
 clear cq
 go_loopw [6,22] (fun ov iv wr=>∃(i q:Nat) (At:Option aw) (ct:Nat) (L:List Nat),i<=m/\q<=N/\ov=af At q ct/\iv=ae ak (i:Int)/\aR (q=L.length)/\aR (Vq N (l.drop i) L=O)/\aR (∀x∈L,x<256)/\aR (wr.ownsRow w.heap.size 5 1 (af At q ct) q (ft q (fc L)))/\aR (aS w.heap.size w wr)) (fun _ iv _=>m-(aQ iv).toNat)
 case atStart=>exact⟨0,0,some ⟨w.heap.size,0,none⟩,N,[],Nat.zero_le _,Nat.zero_le _,rfl,rfl,fa rfl,fa cp.out.symm,fa (fun x hx=>by cases hx),cu,cr⟩
 case round=>
  obtain⟨i,q,At,ct,L,hi,cK,rfl,rfl,HQ,HP,HL,HW,HB⟩:=hrel;by_cases b9:i<m
  ·have ca:(i:Int)<(m:Int):=by omega
   have bJ:i<l.length:=by rw[<-HM.out];exact b9
   have bQ:=HT.out.below HB.out fe;obtain⟨b,o,rfl,cL,hc⟩:=bQ.at bJ;have bR:=bQ.range rfl bJ;have aX:=Oo (N:=N) bJ L;rw[HP.out]at aX;obtain⟨t,ht⟩:=fb (l.getD i ka);rw[<-ht]at bR aX;obtain⟨s,x⟩:=t;dsimp only at aX;have bq:=fa (show wr.rangeAt b (o+i*2) [ae ak s,ae ak x]from bR);have a6:=fa aX
   obtain⟨M,bu⟩:=fb (decide (pg s x));have br:aR (∀V:au,ax prog 175 #[.agg #[ae ak s,ae ak x]] V fun e w'=>e=aq (aj M)/\aS V.heap.size V w'):=fa fun V=>by rw[bu];exact Ou V s x
   obtain⟨W3,bx⟩:=fb (wr.alloc (ao #[ae ak s,ae ak x] 208));have av:aS wr.heap.size wr W3:=by rw[bx];exact fz.alloc fe _
   have cb:mH W3 wr.heap.size (ae ak s) (ae ak x):=by rw[bx];exact mH.new wr _ _ _
   have bO:W3.heap[wr.heap.size]?=some (ao #[ae ak s,ae ak x] 208 (0,0)):=by rw[bx];exact aH wr _
   have bt:=fa bx;have aW:=fa (HB.out.trans (av.mono HB.out.size));have a2:=fa cb;have a4:=fa bO
   have a8:aR (W3.ownsRow w.heap.size 5 1 (af At q ct) q (ft q (fc L))):=fa (mW HW.out av);clear hc bQ bR aX ht bJ bx av cb bO;by_cases aV:pg s x
   ·skip;obtain rfl:M=true:=by rw[bu];exact kc aV
    have ah:=a6.out;unfold pg at aV;rw[if_neg aV]at ah;have cf:=LB (xS s);have cg:(2^fI s:Nat)=zG (fI s):=rfl;obtain⟨p2,bS⟩:=fb (zG (fI s));rw[cg,<-bS]at aV;rw[<-bS]at cf;have bK:0<=s/\s<=18:=by omega
    obtain⟨X,rfl⟩:=Int.eq_ofNat_of_zero_le (show 0<=x by omega);have cw:X<=1000:=by omega
    have cx:gM s (X:Int)<=139:=Oq (by omega);obtain⟨T,hT⟩:=fb (gM s (X:Int));obtain⟨V,hV⟩:=fb (nS s L);have cy:V<256:=by rw[hV];exact Ot HL.out
    rw[<-hT]at cx;rw[<-hT,<-hV]at ah;have ch:(L=[])↔q=0:=by rw[HQ.out];exact List.length_eq_zero_iff.symm
    have cj:∀j,∀x∈L++List.replicate j V,x<256:=fun j y hy=>by
     rcases List.mem_append.1 hy with hy|hy
     ·exact HL.out y hy
     ·rw[List.mem_replicate]at hy;rw[hy.2];exact cy
    have bL:=fa cj;have a3:=fa ah;have bz:=fa ch
    have bM:aR (∀(Y:au) (v:Nat),v=L.getLast?.getD 0->ax prog 176 #[.agg #[ae ak s,ae ak (X:Int)],ae .u8 (v:Int)] Y fun e w'=>e=aq (.tuple #[ae .u8 (V:Int),ae ak (T:Int)])/\aS Y.heap.size Y w'):=
     fa fun Y v hv=>by
      have h:=Ov Y s X v cw bK;rw[<-hT,hv,<-OE,<-hV]at h;rw[hv];exact h
    clear ah cj ch aV cf cg bS bu hT hV a6;by_cases hq:q=0
    ·have ck:=fa hq;have dq:decide (0<(q:Int))=false:=by simp;omega
     have cz:decide (0<q)=false:=by simp;omega
     by_cases a5:s=16
     ·have cA:(s==16)=true:=by simp[a5]
      have ah:=a3.out;rw[if_pos (.inl ⟨a5,bz.out.2 hq⟩)]at ah;subst ah;clear a3 a5 hq bz bK;go_wp2_with (first
       |(refine aG rfl _ _ rfl b (o+i*2) rfl [ae ak s,ae ak (X:Int)] _ bq.out underlying208 rfl jy ?_)
       |(rw[<-bt.out];refine aF rfl _ _ rfl wr.heap.size rfl _ #[ae ak s,ae ak (X:Int)] (0,0) _ a4.out underlying208 rfl jy ?_))
      refine(br.out _).mono ?_;rintro e w2 ⟨rfl,ad⟩;have aU:=fa (aW.out.trans (ad.mono aW.out.size));have aT:aR (w2.ownsRow w.heap.size 5 1 (af At q ct) q (ft q (fc L))):=fa (mW a8.out ad);have al:=a2.out.below ad a2.out.lt;have z0:=al.c0;have a9:aR (w2.rangeAt wr.heap.size 0 [ae ak s,ae ak (X:Int)]):=fa (show w2.rangeAt wr.heap.size 0 (kQ (s,(X:Int)))from tU al.c0 al.c1);clear ad al;go_wp2;go_ret2;exact⟨none,0,0,rfl,rfl,fq.nil _ _ _ bj.out,aU.out,iT.nil _ _ _⟩
     have cA:(s==16)=false:=by simp[a5]
     have bT:aR (¬s=16):=fa a5;clear a5 hq bK;by_cases aY:N<q+T
     ·skip;have ah:=a3.out;rw[if_pos (.inr (by rw[<-HQ.out];exact aY))]at ah;subst ah;obtain⟨qt,a7⟩:=fb (q+T);have bU:(q:Int)+(T:Int)=(qt:Int):=by omega
      rw[<-a7]at aY;have dr:(N:Int)<(qt:Int):=by omega
      clear a3 a7 aY;go_wp2_with (first
       |(refine aG rfl _ _ rfl b (o+i*2) rfl [ae ak s,ae ak (X:Int)] _ bq.out underlying208 rfl jy ?_)
       |(rw[<-bt.out];refine aF rfl _ _ rfl wr.heap.size rfl _ #[ae ak s,ae ak (X:Int)] (0,0) _ a4.out underlying208 rfl jy ?_))
      refine(br.out _).mono ?_;rintro e w2 ⟨rfl,ad⟩;have aU:=fa (aW.out.trans (ad.mono aW.out.size));have aT:aR (w2.ownsRow w.heap.size 5 1 (af At q ct) q (ft q (fc L))):=fa (mW a8.out ad);have al:=a2.out.below ad a2.out.lt;have z0:=al.c0;have a9:aR (w2.rangeAt wr.heap.size 0 [ae ak s,ae ak (X:Int)]):=fa (show w2.rangeAt wr.heap.size 0 (kQ (s,(X:Int)))from tU al.c0 al.c1);clear ad al;skip;go_wp2_with (refine aG rfl _ _ rfl wr.heap.size 0 rfl [ae ak s,ae ak (X:Int)] _ a9.out underlying208 rfl jy ?_)
      refine(show ax prog 176 #[.agg #[ae ak s,ae ak (X:Int)],ae .u8 0] w2 _ from bM.out _ 0 (by rw[bz.out.2 ck.out];rfl)).mono ?_;rintro e w3 ⟨rfl,av⟩;have aZ:=fa (aU.out.trans (av.mono aU.out.size));have bf:aR (w3.ownsRow w.heap.size 5 1 (af At q ct) q (ft q (fc L))):=fa (mW aT.out av);clear av;go_wp2;go_ret2;exact⟨none,0,0,rfl,rfl,fq.nil _ _ _ bj.out,aZ.out,iT.nil _ _ _⟩
     have ah:=a3.out;rw[if_neg (by rintro(⟨g,h⟩|g);exact bT.out g;rw[<-HQ.out]at g;exact aY g)]at ah;have bV:=fa ah.symm;obtain⟨qt,a7⟩:=fb (q+T);have bU:(q:Int)+(T:Int)=(qt:Int):=by omega
     have dr:¬(N:Int)<(qt:Int):=by omega
     have cB:decide (N<qt)=false:=jd (by omega);have cl:q+T<=N:=by omega
     clear a3 ah a7 aY;go_wp2_with (first
      |(refine aG rfl _ _ rfl b (o+i*2) rfl [ae ak s,ae ak (X:Int)] _ bq.out underlying208 rfl jy ?_)
      |(rw[<-bt.out];refine aF rfl _ _ rfl wr.heap.size rfl _ #[ae ak s,ae ak (X:Int)] (0,0) _ a4.out underlying208 rfl jy ?_))
     refine(br.out _).mono ?_;rintro e w2 ⟨rfl,ad⟩;have aU:=fa (aW.out.trans (ad.mono aW.out.size));have aT:aR (w2.ownsRow w.heap.size 5 1 (af At q ct) q (ft q (fc L))):=fa (mW a8.out ad);have al:=a2.out.below ad a2.out.lt;have z0:=al.c0;have a9:aR (w2.rangeAt wr.heap.size 0 [ae ak s,ae ak (X:Int)]):=fa (show w2.rangeAt wr.heap.size 0 (kQ (s,(X:Int)))from tU al.c0 al.c1);clear ad al;skip;go_wp2_with (refine aG rfl _ _ rfl wr.heap.size 0 rfl [ae ak s,ae ak (X:Int)] _ a9.out underlying208 rfl jy ?_)
     refine(show ax prog 176 #[.agg #[ae ak s,ae ak (X:Int)],ae .u8 0] w2 _ from bM.out _ 0 (by rw[bz.out.2 ck.out];rfl)).mono ?_;rintro e w3 ⟨rfl,av⟩;have aZ:=fa (aU.out.trans (av.mono aU.out.size));have bf:aR (w3.ownsRow w.heap.size 5 1 (af At q ct) q (ft q (fc L))):=fa (mW aT.out av);clear av;clear z0;obtain⟨wo,rfl⟩:∃wo:au,wo=wr:=⟨_,rfl⟩;go_wp2;go_loopw [6,54] (fun ov kv wr=>∃(j p:Nat) (Ai:Option aw) (ci:Nat),j<=T/\p=q+j/\ov=af Ai p ci/\kv=ae ak (j:Int)/\aR (wr.ownsRow w.heap.size 5 1 (af Ai p ci) p (ft p (fc (L++List.replicate j V))))/\aR (aS w.heap.size w wr)) (fun _ kv _=>T-(aQ kv).toNat)
     case atStart=>exact⟨0,q,At,ct,Nat.zero_le _,rfl,rfl,rfl,fa (by rw[List.replicate_zero,List.append_nil];exact bf.out),aZ⟩
     case round=>
      obtain⟨j,p,Ai,ci,hj,bl,rfl,rfl,bA,bn⟩:=hrel;by_cases cC:j<T
      ·have bB:(j:Int)<(T:Int):=by omega
       obtain⟨r1,r2⟩:=Gn L j V;rw[<-HQ.out,<-bl]at r1 r2;obtain⟨A',c',w',bC,bD,ad⟩:=zB wr w.heap.size Ai p ci (fc (L++List.replicate (j+1) V)) (jz (bL.out _)) (by rw[<-r1];exact bA.out) V r2.symm (by omega) bn.out.size;have bW:=fa bC;have bE:=fa bD;have bF:=fa (bn.out.trans ad)
       have bg:p+1=q+(j+1):=by omega
       have bX:=fa bg;have cD:p<=1000:=by omega
       clear bC bD ad r1 r2 bl bg;go_wp2_with (at_builtin;refine wpList_append_run rfl (.tmp 56) (.tmp 58) 22 rfl (af Ai p ci) (af (some ⟨wr.heap.size,0,none⟩) 1 1) (af A' (p+1) c') w' rfl rfl bW.out ?_)
       go_roundw
       case rel=>
        exact⟨j+1,p+1,A',c',by omega,bX.out,rfl,by go_num,bE,bF⟩
       case measure=>simp[aQ];omega
      ·obtain rfl:j=T:=by omega
       have bB:¬(j:Int)<(j:Int):=by omega
       have bG:p=(L++List.replicate j V).length:=by rw[List.length_append,List.length_replicate,<-HQ.out];exact bl
       have bY:=fa bG;have bZ:p<=N:=by omega
       clear bG;go_wp2;go_roundw
       case rel=>exact⟨i+1,p,Ai,ci,L++List.replicate j V,by omega,bZ,rfl,by go_num,bY,bV,bL.out j|>fa,bA,bn⟩
       case measure=>simp[aQ];omega
    have dq:decide (0<(q:Int))=true:=by simp;omega
    have cz:decide (0<q)=true:=by simp;omega
    have bT:aR (q=0->False):=fa hq;obtain⟨z,hz⟩:=fb (q-1);have ez:(q:Int)-1=(z:Int):=by omega
    have cM:(z:Int)<(q:Int):=by omega
    have cN:(0:Int)<=(z:Int):=by omega
    have HZ:=fa hz;clear hz bK hq;by_cases aY:N<q+T
    ·skip;have ah:=a3.out;rw[if_pos (.inr (by rw[<-HQ.out];exact aY))]at ah;subst ah;obtain⟨qt,a7⟩:=fb (q+T);have bU:(q:Int)+(T:Int)=(qt:Int):=by omega
     rw[<-a7]at aY;have dr:(N:Int)<(qt:Int):=by omega
     clear a3 a7 aY;go_wp2_with (first
      |(refine aG rfl _ _ rfl b (o+i*2) rfl [ae ak s,ae ak (X:Int)] _ bq.out underlying208 rfl jy ?_)
      |(rw[<-bt.out];refine aF rfl _ _ rfl wr.heap.size rfl _ #[ae ak s,ae ak (X:Int)] (0,0) _ a4.out underlying208 rfl jy ?_))
     refine(br.out _).mono ?_;rintro e w2 ⟨rfl,ad⟩;have aU:=fa (aW.out.trans (ad.mono aW.out.size));have aT:aR (w2.ownsRow w.heap.size 5 1 (af At q ct) q (ft q (fc L))):=fa (mW a8.out ad);have al:=a2.out.below ad a2.out.lt;have z0:=al.c0;have a9:aR (w2.rangeAt wr.heap.size 0 [ae ak s,ae ak (X:Int)]):=fa (show w2.rangeAt wr.heap.size 0 (kQ (s,(X:Int)))from tU al.c0 al.c1);clear ad al;obtain⟨b2,o2,rfl,_,bH⟩:=(fq.gD aT.out (jz HL.out)).1.2 (by omega);have z9:=bH z (by omega);clear bH;go_wp2_with (refine aG rfl _ _ rfl wr.heap.size 0 rfl [ae ak s,ae ak (X:Int)] _ a9.out underlying208 rfl jy ?_)
     refine(bM.out _ (fc L z) (by rw[Gp,<-HQ.out,HZ.out])).mono ?_;rintro e w3 ⟨rfl,av⟩;have aZ:=fa (aU.out.trans (av.mono aU.out.size));have bf:aR (w3.ownsRow w.heap.size 5 1 (af (some ⟨b2,o2,none⟩) q ct) q (ft q (fc L))):=fa (mW aT.out av);clear av;go_wp2;go_ret2;exact⟨none,0,0,rfl,rfl,fq.nil _ _ _ bj.out,aZ.out,iT.nil _ _ _⟩
    have ah:=a3.out;rw[if_neg (by rintro(⟨g,h⟩|g);exact bT.out (bz.out.1 h);rw[<-HQ.out]at g;exact aY g)]at ah;have bV:=fa ah.symm;obtain⟨qt,a7⟩:=fb (q+T);have bU:(q:Int)+(T:Int)=(qt:Int):=by omega
    have dr:¬(N:Int)<(qt:Int):=by omega
    have cB:decide (N<qt)=false:=jd (by omega);have cl:q+T<=N:=by omega
    clear a3 ah a7 aY;go_wp2_with (first
     |(refine aG rfl _ _ rfl b (o+i*2) rfl [ae ak s,ae ak (X:Int)] _ bq.out underlying208 rfl jy ?_)
     |(rw[<-bt.out];refine aF rfl _ _ rfl wr.heap.size rfl _ #[ae ak s,ae ak (X:Int)] (0,0) _ a4.out underlying208 rfl jy ?_))
    refine(br.out _).mono ?_;rintro e w2 ⟨rfl,ad⟩;have aU:=fa (aW.out.trans (ad.mono aW.out.size));have aT:aR (w2.ownsRow w.heap.size 5 1 (af At q ct) q (ft q (fc L))):=fa (mW a8.out ad);have al:=a2.out.below ad a2.out.lt;have z0:=al.c0;have a9:aR (w2.rangeAt wr.heap.size 0 [ae ak s,ae ak (X:Int)]):=fa (show w2.rangeAt wr.heap.size 0 (kQ (s,(X:Int)))from tU al.c0 al.c1);clear ad al;obtain⟨b2,o2,rfl,_,bH⟩:=(fq.gD aT.out (jz HL.out)).1.2 (by omega);have z9:=bH z (by omega);clear bH;go_wp2_with (refine aG rfl _ _ rfl wr.heap.size 0 rfl [ae ak s,ae ak (X:Int)] _ a9.out underlying208 rfl jy ?_)
    refine(bM.out _ (fc L z) (by rw[Gp,<-HQ.out,HZ.out])).mono ?_;rintro e w3 ⟨rfl,av⟩;have aZ:=fa (aU.out.trans (av.mono aU.out.size));have bf:aR (w3.ownsRow w.heap.size 5 1 (af (some ⟨b2,o2,none⟩) q ct) q (ft q (fc L))):=fa (mW aT.out av);clear av;clear z0 z9;obtain⟨wo,rfl⟩:∃wo:au,wo=wr:=⟨_,rfl⟩;go_wp2;go_loopw [6,54] (fun ov kv wr=>∃(j p:Nat) (Ai:Option aw) (ci:Nat),j<=T/\p=q+j/\ov=af Ai p ci/\kv=ae ak (j:Int)/\aR (wr.ownsRow w.heap.size 5 1 (af Ai p ci) p (ft p (fc (L++List.replicate j V))))/\aR (aS w.heap.size w wr)) (fun _ kv _=>T-(aQ kv).toNat)
    case atStart=>exact⟨0,q,(some ⟨b2,o2,none⟩),ct,Nat.zero_le _,rfl,rfl,rfl,fa (by rw[List.replicate_zero,List.append_nil];exact bf.out),aZ⟩
    case round=>
     obtain⟨j,p,Ai,ci,hj,bl,rfl,rfl,bA,bn⟩:=hrel;by_cases cC:j<T
     ·have bB:(j:Int)<(T:Int):=by omega
      obtain⟨r1,r2⟩:=Gn L j V;rw[<-HQ.out,<-bl]at r1 r2;obtain⟨A',c',w',bC,bD,ad⟩:=zB wr w.heap.size Ai p ci (fc (L++List.replicate (j+1) V)) (jz (bL.out _)) (by rw[<-r1];exact bA.out) V r2.symm (by omega) bn.out.size;have bW:=fa bC;have bE:=fa bD;have bF:=fa (bn.out.trans ad)
      have bg:p+1=q+(j+1):=by omega
      have bX:=fa bg;have cD:p<=1000:=by omega
      clear bC bD ad r1 r2 bl bg;go_wp2_with (at_builtin;refine wpList_append_run rfl (.tmp 56) (.tmp 58) 22 rfl (af Ai p ci) (af (some ⟨wr.heap.size,0,none⟩) 1 1) (af A' (p+1) c') w' rfl rfl bW.out ?_)
      go_roundw
      case rel=>
       exact⟨j+1,p+1,A',c',by omega,bX.out,rfl,by go_num,bE,bF⟩
      case measure=>simp[aQ];omega
     ·obtain rfl:j=T:=by omega
      have bB:¬(j:Int)<(j:Int):=by omega
      have bG:p=(L++List.replicate j V).length:=by rw[List.length_append,List.length_replicate,<-HQ.out];exact bl
      have bY:=fa bG;have bZ:p<=N:=by omega
      clear bG;go_wp2;go_roundw
      case rel=>exact⟨i+1,p,Ai,ci,L++List.replicate j V,by omega,bZ,rfl,by go_num,bY,bV,bL.out j|>fa,bA,bn⟩
      case measure=>simp[aQ];omega
   ·obtain rfl:M=false:=by rw[bu];exact jd aV
    have ah:=a6.out;unfold pg at aV;rw[if_pos (Classical.not_not.1 aV)]at ah;subst ah;clear a6 aV bu;go_wp2_with (first
     |(refine aG rfl _ _ rfl b (o+i*2) rfl [ae ak s,ae ak x] _ bq.out underlying208 rfl jy ?_)
     |(rw[<-bt.out];refine aF rfl _ _ rfl wr.heap.size rfl _ #[ae ak s,ae ak x] (0,0) _ a4.out underlying208 rfl jy ?_))
    refine(br.out _).mono ?_;rintro e w2 ⟨rfl,ad⟩;have aU:=fa (aW.out.trans (ad.mono aW.out.size));clear ad;go_wp2;go_ret2;exact⟨none,0,0,rfl,rfl,fq.nil _ _ _ bj.out,aU.out,iT.nil _ _ _⟩
  ·obtain rfl:i=m:=by omega
   have ca:¬(i:Int)<(i:Int):=by omega
   have a1:=HP.out;have b0:l.drop i=[]:=List.drop_eq_nil_of_le (by rw[<-HM.out];exact Nat.le_refl _);rw[b0]at a1;simp only[Vq]at a1;rw[<-HQ.out]at a1;by_cases bN:q=N
   ·rw[if_pos bN]at a1;subst a1;have dq:((q:Int) !=(N:Int))=false:=by simp;omega
    have cm:=fq.gD HW.out (jz HL.out);have cE:=fa cm;have bP:iT wr w.heap.size At q:=fun h0=>by
     obtain⟨g,cap,hv,cO,b9⟩:=HW.out.form h0;rcases HW.out.2 with⟨b1,_⟩|⟨g2,cJ,cur,b1,cH,cI,_⟩
     ·rw[b1]at hv;cases hv
     ·injection b1 with h1 _ _
      exact⟨g2,0,cur,h1,cH,cI⟩
    have cn:=fa bP;clear cm bP bN b0;go_wp2;go_ret2;exact⟨At,q,ct,rfl,HQ.out,cE.out,HB.out,cn.out⟩
   ·rw[if_neg bN]at a1;subst a1;have dq:((q:Int) !=(N:Int))=true:=by simp;omega
    clear bN b0;go_wp2;go_ret2;exact⟨none,0,0,rfl,rfl,fq.nil _ _ _ bj.out,HB.out,iT.nil _ _ _⟩
def pj(x:Nat×Nat):Prop:=x.1<2^x.2/\x.2<=16
def kr(F:Nat->Nat)(L:Nat):Nat:=F L+256*F (L+1)+65536*F (L+2)
theorem Bc(f:Nat->Nat)(k v:Nat):∀n j,j<k/8->Vo f k v n j=f j
 |0,_,_=>rfl
 |n+1,j,h=>by
  simp only[Vo];unfold kj fK;rw[if_neg (by omega)];exact Bc f k v n j h
theorem OG(G:Nat->Nat)(k n b:Nat)(hn:n<=15):kr (kj G (k+n) b) (k/8)=kr G (k/8)+b*2^(k%8+n):=by
 obtain⟨p,hp⟩:=fb (2^((k+n)%8));have hd:(k+n)/8=k/8\/(k+n)/8=k/8+1\/(k+n)/8=k/8+2:=by omega
 rcases hd with hd|hd|hd
 ·have e:2^(k%8+n)=p:=by rw[hp,show(k+n)%8=k%8+n by omega]
  rw[e];unfold kr kj fK;rw[hd,<-hp,if_pos rfl,if_neg (by omega),if_neg (by omega)];omega
 ·have e:2^(k%8+n)=256*p:=by rw[hp,show k%8+n=8+(k+n)%8 by omega,Nat.pow_add]
  rw[e,Nat.mul_left_comm];unfold kr kj fK;rw[hd,<-hp,if_neg (by omega),if_pos rfl,if_neg (by omega)];omega
 ·have e:2^(k%8+n)=65536*p:=by rw[hp,show k%8+n=16+(k+n)%8 by omega,Nat.pow_add]
  rw[e,Nat.mul_left_comm];unfold kr kj fK;rw[hd,<-hp,if_neg (by omega),if_neg (by omega),if_pos rfl];omega
theorem Bd{f:Nat->Nat}{k:Nat}(hc:Ve f k)(v:Nat):∀n,n<=16->kr (Vo f k v n) (k/8)=f (k/8)+(v%2^n)*2^(k%8)
 |0,_=>by
  unfold kr;simp only[Vo];rw[hc.2.1 (k/8+1) (by omega),hc.2.1 (k/8+2) (by omega),Nat.pow_zero,Nat.mod_one];omega
 |n+1,h=>by
  have ih:=Bd hc v n (by omega);simp only[Vo];rw[OG _ _ _ _ (by omega),ih,Nat.mod_pow_succ,Nat.add_mul,Nat.add_assoc,Nat.mul_comm (2^n),Nat.mul_assoc,<-Nat.pow_add,Nat.add_comm n]
theorem OH{F:Nat->Nat}(hF:∀j,F j<256)(L:Nat)(h:F (L+3)=0):kr F L%256=F L/\kr F L/256=kr F (L+1):=by
 have h0:=hF L;have h1:=hF (L+1);have h2:=hF (L+2);unfold kr;rw[show L+1+1=L+2 by omega,show L+1+2=L+3 by omega,h];omega
theorem Gs{F:Nat->Nat}{K:Nat}(h:Ve F K)(j:Nat)(hj:K<8*j):F j=0:=h.2.1 j (by omega)
theorem OI{F:Nat->Nat}{K:Nat}(h:Ve F K):kr F (K/8)=F (K/8):=by
 unfold kr;rw[h.2.1 (K/8+1) (by omega),h.2.1 (K/8+2) (by omega)];omega
theorem OJ{F:Nat->Nat}(hF:∀j,F j<256)(L:Nat):kr F L<16777216:=by
 have h0:=hF L;have h1:=hF (L+1);have h2:=hF (L+2);unfold kr;omega
theorem OL(f:Nat->Nat)(k:Nat):kj f k 0=f:=by
 funext j;unfold kj fK;by_cases h:j=k/8
 ·rw[if_pos h,h];omega
 ·rw[if_neg h]
theorem Be(f:Nat->Nat)(k:Nat):∀n,Vo f k 0 n=f
 |0=>rfl
 |n+1=>by
  simp only[Vo];rw[Be f k n,Nat.zero_div,Nat.zero_mod,OL]
theorem Gt(f:Nat->Nat):∀n k,fE f k (List.replicate n (0,1))=f
 |0,_=>rfl
 |n+1,k=>by
  rw[List.replicate_succ];simp only[fE];rw[Be,Gt f n]
theorem OM(f:Nat->Nat)(k p:Nat)(P:List (Nat×Nat)):fE f k ((0,p)::P)=fE f k (List.replicate p (0,1)++P)/\UQ ((0,p)::P)=UQ (List.replicate p (0,1)++P):=by
 constructor
 ·rw[ku,Gt,tD];simp only[fE];rw[Be]
 ·rw[gm,tD];rfl
theorem ON{f:Nat->Nat}{k:Nat}(hc:Ve f k)(h8:k%8=0)(v:Nat)(hv:v<256):Vo f k v 8=fK f (k/8) v:=by
 have ad:=hc.put v 8;have h1:=Bd hc v 8 (by omega);have hz:f (k/8)=0:=by have:=hc.2.2;rw[h8]at this;have e:(2:Nat)^0=1:=rfl;omega
 have e1:(2:Nat)^0=1:=rfl;have e2:(2:Nat)^8=256:=rfl;rw[h8,hz,e1,e2,Nat.mod_eq_of_lt hv]at h1;have z1:=Gs ad (k/8+2) (by omega);have z2:=ad.2.2;rw[show(k+8)/8=k/8+1 by omega,show(k+8)%8=0 by omega,e1]at z2;unfold kr at h1;funext j;unfold fK;by_cases h:j=k/8
 ·rw[if_pos h,h];omega
 ·rw[if_neg h];rcases Nat.lt_or_ge j (k/8)with g|g
  ·exact Bc f k v 8 j g
  ·rw[hc.2.1 j (by omega)];rcases Nat.lt_or_ge (k/8+1) j with g2|g2
   ·exact Gs ad j (by omega)
   ·obtain rfl:j=k/8+1:=by omega
    omega
def qy(f:Nat->Nat)(L n:Nat)(r:Nat->Nat)(j:Nat):Nat:=if j<L then f j else if j<L+n then r (j-L)else 0
theorem Gu{f:Nat->Nat}{k:Nat}(hc:Ve f k)(h8:k%8=0)(r:Nat->Nat)(hr:∀j,r j<256):∀n,fE f k ((List.range n).map fun i=>(r i,8))=qy f (k/8) n r
 |0=>by
  funext j;simp only[List.range_zero,List.map_nil,fE];unfold qy;by_cases h:j<k/8
  ·rw[if_pos h]
  ·rw[if_neg h,if_neg (by omega)];rcases Nat.lt_or_ge (k/8) j with g|g
   ·exact hc.2.1 j g
   ·have:=hc.2.2;rw[h8]at this;have e:(2:Nat)^0=1:=rfl;rw[show j=k/8 by omega];omega
 |n+1=>by
  have ih:=Gu hc h8 r hr n;have ad:=hc.ti ((List.range n).map fun i=>(r i,8));rw[ve,ih]at ad;rw[List.range_succ,List.map_append,ku,ve,ih];simp only[List.map_cons,List.map_nil,fE];rw[ON ad (by omega) _ (hr n),show(k+8*n)/8=k/8+n by omega];funext j;unfold fK qy;by_cases h:j=k/8+n
  ·rw[if_pos h,if_neg (by omega),if_pos (by omega),show j-k/8=n by omega]
  ·rw[if_neg h];by_cases h1:j<k/8
   ·rw[if_pos h1,if_pos h1]
   ·rw[if_neg h1,if_neg h1];by_cases h2:j<k/8+n
    ·rw[if_pos h2,if_pos (by omega)]
    ·rw[if_neg h2,if_neg (by omega)]
theorem kB{v b:Nat}(hv:v<2^b)(hb:b<=16):pj (v,b):=⟨hv,hb⟩
theorem vF{F:Nat->Nat}(h:∀j,F j<=15)(n i:Nat):pj (iG F n i):=⟨tg _ _,by have:=h i;show F i<=16;omega⟩
theorem Gv{t:fi}(hm:fH t=true)(hx:t.x<256)(h0:t.n≠0):pj ((jK t.n).toNat,(iN t.n).toNat)/\pj ((jQ t.d).toNat,(jo t.d).toNat):=by
 obtain⟨ad,ah,_⟩:=(mR hm hx).2.2 h0;obtain⟨_,_,_,_,p1,p2,p3,p4⟩:=ta ad;obtain⟨_,_,_,_,q1,q2,q3,q4⟩:=tb ah;exact⟨kB (by omega) (by omega),kB (by omega) (by omega)⟩
theorem Gw{l:List fi}(hl:l.length<=1000000){r:Int×Int}(hr:r∈ju l):pj (r.2.toNat,(iR r.1).toNat):=by
 obtain⟨s0,ah,x0,ad,hx⟩:=(oz l hl).1 r hr;have hb:=zI r.1;have e2:iR r.1=(fI r.1:Nat):=by unfold iR;rw[if_pos (by omega)]
 rw[e2,Int.toNat_natCast];exact kB (by omega) (by omega)
theorem OO{f:Nat->Nat}{L a p k:Nat}(hk:k<258)(h:a+k<L)(he:f (p+k)=f (a+k)):Vv f L a p (258-k) k=Vv f L a p (258-(k+1)) (k+1):=by
 rw[show 258-k=(258-(k+1))+1 by omega,Vv,if_pos ⟨h,he⟩]
theorem Gx{f:Nat->Nat}{L a p k:Nat}(h:258<=k\/L<=a+k\/f (p+k)≠f (a+k)):Vv f L a p (258-k) k=k:=by
 rcases Nat.lt_or_ge k 258 with hk|hk
 ·rw[show 258-k=(258-(k+1))+1 by omega,Vv,if_neg (by omega)]
 ·rw[show 258-k=0 by omega,Vv]
def pk(w u:au):Prop:=∃t,u=w.drewN t
theorem pk.refl(w:au):pk w w:=⟨0,rfl⟩
theorem pk.more{w u:au}(h:pk w u)(n:Nat):pk w (u.drewN n):=by
 obtain⟨t,rfl⟩:=h;exact⟨t+n,by rw[World.drewN_drewN]⟩
theorem pk.rd{w u:au}(h:pk w u){B n:Nat}{A:Option aw}{f:Nat->Nat}(hr:fB w B A n f):fB u B A n f:=by
 obtain⟨t,rfl⟩:=h;exact hr
theorem xU(w:au)(A:Option aw)(n c a:Nat)(ha:a<=n)(hn:n<=1000000):
  ax prog 206 #[af A n c,ae ak (a:Int)] w fun e w'=>e=aq (ae ak ((min (n-a) 258:Nat):Int))/\w=w':=by
 obtain⟨d,rfl⟩:∃d,n=a+d:=⟨n-a,by omega⟩
 have e1:(((a+d:Nat):Int))-(a:Int)=(d:Int):=by omega
 have e2:a+d-a=d:=by omega
 rw[e2]
 go_enter func206,ntmps206
 go_wp2
 all_goals(go_ret;exact⟨ou (by omega),rfl⟩)
theorem OP(w:au)(B:Nat)(A:Option aw)(n c:Nat)(f:Nat->Nat)(a p:Nat)(hr:fB w B A n f)(hp:p<a)(ha:a<=n)(hn:n<=1000000):
  ax prog 205 #[af A n c,ae ak (a:Int),ae ak (p:Int)] w fun e w'=>e=aq (ae ak ((jL f n a p:Nat):Int))/\pk w w':=by
 have HR:=fa hr
 obtain⟨M,hM⟩:=fb (min (n-a) 258)
 have ah:∀u,ax prog 206 #[af A n c,ae ak (a:Int)] u fun e w'=>e=aq (ae ak (M:Int))/\u=w':=fun u=>by rw[hM];exact xU u A n c a ha hn
 have HM:=fa hM;have aT:=fa ah
 clear hr hM ah
 go_enter func205,ntmps205
 go_wp2
 go_loopw [7] (fun kv wr=>∃k:Nat,k<=M/\kv=ae ak (k:Int)/\aR (Vv f n a p (258-k) k=jL f n a p)/\aR (pk w wr)) (fun kv _=>M-(aQ kv).toNat)
 case atStart=>exact⟨0,Nat.zero_le _,rfl,fa rfl,fa (pk.refl w)⟩
 case round=>
  obtain⟨k,hk,rfl,HK,HD⟩:=hrel;by_cases aZ:k<M
  ·have aU:(k:Int)<(M:Int):=by omega
   obtain⟨b,o,rfl,_,hc⟩:=(HD.out.rd HR.out).2 (by omega);have av:=HM.out;have c1:=hc (p+k) (by omega);have c2:=hc (a+k) (by omega);have e1:(p:Int)+(k:Int)=((p+k:Nat):Int):=by omega
   have e2:(a:Int)+(k:Int)=((a+k:Nat):Int):=by omega
   obtain⟨P,hP⟩:=fb (p+k);obtain⟨Q,hQ⟩:=fb (a+k);have a1:(P:Int)<(n:Int):=by omega
   have a2:(Q:Int)<(n:Int):=by omega
   have aX:P<n:=by omega
   have aY:Q<n:=by omega
   have a3:(0:Int)<=(P:Int):=by omega
   have a4:(0:Int)<=(Q:Int):=by omega
   rw[<-hP]at c1 e1;rw[<-hQ]at c2 e2;clear hc;by_cases he:f P=f Q
   ·have aV:((f P:Int)==(f Q:Int))=true:=by simp[he]
    have ad:=OO (f:=f) (L:=n) (a:=a) (p:=p) (k:=k) (by omega) (by omega) (by rw[<-hP,<-hQ];exact he);have al:=fa (ad.symm.trans HK.out);clear ad av hP hQ he;go_wp2;go_quiet ((go_at_call 206;exact Calls.quiet_of_same ((aT.out _).mono fun _ _ ⟨a,b⟩=>⟨a,b.symm⟩)))
    go_wp2;go_roundw
    case rel=>exact⟨k+1,by omega,by go_num,al,fa (HD.out.more _)⟩
    case measure=>simp[aQ];omega
   ·have aV:((f P:Int)==(f Q:Int))=false:=by simp;omega
    have ad:=Gx (f:=f) (L:=n) (a:=a) (p:=p) (k:=k) (.inr (.inr (by rw[<-hP,<-hQ];exact he)));have al:=fa (ad.symm.trans HK.out);clear ad av hP hQ he;go_wp2;go_quiet ((go_at_call 206;exact Calls.quiet_of_same ((aT.out _).mono fun _ _ ⟨a,b⟩=>⟨a,b.symm⟩)))
    go_wp2;go_ret;exact⟨(by rw[<-al.out];rfl),HD.out.more _⟩
  ·obtain rfl:k=M:=by omega
   have aU:decide ((k:Int)<(k:Int))=false:=by simp
   have aW:¬(k:Int)<(k:Int):=by simp
   have av:=HM.out;have ad:=Gx (f:=f) (L:=n) (a:=a) (p:=p) (k:=k) (by omega);have al:=fa (ad.symm.trans HK.out);clear ad av;go_wp2;go_quiet ((go_at_call 206;exact Calls.quiet_of_same ((aT.out _).mono fun _ _ ⟨a,b⟩=>⟨a,b.symm⟩)))
   go_wp2;go_ret;exact⟨(by rw[<-al.out];rfl),HD.out.more _⟩
theorem OQ{n:Nat}{f g:Nat->Nat}(h:∀j,j<n->f j=g j):kH n f=kH n g:=by
 unfold kH;rw[List.map_congr_left fun j hj=>by rw[h j (List.mem_range.1 hj)]]
theorem OR{n:Nat}{f g:Nat->Nat}(hf:∀j,f j<256)(hg:∀j,g j<256)(h:kH n f=kH n g):∀j,j<n->f j=g j:=by
 intro j hj;have h2:=congrArg (fun b:ByteArray=>b.data.toList[j]?) h;simp[kH,strOfNums,hj]at h2;have h3:=congrArg UInt8.toNat h2;simp at h3;have:=hf j;have:=hg j
 omega
def Vu(f:Nat->Nat)(x:Nat):Nat->Int
 |0=> -1
 |n+1=>if f n=x then(n:Int)else Vu f x n
theorem Gy(f:Nat->Nat)(x:Nat):∀n,(Vu f x n= -1/\∀j,j<n->f j≠x)\/(∃m:Nat,Vu f x n=(m:Int)/\m<n/\f m=x/\∀j:Nat,m<j->j<n->f j≠x)
 |0=>.inl ⟨rfl,fun j h=>by omega⟩
 |n+1=>by
  by_cases h:f n=x
  ·right;refine⟨n,?_,by omega,h,fun j h1 h2=>by omega⟩;simp only[Vu];rw[if_pos h]
  ·have e:Vu f x (n+1)=Vu f x n:=by simp only[Vu];rw[if_neg h]
   rw[e];rcases Gy f x n with⟨h1,h2⟩|⟨m,h1,h2,h3,h4⟩
   ·left;refine⟨h1,fun j hj=>?_⟩;rcases Nat.lt_or_ge j n with q|q
    ·exact h2 j q
    ·rw[show j=n by omega];exact h
   ·right;refine⟨m,h1,by omega,h3,fun j hj ad=>?_⟩;rcases Nat.lt_or_ge j n with q|q
    ·exact h4 j hj q
    ·rw[show j=n by omega];exact h
theorem OS(w:au)(B:Nat)(A:Option aw)(n c:Nat)(f:Nat->Nat)(x:Nat)(hr:fB w B A n f)(hn:n<=1000000):
  ax prog 210 #[af A n c,ae .u8 (x:Int)] w fun e w'=>e=aq (ae ak (Vu f x n))/\w'=w:=by
 have HR:=fa hr
 clear hr
 go_enter func210,ntmps210
 go_wp2
 go_loopw [5] (fun kv wr=>∃m:Nat,m<=n/\kv=ae ak ((m:Int)-1)/\aR (Vu f x n=Vu f x m)/\wr=w) (fun kv _=>(aQ kv+1).toNat)
 case atStart=>exact⟨n,Nat.le_refl _,by go_num,fa rfl,rfl⟩
 case round=>
  obtain⟨m,hm,rfl,HK,rfl⟩:=hrel;rcases Nat.eq_zero_or_pos m with h0|h0
  ·subst h0;have ad:=fa (HK.out.trans (show Vu f x 0= -1 from rfl));go_wp2;go_ret;exact⟨(by rw[ad.out];rfl),rfl⟩
  ·obtain⟨k,rfl⟩:∃k,m=k+1:=⟨m-1,by omega⟩;obtain⟨b,o,rfl,_,hc⟩:=HR.out.2 (by omega);have c1:=hc k (by omega);have e1:((k+1:Nat):Int)-1=(k:Int):=by omega
   have av:(0:Int)<=(k:Int):=by omega
   have aT:(k:Int)<(n:Int):=by omega
   rw[e1];clear hc e1;by_cases he:f k=x
   ·have al:((f k:Int)==(x:Int))=true:=by simp[he]
    have ah:Vu f x (k+1)=(k:Int):=by simp only[Vu];rw[if_pos he]
    have ad:=fa (HK.out.trans ah);clear ah he;go_wp2;go_ret;exact⟨(by rw[ad.out];rfl),rfl⟩
   ·have al:((f k:Int)==(x:Int))=false:=by simp;omega
    have ah:Vu f x (k+1)=Vu f x k:=by simp only[Vu];rw[if_neg he]
    have ad:=fa (HK.out.trans ah);clear ah he;go_wp2;go_roundw
    case rel=>exact⟨k,by omega,rfl,ad,trivial⟩
    case measure=>simp[aQ]
theorem OT(w:au)(B:Nat)(A:Option aw)(n c:Nat)(f:Nat->Nat)(x:Nat)(hr:fB w B A n f)(hn:n<=1000000):
  ax prog 208 #[af A n c,ae .u8 (x:Int)] w fun e w'=>e=aq (ae ak (Vu f x n))/\w'=w:=by
 have HL:=fa (OS w B A n c f x hr hn)
 clear hr
 go_enter func208,ntmps208
 go_wp2_with fail
 refine HL.out.mono ?_
 rintro e w' ⟨rfl,rfl⟩
 go_wp2
 go_ret
 exact⟨rfl,rfl⟩
theorem OU(w:au)(B:Nat)(A A2:Option aw)(n c m c2:Nat)(f g:Nat->Nat)(hr:fB w B A n f)(ad:fB w B A2 m g):
  ax prog 211 #[af A n c,af A2 m c2] w fun e w'=>e=aq (aj ((kH n f).toList==(kH m g).toList))/\w'=w:=by
 have s1:=uF hr c
 have s2:=uF ad c2
 go_enter func211,ntmps211
 go_wp2
 go_ret
 exact⟨rfl,rfl⟩
theorem OV{n:Nat}{f g:Nat->Nat}(h:∀j,j<n->f j=g j):((kH n f).toList==(kH n g).toList)=true:=by rw[OQ h];simp
theorem OW{n:Nat}{f g:Nat->Nat}(hf:∀j,f j<256)(hg:∀j,g j<256)(h:¬∀j,j<n->f j=g j):((kH n f).toList==(kH n g).toList)=false:=by
 rw[Bool.eq_false_iff];intro hh;refine h (OR hf hg ?_);have h2:=eq_of_beq hh;unfold kH at h2⊢;rw[Lib.strOfNums_toList,Lib.strOfNums_toList]at h2;apply ByteArray.ext;apply Array.toList_inj.1;rw[strOfNums_data,strOfNums_data];exact h2
theorem OX(w:au)(B:Nat)(A A2:Option aw)(n c m c2:Nat)(f g:Nat->Nat)(hr:fB w B A n f)(ad:fB w B A2 m g)(al:m<=n)(av:n<=c):
  ax prog 209 #[af A n c,af A2 m c2] w fun e w'=>e=aq (aj ((kH m f).toList==(kH m g).toList))/\w'=w:=by
 have ah:fB w B A m f:=⟨hr.1,fun h=>by
  obtain⟨b,o,h1,h2,h3⟩:=hr.2 (by omega);exact⟨b,o,h1,h2,fun j hj=>h3 j (by omega)⟩⟩
 have HL:=fa (fun(c:Nat)=>OU w B A A2 m c m c2 f g ah ad)
 have hd:decide ((m:Int)<=(n:Int))=true:=by simp;omega
 have aT:decide (m<=n)=true:=by simp;omega
 have hi:(m:Int)<=(c:Int):=by omega
 clear hr ad ah
 go_enter func209,ntmps209
 go_wp2_with fail
 refine(HL.out _).mono ?_
 rintro e w' ⟨rfl,rfl⟩
 go_wp2
 go_ret
 exact⟨rfl,rfl⟩
def Gz(F:Fence)(n:Nat)(P:Program)(g:Nat)(lb:Array ay)(ad:Nat->Array ay)(ok:Nat->Prop)(Kp:au->au->Prop)(L:Nat)(w:au):Prop:=
 ∀(l:Nat) (J Jx:Nat->au->Prop) (W:au),aS w.heap.size w W->
  (∀j W1,J j W1->j<L->¬ok j->J (j+1) W1)->
  (∀j W1,J j W1->j<L->ok j->YieldAt F (n-1) P l (ad j) W1 fun e W'=>(e=aq (aj true)/\J (j+1) W'/\Kp W1 W')\/(e=aq (aj false)/\Jx j W'))->
  (∀W1 W2 j,J j W1->(∃t,W2=W1.drewN t)->J j W2)->
  (∀W1 W2 j,Jx j W1->(∃t,W2=W1.drewN t)->Jx j W2)->
  J 0 W->CallsIn F n P g (#[.func (.yield l) #[] #[]]++lb) W fun e W'=>(∃v,e=aq v)/\(J L W'\/∃j,j<L/\Jx j W')
theorem OY{F:Fence}{n:Nat}{P:Program}{g:Operand}{ps:Array Tmp}{assign body:Code}{Q:Exit->Act->au->Prop}{a:Act}{w:au}
  (bf:F.round=none) (h1:1<=n) {gf:Nat} {lb:Array ay} (hg:a.eval g=.func (.func gf) #[] lb) (bg:F.fn gf) (eg:∀args w,(callFunc gf args).run P w=.ok (.enter gf args) w)
  {al:Nat->Array ay} {ok:Nat->Prop} {Kp:au->au->Prop} {L:Nat} (a5:Gz F (n-1) P gf lb al ok Kp L w)
  (a6:∀{A B C:au},Kp A B->Kp B C->Kp A C) (a7:∀(W:au) (l:Nat) (o o':Obj),w.heap.size<=l->W.heap[l]?=some o->o.isCells=false->o.isWalk=false->Kp W (W.putObj l o')) (bj:∀j,(al j).size=ps.size)
  (je:Exit) (jc:Code) (bl:(je=.ret/\jc=.ret)\/∃id,je=.exit id/\jc=.exit id)
  (I Ix:Nat->au->Prop) (hI:OwnFrom w.heap.size I) (aV:OwnFrom w.heap.size Ix) (h0:I 0 w) (a₁:Nat->Act)
  (aZ:∀(j:Nat) (W:au),I j W->j<L->¬ok j->I (j+1) W)
  (av:∀(l j:Nat) (W:au) (K:Act->au->Prop),K (a₁ j) W->
   assign.wpIn (F.inRound l) (n-1-1) P (Exit.then K (fun _ _ _=>False)) {tmps:=(ps.zip (al j)).foldl (fun t (p,v)=>t.setIfInBounds p v) a.tmps,defers:=[]} W)
  (a1:∀(l j:Nat) (W:au),I j W->j<L->ok j->body.wpIn (F.inRound l) (n-1-1) P (fun e _ W'=>KeepsOthers W W'/\((e=.normal/\Kp W W'/\I (j+1) W')\/(e=je/\Ix j W'))) (a₁ j) W)
  (a2:∀(D:Nat) (W:au),w.heap.size<=D->I L W->W.heap[D]?=some (.deferred (some []))->Q .normal {a with defers:={target:=.collected D,args:=#[]}::a.defers} W)
  (a4:∀(D j:Nat) (W:au),w.heap.size<=D->j<L->Ix j W->W.heap[D]?=some (.deferred (some []))->jc.wpIn F n P Q {a with defers:={target:=.collected D,args:=#[]}::a.defers} W):
  (Code.rangeFunc g ps assign body).wpIn F n P Q a w:=by
 refine wpIn_rangeFunc fun fn bn=>?_
 rw[bf]
 obtain⟨rec,ad⟩:∃rec:LoopState->Option Code->Loop,rec=fun st pe=>{state:=st,pending:=pe,fn,tmps:=a.tmps,params:=ps,assign,body,defers:=w.heap.size}:=⟨_,rfl⟩
 obtain⟨D,hD⟩:=fb (w.heap.size)
 obtain⟨W1,aT⟩:=fb ((w.alloc (.deferred (some []))).alloc (.loop (rec .ready none)))
 have bq:W1.heap[D+1]?=some (.loop (rec .ready none)):=by
  rw[aT,hD];have h:=World.alloc_heap_new (w.alloc (.deferred (some []))) (.loop (rec .ready none));rwa[World.size_alloc]at h
 have br:W1.heap[D]?=some (.deferred (some [])):=by
  rw[aT,hD];exact(Below.heap_alloc _ _ _ (by simp)).trans (World.alloc_heap_new w _)
 have bt:I 0 W1:=by rw[aT];exact hI.alloc _ (hI.alloc _ h0)
 have bu:aS w.heap.size w W1:=by
  rw[aT];exact((Below.refl _ w).alloc fe _).alloc (by simp) _
 have a8:∀(W:au) (t:Nat),W.grownBy (W.drewN t) none:=fun W t=>⟨rfl,rfl,rfl,Nat.le_refl _,fun _ _ _=>rfl⟩
 refine⟨D+1,[{target:=.collected D,args:=#[]}],W1,{target:=.fn (.func gf) lb,args:=#[.func (.yield (D+1)) #[] #[]]},W1,gf,#[.func (.yield (D+1)) #[] #[]]++lb,W1,?_,?_,?_,?_,fun _=>h1,?_⟩
 ·rw[aT,ad,hD];exact run_enterLoop_outer _ _ _ _ _
 ·simp only[resolve,hg];simp[go_sem]
 ·intro f' a9;simp[Target.leads]at a9;subst a9;exact bg
 ·simp[invoke,go_sem,eg]
 ·refine(a5 (D+1) (fun j W=>I j W/\W.heap[D+1]?=some (.loop (rec .ready none))/\W.heap[D]?=some (.deferred (some [])))
   (fun j W=>Ix j W/\W.heap[D+1]?=some (.loop (rec .done (some jc)))/\W.heap[D]?=some (.deferred (some []))) W1 bu ?_ ?_ ?_ ?_ ⟨bt,bq,br⟩).mono ?_
  ·rintro j W ⟨hi,hl,hk⟩ hj bx;exact⟨aZ j W hi hj bx,hl,hk⟩
  ·rintro j W ⟨hi,hl,hk⟩ hj bz;have bA:D+1<W.heap.size:=(Array.getElem?_eq_some_iff.1 hl).1;have hy:=run_yield (P:=P) (args:=al j) hl (by rw[ad];exact bj j);rw[ad]at hy;refine⟨fn,_,assign,body,hy,roundIn_of_wpIn bn (av _ j W _ ⟨_,run_beginRound hl (by rw[ad]),?_⟩)⟩;have bB:(W.putObj (D+1) (.loop {rec .ready none with state:=.busy})).heap[D+1]?=some (.loop {rec .ready none with state:=.busy}):=World.putObj_heap_same bA;have bC:(W.putObj (D+1) (.loop {rec .ready none with state:=.busy})).heap[D]?=some (.deferred (some [])):=(World.putObj_heap_other (by omega)).trans hk;have bD:Kp W (W.putObj (D+1) (.loop {rec .ready none with state:=.busy})):=a7 W _ _ _ (by omega) hl rfl rfl;refine wpIn_mono (a1 _ j _ (hI.putObj _ hi (by omega) hl rfl) hj bz) ?_;have fin:∀(jump:Option Code) (W3:au),KeepsOthers (W.putObj (D+1) (.loop {rec .ready none with state:=.busy})) W3->
     (Instr.endRound (D+1) jump).run P W3=.ok (aj jump.isNone) (W3.putObj (D+1) (.loop (rec (if jump.isNone then .ready else .done) jump)))/\
     W3.heap[D+1]?=some (.loop {rec .ready none with state:=.busy})/\
     (W3.putObj (D+1) (.loop (rec (if jump.isNone then .ready else .done) jump))).heap[D+1]?=some (.loop (rec (if jump.isNone then .ready else .done) jump))/\
     (W3.putObj (D+1) (.loop (rec (if jump.isNone then .ready else .done) jump))).heap[D]?=some (.deferred (some [])):=fun jump W3 aU=>by
    have ah:=aU.same _ _ bB rfl
    have:=run_endRound (P:=P) jump ah
    rw[ad]at this⊢
    exact⟨this,by rw[ad]at ah;exact ah,World.putObj_heap_same (Array.getElem?_eq_some_iff.1 ah).1,(World.putObj_heap_other (by omega)).trans (aU.same _ _ bC rfl)⟩
   rintro e a3 W3 ⟨aU,h⟩;rcases h with⟨rfl,bE,aW⟩|⟨rfl,aW⟩
   ·obtain⟨hr,ah,aX,aY⟩:=fin none W3 aU;exact⟨_,_,hr,.inl ⟨rfl,⟨hI.putObj _ aW (by omega) ah rfl,aX,aY⟩,a6 (a6 bD bE) (a7 W3 _ _ _ (by omega) ah rfl rfl)⟩⟩
   ·obtain⟨hr,ah,aX,aY⟩:=fin (some jc) W3 aU;rcases bl with⟨rfl,rfl⟩|⟨id,rfl,rfl⟩
    ·exact⟨_,_,hr,.inr ⟨rfl,aV.putObj _ aW (by omega) ah rfl,aX,aY⟩⟩
    ·exact⟨_,_,hr,.inr ⟨rfl,aV.putObj _ aW (by omega) ah rfl,aX,aY⟩⟩
  ·rintro A B j ⟨hi,hl,hk⟩ ⟨t,rfl⟩;exact⟨hI _ _ _ none hi (a8 A t) (fun r e=>by cases e),hl,hk⟩
  ·rintro A B j ⟨hi,hl,hk⟩ ⟨t,rfl⟩;exact⟨aV _ _ _ none hi (a8 A t) (fun r e=>by cases e),hl,hk⟩
  ·rintro e W2 ⟨⟨v,rfl⟩,⟨hi,hl,hk⟩|⟨j,hj,hi,hl,hk⟩⟩
   ·refine⟨none,_,by have h:=run_endLoop (P:=P) hl (by rw[ad];simp);rw[ad]at h;exact h,?_⟩;exact a2 D _ (by omega) (hI.putObj _ hi (by omega) hl rfl) ((World.putObj_heap_other (by omega)).trans hk)
   ·refine⟨some jc,_,by have h:=run_endLoop (P:=P) hl (by rw[ad];simp);rw[ad]at h;exact h,?_⟩;exact a4 D j _ (by omega) hj (aV.putObj _ hi (by omega) hl rfl) ((World.putObj_heap_other (by omega)).trans hk)
end Go.Proofs.YtgokdgcmkcmjeaaGreat
