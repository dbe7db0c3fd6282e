/-
  Words and walks.
-/
import Derived.IntWalk
import Derived.Deep.RegionWith
import Derived.Test.YtokpcpjnihinfaaGreatqwaa
import Derived.Test.YtokpcpjnihinfaaGreatqwab
import Derived.Test.YtokpcpjnihinfaaGreatqwac
import Derived.Test.YtokpcpjnihinfaaGreatqwaf
import Derived.Test.YtokpcpjnihinfaaGreatqwai
set_option maxRecDepth 100000
set_option maxHeartbeats 16000000
namespace Go.Proofs.YtokpcpjnihinfaaGreat
open Value renaming int → ae, slice → af, pointer → ag, agg → ah, bool → ai
open IntKind renaming i64 → aj
open Obj renaming cells → ak
open Ending renaming returned → ao
open Go renaming World → aq, Addr → au, Calls → aw, Value → ax, TypeId → aB, wpList_store_rowTo → aC, wpList_buildTo → aD, wpList_load_row → aE, wpList_load_mid → aF, heap_alloc_new → aG, cell_of_row → aH, setRow_heap → aI, bodyPost_ret → aK, frozen_of_row → aO
open Go.RowKit renaming intOf → aP, Hid → aQ, Below → aR
open _root_.Go.Proofs.Tryz
open Go.RowKit Go.ChangeShapes Go.WideShapes Go.ChangeAt Go.Joins
theorem FH{w:aq}{base n c:Nat}{A:Option au}{xs:List ax}(h:w.ownsRow base 5 1 (af A n c) n xs):my w base A n:=fun h0=>by
 rcases h.2 with⟨_,h1⟩|⟨g,cap,cur,hv,hg,hh,_⟩
 ·omega
 ·injection hv with hv;exact⟨g,0,cur,hv,hg,hh⟩
theorem FI(w:aq)(S:Nat->Prop)(B g:Nat)(f:Nat->Nat)(K:Nat)(h:iX w S B g f K)(hK:K<=16000000):
  aw prog 88 #[ag (some ⟨g,0,none⟩)] w fun e w'=>∃A' c' L,L=(K+7)/8/\e=ao (ah #[af A' L c',ae aj (K:Int)])/\w'.ownsRow B 5 1 (af A' L c') L (iw L f)/\aR B w w':=by
 obtain⟨W1,aW⟩:=gX (w.alloc (ak #[af none 0 0,ae aj 0] 30))
 obtain⟨x,hx⟩:=gX (w.heap.size)
 have b1:aR w.heap.size w W1:=by rw[aW];exact ix.alloc gY _
 have x1:W1.heap[x]?=some (ak #[af none 0 0,ae aj 0] 30 (0,0)):=by rw[aW,hx];exact aG w _
 have r1:=h.after b1
 have bH:g<x:=by rw[hx];exact h.lt
 have bk:B<=x:=by rw[hx];exact h.size
 have bE:x<W1.heap.size:=(Array.getElem?_eq_some_iff.1 x1).1
 have bl:=b1.mono h.size
 have bd:aR W1.heap.size W1 W1.drew:=ix.drew
 have aX:=h.1
 clear h
 obtain⟨_,A,c,hq⟩:=r1
 obtain⟨z0,z1,z2,e0,e1,e2⟩:=hq.cells
 have r1:iX W1 S B g f K:=⟨aX,A,c,hq⟩
 have bm:=fun(V:aq) (hV:aR W1.heap.size W1 V)=>xd V S B g f K (r1.after hV) hK
 obtain⟨L,hL⟩:=gX (K/8)
 obtain⟨q,aY⟩:=gX (K%8)
 obtain⟨R,hR⟩:=gX (f L)
 rw[<-hL,<-hR,<-aY]at hq
 rw[<-hL]at z0;rw[<-hL,<-hR]at z1;rw[<-aY]at z2
 have bI:L<=2000000:=by omega
 have bJ:q<8:=by omega
 have bK:R<256:=by rw[hR];exact aX.1 L
 have bn:=gW bm;have HQ:=gW hq;have HL:=gW hL;have bp:=gW aY;have HR:=gW hR;have bq:=gW x1;have br:=gW bl;have bF:=gW aW;have HX:=gW hx;have bL:=gW aX
 have bM:g<W1.heap.size:=by omega
 clear bm hq hL aY hR x1 bl b1 aW hx r1 aX
 go_enter func88,ntmps88
 go_wp2_with (first|rw[<-bF.out,<-HX.out]|fail)
 go_cut [3] (fun v3 wx=>∃X,v3=ag (some ⟨X,0,none⟩)/\wx.heap[X]?=some (ak #[af A L c,ae aj (K:Int)] 30 (0,0))/\W1.heap.size<=X/\aR W1.heap.size W1 wx)
 case first=>
  go_region_law ((refine xZ rfl 87 _ _ rfl (enters_of func87 (by kernel_rfl) rfl) (#[ag (some ⟨g,0,none⟩)]) (by simp[Act.put,Act.eval,List.setIfInBounds_toArray,List.set_cons_zero,List.set_cons_succ]) (bn.out _ (by first|exact bd|exact bd.alloc gY _|exact((Below.refl W1.heap.size W1).alloc gY _).drew)) ?_;rintro e w6 ⟨rfl,rfl⟩;refine⟨_,rfl,?_⟩))
  all_goals(
   go_wp2_with fail
   go_meet;exact⟨_,rfl,aG W1 _,Nat.le_refl _,(ix.alloc gY _).drew.drew⟩)
 case rest=>
  obtain⟨X,rfl,hx,bt,hb⟩:=hcut;obtain⟨wx,rfl⟩:∃wx:aq,wx=wc:=⟨_,rfl⟩;have ad:=HQ.out.after hb;have av:=(hb.block x bE).trans bq.out;have bN:x<X:=by omega
  have bO:g<X:=by omega
  have bG:X<wx.heap.size:=(Array.getElem?_eq_some_iff.1 hx).1;have aZ:=br.out.trans (hb.mono (by omega));have bP:g<wx.heap.size:=by omega
  clear z0 z1 z2 e0 e1 e2 bd bn HQ bq br hb;obtain⟨z0,z1,z2,e0,e1,e2⟩:=ad.cells;have bQ:=ad.base;have al:∀(V:aq),V.ownsRow B 5 1 (af A L c) L (iw L f)->V.ownsRow B 5 1 (af A L c) L (iw L f):=fun _ h=>h
  by_cases bR:0<q
  ·have dq:decide (0<(q:Int))=true:=oM (by omega);have k0:wx.cell? ⟨X,0,none⟩=some (af A L c):=(aH wx X 0 _ _ (0,0) hx).trans rfl;have m0:=aO wx X 0 _ _ hx;obtain⟨A',c',w',bu,a4,bz,a5,_⟩:=Ep wx.drew B A L c f ad.drew.own R HR.out (by omega) ad.size;have bA:(Value.slice A L c).ownBlock≠some X:=oU ad.own hx (by kernel_rfl);have aS:=(a5 X bG bA).trans hx;have bS:w'.frozen? ⟨X,0,none⟩=false:=aO w' X 0 _ _ aS;have bT:w'.cell? ⟨X,0,none⟩=some (af A L c):=(aH w' X 0 _ _ (0,0) aS).trans rfl;have a1:(Value.slice A L c).ownBlock≠some x:=oU ad.own av (by kernel_rfl);have a2:=(a5 x (by have:x<wx.heap.size:=(by omega);exact this) a1).trans av;have a3:(Value.slice A' (L+1) c').ownBlock≠some X:=oU a4 aS (by kernel_rfl);obtain⟨U,hU⟩:=gX (w'.setCell ⟨X,0,none⟩ (af A' (L+1) c'));have bB:U.heap[X]?=some (ak #[af A' (L+1) c',ae aj (K:Int)] 30 (0,0)):=by rw[hU];exact(heap_setCell_same w' X 0 _ _ _ aS).trans (by simp)
   have a6:U.heap[x]?=some (ak #[af none 0 0,ae aj 0] 30 (0,0)):=by rw[hU];exact(Below.heap_setCell w' _ _ x (by show x≠X;omega)).trans a2
   have a7:U.ownsRow B 5 1 (af A' (L+1) c') (L+1) (iw (L+1) f):=by rw[hU];exact mV a4 fun j hj=>Below.heap_setCell w' _ _ j (fun e=>a3 (hj.trans (congrArg some e)))
   have bC:aR B w U:=by rw[hU];exact(aZ.drew.trans bz).setCell (by show B<=X;omega) _
   have aT:∀j,(Value.slice A' (L+1) c').ownBlock=some j->j≠x:=fun j hj e=>oU a7 a6 (by kernel_rfl) (hj.trans (congrArg some e))
   have bU:IntKind.u8.wrap (R:Int)=(R:Int):=by rw[IntKind.wrap_u8];omega
   have bV:(R:Int)%256=(R:Int):=by omega
   have aU:L+1=(K+7)/8:=by have:=HL.out;have:=bp.out;omega
   have bD:=gW bu;have a8:=gW bB;have aV:=gW a6;have a9:=gW a7;have bf:=gW bC;have HU:=gW hU;have bg:=gW aT;have bj:=gW aU
   clear bu a4 bz a5 bA aS a1 a2 a3 bB a6 a7 bC hU aT hx av ad aZ al bt aU;go_wp2;go_region_law ((refine sT rfl (.tmp 17) (.tmp 23) 22 22 rfl (af A L c) (af (some ⟨wx.heap.size,0,none⟩) 1 1) rfl rfl (af A' (L+1) c') w' bD.out ?_))
   all_goals(
    rw[<-HU.out];go_wp2_with (first
     |(refine aE rfl _ _ rfl X rfl _ #[af A' (L+1) c',ae aj (K:Int)] (0,0) _ a8.out underlying30 rfl lZ ?_)
     |(refine aC rfl _ _ _ rfl rfl x #[af A' (L+1) c',ae aj (K:Int)] rfl rfl 30 #[af none 0 0,ae aj 0] aV.out lZ rfl (by simp[Value.oneCell']) ?_)
     |fail)
    refine aK (v:=ah #[af A' (L+1) c',ae aj (K:Int)]) ?_ rfl ⟨A',c',L+1,bj.out,rfl,mV a9.out fun j hj=>setRow_other _ _ _ _ (bg.out j hj),qf bf.out bk _⟩;exact results_cell_row rfl _ _ x _ _ (0,0) _ rfl (aI _ _ _ _ _ _ aV.out) underlying30 rfl lZ)
  ·obtain rfl:q=0:=by omega
   have dq:decide (0<((0:Nat):Int))=false:=ni (by omega);have aT:∀j,(Value.slice A L c).ownBlock=some j->j≠x:=fun j hj e=>oU ad.own av (by kernel_rfl) (hj.trans (congrArg some e))
   have aU:L=(K+7)/8:=by have:=HL.out;have:=bp.out;omega
   have a8:=gW hx;have aV:=gW av;have a9:=gW ad.own;have bf:=gW aZ;have bg:=gW aT;have bj:=gW aU
   clear aT hx av ad aZ al bt aU;go_wp2_with (first
    |(refine aE rfl _ _ rfl X rfl _ #[af A L c,ae aj (K:Int)] (0,0) _ a8.out underlying30 rfl lZ ?_)
    |(refine aC rfl _ _ _ rfl rfl x #[af A L c,ae aj (K:Int)] rfl rfl 30 #[af none 0 0,ae aj 0] aV.out lZ rfl (by simp[Value.oneCell']) ?_)
    |fail)
   refine aK (v:=ah #[af A L c,ae aj (K:Int)]) ?_ rfl ⟨A,c,L,bj.out,rfl,mV a9.out fun j hj=>setRow_other _ _ _ _ (bg.out j hj),qf bf.out bk _⟩;exact results_cell_row rfl _ _ x _ _ (0,0) _ rfl (aI _ _ _ _ _ _ aV.out) underlying30 rfl lZ
def qO(t:Nat->Nat)(k m:Nat):Nat:=if m<k then mL t m else t m
theorem NO(t:Nat->Nat)(k:Nat):iG (qO t k) k (mL t k)=qO t (k+1):=by
 funext m;unfold iG qO;by_cases e:m=k
 ·subst e;rw[if_pos rfl,if_pos (by omega)]
 ·rw[if_neg e];by_cases h:m<k
  ·rw[if_pos h,if_pos (by omega)]
  ·rw[if_neg h,if_neg (by omega)]
theorem NP(t:Nat->Nat)(k:Nat):qO t k k=t k:=by unfold qO;rw[if_neg (by omega)]
theorem NQ(t:Nat->Nat):qO t 0=t:=by funext m;unfold qO;rw[if_neg (by omega)]
theorem NS(w:aq)(b:Nat)(t:Nat->Nat)(ht:∀m,t m<=1000)(h:jJ w b t):
  aw prog 139 #[ag (some ⟨b,0,none⟩)] w fun e w'=>e=ao (.tuple #[])/\aR b w w'/\jJ w' b (mL t):=by
 have HT:=gW ht
 rw[<-NQ t]at h
 have H0:=gW h
 clear ht h
 go_enter func139,ntmps139
 go_wp2
 go_loopw [2,6] (fun l i wr=>∃k:Nat,k<=16/\i=ae aj k/\l=ae aj (mL t k:Nat)/\jJ wr b (qO t k)/\aR b w wr) (fun _ i _=>16-(aP i).toNat)
 case atStart=>exact⟨0,by omega,rfl,rfl,H0.out,Below.refl _ _⟩
 case round=>
  obtain⟨k,hk,rfl,rfl,ht,hb⟩:=hrel;have hm:=HT.out k;have aS:=KZ HT.out hk;have HS:=gW (show mL t (k+1)=2*(mL t k+t k)from rfl);have al:=gW (NO t k);obtain⟨p,hp⟩:=gX (mL t k);have HP:=gW hp;rw[<-hp]at aS HS al⊢;clear hp;by_cases av:k<16
  ·have c1:=ht.cell av;have f1:=ht.frozen k;rw[NP]at c1;have H1:=gW ht;have HB:=gW hb
   clear ht hb;go_wp2;go_quiet (fail)
   go_wp2;go_roundw
   case rel=>
    have ad:=H1.out.set k p;rw[al.out]at ad;exact⟨k+1,by omega,by go_num,lx (by rw[HS.out];omega),ad,(Iy HB.out _).setCell (by simp) _⟩
   case measure=>simp[aP];omega
  ·obtain rfl:k=16:=by omega
   have H1:=gW ht;have HB:=gW hb
   clear ht hb av hk;go_wp2;go_end0;exact⟨rfl,HB.out,H1.out.ext fun i hi=>by unfold qO;rw[if_pos hi]⟩
theorem NT(w:aq)(b m:Nat)(t:Nat->Nat)(hm:m<16)(ht:t m<4294967296)(h:jJ w b t):
  aw prog 140 #[ag (some ⟨b,0,none⟩),ae .u8 (m:Int)] w fun e w'=>e=ao (ah #[ae .u32 (t m:Nat),ae .u8 (m:Int)])/\aR w.heap.size (w.setCell ⟨b,m,none⟩ (ae aj ((t m+1:Nat):Int))) w':=by
 have c1:=h.cell hm
 have f1:=h.frozen m
 have aS:=h.lt
 have H:=gW h
 obtain⟨x,hx⟩:=gX (t m)
 rw[<-hx]at c1 ht⊢
 have HX:=gW hx
 clear h hx
 go_enter func140,ntmps140
 go_wp2
 have g1:IntKind.i64.wrap ((x:Int)+1)=((x+1:Nat):Int):=by rw[IntWalk.i64_in _ ⟨by omega,by omega⟩];rfl
 refine wp_region_still_tail 8 (by kernel_rfl) (by kernel_rfl) ?_
 simp only[List.take_succ_cons,List.take_zero,List.drop_succ_cons,List.drop_zero]
 change wpStill _ _ (World.drew _) (fun a'=>wpList _ _ _ _ a' (World.drew _)) _ _
 have ad:(m:Int)<16:=by omega
 have al:¬(m:Int)<0:=by omega
 have av:¬(16:Int)<=m:=by omega
 repeat still_step
 refine wpStill_nil ?_
 clear ad al av
 go_wp2
 clear g1
 have hb:aR w.heap.size (w.setCell ⟨b,m,none⟩ (ae aj ((x:Int)+1))) (w.setCell ⟨b,m,none⟩ (ae aj ((x:Int)+1))):=Below.refl _ _
 have hs:(w.setCell ⟨b,m,none⟩ (ae aj ((x:Int)+1))).heap.size=w.heap.size:=by simp[World.setCell]
 exact aK (v:=ah #[ae .u32 (x:Int),ae .u8 (m:Int)]) (by simp[results,Tryz.results140,go_sem]) rfl ⟨rfl,((hb.alloc (by omega) _).alloc (by rw[World.size_alloc];omega) _).drew⟩
theorem NU(w:aq)(A:Option au)(n c:Nat)(f:Nat->Nat)(il:Int)(hr:iy w w.heap.size A n f)(hn:n<=1000000):
  aw prog 137 #[af A n c,ae aj il] w fun e w'=>e=ao (ae aj (ky f n il))/\aR w.heap.size w w':=by
 unfold ky
 by_cases h1:il<1\/15<il
 ·rw[if_pos h1];exact(Lj w A n c il h1).mono fun _ _ ⟨he,hw⟩=>⟨he,hw▸Below.refl _ _⟩
 ·rw[if_neg h1];by_cases h2:320<n
  ·rw[if_pos h2];exact(Lk w A n c il (by omega) (by omega) h2).mono fun _ _ ⟨he,hw⟩=>⟨he,hw▸Below.refl _ _⟩
  ·rw[if_neg h2];exact Ll w A n c f il hr (by omega) (by omega) (by omega)
def qP(f:Nat->Nat)(n k j:Nat):Nat:=if j<k then jz f n j else 0
def qQ(f:Nat->Nat)(k j:Nat):Nat:=if j<k then f j else 0
theorem FJ(f:Nat->Nat)(n k:Nat):iG (qP f n k) k (jz f n k)=qP f n (k+1)/\iG (qQ f k) k (f k)=qQ f (k+1):=by
 constructor
 ·funext j;unfold iG qP;by_cases e:j=k
  ·subst e;rw[if_pos rfl,if_pos (by omega)]
  ·rw[if_neg e];by_cases h:j<k
   ·rw[if_pos h,if_pos (by omega)]
   ·rw[if_neg h,if_neg (by omega)]
 ·funext j;unfold iG qQ;by_cases e:j=k
  ·subst e;rw[if_pos rfl,if_pos (by omega)]
  ·rw[if_neg e];by_cases h:j<k
   ·rw[if_pos h,if_pos (by omega)]
   ·rw[if_neg h,if_neg (by omega)]
theorem NV{f:Nat->Nat}{k:Nat}(n:Nat)(h:f k=0):qP f n k=qP f n (k+1)/\qQ f k=qQ f (k+1):=by
 have hc:jz f n k=0:=by unfold jz;rw[if_pos h]
 constructor
 ·funext j;unfold qP;by_cases e:j=k
  ·subst e;rw[if_neg (by omega),if_pos (by omega),hc]
  ·by_cases h:j<k
   ·rw[if_pos h,if_pos (by omega)]
   ·rw[if_neg h,if_neg (by omega)]
 ·funext j;unfold qQ;by_cases e:j=k
  ·subst e;rw[if_neg (by omega),if_pos (by omega),h]
  ·by_cases h:j<k
   ·rw[if_pos h,if_pos (by omega)]
   ·rw[if_neg h,if_neg (by omega)]
theorem NY(w:aq)(A:Option au)(n c:Nat)(f:Nat->Nat)(il:Int)(hr:iy w w.heap.size A n f)(hn:n<=1000000):
  aw prog 110 #[af A n c,ae aj il] w fun e w'=>∃A' c',e=ao (.tuple #[af A' (qW f n il) c',ae aj (ky f n il)])/\aR w.heap.size w w'/\Iz w.heap.size w' A' (qW f n il) (xK f n il) f:=by
 have HR:=gW hr
 clear hr
 have aU:=NU w A n c f il HR.out hn
 by_cases h0:ky f n il=0
 ·obtain⟨_,bM,bN,hb,ha,_⟩:=tH h0;have bg:=gW (show∀j,j<n->f j<=15 from fun j hj=>by have:=hb j hj;omega);have HA:=gW ha;have H0:=gW h0;have hl:qW f n il=n:=by unfold qW;rw[if_pos h0]
  rw[h0]at aU;have a2:=gW aU;rw[hl,h0];obtain⟨i0,hi,aV,bj,bk⟩:=info_parts Co;have bB:∀u:aq,(Instr.makeSlice 137 (ae aj (n:Int)) (ae aj (n:Int))).run prog u=
    .ok (af (some ⟨u.heap.size,0,none⟩) n n) (u.alloc (ak (madeCells #[ae .u32 0,ae .u8 0] (n*2)) 176)):=fun u=>by
   have h:=run_make (P:=prog) u 137 176 i0 (ah #[ae .u32 0,ae .u8 0]) underlying137 hi aV aj aj (n:Int) (n:Int) (by omega) (Int.le_refl _) (by rw[bk];omega) (by omega)
   rw[Int.toNat_natCast]at h
   simpa[bj,Value.cells]using h
  have hz:=(zero_of_info yP).1;clear aU hb ha hl h0 hi aV bj bk;go_enter func110,ntmps110
  go_wp2_with fail
  refine a2.out.mono ?_;rintro e w1 ⟨rfl,hb⟩;have HB:=gW hb;have bl:=gW ((HR.out.below hb gY).more hb.size);clear hb;go_wp2_with fail
  refine(Ec w1 A n c f bl.out hn bg.out).mono ?_;rintro e w2 ⟨rfl,hb⟩;have aW:=gW (HB.out.trans (hb.mono HB.out.size));have bC:=gW ((bl.out.below hb gY).more hb.size);clear hb;have bm:jJ (w2.alloc (ak (iV lY) 211)) w2.heap.size lY:=aG w2 _;have a3:=gW bm;clear bm;go_wp2_with (refine Eb rfl _ _ _ rfl w2.heap.size (iV fun m=>tcN f m n) rfl rfl _ (iV lY) a3.out (by rw[nS];exact qd) (by rw[nS,nS]) (Ea _) ?_)
  have av:=a3.out.setRow (h:=fun m=>tcN f m n);have aX:=yQ ((aW.out.alloc aW.out.size (ak (iV lY) 211))) (g:=w2.heap.size) aW.out.size (iV fun m=>tcN f m n);have aY:=(bC.out.below (yQ ((Below.refl w2.heap.size w2).alloc gY (ak (iV lY) 211)) (g:=w2.heap.size) gY (iV fun m=>tcN f m n)) gY);have a4:=aW.out.size;obtain⟨b,bn⟩:=gX (w2.heap.size);rw[<-bn]at av aX aY a4⊢;generalize (w2.alloc (ak (iV lY) 211)).setRow b (iV fun m=>tcN f m n)=w3 at av aX aY⊢;have a5:=gW av;have bD:=gW aX;have bE:=gW aY;clear av aX aY bn a3;refine(NS w3 b _ (fun m=>Nat.le_trans (wj f m n) (by omega)) a5.out).mono ?_;rintro e w4 ⟨rfl,hb,ht⟩;rw[K9]at ht;have bp:=gW (bD.out.trans (hb.mono a4));have bF:=gW (bE.out.below hb gY);have bG:=gW ht;have bL:=ht.lt;clear hb ht;go_wp2;clear bB;go_loopw [25] (fun i wr=>∃k:Nat,k<=n/\i=ae aj k/\jP wr w4.heap.size n (qP f n k) (qQ f k)/\jJ wr b (nQ f n k)/\iy wr b A n f/\aR w.heap.size w wr) (fun i _=>n-(aP i).toNat)
  case atStart=>
   refine⟨0,Nat.zero_le _,rfl,(Cp w4 n).ext (fun j _=>?_) (fun j _=>?_),bG.out.alloc _,bF.out.below ((Below.refl w4.heap.size w4).alloc gY _) (by omega),bp.out.alloc bp.out.size _⟩
   ·unfold qP;rw[if_neg (by omega)];rfl
   ·unfold qQ;rw[if_neg (by omega)];rfl
  case round=>
   obtain⟨k,hk,rfl,aS,ht,hr,hb⟩:=hrel;by_cases aT:k<n
   ·have hf:=bg.out k aT;obtain⟨ab,o,hA,_,hc⟩:=hr.2 (by omega);have a6:=hc k aT;clear hc;have bH:=aS.lt;have al:=gW aS;have HT:=gW ht;have HB:=gW hb;have bq:=gW hr
    clear aS ht hb hr;subst hA;by_cases hp:0<f k
    ·have hx:=Ha H0.out k aT;have a7:=K6 (n:=n) hp hf;have br:=al.out.frozen (k*2);have bt:=al.out.frozen (k*2+1);have bu:=(al.out.cell aT).1;have bz:=(al.out.cell aT).2;rw[a7]at hx;have a8:=gW a7;clear a7 br bt bu bz;go_wp2_with fail
     refine(NT _ b (f k) _ (by omega) hx HT.out).mono ?_;rintro e wn ⟨rfl,aZ⟩;have bI:(wr.setCell ⟨b,f k,none⟩ (ae aj ((nQ f n k (f k)+1:Nat):Int))).heap.size=wr.heap.size:=by simp[World.setCell]
     have a9:aR b wr wn:=((Below.refl b wr).setCell gY _).trans (aZ.mono (by omega));have ad:=(al.out.other (p:=⟨b,f k,none⟩) (by show w4.heap.size≠b;omega) (ae aj ((nQ f n k (f k)+1:Nat):Int))).below aZ bH;have av:=(HT.out.set (f k) (nQ f n k (f k)+1)).below aZ (by omega);rw[K7 hp]at av;have bd:=gW ad;have a5:=gW av
     have bA:=gW (bq.out.below a9 gY);have bJ:=gW (HB.out.trans (a9.mono a4));have bO:=ad.lt;have bu:=(ad.cell aT).1;have bz:=(ad.cell aT).2;have br:=ad.frozen (k*2);have bt:=ad.frozen (k*2+1);clear aZ a9 ad av bI a6;obtain⟨x,bf⟩:=gX (nQ f n k (f k));rw[<-bf]at a8 hx⊢;have bP:=gW bf;clear bf;go_wp2;go_roundw
     case rel=>
      have a1:=bd.out.set k x (f k);rw[<-a8.out,(FJ f n k).1,(FJ f n k).2]at a1;refine⟨k+1,by omega,by go_num,?_,(a5.out.other (by show b≠w4.heap.size;omega) _).other (by show b≠w4.heap.size;omega) _,bA.out.below (((Below.refl b wn).setCell (by show b<=w4.heap.size;omega) _).setCell (by show b<=w4.heap.size;omega) _) gY,(bJ.out.setCell (by show w.heap.size<=w4.heap.size;omega) _).setCell (by show w.heap.size<=w4.heap.size;omega) _⟩;rw[<-a8.out];exact a1
     case measure=>simp[aP];omega
    ·have aV:f k=0:=by omega
     have bQ:decide (0<((f k:Nat):Int))=false:=by simp;omega
     have HS:=gW (K8 (n:=n) aV);have HP:=gW (NV n aV);clear aV;go_wp2;go_roundw
     case rel=>
      refine⟨k+1,by omega,by go_num,?_,?_,bq.out,HB.out⟩
      ·rw[<-HP.out.1,<-HP.out.2];exact al.out
      ·rw[<-HS.out];exact HT.out
     case measure=>simp[aP];omega
   ·obtain rfl:k=n:=by omega
    have al:=gW aS;have HB:=gW hb
    clear aS ht hb hr aT hk;go_wp2;go_ret2;refine⟨_,_,rfl,HB.out,.inr ⟨_,rfl,by omega,al.out.ext (fun j hj=>?_) (fun j hj=>?_)⟩⟩
    ·rw[Bc H0.out j hj];unfold qP;rw[if_pos hj]
    ·unfold qQ;rw[if_pos hj]
 ·have hl:qW f n il=0:=by unfold qW;rw[if_neg h0]
  have bK:(ky f n il !=0)=true:=by simpa using h0
  rw[hl];obtain⟨E,hE⟩:=gX (ky f n il);rw[<-hE]at aU bK⊢;have a2:=gW aU;clear aU h0 hl hE;go_enter func110,ntmps110
  go_wp2_with fail
  refine a2.out.mono ?_;rintro e w' ⟨rfl,hb⟩;have HB:=gW hb;clear hb;go_wp2;go_ret2;exact⟨_,_,rfl,HB.out,.inl rfl⟩
theorem FK{f:Nat->Nat}{n:Nat}:∀N,n<=N->(∀i,n<=i->i<N->f i=0)->P8 f N=P8 f n/\lH f N=lH f n
 |0,h,_=>by rw[show n=0 by omega];exact⟨rfl,rfl⟩
 |N+1,h,hz=>by
  rcases Nat.eq_or_lt_of_le h with e|e
  ·rw[e];exact⟨rfl,rfl⟩
  ·obtain⟨h1,h2⟩:=FK N (by omega) fun i a b=>hz i a (by omega)
   have h0:=hz N (by omega) (by omega);simp only[P8,lH];rw[h1,h2,h0,if_neg (by omega),if_neg (by omega)];exact⟨rfl,rfl⟩
theorem zF{f:Nat->Nat}{n N:Nat}{il ad:Int}(h:ky f N il=0)(hn:n<=N)(hz:∀i,n<=i->i<N->f i=0)(hm:il<=ad)(al:ad<=15):ky f n ad=0:=by
 obtain⟨h1,h2,h3,h4,h5,h6⟩:=tH h;obtain⟨e1,e2⟩:=FK N hn hz;unfold ky;rw[if_neg (by omega),if_neg (by omega),if_neg]
 ·unfold qu;rw[<-e1,<-e2,if_neg (by omega),if_pos h6]
 ·unfold qt;rw[decide_eq_true_eq];rintro⟨j,hj,hb⟩;have:=h4 j (by omega);omega
theorem FL{f:Nat->Nat}{least N i:Nat}(h1:Qc f least N<=i)(h2:i<N):f i=0:=by
 rcases Nat.eq_zero_or_pos (f i)with h|h
 ·exact h
 ·have:=vg f least N i h2 (by omega);omega
theorem zG{c:Nat->Nat}{n il:Nat}(h1:1<=il)(h2:il<=15)(hn:n<=320)(ad:n<=2^il)(hc:∀i,c i<=1073741824):ky (mv c n il) n (il:Int)=0:=by
 have h:=(Bi (xV h1 h2 hn ad hc)).2.1;rw[mG]at h;exact h
theorem NZ(l:List iu)(hl:l.length<=1000000):ky (jA l) (nA l) 15=0:=by
 obtain⟨_,_,_,_,a1,a2,_⟩:=nc l hl;have h:=zG (c:=jn l) (n:=286) (il:=15) (by omega) (by omega) (by omega) (by decide) (fun i=>by have:=rX l i;omega);exact zF h a2 (fun i h1 h2=>FL h1 h2) (by omega) (by omega)
theorem N0(l:List iu)(hl:l.length<=1000000):ky (jE l) (nB l) 15=0:=by
 obtain⟨_,_,_,_,_,_,b1,b2,_⟩:=nc l hl;have h:=zG (c:=jg l) (n:=30) (il:=15) (by omega) (by omega) (by omega) (by decide) (fun i=>by have:=qY l i;omega);exact zF h b2 (fun i h1 h2=>FL h1 h2) (by omega) (by omega)
theorem N6(l:List iu)(hl:l.length<=1000000):ky (kj l) 19 15=0:=by
 have h:=zG (c:=ld (jV l)) (n:=19) (il:=7) (by omega) (by omega) (by omega) (by decide) (fun i=>by have:=rf (jV l) i;have:=(sf l hl).2;omega);exact zF h gY (fun i h1 h2=>absurd h1 (by omega)) (by omega) (by omega)
theorem N7:ky kg 288 15=0:=by decide+kernel
theorem N8:ky lL 32 15=0:=by decide+kernel
theorem zH(w:aq)(A:Option au)(n c:Nat)(f:Nat->Nat)(hr:iy w w.heap.size A n f)(h0:0<n)(hn:n<=1000000)(hf:ky f n 15=0):
  aw prog 85 #[af A n c] w fun e w'=>∃g c',e=ao (af (some ⟨g,0,none⟩) n c')/\w.heap.size<=g/\jP w' g n (jz f n) f/\aR w.heap.size w w':=by
 have hc:=NY w A n c f 15 hr hn
 rw[show qW f n 15=n by unfold qW;rw[if_pos hf],hf]at hc
 have HC:=gW hc
 have HF:=gW hf
 clear hc hr hf
 go_enter func85,ntmps85
 go_wp2_with fail
 refine HC.out.mono ?_
 rintro e w1 ⟨A',c',rfl,hb,ho⟩
 rcases ho with rfl|⟨g,rfl,hg,ad⟩
 ·omega
 have al:=gW (ad.ext (x':=jz f n) (l':=f) (fun j hj=>Bc HF.out j hj) (fun _ _=>rfl));have HB:=gW hb
 clear hb ad
 go_wp2
 go_ret
 exact⟨g,c',rfl,hg,al.out,HB.out⟩
theorem zI{F:Nat->Nat}{n i:Nat}(h:ky F n 15=0)(hi:i<n):jz F n i<2^F i/\F i<=15:=by
 obtain⟨_,_,_,h4,h5,_⟩:=tH h;exact⟨xJ hi (fun j hj=>by have:=h4 j hj;omega) h5,by have:=h4 i hi;omega⟩
theorem FM(w:aq)(g n c:Nat)(F:Nat->Nat)(i:Nat)(hr:jP w g n (jz F n) F)(hF:ky F n 15=0)(hi:i<n)(_:n<=1000000):
  aw prog 86 #[af (some ⟨g,0,none⟩) n c,ae aj (i:Int)] w fun e w'=>e=ao (ah (ln (jT F n i)).toArray)/\aR w.heap.size w w':=by
 obtain⟨h1,h2⟩:=zI hF hi
 obtain⟨c0,c1⟩:=hr.cell hi
 obtain⟨X,hX⟩:=gX (jz F n i)
 obtain⟨Y,hY⟩:=gX (F i)
 have aS:jT F n i=(Qg X Y,Y):=by unfold jT;rw[hX,hY]
 rw[aS]
 rw[<-hX]at h1 c0
 rw[<-hY]at h1 h2 c1
 have aT:X<4294967296:=by
  have e:(2:Nat)^Y<=2^15:=Nat.pow_le_pow_right (by omega) h2;have e2:(2:Nat)^15=32768:=rfl;omega
 obtain⟨Z,hZ⟩:=gX (Qg X Y)
 have av:=fun V:aq=>Hr X Y V aT (by omega) (Ho.2 ⟨by omega,h1⟩)
 rw[<-hZ]at av⊢
 obtain⟨W1,ad⟩:=gX (w.alloc (ak #[ae .u32 0,ae aj 0] 169))
 obtain⟨h,hh⟩:=gX (w.heap.size)
 obtain⟨W2,al⟩:=gX (iP W1 #[ae .u32 0,ae .u8 0] #[ae .u32 (X:Int),ae .u8 (Y:Int)] 176)
 have b1:aR h w W1:=by rw[ad,hh];exact ix.alloc gY _
 have x1:W1.heap[h]?=some (ak #[ae .u32 0,ae aj 0] 169 (0,0)):=by rw[ad,hh];exact aG w _
 have s1:W1.heap.size=h+1:=by rw[ad,hh];simp
 have b2:aR W1.heap.size W1 W2:=by rw[al];exact kU _ _ _ _
 have r2:W2.heap[W1.heap.size]?=some (ak #[ae .u32 (X:Int),ae .u8 (Y:Int)] 176 (0,0)):=by rw[al];exact lq W1 _ _ _
 have x2:=(b2.block h (by omega)).trans x1
 have y0:W2.cell? ⟨W1.heap.size,0,none⟩=some (ae .u32 (X:Int)):=(aH W2 _ 0 _ _ (0,0) r2).trans rfl
 have y1:W2.cell? ⟨W1.heap.size,1,none⟩=some (ae .u8 (Y:Int)):=(aH W2 _ 1 _ _ (0,0) r2).trans rfl
 have aU:W1.rangeAt g (i*2) [ae .u32 (X:Int),ae .u8 (Y:Int)]:=by
  have aV:g<h:=by rw[hh];exact hr.lt
  intro j v hv;rw[b1.cell (p:=⟨g,i*2+j,none⟩) aV];rcases j with _|_|j
  ·simp at hv;subst hv;exact c0
  ·simp at hv;subst hv;exact c1
  ·simp at hv
 have aW:=gW aU;have aX:=gW av;have aY:=gW ad;have HH:=gW hh;have aZ:=gW al;have HB:=gW (b1.trans (b2.mono (by omega)));have X2:=gW x2;have a2:=gW s1
 have a1:(i:Int)<(n:Int):=by omega
 clear aU av ad hh al b1 b2 x1 x2 s1 r2 hr hF hX hY hZ aS h1 c0 c1
 go_enter func86,ntmps86
 go_wp2_with (first
  |(rw[<-aY.out,<-HH.out])
  |(refine aF rfl _ _ rfl g (i*2) rfl [ae .u32 (X:Int),ae .u8 (Y:Int)] _ aW.out underlying176 rfl (se _ _) ?_)
  |(refine aC rfl _ _ _ rfl rfl W1.heap.size #[ae .u32 (X:Int),ae .u8 (Y:Int)] rfl rfl 176 #[ae .u32 0,ae .u8 0] (aG W1 _) (se _ _) rfl (by simp[Value.oneCell']) ?_;change wpList _ _ _ _ _ (iP W1 #[ae .u32 0,ae .u8 0] #[ae .u32 (X:Int),ae .u8 (Y:Int)] 176);rw[<-aZ.out])
  |fail)
 refine(aX.out W2).mono ?_
 rintro e w3 ⟨rfl,rfl⟩
 go_wp2_with (first
  |(refine aD rfl 169 #[(0,.tmp 21),(1,.tmp 24)] rfl (some 25) rfl #[ae .u32 (Z:Int),ae aj (Y:Int)] ?_ ?_;focus(simpa[Act.eval]using lV (Z:Int) (Y:Int)))
  |(refine aC rfl _ _ _ rfl rfl h #[ae .u32 (Z:Int),ae aj (Y:Int)] rfl rfl 169 #[ae .u32 0,ae aj 0] X2.out (yZ (Z,Y)) rfl (Er (Z,Y)) ?_)
  |fail)
 refine aK (v:=ah #[ae .u32 (Z:Int),ae aj (Y:Int)]) ?_ rfl ⟨rfl,by rw[<-HH.out];exact qf HB.out gY _⟩
 exact results_cell_row rfl _ _ h _ _ (0,0) _ rfl (aI _ _ _ _ _ _ X2.out) underlying169 rfl (yZ (Z,Y))
theorem N9(w:aq)(s:Int):aw prog 160 #[ae aj s] w fun e w'=>e=ao (.tuple #[ae aj (jG s),ae aj (kG s)])/\w=w':=by
 by_cases y0:s<0
 ·skip;have e1:jG s=0:=by unfold jG;rw[if_neg (by omega)]
  have e2:kG s=2:=by unfold kG;rw[if_neg (by omega)]
  rw[e1,e2];have d0:decide (s<0)=true:=oM y0;clear e1 e2 y0;go_enter func160,ntmps160
  go_wp2;go_ret2;exact⟨rfl,rfl⟩
 have d0:decide (s<0)=false:=ni y0;by_cases y1:19<=s
 ·skip;have e1:jG s=0:=by unfold jG;rw[if_neg (by omega)]
  have e2:kG s=2:=by unfold kG;rw[if_neg (by omega)]
  rw[e1,e2];have d1:decide (19<=s)=true:=oM y1;clear e1 e2 y0 y1;go_enter func160,ntmps160
  go_wp2;go_ret2;exact⟨rfl,rfl⟩
 have d1:decide (19<=s)=false:=ni y1;by_cases ad:s=16
 ·skip;have e1:jG s=2:=by unfold jG kL;rw[if_pos (by omega),if_pos ad];rfl
  have e2:kG s=0:=by unfold kG;rw[if_pos (by omega)]
  rw[e1,e2];have d16:(s==16)=true:=by simp[ad]
  clear e1 e2 y0 y1 ad;go_enter func160,ntmps160
  go_wp2;go_ret2;exact⟨rfl,rfl⟩
 have d16:(s==16)=false:=by simp[ad]
 by_cases al:s=17
 ·skip;have e1:jG s=3:=by unfold jG kL;rw[if_pos (by omega),if_neg ad,if_pos al];rfl
  have e2:kG s=0:=by unfold kG;rw[if_pos (by omega)]
  rw[e1,e2];have d17:(s==17)=true:=by simp[al]
  clear e1 e2 y0 y1 ad al;go_enter func160,ntmps160
  go_wp2;go_ret2;exact⟨rfl,rfl⟩
 have d17:(s==17)=false:=by simp[al]
 by_cases av:s=18
 ·skip;have e1:jG s=7:=by unfold jG kL;rw[if_pos (by omega),if_neg ad,if_neg al,if_pos av];rfl
  have e2:kG s=0:=by unfold kG;rw[if_pos (by omega)]
  rw[e1,e2];have d18:(s==18)=true:=by simp[av]
  clear e1 e2 y0 y1 ad al av;go_enter func160,ntmps160
  go_wp2;go_ret2;exact⟨rfl,rfl⟩
 have d18:(s==18)=false:=by simp[av]
 have e1:jG s=0:=by unfold jG kL;rw[if_pos (by omega),if_neg ad,if_neg al,if_neg av];rfl
 have e2:kG s=0:=by unfold kG;rw[if_pos (by omega)]
 rw[e1,e2];skip;clear e1 e2 y0 y1 ad al av;go_enter func160,ntmps160
 go_wp2;go_ret2;exact⟨rfl,rfl⟩
theorem FN{B:Nat}{a w:aq}(h:aR B a w)(n:Nat):aR B a (w.drewN n):=⟨h.os,h.tape,h.output,h.size,h.block⟩
theorem Oa(w:aq)(K B:Nat)(A:Option au)(n c:Nat)(f:Nat->Nat)(a:Nat)(hk:w.cell? ⟨K,0,none⟩=some (af A n c))(hr:iy w B A n f)(ha:a<n)(hn:n<=1000000):
  aw prog 157 #[ae aj (a:Int),ag (some ⟨K,0,none⟩)] w fun e w'=>e=ao (ae aj ((mP f n a:Nat):Int))/\mU w w':=by
 obtain⟨L,hL⟩:=gX (mP f n a)
 rw[<-hL]
 have aS:L=1+Qi (f a) (kM f n (a+1)):=by rw[hL];unfold mP;omega
 have HR:=gW hr;have HL:=gW aS;have aV:=gW hk
 clear hr hL aS hk
 go_enter func157,ntmps157
 go_wp2
 go_loopw [4] (fun kv wr=>∃k:Nat,1<=k/\a+k<=n/\kv=ae aj (k:Int)/\aQ (L=k+Qi (f a) (kM f n (a+k)))/\aQ (mU w wr)) (fun kv _=>n-(aP kv).toNat)
 case atStart=>exact⟨1,Nat.le_refl _,by omega,rfl,HL,gW (mU.refl w)⟩
 case round=>
  obtain⟨k,aZ,a1,rfl,HK,HD⟩:=hrel;have e2:(a:Int)+(k:Int)=((a+k:Nat):Int):=by omega
  have ck:wr.cell? ⟨K,0,none⟩=some (af A n c):=by obtain⟨t,rfl⟩:=HD.out;exact aV.out
  obtain⟨Q,hQ⟩:=gX (a+k);rw[<-hQ]at e2;by_cases aW:Q<n
  ·obtain⟨b,o,rfl,_,hc⟩:=(HD.out.rd HR.out).2 (by omega);have c1:=hc a (by omega);have c2:=hc Q aW;have a2:(Q:Int)<(n:Int):=by omega
   have aX:decide ((Q:Int)<(n:Int))=true:=by simp;omega
   have aT:decide (Q<n)=true:=by simp;omega
   have a3:(a:Int)<(n:Int):=by omega
   have aY:(0:Int)<=(Q:Int):=by omega
   have a4:(0:Int)<=(a:Int):=by omega
   clear hc;by_cases he:f Q=f a
   ·have al:((f Q:Int)==(f a:Int))=true:=by simp[he]
    have ad:=xM (f:=f) (n:=n) (a:=a+k) (x:=f a) (by omega) (by rw[<-hQ];exact he);have av:aQ (L=(k+1)+Qi (f a) (kM f n (a+(k+1)))):=gW (by have:=HK.out;rw[ad]at this;rw[<-Nat.add_assoc];omega);have aU:a+(k+1)<=n:=by omega
    obtain⟨x,hx⟩:=gX (f a);obtain⟨y,hy⟩:=gX (f Q);rw[<-hx]at c1 al;rw[<-hy]at c2 al;clear ad hQ he hx hy;go_wp2;go_quiet (fail)
    go_wp2;go_roundw
    case rel=>exact⟨k+1,by omega,aU,by go_num,av,gW (HD.out.more _)⟩
    case measure=>simp[aP];omega
   ·have al:((f Q:Int)==(f a:Int))=false:=by simp;omega
    have ad:=uV (f:=f) (n:=n) (a:=a+k) (x:=f a) (.inr (by rw[<-hQ];exact he));have av:aQ (L=k):=gW (by have:=HK.out;rw[ad]at this;omega);obtain⟨x,hx⟩:=gX (f a);obtain⟨y,hy⟩:=gX (f Q);rw[<-hx]at c1 al;rw[<-hy]at c2 al;clear ad hQ he hx hy;go_wp2;go_quiet (fail)
    go_wp2;go_ret;exact⟨(by rw[av.out];rfl),HD.out.more _⟩
  ·have aX:decide ((Q:Int)<(n:Int))=false:=by simp;omega
   have aT:decide (Q<n)=false:=by simp;omega
   have aY:(0:Int)<=(Q:Int):=by omega
   have ad:=uV (f:=f) (n:=n) (a:=a+k) (x:=f a) (.inl (by omega));have av:aQ (L=k):=gW (by have:=HK.out;rw[ad]at this;omega);have a5:Q<=1000000:=by omega
   have a6:IntKind.i64.wrap (Q:Int)=(Q:Int):=by rw[IntKind.wrap_i64];omega
   clear ad hQ;go_wp2;go_quiet (fail)
   go_wp2;go_ret;exact⟨(by rw[av.out];rfl),HD.out.more _⟩
theorem Ob(w:aq)(prev:Option Nat)(x L:Nat)(kn:Bool)(hk:kn=decide (prev=some x))(hx:x<256)(h1:1<=L)(h2:L<=1000000):
  aw prog 158 #[ae .u8 (x:Int),ai kn,ae aj (L:Int)] w fun e w'=>e=ao (.tuple #[ah #[ae aj (kK prev x L).1.1,ae aj (kK prev x L).1.2],ae aj ((kK prev x L).2:Nat)])/\aR w.heap.size w w':=by
 obtain⟨R,hR⟩:=gX (kK prev x L)
 rw[<-hR]
 unfold kK at hR
 obtain⟨W1,aV⟩:=gX (w.alloc (ak #[ae aj 0,ae aj 0] 192))
 have aX:aR w.heap.size w W1:=by rw[aV];exact ix.alloc gY _
 obtain⟨h,hh⟩:=gX (w.heap.size)
 have aW:W1.heap[h]?=some (ak #[ae aj 0,ae aj 0] 192 (0,0)):=by rw[aV,hh];exact aG w _
 have ad:=gW aW;have aS:=gW aX;have HH:=gW hh;have aT:=gW aV;have HR:=gW hR;have aU:=gW hk
 clear aW aX aV hR hh hk
 by_cases l3:L<3
 ·have d3:decide ((L:Int)<3)=true:=by simp;omega
  have aZ:decide (L<3)=true:=by simp;omega
  have al:R=(((x:Int),0),1):=by rw[HR.out,if_neg (by omega),if_neg (by omega),if_neg (by omega)]
  subst al;clear l3 HR;go_enter func158,ntmps158
  go_wp2_with (first
   |(rw[<-aT.out,<-HH.out];refine aD rfl 192 #[(0,.tmp 19)] rfl (some 20) rfl #[ae aj (x:Int),ae aj 0] ?_ ?_;focus(simpa[Act.eval]using rm (x:Int)))
   |(refine aD rfl 192 #[(0,.tmp 19)] rfl (some 20) rfl #[ae aj (x:Int),ae aj 0] ?_ ?_;focus(simpa[Act.eval]using rm (x:Int)))
   |(refine aC rfl _ _ _ rfl rfl h #[ae aj (x:Int),ae aj 0] rfl rfl 192 #[ae aj 0,ae aj 0] ad.out lN rfl (nm _ _) ?_))
  refine aK ((nj rfl _ _ h _ rfl rfl (aI _ _ _ _ _ _ ad.out)).trans rfl) rfl ⟨rfl,?_⟩;exact nk aS.out (by rw[HH.out];exact Nat.le_refl _) _
 have d3:decide ((L:Int)<3)=false:=by simp;omega
 have aZ:decide (L<3)=false:=by simp;omega
 by_cases x0:x=0
 ·have dx:((x:Int) !=0)=false:=by simp[x0]
  by_cases a3:L<=10
  ·have d10:decide ((L:Int)<=10)=true:=by simp;omega
   have aY:decide (L<=10)=true:=by simp;omega
   obtain⟨u,hu⟩:=gX (L-3);have eu:(L:Int)-3=(u:Int):=by omega
   have al:R=((17,(u:Int)),L):=by rw[HR.out,if_neg (by omega),if_pos ⟨x0,by omega⟩,<-hu]
   subst al;clear x0 hu HR;go_enter func158,ntmps158
   go_wp2_with (first
    |(rw[<-aT.out,<-HH.out];refine aD rfl 192 #[(0,.const (ae aj 17)),(1,.tmp 32)] rfl (some 33) rfl #[ae aj 17,ae aj (u:Int)] ?_ ?_;focus(simpa[Act.eval]using nK 17 (u:Int)))
    |(refine aD rfl 192 #[(0,.const (ae aj 17)),(1,.tmp 32)] rfl (some 33) rfl #[ae aj 17,ae aj (u:Int)] ?_ ?_;focus(simpa[Act.eval]using nK 17 (u:Int)))
    |(refine aC rfl _ _ _ rfl rfl h #[ae aj 17,ae aj (u:Int)] rfl rfl 192 #[ae aj 0,ae aj 0] ad.out lN rfl (nm _ _) ?_))
   refine aK ((nj rfl _ _ h _ rfl rfl (aI _ _ _ _ _ _ ad.out)).trans rfl) rfl ⟨rfl,?_⟩;exact nk aS.out (by rw[HH.out];exact Nat.le_refl _) _
  have d10:decide ((L:Int)<=10)=false:=by simp;omega
  have aY:decide (L<=10)=false:=by simp;omega
  by_cases a2:138<L
  ·have dd:(138:Int)<(L:Int):=by omega
   have al:R=((18,127),138):=by rw[HR.out,if_pos ⟨x0,by omega⟩,show min L 138=138 by omega];rfl
   subst al;clear x0 HR;go_enter func158,ntmps158
   go_wp2_with (first
    |(rw[<-aT.out,<-HH.out];refine aD rfl 192 #[(0,.const (ae aj 18)),(1,.tmp 39)] rfl (some 40) rfl #[ae aj 18,ae aj 127] ?_ ?_;focus(simpa[Act.eval]using nK 18 127))
    |(refine aD rfl 192 #[(0,.const (ae aj 18)),(1,.tmp 39)] rfl (some 40) rfl #[ae aj 18,ae aj 127] ?_ ?_;focus(simpa[Act.eval]using nK 18 127))
    |(refine aC rfl _ _ _ rfl rfl h #[ae aj 18,ae aj 127] rfl rfl 192 #[ae aj 0,ae aj 0] ad.out lN rfl (nm _ _) ?_))
   refine aK ((nj rfl _ _ h _ rfl rfl (aI _ _ _ _ _ _ ad.out)).trans rfl) rfl ⟨rfl,?_⟩;exact nk aS.out (by rw[HH.out];exact Nat.le_refl _) _
  ·have dd:¬(138:Int)<(L:Int):=by omega
   obtain⟨u1,a1⟩:=gX (L-10);have a4:(L:Int)-10=(u1:Int):=by omega
   obtain⟨u,hu⟩:=gX (L-11);have eu:(u1:Int)-1=(u:Int):=by omega
   have al:R=((18,(u:Int)),L):=by rw[HR.out,if_pos ⟨x0,by omega⟩,show min L 138=L by omega,<-hu]
   subst al;clear x0 hu a1 HR;go_enter func158,ntmps158
   go_wp2_with (first
    |(rw[<-aT.out,<-HH.out];refine aD rfl 192 #[(0,.const (ae aj 18)),(1,.tmp 39)] rfl (some 40) rfl #[ae aj 18,ae aj (u:Int)] ?_ ?_;focus(simpa[Act.eval]using nK 18 (u:Int)))
    |(refine aD rfl 192 #[(0,.const (ae aj 18)),(1,.tmp 39)] rfl (some 40) rfl #[ae aj 18,ae aj (u:Int)] ?_ ?_;focus(simpa[Act.eval]using nK 18 (u:Int)))
    |(refine aC rfl _ _ _ rfl rfl h #[ae aj 18,ae aj (u:Int)] rfl rfl 192 #[ae aj 0,ae aj 0] ad.out lN rfl (nm _ _) ?_))
   refine aK ((nj rfl _ _ h _ rfl rfl (aI _ _ _ _ _ _ ad.out)).trans rfl) rfl ⟨rfl,?_⟩;exact nk aS.out (by rw[HH.out];exact Nat.le_refl _) _
 have dx:((x:Int) !=0)=true:=by simp;omega
 by_cases av:prev=some x
 ·obtain rfl:kn=true:=by rw[aU.out];exact oM av
  by_cases l6:6<L
  ·have dd:(6:Int)<(L:Int):=by omega
   have al:R=((16,3),6):=by rw[HR.out,if_neg (by omega),if_neg (by omega),if_pos ⟨x0,av,by omega⟩,show min L 6=6 by omega];rfl
   subst al;clear x0 HR av aU;go_enter func158,ntmps158
   go_wp2_with (first
    |(rw[<-aT.out,<-HH.out];refine aD rfl 192 #[(0,.const (ae aj 16)),(1,.tmp 26)] rfl (some 27) rfl #[ae aj 16,ae aj 3] ?_ ?_;focus(simpa[Act.eval]using nK 16 3))
    |(refine aD rfl 192 #[(0,.const (ae aj 16)),(1,.tmp 26)] rfl (some 27) rfl #[ae aj 16,ae aj 3] ?_ ?_;focus(simpa[Act.eval]using nK 16 3))
    |(refine aC rfl _ _ _ rfl rfl h #[ae aj 16,ae aj 3] rfl rfl 192 #[ae aj 0,ae aj 0] ad.out lN rfl (nm _ _) ?_))
   refine aK ((nj rfl _ _ h _ rfl rfl (aI _ _ _ _ _ _ ad.out)).trans rfl) rfl ⟨rfl,?_⟩;exact nk aS.out (by rw[HH.out];exact Nat.le_refl _) _
  ·have dd:¬(6:Int)<(L:Int):=by omega
   obtain⟨u,hu⟩:=gX (L-3);have eu:(L:Int)-3=(u:Int):=by omega
   have al:R=((16,(u:Int)),L):=by rw[HR.out,if_neg (by omega),if_neg (by omega),if_pos ⟨x0,av,by omega⟩,show min L 6=L by omega,<-hu]
   subst al;clear x0 hu HR av aU;go_enter func158,ntmps158
   go_wp2_with (first
    |(rw[<-aT.out,<-HH.out];refine aD rfl 192 #[(0,.const (ae aj 16)),(1,.tmp 26)] rfl (some 27) rfl #[ae aj 16,ae aj (u:Int)] ?_ ?_;focus(simpa[Act.eval]using nK 16 (u:Int)))
    |(refine aD rfl 192 #[(0,.const (ae aj 16)),(1,.tmp 26)] rfl (some 27) rfl #[ae aj 16,ae aj (u:Int)] ?_ ?_;focus(simpa[Act.eval]using nK 16 (u:Int)))
    |(refine aC rfl _ _ _ rfl rfl h #[ae aj 16,ae aj (u:Int)] rfl rfl 192 #[ae aj 0,ae aj 0] ad.out lN rfl (nm _ _) ?_))
   refine aK ((nj rfl _ _ h _ rfl rfl (aI _ _ _ _ _ _ ad.out)).trans rfl) rfl ⟨rfl,?_⟩;exact nk aS.out (by rw[HH.out];exact Nat.le_refl _) _
 obtain rfl:kn=false:=by rw[aU.out];exact ni av
 have al:R=(((x:Int),0),1):=by rw[HR.out,if_neg (by omega),if_neg (by omega),if_neg (fun q=>av q.2.1)]
 subst al
 clear x0 HR av aU
 go_enter func158,ntmps158
 go_wp2_with (first
  |(rw[<-aT.out,<-HH.out];refine aD rfl 192 #[(0,.tmp 19)] rfl (some 20) rfl #[ae aj (x:Int),ae aj 0] ?_ ?_;focus(simpa[Act.eval]using rm (x:Int)))
  |(refine aD rfl 192 #[(0,.tmp 19)] rfl (some 20) rfl #[ae aj (x:Int),ae aj 0] ?_ ?_;focus(simpa[Act.eval]using rm (x:Int)))
  |(refine aC rfl _ _ _ rfl rfl h #[ae aj (x:Int),ae aj 0] rfl rfl 192 #[ae aj 0,ae aj 0] ad.out lN rfl (nm _ _) ?_))
 refine aK ((nj rfl _ _ h _ rfl rfl (aI _ _ _ _ _ _ ad.out)).trans rfl) rfl ⟨rfl,?_⟩
 exact nk aS.out (by rw[HH.out];exact Nat.le_refl _) _
theorem Oc{ops:Array Oper}{o:Oper}{a:Act}{w:aq}{K:Act->aq->Prop}{Q:Exit->Act->aq->Prop}{E:Prop}(al:o.guard=none)(f:FuncId)(cap:Array ax)(x:Operand)(xs:Array Operand)(ts:Array aB)
  (ho:o.op=.call {callee:=.value x,args:=xs,argTypes:=ts}) (hv:a.eval x=.func (.func f) #[] cap) (eg:∀args w,(callFunc f args).run prog w=.ok (.enter f args) w) (args:Array ax) (hx:xs.map a.eval++cap=args) {R:Ending->aq->Prop} (hc:aw prog f args w R)
  (h:∀e w',R e w'->∃v,e=ao v/\K (a.put o.dst v) w'):
  if Region.wanted o (yielded ops a.tmps)=true then Oper.wp prog o a w K Q else E:=by
 have hw:Region.wanted o (yielded ops a.tmps)=true:=by simp[Region.wanted,al]
 rw[if_pos hw]
 unfold Oper.wp
 have ad:∀ρ:Operand->ax,ρ x=.func (.func f) #[] cap->xs.map ρ++cap=args->(execOp ρ o).run prog w=.ok (.enter f args) w:=by
  intro ρ h1 h2;simp[execOp,ho,resolve,invoke,h1,h2,go_sem,eg,Deferred.ofValue]
 rw[ad _ hv hx]
 refine hc.mono fun e w' hr=>?_
 obtain⟨v,rfl,hk⟩:=h e w' hr
 exact hk
structure oH (w:aq) (X:Nat) (x y:ax):Prop where
 lt:X<w.heap.size
 c0:w.cell? ⟨X,0,none⟩=some x
 c1:w.cell? ⟨X,1,none⟩=some y
 f0:w.frozen? ⟨X,0,none⟩=false
 f1:w.frozen? ⟨X,1,none⟩=false
theorem oH.new(U:aq)(x y:ax)(t:aB):oH (U.alloc (ak #[x,y] t)) U.heap.size x y:=by
 have hn:=aG U (ak #[x,y] t);refine⟨by simp,?_,?_,?_,?_⟩
 ·exact(aH (U.alloc (ak #[x,y] t)) _ 0 _ t (0,0) hn).trans rfl
 ·exact(aH (U.alloc (ak #[x,y] t)) _ 1 _ t (0,0) hn).trans rfl
 ·exact aO (U.alloc (ak #[x,y] t)) _ 0 _ _ hn
 ·exact aO (U.alloc (ak #[x,y] t)) _ 1 _ _ hn
theorem oH.below{w w':aq}{X B:Nat}{x y:ax}(h:oH w X x y)(hb:aR B w w')(hB:X<B):oH w' X x y:=
 ⟨Nat.lt_of_lt_of_le h.lt hb.size,(hb.cell (p:=⟨X,0,none⟩) hB).trans h.c0,(hb.cell (p:=⟨X,1,none⟩) hB).trans h.c1,(hb.frozen (p:=⟨X,0,none⟩) hB).trans h.f0,(hb.frozen (p:=⟨X,1,none⟩) hB).trans h.f1⟩
theorem oH.set{w:aq}{X:Nat}{x y:ax}(h:oH w X x y)(p q:ax):oH ((w.setCell ⟨X,0,none⟩ p).setCell ⟨X,1,none⟩ q) X p q:=by
 obtain⟨h1,h2⟩:=Il (p:=p) (q:=q) h.c0 h.c1;refine⟨by have:=h.lt;simpa[World.setCell]using this,h1,h2,?_,?_⟩
 ·simpa using h.f0
 ·simpa using h.f1
theorem Od{w:aq}{X:Nat}{s x:Int}(h0:w.cell? ⟨X,0,none⟩=some (ae aj s))(h1:w.cell? ⟨X,1,none⟩=some (ae aj x)):w.rangeAt X 0 (ng (s,x)):=by
 intro i v hv;rcases i with _|_|i
 ·simp[ng]at hv;subst hv;exact h0
 ·simp[ng]at hv;subst hv;exact h1
 ·simp[ng]at hv
theorem Oe{U w':aq}{x y:ax}{t:aB}(h:mU (U.alloc (ak #[x,y] t)).drew w'):oH w' U.heap.size x y:=by
 obtain⟨k,rfl⟩:=h;have h:=oH.new U x y t;exact⟨h.lt,h.c0,h.c1,h.f0,h.f1⟩
theorem Og{w:aq}{base sz n c:Nat}{e:aB}{A:Option au}{xs:List ax}(h:w.ownsRow base e sz (af A n c) n xs):∀b o,A=some ⟨b,o,none⟩->base<=b:=fun b o hA=>by
 rcases h.2 with⟨hv,_⟩|⟨g,cap,cur,hv,hg,_⟩
 ·injection hv with h1;rw[hA]at h1;cases h1
 ·injection hv with h1;rw[hA]at h1;injection h1 with h1;injection h1 with h1;omega
theorem Oh(w:aq)(A:Option au)(n c:Nat)(f:Nat->Nat)(hr:ib w w.heap.size A n c f):
  aw prog 133 #[af A n c] w fun e w'=>∃A' n' c',e=ao (.tuple #[af A' n' c',ae aj (rQ f n)])/\pX w' w'.heap.size A' n' c' (uW f n)/\aR w.heap.size w w'/\(∀b o,A'=some ⟨b,o,none⟩->w.heap.size<=b):=by
 replace hr:=hr.1
 have a4:∀(fn:Fn) (first cap:Array ax) (w:aq),(Instr.makeFunc fn first cap).run prog w=.ok (.func fn first cap) w:=fun _ _ _ _=>rfl
 have bW:=gW a4
 obtain⟨E,hE⟩:=gX (rQ f n)
 obtain⟨V,hV⟩:=gX (uW f n)
 have aT:V=if E=0 then lJ f n 0 else[]:=by rw[hV,hE];rfl
 rw[<-hE,<-hV]
 unfold rQ at hE
 have HR:=gW hr;have HE:=gW hE;have HV:=gW aT
 obtain⟨K,a5⟩:=gX (w.heap.size)
 obtain⟨W1,aV⟩:=gX (w.alloc (ak #[af A n c] 22))
 have bB:aR w.heap.size w W1:=by rw[aV];exact ix.alloc gY _
 have bl:W1.cell? ⟨K,0,none⟩=some (af A n c):=by rw[aV,a5];exact(aH _ _ 0 _ _ (0,0) (aG w _)).trans rfl
 have bC:w.heap.size<W1.heap.size:=by rw[aV];simp
 have aU:=gW bB;have bX:=gW bl;have bY:=gW bC;have bD:=gW aV;have bm:=gW a5
 clear hr hE hV aT a4 bB bC aV
 by_cases bf:320<n
 ·have bZ:(320:Int)<(n:Int):=by omega
  obtain rfl:E=4:=by rw[HE.out,if_pos bf]
  obtain rfl:V=[]:=by rw[HV.out,if_neg (by omega)]
  clear HE HV a5;go_enter func133,ntmps133
  go_wp2_with (rw[<-bD.out,<-bm.out])
  go_ret2;exact⟨none,0,0,rfl,pX.nil _ _,aU.out,fun _ _ e=>by cases e⟩
 have bZ:¬(320:Int)<(n:Int):=by omega
 have he:=HE.out
 rw[if_neg bf]at he
 have bn:=gW he
 clear he HE a5
 go_enter func133,ntmps133
 go_wp2_with (rw[<-bD.out,<-bm.out])
 go_loopw [17] (fun iv wr=>∃i:Nat,i<=n/\iv=ae aj (i:Int)/\aQ (∀j,j<i->f j<=15)/\W1=wr) (fun iv _=>n-(aP iv).toNat)
 case atStart=>exact⟨0,Nat.zero_le _,rfl,gW (fun j hj=>by omega),rfl⟩
 case round=>
  obtain⟨i,hi,rfl,HK,rfl⟩:=hrel;by_cases al:i<n
  ·have aW:(i:Int)<(n:Int):=by omega
   obtain⟨b,o,rfl,bp,hc⟩:=HR.out.2 (by omega);have c1:=(aU.out.cell (p:=⟨b,o+i,none⟩) bp).trans (hc i al);have aX:=HR.out.1 i;by_cases bE:15<f i
   ·obtain rfl:E=2:=by rw[bn.out,if_neg (fun q=>by have:=q i al;omega)]
    obtain rfl:V=[]:=by rw[HV.out,if_neg (by omega)]
    obtain⟨x,hx⟩:=gX (f i);rw[<-hx]at c1 bE aX;have b0:(15:Int)<(x:Int):=by omega
    clear hc hx bl;go_wp2;go_ret2;exact⟨none,0,0,rfl,pX.nil _ _,aU.out,fun _ _ e=>by cases e⟩
   ·have b1:aQ (∀j,j<i+1->f j<=15):=gW fun j hj=>by
     rcases Nat.lt_or_ge j i with g|g
     ·exact HK.out j g
     ·have e:j=i:=by omega
      subst e;omega
    obtain⟨x,hx⟩:=gX (f i);rw[<-hx]at c1 bE aX;have b0:¬(15:Int)<(x:Int):=by omega
    clear hc hx bl;go_wp2;go_roundw
    case rel=>exact⟨i+1,by omega,by go_num,b1,trivial⟩
    case measure=>simp[aP];omega
  ·obtain rfl:i=n:=by omega
   have aW:¬(i:Int)<(i:Int):=by omega
   obtain rfl:E=0:=by rw[bn.out,if_pos HK.out]
   have hv:V=lJ f i 0:=by rw[HV.out,if_pos rfl]
   have b2:=gW hv;have b3:=HK;have a4:=bW.out;clear hv bn al hi;go_wp2;clear a4;go_loopw [7,8] (fun ov av wr=>∃(p a:Nat) (At:Option au) (ct:Nat) (pre:List (Int×Int)),a<=i/\p<=a/\ov=af At p ct/\av=ae aj (a:Int)/\aQ (pre++lJ f i a=lJ f i 0)/\aQ (wr.ownsRow W1.heap.size 192 2 (af At p ct) p (Qo pre))/\aQ (aR W1.heap.size W1 wr)) (fun _ av _=>i-(aP av).toNat)
   case atStart=>exact⟨0,0,none,0,[],Nat.zero_le _,Nat.le_refl _,rfl,rfl,gW rfl,gW (World.ownsRow_nil _ _ _ _),gW ix⟩
   case round=>
    obtain⟨p,a,At,ct,pre,ha,cm,rfl,rfl,HK,HO,bq⟩:=hrel;have HB:=gW (aU.out.trans (bq.out.mono aU.out.size));have b4:aQ (K<W1.heap.size):=gW (by rw[bm.out];exact bY.out);have HC:=gW ((bq.out.cell (p:=⟨K,0,none⟩) b4.out).trans bX.out);by_cases al:a<i
    ·have aW:(a:Int)<(i:Int):=by omega
     obtain⟨b,o,rfl,bp,hc⟩:=HR.out.2 (by omega);have br:∀j,j<i->wr.cell? ⟨b,o+j,none⟩=some (ae .u8 (f j:Int)):=fun j hj=>(HB.out.cell (p:=⟨b,o+j,none⟩) bp).trans (hc j hj)
     have c1:=br a al;have aX:=HR.out.1 a;obtain⟨kn,bF⟩:=gX (decide (mQ f a=some (f a)));have cn:(a:Int)<(i:Int):=by omega
     have cp:(0:Int)<=(a:Int):=by omega
     obtain⟨g1,g2,g3⟩:=Bm (f:=f) al b3.out;obtain⟨l1,l2⟩:=tK (f:=f) al;have a6:=gW bF;have b5:=gW br;have bG:=gW g1
     have ck:=HC.out;obtain⟨x,hx⟩:=gX (f a);rw[<-hx]at c1 aX;have HX:=gW hx;clear hc br bF g1 hx;go_wp2;go_cut [9] (fun v9 wx=>v9=ai kn/\∃q,wx=wr.drewN q)
     case first=>
      by_cases a7:a=0
      ·have dz:decide (0<(a:Int))=false:=by simp;omega
       have b6:decide (0<a)=false:=by simp;omega
       obtain rfl:kn=false:=by rw[a6.out];exact ni (fun q=>by unfold mQ at q;rw[if_pos a7]at q;cases q)
       clear a7;go_quiet (fail)
       go_wp2;go_meet;exact⟨rfl,_,rfl⟩
      ·have dz:decide (0<(a:Int))=true:=by simp;omega
       have b6:decide (0<a)=true:=by simp;omega
       obtain⟨d,hd⟩:=gX (a-1);have ed:(a:Int)-1=(d:Int):=by omega
       have cq:(d:Int)<(i:Int):=by omega
       have cr:(0:Int)<=(d:Int):=by omega
       have c0:=b5.out d (by omega);have aY:=a6.out;unfold mQ at aY;rw[if_neg a7,<-hd,<-HX.out]at aY;obtain⟨y,hy⟩:=gX (f d);rw[<-hy]at c0 aY;have cu:((y:Int)==(x:Int))=kn:=by
        rw[aY];by_cases e:y=x
        ·subst e;simp
        ·rw[ni (fun q=>e (by injection q))];simp;omega
       clear aY hy hd a7;go_quiet (fail)
       go_wp2;go_meet;exact⟨rfl,_,rfl⟩
     case rest=>
      obtain⟨rfl,q,rfl⟩:=hcut;obtain⟨U,hU⟩:=gX (wr.drewN q);have a8:aR w.heap.size w U:=hU▸FN HB.out q;have bH:aR W1.heap.size W1 U:=hU▸FN bq.out q;have bI:U.ownsRow W1.heap.size 192 2 (af At p ct) p (Qo pre):=hU▸HO.out;have uk:U.cell? ⟨K,0,none⟩=some (af (some ⟨b,o,none⟩) i c):=hU▸ck;have u1:U.cell? ⟨b,o+a,none⟩=some (ae .u8 (x:Int)):=hU▸c1;have bt:K<U.heap.size:=by have:=World.block_lt_of_cell? U ⟨K,0,none⟩ uk;exact this
      have bJ:b<U.heap.size:=by have:=World.block_lt_of_cell? U ⟨b,o+a,none⟩ u1;exact this
      have bK:iy U w.heap.size (some ⟨b,o,none⟩) i f:=HR.out.below a8 gY;obtain⟨L,hL⟩:=gX (mP f i a);obtain⟨R,a9⟩:=gX (mF f i a);obtain⟨⟨rs,rx⟩,rk⟩:=R;rw[<-hL]at l1 l2;rw[<-a9]at g2 g3;have bg:kK (mQ f a) x L=((rs,rx),rk):=by rw[HX.out,hL];exact a9.symm
      have b7:aQ (∀V,aR U.heap.size U V->aw prog 157 #[ae aj (a:Int),ag (some ⟨K,0,none⟩)] V fun e w'=>e=ao (ae aj (L:Int))/\mU V w'):=
       gW fun V hV=>by rw[hL];exact Oa V K w.heap.size (some ⟨b,o,none⟩) i c f a ((hV.cell (p:=⟨K,0,none⟩) bt).trans uk) (bK.below (hV.mono a8.size) gY) al (by omega)
      have b8:aQ (∀V:aq,aw prog 158 #[ae .u8 (x:Int),ai kn,ae aj (L:Int)] V fun e w'=>e=ao (.tuple #[ah #[ae aj rs,ae aj rx],ae aj (rk:Int)])/\aR V.heap.size V w'):=
       gW fun V=>by have h:=Ob V (mQ f a) x L kn (by rw[a6.out,HX.out]) (by have:=aX;omega) l1 (by omega);rw[bg]at h;exact h
      have b9:aQ (lJ f i a=(rs,rx)::lJ f i (a+rk)):=gW (by rw[bG.out,<-a9]);have cv:=gW a8;have bL:=gW bH;have ca:=gW bI;have bM:=gW bt;have bN:=gW bJ
      rw[<-hU];have aZ:aR U.heap.size U U.drew:=ix.drew;have cb:(U.alloc (ak #[ae aj 0,ae aj 0] 192)).drew.cell? ⟨K,0,none⟩=some (af (some ⟨b,o,none⟩) i c):=((((Below.refl U.heap.size U).alloc gY (ak #[ae aj 0,ae aj 0] 192)).cell (p:=⟨K,0,none⟩) bt).trans uk);have cf:(U.alloc (ak #[ae aj 0,ae aj 0] 192)).drew.cell? ⟨b,o+a,none⟩=some (ae .u8 (x:Int)):=((((Below.refl U.heap.size U).alloc gY (ak #[ae aj 0,ae aj 0] 192)).cell (p:=⟨b,o+a,none⟩) bJ).trans u1);have cg:U.drew.cell? ⟨K,0,none⟩=some (af (some ⟨b,o,none⟩) i c):=uk;have ch:U.drew.cell? ⟨b,o+a,none⟩=some (ae .u8 (x:Int)):=u1;clear hU a8 bH bI bK hL a9 bg a6 bG HX c1 ck;go_wp2_with fail
      go_cut [10,11] (fun v10 v11 wx=>v11=ae aj (rk:Int)/\∃X,v10=ag (some ⟨X,0,none⟩)/\oH wx X (ae aj rs) (ae aj rx)/\aR U.heap.size U wx)
      case first=>
       go_region_law (first
        |(refine xZ rfl 158 _ _ rfl (enters_of func158 (by kernel_rfl) rfl) (#[ae .u8 (x:Int),ai kn,ae aj (L:Int)]) (by simp[Act.put,Act.eval,List.setIfInBounds_toArray,List.set_cons_zero,List.set_cons_succ]) (b8.out _) ?_;rintro e w7 ⟨rfl,bd⟩;have aS:aR U.heap.size U w7:=(by first|exact ad.trans (bd.mono ad.size)|exact(ad.alloc ad.size _).trans (bd.mono (ad.alloc ad.size _).size));(first|(have a1:=bu.below bd bu.lt;obtain⟨z1,z2,z3,z4,z5⟩:=id a1)|(have a1:=(oH.new w6 _ _ _).below bd (oH.new w6 _ _ _).lt;obtain⟨z1,z2,z3,z4,z5⟩:=id a1)|skip);refine⟨_,rfl,?_⟩)
        |(refine Oc rfl 157 #[ag (some ⟨K,0,none⟩)] _ _ _ rfl (by simp[Act.put,Act.eval,List.setIfInBounds_toArray,List.set_cons_zero,List.set_cons_succ]) (enters_of func157 (by kernel_rfl) rfl) (#[ae aj (a:Int),ag (some ⟨K,0,none⟩)]) (by simp[Act.put,Act.eval,List.setIfInBounds_toArray,List.set_cons_zero,List.set_cons_succ]) (b7.out _ (by first|assumption|exact aZ.alloc gY _)) ?_;rintro e w6 ⟨rfl,bz⟩;have ad:aR U.heap.size U w6:=bz.below (by first|assumption|exact aZ.alloc gY _);(first|(have bu:=Oe bz;obtain⟨y1,y2,y3,y4,y5⟩:=id bu)|skip);have k6:=(ad.cell (p:=⟨K,0,none⟩) bM.out).trans uk;have u6:=(ad.cell (p:=⟨b,o+a,none⟩) bN.out).trans u1;have k8:=((ad.alloc ad.size (ak #[ae aj 0,ae aj 0] 192)).cell (p:=⟨K,0,none⟩) bM.out).trans uk;have u8:=((ad.alloc ad.size (ak #[ae aj 0,ae aj 0] 192)).cell (p:=⟨b,o+a,none⟩) bN.out).trans u1;clear bz;refine⟨_,rfl,?_⟩))
       all_goals(
        go_wp2_with fail
        go_meet;first
         |exact⟨rfl,w7.heap.size,rfl,oH.new w7 _ _ _,aS.alloc aS.size _⟩
         |exact⟨rfl,w6.heap.size,rfl,a1.set _ _,(aS.setCell (p:=⟨w6.heap.size,0,none⟩) ad.size _).setCell (p:=⟨w6.heap.size,1,none⟩) ad.size _⟩
         |exact⟨rfl,U.heap.size,rfl,a1.set _ _,(aS.setCell (p:=⟨U.heap.size,0,none⟩) gY _).setCell (p:=⟨U.heap.size,1,none⟩) gY _⟩)
      case rest=>
       obtain⟨rfl,X,rfl,bA,a2⟩:=hcut;obtain⟨wx,rfl⟩:∃wx:aq,wx=wc:=⟨_,rfl⟩;have aT:=bL.out.trans (a2.mono bL.out.size);obtain⟨A',c',w',bj,bk,bO⟩:=Cx wx W1.heap.size At p ct pre (yl ca.out a2) (rs,rx) (by omega) aT.size;have bP:=gW bj;have bQ:=gW bk;have cj:=gW (aT.trans bO);have cl:=gW (show wx.rangeAt X 0 [ae aj rs,ae aj rx]from Od bA.c0 bA.c1)
       have bR:=gW (show(pre++[(rs,rx)])++lJ f i (a+rk)=lJ f i 0 by have bS:=HK.out;rw[b9.out]at bS;rw[List.append_assoc];exact bS);have hq:p+1<=a+rk:=by omega
       clear bj bk bO aT bA a2 uk u1 cb cf cg ch aZ;obtain⟨q,bT⟩:=gX (a+rk);have eq:(a:Int)+(rk:Int)=(q:Int):=by omega
       rw[<-bT]at g3 hq bR;clear bT;go_wp2_with (first
        |(refine aF rfl _ _ rfl X 0 rfl [ae aj rs,ae aj rx] _ cl.out underlying192 rfl lN ?_)
        |(at_builtin;refine wpList_append_run rfl (.tmp 55) (.tmp 57) 189 rfl (af At p ct) (af (some ⟨wx.heap.size,0,none⟩) 1 1) (af A' (p+1) c') w' rfl rfl bP.out ?_))
       go_roundw
       case rel=>exact⟨p+1,q,A',c',pre++[(rs,rx)],g3,hq,rfl,by go_num,bR,bQ,cj⟩
       case measure=>simp[aP];omega
    ·obtain rfl:a=i:=by omega
     have aW:¬(a:Int)<(a:Int):=by omega
     have hk:=HK.out;have ck:=HC.out;rw[Bl gY,List.append_nil,<-b2.out]at hk;have a3:=pX.iI HO.out;have bU:=gW (Og HO.out);rw[hk]at a3;have bV:=gW a3;clear a3 hk al;go_wp2;go_ret2;exact⟨At,p,ct,rfl,bV.out,HB.out,fun b o e=>Nat.le_trans aU.out.size (bU.out b o e)⟩
theorem Oi(w:aq)(s:Int):aw prog 160 #[ae aj s] w fun e w'=>e=ao (.tuple #[ae aj (jG s),ae aj (kG s)])/\aR w.heap.size w w':=
 (N9 w s).mono fun _ _ ⟨a,b⟩=>⟨a,b▸Below.refl _ _⟩
theorem Oj{C:aq->Prop}{K:Act->Prop}{a:Act}{o:Oper}(f:FuncId)(r:ax)(x:Operand)(xs:Array Operand)(ts:Array aB)(ho:o.op=.call {callee:=.value x,args:=xs,argTypes:=ts})(d:Option Tmp)(hd:o.dst=d)(hv:a.eval x=.func (.func f) #[r] #[])
  (eg:∀args w,(callFunc f args).run prog w=.ok (.enter f args) w) (args:Array ax) (hx:#[r]++xs.map a.eval=args) (v:ax) (hc:∀w,C w->aw prog f args w fun e w'=>e=ao v/\C w') (hk:K (a.put d v)):o.quiet prog a C K:=by
 subst hd
 have ad:∀(ρ:Operand->ax) (w:aq),ρ x=.func (.func f) #[r] #[]->#[r]++xs.map ρ=args->(execOp ρ o).run prog w=.ok (.enter f args) w:=by
  intro ρ w h1 h2;simp[execOp,ho,resolve,invoke,h1,h2,go_sem,eg,Deferred.ofValue]
 exact⟨v,fun w hw=>by unfold Oper.quietAt;rw[ad _ w hv hx];exact⟨rfl,hc w hw⟩,hk⟩
theorem jP.kept{S:Nat->Prop}{w w':aq}{g n:Nat}{x l:Nat->Nat}(h:jP w g n x l)(hk:iC S w w')(hS:S g):jP w' g n x l:=by
 obtain⟨cur,h1,h2⟩:=h;exact⟨cur,(hk g hS).trans h1,h2⟩
theorem lf.zJ{S:Nat->Prop}{w w':aq}{B:Nat}{A:Option au}{l:List (Int×Int)}(h:lf w B A l)(hk:iC S w w'){b o:Nat}(hA:A=some ⟨b,o,none⟩)(hS:S b){j:Nat}(hj:j<l.length):w'.rangeAt b (o+j*2) (ng (l.getD j pf)):=
 fun i v hv=>(hk.cell (p:=⟨b,o+j*2+i,none⟩) hS).trans (h.range hA hj i v hv)
theorem Ok(w:aq)(S:Nat->Prop)(B g:Nat)(f:Nat->Nat)(K:Nat)(A2:Option au)(m c2:Nat)(l:List (Int×Int))(F:Nat->Nat)(gk ck:Nat)(h:iX w S B g f K)(hm:m=l.length)(hr:lf w w.heap.size A2 l)(hS:pH S A2 m)(bZ:m<=1000)
  (bp:jP w gk 19 (jz F 19) F) (bq:S gk) (hF:ky F 19 15=0) (hl:∀r∈l,0<=r.1/\r.1<=18/\0<=r.2/\qe (r.2.toNat,(jG r.1).toNat)) (hk:K+PR (l.flatMap (kA F))<=16000000):
  aw prog 136 #[ag (some ⟨g,0,none⟩),af A2 m c2,.func (.func 86) #[af (some ⟨gk,0,none⟩) 19 ck] #[]] w fun e w'=>e=ao (.tuple #[])/\iX w' S B g (iE f K (l.flatMap (kA F))) (K+PR (l.flatMap (kA F)))/\iC S w w'/\aR B w w':=by
 have H:=gW h;have HM:=gW hm;have HR:=gW hr;have HS:=gW hS;have bH:=gW bp;have bI:=gW bq;have HF:=gW hF;have HL:=gW hl;have HK:=gW hk
 clear h hm hr hS bp bq hF hl hk
 go_enter func136,ntmps136
 go_wp2_with fail
 go_loopw [12] (fun iv wr=>∃i:Nat,i<=m/\iv=ae aj (i:Int)/\aQ (iX wr S B g (iE f K ((l.take i).flatMap (kA F))) (K+PR ((l.take i).flatMap (kA F))))/\aQ (iC S w wr)/\aQ (aR B w wr)) (fun iv _=>m-(aP iv).toNat)
 case atStart=>exact⟨0,Nat.zero_le _,rfl,gW H.out,gW (iC.refl _ _),gW ix⟩
 case round=>
  obtain⟨i,hi,rfl,a5,a6,HB⟩:=hrel;by_cases bJ:i<m
  ·have br:(i:Int)<(m:Int):=by omega
   have a7:i<l.length:=by rw[<-HM.out];exact bJ
   obtain⟨b,o,rfl,bK,hc⟩:=HR.out.at a7;have bt:S b:=HS.out b o (by omega) rfl;have bj:=HR.out.zJ a6.out rfl bt a7;obtain⟨s0,bk,x0,al⟩:=HL.out _ (vB a7);have ad:=CF (F:=F) a7;have hle:PR ((l.take (i+1)).flatMap (kA F))<=PR (l.flatMap (kA F)):=by
    have e:l.flatMap (kA F)=(l.take (i+1)).flatMap (kA F)++(l.drop (i+1)).flatMap (kA F):=by rw[<-List.flatMap_append,List.take_append_drop]
    rw[e,jC];omega
   obtain⟨⟨s,x⟩,ht⟩:∃t,t=l.getD i pf:=⟨_,rfl⟩;rw[<-ht]at bj s0 bk x0 al ad;dsimp only at s0 bk x0 al;obtain⟨q,rfl⟩:=Int.eq_ofNat_of_zero_le s0;obtain⟨y,rfl⟩:=Int.eq_ofNat_of_zero_le x0;have aU:jG ((q:Nat):Int)=((kL (q:Int):Nat):Int):=by unfold jG;rw[if_pos (by omega)]
   obtain⟨bb,bl⟩:=gX (kL (q:Int));rw[<-bl]at aU;have bL:bb<=7:=by rw[bl];exact vA _
   rw[aU,Int.toNat_natCast,Int.toNat_natCast]at al;have hy:y<128:=by
    have:=al.1;have e:(2:Nat)^bb<=2^7:=Nat.pow_le_pow_right (by omega) bL;have e2:(2:Nat)^7=128:=rfl;dsimp only at this;omega
   have bu:kA F ((q:Int),(y:Int))=[jT F 19 q,(y,bb)]:=by unfold kA;rw[aU,Int.toNat_natCast,Int.toNat_natCast,Int.toNat_natCast]
   rw[bu]at ad;obtain⟨⟨Z,Y⟩,aV⟩:∃t,t=jT F 19 q:=⟨_,rfl⟩;obtain⟨G,hG⟩:=gX (iE f K ((l.take i).flatMap (kA F)));obtain⟨k,a8⟩:=gX (K+PR ((l.take i).flatMap (kA F)));have aW:=a5.out;rw[<-hG,<-a8]at aW;obtain⟨W3,a9⟩:=gX (iP wr #[ae aj 0,ae aj 0] #[ae aj (q:Int),ae aj (y:Int)] 192);have aX:aR wr.heap.size wr W3:=by rw[a9];exact kU _ _ _ _
   have aS:W3.heap[wr.heap.size]?=some (ak #[ae aj (q:Int),ae aj (y:Int)] 192 (0,0)):=by rw[a9];exact lq wr _ _ _
   have bm:wr.heap.size<W3.heap.size:=(Array.getElem?_eq_some_iff.1 aS).1;have y0:W3.cell? ⟨wr.heap.size,0,none⟩=some (ae aj (q:Int)):=(aH W3 _ 0 _ _ (0,0) aS).trans rfl;have y1:W3.cell? ⟨wr.heap.size,1,none⟩=some (ae aj (y:Int)):=(aH W3 _ 1 _ _ (0,0) aS).trans rfl;have bn:=fun V:aq=>Oi V ((q:Nat):Int)
   rw[aU]at bn;have aY:qe (Z,Y):=by
    obtain⟨h1,h2⟩:=zI HF.out (show q<19 by omega);rw[aV];exact⟨rU _ _,by show F q<=16;omega⟩
   have bd:k+PR [(Z,Y),(y,bb)]=K+PR ((l.take (i+1)).flatMap (kA F)):=by rw[ad,jC,a8,aV];omega
   have bf:iE G k [(Z,Y),(y,bb)]=iE f K ((l.take (i+1)).flatMap (kA F)):=by rw[ad,mj,hG,a8,aV]
   have bM:k+PR [(Z,Y),(y,bb)]<=16000000:=by have:=HK.out;omega
   have aZ:=bH.out.kept a6.out bI.out;have bN:gk<wr.heap.size:=aZ.lt;have bz:=aW.top;have aT:=gW (aW.after aX);have bg:=gW (a6.out.tr (iC.below bz aX));have bA:=gW (HB.out.trans (aX.mono aW.size));have a1:=gW (aZ.below aX bN);have bO:=gW a9;have bP:=gW (show wr.rangeAt b (o+i*2) [ae aj (q:Int),ae aj (y:Int)]from bj)
   have bQ:=gW bn;have bR:=gW aY;have bS:=gW bd;have bT:=gW bf;have bU:=gW aV;have bV:=gW al
   have bB:q<19:=by omega
   have b0:(bb:Int)<=7:=by omega
   clear bj aX aS a9 bn aY bd bf aV al aW aZ bz ad hle ht hc bK bt s0 bk x0 aU bl bu hG a8 a5;go_wp2_with (first
    |refine aF rfl _ _ rfl b (o+i*2) rfl [ae aj (q:Int),ae aj (y:Int)] _ bP.out underlying192 rfl lN ?_
    |(refine aC rfl _ _ _ rfl rfl wr.heap.size #[ae aj (q:Int),ae aj (y:Int)] rfl rfl 192 #[ae aj 0,ae aj 0] (aG wr _) lN rfl (by simp[Value.oneCell']) ?_;change wpList _ _ _ _ _ (iP wr #[ae aj 0,ae aj 0] #[ae aj (q:Int),ae aj (y:Int)] 192);rw[<-bO.out])
    |fail)
   refine(bQ.out W3).mono ?_;rintro e w4 ⟨rfl,av⟩;have bC:wr.heap.size<w4.heap.size:=by have:=av.size;omega
   have x0:∀p:kN w4.heap.size w4,p.w.cell? ⟨wr.heap.size,0,none⟩=some (ae aj (q:Int)):=fun p=>(p.h.cell (p:=⟨wr.heap.size,0,none⟩) bC).trans ((av.cell (p:=⟨wr.heap.size,0,none⟩) bm).trans y0)
   have x1:∀p:kN w4.heap.size w4,p.w.cell? ⟨wr.heap.size,1,none⟩=some (ae aj (y:Int)):=fun p=>(p.h.cell (p:=⟨wr.heap.size,1,none⟩) bC).trans ((av.cell (p:=⟨wr.heap.size,1,none⟩) bm).trans y1)
   have a2:=a1.out.below av a1.out.lt;have T1:aQ (∀V,aR w4.heap.size w4 V->aw prog 86 #[af (some ⟨gk,0,none⟩) 19 ck,ae aj (q:Int)] V fun e w'=>e=ao (ah #[ae .u32 (Z:Int),ae aj (Y:Int)])/\aR w4.heap.size w4 w'):=gW fun V hV=>by
    have h1:=FM V gk 19 ck F q (a2.below hV a2.lt) HF.out bB (by omega);rw[<-bU.out]at h1;exact h1.mono fun _ _ ⟨e,b⟩=>⟨e,hV.trans (b.mono hV.size)⟩
   have a3:=gW (aT.out.after av);have bD:=gW (bg.out.tr (iC.below aT.out.top av));have bW:=gW (bA.out.trans (av.mono aT.out.size))
   clear av y0 y1 bm a2 aT bg bA a1;go_wp2;refine vv 9 w4.heap.size w4 ix (by kernel_rfl) (by kernel_rfl) (.tmp 0) (ag (some ⟨g,0,none⟩)) rfl (some 22) rfl rfl rfl rfl (by kernel_rfl) (fun _ _ _ h=>h) ?_;simp only[List.take_succ_cons,List.take_zero,List.drop_succ_cons,List.drop_zero,Act.put,List.setIfInBounds_toArray,List.set_cons_zero,List.set_cons_succ];repeat (first
    |(go_big_quiet_want;refine vu 169 #[(0,.tmp 29),(1,.tmp 30)] rfl (some 31) rfl #[ae .u32 (y:Int),ae aj (bb:Int)] (by simpa[Act.eval]using lV (y:Int) (bb:Int)) ?_;go_big_quiet_on;simp only[Act.put,List.setIfInBounds_toArray,List.set_cons_zero,List.set_cons_succ])
    |(go_big_quiet_want;refine Oj 86 (af (some ⟨gk,0,none⟩) 19 ck) (.tmp 23) #[.tmp 25] #[3] rfl (some 26) rfl (by simp[Act.eval]) (enters_of func86 (by kernel_rfl) rfl) #[af (some ⟨gk,0,none⟩) 19 ck,ae aj (q:Int)] (by simp[Act.eval]) (ah #[ae .u32 (Z:Int),ae aj (Y:Int)]) (fun V ⟨p,hp⟩=>by rw[hp];exact nH T1.out p) ?_;go_big_quiet_on;simp only[Act.put,List.setIfInBounds_toArray,List.set_cons_zero,List.set_cons_succ])
    |(go_big_quiet_step (fail)))
   refine wpQuiet_nil ?_;rintro V ⟨⟨V,hV⟩,rfl⟩;have bE:=a3.out.after hV;have a4:=oG V S B g G k [(Z,Y),(y,bb)] 2 rfl #[ae .u32 (Z:Int),ae aj (Y:Int),ae .u32 (y:Int),ae aj (bb:Int)] rfl bE (by omega) (fun z hz=>by
    simp only[List.mem_cons,List.not_mem_nil,or_false]at hz;rcases hz with rfl|rfl
    ·exact bR.out
    ·exact bV.out) bM
   rw[bS.out,bT.out]at a4;have bF:=gW a4;have bG:=gW (bD.out.tr (iC.below a3.out.top hV));have bX:=gW (bW.out.trans (hV.mono a3.out.size))
   clear a4 bE hV x0 x1 T1;go_wp2_with fail
   refine bF.out.mono ?_;rintro e w5 ⟨rfl,h1,h2,h3⟩;have H1:=gW h1;have H2:=gW (bG.out.tr h2);have H3:=gW (bX.out.trans h3)
   clear h1 h2 h3;go_wp2;go_roundw
   case rel=>exact⟨i+1,by omega,by go_num,H1,H2,H3⟩
   case measure=>simp[aP];omega
  ·obtain rfl:i=m:=by omega
   have br:¬(i:Int)<(i:Int):=by omega
   have hr:=a5.out;rw[HM.out,List.take_length]at hr;have bY:=gW hr;clear hr a5;go_wp2;go_end0;exact⟨rfl,bY.out,a6.out,HB.out⟩
theorem km.zJ{S:Nat->Prop}{w w':aq}{B:Nat}{A:Option au}{l:List iu}(h:km w B A l)(hk:iC S w w'){b o:Nat}(hA:A=some ⟨b,o,none⟩)(hS:S b){j:Nat}(hj:j<l.length):w'.rangeAt b (o+j*3) (jK (l.getD j jl)):=
 fun i v hv=>(hk.cell (p:=⟨b,o+j*3+i,none⟩) hS).trans (h.range hA hj i v hv)
structure pM (w:aq) (S:Nat->Prop) (g n:Nat) (F:Nat->Nat):Prop where
 row:jP w g n (jz F n) F
 ins:S g
 zL:ky F n 15=0
theorem pM.kept{S:Nat->Prop}{w w':aq}{g n:Nat}{F:Nat->Nat}(h:pM w S g n F)(hk:iC S w w'):pM w' S g n F:=⟨h.row.kept hk h.ins,h.ins,h.zL⟩
theorem pM.of{S:Nat->Prop}{w:aq}{g n:Nat}{F:Nat->Nat}(h:pM w S g n F)(c i:Nat)(hi:i<n)(hn:n<=1000000)(Z Y:Nat)(hZ:jT F n i=(Z,Y)):
  aw prog 86 #[af (some ⟨g,0,none⟩) n c,ae aj (i:Int)] w fun e w'=>e=ao (ah #[ae .u32 (Z:Int),ae aj (Y:Int)])/\aR w.heap.size w w':=by
 have h1:=FM w g n c F i h.row h.zL hi hn
 rw[hZ]at h1
 exact h1
theorem pM.fit{S:Nat->Prop}{w:aq}{g n:Nat}{F:Nat->Nat}(h:pM w S g n F){i:Nat}(hi:i<n):qe (jT F n i):=by
 obtain⟨_,h2⟩:=zI h.zL hi;exact⟨rU _ _,by show F i<=16;omega⟩
theorem Ol{F G:Nat->Nat}{n k:Nat}{l:List iu}{i:Nat}(h:i<l.length):(l.take (i+1)).flatMap (jD F n G k)=(l.take i).flatMap (jD F n G k)++jD F n G k (l.getD i jl):=by
 rw[Qz h,List.flatMap_append];simp
theorem Om{F G:Nat->Nat}{n k:Nat}(l:List iu)(i:Nat):PR ((l.take i).flatMap (jD F n G k))<=PR (jM F n G k l):=by
 have e:l.flatMap (jD F n G k)=(l.take i).flatMap (jD F n G k)++(l.drop i).flatMap (jD F n G k):=by rw[<-List.flatMap_append,List.take_append_drop]
 unfold jM;rw[e,jC,jC];omega
theorem Oo(w:aq)(S:Nat->Prop)(B g:Nat)(f:Nat->Nat)(K:Nat)(A2:Option au)(m c2:Nat)(l:List iu)(F:Nat->Nat)(ga n ca:Nat)(G:Nat->Nat)(gb k cb:Nat)(h:iX w S B g f K)(hm:m=l.length)(hr:km w w.heap.size A2 l)(hS:pH S A2 m)(cW:m<=1000000)
  (ha:pM w S ga n F) (hb:pM w S gb k G) (hn:n<=1000) (cX:k<=1000) (bP:256<n) (b5:∀t∈l,iO t=true/\t.x<256) (b6:∀t∈l,jU t<n/\(t.n≠0->lK t<k)) (hk:K+PR (jM F n G k l)<=16000000):
  aw prog 84 #[ag (some ⟨g,0,none⟩),af A2 m c2,.func (.func 86) #[af (some ⟨ga,0,none⟩) n ca] #[],.func (.func 86) #[af (some ⟨gb,0,none⟩) k cb] #[]] w fun e w'=>e=ao (.tuple #[])/\iX w' S B g (iE f K (jM F n G k l)) (K+PR (jM F n G k l))/\iC S w w'/\aR B w w':=by
 have H:=gW h;have HM:=gW hm;have HR:=gW hr;have HS:=gW hS;have HA:=gW ha;have b7:=gW hb;have cG:=gW b5;have cH:=gW b6;have HK:=gW hk
 clear h hm hr hS ha hb b5 b6 hk
 go_enter func84,ntmps84
 go_wp2_with fail
 go_loopw [16] (fun iv wr=>∃i:Nat,i<=m/\iv=ae aj (i:Int)/\aQ (iX wr S B g (iE f K ((l.take i).flatMap (jD F n G k))) (K+PR ((l.take i).flatMap (jD F n G k))))/\aQ (iC S w wr)/\aQ (aR B w wr)) (fun iv _=>m-(aP iv).toNat)
 case atStart=>exact⟨0,Nat.zero_le _,rfl,gW H.out,gW (iC.refl _ _),gW ix⟩
 case round=>
  obtain⟨i,hi,rfl,bu,bz,HB⟩:=hrel;by_cases cI:i<m
  ·have b8:(i:Int)<(m:Int):=by omega
   have bj:i<l.length:=by rw[<-HM.out];exact cI
   obtain⟨b,o,rfl,cJ,hc⟩:=HR.out.at bj;have b9:S b:=HS.out b o (by omega) rfl;have bV:=HR.out.zJ bz.out rfl b9 bj;have bk:l.getD i jl∈l:=by rw[List.getD_eq_getElem?_getD,List.getElem?_eq_getElem bj];exact List.getElem_mem bj
   obtain⟨a9,bl⟩:=cG.out _ bk;obtain⟨aZ,bm⟩:=cH.out _ bk;have aY:=Ol (F:=F) (G:=G) (n:=n) (k:=k) bj;have hle:=Om (F:=F) (G:=G) (n:=n) (k:=k) l (i+1);obtain⟨t,ht⟩:=gX (l.getD i jl);rw[<-ht]at bV a9 bl aZ bm aY;obtain⟨Q,hQ⟩:=gX (iE f K ((l.take i).flatMap (jD F n G k)));obtain⟨q,hq⟩:=gX (K+PR ((l.take i).flatMap (jD F n G k)));have bn:=bu.out;rw[<-hQ,<-hq]at bn;have al:q+PR (jD F n G k t)=K+PR ((l.take (i+1)).flatMap (jD F n G k)):=by rw[aY,jC,hq];omega
   have av:iE Q q (jD F n G k t)=iE f K ((l.take (i+1)).flatMap (jD F n G k)):=by rw[aY,mj,hQ,hq]
   have aW:q+PR (jD F n G k t)<=16000000:=by have:=HK.out;omega
   obtain⟨W3,bA⟩:=gX (iP wr #[ae .u8 0,ae aj 0,ae aj 0] (jK t).toArray 128);have bB:aR wr.heap.size wr W3:=by rw[bA];exact kU _ _ _ _
   have a1:W3.heap[wr.heap.size]?=some (ak (jK t).toArray 128 (0,0)):=by rw[bA];exact lq wr _ _ _
   have bW:wr.heap.size<W3.heap.size:=(Array.getElem?_eq_some_iff.1 a1).1;obtain⟨S',bC⟩:∃S':Nat->Prop,S'=fun j=>S j\/(wr.heap.size<=j/\j<W3.heap.size):=⟨_,rfl⟩
   have cf:∀j,S j->S' j:=fun j hj=>by rw[bC];exact .inl hj
   have cg:S' wr.heap.size:=by rw[bC];exact .inr ⟨Nat.le_refl _,bW⟩
   have bQ:iX W3 S' B g Q q:=by rw[bC];exact bn.grow bB
   have y0:W3.cell? ⟨wr.heap.size,0,none⟩=some (ae .u8 (t.x:Int)):=(aH W3 _ 0 _ _ (0,0) a1).trans rfl;have y1:W3.cell? ⟨wr.heap.size,1,none⟩=some (ae aj t.d):=(aH W3 _ 1 _ _ (0,0) a1).trans rfl;have y2:W3.cell? ⟨wr.heap.size,2,none⟩=some (ae aj t.n):=(aH W3 _ 2 _ _ (0,0) a1).trans rfl;have ch:iC S w W3:=bz.out.tr (iC.below bn.top bB);have aV:=gW bQ;have aX:=gW cf;have cK:=gW cg;have bD:=gW ch;have bX:=gW (HB.out.trans (bB.mono bn.size));have cj:=gW bA;have ck:=gW bV
   have a2:=gW al;have a3:=gW av;have cl:=gW a9;have cm:=gW bm
   clear bQ cf cg ch bB a1 bA bC bn bV al av hQ hq aY hle ht bk hc cJ b9 bu;by_cases h0:t.n=0
   ·have cL:(t.n==0)=true:=by rw[h0];rfl
    have cn:jU t=t.x:=by unfold jU;rw[if_pos h0]
    have aU:jD F n G k t=[jT F n t.x]:=by unfold jD;rw[if_pos h0]
    rw[cn]at aZ;rw[aU]at aW;have al:=a2.out;have av:=a3.out;rw[aU]at al av;obtain⟨x,hx⟩:=gX (t.x);rw[<-hx]at aZ aW al av y0 bl;have a4:=HA.out.fit (i:=x) aZ;obtain⟨⟨Z,Y⟩,hZ⟩:∃t,t=jT F n x:=⟨_,rfl⟩;rw[<-hZ]at aW al av a4;have bp:=(HA.out.kept bD.out).of ca x aZ (by omega) Z Y hZ.symm;have bY:=gW bp;have a2:=gW al;have a3:=gW av;have bZ:=gW a4
    clear bp al av a4 hZ hx cn aU cl cm a9 bm;go_wp2_with (first|refine aF rfl _ _ rfl b (o+i*3) rfl (jK t) _ ck.out underlying128 rfl tf ?_|refine aC rfl _ _ _ rfl rfl wr.heap.size (jK t).toArray rfl rfl 128 #[ae .u8 0,ae aj 0,ae aj 0] (aG wr _) (tA _) rfl (uv _) ?_;change wpList _ _ _ _ _ (iP wr #[ae .u8 0,ae aj 0,ae aj 0] (jK t).toArray 128);rw[<-cj.out]|fail)
    refine bY.out.mono ?_;rintro e w4 ⟨rfl,aS⟩;have ad:=oG w4 S' B g Q q [(Z,Y)] 1 rfl #[ae .u32 (Z:Int),ae aj (Y:Int)] rfl (aV.out.after aS) (by omega) (fun z hz=>by
     simp only[List.mem_singleton]at hz;rw[hz];exact bZ.out) aW
    rw[a2.out,a3.out]at ad;have aT:=gW ad;have a5:=gW (bD.out.tr ((iC.below aV.out.top aS).less aX.out));have bd:=gW (bX.out.trans (aS.mono aV.out.size))
    clear ad aS y0 y1 y2;go_wp2_with fail
    refine aT.out.mono ?_;rintro e w5 ⟨rfl,h1,h2,h3⟩;have H1:=gW (h1.less aX.out);have H2:=gW (a5.out.tr (h2.less aX.out));have H3:=gW (bd.out.trans h3)
    clear h1 h2 h3;go_wp2;go_roundw
    case rel=>exact⟨i+1,by omega,by go_num,H1,H2,H3⟩
    case measure=>simp[aP];omega
   ·have cL:(t.n==0)=false:=by rw[beq_eq_false_iff_ne];exact h0
    obtain⟨bE,bF,_,_⟩:=(mH a9 bl).2.2 h0;obtain⟨bf,bg⟩:=LH a9 bl h0;obtain⟨_,_,_,_,p1,_,p3,p4⟩:=rR bE;obtain⟨_,_,_,_,q1,_,q3,q4⟩:=rS bF;have b0:=bm h0;have eS:jN t.n=((jU t:Nat):Int):=by
     have h5:3<=t.n/\t.n<=258:=xN bE;have:0<=jN t.n:=by unfold jN;rw[if_pos h5];omega
     unfold jU;rw[if_neg h0];omega
    have eD:jH t.d=((lK t:Nat):Int):=by
     have h5:1<=t.d/\t.d<=32768:=xO bF;have:0<=jH t.d:=by unfold jH;rw[if_pos h5];omega
     unfold lK;omega
    have aU:jD F n G k t=[jT F n (jN t.n).toNat,((ll t.n).toNat,(kY t.n).toNat),jT G k (jH t.d).toNat,((lC t.d).toNat,(kZ t.d).toNat)]:=by unfold jD;rw[if_neg h0]
    rw[eS,eD,Int.toNat_natCast,Int.toNat_natCast]at aU;obtain⟨u,eu⟩:=Int.eq_ofNat_of_zero_le p3;obtain⟨v,ev⟩:=Int.eq_ofNat_of_zero_le q3;obtain⟨x1,bG⟩:=Int.eq_ofNat_of_zero_le p1;obtain⟨x2,bH⟩:=Int.eq_ofNat_of_zero_le q1;have bI:=fun V:aq=>Fu V t.n
    have bJ:=fun V:aq=>Fv V t.d
    rw[eS,eu,bG,bE]at bI;rw[eD,ev,bH,bF]at bJ;rw[bG,eu,Int.toNat_natCast,Int.toNat_natCast]at bf;rw[bH,ev,Int.toNat_natCast,Int.toNat_natCast]at bg;rw[bG,eu,bH,ev,Int.toNat_natCast,Int.toNat_natCast,Int.toNat_natCast,Int.toNat_natCast]at aU;have cY:x1<65536:=by
     have h1:x1<2^u:=bf.1;have e:(2:Nat)^u<=2^16:=Nat.pow_le_pow_right (by omega) bf.2;have e2:(2:Nat)^16=65536:=rfl;omega
    have cZ:x2<65536:=by
     have h1:x2<2^v:=bg.1;have e:(2:Nat)^v<=2^16:=Nat.pow_le_pow_right (by omega) bg.2;have e2:(2:Nat)^16=65536:=rfl;omega
    have c8:u<=16:=bf.2;have c9:v<=16:=bg.2;obtain⟨sA,cp⟩:=gX (jU t);obtain⟨sD,bR⟩:=gX (lK t);rw[<-cp]at bI aU aZ;rw[<-bR]at bJ aU b0;have bq:=HA.out.fit (i:=sA) aZ;have br:=b7.out.fit (i:=sD) b0;obtain⟨⟨Z1,Y1⟩,bK⟩:∃t,t=jT F n sA:=⟨_,rfl⟩;obtain⟨⟨Z2,Y2⟩,bL⟩:∃t,t=jT G k sD:=⟨_,rfl⟩;rw[<-bK,<-bL]at aU;rw[<-bK]at bq;rw[<-bL]at br;have b1:([(Z1,Y1),(x1,u),(Z2,Y2),(x2,v)]:List (Nat×Nat))=[(Z1,Y1),(x1,u)]++[(Z2,Y2),(x2,v)]:=rfl;have al:=a2.out;have av:=a3.out;rw[aU,b1,jC]at aW al;rw[aU,b1,mj]at av;obtain⟨q2,bM⟩:=gX (q+PR [(Z1,Y1),(x1,u)]);obtain⟨Q2,b2⟩:=gX (iE Q q [(Z1,Y1),(x1,u)]);rw[<-Nat.add_assoc,<-bM]at aW al;rw[<-b2,<-bM]at av;have bS:q+PR [(Z1,Y1),(x1,u)]<=16000000:=by omega
    have cM:=gW bI;have cN:=gW bJ;have cq:=gW al;have cr:=gW av;have cO:=gW aW;have ct:=gW bS;have cP:=gW bM;have cu:=gW b2
    have cv:=gW bq;have cw:=gW br;have cQ:=gW bf;have cR:=gW bg;have cS:=gW bK;have cT:=gW bL;have cx:=gW y1
    clear bI bJ al av aW bS bM b2 bq br bf bg bK bL aU b1 cp bR eS eD eu ev bG bH bE bF p1 p3 p4 q1 q3 q4 bm a9 bl cl cm a2 a3 y0 y1;go_wp2_with (first|refine aF rfl _ _ rfl b (o+i*3) rfl (jK t) _ ck.out underlying128 rfl tf ?_|refine aC rfl _ _ _ rfl rfl wr.heap.size (jK t).toArray rfl rfl 128 #[ae .u8 0,ae aj 0,ae aj 0] (aG wr _) (tA _) rfl (uv _) ?_;change wpList _ _ _ _ _ (iP wr #[ae .u8 0,ae aj 0,ae aj 0] (jK t).toArray 128);rw[<-cj.out]|fail)
    refine(cM.out W3).mono ?_;rintro e w4 ⟨rfl,aS⟩;have a6:=gW (aV.out.after aS);have a5:=gW (bD.out.tr ((iC.below aV.out.top aS).less aX.out));have bd:=gW (bX.out.trans (aS.mono aV.out.size))
    have cy:=gW ((aS.cell (p:=⟨wr.heap.size,1,none⟩) bW).trans cx.out);have cz:wr.heap.size<w4.heap.size:=by have:=aS.size;omega
    have bT:=gW ((HA.out.kept a5.out).of ca sA aZ (by omega) Z1 Y1 cS.out.symm);clear aS y2 aV bD bX cx bW;go_wp2_with fail
    refine bT.out.mono ?_;rintro e w5 ⟨rfl,bt⟩;have ad:=oG w5 S' B g Q q [(Z1,Y1),(x1,u)] 2 rfl #[ae .u32 (Z1:Int),ae aj (Y1:Int),ae .u32 (x1:Int),ae aj (u:Int)] rfl (a6.out.after bt) (by omega) (fun z hz=>by
     simp only[List.mem_cons,List.not_mem_nil,or_false]at hz;rcases hz with rfl|rfl
     ·exact cv.out
     ·exact cQ.out) ct.out
    rw[<-cP.out,<-cu.out]at ad;have aT:=gW ad;have cA:=gW (a5.out.tr ((iC.below a6.out.top bt).less aX.out));have cB:=gW (bd.out.trans (bt.mono a6.out.size))
    have cC:=gW ((bt.cell (p:=⟨wr.heap.size,1,none⟩) cz).trans cy.out);clear ad bt a6 a5 bd cy bT cz;go_wp2_with (first
     |(refine aD rfl 169 #[(0,.tmp 44),(1,.tmp 45)] rfl (some 46) rfl #[ae .u32 (x1:Int),ae aj (u:Int)] ?_ ?_;focus(simpa[Act.eval]using lV (x1:Int) (u:Int)))
     |fail)
    refine aT.out.mono ?_;rintro e w6 ⟨rfl,h1,h2,h3⟩;have y6:=(h2.cell (p:=⟨wr.heap.size,1,none⟩) cK.out).trans cC.out;have a7:=gW h1;have cD:=gW (cA.out.tr (h2.less aX.out));have cE:=gW (cB.out.trans h3)
    clear h1 h2 h3 aT cA cB cC;go_wp2_with fail
    refine(cN.out w6).mono ?_;rintro e w7 ⟨rfl,bN⟩;have a8:=gW (a7.out.after bN);have b3:=gW (cD.out.tr ((iC.below a7.out.top bN).less aX.out));have cF:=gW (cE.out.trans (bN.mono a7.out.size))
    have bU:=gW ((b7.out.kept b3.out).of cb sD b0 (by omega) Z2 Y2 cT.out.symm);clear bN y6 a7 cD cE;go_wp2_with fail
    refine bU.out.mono ?_;rintro e w8 ⟨rfl,bO⟩;have ad:=oG w8 S' B g Q2 q2 [(Z2,Y2),(x2,v)] 2 rfl #[ae .u32 (Z2:Int),ae aj (Y2:Int),ae .u32 (x2:Int),ae aj (v:Int)] rfl (a8.out.after bO) (by omega) (fun z hz=>by
     simp only[List.mem_cons,List.not_mem_nil,or_false]at hz;rcases hz with rfl|rfl
     ·exact cw.out
     ·exact cR.out) cO.out
    rw[cq.out,cr.out]at ad;have aT:=gW ad;have cU:=gW (b3.out.tr ((iC.below a8.out.top bO).less aX.out));have cV:=gW (cF.out.trans (bO.mono a8.out.size))
    clear ad bO a8 b3 cF bU;go_wp2_with (first
     |(refine aD rfl 169 #[(0,.tmp 62),(1,.tmp 63)] rfl (some 64) rfl #[ae .u32 (x2:Int),ae aj (v:Int)] ?_ ?_;focus(simpa[Act.eval]using lV (x2:Int) (v:Int)))
     |fail)
    refine aT.out.mono ?_;rintro e w9 ⟨rfl,h1,h2,h3⟩;have H1:=gW (h1.less aX.out);have H2:=gW (cU.out.tr (h2.less aX.out));have H3:=gW (cV.out.trans h3)
    clear h1 h2 h3;go_wp2;go_roundw
    case rel=>exact⟨i+1,by omega,by go_num,H1,H2,H3⟩
    case measure=>simp[aP];omega
  ·obtain rfl:i=m:=by omega
   have b8:¬(i:Int)<(i:Int):=by omega
   have hr:=bu.out;rw[HM.out,List.take_length]at hr;obtain⟨Q,hQ⟩:=gX (iE f K (l.flatMap (jD F n G k)));obtain⟨q,hq⟩:=gX (K+PR (l.flatMap (jD F n G k)));rw[<-hQ,<-hq]at hr;obtain⟨⟨Z,Y⟩,hZ⟩:∃t,t=jT F n 256:=⟨_,rfl⟩;have al:q+PR [(Z,Y)]=K+PR (jM F n G k l):=by unfold jM;rw[jC,hq,hZ];omega
   have av:iE Q q [(Z,Y)]=iE f K (jM F n G k l):=by unfold jM;rw[mj,hQ,hq,hZ]
   have a4:=HA.out.fit (i:=256) bP;rw[<-hZ]at a4;have bp:=(HA.out.kept bz.out).of ca 256 bP (by omega) Z Y hZ.symm;have aW:q+PR [(Z,Y)]<=16000000:=by rw[al];exact HK.out
   have b4:=gW hr;have bY:=gW bp;have a2:=gW al;have a3:=gW av;have bZ:=gW a4
   clear hr bp al av a4 hZ hQ hq bu;go_wp2_with fail
   refine bY.out.mono ?_;rintro e w4 ⟨rfl,aS⟩;have ad:=oG w4 S B g Q q [(Z,Y)] 1 rfl #[ae .u32 (Z:Int),ae aj (Y:Int)] rfl (b4.out.after aS) (by omega) (fun z hz=>by
    simp only[List.mem_singleton]at hz;rw[hz];exact bZ.out) aW
   rw[a2.out,a3.out]at ad;have aT:=gW ad;have a5:=gW (bz.out.tr (iC.below b4.out.top aS));have bd:=gW (HB.out.trans (aS.mono b4.out.size))
   clear ad aS;go_wp2_with fail
   refine aT.out.mono ?_;rintro e w5 ⟨rfl,h1,h2,h3⟩;have H1:=gW h1;have H2:=gW (a5.out.tr h2);have H3:=gW (bd.out.trans h3)
   clear h1 h2 h3;go_wp2;go_end0;exact⟨rfl,H1.out,H2.out,H3.out⟩
theorem iy.sL{S:Nat->Prop}{w w':aq}{B n:Nat}{A:Option au}{f:Nat->Nat}(h:iy w B A n f)(hk:iC S w w')(hS:pH S A n)(hB:B<=w'.heap.size):iy w' w'.heap.size A n f:=⟨h.1,fun h0=>by
 obtain⟨b,o,rfl,hb,hc⟩:=h.2 h0;exact⟨b,o,rfl,by omega,fun j hj=>(hk.cell (p:=⟨b,o+j,none⟩) (hS b o h0 rfl)).trans (hc j hj)⟩⟩
theorem lf.sL{S:Nat->Prop}{w w':aq}{B n:Nat}{A:Option au}{l:List (Int×Int)}(h:lf w B A l)(hk:iC S w w')(hn:n=l.length)(hS:pH S A n)(hB:B<=w'.heap.size):lf w' w'.heap.size A l:=⟨h.1,fun h0=>by
 obtain⟨b,o,rfl,hb,hc⟩:=h.2 h0;exact⟨b,o,rfl,by omega,fun j u hu=>(hk.cell (p:=⟨b,o+j,none⟩) (hS b o (by omega) rfl)).trans (hc j u hu)⟩⟩
def Qy(a b:Nat):Nat->Nat
 |0=>a
 |_=>b
def xe(f g:Nat->Nat):Nat->Nat->Nat
 |0=>f
 |_=>g
theorem Oq(f g:Nat->Nat)(a b:Nat):Qd (Qy a b) 2=a+b/\oL (Qy a b) (xe f g) 2=cat f a g:=by
 refine⟨by simp[Qd,Qy],?_⟩;funext j;show cat (cat (fun _=>0) 0 f) (0+a) g j=cat f a g j
 unfold cat;rw[Nat.zero_add];by_cases h:j<a
 ·rw[if_pos h,if_pos h,if_neg (by omega),Nat.sub_zero]
 ·rw[if_neg h,if_neg h]
theorem Ot(l:List iu)(hl:l.length<=1000000):uW (oK l) (nA l+nB l)=jV l/\rQ (oK l) (nA l+nB l)=0:=by
 obtain⟨_,_,_,_,_,a2,_,b2,_⟩:=nc l hl;have h:rQ (oK l) (nA l+nB l)=0:=by unfold rQ;rw[if_neg (by omega),if_pos (fun i _=>vh l hl i)]
 exact⟨by unfold uW;rw[if_pos h];rfl,h⟩
theorem FO(w:aq)(S:Nat->Prop)(B g:Nat)(f:Nat->Nat)(K:Nat)(A1:Option au)(c1:Nat)(A2:Option au)(c2:Nat)(l:List iu)(h:iX w S B g f K)(hl:l.length<=1000000)
  (h1:ib w w.heap.size A1 (nA l) c1 (jA l)) (h2:ib w w.heap.size A2 (nB l) c2 (jE l)) (hk:K+PR (lD l)<=16000000):
  aw prog 109 #[ag (some ⟨g,0,none⟩),af A1 (nA l) c1,af A2 (nB l) c2] w fun e w'=>e=ao (.tuple #[])/\iX w' S B g (iE f K (lD l)) (K+PR (lD l))/\iC S w w'/\aR B w w':=by
 obtain⟨_,_,_,_,a1,a2,b1,b2,_⟩:=nc l hl
 obtain⟨aU,db⟩:=sf l hl
 obtain⟨aZ,a7⟩:=Ot l hl
 have bU:∀r∈jV l,0<=r.1/\r.1<=18/\0<=r.2/\qe (r.2.toNat,(jG r.1).toNat):=fun r hr=>by
  obtain⟨x1,x2,x3,_⟩:=aU r hr;exact⟨x1,x2,x3,LI hl hr⟩
 have bV:=N6 l hl
 have a8:∀i,kj l i<=7:=(s8 (c:=ld (jV l)) (n:=19) (il:=7) (by omega) (by omega) (by omega) (by decide) (fun i=>by have:=rf (jV l) i;omega)).1
 have r1:=s9 (kl l) 4 19
 have r2:=qZ (kl l) 4 19 (by omega)
 have ad:lD l=[(nA l-257,5),(nB l-1,5),(nR l-4,4)]++((List.range (nR l)).map fun i=>(kl l i,3))++(jV l).flatMap (kA (kj l)):=rfl
 have bu:nR l=Qc (fun i=>kj l (kc i)) 4 19:=rfl
 have bz:kj l=mv (ld (jV l)) 19 7:=rfl
 have av:cat (jA l) (nA l) (jE l)=oK l:=rfl
 have bA:∀i,kl l i=kj l (kc i):=fun _=>rfl
 have aV:∀j,jA l j<256:=h1.1.1
 have aW:∀j,jE l j<256:=h2.1.1
 obtain⟨nl,ca⟩:=gX (nA l)
 obtain⟨nd,cb⟩:=gX (nB l)
 obtain⟨nr,bW⟩:=gX (nR l)
 obtain⟨FA,cf⟩:=gX (jA l)
 obtain⟨FB,cg⟩:=gX (jE l)
 obtain⟨FR,ch⟩:=gX (kj l)
 obtain⟨RR,cj⟩:=gX (kl l)
 obtain⟨al,cl⟩:=gX (oK l)
 obtain⟨rl,bM⟩:=gX (jV l)
 obtain⟨P,hP⟩:=gX (lD l)
 rw[<-ca]at a1 a2 h1 aZ a7 ad av⊢
 rw[<-cb]at b1 b2 h2 aZ a7 ad⊢
 rw[<-cf]at h1 av aV
 rw[<-cg]at h2 av aW
 rw[<-cl]at aZ a7 av
 rw[<-bM]at aZ bU db bz ad
 rw[<-ch]at bV a8 bz ad bA bu
 rw[<-cj]at ad bA
 rw[<-bW]at ad bu
 rw[<-hP]at ad hk⊢
 rw[show Qc (kl l) 4 19=nR l from rfl,<-bW]at r1 r2
 clear aU ca cb bW cf cg ch cj cl bM hP
 obtain⟨W1,bB⟩:=gX (w.alloc (ak #[af A1 nl c1,af A2 nd c2] 22))
 have a3:aR w.heap.size w W1:=by rw[bB];exact ix.alloc gY _
 have aX:W1.heap[w.heap.size]?=some (ak #[af A1 nl c1,af A2 nd c2] 22 (0,0)):=by rw[bB];exact aG w _
 have a9:Qu W1 W1.heap.size (some ⟨w.heap.size,0,none⟩) 2 (Qy nl nd) (xe FA FB):=fun _=>by
  refine⟨w.heap.size,0,rfl,(Array.getElem?_eq_some_iff.1 aX).1,fun i hi=>?_⟩;rcases i with _|_|i
  ·exact⟨A1,c1,(aH W1 _ 0 _ _ (0,0) aX).trans rfl,(h1.1.below a3 gY).more a3.size,h1.2.1⟩
  ·exact⟨A2,c2,(aH W1 _ 1 _ _ (0,0) aX).trans rfl,(h2.1.below a3 gY).more a3.size,h2.2.1⟩
  ·omega
 obtain⟨e1,e2⟩:=Oq FA FB nl nd
 have bd:=Ex W1 (some ⟨w.heap.size,0,none⟩) 2 2 (Qy nl nd) (xe FA FB) (fun i j=>by unfold xe;split;exact aV j;exact aW j) a9 (by omega) (by rw[e1];omega)
 rw[e1,e2,av]at bd
 have bN:∀j,al j<256:=fun j=>by rw[<-av];exact zV aV aW j
 have H:=gW h;have bO:=gW bd;have dc:=gW bB;have bX:=gW a3;have cm:=gW bN;have dd:=gW aZ;have de:=gW a7;have bY:=gW bU;have cn:=gW bV;have cp:=gW a8;have cq:=gW ad;have df:=gW bu;have dg:=gW bz;have cr:=gW bA;have HK:=gW hk
 clear h bd bB a3 aX a9 e1 e2 bN aZ a7 bU bV a8 ad bu bz bA hk av aV aW h1 h2
 have dw:∀(fn:Fn) (first cap:Array ax) (w:aq),(Instr.makeFunc fn first cap).run prog w=.ok (.func fn first cap) w:=fun _ _ _ _=>rfl
 go_enter func109,ntmps109
 go_wp2_with (first|rw[<-dc.out]|fail)
 refine bO.out.mono ?_
 rintro e w1 ⟨Ac,cc,rfl,ct,cv⟩
 have bC:=gW (bX.out.trans (cv.mono bX.out.size))
 have bf:=Oh w1 Ac (nl+nd) cc al (ib.iI ct cm.out)
 rw[dd.out,de.out]at bf
 have bP:=gW bf
 clear ct cv bf bO bX
 go_wp2_with fail
 refine bP.out.mono ?_
 rintro e w2 ⟨Au,nu,cu,rfl,aU,cw,cx⟩
 obtain⟨bZ,bg,_⟩:=aU
 have bD:=gW (bC.out.trans (cw.mono bC.out.size))
 have b0:=Nh w2 Au nu cu rl bZ bg (by omega) (fun r hr=>⟨(bY.out r hr).1,(bY.out r hr).2.1⟩)
 rw[<-dg.out]at b0
 have cy:=gW b0;have cz:=gW bg;have b3:=gW bZ;have cA:aQ (∀b o,Au=some ⟨b,o,none⟩->w.heap.size<=b):=gW fun b o e=>Nat.le_trans bC.out.size (cx b o e)
 have cB:nu<=1000:=by omega
 clear b0 bg cw cx bP bC bZ
 go_wp2_with fail
 refine cy.out.mono ?_
 rintro e w3 ⟨As,cs,rfl,a4,dv,da,_,cC,bE⟩
 have bF:=gW (bD.out.trans (bE.mono bD.out.size))
 have bQ:=gW ((cz.out.below bE gY).more bE.size)
 have b4:=Ng w3 As cs FR a4
 rw[<-df.out]at b4
 have cD:=gW b4;have cE:=gW a4;have cF:aQ (∀b o,As=some ⟨b,o,none⟩->w.heap.size<=b):=gW fun b o e=>Nat.le_trans bD.out.size (cC b o e)
 clear b4 a4 cC bE cy cz bD
 go_wp2_with fail
 refine cD.out.mono ?_
 rintro e w4 ⟨rfl,bj,a5⟩
 have bG:=bF.out.trans (a5.mono bF.out.size)
 have bR:=bF.out.size
 obtain⟨S4,bH⟩:∃S':Nat->Prop,S'=fun j=>S j\/(w.heap.size<=j/\j<w4.heap.size):=⟨_,rfl⟩
 have bk:iX w4 S4 B g f K:=by rw[bH];exact H.out.grow bG
 have cG:∀j,S j->S4 j:=fun j hj=>by rw[bH];exact .inl hj
 have bI:∀j,w.heap.size<=j->j<w4.heap.size->S4 j:=fun j a b=>by rw[bH];exact .inr ⟨a,b⟩
 have bl:=(bQ.out.below a5 gY).more a5.size
 have bm:=(cE.out.below a5 gY).more a5.size
 have cH:pH S4 Au nu:=fun b o h0 e=>by
  obtain⟨b',o',e',cI,_⟩:=bl.at (k:=0) (by have:=b3.out;omega);rw[e]at e';injection e' with e'
  injection e' with e1
  exact bI b (cA.out b o e) (by omega)
 have cJ:pH S4 As 19:=fun b o h0 e=>by
  obtain⟨b',o',e',cI,_⟩:=bm.2 h0;rw[e]at e';injection e' with e'
  injection e' with e1
  exact bI b (cF.out b o e) (by omega)
 have cK:S4 w3.heap.size:=bI _ bR bj.lt
 have cL:iC S w w4:=iC.below H.out.top bG
 have cM:aR B w w4:=bG.mono H.out.size
 have b5:=gW bk;have b6:=gW cG;have cN:=gW bl;have cO:=gW bm;have cP:=gW cH;have dh:=gW cJ;have cQ:=gW cK;have di:=gW cL;have dj:=gW cM;have bS:=gW bj
 clear bk cG bI bl bm cH cJ cK cL cM bj bH bG a5 cD bQ cE bF cA cF bR
 obtain⟨xa,cR⟩:=gX (nl-257)
 obtain⟨xb,cS⟩:=gX (nd-1)
 obtain⟨xr,cT⟩:=gX (nr-4)
 have ad:=cq.out
 rw[<-cR,<-cS,<-cT]at ad
 have eA:(nl:Int)-257=(xa:Int):=by omega
 have eB:(nd:Int)-1=(xb:Int):=by omega
 have eR:(nr:Int)-4=(xr:Int):=by omega
 have lA:xa<=29:=by omega
 have lB:xb<=29:=by omega
 have lR:xr<=15:=by omega
 have aT:PR [(xa,5),(xb,5),(xr,4)]=14:=by simp[PR]
 have cU:K+14+PR ((List.range nr).map fun i=>(RR i,3))+PR (rl.flatMap (kA FR))=K+PR P:=by
  rw[ad,jC,jC,aT];omega
 have b7:iE (iE (iE f K [(xa,5),(xb,5),(xr,4)]) (K+14) ((List.range nr).map fun i=>(RR i,3))) (K+14+PR ((List.range nr).map fun i=>(RR i,3))) (rl.flatMap (kA FR))=iE f K P:=by
  rw[ad,mj,mj,jC,aT,Nat.add_assoc]
 obtain⟨Q,hQ⟩:=gX (iE f K [(xa,5),(xb,5),(xr,4)])
 have aS:=oG w4 S4 B g f K [(xa,5),(xb,5),(xr,4)] 3 rfl #[ae .u32 (xa:Int),ae aj 5,ae .u32 (xb:Int),ae aj 5,ae .u32 (xr:Int),ae aj 4] rfl b5.out (by omega) (fun z hz=>by
  simp only[List.mem_cons,List.not_mem_nil,or_false]at hz;rcases hz with rfl|rfl|rfl
  ·exact l7 (by omega) (by omega)
  ·exact l7 (by omega) (by omega)
  ·exact l7 (by omega) (by omega)) (by rw[aT];have:=HK.out;omega)
 rw[aT,<-hQ]at aS
 rw[<-hQ]at b7
 have aY:=gW aS;have b8:=gW cU;have dk:=gW b7
 clear aS cU b7 hQ aT ad cR cS cT cq
 go_wp2_with (first
  |(refine aD rfl 169 #[(0,.tmp 28),(1,.const (ae aj 5))] rfl (some 29) rfl #[ae .u32 (xa:Int),ae aj 5] ?_ ?_;focus(simpa[Act.eval]using lV (xa:Int) 5))
  |(refine aD rfl 169 #[(0,.tmp 33),(1,.const (ae aj 5))] rfl (some 34) rfl #[ae .u32 (xb:Int),ae aj 5] ?_ ?_;focus(simpa[Act.eval]using lV (xb:Int) 5))
  |(refine aD rfl 169 #[(0,.tmp 38),(1,.const (ae aj 4))] rfl (some 39) rfl #[ae .u32 (xr:Int),ae aj 4] ?_ ?_;focus(simpa[Act.eval]using lV (xr:Int) 4))
  |fail)
 refine aY.out.mono ?_
 rintro e w5 ⟨rfl,h1,h2,h3⟩
 have b9:=gW h1;have dm:=gW h2;have dn:=gW h3
 clear h1 h2 h3 aY eA eB eR
 obtain⟨h,hh⟩:=gX (w3.heap.size)
 rw[<-hh]at cQ bS⊢
 have HH:=gW hh
 clear hh
 go_wp2_with fail
 go_loopw [44] (fun iv wr=>∃i:Nat,i<=nr/\iv=ae aj (i:Int)/\aQ (iX wr S4 B g (iE Q (K+14) ((List.range i).map fun i=>(RR i,3))) (K+14+PR ((List.range i).map fun i=>(RR i,3))))/\aQ (iC S4 w4 wr)/\aQ (aR B w4 wr)) (fun iv _=>nr-(aP iv).toNat)
 case atStart=>exact⟨0,Nat.zero_le _,rfl,b9,dm,dn⟩
 case round=>
  obtain⟨i,hi,rfl,bJ,bn,HB⟩:=hrel;by_cases cI:i<nr
  ·have cV:(i:Int)<(nr:Int):=by omega
   have k1:=(bn.out.cell (p:=⟨h,i,none⟩) cQ.out).trans (bS.out.cell (j:=i) (by omega));rw[<-cr.out i]at k1;have dp:RR i<=7:=by rw[cr.out];exact cp.out _
   obtain⟨x,hx⟩:=gX (RR i);rw[<-hx]at k1 dp;have bK:((List.range (i+1)).map fun i=>(RR i,3))=((List.range i).map fun i=>(RR i,3))++[(x,3)]:=by rw[List.range_succ,List.map_append,hx];rfl
   have dq:PR ((List.range (i+1)).map fun i=>(RR i,3))<=PR ((List.range nr).map fun i=>(RR i,3)):=by
    have e:((List.range nr).map fun i=>(RR i,3))=((List.range nr).map fun i=>(RR i,3)).take (i+1)++((List.range nr).map fun i=>(RR i,3)).drop (i+1):=(List.take_append_drop _ _).symm;rw[e,jC,<-List.map_take,List.take_range,Nat.min_eq_left (by omega)];omega
   have aS:=oG wr S4 B g _ _ [(x,3)] 1 rfl #[ae .u32 (x:Int),ae aj 3] rfl bJ.out (by omega) (fun z hz=>by
    simp only[List.mem_singleton]at hz;rw[hz];exact l7 (by omega) (by omega)) (by
    have e:=congrArg PR bK;rw[jC]at e;have:=HK.out;have:=b8.out;omega)
   have eb:K+14+PR ((List.range i).map fun i=>(RR i,3))+PR [(x,3)]=K+14+PR ((List.range (i+1)).map fun i=>(RR i,3)):=by rw[bK,jC];omega
   have ef:iE (iE Q (K+14) ((List.range i).map fun i=>(RR i,3))) (K+14+PR ((List.range i).map fun i=>(RR i,3))) [(x,3)]=iE Q (K+14) ((List.range (i+1)).map fun i=>(RR i,3)):=by rw[bK,mj]
   rw[eb,ef]at aS;have aY:=gW aS;clear aS bK dq hx eb ef;go_wp2_with (first
    |(refine aD rfl 169 #[(0,.tmp 50),(1,.const (ae aj 3))] rfl (some 51) rfl #[ae .u32 (x:Int),ae aj 3] ?_ ?_;focus(simpa[Act.eval]using lV (x:Int) 3))
    |fail)
   refine aY.out.mono ?_;rintro e w6 ⟨rfl,h1,h2,h3⟩;have H1:=gW h1;have H2:=gW (bn.out.tr h2);have H3:=gW (HB.out.trans h3)
   clear h1 h2 h3;go_wp2;go_roundw
   case rel=>exact⟨i+1,by omega,by go_num,H1,H2,H3⟩
   case measure=>simp[aP];omega
  ·obtain rfl:i=nr:=by omega
   have cV:¬(i:Int)<(i:Int):=by omega
   have cW:w4.heap.size<=wr.heap.size:=HB.out.size;have a4:=cO.out.sL bn.out dh.out cW;have aU:=cN.out.sL bn.out b3.out cP.out cW;have cX:=zH wr As 19 cs FR a4 (by omega) (by omega) cn.out;have dr:=gW cX;have cY:=gW aU
   clear cX aU a4;go_wp2_with fail
   refine dr.out.mono ?_;rintro e w7 ⟨gk,ck,rfl,cZ,bp,a6⟩;obtain⟨S7,bL⟩:∃S':Nat->Prop,S'=fun j=>S4 j\/(wr.heap.size<=j/\j<w7.heap.size):=⟨_,rfl⟩
   have bq:iX w7 S7 B g (iE Q (K+14) ((List.range i).map fun i=>(RR i,3))) (K+14+PR ((List.range i).map fun i=>(RR i,3))):=by rw[bL];exact bJ.out.grow a6
   have br:∀j,S4 j->S7 j:=fun j hj=>by rw[bL];exact .inl hj
   have c8:S7 gk:=by rw[bL];exact .inr ⟨cZ,bp.lt⟩
   have bt:=Ok w7 S7 B g _ _ Au nu cu rl FR gk ck bq b3.out ((cY.out.below a6 gY).more a6.size) (fun b o h0 e=>br b (cP.out b o h0 e)) cB bp c8 cn.out bY.out (by have:=HK.out;have:=b8.out;omega);rw[b8.out,dk.out]at bt;have c9:=gW bt;have bT:=gW br
   have dt:=gW (di.out.tr ((bn.out.tr (iC.below bJ.out.top a6)).less b6.out));have du:=gW (dj.out.trans (HB.out.trans (a6.mono bJ.out.size)))
   clear bt br c8 bq bL bp a6 cZ;go_wp2_with fail
   refine c9.out.mono ?_;rintro e w8 ⟨rfl,h1,h2,h3⟩;have H1:=gW (h1.less fun j hj=>bT.out j (b6.out j hj));have H2:=gW (dt.out.tr (h2.less fun j hj=>bT.out j (b6.out j hj)));have H3:=gW (du.out.trans h3)
   clear h1 h2 h3;go_wp2;go_end0;exact⟨rfl,H1.out,H2.out,H3.out⟩
def jr(k kind n:Nat)(l:List iu)(last:Bool):List (Nat×Nat):=
 [(if last then 1 else 0,1),(kind,2)]++(if kind=1 then[]else if kind=2 then lD l else[(0,(8-(k+3)%8)%8),(n,16),(65535-n,16)])
def px(kind:Nat)(l:List iu):Nat->Nat:=if kind=1 then kg else if kind=2 then jA l else fun _=>0
def py(kind:Nat)(l:List iu):Nat->Nat:=if kind=1 then lL else if kind=2 then jE l else fun _=>0
def mC(kind:Nat)(l:List iu):Nat:=if kind=1 then 288 else if kind=2 then nA l else 0
def mD(kind:Nat)(l:List iu):Nat:=if kind=1 then 32 else if kind=2 then nB l else 0
def sM(S:Nat->Prop)(B g:Nat)(f:Nat->Nat)(K kind n:Nat)(l:List iu)(last:Bool)(w:aq)(e:Ending)(w':aq):Prop:=
 ∃A1 c1 A2 c2,e=ao (.tuple #[af A1 (mC kind l) c1,af A2 (mD kind l) c2])/\iy w' w'.heap.size A1 (mC kind l) (px kind l)/\iy w' w'.heap.size A2 (mD kind l) (py kind l)/\
  iX w' S B g (iE f K (jr K kind n l last)) (K+PR (jr K kind n l last))/\iC S w w'/\aR B w w'
theorem Ou(w:aq)(S:Nat->Prop)(B g:Nat)(f:Nat->Nat)(K n gc:Nat)(l:List iu)(h:iX w S B g f K)(hn:n<=65535)(hK:K<=8388608)(aT:jF w gc 317 (lG l) 159)(_:l.length<=65535)(aU:∀t∈l,iO t=true/\t.x<256)(hb:K+PR (jr K 0 n l false)<=16000000):
  aw prog 83 #[ag (some ⟨g,0,none⟩),ae .u8 0,ai false,ae aj (n:Int),ag (some ⟨gc,0,none⟩)] w (sM S B g f K 0 n l false w):=by
 have ad:=oG w S B g f K [(0,1),(0,2)] 2 rfl #[ae .u32 0,ae aj 1,ae .u32 0,ae aj 2] rfl h (by omega) (fun z hz=>by
  simp only[List.mem_cons,List.not_mem_nil,or_false]at hz;rcases hz with rfl|rfl
  ·exact l7 (by omega) (by omega)
  ·exact l7 (by omega) (by omega)) (by simp[PR];omega)
 have al:PR [(0,1),(0,2)]=3:=rfl
 rw[al]at ad
 obtain⟨Q,hQ⟩:=gX (iE f K [(0,1),(0,2)])
 rw[<-hQ]at ad
 have hop:jr K 0 n l false=[(0,1),(0,2)]++[(0,(8-(K+3)%8)%8),(n,16),(65535-n,16)]:=rfl
 have aV:iE Q (K+3) [(0,(8-(K+3)%8)%8),(n,16),(65535-n,16)]=iE f K (jr K 0 n l false):=by rw[hop,mj,al,hQ]
 have aW:K+3+PR [(0,(8-(K+3)%8)%8),(n,16),(65535-n,16)]=K+PR (jr K 0 n l false):=by rw[hop,jC,al];omega
 have av:=gW ad;have aX:=gW aV;have aY:=gW aW;have HH:=gW h;have a1:=gW aT;have a2:=gW aU;have a3:=gW hb
 clear ad aV aW hQ hop al h aT aU hb
 go_enter func83,ntmps83
 go_wp2_with (first
  |(refine aD rfl 169 #[(0,.tmp 15),(1,.const (ae aj 1))] rfl (some 16) rfl #[ae .u32 0,ae aj 1] ?_ ?_;focus(simpa[Act.eval]using lV 0 1))
  |(refine aD rfl 169 #[(0,.tmp 18),(1,.const (ae aj 2))] rfl (some 19) rfl #[ae .u32 0,ae aj 2] ?_ ?_;focus(simpa[Act.eval]using lV 0 2))
  |fail)
 refine av.out.mono ?_
 rintro e w1 ⟨rfl,h1,h2,h3⟩
 have aS:=FG w1 S B g Q (K+3) n ((8-(K+3)%8)%8) h1 hn (by omega) rfl
 rw[aX.out,aY.out]at aS
 have aZ:=gW aS;have H2:=gW h2;have H3:=gW h3
 clear aS h1 h2 h3 av
 go_wp2_with fail
 refine aZ.out.mono ?_
 rintro e w2 ⟨rfl,k1,k2,k3⟩
 have K1:=gW k1;have K2:=gW (H2.out.tr k2);have K3:=gW (H3.out.trans k3)
 clear k1 k2 k3
 go_wp2
 go_ret2
 exact⟨none,0,none,0,rfl,⟨fun _=>by show 0<256;omega,fun h=>absurd h (by show¬0<0;omega)⟩,⟨fun _=>by show 0<256;omega,fun h=>absurd h (by show¬0<0;omega)⟩,K1.out,K2.out,K3.out⟩
theorem Ov(w:aq)(S:Nat->Prop)(B g:Nat)(f:Nat->Nat)(K n gc:Nat)(l:List iu)(h:iX w S B g f K)(hn:n<=65535)(hK:K<=8388608)(aT:jF w gc 317 (lG l) 159)(_:l.length<=65535)(aU:∀t∈l,iO t=true/\t.x<256)(hb:K+PR (jr K 0 n l true)<=16000000):
  aw prog 83 #[ag (some ⟨g,0,none⟩),ae .u8 0,ai true,ae aj (n:Int),ag (some ⟨gc,0,none⟩)] w (sM S B g f K 0 n l true w):=by
 have ad:=oG w S B g f K [(1,1),(0,2)] 2 rfl #[ae .u32 1,ae aj 1,ae .u32 0,ae aj 2] rfl h (by omega) (fun z hz=>by
  simp only[List.mem_cons,List.not_mem_nil,or_false]at hz;rcases hz with rfl|rfl
  ·exact l7 (by omega) (by omega)
  ·exact l7 (by omega) (by omega)) (by simp[PR];omega)
 have al:PR [(1,1),(0,2)]=3:=rfl
 rw[al]at ad
 obtain⟨Q,hQ⟩:=gX (iE f K [(1,1),(0,2)])
 rw[<-hQ]at ad
 have hop:jr K 0 n l true=[(1,1),(0,2)]++[(0,(8-(K+3)%8)%8),(n,16),(65535-n,16)]:=rfl
 have aV:iE Q (K+3) [(0,(8-(K+3)%8)%8),(n,16),(65535-n,16)]=iE f K (jr K 0 n l true):=by rw[hop,mj,al,hQ]
 have aW:K+3+PR [(0,(8-(K+3)%8)%8),(n,16),(65535-n,16)]=K+PR (jr K 0 n l true):=by rw[hop,jC,al];omega
 have av:=gW ad;have aX:=gW aV;have aY:=gW aW;have HH:=gW h;have a1:=gW aT;have a2:=gW aU;have a3:=gW hb
 clear ad aV aW hQ hop al h aT aU hb
 go_enter func83,ntmps83
 go_wp2_with (first
  |(refine aD rfl 169 #[(0,.tmp 15),(1,.const (ae aj 1))] rfl (some 16) rfl #[ae .u32 1,ae aj 1] ?_ ?_;focus(simpa[Act.eval]using lV 1 1))
  |(refine aD rfl 169 #[(0,.tmp 18),(1,.const (ae aj 2))] rfl (some 19) rfl #[ae .u32 0,ae aj 2] ?_ ?_;focus(simpa[Act.eval]using lV 0 2))
  |fail)
 refine av.out.mono ?_
 rintro e w1 ⟨rfl,h1,h2,h3⟩
 have aS:=FG w1 S B g Q (K+3) n ((8-(K+3)%8)%8) h1 hn (by omega) rfl
 rw[aX.out,aY.out]at aS
 have aZ:=gW aS;have H2:=gW h2;have H3:=gW h3
 clear aS h1 h2 h3 av
 go_wp2_with fail
 refine aZ.out.mono ?_
 rintro e w2 ⟨rfl,k1,k2,k3⟩
 have K1:=gW k1;have K2:=gW (H2.out.tr k2);have K3:=gW (H3.out.trans k3)
 clear k1 k2 k3
 go_wp2
 go_ret2
 exact⟨none,0,none,0,rfl,⟨fun _=>by show 0<256;omega,fun h=>absurd h (by show¬0<0;omega)⟩,⟨fun _=>by show 0<256;omega,fun h=>absurd h (by show¬0<0;omega)⟩,K1.out,K2.out,K3.out⟩
theorem Ow(w:aq)(S:Nat->Prop)(B g:Nat)(f:Nat->Nat)(K n gc:Nat)(l:List iu)(h:iX w S B g f K)(_:n<=65535)(hK:K<=8388608)(aT:jF w gc 317 (lG l) 159)(_:l.length<=65535)(aU:∀t∈l,iO t=true/\t.x<256)(hb:K+PR (jr K 1 n l false)<=16000000):
  aw prog 83 #[ag (some ⟨g,0,none⟩),ae .u8 1,ai false,ae aj (n:Int),ag (some ⟨gc,0,none⟩)] w (sM S B g f K 1 n l false w):=by
 have ad:=oG w S B g f K [(0,1),(1,2)] 2 rfl #[ae .u32 0,ae aj 1,ae .u32 1,ae aj 2] rfl h (by omega) (fun z hz=>by
  simp only[List.mem_cons,List.not_mem_nil,or_false]at hz;rcases hz with rfl|rfl
  ·exact l7 (by omega) (by omega)
  ·exact l7 (by omega) (by omega)) (by simp[PR];omega)
 have aS:PR [(0,1),(1,2)]=3:=rfl
 rw[aS]at ad
 obtain⟨Q,hQ⟩:=gX (iE f K [(0,1),(1,2)])
 rw[<-hQ]at ad
 have hop:jr K 1 n l false=[(0,1),(1,2)]:=rfl
 have aV:Q=iE f K (jr K 1 n l false):=by rw[hop,hQ]
 have aW:K+3=K+PR (jr K 1 n l false):=by rw[hop,aS]
 have av:=gW ad;have aX:=gW aV;have aY:=gW aW;have HH:=gW h;have a1:=gW aT;have a2:=gW aU;have a3:=gW hb
 clear ad aV aW hQ hop aS h aT aU hb
 go_enter func83,ntmps83
 go_wp2_with (first
  |(refine aD rfl 169 #[(0,.tmp 15),(1,.const (ae aj 1))] rfl (some 16) rfl #[ae .u32 0,ae aj 1] ?_ ?_;focus(simpa[Act.eval]using lV 0 1))
  |(refine aD rfl 169 #[(0,.tmp 18),(1,.const (ae aj 2))] rfl (some 19) rfl #[ae .u32 1,ae aj 2] ?_ ?_;focus(simpa[Act.eval]using lV 1 2))
  |fail)
 refine av.out.mono ?_
 rintro e w1 ⟨rfl,h1,h2,h3⟩
 rw[aX.out,aY.out]at h1
 have H1:=gW h1;have H2:=gW h2;have H3:=gW h3
 have aZ:=gW (EC w1)
 clear h1 h2 h3 av
 go_wp2_with fail
 refine aZ.out.mono ?_
 rintro e w2 ⟨A1,c1,A2,c2,rfl,o1,o2,_,al⟩
 have R1:=gW (iy.iI o1 (fun j=>by have:=sg j;omega));have R2:=gW (iy.iI o2 (fun j=>by have:=sh j;omega));have K1:=gW (H1.out.after al);have K2:=gW (H2.out.tr (iC.below H1.out.top al));have K3:=gW (H3.out.trans (al.mono H1.out.size))
 clear o1 o2 al H1 H2 H3
 go_wp2
 go_ret2
 exact⟨A1,c1,A2,c2,rfl,R1.out,R2.out,K1.out,K2.out,K3.out⟩
theorem Ox(w:aq)(S:Nat->Prop)(B g:Nat)(f:Nat->Nat)(K n gc:Nat)(l:List iu)(h:iX w S B g f K)(_:n<=65535)(hK:K<=8388608)(aT:jF w gc 317 (lG l) 159)(_:l.length<=65535)(aU:∀t∈l,iO t=true/\t.x<256)(hb:K+PR (jr K 1 n l true)<=16000000):
  aw prog 83 #[ag (some ⟨g,0,none⟩),ae .u8 1,ai true,ae aj (n:Int),ag (some ⟨gc,0,none⟩)] w (sM S B g f K 1 n l true w):=by
 have ad:=oG w S B g f K [(1,1),(1,2)] 2 rfl #[ae .u32 1,ae aj 1,ae .u32 1,ae aj 2] rfl h (by omega) (fun z hz=>by
  simp only[List.mem_cons,List.not_mem_nil,or_false]at hz;rcases hz with rfl|rfl
  ·exact l7 (by omega) (by omega)
  ·exact l7 (by omega) (by omega)) (by simp[PR];omega)
 have aS:PR [(1,1),(1,2)]=3:=rfl
 rw[aS]at ad
 obtain⟨Q,hQ⟩:=gX (iE f K [(1,1),(1,2)])
 rw[<-hQ]at ad
 have hop:jr K 1 n l true=[(1,1),(1,2)]:=rfl
 have aV:Q=iE f K (jr K 1 n l true):=by rw[hop,hQ]
 have aW:K+3=K+PR (jr K 1 n l true):=by rw[hop,aS]
 have av:=gW ad;have aX:=gW aV;have aY:=gW aW;have HH:=gW h;have a1:=gW aT;have a2:=gW aU;have a3:=gW hb
 clear ad aV aW hQ hop aS h aT aU hb
 go_enter func83,ntmps83
 go_wp2_with (first
  |(refine aD rfl 169 #[(0,.tmp 15),(1,.const (ae aj 1))] rfl (some 16) rfl #[ae .u32 1,ae aj 1] ?_ ?_;focus(simpa[Act.eval]using lV 1 1))
  |(refine aD rfl 169 #[(0,.tmp 18),(1,.const (ae aj 2))] rfl (some 19) rfl #[ae .u32 1,ae aj 2] ?_ ?_;focus(simpa[Act.eval]using lV 1 2))
  |fail)
 refine av.out.mono ?_
 rintro e w1 ⟨rfl,h1,h2,h3⟩
 rw[aX.out,aY.out]at h1
 have H1:=gW h1;have H2:=gW h2;have H3:=gW h3
 have aZ:=gW (EC w1)
 clear h1 h2 h3 av
 go_wp2_with fail
 refine aZ.out.mono ?_
 rintro e w2 ⟨A1,c1,A2,c2,rfl,o1,o2,_,al⟩
 have R1:=gW (iy.iI o1 (fun j=>by have:=sg j;omega));have R2:=gW (iy.iI o2 (fun j=>by have:=sh j;omega));have K1:=gW (H1.out.after al);have K2:=gW (H2.out.tr (iC.below H1.out.top al));have K3:=gW (H3.out.trans (al.mono H1.out.size))
 clear o1 o2 al H1 H2 H3
 go_wp2
 go_ret2
 exact⟨A1,c1,A2,c2,rfl,R1.out,R2.out,K1.out,K2.out,K3.out⟩
theorem Oy(w:aq)(S:Nat->Prop)(B g:Nat)(f:Nat->Nat)(K n gc:Nat)(l:List iu)(h:iX w S B g f K)(_:n<=65535)(hK:K<=8388608)(aX:S gc)(aY:jF w gc 317 (lG l) 159)(hl:l.length<=65535)(aZ:∀t∈l,iO t=true/\t.x<256)(hb:K+PR (jr K 2 n l false)<=16000000):
  aw prog 83 #[ag (some ⟨g,0,none⟩),ae .u8 2,ai false,ae aj (n:Int),ag (some ⟨gc,0,none⟩)] w (sM S B g f K 2 n l false w):=by
 have ad:=oG w S B g f K [(0,1),(2,2)] 2 rfl #[ae .u32 0,ae aj 1,ae .u32 2,ae aj 2] rfl h (by omega) (fun z hz=>by
  simp only[List.mem_cons,List.not_mem_nil,or_false]at hz;rcases hz with rfl|rfl
  ·exact l7 (by omega) (by omega)
  ·exact l7 (by omega) (by omega)) (by simp[PR];omega)
 have aS:PR [(0,1),(2,2)]=3:=rfl
 rw[aS]at ad
 obtain⟨Q,hQ⟩:=gX (iE f K [(0,1),(2,2)])
 rw[<-hQ]at ad
 have hop:jr K 2 n l false=[(0,1),(2,2)]++lD l:=rfl
 have a1:iE Q (K+3) (lD l)=iE f K (jr K 2 n l false):=by rw[hop,mj,aS,hQ]
 have a2:K+3+PR (lD l)=K+PR (jr K 2 n l false):=by rw[hop,jC,aS];omega
 have aU:=gW ad;have bg:=gW a1;have a3:=gW a2;have HH:=gW h;have bj:=gW aX;have bk:=gW aY;have bl:=gW aZ;have bm:=gW hb
 clear ad a1 a2 hQ hop aS h aY aZ hb aX
 go_enter func83,ntmps83
 go_wp2_with (first
  |(refine aD rfl 169 #[(0,.tmp 15),(1,.const (ae aj 1))] rfl (some 16) rfl #[ae .u32 0,ae aj 1] ?_ ?_;focus(simpa[Act.eval]using lV 0 1))
  |(refine aD rfl 169 #[(0,.tmp 18),(1,.const (ae aj 2))] rfl (some 19) rfl #[ae .u32 2,ae aj 2] ?_ ?_;focus(simpa[Act.eval]using lV 2 2))
  |fail)
 refine aU.out.mono ?_
 rintro e w1 ⟨rfl,h1,h2,h3⟩
 have a4:jF w1 gc 317 (lG l) 159:=(h2 gc bj.out).trans bk.out
 have a5:=FD w1 gc l a4 (by omega) bl.out
 have a6:=gW a5;have H1:=gW h1;have H2:=gW h2;have H3:=gW h3
 clear a5 a4 h1 h2 h3 aU
 go_wp2_with fail
 refine a6.out.mono ?_
 rintro e w2 ⟨A1,c1,A2,c2,rfl,r1,r2,n1,n2,aT⟩
 obtain⟨S2,al⟩:∃S':Nat->Prop,S'=fun j=>S j\/(w1.heap.size<=j/\j<w2.heap.size):=⟨_,rfl⟩
 have av:iX w2 S2 B g Q (K+3):=by rw[al];exact H1.out.grow aT
 have a7:∀j,S j->S2 j:=fun j hj=>by rw[al];exact .inl hj
 have a8:pH S2 A1 (nA l):=fun b o h0 e=>by
  obtain⟨b',o',e',bn,_⟩:=r1.1.2 h0;have aV:=n1 b o e;rw[e]at e';injection e' with e'
  injection e' with e1
  rw[al];exact .inr ⟨aV,by omega⟩
 have a9:pH S2 A2 (nB l):=fun b o h0 e=>by
  obtain⟨b',o',e',bn,_⟩:=r2.1.2 h0;have aV:=n2 b o e;rw[e]at e';injection e' with e'
  injection e' with e1
  rw[al];exact .inr ⟨aV,by omega⟩
 have aW:=FO w2 S2 B g Q (K+3) A1 c1 A2 c2 l av (by omega) r1 r2 (by rw[a3.out];exact bm.out)
 rw[bg.out,a3.out]at aW
 have bp:=gW aW;have R1:=gW r1;have R2:=gW r2;have bq:=gW a8;have br:=gW a9;have bd:=gW a7
 have K2:=gW (H2.out.tr (iC.below H1.out.top aT));have K3:=gW (H3.out.trans (aT.mono H1.out.size))
 clear aW r1 r2 a8 a9 a7 av al n1 n2 aT H1 H2 H3 a6
 go_wp2_with fail
 refine bp.out.mono ?_
 rintro e w3 ⟨rfl,k1,k2,k3⟩
 have K1:=gW (k1.less bd.out);have KP:=gW k2;have K4:=gW (K2.out.tr (k2.less bd.out));have K5:=gW (K3.out.trans k3)
 have bf:=k3.size
 clear k1 k2 k3
 go_wp2
 go_ret2
 exact⟨A1,c1,A2,c2,rfl,R1.out.1.sL KP.out bq.out bf,R2.out.1.sL KP.out br.out bf,K1.out,K4.out,K5.out⟩
theorem Oz(w:aq)(S:Nat->Prop)(B g:Nat)(f:Nat->Nat)(K n gc:Nat)(l:List iu)(h:iX w S B g f K)(_:n<=65535)(hK:K<=8388608)(aX:S gc)(aY:jF w gc 317 (lG l) 159)(hl:l.length<=65535)(aZ:∀t∈l,iO t=true/\t.x<256)(hb:K+PR (jr K 2 n l true)<=16000000):
  aw prog 83 #[ag (some ⟨g,0,none⟩),ae .u8 2,ai true,ae aj (n:Int),ag (some ⟨gc,0,none⟩)] w (sM S B g f K 2 n l true w):=by
 have ad:=oG w S B g f K [(1,1),(2,2)] 2 rfl #[ae .u32 1,ae aj 1,ae .u32 2,ae aj 2] rfl h (by omega) (fun z hz=>by
  simp only[List.mem_cons,List.not_mem_nil,or_false]at hz;rcases hz with rfl|rfl
  ·exact l7 (by omega) (by omega)
  ·exact l7 (by omega) (by omega)) (by simp[PR];omega)
 have aS:PR [(1,1),(2,2)]=3:=rfl
 rw[aS]at ad
 obtain⟨Q,hQ⟩:=gX (iE f K [(1,1),(2,2)])
 rw[<-hQ]at ad
 have hop:jr K 2 n l true=[(1,1),(2,2)]++lD l:=rfl
 have a1:iE Q (K+3) (lD l)=iE f K (jr K 2 n l true):=by rw[hop,mj,aS,hQ]
 have a2:K+3+PR (lD l)=K+PR (jr K 2 n l true):=by rw[hop,jC,aS];omega
 have aU:=gW ad;have bg:=gW a1;have a3:=gW a2;have HH:=gW h;have bj:=gW aX;have bk:=gW aY;have bl:=gW aZ;have bm:=gW hb
 clear ad a1 a2 hQ hop aS h aY aZ hb aX
 go_enter func83,ntmps83
 go_wp2_with (first
  |(refine aD rfl 169 #[(0,.tmp 15),(1,.const (ae aj 1))] rfl (some 16) rfl #[ae .u32 1,ae aj 1] ?_ ?_;focus(simpa[Act.eval]using lV 1 1))
  |(refine aD rfl 169 #[(0,.tmp 18),(1,.const (ae aj 2))] rfl (some 19) rfl #[ae .u32 2,ae aj 2] ?_ ?_;focus(simpa[Act.eval]using lV 2 2))
  |fail)
 refine aU.out.mono ?_
 rintro e w1 ⟨rfl,h1,h2,h3⟩
 have a4:jF w1 gc 317 (lG l) 159:=(h2 gc bj.out).trans bk.out
 have a5:=FD w1 gc l a4 (by omega) bl.out
 have a6:=gW a5;have H1:=gW h1;have H2:=gW h2;have H3:=gW h3
 clear a5 a4 h1 h2 h3 aU
 go_wp2_with fail
 refine a6.out.mono ?_
 rintro e w2 ⟨A1,c1,A2,c2,rfl,r1,r2,n1,n2,aT⟩
 obtain⟨S2,al⟩:∃S':Nat->Prop,S'=fun j=>S j\/(w1.heap.size<=j/\j<w2.heap.size):=⟨_,rfl⟩
 have av:iX w2 S2 B g Q (K+3):=by rw[al];exact H1.out.grow aT
 have a7:∀j,S j->S2 j:=fun j hj=>by rw[al];exact .inl hj
 have a8:pH S2 A1 (nA l):=fun b o h0 e=>by
  obtain⟨b',o',e',bn,_⟩:=r1.1.2 h0;have aV:=n1 b o e;rw[e]at e';injection e' with e'
  injection e' with e1
  rw[al];exact .inr ⟨aV,by omega⟩
 have a9:pH S2 A2 (nB l):=fun b o h0 e=>by
  obtain⟨b',o',e',bn,_⟩:=r2.1.2 h0;have aV:=n2 b o e;rw[e]at e';injection e' with e'
  injection e' with e1
  rw[al];exact .inr ⟨aV,by omega⟩
 have aW:=FO w2 S2 B g Q (K+3) A1 c1 A2 c2 l av (by omega) r1 r2 (by rw[a3.out];exact bm.out)
 rw[bg.out,a3.out]at aW
 have bp:=gW aW;have R1:=gW r1;have R2:=gW r2;have bq:=gW a8;have br:=gW a9;have bd:=gW a7
 have K2:=gW (H2.out.tr (iC.below H1.out.top aT));have K3:=gW (H3.out.trans (aT.mono H1.out.size))
 clear aW r1 r2 a8 a9 a7 av al n1 n2 aT H1 H2 H3 a6
 go_wp2_with fail
 refine bp.out.mono ?_
 rintro e w3 ⟨rfl,k1,k2,k3⟩
 have K1:=gW (k1.less bd.out);have KP:=gW k2;have K4:=gW (K2.out.tr (k2.less bd.out));have K5:=gW (K3.out.trans k3)
 have bf:=k3.size
 clear k1 k2 k3
 go_wp2
 go_ret2
 exact⟨A1,c1,A2,c2,rfl,R1.out.1.sL KP.out bq.out bf,R2.out.1.sL KP.out br.out bf,K1.out,K4.out,K5.out⟩
theorem FQ(w:aq)(S:Nat->Prop)(B g:Nat)(f:Nat->Nat)(K n gc kind:Nat)(l:List iu)(last:Bool)(h:iX w S B g f K)(aS:kind<=2)(hn:n<=65535)(hK:K<=8388608)(av:S gc)(ad:jF w gc 317 (lG l) 159)(hl:l.length<=65535)(al:∀t∈l,iO t=true/\t.x<256)(hb:K+PR (jr K kind n l last)<=16000000):
  aw prog 83 #[ag (some ⟨g,0,none⟩),ae .u8 (kind:Int),ai last,ae aj (n:Int),ag (some ⟨gc,0,none⟩)] w (sM S B g f K kind n l last w):=by
 have hc:kind=0\/kind=1\/kind=2:=by omega
 rcases hc with rfl|rfl|rfl<;>cases last
 ·exact Ou w S B g f K n gc l h hn hK ad hl al hb
 ·exact Ov w S B g f K n gc l h hn hK ad hl al hb
 ·exact Ow w S B g f K n gc l h hn hK ad hl al hb
 ·exact Ox w S B g f K n gc l h hn hK ad hl al hb
 ·exact Oy w S B g f K n gc l h hn hK av ad hl al hb
 ·exact Oz w S B g f K n gc l h hn hK av ad hl al hb
theorem xf(T:Nat->Nat)(f:Nat->Nat)(s d:Nat):∀N,P6 (fun i=>T i+if i=s then d else 0) f N=P6 T f N+if s<N then d*f s else 0
 |0=>by simp[P6]
 |N+1=>by
  have ih:=xf T f s d N;show P6 (fun i=>T i+if i=s then d else 0) f N+(T N+if N=s then d else 0)*f N=P6 T f N+T N*f N+_
  rw[ih,Nat.add_mul];by_cases h:N=s
  ·subst h;rw[if_pos rfl,if_neg (by omega),if_pos (by omega)];omega
  ·rw[if_neg h];by_cases h2:s<N
   ·rw[if_pos h2,if_pos (by omega)];omega
   ·rw[if_neg h2,if_neg (by omega)];omega
theorem uG{T T' f:Nat->Nat}:∀N,(∀i,i<N->T i=T' i)->P6 T f N=P6 T' f N
 |0,_=>rfl
 |N+1,h=>by
  show P6 T f N+T N*f N=P6 T' f N+T' N*f N
  rw[uG N (fun i hi=>h i (by omega)),h N (by omega)]
theorem OC{α:Type}{p:List α->Prop}(h0:p [])(h1:∀l x,p l->p (l++[x]))(l:List α):p l:=by
 have:∀n (l:List α),l.length=n->p l:=by
  intro n;induction n with
  |zero=>intro l h;rw[List.length_eq_zero_iff.1 h];exact h0
  |succ n ih=>
   intro l h;have ad:l≠[]:=by intro e;rw[e]at h;cases h
   rw[<-List.dropLast_concat_getLast ad];exact h1 _ _ (ih _ (by rw[List.length_dropLast];omega))
 exact this _ l rfl
theorem FT(F G:Nat->Nat)(n m N M:Nat)(hN:256<N)(l:List iu):(∀t∈l,iO t=true/\t.x<256/\jU t<N/\(t.n≠0->lK t<M))->
  PR (jM F n G m l)=P6 (jn l) F N+P6 (jg l) G M+l9 l:=by
 refine OC (p:=fun l=>(∀t∈l,iO t=true/\t.x<256/\jU t<N/\(t.n≠0->lK t<M))->PR (jM F n G m l)=P6 (jn l) F N+P6 (jg l) G M+l9 l) ?_ ?_ l
 ·intro _;have e1:P6 (jn []) F N=F 256:=by
   have h:=xf (fun _=>0) F 256 1 N;have h0:∀K,P6 (fun _=>0) F K=0:=by
    intro K;induction K with
    |zero=>rfl
    |succ K ih=>show P6 (fun _=>0) F K+0*F K=0;rw[ih];omega
   rw[h0,if_pos hN,Nat.one_mul,Nat.zero_add]at h;rw[<-h];exact uG N fun i _=>by simp[jn]
  have e2:P6 (jg []) G M=0:=by
   have h0:∀K,P6 (jg []) G K=0:=by
    intro K;induction K with
    |zero=>rfl
    |succ K ih=>show P6 (jg []) G K+jg [] K*G K=0;rw[ih];simp[jg]
   exact h0 M
  rw[e1,e2];simp[jM,PR,jT,l9]
 ·intro l t ih h;have ih:=ih fun u hu=>h u (List.mem_append_left _ hu)
  obtain⟨av,hx,ad,al⟩:=h t (by simp);have e0:PR (jM F n G m (l++[t]))=PR (jM F n G m l)+PR (jD F n G m t):=by
   unfold jM;rw[List.flatMap_append,jC,jC,jC];simp;omega
  have e1:P6 (jn (l++[t])) F N=P6 (jn l) F N+F (jU t):=by
   have h:=xf (jn l) F (jU t) 1 N;rw[if_pos ad,Nat.one_mul]at h;rw[<-h];exact uG N fun i _=>by
    rw[BJ];by_cases e:i=jU t
    ·rw[if_pos e,if_pos e.symm]
    ·rw[if_neg e,if_neg (fun k=>e k.symm)]
  rw[e0,e1,Fw,ih];by_cases h0:t.n=0
  ·have e2:P6 (jg (l++[t])) G M=P6 (jg l) G M:=uG M fun i _=>by rw[vf,if_neg (fun k=>k.1 h0)];rfl
   have e3:jD F n G m t=[jT F n t.x]:=by unfold jD;rw[if_pos h0]
   have e4:oF t=0:=by unfold oF;rw[if_pos h0]
   have e5:jU t=t.x:=by unfold jU;rw[if_pos h0]
   rw[e2,e3,e4,e5];simp[PR,jT];omega
  ·have e2:P6 (jg (l++[t])) G M=P6 (jg l) G M+G (lK t):=by
    have h:=xf (jg l) G (lK t) 1 M;rw[if_pos (al h0),Nat.one_mul]at h;rw[<-h];exact uG M fun i _=>by
     rw[vf];by_cases e:i=lK t
     ·rw[if_pos e,if_pos ⟨h0,e.symm⟩]
     ·rw[if_neg e,if_neg (fun k=>e k.2.symm)]
   have e3:jD F n G m t=[jT F n (jU t),((ll t.n).toNat,(kY t.n).toNat),jT G m (lK t),((lC t.d).toNat,(kZ t.d).toNat)]:=by
    unfold jD jU lK;rw[if_neg h0,if_neg h0]
   have e4:oF t=(kY t.n).toNat+(kZ t.d).toNat:=by unfold oF;rw[if_neg h0]
   rw[e2,e3,e4];simp[PR,jT];omega
theorem OD(k kind n:Nat)(r:Nat->Nat)(l:List iu)(last:Bool)(al:kind<=2)(hl:l.length<=65535)(ad:∀t∈l,iO t=true/\t.x<256):
  PR (iM (k%8) kind n r l last)=PR (jr k kind n l last)+if kind=0 then 8*n else P6 (jn l) (px kind l) (min (mC kind l) 286)+P6 (jg l) (py kind l) (min (mD kind l) 30)+l9 l:=by
 have hc:kind=0\/kind=1\/kind=2:=by omega
 rcases hc with rfl|rfl|rfl
 ·rw[Da,if_pos rfl];have e:jr k 0 n l last=[(if last then 1 else 0,1),(0,2)]++[(0,(8-(k+3)%8)%8),(n,16),(65535-n,16)]:=rfl;rw[e,jC];have e2:PR [((if last then 1 else 0:Nat),1),(0,2)]=3:=rfl;rw[e2];have e3:PR [(0,(8-(k+3)%8)%8),(n,16),(65535-n,16)]=(8-(k+3)%8)%8+32:=by simp[PR]
  rw[e3];unfold kT;omega
 ·rw[if_neg (by omega)];have e:iM (k%8) 1 n r l last=jr k 1 n l last++jM kg 288 lL 32 l:=by
   unfold iM jr;rw[if_pos rfl,if_pos rfl,List.append_nil]
  rw[e,jC];have hm:min (mC 1 l) 286=286:=rfl;have hn:min (mD 1 l) 30=30:=rfl;rw[hm,hn];have:=FT kg lL 288 32 286 30 (by omega) l (fun t ht=>by
   obtain⟨h1,_,h3⟩:=mH (ad t ht).1 (ad t ht).2;exact⟨(ad t ht).1,(ad t ht).2,h1,fun h=>(h3 h).2.2.2⟩)
  show _+PR (jM kg 288 lL 32 l)=_+(P6 (jn l) kg 286+P6 (jg l) lL 30+l9 l)
  rw[this]
 ·rw[if_neg (by omega)];have e:iM (k%8) 2 n r l last=jr k 2 n l last++jM (jA l) (nA l) (jE l) (nB l) l:=by
   unfold iM jr;rw[if_neg (show¬(2:Nat)=1 by omega),if_pos rfl,if_neg (show¬(2:Nat)=1 by omega),if_pos rfl,List.append_assoc]
  rw[e,jC];obtain⟨_,_,_,_,a1,a2,b1,b2,hA,hB⟩:=nc l (by omega);have hm:min (mC 2 l) 286=nA l:=by show min (nA l) 286=nA l;omega
  have hn:min (mD 2 l) 30=nB l:=by show min (nB l) 30=nB l;omega
  rw[hm,hn];have:=FT (jA l) (jE l) (nA l) (nB l) (nA l) (nB l) (by omega) l (fun t ht=>by
   obtain⟨h1,_,h3⟩:=mH (ad t ht).1 (ad t ht).2;exact⟨(ad t ht).1,(ad t ht).2,(hA _ h1 (xT ht)).1,fun h=>(hB _ (h3 h).2.2.2 (xU ht h)).1⟩)
  show _+PR (jM (jA l) (nA l) (jE l) (nB l) l)=_+(P6 (jn l) (jA l) (nA l)+P6 (jg l) (jE l) (nB l)+l9 l)
  rw[this]
theorem OE(k:Int):prog.built 131 [(2,ae aj k)]=some #[af none 0 0,ae .u64 0,ae aj k]:=by kernel_rfl
theorem OF(kind:Nat)(l:List iu)(hl:l.length<=1000000):mC kind l<=288/\mD kind l<=32:=by
 obtain⟨_,_,_,_,a1,a2,b1,b2,_⟩:=nc l hl;unfold mC mD;constructor
 ·split
  ·omega
  ·split<;>omega
 ·split
  ·omega
  ·split<;>omega
theorem OG(w:aq)(a kind n gc:Nat)(r:Nat->Nat)(l:List iu)(ha:a<=7)(aY:kind<=2)(hn:n<=65535)(hr:∀j,r j<256)(aV:jF w gc 317 (lG l) 159)(hl:l.length<=65535)(aS:∀t∈l,iO t=true/\t.x<256):
  aw prog 78 #[ae aj (a:Int),ae .u8 (kind:Int),ae aj (n:Int),ag (some ⟨gc,0,none⟩)] w fun e w'=>e=ao (ae aj ((PR (iM a kind n r l false):Nat):Int))/\aR w.heap.size w w':=by
 have ad:=OD a kind n r l false aY hl aS
 rw[Nat.mod_eq_of_lt (show a<8 by omega)]at ad
 have a7:=ti (a:=a) (last:=false) aY hn hr hl aS
 obtain⟨om,on⟩:=OF kind l (by omega)
 obtain⟨T,hT⟩:=gX (PR (iM a kind n r l false))
 obtain⟨O,hO⟩:=gX (PR (jr a kind n l false))
 rw[<-hT]at ad a7⊢
 rw[<-hO]at ad
 have bA:O<=T:=by omega
 obtain⟨W1,aW⟩:=gX (iP w #[af none 0 0,ae .u64 0,ae aj 0] #[af none 0 0,ae .u64 0,ae aj (a:Int)] 131)
 have b1:aR w.heap.size w W1:=by rw[aW];exact kU _ _ _ _
 have aT:W1.heap[w.heap.size]?=some (ak #[af none 0 0,ae .u64 0,ae aj (a:Int)] 131 (0,0)):=by rw[aW];exact lq w _ _ _
 obtain⟨S,hS⟩:∃S:Nat->Prop,S=fun j=>j<w.heap.size:=⟨_,rfl⟩
 have a8:iX W1 S w.heap.size w.heap.size (fun _=>0) a:=by
  refine⟨⟨fun _=>by show 0<256;omega,fun _ _=>rfl,Nat.two_pow_pos _⟩,none,0,?_⟩;rw[show a/8=0 by omega,Nat.mod_eq_of_lt (show a<8 by omega)];exact⟨Nat.le_refl _,by have:=(Array.getElem?_eq_some_iff.1 aT).1;omega,by rw[hS];omega,aT,World.ownsRow_nil _ _ _ _,fun j h=>by simp[Value.ownBlock]at h,fun j h=>by rw[hS]at h;have:=b1.size;omega⟩
 have aZ:S gc:=by rw[hS];exact aV.lt
 have aU:jF W1 gc 317 (lG l) 159:=aV.below b1 aV.lt
 have hop:=FQ W1 S w.heap.size w.heap.size (fun _=>0) a n gc kind l false a8 aY hn (by omega) aZ aU hl aS (by rw[<-hO];omega)
 have a9:∀j,j<w.heap.size->S j:=fun j hj=>by rw[hS];exact hj
 have bd:=gW hop;have HO:=gW hO;have bf:=gW ad;have bq:=gW aW;have B1:=gW b1;have bg:=gW aU;have br:=gW aZ;have bB:=gW a9;have bt:=gW aS
 clear hop hO ad aW b1 aT a8 aZ aU aV a9 hS hT aS hr
 go_enter func78,ntmps78
 go_wp2_with (first
  |(refine aD rfl 131 #[(2,.tmp 13)] rfl (some 14) rfl #[af none 0 0,ae .u64 0,ae aj (a:Int)] ?_ ?_;focus(simpa[Act.eval]using OE (a:Int)))
  |(refine aC rfl _ _ _ rfl rfl w.heap.size #[af none 0 0,ae .u64 0,ae aj (a:Int)] rfl rfl 131 #[af none 0 0,ae .u64 0,ae aj 0] (aG w _) (rI _ _ _) rfl (by simp[Value.oneCell']) ?_;change wpList _ _ _ _ _ (iP w #[af none 0 0,ae .u64 0,ae aj 0] #[af none 0 0,ae .u64 0,ae aj (a:Int)] 131);rw[<-bq.out])
  |fail)
 refine bd.out.mono ?_
 rintro e w2 ⟨A1,c1,A2,c2,rfl,a1,a2,al,bj,bk⟩
 rw[<-HO.out]at al
 have bl:=xd w2 S w.heap.size w.heap.size _ (a+O) al (by omega)
 have a3:=gW bl
 have aX:jF w2 gc 317 (lG l) 159:=(bj gc br.out).trans bg.out
 obtain⟨M,hM⟩:=gX (mC kind l)
 obtain⟨N,hN⟩:=gX (mD kind l)
 rw[<-hM]at a1 om⊢
 rw[<-hN]at a2 on⊢
 have ad:=bf.out
 rw[<-hM,<-hN]at ad
 have a4:=NJ w2.drew gc l aX.drew (by omega) bt.out A1 M c1 (px kind l) A2 N c2 (py kind l) a1 a2 _ _ rfl rfl
 obtain⟨C,hC⟩:=gX (P6 (jn l) (px kind l) (min M 286)+P6 (jg l) (py kind l) (min N 30)+l9 l)
 rw[<-hC]at a4 ad
 have bm:=gW a4
 have a5:=gW (show aR w.heap.size w w2 from B1.out.trans bk)
 have av:=gW ad
 clear bl al a1 a2 aX hM hN hC a4 bj bk bd bf ad
 go_wp2_with fail
 refine a3.out.mono ?_
 rintro e w3 ⟨rfl,rfl⟩
 have eO:((a+O:Nat):Int)-(a:Int)=(O:Int):=by omega
 by_cases bn:kind=0
 ·subst bn;have a6:T=O+8*n:=by rw[av.out,if_pos rfl]
  clear av bm a3;subst a6;have bu:(a:Int)+(O:Int)-(a:Int)=(O:Int):=by omega
  go_wp2;go_ret;exact⟨by first|rfl|go_num,a5.out.drew⟩
 ·have bC:((kind:Int)==0)=false:=by rw[beq_eq_false_iff_ne];omega
  have a6:T=O+C:=by rw[av.out,if_neg bn]
  clear av a3;subst a6;have bu:(a:Int)+(O:Int)-(a:Int)=(O:Int):=by omega
  go_wp2_with fail
  refine bm.out.mono ?_;rintro e w4 ⟨rfl,bp⟩;have bz:=gW (a5.out.drew.trans (bp.mono a5.out.drew.size));clear bp;go_wp2;go_ret;exact⟨by first|rfl|go_num,bz.out⟩
theorem OH:KR:=by
 intro w a A1 rn rc r A2 m c2 l bU bV aS bH bI bg aT;obtain⟨hm,ad,_⟩:=bI;obtain⟨V,hV⟩:=gX (vD a rn r l);obtain⟨E,hE⟩:=gX (rr a rn l);rw[<-hV,<-hE];have al:V=if E=0 then qy a.toNat rn r l else 0:=by rw[hV,hE];rfl
 clear hV;have bj:=gW (Below.refl w.heap.size w);by_cases y0:a<0
 ·have d0:decide (a<0)=true:=oM y0;obtain rfl:E=2:=by rw[hE];unfold rr tj;rw[if_pos (.inl y0)]
  obtain rfl:V=0:=by rw[al,if_neg (by omega)]
  clear aS ad aT hE al;go_enter func61,ntmps61
  go_wp2;go_ret2;exact⟨rfl,bj.out⟩
 have d0:decide (a<0)=false:=ni y0;by_cases y1:7<a
 ·have d1:decide (7<a)=true:=oM y1;obtain rfl:E=2:=by rw[hE];unfold rr tj;rw[if_pos (.inr y1)]
  obtain rfl:V=0:=by rw[al,if_neg (by omega)]
  clear aS ad aT hE al;go_enter func61,ntmps61
  go_wp2;go_ret2;exact⟨rfl,bj.out⟩
 have d1:decide (7<a)=false:=ni y1;have aX:E=m9 0 rn l:=by rw[hE];unfold rr tj;rw[if_neg (by omega)]
 clear hE;obtain⟨p,rfl⟩:=Int.eq_ofNat_of_zero_le (show 0<=a by omega);have aY:=FE w 0 A1 rn rc A2 m c2 l (by omega) hm ad bg bH aT;rw[<-aX]at aY;have a9:=gW aY;by_cases he:E=0
 ·subst he;obtain⟨_,n2,l2,a6⟩:=CR aX.symm;have aZ:∀t∈l,iO t=true/\t.x<256:=fun t ht=>⟨a6 t ht,(aT t ht).1⟩
  rw[if_pos rfl,Int.toNat_natCast]at al;have bJ:p<=7:=by omega
  obtain⟨f,hf⟩:∃f:Nat->Nat,f=fun k=>PR (iM p k rn r l false):=⟨_,rfl⟩
  have bk:V=shF f 2:=by rw[al,hf];rfl
  have aV:∀(U:aq) (gc k:Nat),k<=2->jF U gc 317 (lG l) 159->aw prog 78 #[ae aj (p:Int),ae .u8 (k:Int),ae aj (rn:Int),ag (some ⟨gc,0,none⟩)] U fun e w'=>e=ao (ae aj ((f k:Nat):Int))/\aR U.heap.size U w':=fun U gc k hk hg=>by
   rw[hf];exact OG U p k rn gc r l bJ hk n2 aS.1.1 hg l2 aZ
  have bl:∀k,k<=2->f k<=4320000:=fun k hk=>by rw[hf];exact ti hk n2 aS.1.1 l2 aZ
  have bK:=gW aZ;have bL:=gW bk;have bM:=gW ad;have HM:=gW hm;have aW:=gW aV;have bm:=gW bl
  clear aY aX aZ al ad hm aS aT a6 hf bk aV bl;go_enter func61,ntmps61
  go_wp2_with fail
  refine a9.out.mono ?_;rintro e w1 ⟨rfl,av⟩;have bn:=Fz w1 A2 m c2 l HM.out ((bM.out.below av gY).more av.size) bg bK.out;have bp:=gW bn;have a1:=gW av
  clear bn av a9;go_wp2_with fail
  refine bp.out.mono ?_;rintro e w2 ⟨rfl,hg,bq⟩;have aU:=aW.out w2 w1.heap.size 0 (by omega) hg;have a2:=gW aU;have br:=gW (a1.out.trans (bq.mono a1.out.size));have bd:=gW hg
  clear aU bq hg bp;go_wp2_with fail
  refine a2.out.mono ?_;rintro e w3 ⟨rfl,bf⟩;have bt:=gW (br.out.trans (bf.mono br.out.size));have a3:=gW (bd.out.below bf bd.out.lt)
  clear bf a2 bd;obtain⟨gc,a7⟩:=gX (w1.heap.size);rw[<-a7]at a3⊢;clear a7;obtain⟨W4,a4⟩:=gX (w3.alloc (ak #[ae .u8 1,ae .u8 2] 5));have b4:aR w3.heap.size w3 W4:=by rw[a4];exact ix.alloc gY _
  have a8:W4.heap[w3.heap.size]?=some (ak #[ae .u8 1,ae .u8 2] 5 (0,0)):=by rw[a4];exact aG w3 _
  have bN:=gW a4;have bu:=gW (a3.out.below b4 a3.out.lt);have bz:=gW (bt.out.trans (b4.mono bt.out.size));have HN:=gW a8
  clear a4 b4 a8 a3;go_wp2_with (first|rw[<-bN.out]|fail)
  go_loopw [10,11,36] (fun kv nv iv wr=>∃(i s:Nat),i<=2/\s<=2/\aQ (s=shF f i)/\kv=ae .u8 (s:Int)/\nv=ae aj ((f s:Nat):Int)/\iv=ae aj (i:Int)/\aQ (aR W4.heap.size W4 wr)) (fun _ _ iv _=>2-(aP iv).toNat)
  case atStart=>exact⟨0,0,by omega,by omega,gW rfl,rfl,rfl,rfl,gW ix⟩
  case round=>
   obtain⟨i,s,hi,bA,HS,rfl,rfl,rfl,HB⟩:=hrel;have bB:w3.heap.size<W4.heap.size:=(Array.getElem?_eq_some_iff.1 HN.out).1;by_cases bW:i<2
   ·have bC:(i:Int)<2:=by omega
    have bO:wr.cell? ⟨w3.heap.size,i,none⟩=some (ae .u8 ((i+1:Nat):Int)):=by
     rw[HB.out.cell (p:=⟨w3.heap.size,i,none⟩) bB,aH W4 w3.heap.size i _ _ (0,0) HN.out];rcases i with _|_|i
     ·rfl
     ·rfl
     ·omega
    obtain⟨j,hj⟩:=gX (i+1);rw[<-hj]at bO;have a5:shF f j=if f j<f s then j else s:=by rw[hj,HS.out];rfl
    have aU:=aW.out wr gc j (by omega) (bu.out.below HB.out bu.out.lt);have bP:=bm.out j (by omega);have bQ:=bm.out s bA;obtain⟨x,hx⟩:=gX (f j);obtain⟨y,hy⟩:=gX (f s);rw[<-hx]at aU bP a5;rw[<-hy]at bQ a5⊢;have a2:=gW aU;have bD:=gW a5;have HX:=gW hx;have HY:=gW hy;have HJ:=gW hj
    have bR:j<=2:=by omega
    clear aU a5 hx hy hj;go_wp2_with fail
    refine a2.out.mono ?_;rintro e w5 ⟨rfl,bE⟩;have bF:=gW (HB.out.trans (bE.mono HB.out.size));clear bE;by_cases bG:x<y
    ·have bS:(x:Int)<(y:Int):=by omega
     go_wp2;go_roundw
     case rel=>exact⟨i+1,j,by omega,bR,gW (by rw[<-HJ.out,bD.out,if_pos bG]),rfl,by rw[HX.out],by go_num,bF⟩
     case measure=>simp[aP];omega
    ·have bS:¬(x:Int)<(y:Int):=by omega
     go_wp2;go_roundw
     case rel=>exact⟨i+1,s,by omega,bA,gW (by rw[<-HJ.out,bD.out,if_neg bG]),rfl,by rw[HY.out],by go_num,bF⟩
     case measure=>simp[aP];omega
   ·obtain rfl:i=2:=by omega
    have bC:¬((2:Nat):Int)<2:=by omega
    obtain rfl:s=V:=by rw[HS.out,bL.out]
    have bT:=gW (bz.out.trans (HB.out.mono bz.out.size));go_wp2;go_ret2;exact⟨rfl,bT.out⟩
 ·obtain rfl:V=0:=by rw[al,if_neg he]
  have bX:(E==0)=false:=by rw[beq_eq_false_iff_ne];exact he
  clear aY aX al ad hm aS aT;go_enter func61,ntmps61
  go_wp2_with fail
  refine a9.out.mono ?_;rintro e w1 ⟨rfl,av⟩;have a1:=gW av;clear av;go_wp2;go_ret2;exact⟨rfl,a1.out⟩
end Go.Proofs.YtokpcpjnihinfaaGreat
