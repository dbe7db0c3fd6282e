/-
  Words and walks.
-/
import Derived.IntWalk
import Derived.Deep.RegionWith
import Derived.Test.YtokpcpjnihinfaaGreatqeaa
import Derived.Test.YtokpcpjnihinfaaGreatqeab
import Derived.Test.YtokpcpjnihinfaaGreatqeac
import Derived.Test.YtokpcpjnihinfaaGreatqeaf
import Derived.Test.YtokpcpjnihinfaaGreatqeai
set_option maxRecDepth 100000
set_option maxHeartbeats 16000000
namespace Go.Proofs.YtokpcpjnihinfaaGreat
open Value renaming int → ae, slice → af, pointer → ag, agg → ah, bool → ai
open IntKind renaming i64 → aj
open Obj renaming cells → ak
open Ending renaming returned → ao
open Go renaming World → aq, Addr → au, Calls → aw, Value → ax, TypeId → aB, wpList_store_rowTo → aC, wpList_buildTo → aD, wpList_load_row → aE, wpList_load_mid → aF, heap_alloc_new → aG, cell_of_row → aH, setRow_heap → aI, bodyPost_ret → aK, frozen_of_row → aO
open Go.RowKit renaming intOf → aP, Hid → aQ, Below → aR
open _root_.Go.Proofs.Tryz
open Go.RowKit Go.ChangeShapes Go.WideShapes Go.ChangeAt Go.Joins
theorem Fc{w:aq}{base n c:Nat}{A:Option au}{xs:List ax}(h:w.ownsRow base 5 1 (af A n c) n xs):kG w base A n:=fun h0=>by
 rcases h.2 with⟨_,h1⟩|⟨g,cap,cur,hv,hg,hh,_⟩
 ·omega
 ·injection hv with hv;exact⟨g,0,cur,hv,hg,hh⟩
theorem Fe(w:aq)(S:Nat->Prop)(B g:Nat)(f:Nat->Nat)(K:Nat)(h:ic w S B g f K)(hK:K<=16000000):
  aw prog 88 #[ag (some ⟨g,0,none⟩)] w fun e w'=>∃A' c' L,L=(K+7)/8/\e=ao (ah #[af A' L c',ae aj (K:Int)])/\w'.ownsRow B 5 1 (af A' L c') L (gD L f)/\aR B w w':=by
 obtain⟨W1,aW⟩:=fY (w.alloc (ak #[af none 0 0,ae aj 0] 30))
 obtain⟨x,hx⟩:=fY (w.heap.size)
 have b1:aR w.heap.size w W1:=by rw[aW];exact gC.alloc fZ _
 have x1:W1.heap[x]?=some (ak #[af none 0 0,ae aj 0] 30 (0,0)):=by rw[aW,hx];exact aG w _
 have r1:=h.after b1
 have bG:g<x:=by rw[hx];exact h.lt
 have bk:B<=x:=by rw[hx];exact h.size
 have bD:x<W1.heap.size:=(Array.getElem?_eq_some_iff.1 x1).1
 have bl:=b1.mono h.size
 have bd:aR W1.heap.size W1 W1.drew:=gC.drew
 have aX:=h.1
 clear h
 obtain⟨_,A,c,hq⟩:=r1
 obtain⟨z0,z1,z2,e0,e1,e2⟩:=hq.cells
 have r1:ic W1 S B g f K:=⟨aX,A,c,hq⟩
 have bm:=fun(V:aq) (hV:aR W1.heap.size W1 V)=>we V S B g f K (r1.after hV) hK
 obtain⟨L,hL⟩:=fY (K/8)
 obtain⟨q,aY⟩:=fY (K%8)
 obtain⟨R,hR⟩:=fY (f L)
 rw[<-hL,<-hR,<-aY]at hq
 rw[<-hL]at z0;rw[<-hL,<-hR]at z1;rw[<-aY]at z2
 have bH:L<=2000000:=by omega
 have bI:q<8:=by omega
 have bJ:R<256:=by rw[hR];exact aX.1 L
 have bn:=fX bm;have HQ:=fX hq;have HL:=fX hL;have bp:=fX aY;have HR:=fX hR;have bq:=fX x1;have br:=fX bl;have bE:=fX aW;have HX:=fX hx;have bK:=fX aX
 have bL:g<W1.heap.size:=by omega
 clear bm hq hL aY hR x1 bl b1 aW hx r1 aX
 go_enter func88,ntmps88
 go_wp2_with (first|rw[<-bE.out,<-HX.out]|fail)
 go_cut [3] (fun v3 wx=>∃X,v3=ag (some ⟨X,0,none⟩)/\wx.heap[X]?=some (ak #[af A L c,ae aj (K:Int)] 30 (0,0))/\W1.heap.size<=X/\aR W1.heap.size W1 wx)
 case first=>
  go_region_law ((refine xo rfl 87 _ _ rfl (enters_of func87 (by kernel_rfl) rfl) (#[ag (some ⟨g,0,none⟩)]) (by simp[Act.put,Act.eval,List.setIfInBounds_toArray,List.set_cons_zero,List.set_cons_succ]) (bn.out _ (by first|exact bd|exact bd.alloc fZ _|exact((Below.refl W1.heap.size W1).alloc fZ _).drew)) ?_;rintro e w6 ⟨rfl,rfl⟩;refine⟨_,rfl,?_⟩))
  all_goals(
   go_wp2_with fail
   go_meet;exact⟨_,rfl,aG W1 _,Nat.le_refl _,(gC.alloc fZ _).drew.drew⟩)
 case rest=>
  obtain⟨X,rfl,hx,bt,hb⟩:=hcut;obtain⟨wx,rfl⟩:∃wx:aq,wx=wc:=⟨_,rfl⟩;have ad:=HQ.out.after hb;have av:=(hb.block x bD).trans bq.out;have bM:x<X:=by omega
  have bN:g<X:=by omega
  have bF:X<wx.heap.size:=(Array.getElem?_eq_some_iff.1 hx).1;have aZ:=br.out.trans (hb.mono (by omega));have bO:g<wx.heap.size:=by omega
  clear z0 z1 z2 e0 e1 e2 bd bn HQ bq br hb;obtain⟨z0,z1,z2,e0,e1,e2⟩:=ad.cells;have bP:=ad.base;have al:∀(V:aq),V.ownsRow B 5 1 (af A L c) L (gD L f)->V.ownsRow B 5 1 (af A L c) L (gD L f):=fun _ h=>h
  by_cases bQ:0<q
  ·have dq:decide (0<(q:Int))=true:=mT (by omega);have k0:wx.cell? ⟨X,0,none⟩=some (af A L c):=(aH wx X 0 _ _ (0,0) hx).trans rfl;have m0:=aO wx X 0 _ _ hx;obtain⟨A',c',w',bu,a4,bx,a5,_⟩:=DU wx.drew B A L c f ad.drew.own R HR.out (by omega) ad.size;have bz:(Value.slice A L c).ownBlock≠some X:=oG ad.own hx (by kernel_rfl);have aS:=(a5 X bF bz).trans hx;have bR:w'.frozen? ⟨X,0,none⟩=false:=aO w' X 0 _ _ aS;have bS:w'.cell? ⟨X,0,none⟩=some (af A L c):=(aH w' X 0 _ _ (0,0) aS).trans rfl;have a1:(Value.slice A L c).ownBlock≠some x:=oG ad.own av (by kernel_rfl);have a2:=(a5 x (by have:x<wx.heap.size:=(by omega);exact this) a1).trans av;have a3:(Value.slice A' (L+1) c').ownBlock≠some X:=oG a4 aS (by kernel_rfl);obtain⟨U,hU⟩:=fY (w'.setCell ⟨X,0,none⟩ (af A' (L+1) c'));have bA:U.heap[X]?=some (ak #[af A' (L+1) c',ae aj (K:Int)] 30 (0,0)):=by rw[hU];exact(heap_setCell_same w' X 0 _ _ _ aS).trans (by simp)
   have a6:U.heap[x]?=some (ak #[af none 0 0,ae aj 0] 30 (0,0)):=by rw[hU];exact(Below.heap_setCell w' _ _ x (by show x≠X;omega)).trans a2
   have a7:U.ownsRow B 5 1 (af A' (L+1) c') (L+1) (gD (L+1) f):=by rw[hU];exact mq a4 fun j hj=>Below.heap_setCell w' _ _ j (fun e=>a3 (hj.trans (congrArg some e)))
   have bB:aR B w U:=by rw[hU];exact(aZ.drew.trans bx).setCell (by show B<=X;omega) _
   have aT:∀j,(Value.slice A' (L+1) c').ownBlock=some j->j≠x:=fun j hj e=>oG a7 a6 (by kernel_rfl) (hj.trans (congrArg some e))
   have bT:IntKind.u8.wrap (R:Int)=(R:Int):=by rw[IntKind.wrap_u8];omega
   have bU:(R:Int)%256=(R:Int):=by omega
   have aU:L+1=(K+7)/8:=by have:=HL.out;have:=bp.out;omega
   have bC:=fX bu;have a8:=fX bA;have aV:=fX a6;have a9:=fX a7;have bf:=fX bB;have HU:=fX hU;have bg:=fX aT;have bj:=fX aU
   clear bu a4 bx a5 bz aS a1 a2 a3 bA a6 a7 bB hU aT hx av ad aZ al bt aU;go_wp2;go_region_law ((refine sh rfl (.tmp 17) (.tmp 23) 22 22 rfl (af A L c) (af (some ⟨wx.heap.size,0,none⟩) 1 1) rfl rfl (af A' (L+1) c') w' bC.out ?_))
   all_goals(
    rw[<-HU.out];go_wp2_with (first
     |(refine aE rfl _ _ rfl X rfl _ #[af A' (L+1) c',ae aj (K:Int)] (0,0) _ a8.out underlying30 rfl lq ?_)
     |(refine aC rfl _ _ _ rfl rfl x #[af A' (L+1) c',ae aj (K:Int)] rfl rfl 30 #[af none 0 0,ae aj 0] aV.out lq rfl (by simp[Value.oneCell']) ?_)
     |fail)
    refine aK (v:=ah #[af A' (L+1) c',ae aj (K:Int)]) ?_ rfl ⟨A',c',L+1,bj.out,rfl,mq a9.out fun j hj=>setRow_other _ _ _ _ (bg.out j hj),pH bf.out bk _⟩;exact results_cell_row rfl _ _ x _ _ (0,0) _ rfl (aI _ _ _ _ _ _ aV.out) underlying30 rfl lq)
  ·obtain rfl:q=0:=by omega
   have dq:decide (0<((0:Nat):Int))=false:=lW (by omega);have aT:∀j,(Value.slice A L c).ownBlock=some j->j≠x:=fun j hj e=>oG ad.own av (by kernel_rfl) (hj.trans (congrArg some e))
   have aU:L=(K+7)/8:=by have:=HL.out;have:=bp.out;omega
   have a8:=fX hx;have aV:=fX av;have a9:=fX ad.own;have bf:=fX aZ;have bg:=fX aT;have bj:=fX aU
   clear aT hx av ad aZ al bt aU;go_wp2_with (first
    |(refine aE rfl _ _ rfl X rfl _ #[af A L c,ae aj (K:Int)] (0,0) _ a8.out underlying30 rfl lq ?_)
    |(refine aC rfl _ _ _ rfl rfl x #[af A L c,ae aj (K:Int)] rfl rfl 30 #[af none 0 0,ae aj 0] aV.out lq rfl (by simp[Value.oneCell']) ?_)
    |fail)
   refine aK (v:=ah #[af A L c,ae aj (K:Int)]) ?_ rfl ⟨A,c,L,bj.out,rfl,mq a9.out fun j hj=>setRow_other _ _ _ _ (bg.out j hj),pH bf.out bk _⟩;exact results_cell_row rfl _ _ x _ _ (0,0) _ rfl (aI _ _ _ _ _ _ aV.out) underlying30 rfl lq
def qi(t:Nat->Nat)(k m:Nat):Nat:=if m<k then l4 t m else t m
theorem NJ(t:Nat->Nat)(k:Nat):gL (qi t k) k (l4 t k)=qi t (k+1):=by
 funext m;unfold gL qi;by_cases e:m=k
 ·subst e;rw[if_pos rfl,if_pos (by omega)]
 ·rw[if_neg e];by_cases h:m<k
  ·rw[if_pos h,if_pos (by omega)]
  ·rw[if_neg h,if_neg (by omega)]
theorem NK(t:Nat->Nat)(k:Nat):qi t k k=t k:=by unfold qi;rw[if_neg (by omega)]
theorem NL(t:Nat->Nat):qi t 0=t:=by funext m;unfold qi;rw[if_neg (by omega)]
theorem NN(w:aq)(b:Nat)(t:Nat->Nat)(ht:∀m,t m<=1000)(h:ja w b t):
  aw prog 139 #[ag (some ⟨b,0,none⟩)] w fun e w'=>e=ao (.tuple #[])/\aR b w w'/\ja w' b (l4 t):=by
 have HT:=fX ht
 rw[<-NL t]at h
 have H0:=fX h
 clear ht h
 go_enter func139,ntmps139
 go_wp2
 go_loopw [2,6] (fun l i wr=>∃k:Nat,k<=16/\i=ae aj k/\l=ae aj (l4 t k:Nat)/\ja wr b (qi t k)/\aR b w wr) (fun _ i _=>16-(aP i).toNat)
 case atStart=>exact⟨0,by omega,rfl,rfl,H0.out,Below.refl _ _⟩
 case round=>
  obtain⟨k,hk,rfl,rfl,ht,hb⟩:=hrel;have hm:=HT.out k;have aS:=Kz HT.out hk;have HS:=fX (show l4 t (k+1)=2*(l4 t k+t k)from rfl);have al:=fX (NJ t k);obtain⟨p,hp⟩:=fY (l4 t k);have HP:=fX hp;rw[<-hp]at aS HS al⊢;clear hp;by_cases av:k<16
  ·have c1:=ht.cell av;have f1:=ht.frozen k;rw[NK]at c1;have H1:=fX ht;have HB:=fX hb
   clear ht hb;go_wp2;go_quiet (fail)
   go_wp2;go_roundw
   case rel=>
    have ad:=H1.out.set k p;rw[al.out]at ad;exact⟨k+1,by omega,by go_num,kJ (by rw[HS.out];omega),ad,(Hu HB.out _).setCell (by simp) _⟩
   case measure=>simp[aP];omega
  ·obtain rfl:k=16:=by omega
   have H1:=fX ht;have HB:=fX hb
   clear ht hb av hk;go_wp2;go_end0;exact⟨rfl,HB.out,H1.out.ext fun i hi=>by unfold qi;rw[if_pos hi]⟩
theorem NO(w:aq)(b m:Nat)(t:Nat->Nat)(hm:m<16)(ht:t m<4294967296)(h:ja w b t):
  aw prog 140 #[ag (some ⟨b,0,none⟩),ae .u8 (m:Int)] w fun e w'=>e=ao (ah #[ae .u32 (t m:Nat),ae .u8 (m:Int)])/\aR w.heap.size (w.setCell ⟨b,m,none⟩ (ae aj ((t m+1:Nat):Int))) w':=by
 have c1:=h.cell hm
 have f1:=h.frozen m
 have aS:=h.lt
 have H:=fX h
 obtain⟨x,hx⟩:=fY (t m)
 rw[<-hx]at c1 ht⊢
 have HX:=fX hx
 clear h hx
 go_enter func140,ntmps140
 go_wp2
 have g1:IntKind.i64.wrap ((x:Int)+1)=((x+1:Nat):Int):=by rw[IntWalk.i64_in _ ⟨by omega,by omega⟩];rfl
 refine wp_region_still_tail 8 (by kernel_rfl) (by kernel_rfl) ?_
 simp only[List.take_succ_cons,List.take_zero,List.drop_succ_cons,List.drop_zero]
 change wpStill _ _ (World.drew _) (fun a'=>wpList _ _ _ _ a' (World.drew _)) _ _
 have ad:(m:Int)<16:=by omega
 have al:¬(m:Int)<0:=by omega
 have av:¬(16:Int)<=m:=by omega
 repeat still_step
 refine wpStill_nil ?_
 clear ad al av
 go_wp2
 clear g1
 have hb:aR w.heap.size (w.setCell ⟨b,m,none⟩ (ae aj ((x:Int)+1))) (w.setCell ⟨b,m,none⟩ (ae aj ((x:Int)+1))):=Below.refl _ _
 have hs:(w.setCell ⟨b,m,none⟩ (ae aj ((x:Int)+1))).heap.size=w.heap.size:=by simp[World.setCell]
 exact aK (v:=ah #[ae .u32 (x:Int),ae .u8 (m:Int)]) (by simp[results,Tryz.results140,go_sem]) rfl ⟨rfl,((hb.alloc (by omega) _).alloc (by rw[World.size_alloc];omega) _).drew⟩
theorem NP(w:aq)(A:Option au)(n c:Nat)(f:Nat->Nat)(gy:Int)(hr:gE w w.heap.size A n f)(hn:n<=1000000):
  aw prog 137 #[af A n c,ae aj gy] w fun e w'=>e=ao (ae aj (jP f n gy))/\aR w.heap.size w w':=by
 unfold jP
 by_cases h1:gy<1\/15<gy
 ·rw[if_pos h1];exact(KQ w A n c gy h1).mono fun _ _ ⟨he,hw⟩=>⟨he,hw▸Below.refl _ _⟩
 ·rw[if_neg h1];by_cases h2:320<n
  ·rw[if_pos h2];exact(KR w A n c gy (by omega) (by omega) h2).mono fun _ _ ⟨he,hw⟩=>⟨he,hw▸Below.refl _ _⟩
  ·rw[if_neg h2];exact KS w A n c f gy hr (by omega) (by omega) (by omega)
def qj(f:Nat->Nat)(n k j:Nat):Nat:=if j<k then iO f n j else 0
def qk(f:Nat->Nat)(k j:Nat):Nat:=if j<k then f j else 0
theorem Ff(f:Nat->Nat)(n k:Nat):gL (qj f n k) k (iO f n k)=qj f n (k+1)/\gL (qk f k) k (f k)=qk f (k+1):=by
 constructor
 ·funext j;unfold gL qj;by_cases e:j=k
  ·subst e;rw[if_pos rfl,if_pos (by omega)]
  ·rw[if_neg e];by_cases h:j<k
   ·rw[if_pos h,if_pos (by omega)]
   ·rw[if_neg h,if_neg (by omega)]
 ·funext j;unfold gL qk;by_cases e:j=k
  ·subst e;rw[if_pos rfl,if_pos (by omega)]
  ·rw[if_neg e];by_cases h:j<k
   ·rw[if_pos h,if_pos (by omega)]
   ·rw[if_neg h,if_neg (by omega)]
theorem NQ{f:Nat->Nat}{k:Nat}(n:Nat)(h:f k=0):qj f n k=qj f n (k+1)/\qk f k=qk f (k+1):=by
 have hc:iO f n k=0:=by unfold iO;rw[if_pos h]
 constructor
 ·funext j;unfold qj;by_cases e:j=k
  ·subst e;rw[if_neg (by omega),if_pos (by omega),hc]
  ·by_cases h:j<k
   ·rw[if_pos h,if_pos (by omega)]
   ·rw[if_neg h,if_neg (by omega)]
 ·funext j;unfold qk;by_cases e:j=k
  ·subst e;rw[if_neg (by omega),if_pos (by omega),h]
  ·by_cases h:j<k
   ·rw[if_pos h,if_pos (by omega)]
   ·rw[if_neg h,if_neg (by omega)]
theorem NS(w:aq)(A:Option au)(n c:Nat)(f:Nat->Nat)(gy:Int)(hr:gE w w.heap.size A n f)(hn:n<=1000000):
  aw prog 110 #[af A n c,ae aj gy] w fun e w'=>∃A' c',e=ao (.tuple #[af A' (qs f n gy) c',ae aj (jP f n gy)])/\aR w.heap.size w w'/\Hv w.heap.size w' A' (qs f n gy) (wV f n gy) f:=by
 have HR:=fX hr
 clear hr
 have aU:=NP w A n c f gy HR.out hn
 by_cases h0:jP f n gy=0
 ·obtain⟨_,bL,bM,hb,ha,_⟩:=tc h0;have bg:=fX (show∀j,j<n->f j<=15 from fun j hj=>by have:=hb j hj;omega);have HA:=fX ha;have H0:=fX h0;have hl:qs f n gy=n:=by unfold qs;rw[if_pos h0]
  rw[h0]at aU;have a2:=fX aU;rw[hl,h0];obtain⟨i0,hi,aV,bj,bk⟩:=info_parts B9;have bA:∀u:aq,(Instr.makeSlice 137 (ae aj (n:Int)) (ae aj (n:Int))).run prog u=
    .ok (af (some ⟨u.heap.size,0,none⟩) n n) (u.alloc (ak (madeCells #[ae .u32 0,ae .u8 0] (n*2)) 176)):=fun u=>by
   have h:=run_make (P:=prog) u 137 176 i0 (ah #[ae .u32 0,ae .u8 0]) underlying137 hi aV aj aj (n:Int) (n:Int) (by omega) (Int.le_refl _) (by rw[bk];omega) (by omega)
   rw[Int.toNat_natCast]at h
   simpa[bj,Value.cells]using h
  have hz:=(zero_of_info yt).1;clear aU hb ha hl h0 hi aV bj bk;go_enter func110,ntmps110
  go_wp2_with fail
  refine a2.out.mono ?_;rintro e w1 ⟨rfl,hb⟩;have HB:=fX hb;have bl:=fX ((HR.out.below hb fZ).more hb.size);clear hb;go_wp2_with fail
  refine(DE w1 A n c f bl.out hn bg.out).mono ?_;rintro e w2 ⟨rfl,hb⟩;have aW:=fX (HB.out.trans (hb.mono HB.out.size));have bB:=fX ((bl.out.below hb fZ).more hb.size);clear hb;have bm:ja (w2.alloc (ak (ia lp) 211)) w2.heap.size lp:=aG w2 _;have a3:=fX bm;clear bm;go_wp2_with (refine DD rfl _ _ _ rfl w2.heap.size (ia fun m=>tcN f m n) rfl rfl _ (ia lp) a3.out (by rw[nc];exact pD) (by rw[nc,nc]) (DC _) ?_)
  have av:=a3.out.setRow (h:=fun m=>tcN f m n);have aX:=yu ((aW.out.alloc aW.out.size (ak (ia lp) 211))) (g:=w2.heap.size) aW.out.size (ia fun m=>tcN f m n);have aY:=(bB.out.below (yu ((Below.refl w2.heap.size w2).alloc fZ (ak (ia lp) 211)) (g:=w2.heap.size) fZ (ia fun m=>tcN f m n)) fZ);have a4:=aW.out.size;obtain⟨b,bn⟩:=fY (w2.heap.size);rw[<-bn]at av aX aY a4⊢;generalize (w2.alloc (ak (ia lp) 211)).setRow b (ia fun m=>tcN f m n)=w3 at av aX aY⊢;have a5:=fX av;have bC:=fX aX;have bD:=fX aY;clear av aX aY bn a3;refine(NN w3 b _ (fun m=>Nat.le_trans (vA f m n) (by omega)) a5.out).mono ?_;rintro e w4 ⟨rfl,hb,ht⟩;rw[KE]at ht;have bp:=fX (bC.out.trans (hb.mono a4));have bE:=fX (bD.out.below hb fZ);have bF:=fX ht;have bK:=ht.lt;clear hb ht;go_wp2;clear bA;go_loopw [25] (fun i wr=>∃k:Nat,k<=n/\i=ae aj k/\jm wr w4.heap.size n (qj f n k) (qk f k)/\ja wr b (m9 f n k)/\gE wr b A n f/\aR w.heap.size w wr) (fun i _=>n-(aP i).toNat)
  case atStart=>
   refine⟨0,Nat.zero_le _,rfl,(Ca w4 n).ext (fun j _=>?_) (fun j _=>?_),bF.out.alloc _,bE.out.below ((Below.refl w4.heap.size w4).alloc fZ _) (by omega),bp.out.alloc bp.out.size _⟩
   ·unfold qj;rw[if_neg (by omega)];rfl
   ·unfold qk;rw[if_neg (by omega)];rfl
  case round=>
   obtain⟨k,hk,rfl,aS,ht,hr,hb⟩:=hrel;by_cases aT:k<n
   ·have hf:=bg.out k aT;obtain⟨ab,o,hA,_,hc⟩:=hr.2 (by omega);have a6:=hc k aT;clear hc;have bG:=aS.lt;have al:=fX aS;have HT:=fX ht;have HB:=fX hb;have bq:=fX hr
    clear aS ht hb hr;subst hA;by_cases hp:0<f k
    ·have hx:=Gy H0.out k aT;have a7:=KA (n:=n) hp hf;have br:=al.out.frozen (k*2);have bt:=al.out.frozen (k*2+1);have bu:=(al.out.cell aT).1;have bx:=(al.out.cell aT).2;rw[a7]at hx;have a8:=fX a7;clear a7 br bt bu bx;go_wp2_with fail
     refine(NO _ b (f k) _ (by omega) hx HT.out).mono ?_;rintro e wn ⟨rfl,aZ⟩;have bH:(wr.setCell ⟨b,f k,none⟩ (ae aj ((m9 f n k (f k)+1:Nat):Int))).heap.size=wr.heap.size:=by simp[World.setCell]
     have a9:aR b wr wn:=((Below.refl b wr).setCell fZ _).trans (aZ.mono (by omega));have ad:=(al.out.other (p:=⟨b,f k,none⟩) (by show w4.heap.size≠b;omega) (ae aj ((m9 f n k (f k)+1:Nat):Int))).below aZ bG;have av:=(HT.out.set (f k) (m9 f n k (f k)+1)).below aZ (by omega);rw[KB hp]at av;have bd:=fX ad;have a5:=fX av
     have bz:=fX (bq.out.below a9 fZ);have bI:=fX (HB.out.trans (a9.mono a4));have bN:=ad.lt;have bu:=(ad.cell aT).1;have bx:=(ad.cell aT).2;have br:=ad.frozen (k*2);have bt:=ad.frozen (k*2+1);clear aZ a9 ad av bH a6;obtain⟨x,bf⟩:=fY (m9 f n k (f k));rw[<-bf]at a8 hx⊢;have bO:=fX bf;clear bf;go_wp2;go_roundw
     case rel=>
      have a1:=bd.out.set k x (f k);rw[<-a8.out,(Ff f n k).1,(Ff f n k).2]at a1;refine⟨k+1,by omega,by go_num,?_,(a5.out.other (by show b≠w4.heap.size;omega) _).other (by show b≠w4.heap.size;omega) _,bz.out.below (((Below.refl b wn).setCell (by show b<=w4.heap.size;omega) _).setCell (by show b<=w4.heap.size;omega) _) fZ,(bI.out.setCell (by show w.heap.size<=w4.heap.size;omega) _).setCell (by show w.heap.size<=w4.heap.size;omega) _⟩;rw[<-a8.out];exact a1
     case measure=>simp[aP];omega
    ·have aV:f k=0:=by omega
     have bP:decide (0<((f k:Nat):Int))=false:=by simp;omega
     have HS:=fX (KC (n:=n) aV);have HP:=fX (NQ n aV);clear aV;go_wp2;go_roundw
     case rel=>
      refine⟨k+1,by omega,by go_num,?_,?_,bq.out,HB.out⟩
      ·rw[<-HP.out.1,<-HP.out.2];exact al.out
      ·rw[<-HS.out];exact HT.out
     case measure=>simp[aP];omega
   ·obtain rfl:k=n:=by omega
    have al:=fX aS;have HB:=fX hb
    clear aS ht hb hr aT hk;go_wp2;go_ret2;refine⟨_,_,rfl,HB.out,.inr ⟨_,rfl,by omega,al.out.ext (fun j hj=>?_) (fun j hj=>?_)⟩⟩
    ·rw[AL H0.out j hj];unfold qj;rw[if_pos hj]
    ·unfold qk;rw[if_pos hj]
 ·have hl:qs f n gy=0:=by unfold qs;rw[if_neg h0]
  have bJ:(jP f n gy !=0)=true:=by simpa using h0
  rw[hl];obtain⟨E,hE⟩:=fY (jP f n gy);rw[<-hE]at aU bJ⊢;have a2:=fX aU;clear aU h0 hl hE;go_enter func110,ntmps110
  go_wp2_with fail
  refine a2.out.mono ?_;rintro e w' ⟨rfl,hb⟩;have HB:=fX hb;clear hb;go_wp2;go_ret2;exact⟨_,_,rfl,HB.out,.inl rfl⟩
theorem Fg{f:Nat->Nat}{n:Nat}:∀N,n<=N->(∀i,n<=i->i<N->f i=0)->Pz f N=Pz f n/\kS f N=kS f n
 |0,h,_=>by rw[show n=0 by omega];exact⟨rfl,rfl⟩
 |N+1,h,hz=>by
  rcases Nat.eq_or_lt_of_le h with e|e
  ·rw[e];exact⟨rfl,rfl⟩
  ·obtain⟨h1,h2⟩:=Fg N (by omega) fun i a b=>hz i a (by omega)
   have h0:=hz N (by omega) (by omega);simp only[Pz,kS];rw[h1,h2,h0,if_neg (by omega),if_neg (by omega)];exact⟨rfl,rfl⟩
theorem zr{f:Nat->Nat}{n N:Nat}{gy ad:Int}(h:jP f N gy=0)(hn:n<=N)(hz:∀i,n<=i->i<N->f i=0)(hm:gy<=ad)(al:ad<=15):jP f n ad=0:=by
 obtain⟨h1,h2,h3,h4,h5,h6⟩:=tc h;obtain⟨e1,e2⟩:=Fg N hn hz;unfold jP;rw[if_neg (by omega),if_neg (by omega),if_neg]
 ·unfold pS;rw[<-e1,<-e2,if_neg (by omega),if_pos h6]
 ·unfold pR;rw[decide_eq_true_eq];rintro⟨j,hj,hb⟩;have:=h4 j (by omega);omega
theorem Fh{f:Nat->Nat}{least N i:Nat}(h1:PE f least N<=i)(h2:i<N):f i=0:=by
 rcases Nat.eq_zero_or_pos (f i)with h|h
 ·exact h
 ·have:=uE f least N i h2 (by omega);omega
theorem zt{c:Nat->Nat}{n gy:Nat}(h1:1<=gy)(h2:gy<=15)(hn:n<=320)(ad:n<=2^gy)(hc:∀i,c i<=1073741824):jP (lN c n gy) n (gy:Int)=0:=by
 have h:=(AU (xj h1 h2 hn ad hc)).2.1;rw[lT]at h;exact h
theorem NT(l:List gA)(hl:l.length<=1000000):jP (iP l) (nA l) 15=0:=by
 obtain⟨_,_,_,_,a1,a2,_⟩:=mB l hl;have h:=zt (c:=iF l) (n:=286) (gy:=15) (by omega) (by omega) (by omega) (by decide) (fun i=>by have:=rq l i;omega);exact zr h a2 (fun i h1 h2=>Fh h1 h2) (by omega) (by omega)
theorem NU(l:List gA)(hl:l.length<=1000000):jP (iS l) (nB l) 15=0:=by
 obtain⟨_,_,_,_,_,_,b1,b2,_⟩:=mB l hl;have h:=zt (c:=ix l) (n:=30) (gy:=15) (by omega) (by omega) (by omega) (by decide) (fun i=>by have:=qu l i;omega);exact zr h b2 (fun i h1 h2=>Fh h1 h2) (by omega) (by omega)
theorem NV(l:List gA)(hl:l.length<=1000000):jP (jJ l) 19 15=0:=by
 have h:=zt (c:=ku (ju l)) (n:=19) (gy:=7) (by omega) (by omega) (by omega) (by decide) (fun i=>by have:=qw (ju l) i;have:=(rB l hl).2;omega);exact zr h fZ (fun i h1 h2=>absurd h1 (by omega)) (by omega) (by omega)
theorem NY:jP jG 288 15=0:=by decide+kernel
theorem NZ:jP kW 32 15=0:=by decide+kernel
theorem zu(w:aq)(A:Option au)(n c:Nat)(f:Nat->Nat)(hr:gE w w.heap.size A n f)(h0:0<n)(hn:n<=1000000)(hf:jP f n 15=0):
  aw prog 85 #[af A n c] w fun e w'=>∃g c',e=ao (af (some ⟨g,0,none⟩) n c')/\w.heap.size<=g/\jm w' g n (iO f n) f/\aR w.heap.size w w':=by
 have hc:=NS w A n c f 15 hr hn
 rw[show qs f n 15=n by unfold qs;rw[if_pos hf],hf]at hc
 have HC:=fX hc
 have HF:=fX hf
 clear hc hr hf
 go_enter func85,ntmps85
 go_wp2_with fail
 refine HC.out.mono ?_
 rintro e w1 ⟨A',c',rfl,hb,ho⟩
 rcases ho with rfl|⟨g,rfl,hg,ad⟩
 ·omega
 have al:=fX (ad.ext (x':=iO f n) (l':=f) (fun j hj=>AL HF.out j hj) (fun _ _=>rfl));have HB:=fX hb
 clear hb ad
 go_wp2
 go_ret
 exact⟨g,c',rfl,hg,al.out,HB.out⟩
theorem zv{F:Nat->Nat}{n i:Nat}(h:jP F n 15=0)(hi:i<n):iO F n i<2^F i/\F i<=15:=by
 obtain⟨_,_,_,h4,h5,_⟩:=tc h;exact⟨wU hi (fun j hj=>by have:=h4 j hj;omega) h5,by have:=h4 i hi;omega⟩
theorem Fi(w:aq)(g n c:Nat)(F:Nat->Nat)(i:Nat)(hr:jm w g n (iO F n) F)(hF:jP F n 15=0)(hi:i<n)(_:n<=1000000):
  aw prog 86 #[af (some ⟨g,0,none⟩) n c,ae aj (i:Int)] w fun e w'=>e=ao (ah (kE (jr F n i)).toArray)/\aR w.heap.size w w':=by
 obtain⟨h1,h2⟩:=zv hF hi
 obtain⟨c0,c1⟩:=hr.cell hi
 obtain⟨X,hX⟩:=fY (iO F n i)
 obtain⟨Y,hY⟩:=fY (F i)
 have aS:jr F n i=(PI X Y,Y):=by unfold jr;rw[hX,hY]
 rw[aS]
 rw[<-hX]at h1 c0
 rw[<-hY]at h1 h2 c1
 have aT:X<4294967296:=by
  have e:(2:Nat)^Y<=2^15:=Nat.pow_le_pow_right (by omega) h2;have e2:(2:Nat)^15=32768:=rfl;omega
 obtain⟨Z,hZ⟩:=fY (PI X Y)
 have av:=fun V:aq=>GX X Y V aT (by omega) (GR.2 ⟨by omega,h1⟩)
 rw[<-hZ]at av⊢
 obtain⟨W1,ad⟩:=fY (w.alloc (ak #[ae .u32 0,ae aj 0] 169))
 obtain⟨h,hh⟩:=fY (w.heap.size)
 obtain⟨W2,al⟩:=fY (iq W1 #[ae .u32 0,ae .u8 0] #[ae .u32 (X:Int),ae .u8 (Y:Int)] 176)
 have b1:aR h w W1:=by rw[ad,hh];exact gC.alloc fZ _
 have x1:W1.heap[h]?=some (ak #[ae .u32 0,ae aj 0] 169 (0,0)):=by rw[ad,hh];exact aG w _
 have s1:W1.heap.size=h+1:=by rw[ad,hh];simp
 have b2:aR W1.heap.size W1 W2:=by rw[al];exact kN _ _ _ _
 have r2:W2.heap[W1.heap.size]?=some (ak #[ae .u32 (X:Int),ae .u8 (Y:Int)] 176 (0,0)):=by rw[al];exact kY W1 _ _ _
 have x2:=(b2.block h (by omega)).trans x1
 have y0:W2.cell? ⟨W1.heap.size,0,none⟩=some (ae .u32 (X:Int)):=(aH W2 _ 0 _ _ (0,0) r2).trans rfl
 have y1:W2.cell? ⟨W1.heap.size,1,none⟩=some (ae .u8 (Y:Int)):=(aH W2 _ 1 _ _ (0,0) r2).trans rfl
 have aU:W1.rangeAt g (i*2) [ae .u32 (X:Int),ae .u8 (Y:Int)]:=by
  have aV:g<h:=by rw[hh];exact hr.lt
  intro j v hv;rw[b1.cell (p:=⟨g,i*2+j,none⟩) aV];rcases j with _|_|j
  ·simp at hv;subst hv;exact c0
  ·simp at hv;subst hv;exact c1
  ·simp at hv
 have aW:=fX aU;have aX:=fX av;have aY:=fX ad;have HH:=fX hh;have aZ:=fX al;have HB:=fX (b1.trans (b2.mono (by omega)));have X2:=fX x2;have a2:=fX s1
 have a1:(i:Int)<(n:Int):=by omega
 clear aU av ad hh al b1 b2 x1 x2 s1 r2 hr hF hX hY hZ aS h1 c0 c1
 go_enter func86,ntmps86
 go_wp2_with (first
  |(rw[<-aY.out,<-HH.out])
  |(refine aF rfl _ _ rfl g (i*2) rfl [ae .u32 (X:Int),ae .u8 (Y:Int)] _ aW.out underlying176 rfl (rz _ _) ?_)
  |(refine aC rfl _ _ _ rfl rfl W1.heap.size #[ae .u32 (X:Int),ae .u8 (Y:Int)] rfl rfl 176 #[ae .u32 0,ae .u8 0] (aG W1 _) (rz _ _) rfl (by simp[Value.oneCell']) ?_;change wpList _ _ _ _ _ (iq W1 #[ae .u32 0,ae .u8 0] #[ae .u32 (X:Int),ae .u8 (Y:Int)] 176);rw[<-aZ.out])
  |fail)
 refine(aX.out W2).mono ?_
 rintro e w3 ⟨rfl,rfl⟩
 go_wp2_with (first
  |(refine aD rfl 169 #[(0,.tmp 21),(1,.tmp 24)] rfl (some 25) rfl #[ae .u32 (Z:Int),ae aj (Y:Int)] ?_ ?_;focus(simpa[Act.eval]using lk (Z:Int) (Y:Int)))
  |(refine aC rfl _ _ _ rfl rfl h #[ae .u32 (Z:Int),ae aj (Y:Int)] rfl rfl 169 #[ae .u32 0,ae aj 0] X2.out (yE (Z,Y)) rfl (DW (Z,Y)) ?_)
  |fail)
 refine aK (v:=ah #[ae .u32 (Z:Int),ae aj (Y:Int)]) ?_ rfl ⟨rfl,by rw[<-HH.out];exact pH HB.out fZ _⟩
 exact results_cell_row rfl _ _ h _ _ (0,0) _ rfl (aI _ _ _ _ _ _ X2.out) underlying169 rfl (yE (Z,Y))
theorem N0(w:aq)(s:Int):aw prog 160 #[ae aj s] w fun e w'=>e=ao (.tuple #[ae aj (iU s),ae aj (jX s)])/\w=w':=by
 by_cases y0:s<0
 ·skip;have e1:iU s=0:=by unfold iU;rw[if_neg (by omega)]
  have e2:jX s=2:=by unfold jX;rw[if_neg (by omega)]
  rw[e1,e2];have d0:decide (s<0)=true:=mT y0;clear e1 e2 y0;go_enter func160,ntmps160
  go_wp2;go_ret2;exact⟨rfl,rfl⟩
 have d0:decide (s<0)=false:=lW y0;by_cases y1:19<=s
 ·skip;have e1:iU s=0:=by unfold iU;rw[if_neg (by omega)]
  have e2:jX s=2:=by unfold jX;rw[if_neg (by omega)]
  rw[e1,e2];have d1:decide (19<=s)=true:=mT y1;clear e1 e2 y0 y1;go_enter func160,ntmps160
  go_wp2;go_ret2;exact⟨rfl,rfl⟩
 have d1:decide (19<=s)=false:=lW y1;by_cases ad:s=16
 ·skip;have e1:iU s=2:=by unfold iU j8;rw[if_pos (by omega),if_pos ad];rfl
  have e2:jX s=0:=by unfold jX;rw[if_pos (by omega)]
  rw[e1,e2];have d16:(s==16)=true:=by simp[ad]
  clear e1 e2 y0 y1 ad;go_enter func160,ntmps160
  go_wp2;go_ret2;exact⟨rfl,rfl⟩
 have d16:(s==16)=false:=by simp[ad]
 by_cases al:s=17
 ·skip;have e1:iU s=3:=by unfold iU j8;rw[if_pos (by omega),if_neg ad,if_pos al];rfl
  have e2:jX s=0:=by unfold jX;rw[if_pos (by omega)]
  rw[e1,e2];have d17:(s==17)=true:=by simp[al]
  clear e1 e2 y0 y1 ad al;go_enter func160,ntmps160
  go_wp2;go_ret2;exact⟨rfl,rfl⟩
 have d17:(s==17)=false:=by simp[al]
 by_cases av:s=18
 ·skip;have e1:iU s=7:=by unfold iU j8;rw[if_pos (by omega),if_neg ad,if_neg al,if_pos av];rfl
  have e2:jX s=0:=by unfold jX;rw[if_pos (by omega)]
  rw[e1,e2];have d18:(s==18)=true:=by simp[av]
  clear e1 e2 y0 y1 ad al av;go_enter func160,ntmps160
  go_wp2;go_ret2;exact⟨rfl,rfl⟩
 have d18:(s==18)=false:=by simp[av]
 have e1:iU s=0:=by unfold iU j8;rw[if_pos (by omega),if_neg ad,if_neg al,if_neg av];rfl
 have e2:jX s=0:=by unfold jX;rw[if_pos (by omega)]
 rw[e1,e2];skip;clear e1 e2 y0 y1 ad al av;go_enter func160,ntmps160
 go_wp2;go_ret2;exact⟨rfl,rfl⟩
theorem Fj{B:Nat}{a w:aq}(h:aR B a w)(n:Nat):aR B a (w.drewN n):=⟨h.os,h.tape,h.output,h.size,h.block⟩
theorem N6(w:aq)(K B:Nat)(A:Option au)(n c:Nat)(f:Nat->Nat)(a:Nat)(hk:w.cell? ⟨K,0,none⟩=some (af A n c))(hr:gE w B A n f)(ha:a<n)(hn:n<=1000000):
  aw prog 157 #[ae aj (a:Int),ag (some ⟨K,0,none⟩)] w fun e w'=>e=ao (ae aj ((l8 f n a:Nat):Int))/\mh w w':=by
 obtain⟨L,hL⟩:=fY (l8 f n a)
 rw[<-hL]
 have aS:L=1+PK (f a) (j9 f n (a+1)):=by rw[hL];unfold l8;omega
 have HR:=fX hr;have HL:=fX aS;have aV:=fX hk
 clear hr hL aS hk
 go_enter func157,ntmps157
 go_wp2
 go_loopw [4] (fun kv wr=>∃k:Nat,1<=k/\a+k<=n/\kv=ae aj (k:Int)/\aQ (L=k+PK (f a) (j9 f n (a+k)))/\aQ (mh w wr)) (fun kv _=>n-(aP kv).toNat)
 case atStart=>exact⟨1,Nat.le_refl _,by omega,rfl,HL,fX (mh.refl w)⟩
 case round=>
  obtain⟨k,aZ,a1,rfl,HK,HD⟩:=hrel;have e2:(a:Int)+(k:Int)=((a+k:Nat):Int):=by omega
  have ck:wr.cell? ⟨K,0,none⟩=some (af A n c):=by obtain⟨t,rfl⟩:=HD.out;exact aV.out
  obtain⟨Q,hQ⟩:=fY (a+k);rw[<-hQ]at e2;by_cases aW:Q<n
  ·obtain⟨b,o,rfl,_,hc⟩:=(HD.out.rd HR.out).2 (by omega);have c1:=hc a (by omega);have c2:=hc Q aW;have a2:(Q:Int)<(n:Int):=by omega
   have aX:decide ((Q:Int)<(n:Int))=true:=by simp;omega
   have aT:decide (Q<n)=true:=by simp;omega
   have a3:(a:Int)<(n:Int):=by omega
   have aY:(0:Int)<=(Q:Int):=by omega
   have a4:(0:Int)<=(a:Int):=by omega
   clear hc;by_cases he:f Q=f a
   ·have al:((f Q:Int)==(f a:Int))=true:=by simp[he]
    have ad:=wY (f:=f) (n:=n) (a:=a+k) (x:=f a) (by omega) (by rw[<-hQ];exact he);have av:aQ (L=(k+1)+PK (f a) (j9 f n (a+(k+1)))):=fX (by have:=HK.out;rw[ad]at this;rw[<-Nat.add_assoc];omega);have aU:a+(k+1)<=n:=by omega
    obtain⟨x,hx⟩:=fY (f a);obtain⟨y,hy⟩:=fY (f Q);rw[<-hx]at c1 al;rw[<-hy]at c2 al;clear ad hQ he hx hy;go_wp2;go_quiet (fail)
    go_wp2;go_roundw
    case rel=>exact⟨k+1,by omega,aU,by go_num,av,fX (HD.out.more _)⟩
    case measure=>simp[aP];omega
   ·have al:((f Q:Int)==(f a:Int))=false:=by simp;omega
    have ad:=uw (f:=f) (n:=n) (a:=a+k) (x:=f a) (.inr (by rw[<-hQ];exact he));have av:aQ (L=k):=fX (by have:=HK.out;rw[ad]at this;omega);obtain⟨x,hx⟩:=fY (f a);obtain⟨y,hy⟩:=fY (f Q);rw[<-hx]at c1 al;rw[<-hy]at c2 al;clear ad hQ he hx hy;go_wp2;go_quiet (fail)
    go_wp2;go_ret;exact⟨(by rw[av.out];rfl),HD.out.more _⟩
  ·have aX:decide ((Q:Int)<(n:Int))=false:=by simp;omega
   have aT:decide (Q<n)=false:=by simp;omega
   have aY:(0:Int)<=(Q:Int):=by omega
   have ad:=uw (f:=f) (n:=n) (a:=a+k) (x:=f a) (.inl (by omega));have av:aQ (L=k):=fX (by have:=HK.out;rw[ad]at this;omega);have a5:Q<=1000000:=by omega
   have a6:IntKind.i64.wrap (Q:Int)=(Q:Int):=by rw[IntKind.wrap_i64];omega
   clear ad hQ;go_wp2;go_quiet (fail)
   go_wp2;go_ret;exact⟨(by rw[av.out];rfl),HD.out.more _⟩
theorem N7(w:aq)(prev:Option Nat)(x L:Nat)(kn:Bool)(hk:kn=decide (prev=some x))(hx:x<256)(h1:1<=L)(h2:L<=1000000):
  aw prog 158 #[ae .u8 (x:Int),ai kn,ae aj (L:Int)] w fun e w'=>e=ao (.tuple #[ah #[ae aj (j7 prev x L).1.1,ae aj (j7 prev x L).1.2],ae aj ((j7 prev x L).2:Nat)])/\aR w.heap.size w w':=by
 obtain⟨R,hR⟩:=fY (j7 prev x L)
 rw[<-hR]
 unfold j7 at hR
 obtain⟨W1,aV⟩:=fY (w.alloc (ak #[ae aj 0,ae aj 0] 192))
 have aX:aR w.heap.size w W1:=by rw[aV];exact gC.alloc fZ _
 obtain⟨h,hh⟩:=fY (w.heap.size)
 have aW:W1.heap[h]?=some (ak #[ae aj 0,ae aj 0] 192 (0,0)):=by rw[aV,hh];exact aG w _
 have ad:=fX aW;have aS:=fX aX;have HH:=fX hh;have aT:=fX aV;have HR:=fX hR;have aU:=fX hk
 clear aW aX aV hR hh hk
 by_cases l3:L<3
 ·have d3:decide ((L:Int)<3)=true:=by simp;omega
  have aZ:decide (L<3)=true:=by simp;omega
  have al:R=(((x:Int),0),1):=by rw[HR.out,if_neg (by omega),if_neg (by omega),if_neg (by omega)]
  subst al;clear l3 HR;go_enter func158,ntmps158
  go_wp2_with (first
   |(rw[<-aT.out,<-HH.out];refine aD rfl 192 #[(0,.tmp 19)] rfl (some 20) rfl #[ae aj (x:Int),ae aj 0] ?_ ?_;focus(simpa[Act.eval]using qz (x:Int)))
   |(refine aD rfl 192 #[(0,.tmp 19)] rfl (some 20) rfl #[ae aj (x:Int),ae aj 0] ?_ ?_;focus(simpa[Act.eval]using qz (x:Int)))
   |(refine aC rfl _ _ _ rfl rfl h #[ae aj (x:Int),ae aj 0] rfl rfl 192 #[ae aj 0,ae aj 0] ad.out kZ rfl (mF _ _) ?_))
  refine aK ((mD rfl _ _ h _ rfl rfl (aI _ _ _ _ _ _ ad.out)).trans rfl) rfl ⟨rfl,?_⟩;exact mE aS.out (by rw[HH.out];exact Nat.le_refl _) _
 have d3:decide ((L:Int)<3)=false:=by simp;omega
 have aZ:decide (L<3)=false:=by simp;omega
 by_cases x0:x=0
 ·have dx:((x:Int) !=0)=false:=by simp[x0]
  by_cases a3:L<=10
  ·have d10:decide ((L:Int)<=10)=true:=by simp;omega
   have aY:decide (L<=10)=true:=by simp;omega
   obtain⟨u,hu⟩:=fY (L-3);have eu:(L:Int)-3=(u:Int):=by omega
   have al:R=((17,(u:Int)),L):=by rw[HR.out,if_neg (by omega),if_pos ⟨x0,by omega⟩,<-hu]
   subst al;clear x0 hu HR;go_enter func158,ntmps158
   go_wp2_with (first
    |(rw[<-aT.out,<-HH.out];refine aD rfl 192 #[(0,.const (ae aj 17)),(1,.tmp 32)] rfl (some 33) rfl #[ae aj 17,ae aj (u:Int)] ?_ ?_;focus(simpa[Act.eval]using mU 17 (u:Int)))
    |(refine aD rfl 192 #[(0,.const (ae aj 17)),(1,.tmp 32)] rfl (some 33) rfl #[ae aj 17,ae aj (u:Int)] ?_ ?_;focus(simpa[Act.eval]using mU 17 (u:Int)))
    |(refine aC rfl _ _ _ rfl rfl h #[ae aj 17,ae aj (u:Int)] rfl rfl 192 #[ae aj 0,ae aj 0] ad.out kZ rfl (mF _ _) ?_))
   refine aK ((mD rfl _ _ h _ rfl rfl (aI _ _ _ _ _ _ ad.out)).trans rfl) rfl ⟨rfl,?_⟩;exact mE aS.out (by rw[HH.out];exact Nat.le_refl _) _
  have d10:decide ((L:Int)<=10)=false:=by simp;omega
  have aY:decide (L<=10)=false:=by simp;omega
  by_cases a2:138<L
  ·have dd:(138:Int)<(L:Int):=by omega
   have al:R=((18,127),138):=by rw[HR.out,if_pos ⟨x0,by omega⟩,show min L 138=138 by omega];rfl
   subst al;clear x0 HR;go_enter func158,ntmps158
   go_wp2_with (first
    |(rw[<-aT.out,<-HH.out];refine aD rfl 192 #[(0,.const (ae aj 18)),(1,.tmp 39)] rfl (some 40) rfl #[ae aj 18,ae aj 127] ?_ ?_;focus(simpa[Act.eval]using mU 18 127))
    |(refine aD rfl 192 #[(0,.const (ae aj 18)),(1,.tmp 39)] rfl (some 40) rfl #[ae aj 18,ae aj 127] ?_ ?_;focus(simpa[Act.eval]using mU 18 127))
    |(refine aC rfl _ _ _ rfl rfl h #[ae aj 18,ae aj 127] rfl rfl 192 #[ae aj 0,ae aj 0] ad.out kZ rfl (mF _ _) ?_))
   refine aK ((mD rfl _ _ h _ rfl rfl (aI _ _ _ _ _ _ ad.out)).trans rfl) rfl ⟨rfl,?_⟩;exact mE aS.out (by rw[HH.out];exact Nat.le_refl _) _
  ·have dd:¬(138:Int)<(L:Int):=by omega
   obtain⟨u1,a1⟩:=fY (L-10);have a4:(L:Int)-10=(u1:Int):=by omega
   obtain⟨u,hu⟩:=fY (L-11);have eu:(u1:Int)-1=(u:Int):=by omega
   have al:R=((18,(u:Int)),L):=by rw[HR.out,if_pos ⟨x0,by omega⟩,show min L 138=L by omega,<-hu]
   subst al;clear x0 hu a1 HR;go_enter func158,ntmps158
   go_wp2_with (first
    |(rw[<-aT.out,<-HH.out];refine aD rfl 192 #[(0,.const (ae aj 18)),(1,.tmp 39)] rfl (some 40) rfl #[ae aj 18,ae aj (u:Int)] ?_ ?_;focus(simpa[Act.eval]using mU 18 (u:Int)))
    |(refine aD rfl 192 #[(0,.const (ae aj 18)),(1,.tmp 39)] rfl (some 40) rfl #[ae aj 18,ae aj (u:Int)] ?_ ?_;focus(simpa[Act.eval]using mU 18 (u:Int)))
    |(refine aC rfl _ _ _ rfl rfl h #[ae aj 18,ae aj (u:Int)] rfl rfl 192 #[ae aj 0,ae aj 0] ad.out kZ rfl (mF _ _) ?_))
   refine aK ((mD rfl _ _ h _ rfl rfl (aI _ _ _ _ _ _ ad.out)).trans rfl) rfl ⟨rfl,?_⟩;exact mE aS.out (by rw[HH.out];exact Nat.le_refl _) _
 have dx:((x:Int) !=0)=true:=by simp;omega
 by_cases av:prev=some x
 ·obtain rfl:kn=true:=by rw[aU.out];exact mT av
  by_cases l6:6<L
  ·have dd:(6:Int)<(L:Int):=by omega
   have al:R=((16,3),6):=by rw[HR.out,if_neg (by omega),if_neg (by omega),if_pos ⟨x0,av,by omega⟩,show min L 6=6 by omega];rfl
   subst al;clear x0 HR av aU;go_enter func158,ntmps158
   go_wp2_with (first
    |(rw[<-aT.out,<-HH.out];refine aD rfl 192 #[(0,.const (ae aj 16)),(1,.tmp 26)] rfl (some 27) rfl #[ae aj 16,ae aj 3] ?_ ?_;focus(simpa[Act.eval]using mU 16 3))
    |(refine aD rfl 192 #[(0,.const (ae aj 16)),(1,.tmp 26)] rfl (some 27) rfl #[ae aj 16,ae aj 3] ?_ ?_;focus(simpa[Act.eval]using mU 16 3))
    |(refine aC rfl _ _ _ rfl rfl h #[ae aj 16,ae aj 3] rfl rfl 192 #[ae aj 0,ae aj 0] ad.out kZ rfl (mF _ _) ?_))
   refine aK ((mD rfl _ _ h _ rfl rfl (aI _ _ _ _ _ _ ad.out)).trans rfl) rfl ⟨rfl,?_⟩;exact mE aS.out (by rw[HH.out];exact Nat.le_refl _) _
  ·have dd:¬(6:Int)<(L:Int):=by omega
   obtain⟨u,hu⟩:=fY (L-3);have eu:(L:Int)-3=(u:Int):=by omega
   have al:R=((16,(u:Int)),L):=by rw[HR.out,if_neg (by omega),if_neg (by omega),if_pos ⟨x0,av,by omega⟩,show min L 6=L by omega,<-hu]
   subst al;clear x0 hu HR av aU;go_enter func158,ntmps158
   go_wp2_with (first
    |(rw[<-aT.out,<-HH.out];refine aD rfl 192 #[(0,.const (ae aj 16)),(1,.tmp 26)] rfl (some 27) rfl #[ae aj 16,ae aj (u:Int)] ?_ ?_;focus(simpa[Act.eval]using mU 16 (u:Int)))
    |(refine aD rfl 192 #[(0,.const (ae aj 16)),(1,.tmp 26)] rfl (some 27) rfl #[ae aj 16,ae aj (u:Int)] ?_ ?_;focus(simpa[Act.eval]using mU 16 (u:Int)))
    |(refine aC rfl _ _ _ rfl rfl h #[ae aj 16,ae aj (u:Int)] rfl rfl 192 #[ae aj 0,ae aj 0] ad.out kZ rfl (mF _ _) ?_))
   refine aK ((mD rfl _ _ h _ rfl rfl (aI _ _ _ _ _ _ ad.out)).trans rfl) rfl ⟨rfl,?_⟩;exact mE aS.out (by rw[HH.out];exact Nat.le_refl _) _
 obtain rfl:kn=false:=by rw[aU.out];exact lW av
 have al:R=(((x:Int),0),1):=by rw[HR.out,if_neg (by omega),if_neg (by omega),if_neg (fun q=>av q.2.1)]
 subst al
 clear x0 HR av aU
 go_enter func158,ntmps158
 go_wp2_with (first
  |(rw[<-aT.out,<-HH.out];refine aD rfl 192 #[(0,.tmp 19)] rfl (some 20) rfl #[ae aj (x:Int),ae aj 0] ?_ ?_;focus(simpa[Act.eval]using qz (x:Int)))
  |(refine aD rfl 192 #[(0,.tmp 19)] rfl (some 20) rfl #[ae aj (x:Int),ae aj 0] ?_ ?_;focus(simpa[Act.eval]using qz (x:Int)))
  |(refine aC rfl _ _ _ rfl rfl h #[ae aj (x:Int),ae aj 0] rfl rfl 192 #[ae aj 0,ae aj 0] ad.out kZ rfl (mF _ _) ?_))
 refine aK ((mD rfl _ _ h _ rfl rfl (aI _ _ _ _ _ _ ad.out)).trans rfl) rfl ⟨rfl,?_⟩
 exact mE aS.out (by rw[HH.out];exact Nat.le_refl _) _
theorem N8{ops:Array Oper}{o:Oper}{a:Act}{w:aq}{K:Act->aq->Prop}{Q:Exit->Act->aq->Prop}{E:Prop}(al:o.guard=none)(f:FuncId)(cap:Array ax)(x:Operand)(xs:Array Operand)(ts:Array aB)
  (ho:o.op=.call {callee:=.value x,args:=xs,argTypes:=ts}) (hv:a.eval x=.func (.func f) #[] cap) (eg:∀args w,(callFunc f args).run prog w=.ok (.enter f args) w) (args:Array ax) (hx:xs.map a.eval++cap=args) {R:Ending->aq->Prop} (hc:aw prog f args w R)
  (h:∀e w',R e w'->∃v,e=ao v/\K (a.put o.dst v) w'):
  if Region.wanted o (yielded ops a.tmps)=true then Oper.wp prog o a w K Q else E:=by
 have hw:Region.wanted o (yielded ops a.tmps)=true:=by simp[Region.wanted,al]
 rw[if_pos hw]
 unfold Oper.wp
 have ad:∀ρ:Operand->ax,ρ x=.func (.func f) #[] cap->xs.map ρ++cap=args->(execOp ρ o).run prog w=.ok (.enter f args) w:=by
  intro ρ h1 h2;simp[execOp,ho,resolve,invoke,h1,h2,go_sem,eg,Deferred.ofValue]
 rw[ad _ hv hx]
 refine hc.mono fun e w' hr=>?_
 obtain⟨v,rfl,hk⟩:=h e w' hr
 exact hk
structure nK (w:aq) (X:Nat) (x y:ax):Prop where
 lt:X<w.heap.size
 c0:w.cell? ⟨X,0,none⟩=some x
 c1:w.cell? ⟨X,1,none⟩=some y
 f0:w.frozen? ⟨X,0,none⟩=false
 f1:w.frozen? ⟨X,1,none⟩=false
theorem nK.new(U:aq)(x y:ax)(t:aB):nK (U.alloc (ak #[x,y] t)) U.heap.size x y:=by
 have hn:=aG U (ak #[x,y] t);refine⟨by simp,?_,?_,?_,?_⟩
 ·exact(aH (U.alloc (ak #[x,y] t)) _ 0 _ t (0,0) hn).trans rfl
 ·exact(aH (U.alloc (ak #[x,y] t)) _ 1 _ t (0,0) hn).trans rfl
 ·exact aO (U.alloc (ak #[x,y] t)) _ 0 _ _ hn
 ·exact aO (U.alloc (ak #[x,y] t)) _ 1 _ _ hn
theorem nK.below{w w':aq}{X B:Nat}{x y:ax}(h:nK w X x y)(hb:aR B w w')(hB:X<B):nK w' X x y:=
 ⟨Nat.lt_of_lt_of_le h.lt hb.size,(hb.cell (p:=⟨X,0,none⟩) hB).trans h.c0,(hb.cell (p:=⟨X,1,none⟩) hB).trans h.c1,(hb.frozen (p:=⟨X,0,none⟩) hB).trans h.f0,(hb.frozen (p:=⟨X,1,none⟩) hB).trans h.f1⟩
theorem nK.set{w:aq}{X:Nat}{x y:ax}(h:nK w X x y)(p q:ax):nK ((w.setCell ⟨X,0,none⟩ p).setCell ⟨X,1,none⟩ q) X p q:=by
 obtain⟨h1,h2⟩:=Hj (p:=p) (q:=q) h.c0 h.c1;refine⟨by have:=h.lt;simpa[World.setCell]using this,h1,h2,?_,?_⟩
 ·simpa using h.f0
 ·simpa using h.f1
theorem N9{w:aq}{X:Nat}{s x:Int}(h0:w.cell? ⟨X,0,none⟩=some (ae aj s))(h1:w.cell? ⟨X,1,none⟩=some (ae aj x)):w.rangeAt X 0 (mC (s,x)):=by
 intro i v hv;rcases i with _|_|i
 ·simp[mC]at hv;subst hv;exact h0
 ·simp[mC]at hv;subst hv;exact h1
 ·simp[mC]at hv
theorem Oa{U w':aq}{x y:ax}{t:aB}(h:mh (U.alloc (ak #[x,y] t)).drew w'):nK w' U.heap.size x y:=by
 obtain⟨k,rfl⟩:=h;have h:=nK.new U x y t;exact⟨h.lt,h.c0,h.c1,h.f0,h.f1⟩
theorem Ob{w:aq}{base sz n c:Nat}{e:aB}{A:Option au}{xs:List ax}(h:w.ownsRow base e sz (af A n c) n xs):∀b o,A=some ⟨b,o,none⟩->base<=b:=fun b o hA=>by
 rcases h.2 with⟨hv,_⟩|⟨g,cap,cur,hv,hg,_⟩
 ·injection hv with h1;rw[hA]at h1;cases h1
 ·injection hv with h1;rw[hA]at h1;injection h1 with h1;injection h1 with h1;omega
theorem Oc(w:aq)(A:Option au)(n c:Nat)(f:Nat->Nat)(hr:gu w w.heap.size A n c f):
  aw prog 133 #[af A n c] w fun e w'=>∃A' n' c',e=ao (.tuple #[af A' n' c',ae aj (qZ f n)])/\pk w' w'.heap.size A' n' c' (ux f n)/\aR w.heap.size w w'/\(∀b o,A'=some ⟨b,o,none⟩->w.heap.size<=b):=by
 replace hr:=hr.1
 have a4:∀(fn:Fn) (first cap:Array ax) (w:aq),(Instr.makeFunc fn first cap).run prog w=.ok (.func fn first cap) w:=fun _ _ _ _=>rfl
 have bV:=fX a4
 obtain⟨E,hE⟩:=fY (qZ f n)
 obtain⟨V,hV⟩:=fY (ux f n)
 have aT:V=if E=0 then kU f n 0 else[]:=by rw[hV,hE];rfl
 rw[<-hE,<-hV]
 unfold qZ at hE
 have HR:=fX hr;have HE:=fX hE;have HV:=fX aT
 obtain⟨K,a5⟩:=fY (w.heap.size)
 obtain⟨W1,aV⟩:=fY (w.alloc (ak #[af A n c] 22))
 have bA:aR w.heap.size w W1:=by rw[aV];exact gC.alloc fZ _
 have bl:W1.cell? ⟨K,0,none⟩=some (af A n c):=by rw[aV,a5];exact(aH _ _ 0 _ _ (0,0) (aG w _)).trans rfl
 have bB:w.heap.size<W1.heap.size:=by rw[aV];simp
 have aU:=fX bA;have bW:=fX bl;have bX:=fX bB;have bC:=fX aV;have bm:=fX a5
 clear hr hE hV aT a4 bA bB aV
 by_cases bf:320<n
 ·have bY:(320:Int)<(n:Int):=by omega
  obtain rfl:E=4:=by rw[HE.out,if_pos bf]
  obtain rfl:V=[]:=by rw[HV.out,if_neg (by omega)]
  clear HE HV a5;go_enter func133,ntmps133
  go_wp2_with (rw[<-bC.out,<-bm.out])
  go_ret2;exact⟨none,0,0,rfl,pk.nil _ _,aU.out,fun _ _ e=>by cases e⟩
 have bY:¬(320:Int)<(n:Int):=by omega
 have he:=HE.out
 rw[if_neg bf]at he
 have bn:=fX he
 clear he HE a5
 go_enter func133,ntmps133
 go_wp2_with (rw[<-bC.out,<-bm.out])
 go_loopw [17] (fun iv wr=>∃i:Nat,i<=n/\iv=ae aj (i:Int)/\aQ (∀j,j<i->f j<=15)/\W1=wr) (fun iv _=>n-(aP iv).toNat)
 case atStart=>exact⟨0,Nat.zero_le _,rfl,fX (fun j hj=>by omega),rfl⟩
 case round=>
  obtain⟨i,hi,rfl,HK,rfl⟩:=hrel;by_cases al:i<n
  ·have aW:(i:Int)<(n:Int):=by omega
   obtain⟨b,o,rfl,bp,hc⟩:=HR.out.2 (by omega);have c1:=(aU.out.cell (p:=⟨b,o+i,none⟩) bp).trans (hc i al);have aX:=HR.out.1 i;by_cases bD:15<f i
   ·obtain rfl:E=2:=by rw[bn.out,if_neg (fun q=>by have:=q i al;omega)]
    obtain rfl:V=[]:=by rw[HV.out,if_neg (by omega)]
    obtain⟨x,hx⟩:=fY (f i);rw[<-hx]at c1 bD aX;have bZ:(15:Int)<(x:Int):=by omega
    clear hc hx bl;go_wp2;go_ret2;exact⟨none,0,0,rfl,pk.nil _ _,aU.out,fun _ _ e=>by cases e⟩
   ·have b0:aQ (∀j,j<i+1->f j<=15):=fX fun j hj=>by
     rcases Nat.lt_or_ge j i with g|g
     ·exact HK.out j g
     ·have e:j=i:=by omega
      subst e;omega
    obtain⟨x,hx⟩:=fY (f i);rw[<-hx]at c1 bD aX;have bZ:¬(15:Int)<(x:Int):=by omega
    clear hc hx bl;go_wp2;go_roundw
    case rel=>exact⟨i+1,by omega,by go_num,b0,trivial⟩
    case measure=>simp[aP];omega
  ·obtain rfl:i=n:=by omega
   have aW:¬(i:Int)<(i:Int):=by omega
   obtain rfl:E=0:=by rw[bn.out,if_pos HK.out]
   have hv:V=kU f i 0:=by rw[HV.out,if_pos rfl]
   have b1:=fX hv;have b2:=HK;have a4:=bV.out;clear hv bn al hi;go_wp2;clear a4;go_loopw [7,8] (fun ov av wr=>∃(p a:Nat) (At:Option au) (ct:Nat) (pre:List (Int×Int)),a<=i/\p<=a/\ov=af At p ct/\av=ae aj (a:Int)/\aQ (pre++kU f i a=kU f i 0)/\aQ (wr.ownsRow W1.heap.size 192 2 (af At p ct) p (PS pre))/\aQ (aR W1.heap.size W1 wr)) (fun _ av _=>i-(aP av).toNat)
   case atStart=>exact⟨0,0,none,0,[],Nat.zero_le _,Nat.le_refl _,rfl,rfl,fX rfl,fX (World.ownsRow_nil _ _ _ _),fX gC⟩
   case round=>
    obtain⟨p,a,At,ct,pre,ha,cl,rfl,rfl,HK,HO,bq⟩:=hrel;have HB:=fX (aU.out.trans (bq.out.mono aU.out.size));have b3:aQ (K<W1.heap.size):=fX (by rw[bm.out];exact bX.out);have HC:=fX ((bq.out.cell (p:=⟨K,0,none⟩) b3.out).trans bW.out);by_cases al:a<i
    ·have aW:(a:Int)<(i:Int):=by omega
     obtain⟨b,o,rfl,bp,hc⟩:=HR.out.2 (by omega);have br:∀j,j<i->wr.cell? ⟨b,o+j,none⟩=some (ae .u8 (f j:Int)):=fun j hj=>(HB.out.cell (p:=⟨b,o+j,none⟩) bp).trans (hc j hj)
     have c1:=br a al;have aX:=HR.out.1 a;obtain⟨kn,bE⟩:=fY (decide (l9 f a=some (f a)));have cm:(a:Int)<(i:Int):=by omega
     have cn:(0:Int)<=(a:Int):=by omega
     obtain⟨g1,g2,g3⟩:=AY (f:=f) al b2.out;obtain⟨l1,l2⟩:=tg (f:=f) al;have a6:=fX bE;have b4:=fX br;have bF:=fX g1
     have ck:=HC.out;obtain⟨x,hx⟩:=fY (f a);rw[<-hx]at c1 aX;have HX:=fX hx;clear hc br bE g1 hx;go_wp2;go_cut [9] (fun v9 wx=>v9=ai kn/\∃q,wx=wr.drewN q)
     case first=>
      by_cases a7:a=0
      ·have dz:decide (0<(a:Int))=false:=by simp;omega
       have b5:decide (0<a)=false:=by simp;omega
       obtain rfl:kn=false:=by rw[a6.out];exact lW (fun q=>by unfold l9 at q;rw[if_pos a7]at q;cases q)
       clear a7;go_quiet (fail)
       go_wp2;go_meet;exact⟨rfl,_,rfl⟩
      ·have dz:decide (0<(a:Int))=true:=by simp;omega
       have b5:decide (0<a)=true:=by simp;omega
       obtain⟨d,hd⟩:=fY (a-1);have ed:(a:Int)-1=(d:Int):=by omega
       have cp:(d:Int)<(i:Int):=by omega
       have cq:(0:Int)<=(d:Int):=by omega
       have c0:=b4.out d (by omega);have aY:=a6.out;unfold l9 at aY;rw[if_neg a7,<-hd,<-HX.out]at aY;obtain⟨y,hy⟩:=fY (f d);rw[<-hy]at c0 aY;have cr:((y:Int)==(x:Int))=kn:=by
        rw[aY];by_cases e:y=x
        ·subst e;simp
        ·rw[lW (fun q=>e (by injection q))];simp;omega
       clear aY hy hd a7;go_quiet (fail)
       go_wp2;go_meet;exact⟨rfl,_,rfl⟩
     case rest=>
      obtain⟨rfl,q,rfl⟩:=hcut;obtain⟨U,hU⟩:=fY (wr.drewN q);have a8:aR w.heap.size w U:=hU▸Fj HB.out q;have bG:aR W1.heap.size W1 U:=hU▸Fj bq.out q;have bH:U.ownsRow W1.heap.size 192 2 (af At p ct) p (PS pre):=hU▸HO.out;have uk:U.cell? ⟨K,0,none⟩=some (af (some ⟨b,o,none⟩) i c):=hU▸ck;have u1:U.cell? ⟨b,o+a,none⟩=some (ae .u8 (x:Int)):=hU▸c1;have bt:K<U.heap.size:=by have:=World.block_lt_of_cell? U ⟨K,0,none⟩ uk;exact this
      have bI:b<U.heap.size:=by have:=World.block_lt_of_cell? U ⟨b,o+a,none⟩ u1;exact this
      have bJ:gE U w.heap.size (some ⟨b,o,none⟩) i f:=HR.out.below a8 fZ;obtain⟨L,hL⟩:=fY (l8 f i a);obtain⟨R,a9⟩:=fY (lS f i a);obtain⟨⟨rs,rx⟩,rk⟩:=R;rw[<-hL]at l1 l2;rw[<-a9]at g2 g3;have bg:j7 (l9 f a) x L=((rs,rx),rk):=by rw[HX.out,hL];exact a9.symm
      have b6:aQ (∀V,aR U.heap.size U V->aw prog 157 #[ae aj (a:Int),ag (some ⟨K,0,none⟩)] V fun e w'=>e=ao (ae aj (L:Int))/\mh V w'):=
       fX fun V hV=>by rw[hL];exact N6 V K w.heap.size (some ⟨b,o,none⟩) i c f a ((hV.cell (p:=⟨K,0,none⟩) bt).trans uk) (bJ.below (hV.mono a8.size) fZ) al (by omega)
      have b7:aQ (∀V:aq,aw prog 158 #[ae .u8 (x:Int),ai kn,ae aj (L:Int)] V fun e w'=>e=ao (.tuple #[ah #[ae aj rs,ae aj rx],ae aj (rk:Int)])/\aR V.heap.size V w'):=
       fX fun V=>by have h:=N7 V (l9 f a) x L kn (by rw[a6.out,HX.out]) (by have:=aX;omega) l1 (by omega);rw[bg]at h;exact h
      have b8:aQ (kU f i a=(rs,rx)::kU f i (a+rk)):=fX (by rw[bF.out,<-a9]);have cu:=fX a8;have bK:=fX bG;have b9:=fX bH;have bL:=fX bt;have bM:=fX bI
      rw[<-hU];have aZ:aR U.heap.size U U.drew:=gC.drew;have ca:(U.alloc (ak #[ae aj 0,ae aj 0] 192)).drew.cell? ⟨K,0,none⟩=some (af (some ⟨b,o,none⟩) i c):=((((Below.refl U.heap.size U).alloc fZ (ak #[ae aj 0,ae aj 0] 192)).cell (p:=⟨K,0,none⟩) bt).trans uk);have cb:(U.alloc (ak #[ae aj 0,ae aj 0] 192)).drew.cell? ⟨b,o+a,none⟩=some (ae .u8 (x:Int)):=((((Below.refl U.heap.size U).alloc fZ (ak #[ae aj 0,ae aj 0] 192)).cell (p:=⟨b,o+a,none⟩) bI).trans u1);have cf:U.drew.cell? ⟨K,0,none⟩=some (af (some ⟨b,o,none⟩) i c):=uk;have cg:U.drew.cell? ⟨b,o+a,none⟩=some (ae .u8 (x:Int)):=u1;clear hU a8 bG bH bJ hL a9 bg a6 bF HX c1 ck;go_wp2_with fail
      go_cut [10,11] (fun v10 v11 wx=>v11=ae aj (rk:Int)/\∃X,v10=ag (some ⟨X,0,none⟩)/\nK wx X (ae aj rs) (ae aj rx)/\aR U.heap.size U wx)
      case first=>
       go_region_law (first
        |(refine xo rfl 158 _ _ rfl (enters_of func158 (by kernel_rfl) rfl) (#[ae .u8 (x:Int),ai kn,ae aj (L:Int)]) (by simp[Act.put,Act.eval,List.setIfInBounds_toArray,List.set_cons_zero,List.set_cons_succ]) (b7.out _) ?_;rintro e w7 ⟨rfl,bd⟩;have aS:aR U.heap.size U w7:=(by first|exact ad.trans (bd.mono ad.size)|exact(ad.alloc ad.size _).trans (bd.mono (ad.alloc ad.size _).size));(first|(have a1:=bu.below bd bu.lt;obtain⟨z1,z2,z3,z4,z5⟩:=id a1)|(have a1:=(nK.new w6 _ _ _).below bd (nK.new w6 _ _ _).lt;obtain⟨z1,z2,z3,z4,z5⟩:=id a1)|skip);refine⟨_,rfl,?_⟩)
        |(refine N8 rfl 157 #[ag (some ⟨K,0,none⟩)] _ _ _ rfl (by simp[Act.put,Act.eval,List.setIfInBounds_toArray,List.set_cons_zero,List.set_cons_succ]) (enters_of func157 (by kernel_rfl) rfl) (#[ae aj (a:Int),ag (some ⟨K,0,none⟩)]) (by simp[Act.put,Act.eval,List.setIfInBounds_toArray,List.set_cons_zero,List.set_cons_succ]) (b6.out _ (by first|assumption|exact aZ.alloc fZ _)) ?_;rintro e w6 ⟨rfl,bx⟩;have ad:aR U.heap.size U w6:=bx.below (by first|assumption|exact aZ.alloc fZ _);(first|(have bu:=Oa bx;obtain⟨y1,y2,y3,y4,y5⟩:=id bu)|skip);have k6:=(ad.cell (p:=⟨K,0,none⟩) bL.out).trans uk;have u6:=(ad.cell (p:=⟨b,o+a,none⟩) bM.out).trans u1;have k8:=((ad.alloc ad.size (ak #[ae aj 0,ae aj 0] 192)).cell (p:=⟨K,0,none⟩) bL.out).trans uk;have u8:=((ad.alloc ad.size (ak #[ae aj 0,ae aj 0] 192)).cell (p:=⟨b,o+a,none⟩) bM.out).trans u1;clear bx;refine⟨_,rfl,?_⟩))
       all_goals(
        go_wp2_with fail
        go_meet;first
         |exact⟨rfl,w7.heap.size,rfl,nK.new w7 _ _ _,aS.alloc aS.size _⟩
         |exact⟨rfl,w6.heap.size,rfl,a1.set _ _,(aS.setCell (p:=⟨w6.heap.size,0,none⟩) ad.size _).setCell (p:=⟨w6.heap.size,1,none⟩) ad.size _⟩
         |exact⟨rfl,U.heap.size,rfl,a1.set _ _,(aS.setCell (p:=⟨U.heap.size,0,none⟩) fZ _).setCell (p:=⟨U.heap.size,1,none⟩) fZ _⟩)
      case rest=>
       obtain⟨rfl,X,rfl,bz,a2⟩:=hcut;obtain⟨wx,rfl⟩:∃wx:aq,wx=wc:=⟨_,rfl⟩;have aT:=bK.out.trans (a2.mono bK.out.size);obtain⟨A',c',w',bj,bk,bN⟩:=Cj wx W1.heap.size At p ct pre (xE b9.out a2) (rs,rx) (by omega) aT.size;have bO:=fX bj;have bP:=fX bk;have ch:=fX (aT.trans bN);have cj:=fX (show wx.rangeAt X 0 [ae aj rs,ae aj rx]from N9 bz.c0 bz.c1)
       have bQ:=fX (show(pre++[(rs,rx)])++kU f i (a+rk)=kU f i 0 by have bR:=HK.out;rw[b8.out]at bR;rw[List.append_assoc];exact bR);have hq:p+1<=a+rk:=by omega
       clear bj bk bN aT bz a2 uk u1 ca cb cf cg aZ;obtain⟨q,bS⟩:=fY (a+rk);have eq:(a:Int)+(rk:Int)=(q:Int):=by omega
       rw[<-bS]at g3 hq bQ;clear bS;go_wp2_with (first
        |(refine aF rfl _ _ rfl X 0 rfl [ae aj rs,ae aj rx] _ cj.out underlying192 rfl kZ ?_)
        |(at_builtin;refine wpList_append_run rfl (.tmp 55) (.tmp 57) 189 rfl (af At p ct) (af (some ⟨wx.heap.size,0,none⟩) 1 1) (af A' (p+1) c') w' rfl rfl bO.out ?_))
       go_roundw
       case rel=>exact⟨p+1,q,A',c',pre++[(rs,rx)],g3,hq,rfl,by go_num,bQ,bP,ch⟩
       case measure=>simp[aP];omega
    ·obtain rfl:a=i:=by omega
     have aW:¬(a:Int)<(a:Int):=by omega
     have hk:=HK.out;have ck:=HC.out;rw[AX fZ,List.append_nil,<-b1.out]at hk;have a3:=pk.gR HO.out;have bT:=fX (Ob HO.out);rw[hk]at a3;have bU:=fX a3;clear a3 hk al;go_wp2;go_ret2;exact⟨At,p,ct,rfl,bU.out,HB.out,fun b o e=>Nat.le_trans aU.out.size (bT.out b o e)⟩
theorem Od(w:aq)(s:Int):aw prog 160 #[ae aj s] w fun e w'=>e=ao (.tuple #[ae aj (iU s),ae aj (jX s)])/\aR w.heap.size w w':=
 (N0 w s).mono fun _ _ ⟨a,b⟩=>⟨a,b▸Below.refl _ _⟩
theorem Oe{C:aq->Prop}{K:Act->Prop}{a:Act}{o:Oper}(f:FuncId)(r:ax)(x:Operand)(xs:Array Operand)(ts:Array aB)(ho:o.op=.call {callee:=.value x,args:=xs,argTypes:=ts})(d:Option Tmp)(hd:o.dst=d)(hv:a.eval x=.func (.func f) #[r] #[])
  (eg:∀args w,(callFunc f args).run prog w=.ok (.enter f args) w) (args:Array ax) (hx:#[r]++xs.map a.eval=args) (v:ax) (hc:∀w,C w->aw prog f args w fun e w'=>e=ao v/\C w') (hk:K (a.put d v)):o.quiet prog a C K:=by
 subst hd
 have ad:∀(ρ:Operand->ax) (w:aq),ρ x=.func (.func f) #[r] #[]->#[r]++xs.map ρ=args->(execOp ρ o).run prog w=.ok (.enter f args) w:=by
  intro ρ w h1 h2;simp[execOp,ho,resolve,invoke,h1,h2,go_sem,eg,Deferred.ofValue]
 exact⟨v,fun w hw=>by unfold Oper.quietAt;rw[ad _ w hv hx];exact⟨rfl,hc w hw⟩,hk⟩
theorem jm.kept{S:Nat->Prop}{w w':aq}{g n:Nat}{x l:Nat->Nat}(h:jm w g n x l)(hk:gJ S w w')(hS:S g):jm w' g n x l:=by
 obtain⟨cur,h1,h2⟩:=h;exact⟨cur,(hk g hS).trans h1,h2⟩
theorem kx.zw{S:Nat->Prop}{w w':aq}{B:Nat}{A:Option au}{l:List (Int×Int)}(h:kx w B A l)(hk:gJ S w w'){b o:Nat}(hA:A=some ⟨b,o,none⟩)(hS:S b){j:Nat}(hj:j<l.length):w'.rangeAt b (o+j*2) (mC (l.getD j oz)):=
 fun i v hv=>(hk.cell (p:=⟨b,o+j*2+i,none⟩) hS).trans (h.range hA hj i v hv)
theorem Og(w:aq)(S:Nat->Prop)(B g:Nat)(f:Nat->Nat)(K:Nat)(A2:Option au)(m c2:Nat)(l:List (Int×Int))(F:Nat->Nat)(gk ck:Nat)(h:ic w S B g f K)(hm:m=l.length)(hr:kx w w.heap.size A2 l)(hS:oT S A2 m)(bY:m<=1000)
  (bp:jm w gk 19 (iO F 19) F) (bq:S gk) (hF:jP F 19 15=0) (hl:∀r∈l,0<=r.1/\r.1<=18/\0<=r.2/\pF (r.2.toNat,(iU r.1).toNat)) (hk:K+Pq (l.flatMap (jS F))<=16000000):
  aw prog 136 #[ag (some ⟨g,0,none⟩),af A2 m c2,.func (.func 86) #[af (some ⟨gk,0,none⟩) 19 ck] #[]] w fun e w'=>e=ao (.tuple #[])/\ic w' S B g (gK f K (l.flatMap (jS F))) (K+Pq (l.flatMap (jS F)))/\gJ S w w'/\aR B w w':=by
 have H:=fX h;have HM:=fX hm;have HR:=fX hr;have HS:=fX hS;have bG:=fX bp;have bH:=fX bq;have HF:=fX hF;have HL:=fX hl;have HK:=fX hk
 clear h hm hr hS bp bq hF hl hk
 go_enter func136,ntmps136
 go_wp2_with fail
 go_loopw [12] (fun iv wr=>∃i:Nat,i<=m/\iv=ae aj (i:Int)/\aQ (ic wr S B g (gK f K ((l.take i).flatMap (jS F))) (K+Pq ((l.take i).flatMap (jS F))))/\aQ (gJ S w wr)/\aQ (aR B w wr)) (fun iv _=>m-(aP iv).toNat)
 case atStart=>exact⟨0,Nat.zero_le _,rfl,fX H.out,fX (gJ.refl _ _),fX gC⟩
 case round=>
  obtain⟨i,hi,rfl,a5,a6,HB⟩:=hrel;by_cases bI:i<m
  ·have br:(i:Int)<(m:Int):=by omega
   have a7:i<l.length:=by rw[<-HM.out];exact bI
   obtain⟨b,o,rfl,bJ,hc⟩:=HR.out.at a7;have bt:S b:=HS.out b o (by omega) rfl;have bj:=HR.out.zw a6.out rfl bt a7;obtain⟨s0,bk,x0,al⟩:=HL.out _ (uR a7);have ad:=Cp (F:=F) a7;have hle:Pq ((l.take (i+1)).flatMap (jS F))<=Pq (l.flatMap (jS F)):=by
    have e:l.flatMap (jS F)=(l.take (i+1)).flatMap (jS F)++(l.drop (i+1)).flatMap (jS F):=by rw[<-List.flatMap_append,List.take_append_drop]
    rw[e,iQ];omega
   obtain⟨⟨s,x⟩,ht⟩:∃t,t=l.getD i oz:=⟨_,rfl⟩;rw[<-ht]at bj s0 bk x0 al ad;dsimp only at s0 bk x0 al;obtain⟨q,rfl⟩:=Int.eq_ofNat_of_zero_le s0;obtain⟨y,rfl⟩:=Int.eq_ofNat_of_zero_le x0;have aU:iU ((q:Nat):Int)=((j8 (q:Int):Nat):Int):=by unfold iU;rw[if_pos (by omega)]
   obtain⟨bb,bl⟩:=fY (j8 (q:Int));rw[<-bl]at aU;have bK:bb<=7:=by rw[bl];exact uQ _
   rw[aU,Int.toNat_natCast,Int.toNat_natCast]at al;have hy:y<128:=by
    have:=al.1;have e:(2:Nat)^bb<=2^7:=Nat.pow_le_pow_right (by omega) bK;have e2:(2:Nat)^7=128:=rfl;dsimp only at this;omega
   have bu:jS F ((q:Int),(y:Int))=[jr F 19 q,(y,bb)]:=by unfold jS;rw[aU,Int.toNat_natCast,Int.toNat_natCast,Int.toNat_natCast]
   rw[bu]at ad;obtain⟨⟨Z,Y⟩,aV⟩:∃t,t=jr F 19 q:=⟨_,rfl⟩;obtain⟨G,hG⟩:=fY (gK f K ((l.take i).flatMap (jS F)));obtain⟨k,a8⟩:=fY (K+Pq ((l.take i).flatMap (jS F)));have aW:=a5.out;rw[<-hG,<-a8]at aW;obtain⟨W3,a9⟩:=fY (iq wr #[ae aj 0,ae aj 0] #[ae aj (q:Int),ae aj (y:Int)] 192);have aX:aR wr.heap.size wr W3:=by rw[a9];exact kN _ _ _ _
   have aS:W3.heap[wr.heap.size]?=some (ak #[ae aj (q:Int),ae aj (y:Int)] 192 (0,0)):=by rw[a9];exact kY wr _ _ _
   have bm:wr.heap.size<W3.heap.size:=(Array.getElem?_eq_some_iff.1 aS).1;have y0:W3.cell? ⟨wr.heap.size,0,none⟩=some (ae aj (q:Int)):=(aH W3 _ 0 _ _ (0,0) aS).trans rfl;have y1:W3.cell? ⟨wr.heap.size,1,none⟩=some (ae aj (y:Int)):=(aH W3 _ 1 _ _ (0,0) aS).trans rfl;have bn:=fun V:aq=>Od V ((q:Nat):Int)
   rw[aU]at bn;have aY:pF (Z,Y):=by
    obtain⟨h1,h2⟩:=zv HF.out (show q<19 by omega);rw[aV];exact⟨rj _ _,by show F q<=16;omega⟩
   have bd:k+Pq [(Z,Y),(y,bb)]=K+Pq ((l.take (i+1)).flatMap (jS F)):=by rw[ad,iQ,a8,aV];omega
   have bf:gK G k [(Z,Y),(y,bb)]=gK f K ((l.take (i+1)).flatMap (jS F)):=by rw[ad,lI,hG,a8,aV]
   have bL:k+Pq [(Z,Y),(y,bb)]<=16000000:=by have:=HK.out;omega
   have aZ:=bG.out.kept a6.out bH.out;have bM:gk<wr.heap.size:=aZ.lt;have bx:=aW.top;have aT:=fX (aW.after aX);have bg:=fX (a6.out.tr (gJ.below bx aX));have bz:=fX (HB.out.trans (aX.mono aW.size));have a1:=fX (aZ.below aX bM);have bN:=fX a9;have bO:=fX (show wr.rangeAt b (o+i*2) [ae aj (q:Int),ae aj (y:Int)]from bj)
   have bP:=fX bn;have bQ:=fX aY;have bR:=fX bd;have bS:=fX bf;have bT:=fX aV;have bU:=fX al
   have bA:q<19:=by omega
   have bZ:(bb:Int)<=7:=by omega
   clear bj aX aS a9 bn aY bd bf aV al aW aZ bx ad hle ht hc bJ bt s0 bk x0 aU bl bu hG a8 a5;go_wp2_with (first
    |refine aF rfl _ _ rfl b (o+i*2) rfl [ae aj (q:Int),ae aj (y:Int)] _ bO.out underlying192 rfl kZ ?_
    |(refine aC rfl _ _ _ rfl rfl wr.heap.size #[ae aj (q:Int),ae aj (y:Int)] rfl rfl 192 #[ae aj 0,ae aj 0] (aG wr _) kZ rfl (by simp[Value.oneCell']) ?_;change wpList _ _ _ _ _ (iq wr #[ae aj 0,ae aj 0] #[ae aj (q:Int),ae aj (y:Int)] 192);rw[<-bN.out])
    |fail)
   refine(bP.out W3).mono ?_;rintro e w4 ⟨rfl,av⟩;have bB:wr.heap.size<w4.heap.size:=by have:=av.size;omega
   have x0:∀p:ka w4.heap.size w4,p.w.cell? ⟨wr.heap.size,0,none⟩=some (ae aj (q:Int)):=fun p=>(p.h.cell (p:=⟨wr.heap.size,0,none⟩) bB).trans ((av.cell (p:=⟨wr.heap.size,0,none⟩) bm).trans y0)
   have x1:∀p:ka w4.heap.size w4,p.w.cell? ⟨wr.heap.size,1,none⟩=some (ae aj (y:Int)):=fun p=>(p.h.cell (p:=⟨wr.heap.size,1,none⟩) bB).trans ((av.cell (p:=⟨wr.heap.size,1,none⟩) bm).trans y1)
   have a2:=a1.out.below av a1.out.lt;have T1:aQ (∀V,aR w4.heap.size w4 V->aw prog 86 #[af (some ⟨gk,0,none⟩) 19 ck,ae aj (q:Int)] V fun e w'=>e=ao (ah #[ae .u32 (Z:Int),ae aj (Y:Int)])/\aR w4.heap.size w4 w'):=fX fun V hV=>by
    have h1:=Fi V gk 19 ck F q (a2.below hV a2.lt) HF.out bA (by omega);rw[<-bT.out]at h1;exact h1.mono fun _ _ ⟨e,b⟩=>⟨e,hV.trans (b.mono hV.size)⟩
   have a3:=fX (aT.out.after av);have bC:=fX (bg.out.tr (gJ.below aT.out.top av));have bV:=fX (bz.out.trans (av.mono aT.out.size))
   clear av y0 y1 bm a2 aT bg bz a1;go_wp2;refine uM 9 w4.heap.size w4 gC (by kernel_rfl) (by kernel_rfl) (.tmp 0) (ag (some ⟨g,0,none⟩)) rfl (some 22) rfl rfl rfl rfl (by kernel_rfl) (fun _ _ _ h=>h) ?_;simp only[List.take_succ_cons,List.take_zero,List.drop_succ_cons,List.drop_zero,Act.put,List.setIfInBounds_toArray,List.set_cons_zero,List.set_cons_succ];repeat (first
    |(go_big_quiet_want;refine uL 169 #[(0,.tmp 29),(1,.tmp 30)] rfl (some 31) rfl #[ae .u32 (y:Int),ae aj (bb:Int)] (by simpa[Act.eval]using lk (y:Int) (bb:Int)) ?_;go_big_quiet_on;simp only[Act.put,List.setIfInBounds_toArray,List.set_cons_zero,List.set_cons_succ])
    |(go_big_quiet_want;refine Oe 86 (af (some ⟨gk,0,none⟩) 19 ck) (.tmp 23) #[.tmp 25] #[3] rfl (some 26) rfl (by simp[Act.eval]) (enters_of func86 (by kernel_rfl) rfl) #[af (some ⟨gk,0,none⟩) 19 ck,ae aj (q:Int)] (by simp[Act.eval]) (ah #[ae .u32 (Z:Int),ae aj (Y:Int)]) (fun V ⟨p,hp⟩=>by rw[hp];exact mR T1.out p) ?_;go_big_quiet_on;simp only[Act.put,List.setIfInBounds_toArray,List.set_cons_zero,List.set_cons_succ])
    |(go_big_quiet_step (fail)))
   refine wpQuiet_nil ?_;rintro V ⟨⟨V,hV⟩,rfl⟩;have bD:=a3.out.after hV;have a4:=nJ V S B g G k [(Z,Y),(y,bb)] 2 rfl #[ae .u32 (Z:Int),ae aj (Y:Int),ae .u32 (y:Int),ae aj (bb:Int)] rfl bD (by omega) (fun z hz=>by
    simp only[List.mem_cons,List.not_mem_nil,or_false]at hz;rcases hz with rfl|rfl
    ·exact bQ.out
    ·exact bU.out) bL
   rw[bR.out,bS.out]at a4;have bE:=fX a4;have bF:=fX (bC.out.tr (gJ.below a3.out.top hV));have bW:=fX (bV.out.trans (hV.mono a3.out.size))
   clear a4 bD hV x0 x1 T1;go_wp2_with fail
   refine bE.out.mono ?_;rintro e w5 ⟨rfl,h1,h2,h3⟩;have H1:=fX h1;have H2:=fX (bF.out.tr h2);have H3:=fX (bW.out.trans h3)
   clear h1 h2 h3;go_wp2;go_roundw
   case rel=>exact⟨i+1,by omega,by go_num,H1,H2,H3⟩
   case measure=>simp[aP];omega
  ·obtain rfl:i=m:=by omega
   have br:¬(i:Int)<(i:Int):=by omega
   have hr:=a5.out;rw[HM.out,List.take_length]at hr;have bX:=fX hr;clear hr a5;go_wp2;go_end0;exact⟨rfl,bX.out,a6.out,HB.out⟩
theorem jL.zw{S:Nat->Prop}{w w':aq}{B:Nat}{A:Option au}{l:List gA}(h:jL w B A l)(hk:gJ S w w'){b o:Nat}(hA:A=some ⟨b,o,none⟩)(hS:S b){j:Nat}(hj:j<l.length):w'.rangeAt b (o+j*3) (jb (l.getD j iE)):=
 fun i v hv=>(hk.cell (p:=⟨b,o+j*3+i,none⟩) hS).trans (h.range hA hj i v hv)
structure oY (w:aq) (S:Nat->Prop) (g n:Nat) (F:Nat->Nat):Prop where
 row:jm w g n (iO F n) F
 ins:S g
 zx:jP F n 15=0
theorem oY.kept{S:Nat->Prop}{w w':aq}{g n:Nat}{F:Nat->Nat}(h:oY w S g n F)(hk:gJ S w w'):oY w' S g n F:=⟨h.row.kept hk h.ins,h.ins,h.zx⟩
theorem oY.of{S:Nat->Prop}{w:aq}{g n:Nat}{F:Nat->Nat}(h:oY w S g n F)(c i:Nat)(hi:i<n)(hn:n<=1000000)(Z Y:Nat)(hZ:jr F n i=(Z,Y)):
  aw prog 86 #[af (some ⟨g,0,none⟩) n c,ae aj (i:Int)] w fun e w'=>e=ao (ah #[ae .u32 (Z:Int),ae aj (Y:Int)])/\aR w.heap.size w w':=by
 have h1:=Fi w g n c F i h.row h.zx hi hn
 rw[hZ]at h1
 exact h1
theorem oY.fit{S:Nat->Prop}{w:aq}{g n:Nat}{F:Nat->Nat}(h:oY w S g n F){i:Nat}(hi:i<n):pF (jr F n i):=by
 obtain⟨_,h2⟩:=zv h.zx hi;exact⟨rj _ _,by show F i<=16;omega⟩
theorem Oh{F G:Nat->Nat}{n k:Nat}{l:List gA}{i:Nat}(h:i<l.length):(l.take (i+1)).flatMap (iR F n G k)=(l.take i).flatMap (iR F n G k)++iR F n G k (l.getD i iE):=by
 rw[Qb h,List.flatMap_append];simp
theorem Oi{F G:Nat->Nat}{n k:Nat}(l:List gA)(i:Nat):Pq ((l.take i).flatMap (iR F n G k))<=Pq (jh F n G k l):=by
 have e:l.flatMap (iR F n G k)=(l.take i).flatMap (iR F n G k)++(l.drop i).flatMap (iR F n G k):=by rw[<-List.flatMap_append,List.take_append_drop]
 unfold jh;rw[e,iQ,iQ];omega
theorem Oj(w:aq)(S:Nat->Prop)(B g:Nat)(f:Nat->Nat)(K:Nat)(A2:Option au)(m c2:Nat)(l:List gA)(F:Nat->Nat)(ga n ca:Nat)(G:Nat->Nat)(gb k cb:Nat)(h:ic w S B g f K)(hm:m=l.length)(hr:jL w w.heap.size A2 l)(hS:oT S A2 m)(cV:m<=1000000)
  (ha:oY w S ga n F) (hb:oY w S gb k G) (hn:n<=1000) (cW:k<=1000) (bO:256<n) (b4:∀t∈l,gS t=true/\t.x<256) (b5:∀t∈l,jt t<n/\(t.n≠0->kV t<k)) (hk:K+Pq (jh F n G k l)<=16000000):
  aw prog 84 #[ag (some ⟨g,0,none⟩),af A2 m c2,.func (.func 86) #[af (some ⟨ga,0,none⟩) n ca] #[],.func (.func 86) #[af (some ⟨gb,0,none⟩) k cb] #[]] w fun e w'=>e=ao (.tuple #[])/\ic w' S B g (gK f K (jh F n G k l)) (K+Pq (jh F n G k l))/\gJ S w w'/\aR B w w':=by
 have H:=fX h;have HM:=fX hm;have HR:=fX hr;have HS:=fX hS;have HA:=fX ha;have b6:=fX hb;have cF:=fX b4;have cG:=fX b5;have HK:=fX hk
 clear h hm hr hS ha hb b4 b5 hk
 go_enter func84,ntmps84
 go_wp2_with fail
 go_loopw [16] (fun iv wr=>∃i:Nat,i<=m/\iv=ae aj (i:Int)/\aQ (ic wr S B g (gK f K ((l.take i).flatMap (iR F n G k))) (K+Pq ((l.take i).flatMap (iR F n G k))))/\aQ (gJ S w wr)/\aQ (aR B w wr)) (fun iv _=>m-(aP iv).toNat)
 case atStart=>exact⟨0,Nat.zero_le _,rfl,fX H.out,fX (gJ.refl _ _),fX gC⟩
 case round=>
  obtain⟨i,hi,rfl,bu,bx,HB⟩:=hrel;by_cases cH:i<m
  ·have b7:(i:Int)<(m:Int):=by omega
   have bj:i<l.length:=by rw[<-HM.out];exact cH
   obtain⟨b,o,rfl,cI,hc⟩:=HR.out.at bj;have b8:S b:=HS.out b o (by omega) rfl;have bU:=HR.out.zw bx.out rfl b8 bj;have bk:l.getD i iE∈l:=by rw[List.getD_eq_getElem?_getD,List.getElem?_eq_getElem bj];exact List.getElem_mem bj
   obtain⟨a9,bl⟩:=cF.out _ bk;obtain⟨aZ,bm⟩:=cG.out _ bk;have aY:=Oh (F:=F) (G:=G) (n:=n) (k:=k) bj;have hle:=Oi (F:=F) (G:=G) (n:=n) (k:=k) l (i+1);obtain⟨t,ht⟩:=fY (l.getD i iE);rw[<-ht]at bU a9 bl aZ bm aY;obtain⟨Q,hQ⟩:=fY (gK f K ((l.take i).flatMap (iR F n G k)));obtain⟨q,hq⟩:=fY (K+Pq ((l.take i).flatMap (iR F n G k)));have bn:=bu.out;rw[<-hQ,<-hq]at bn;have al:q+Pq (iR F n G k t)=K+Pq ((l.take (i+1)).flatMap (iR F n G k)):=by rw[aY,iQ,hq];omega
   have av:gK Q q (iR F n G k t)=gK f K ((l.take (i+1)).flatMap (iR F n G k)):=by rw[aY,lI,hQ,hq]
   have aW:q+Pq (iR F n G k t)<=16000000:=by have:=HK.out;omega
   obtain⟨W3,bz⟩:=fY (iq wr #[ae .u8 0,ae aj 0,ae aj 0] (jb t).toArray 128);have bA:aR wr.heap.size wr W3:=by rw[bz];exact kN _ _ _ _
   have a1:W3.heap[wr.heap.size]?=some (ak (jb t).toArray 128 (0,0)):=by rw[bz];exact kY wr _ _ _
   have bV:wr.heap.size<W3.heap.size:=(Array.getElem?_eq_some_iff.1 a1).1;obtain⟨S',bB⟩:∃S':Nat->Prop,S'=fun j=>S j\/(wr.heap.size<=j/\j<W3.heap.size):=⟨_,rfl⟩
   have b9:∀j,S j->S' j:=fun j hj=>by rw[bB];exact .inl hj
   have cf:S' wr.heap.size:=by rw[bB];exact .inr ⟨Nat.le_refl _,bV⟩
   have bP:ic W3 S' B g Q q:=by rw[bB];exact bn.grow bA
   have y0:W3.cell? ⟨wr.heap.size,0,none⟩=some (ae .u8 (t.x:Int)):=(aH W3 _ 0 _ _ (0,0) a1).trans rfl;have y1:W3.cell? ⟨wr.heap.size,1,none⟩=some (ae aj t.d):=(aH W3 _ 1 _ _ (0,0) a1).trans rfl;have y2:W3.cell? ⟨wr.heap.size,2,none⟩=some (ae aj t.n):=(aH W3 _ 2 _ _ (0,0) a1).trans rfl;have cg:gJ S w W3:=bx.out.tr (gJ.below bn.top bA);have aV:=fX bP;have aX:=fX b9;have cJ:=fX cf;have bC:=fX cg;have bW:=fX (HB.out.trans (bA.mono bn.size));have ch:=fX bz;have cj:=fX bU
   have a2:=fX al;have a3:=fX av;have ck:=fX a9;have cl:=fX bm
   clear bP b9 cf cg bA a1 bz bB bn bU al av hQ hq aY hle ht bk hc cI b8 bu;by_cases h0:t.n=0
   ·have cK:(t.n==0)=true:=by rw[h0];rfl
    have cm:jt t=t.x:=by unfold jt;rw[if_pos h0]
    have aU:iR F n G k t=[jr F n t.x]:=by unfold iR;rw[if_pos h0]
    rw[cm]at aZ;rw[aU]at aW;have al:=a2.out;have av:=a3.out;rw[aU]at al av;obtain⟨x,hx⟩:=fY (t.x);rw[<-hx]at aZ aW al av y0 bl;have a4:=HA.out.fit (i:=x) aZ;obtain⟨⟨Z,Y⟩,hZ⟩:∃t,t=jr F n x:=⟨_,rfl⟩;rw[<-hZ]at aW al av a4;have bp:=(HA.out.kept bC.out).of ca x aZ (by omega) Z Y hZ.symm;have bX:=fX bp;have a2:=fX al;have a3:=fX av;have bY:=fX a4
    clear bp al av a4 hZ hx cm aU ck cl a9 bm;go_wp2_with (first|refine aF rfl _ _ rfl b (o+i*3) rfl (jb t) _ cj.out underlying128 rfl sF ?_|refine aC rfl _ _ _ rfl rfl wr.heap.size (jb t).toArray rfl rfl 128 #[ae .u8 0,ae aj 0,ae aj 0] (aG wr _) (sW _) rfl (tQ _) ?_;change wpList _ _ _ _ _ (iq wr #[ae .u8 0,ae aj 0,ae aj 0] (jb t).toArray 128);rw[<-ch.out]|fail)
    refine bX.out.mono ?_;rintro e w4 ⟨rfl,aS⟩;have ad:=nJ w4 S' B g Q q [(Z,Y)] 1 rfl #[ae .u32 (Z:Int),ae aj (Y:Int)] rfl (aV.out.after aS) (by omega) (fun z hz=>by
     simp only[List.mem_singleton]at hz;rw[hz];exact bY.out) aW
    rw[a2.out,a3.out]at ad;have aT:=fX ad;have a5:=fX (bC.out.tr ((gJ.below aV.out.top aS).less aX.out));have bd:=fX (bW.out.trans (aS.mono aV.out.size))
    clear ad aS y0 y1 y2;go_wp2_with fail
    refine aT.out.mono ?_;rintro e w5 ⟨rfl,h1,h2,h3⟩;have H1:=fX (h1.less aX.out);have H2:=fX (a5.out.tr (h2.less aX.out));have H3:=fX (bd.out.trans h3)
    clear h1 h2 h3;go_wp2;go_roundw
    case rel=>exact⟨i+1,by omega,by go_num,H1,H2,H3⟩
    case measure=>simp[aP];omega
   ·have cK:(t.n==0)=false:=by rw[beq_eq_false_iff_ne];exact h0
    obtain⟨bD,bE,_,_⟩:=(lU a9 bl).2.2 h0;obtain⟨bf,bg⟩:=Ll a9 bl h0;obtain⟨_,_,_,_,p1,_,p3,p4⟩:=rf bD;obtain⟨_,_,_,_,q1,_,q3,q4⟩:=rh bE;have bZ:=bm h0;have eS:ji t.n=((jt t:Nat):Int):=by
     have h5:3<=t.n/\t.n<=258:=wZ bD;have:0<=ji t.n:=by unfold ji;rw[if_pos h5];omega
     unfold jt;rw[if_neg h0];omega
    have eD:iV t.d=((kV t:Nat):Int):=by
     have h5:1<=t.d/\t.d<=32768:=xc bE;have:0<=iV t.d:=by unfold iV;rw[if_pos h5];omega
     unfold kV;omega
    have aU:iR F n G k t=[jr F n (ji t.n).toNat,((kC t.n).toNat,(kq t.n).toNat),jr G k (iV t.d).toNat,((kL t.d).toNat,(kr t.d).toNat)]:=by unfold iR;rw[if_neg h0]
    rw[eS,eD,Int.toNat_natCast,Int.toNat_natCast]at aU;obtain⟨u,eu⟩:=Int.eq_ofNat_of_zero_le p3;obtain⟨v,ev⟩:=Int.eq_ofNat_of_zero_le q3;obtain⟨x1,bF⟩:=Int.eq_ofNat_of_zero_le p1;obtain⟨x2,bG⟩:=Int.eq_ofNat_of_zero_le q1;have bH:=fun V:aq=>E0 V t.n
    have bI:=fun V:aq=>E4 V t.d
    rw[eS,eu,bF,bD]at bH;rw[eD,ev,bG,bE]at bI;rw[bF,eu,Int.toNat_natCast,Int.toNat_natCast]at bf;rw[bG,ev,Int.toNat_natCast,Int.toNat_natCast]at bg;rw[bF,eu,bG,ev,Int.toNat_natCast,Int.toNat_natCast,Int.toNat_natCast,Int.toNat_natCast]at aU;have cX:x1<65536:=by
     have h1:x1<2^u:=bf.1;have e:(2:Nat)^u<=2^16:=Nat.pow_le_pow_right (by omega) bf.2;have e2:(2:Nat)^16=65536:=rfl;omega
    have cY:x2<65536:=by
     have h1:x2<2^v:=bg.1;have e:(2:Nat)^v<=2^16:=Nat.pow_le_pow_right (by omega) bg.2;have e2:(2:Nat)^16=65536:=rfl;omega
    have cZ:u<=16:=bf.2;have c7:v<=16:=bg.2;obtain⟨sA,cn⟩:=fY (jt t);obtain⟨sD,bQ⟩:=fY (kV t);rw[<-cn]at bH aU aZ;rw[<-bQ]at bI aU bZ;have bq:=HA.out.fit (i:=sA) aZ;have br:=b6.out.fit (i:=sD) bZ;obtain⟨⟨Z1,Y1⟩,bJ⟩:∃t,t=jr F n sA:=⟨_,rfl⟩;obtain⟨⟨Z2,Y2⟩,bK⟩:∃t,t=jr G k sD:=⟨_,rfl⟩;rw[<-bJ,<-bK]at aU;rw[<-bJ]at bq;rw[<-bK]at br;have b0:([(Z1,Y1),(x1,u),(Z2,Y2),(x2,v)]:List (Nat×Nat))=[(Z1,Y1),(x1,u)]++[(Z2,Y2),(x2,v)]:=rfl;have al:=a2.out;have av:=a3.out;rw[aU,b0,iQ]at aW al;rw[aU,b0,lI]at av;obtain⟨q2,bL⟩:=fY (q+Pq [(Z1,Y1),(x1,u)]);obtain⟨Q2,b1⟩:=fY (gK Q q [(Z1,Y1),(x1,u)]);rw[<-Nat.add_assoc,<-bL]at aW al;rw[<-b1,<-bL]at av;have bR:q+Pq [(Z1,Y1),(x1,u)]<=16000000:=by omega
    have cL:=fX bH;have cM:=fX bI;have cp:=fX al;have cq:=fX av;have cN:=fX aW;have cr:=fX bR;have cO:=fX bL;have ct:=fX b1
    have cu:=fX bq;have cv:=fX br;have cP:=fX bf;have cQ:=fX bg;have cR:=fX bJ;have cS:=fX bK;have cw:=fX y1
    clear bH bI al av aW bR bL b1 bq br bf bg bJ bK aU b0 cn bQ eS eD eu ev bF bG bD bE p1 p3 p4 q1 q3 q4 bm a9 bl ck cl a2 a3 y0 y1;go_wp2_with (first|refine aF rfl _ _ rfl b (o+i*3) rfl (jb t) _ cj.out underlying128 rfl sF ?_|refine aC rfl _ _ _ rfl rfl wr.heap.size (jb t).toArray rfl rfl 128 #[ae .u8 0,ae aj 0,ae aj 0] (aG wr _) (sW _) rfl (tQ _) ?_;change wpList _ _ _ _ _ (iq wr #[ae .u8 0,ae aj 0,ae aj 0] (jb t).toArray 128);rw[<-ch.out]|fail)
    refine(cL.out W3).mono ?_;rintro e w4 ⟨rfl,aS⟩;have a6:=fX (aV.out.after aS);have a5:=fX (bC.out.tr ((gJ.below aV.out.top aS).less aX.out));have bd:=fX (bW.out.trans (aS.mono aV.out.size))
    have cx:=fX ((aS.cell (p:=⟨wr.heap.size,1,none⟩) bV).trans cw.out);have cy:wr.heap.size<w4.heap.size:=by have:=aS.size;omega
    have bS:=fX ((HA.out.kept a5.out).of ca sA aZ (by omega) Z1 Y1 cR.out.symm);clear aS y2 aV bC bW cw bV;go_wp2_with fail
    refine bS.out.mono ?_;rintro e w5 ⟨rfl,bt⟩;have ad:=nJ w5 S' B g Q q [(Z1,Y1),(x1,u)] 2 rfl #[ae .u32 (Z1:Int),ae aj (Y1:Int),ae .u32 (x1:Int),ae aj (u:Int)] rfl (a6.out.after bt) (by omega) (fun z hz=>by
     simp only[List.mem_cons,List.not_mem_nil,or_false]at hz;rcases hz with rfl|rfl
     ·exact cu.out
     ·exact cP.out) cr.out
    rw[<-cO.out,<-ct.out]at ad;have aT:=fX ad;have cz:=fX (a5.out.tr ((gJ.below a6.out.top bt).less aX.out));have cA:=fX (bd.out.trans (bt.mono a6.out.size))
    have cB:=fX ((bt.cell (p:=⟨wr.heap.size,1,none⟩) cy).trans cx.out);clear ad bt a6 a5 bd cx bS cy;go_wp2_with (first
     |(refine aD rfl 169 #[(0,.tmp 44),(1,.tmp 45)] rfl (some 46) rfl #[ae .u32 (x1:Int),ae aj (u:Int)] ?_ ?_;focus(simpa[Act.eval]using lk (x1:Int) (u:Int)))
     |fail)
    refine aT.out.mono ?_;rintro e w6 ⟨rfl,h1,h2,h3⟩;have y6:=(h2.cell (p:=⟨wr.heap.size,1,none⟩) cJ.out).trans cB.out;have a7:=fX h1;have cC:=fX (cz.out.tr (h2.less aX.out));have cD:=fX (cA.out.trans h3)
    clear h1 h2 h3 aT cz cA cB;go_wp2_with fail
    refine(cM.out w6).mono ?_;rintro e w7 ⟨rfl,bM⟩;have a8:=fX (a7.out.after bM);have b2:=fX (cC.out.tr ((gJ.below a7.out.top bM).less aX.out));have cE:=fX (cD.out.trans (bM.mono a7.out.size))
    have bT:=fX ((b6.out.kept b2.out).of cb sD bZ (by omega) Z2 Y2 cS.out.symm);clear bM y6 a7 cC cD;go_wp2_with fail
    refine bT.out.mono ?_;rintro e w8 ⟨rfl,bN⟩;have ad:=nJ w8 S' B g Q2 q2 [(Z2,Y2),(x2,v)] 2 rfl #[ae .u32 (Z2:Int),ae aj (Y2:Int),ae .u32 (x2:Int),ae aj (v:Int)] rfl (a8.out.after bN) (by omega) (fun z hz=>by
     simp only[List.mem_cons,List.not_mem_nil,or_false]at hz;rcases hz with rfl|rfl
     ·exact cv.out
     ·exact cQ.out) cN.out
    rw[cp.out,cq.out]at ad;have aT:=fX ad;have cT:=fX (b2.out.tr ((gJ.below a8.out.top bN).less aX.out));have cU:=fX (cE.out.trans (bN.mono a8.out.size))
    clear ad bN a8 b2 cE bT;go_wp2_with (first
     |(refine aD rfl 169 #[(0,.tmp 62),(1,.tmp 63)] rfl (some 64) rfl #[ae .u32 (x2:Int),ae aj (v:Int)] ?_ ?_;focus(simpa[Act.eval]using lk (x2:Int) (v:Int)))
     |fail)
    refine aT.out.mono ?_;rintro e w9 ⟨rfl,h1,h2,h3⟩;have H1:=fX (h1.less aX.out);have H2:=fX (cT.out.tr (h2.less aX.out));have H3:=fX (cU.out.trans h3)
    clear h1 h2 h3;go_wp2;go_roundw
    case rel=>exact⟨i+1,by omega,by go_num,H1,H2,H3⟩
    case measure=>simp[aP];omega
  ·obtain rfl:i=m:=by omega
   have b7:¬(i:Int)<(i:Int):=by omega
   have hr:=bu.out;rw[HM.out,List.take_length]at hr;obtain⟨Q,hQ⟩:=fY (gK f K (l.flatMap (iR F n G k)));obtain⟨q,hq⟩:=fY (K+Pq (l.flatMap (iR F n G k)));rw[<-hQ,<-hq]at hr;obtain⟨⟨Z,Y⟩,hZ⟩:∃t,t=jr F n 256:=⟨_,rfl⟩;have al:q+Pq [(Z,Y)]=K+Pq (jh F n G k l):=by unfold jh;rw[iQ,hq,hZ];omega
   have av:gK Q q [(Z,Y)]=gK f K (jh F n G k l):=by unfold jh;rw[lI,hQ,hq,hZ]
   have a4:=HA.out.fit (i:=256) bO;rw[<-hZ]at a4;have bp:=(HA.out.kept bx.out).of ca 256 bO (by omega) Z Y hZ.symm;have aW:q+Pq [(Z,Y)]<=16000000:=by rw[al];exact HK.out
   have b3:=fX hr;have bX:=fX bp;have a2:=fX al;have a3:=fX av;have bY:=fX a4
   clear hr bp al av a4 hZ hQ hq bu;go_wp2_with fail
   refine bX.out.mono ?_;rintro e w4 ⟨rfl,aS⟩;have ad:=nJ w4 S B g Q q [(Z,Y)] 1 rfl #[ae .u32 (Z:Int),ae aj (Y:Int)] rfl (b3.out.after aS) (by omega) (fun z hz=>by
    simp only[List.mem_singleton]at hz;rw[hz];exact bY.out) aW
   rw[a2.out,a3.out]at ad;have aT:=fX ad;have a5:=fX (bx.out.tr (gJ.below b3.out.top aS));have bd:=fX (HB.out.trans (aS.mono b3.out.size))
   clear ad aS;go_wp2_with fail
   refine aT.out.mono ?_;rintro e w5 ⟨rfl,h1,h2,h3⟩;have H1:=fX h1;have H2:=fX (a5.out.tr h2);have H3:=fX (bd.out.trans h3)
   clear h1 h2 h3;go_wp2;go_end0;exact⟨rfl,H1.out,H2.out,H3.out⟩
theorem gE.rZ{S:Nat->Prop}{w w':aq}{B n:Nat}{A:Option au}{f:Nat->Nat}(h:gE w B A n f)(hk:gJ S w w')(hS:oT S A n)(hB:B<=w'.heap.size):gE w' w'.heap.size A n f:=⟨h.1,fun h0=>by
 obtain⟨b,o,rfl,hb,hc⟩:=h.2 h0;exact⟨b,o,rfl,by omega,fun j hj=>(hk.cell (p:=⟨b,o+j,none⟩) (hS b o h0 rfl)).trans (hc j hj)⟩⟩
theorem kx.rZ{S:Nat->Prop}{w w':aq}{B n:Nat}{A:Option au}{l:List (Int×Int)}(h:kx w B A l)(hk:gJ S w w')(hn:n=l.length)(hS:oT S A n)(hB:B<=w'.heap.size):kx w' w'.heap.size A l:=⟨h.1,fun h0=>by
 obtain⟨b,o,rfl,hb,hc⟩:=h.2 h0;exact⟨b,o,rfl,by omega,fun j u hu=>(hk.cell (p:=⟨b,o+j,none⟩) (hS b o (by omega) rfl)).trans (hc j u hu)⟩⟩
def Qa(a b:Nat):Nat->Nat
 |0=>a
 |_=>b
def wh(f g:Nat->Nat):Nat->Nat->Nat
 |0=>f
 |_=>g
theorem Ok(f g:Nat->Nat)(a b:Nat):PG (Qa a b) 2=a+b/\nO (Qa a b) (wh f g) 2=cat f a g:=by
 refine⟨by simp[PG,Qa],?_⟩;funext j;show cat (cat (fun _=>0) 0 f) (0+a) g j=cat f a g j
 unfold cat;rw[Nat.zero_add];by_cases h:j<a
 ·rw[if_pos h,if_pos h,if_neg (by omega),Nat.sub_zero]
 ·rw[if_neg h,if_neg h]
theorem Ol(l:List gA)(hl:l.length<=1000000):ux (nN l) (nA l+nB l)=ju l/\qZ (nN l) (nA l+nB l)=0:=by
 obtain⟨_,_,_,_,_,a2,_,b2,_⟩:=mB l hl;have h:qZ (nN l) (nA l+nB l)=0:=by unfold qZ;rw[if_neg (by omega),if_pos (fun i _=>uF l hl i)]
 exact⟨by unfold ux;rw[if_pos h];rfl,h⟩
theorem Fk(w:aq)(S:Nat->Prop)(B g:Nat)(f:Nat->Nat)(K:Nat)(A1:Option au)(c1:Nat)(A2:Option au)(c2:Nat)(l:List gA)(h:ic w S B g f K)(hl:l.length<=1000000)
  (h1:gu w w.heap.size A1 (nA l) c1 (iP l)) (h2:gu w w.heap.size A2 (nB l) c2 (iS l)) (hk:K+Pq (kM l)<=16000000):
  aw prog 109 #[ag (some ⟨g,0,none⟩),af A1 (nA l) c1,af A2 (nB l) c2] w fun e w'=>e=ao (.tuple #[])/\ic w' S B g (gK f K (kM l)) (K+Pq (kM l))/\gJ S w w'/\aR B w w':=by
 obtain⟨_,_,_,_,a1,a2,b1,b2,_⟩:=mB l hl
 obtain⟨aU,c9⟩:=rB l hl
 obtain⟨aZ,a7⟩:=Ol l hl
 have bT:∀r∈ju l,0<=r.1/\r.1<=18/\0<=r.2/\pF (r.2.toNat,(iU r.1).toNat):=fun r hr=>by
  obtain⟨x1,x2,x3,_⟩:=aU r hr;exact⟨x1,x2,x3,Lm hl hr⟩
 have bU:=NV l hl
 have a8:∀i,jJ l i<=7:=(su (c:=ku (ju l)) (n:=19) (gy:=7) (by omega) (by omega) (by omega) (by decide) (fun i=>by have:=qw (ju l) i;omega)).1
 have r1:=sx (jK l) 4 19
 have r2:=qv (jK l) 4 19 (by omega)
 have ad:kM l=[(nA l-257,5),(nB l-1,5),(nR l-4,4)]++((List.range (nR l)).map fun i=>(jK l i,3))++(ju l).flatMap (jS (jJ l)):=rfl
 have bu:nR l=PE (fun i=>jJ l (jD i)) 4 19:=rfl
 have bx:jJ l=lN (ku (ju l)) 19 7:=rfl
 have av:cat (iP l) (nA l) (iS l)=nN l:=rfl
 have bz:∀i,jK l i=jJ l (jD i):=fun _=>rfl
 have aV:∀j,iP l j<256:=h1.1.1
 have aW:∀j,iS l j<256:=h2.1.1
 obtain⟨nl,b9⟩:=fY (nA l)
 obtain⟨nd,ca⟩:=fY (nB l)
 obtain⟨nr,bV⟩:=fY (nR l)
 obtain⟨FA,cb⟩:=fY (iP l)
 obtain⟨FB,cf⟩:=fY (iS l)
 obtain⟨FR,cg⟩:=fY (jJ l)
 obtain⟨RR,ch⟩:=fY (jK l)
 obtain⟨al,cj⟩:=fY (nN l)
 obtain⟨rl,bL⟩:=fY (ju l)
 obtain⟨P,hP⟩:=fY (kM l)
 rw[<-b9]at a1 a2 h1 aZ a7 ad av⊢
 rw[<-ca]at b1 b2 h2 aZ a7 ad⊢
 rw[<-cb]at h1 av aV
 rw[<-cf]at h2 av aW
 rw[<-cj]at aZ a7 av
 rw[<-bL]at aZ bT c9 bx ad
 rw[<-cg]at bU a8 bx ad bz bu
 rw[<-ch]at ad bz
 rw[<-bV]at ad bu
 rw[<-hP]at ad hk⊢
 rw[show PE (jK l) 4 19=nR l from rfl,<-bV]at r1 r2
 clear aU b9 ca bV cb cf cg ch cj bL hP
 obtain⟨W1,bA⟩:=fY (w.alloc (ak #[af A1 nl c1,af A2 nd c2] 22))
 have a3:aR w.heap.size w W1:=by rw[bA];exact gC.alloc fZ _
 have aX:W1.heap[w.heap.size]?=some (ak #[af A1 nl c1,af A2 nd c2] 22 (0,0)):=by rw[bA];exact aG w _
 have a9:P5 W1 W1.heap.size (some ⟨w.heap.size,0,none⟩) 2 (Qa nl nd) (wh FA FB):=fun _=>by
  refine⟨w.heap.size,0,rfl,(Array.getElem?_eq_some_iff.1 aX).1,fun i hi=>?_⟩;rcases i with _|_|i
  ·exact⟨A1,c1,(aH W1 _ 0 _ _ (0,0) aX).trans rfl,(h1.1.below a3 fZ).more a3.size,h1.2.1⟩
  ·exact⟨A2,c2,(aH W1 _ 1 _ _ (0,0) aX).trans rfl,(h2.1.below a3 fZ).more a3.size,h2.2.1⟩
  ·omega
 obtain⟨e1,e2⟩:=Ok FA FB nl nd
 have bd:=D9 W1 (some ⟨w.heap.size,0,none⟩) 2 2 (Qa nl nd) (wh FA FB) (fun i j=>by unfold wh;split;exact aV j;exact aW j) a9 (by omega) (by rw[e1];omega)
 rw[e1,e2,av]at bd
 have bM:∀j,al j<256:=fun j=>by rw[<-av];exact zH aV aW j
 have H:=fX h;have bN:=fX bd;have da:=fX bA;have bW:=fX a3;have cl:=fX bM;have db:=fX aZ;have dc:=fX a7;have bX:=fX bT;have cm:=fX bU;have cn:=fX a8;have cp:=fX ad;have dd:=fX bu;have de:=fX bx;have cq:=fX bz;have HK:=fX hk
 clear h bd bA a3 aX a9 e1 e2 bM aZ a7 bT bU a8 ad bu bx bz hk av aV aW h1 h2
 have du:∀(fn:Fn) (first cap:Array ax) (w:aq),(Instr.makeFunc fn first cap).run prog w=.ok (.func fn first cap) w:=fun _ _ _ _=>rfl
 go_enter func109,ntmps109
 go_wp2_with (first|rw[<-da.out]|fail)
 refine bN.out.mono ?_
 rintro e w1 ⟨Ac,cc,rfl,cr,ct⟩
 have bB:=fX (bW.out.trans (ct.mono bW.out.size))
 have bf:=Oc w1 Ac (nl+nd) cc al (gu.gR cr cl.out)
 rw[db.out,dc.out]at bf
 have bO:=fX bf
 clear cr ct bf bN bW
 go_wp2_with fail
 refine bO.out.mono ?_
 rintro e w2 ⟨Au,nu,cu,rfl,aU,cv,cw⟩
 obtain⟨bY,bg,_⟩:=aU
 have bC:=fX (bB.out.trans (cv.mono bB.out.size))
 have bZ:=Nc w2 Au nu cu rl bY bg (by omega) (fun r hr=>⟨(bX.out r hr).1,(bX.out r hr).2.1⟩)
 rw[<-de.out]at bZ
 have cx:=fX bZ;have cy:=fX bg;have b0:=fX bY;have cz:aQ (∀b o,Au=some ⟨b,o,none⟩->w.heap.size<=b):=fX fun b o e=>Nat.le_trans bB.out.size (cw b o e)
 have cA:nu<=1000:=by omega
 clear bZ bg cv cw bO bB bY
 go_wp2_with fail
 refine cx.out.mono ?_
 rintro e w3 ⟨As,cs,rfl,a4,dt,c8,_,cB,bD⟩
 have bE:=fX (bC.out.trans (bD.mono bC.out.size))
 have bP:=fX ((cy.out.below bD fZ).more bD.size)
 have b3:=Nb w3 As cs FR a4
 rw[<-dd.out]at b3
 have cC:=fX b3;have cD:=fX a4;have cE:aQ (∀b o,As=some ⟨b,o,none⟩->w.heap.size<=b):=fX fun b o e=>Nat.le_trans bC.out.size (cB b o e)
 clear b3 a4 cB bD cx cy bC
 go_wp2_with fail
 refine cC.out.mono ?_
 rintro e w4 ⟨rfl,bj,a5⟩
 have bF:=bE.out.trans (a5.mono bE.out.size)
 have bQ:=bE.out.size
 obtain⟨S4,bG⟩:∃S':Nat->Prop,S'=fun j=>S j\/(w.heap.size<=j/\j<w4.heap.size):=⟨_,rfl⟩
 have bk:ic w4 S4 B g f K:=by rw[bG];exact H.out.grow bF
 have cF:∀j,S j->S4 j:=fun j hj=>by rw[bG];exact .inl hj
 have bH:∀j,w.heap.size<=j->j<w4.heap.size->S4 j:=fun j a b=>by rw[bG];exact .inr ⟨a,b⟩
 have bl:=(bP.out.below a5 fZ).more a5.size
 have bm:=(cD.out.below a5 fZ).more a5.size
 have cG:oT S4 Au nu:=fun b o h0 e=>by
  obtain⟨b',o',e',cH,_⟩:=bl.at (k:=0) (by have:=b0.out;omega);rw[e]at e';injection e' with e'
  injection e' with e1
  exact bH b (cz.out b o e) (by omega)
 have cI:oT S4 As 19:=fun b o h0 e=>by
  obtain⟨b',o',e',cH,_⟩:=bm.2 h0;rw[e]at e';injection e' with e'
  injection e' with e1
  exact bH b (cE.out b o e) (by omega)
 have cJ:S4 w3.heap.size:=bH _ bQ bj.lt
 have cK:gJ S w w4:=gJ.below H.out.top bF
 have cL:aR B w w4:=bF.mono H.out.size
 have b4:=fX bk;have b5:=fX cF;have cM:=fX bl;have cN:=fX bm;have cO:=fX cG;have df:=fX cI;have cP:=fX cJ;have dg:=fX cK;have dh:=fX cL;have bR:=fX bj
 clear bk cF bH bl bm cG cI cJ cK cL bj bG bF a5 cC bP cD bE cz cE bQ
 obtain⟨xa,cQ⟩:=fY (nl-257)
 obtain⟨xb,cR⟩:=fY (nd-1)
 obtain⟨xr,cS⟩:=fY (nr-4)
 have ad:=cp.out
 rw[<-cQ,<-cR,<-cS]at ad
 have eA:(nl:Int)-257=(xa:Int):=by omega
 have eB:(nd:Int)-1=(xb:Int):=by omega
 have eR:(nr:Int)-4=(xr:Int):=by omega
 have lA:xa<=29:=by omega
 have lB:xb<=29:=by omega
 have lR:xr<=15:=by omega
 have aT:Pq [(xa,5),(xb,5),(xr,4)]=14:=by simp[Pq]
 have cT:K+14+Pq ((List.range nr).map fun i=>(RR i,3))+Pq (rl.flatMap (jS FR))=K+Pq P:=by
  rw[ad,iQ,iQ,aT];omega
 have b6:gK (gK (gK f K [(xa,5),(xb,5),(xr,4)]) (K+14) ((List.range nr).map fun i=>(RR i,3))) (K+14+Pq ((List.range nr).map fun i=>(RR i,3))) (rl.flatMap (jS FR))=gK f K P:=by
  rw[ad,lI,lI,iQ,aT,Nat.add_assoc]
 obtain⟨Q,hQ⟩:=fY (gK f K [(xa,5),(xb,5),(xr,4)])
 have aS:=nJ w4 S4 B g f K [(xa,5),(xb,5),(xr,4)] 3 rfl #[ae .u32 (xa:Int),ae aj 5,ae .u32 (xb:Int),ae aj 5,ae .u32 (xr:Int),ae aj 4] rfl b4.out (by omega) (fun z hz=>by
  simp only[List.mem_cons,List.not_mem_nil,or_false]at hz;rcases hz with rfl|rfl|rfl
  ·exact ly (by omega) (by omega)
  ·exact ly (by omega) (by omega)
  ·exact ly (by omega) (by omega)) (by rw[aT];have:=HK.out;omega)
 rw[aT,<-hQ]at aS
 rw[<-hQ]at b6
 have aY:=fX aS;have b7:=fX cT;have di:=fX b6
 clear aS cT b6 hQ aT ad cQ cR cS cp
 go_wp2_with (first
  |(refine aD rfl 169 #[(0,.tmp 28),(1,.const (ae aj 5))] rfl (some 29) rfl #[ae .u32 (xa:Int),ae aj 5] ?_ ?_;focus(simpa[Act.eval]using lk (xa:Int) 5))
  |(refine aD rfl 169 #[(0,.tmp 33),(1,.const (ae aj 5))] rfl (some 34) rfl #[ae .u32 (xb:Int),ae aj 5] ?_ ?_;focus(simpa[Act.eval]using lk (xb:Int) 5))
  |(refine aD rfl 169 #[(0,.tmp 38),(1,.const (ae aj 4))] rfl (some 39) rfl #[ae .u32 (xr:Int),ae aj 4] ?_ ?_;focus(simpa[Act.eval]using lk (xr:Int) 4))
  |fail)
 refine aY.out.mono ?_
 rintro e w5 ⟨rfl,h1,h2,h3⟩
 have b8:=fX h1;have dj:=fX h2;have dk:=fX h3
 clear h1 h2 h3 aY eA eB eR
 obtain⟨h,hh⟩:=fY (w3.heap.size)
 rw[<-hh]at cP bR⊢
 have HH:=fX hh
 clear hh
 go_wp2_with fail
 go_loopw [44] (fun iv wr=>∃i:Nat,i<=nr/\iv=ae aj (i:Int)/\aQ (ic wr S4 B g (gK Q (K+14) ((List.range i).map fun i=>(RR i,3))) (K+14+Pq ((List.range i).map fun i=>(RR i,3))))/\aQ (gJ S4 w4 wr)/\aQ (aR B w4 wr)) (fun iv _=>nr-(aP iv).toNat)
 case atStart=>exact⟨0,Nat.zero_le _,rfl,b8,dj,dk⟩
 case round=>
  obtain⟨i,hi,rfl,bI,bn,HB⟩:=hrel;by_cases cH:i<nr
  ·have cU:(i:Int)<(nr:Int):=by omega
   have k1:=(bn.out.cell (p:=⟨h,i,none⟩) cP.out).trans (bR.out.cell (j:=i) (by omega));rw[<-cq.out i]at k1;have dm:RR i<=7:=by rw[cq.out];exact cn.out _
   obtain⟨x,hx⟩:=fY (RR i);rw[<-hx]at k1 dm;have bJ:((List.range (i+1)).map fun i=>(RR i,3))=((List.range i).map fun i=>(RR i,3))++[(x,3)]:=by rw[List.range_succ,List.map_append,hx];rfl
   have dn:Pq ((List.range (i+1)).map fun i=>(RR i,3))<=Pq ((List.range nr).map fun i=>(RR i,3)):=by
    have e:((List.range nr).map fun i=>(RR i,3))=((List.range nr).map fun i=>(RR i,3)).take (i+1)++((List.range nr).map fun i=>(RR i,3)).drop (i+1):=(List.take_append_drop _ _).symm;rw[e,iQ,<-List.map_take,List.take_range,Nat.min_eq_left (by omega)];omega
   have aS:=nJ wr S4 B g _ _ [(x,3)] 1 rfl #[ae .u32 (x:Int),ae aj 3] rfl bI.out (by omega) (fun z hz=>by
    simp only[List.mem_singleton]at hz;rw[hz];exact ly (by omega) (by omega)) (by
    have e:=congrArg Pq bJ;rw[iQ]at e;have:=HK.out;have:=b7.out;omega)
   have eb:K+14+Pq ((List.range i).map fun i=>(RR i,3))+Pq [(x,3)]=K+14+Pq ((List.range (i+1)).map fun i=>(RR i,3)):=by rw[bJ,iQ];omega
   have ef:gK (gK Q (K+14) ((List.range i).map fun i=>(RR i,3))) (K+14+Pq ((List.range i).map fun i=>(RR i,3))) [(x,3)]=gK Q (K+14) ((List.range (i+1)).map fun i=>(RR i,3)):=by rw[bJ,lI]
   rw[eb,ef]at aS;have aY:=fX aS;clear aS bJ dn hx eb ef;go_wp2_with (first
    |(refine aD rfl 169 #[(0,.tmp 50),(1,.const (ae aj 3))] rfl (some 51) rfl #[ae .u32 (x:Int),ae aj 3] ?_ ?_;focus(simpa[Act.eval]using lk (x:Int) 3))
    |fail)
   refine aY.out.mono ?_;rintro e w6 ⟨rfl,h1,h2,h3⟩;have H1:=fX h1;have H2:=fX (bn.out.tr h2);have H3:=fX (HB.out.trans h3)
   clear h1 h2 h3;go_wp2;go_roundw
   case rel=>exact⟨i+1,by omega,by go_num,H1,H2,H3⟩
   case measure=>simp[aP];omega
  ·obtain rfl:i=nr:=by omega
   have cU:¬(i:Int)<(i:Int):=by omega
   have cV:w4.heap.size<=wr.heap.size:=HB.out.size;have a4:=cN.out.rZ bn.out df.out cV;have aU:=cM.out.rZ bn.out b0.out cO.out cV;have cW:=zu wr As 19 cs FR a4 (by omega) (by omega) cm.out;have dp:=fX cW;have cX:=fX aU
   clear cW aU a4;go_wp2_with fail
   refine dp.out.mono ?_;rintro e w7 ⟨gk,ck,rfl,cY,bp,a6⟩;obtain⟨S7,bK⟩:∃S':Nat->Prop,S'=fun j=>S4 j\/(wr.heap.size<=j/\j<w7.heap.size):=⟨_,rfl⟩
   have bq:ic w7 S7 B g (gK Q (K+14) ((List.range i).map fun i=>(RR i,3))) (K+14+Pq ((List.range i).map fun i=>(RR i,3))):=by rw[bK];exact bI.out.grow a6
   have br:∀j,S4 j->S7 j:=fun j hj=>by rw[bK];exact .inl hj
   have cZ:S7 gk:=by rw[bK];exact .inr ⟨cY,bp.lt⟩
   have bt:=Og w7 S7 B g _ _ Au nu cu rl FR gk ck bq b0.out ((cX.out.below a6 fZ).more a6.size) (fun b o h0 e=>br b (cO.out b o h0 e)) cA bp cZ cm.out bX.out (by have:=HK.out;have:=b7.out;omega);rw[b7.out,di.out]at bt;have c7:=fX bt;have bS:=fX br
   have dq:=fX (dg.out.tr ((bn.out.tr (gJ.below bI.out.top a6)).less b5.out));have dr:=fX (dh.out.trans (HB.out.trans (a6.mono bI.out.size)))
   clear bt br cZ bq bK bp a6 cY;go_wp2_with fail
   refine c7.out.mono ?_;rintro e w8 ⟨rfl,h1,h2,h3⟩;have H1:=fX (h1.less fun j hj=>bS.out j (b5.out j hj));have H2:=fX (dq.out.tr (h2.less fun j hj=>bS.out j (b5.out j hj)));have H3:=fX (dr.out.trans h3)
   clear h1 h2 h3;go_wp2;go_end0;exact⟨rfl,H1.out,H2.out,H3.out⟩
def iI(k kind n:Nat)(l:List gA)(last:Bool):List (Nat×Nat):=
 [(if last then 1 else 0,1),(kind,2)]++(if kind=1 then[]else if kind=2 then kM l else[(0,(8-(k+3)%8)%8),(n,16),(65535-n,16)])
def oJ(kind:Nat)(l:List gA):Nat->Nat:=if kind=1 then jG else if kind=2 then iP l else fun _=>0
def oK(kind:Nat)(l:List gA):Nat->Nat:=if kind=1 then kW else if kind=2 then iS l else fun _=>0
def lO(kind:Nat)(l:List gA):Nat:=if kind=1 then 288 else if kind=2 then nA l else 0
def lP(kind:Nat)(l:List gA):Nat:=if kind=1 then 32 else if kind=2 then nB l else 0
def r8(S:Nat->Prop)(B g:Nat)(f:Nat->Nat)(K kind n:Nat)(l:List gA)(last:Bool)(w:aq)(e:Ending)(w':aq):Prop:=
 ∃A1 c1 A2 c2,e=ao (.tuple #[af A1 (lO kind l) c1,af A2 (lP kind l) c2])/\gE w' w'.heap.size A1 (lO kind l) (oJ kind l)/\gE w' w'.heap.size A2 (lP kind l) (oK kind l)/\
  ic w' S B g (gK f K (iI K kind n l last)) (K+Pq (iI K kind n l last))/\gJ S w w'/\aR B w w'
theorem Om(w:aq)(S:Nat->Prop)(B g:Nat)(f:Nat->Nat)(K n gc:Nat)(l:List gA)(h:ic w S B g f K)(hn:n<=65535)(hK:K<=8388608)(aT:iT w gc 317 (kR l) 159)(_:l.length<=65535)(aU:∀t∈l,gS t=true/\t.x<256)(hb:K+Pq (iI K 0 n l false)<=16000000):
  aw prog 83 #[ag (some ⟨g,0,none⟩),ae .u8 0,ai false,ae aj (n:Int),ag (some ⟨gc,0,none⟩)] w (r8 S B g f K 0 n l false w):=by
 have ad:=nJ w S B g f K [(0,1),(0,2)] 2 rfl #[ae .u32 0,ae aj 1,ae .u32 0,ae aj 2] rfl h (by omega) (fun z hz=>by
  simp only[List.mem_cons,List.not_mem_nil,or_false]at hz;rcases hz with rfl|rfl
  ·exact ly (by omega) (by omega)
  ·exact ly (by omega) (by omega)) (by simp[Pq];omega)
 have al:Pq [(0,1),(0,2)]=3:=rfl
 rw[al]at ad
 obtain⟨Q,hQ⟩:=fY (gK f K [(0,1),(0,2)])
 rw[<-hQ]at ad
 have hop:iI K 0 n l false=[(0,1),(0,2)]++[(0,(8-(K+3)%8)%8),(n,16),(65535-n,16)]:=rfl
 have aV:gK Q (K+3) [(0,(8-(K+3)%8)%8),(n,16),(65535-n,16)]=gK f K (iI K 0 n l false):=by rw[hop,lI,al,hQ]
 have aW:K+3+Pq [(0,(8-(K+3)%8)%8),(n,16),(65535-n,16)]=K+Pq (iI K 0 n l false):=by rw[hop,iQ,al];omega
 have av:=fX ad;have aX:=fX aV;have aY:=fX aW;have HH:=fX h;have a1:=fX aT;have a2:=fX aU;have a3:=fX hb
 clear ad aV aW hQ hop al h aT aU hb
 go_enter func83,ntmps83
 go_wp2_with (first
  |(refine aD rfl 169 #[(0,.tmp 15),(1,.const (ae aj 1))] rfl (some 16) rfl #[ae .u32 0,ae aj 1] ?_ ?_;focus(simpa[Act.eval]using lk 0 1))
  |(refine aD rfl 169 #[(0,.tmp 18),(1,.const (ae aj 2))] rfl (some 19) rfl #[ae .u32 0,ae aj 2] ?_ ?_;focus(simpa[Act.eval]using lk 0 2))
  |fail)
 refine av.out.mono ?_
 rintro e w1 ⟨rfl,h1,h2,h3⟩
 have aS:=Fb w1 S B g Q (K+3) n ((8-(K+3)%8)%8) h1 hn (by omega) rfl
 rw[aX.out,aY.out]at aS
 have aZ:=fX aS;have H2:=fX h2;have H3:=fX h3
 clear aS h1 h2 h3 av
 go_wp2_with fail
 refine aZ.out.mono ?_
 rintro e w2 ⟨rfl,k1,k2,k3⟩
 have K1:=fX k1;have K2:=fX (H2.out.tr k2);have K3:=fX (H3.out.trans k3)
 clear k1 k2 k3
 go_wp2
 go_ret2
 exact⟨none,0,none,0,rfl,⟨fun _=>by show 0<256;omega,fun h=>absurd h (by show¬0<0;omega)⟩,⟨fun _=>by show 0<256;omega,fun h=>absurd h (by show¬0<0;omega)⟩,K1.out,K2.out,K3.out⟩
theorem On(w:aq)(S:Nat->Prop)(B g:Nat)(f:Nat->Nat)(K n gc:Nat)(l:List gA)(h:ic w S B g f K)(hn:n<=65535)(hK:K<=8388608)(aT:iT w gc 317 (kR l) 159)(_:l.length<=65535)(aU:∀t∈l,gS t=true/\t.x<256)(hb:K+Pq (iI K 0 n l true)<=16000000):
  aw prog 83 #[ag (some ⟨g,0,none⟩),ae .u8 0,ai true,ae aj (n:Int),ag (some ⟨gc,0,none⟩)] w (r8 S B g f K 0 n l true w):=by
 have ad:=nJ w S B g f K [(1,1),(0,2)] 2 rfl #[ae .u32 1,ae aj 1,ae .u32 0,ae aj 2] rfl h (by omega) (fun z hz=>by
  simp only[List.mem_cons,List.not_mem_nil,or_false]at hz;rcases hz with rfl|rfl
  ·exact ly (by omega) (by omega)
  ·exact ly (by omega) (by omega)) (by simp[Pq];omega)
 have al:Pq [(1,1),(0,2)]=3:=rfl
 rw[al]at ad
 obtain⟨Q,hQ⟩:=fY (gK f K [(1,1),(0,2)])
 rw[<-hQ]at ad
 have hop:iI K 0 n l true=[(1,1),(0,2)]++[(0,(8-(K+3)%8)%8),(n,16),(65535-n,16)]:=rfl
 have aV:gK Q (K+3) [(0,(8-(K+3)%8)%8),(n,16),(65535-n,16)]=gK f K (iI K 0 n l true):=by rw[hop,lI,al,hQ]
 have aW:K+3+Pq [(0,(8-(K+3)%8)%8),(n,16),(65535-n,16)]=K+Pq (iI K 0 n l true):=by rw[hop,iQ,al];omega
 have av:=fX ad;have aX:=fX aV;have aY:=fX aW;have HH:=fX h;have a1:=fX aT;have a2:=fX aU;have a3:=fX hb
 clear ad aV aW hQ hop al h aT aU hb
 go_enter func83,ntmps83
 go_wp2_with (first
  |(refine aD rfl 169 #[(0,.tmp 15),(1,.const (ae aj 1))] rfl (some 16) rfl #[ae .u32 1,ae aj 1] ?_ ?_;focus(simpa[Act.eval]using lk 1 1))
  |(refine aD rfl 169 #[(0,.tmp 18),(1,.const (ae aj 2))] rfl (some 19) rfl #[ae .u32 0,ae aj 2] ?_ ?_;focus(simpa[Act.eval]using lk 0 2))
  |fail)
 refine av.out.mono ?_
 rintro e w1 ⟨rfl,h1,h2,h3⟩
 have aS:=Fb w1 S B g Q (K+3) n ((8-(K+3)%8)%8) h1 hn (by omega) rfl
 rw[aX.out,aY.out]at aS
 have aZ:=fX aS;have H2:=fX h2;have H3:=fX h3
 clear aS h1 h2 h3 av
 go_wp2_with fail
 refine aZ.out.mono ?_
 rintro e w2 ⟨rfl,k1,k2,k3⟩
 have K1:=fX k1;have K2:=fX (H2.out.tr k2);have K3:=fX (H3.out.trans k3)
 clear k1 k2 k3
 go_wp2
 go_ret2
 exact⟨none,0,none,0,rfl,⟨fun _=>by show 0<256;omega,fun h=>absurd h (by show¬0<0;omega)⟩,⟨fun _=>by show 0<256;omega,fun h=>absurd h (by show¬0<0;omega)⟩,K1.out,K2.out,K3.out⟩
theorem Oo(w:aq)(S:Nat->Prop)(B g:Nat)(f:Nat->Nat)(K n gc:Nat)(l:List gA)(h:ic w S B g f K)(_:n<=65535)(hK:K<=8388608)(aT:iT w gc 317 (kR l) 159)(_:l.length<=65535)(aU:∀t∈l,gS t=true/\t.x<256)(hb:K+Pq (iI K 1 n l false)<=16000000):
  aw prog 83 #[ag (some ⟨g,0,none⟩),ae .u8 1,ai false,ae aj (n:Int),ag (some ⟨gc,0,none⟩)] w (r8 S B g f K 1 n l false w):=by
 have ad:=nJ w S B g f K [(0,1),(1,2)] 2 rfl #[ae .u32 0,ae aj 1,ae .u32 1,ae aj 2] rfl h (by omega) (fun z hz=>by
  simp only[List.mem_cons,List.not_mem_nil,or_false]at hz;rcases hz with rfl|rfl
  ·exact ly (by omega) (by omega)
  ·exact ly (by omega) (by omega)) (by simp[Pq];omega)
 have aS:Pq [(0,1),(1,2)]=3:=rfl
 rw[aS]at ad
 obtain⟨Q,hQ⟩:=fY (gK f K [(0,1),(1,2)])
 rw[<-hQ]at ad
 have hop:iI K 1 n l false=[(0,1),(1,2)]:=rfl
 have aV:Q=gK f K (iI K 1 n l false):=by rw[hop,hQ]
 have aW:K+3=K+Pq (iI K 1 n l false):=by rw[hop,aS]
 have av:=fX ad;have aX:=fX aV;have aY:=fX aW;have HH:=fX h;have a1:=fX aT;have a2:=fX aU;have a3:=fX hb
 clear ad aV aW hQ hop aS h aT aU hb
 go_enter func83,ntmps83
 go_wp2_with (first
  |(refine aD rfl 169 #[(0,.tmp 15),(1,.const (ae aj 1))] rfl (some 16) rfl #[ae .u32 0,ae aj 1] ?_ ?_;focus(simpa[Act.eval]using lk 0 1))
  |(refine aD rfl 169 #[(0,.tmp 18),(1,.const (ae aj 2))] rfl (some 19) rfl #[ae .u32 1,ae aj 2] ?_ ?_;focus(simpa[Act.eval]using lk 1 2))
  |fail)
 refine av.out.mono ?_
 rintro e w1 ⟨rfl,h1,h2,h3⟩
 rw[aX.out,aY.out]at h1
 have H1:=fX h1;have H2:=fX h2;have H3:=fX h3
 have aZ:=fX (Ed w1)
 clear h1 h2 h3 av
 go_wp2_with fail
 refine aZ.out.mono ?_
 rintro e w2 ⟨A1,c1,A2,c2,rfl,o1,o2,_,al⟩
 have R1:=fX (gE.gR o1 (fun j=>by have:=rC j;omega));have R2:=fX (gE.gR o2 (fun j=>by have:=rD j;omega));have K1:=fX (H1.out.after al);have K2:=fX (H2.out.tr (gJ.below H1.out.top al));have K3:=fX (H3.out.trans (al.mono H1.out.size))
 clear o1 o2 al H1 H2 H3
 go_wp2
 go_ret2
 exact⟨A1,c1,A2,c2,rfl,R1.out,R2.out,K1.out,K2.out,K3.out⟩
theorem Oq(w:aq)(S:Nat->Prop)(B g:Nat)(f:Nat->Nat)(K n gc:Nat)(l:List gA)(h:ic w S B g f K)(_:n<=65535)(hK:K<=8388608)(aT:iT w gc 317 (kR l) 159)(_:l.length<=65535)(aU:∀t∈l,gS t=true/\t.x<256)(hb:K+Pq (iI K 1 n l true)<=16000000):
  aw prog 83 #[ag (some ⟨g,0,none⟩),ae .u8 1,ai true,ae aj (n:Int),ag (some ⟨gc,0,none⟩)] w (r8 S B g f K 1 n l true w):=by
 have ad:=nJ w S B g f K [(1,1),(1,2)] 2 rfl #[ae .u32 1,ae aj 1,ae .u32 1,ae aj 2] rfl h (by omega) (fun z hz=>by
  simp only[List.mem_cons,List.not_mem_nil,or_false]at hz;rcases hz with rfl|rfl
  ·exact ly (by omega) (by omega)
  ·exact ly (by omega) (by omega)) (by simp[Pq];omega)
 have aS:Pq [(1,1),(1,2)]=3:=rfl
 rw[aS]at ad
 obtain⟨Q,hQ⟩:=fY (gK f K [(1,1),(1,2)])
 rw[<-hQ]at ad
 have hop:iI K 1 n l true=[(1,1),(1,2)]:=rfl
 have aV:Q=gK f K (iI K 1 n l true):=by rw[hop,hQ]
 have aW:K+3=K+Pq (iI K 1 n l true):=by rw[hop,aS]
 have av:=fX ad;have aX:=fX aV;have aY:=fX aW;have HH:=fX h;have a1:=fX aT;have a2:=fX aU;have a3:=fX hb
 clear ad aV aW hQ hop aS h aT aU hb
 go_enter func83,ntmps83
 go_wp2_with (first
  |(refine aD rfl 169 #[(0,.tmp 15),(1,.const (ae aj 1))] rfl (some 16) rfl #[ae .u32 1,ae aj 1] ?_ ?_;focus(simpa[Act.eval]using lk 1 1))
  |(refine aD rfl 169 #[(0,.tmp 18),(1,.const (ae aj 2))] rfl (some 19) rfl #[ae .u32 1,ae aj 2] ?_ ?_;focus(simpa[Act.eval]using lk 1 2))
  |fail)
 refine av.out.mono ?_
 rintro e w1 ⟨rfl,h1,h2,h3⟩
 rw[aX.out,aY.out]at h1
 have H1:=fX h1;have H2:=fX h2;have H3:=fX h3
 have aZ:=fX (Ed w1)
 clear h1 h2 h3 av
 go_wp2_with fail
 refine aZ.out.mono ?_
 rintro e w2 ⟨A1,c1,A2,c2,rfl,o1,o2,_,al⟩
 have R1:=fX (gE.gR o1 (fun j=>by have:=rC j;omega));have R2:=fX (gE.gR o2 (fun j=>by have:=rD j;omega));have K1:=fX (H1.out.after al);have K2:=fX (H2.out.tr (gJ.below H1.out.top al));have K3:=fX (H3.out.trans (al.mono H1.out.size))
 clear o1 o2 al H1 H2 H3
 go_wp2
 go_ret2
 exact⟨A1,c1,A2,c2,rfl,R1.out,R2.out,K1.out,K2.out,K3.out⟩
theorem Ot(w:aq)(S:Nat->Prop)(B g:Nat)(f:Nat->Nat)(K n gc:Nat)(l:List gA)(h:ic w S B g f K)(_:n<=65535)(hK:K<=8388608)(aX:S gc)(aY:iT w gc 317 (kR l) 159)(hl:l.length<=65535)(aZ:∀t∈l,gS t=true/\t.x<256)(hb:K+Pq (iI K 2 n l false)<=16000000):
  aw prog 83 #[ag (some ⟨g,0,none⟩),ae .u8 2,ai false,ae aj (n:Int),ag (some ⟨gc,0,none⟩)] w (r8 S B g f K 2 n l false w):=by
 have ad:=nJ w S B g f K [(0,1),(2,2)] 2 rfl #[ae .u32 0,ae aj 1,ae .u32 2,ae aj 2] rfl h (by omega) (fun z hz=>by
  simp only[List.mem_cons,List.not_mem_nil,or_false]at hz;rcases hz with rfl|rfl
  ·exact ly (by omega) (by omega)
  ·exact ly (by omega) (by omega)) (by simp[Pq];omega)
 have aS:Pq [(0,1),(2,2)]=3:=rfl
 rw[aS]at ad
 obtain⟨Q,hQ⟩:=fY (gK f K [(0,1),(2,2)])
 rw[<-hQ]at ad
 have hop:iI K 2 n l false=[(0,1),(2,2)]++kM l:=rfl
 have a1:gK Q (K+3) (kM l)=gK f K (iI K 2 n l false):=by rw[hop,lI,aS,hQ]
 have a2:K+3+Pq (kM l)=K+Pq (iI K 2 n l false):=by rw[hop,iQ,aS];omega
 have aU:=fX ad;have bg:=fX a1;have a3:=fX a2;have HH:=fX h;have bj:=fX aX;have bk:=fX aY;have bl:=fX aZ;have bm:=fX hb
 clear ad a1 a2 hQ hop aS h aY aZ hb aX
 go_enter func83,ntmps83
 go_wp2_with (first
  |(refine aD rfl 169 #[(0,.tmp 15),(1,.const (ae aj 1))] rfl (some 16) rfl #[ae .u32 0,ae aj 1] ?_ ?_;focus(simpa[Act.eval]using lk 0 1))
  |(refine aD rfl 169 #[(0,.tmp 18),(1,.const (ae aj 2))] rfl (some 19) rfl #[ae .u32 2,ae aj 2] ?_ ?_;focus(simpa[Act.eval]using lk 2 2))
  |fail)
 refine aU.out.mono ?_
 rintro e w1 ⟨rfl,h1,h2,h3⟩
 have a4:iT w1 gc 317 (kR l) 159:=(h2 gc bj.out).trans bk.out
 have a5:=Fa w1 gc l a4 (by omega) bl.out
 have a6:=fX a5;have H1:=fX h1;have H2:=fX h2;have H3:=fX h3
 clear a5 a4 h1 h2 h3 aU
 go_wp2_with fail
 refine a6.out.mono ?_
 rintro e w2 ⟨A1,c1,A2,c2,rfl,r1,r2,n1,n2,aT⟩
 obtain⟨S2,al⟩:∃S':Nat->Prop,S'=fun j=>S j\/(w1.heap.size<=j/\j<w2.heap.size):=⟨_,rfl⟩
 have av:ic w2 S2 B g Q (K+3):=by rw[al];exact H1.out.grow aT
 have a7:∀j,S j->S2 j:=fun j hj=>by rw[al];exact .inl hj
 have a8:oT S2 A1 (nA l):=fun b o h0 e=>by
  obtain⟨b',o',e',bn,_⟩:=r1.1.2 h0;have aV:=n1 b o e;rw[e]at e';injection e' with e'
  injection e' with e1
  rw[al];exact .inr ⟨aV,by omega⟩
 have a9:oT S2 A2 (nB l):=fun b o h0 e=>by
  obtain⟨b',o',e',bn,_⟩:=r2.1.2 h0;have aV:=n2 b o e;rw[e]at e';injection e' with e'
  injection e' with e1
  rw[al];exact .inr ⟨aV,by omega⟩
 have aW:=Fk w2 S2 B g Q (K+3) A1 c1 A2 c2 l av (by omega) r1 r2 (by rw[a3.out];exact bm.out)
 rw[bg.out,a3.out]at aW
 have bp:=fX aW;have R1:=fX r1;have R2:=fX r2;have bq:=fX a8;have br:=fX a9;have bd:=fX a7
 have K2:=fX (H2.out.tr (gJ.below H1.out.top aT));have K3:=fX (H3.out.trans (aT.mono H1.out.size))
 clear aW r1 r2 a8 a9 a7 av al n1 n2 aT H1 H2 H3 a6
 go_wp2_with fail
 refine bp.out.mono ?_
 rintro e w3 ⟨rfl,k1,k2,k3⟩
 have K1:=fX (k1.less bd.out);have KP:=fX k2;have K4:=fX (K2.out.tr (k2.less bd.out));have K5:=fX (K3.out.trans k3)
 have bf:=k3.size
 clear k1 k2 k3
 go_wp2
 go_ret2
 exact⟨A1,c1,A2,c2,rfl,R1.out.1.rZ KP.out bq.out bf,R2.out.1.rZ KP.out br.out bf,K1.out,K4.out,K5.out⟩
theorem Ou(w:aq)(S:Nat->Prop)(B g:Nat)(f:Nat->Nat)(K n gc:Nat)(l:List gA)(h:ic w S B g f K)(_:n<=65535)(hK:K<=8388608)(aX:S gc)(aY:iT w gc 317 (kR l) 159)(hl:l.length<=65535)(aZ:∀t∈l,gS t=true/\t.x<256)(hb:K+Pq (iI K 2 n l true)<=16000000):
  aw prog 83 #[ag (some ⟨g,0,none⟩),ae .u8 2,ai true,ae aj (n:Int),ag (some ⟨gc,0,none⟩)] w (r8 S B g f K 2 n l true w):=by
 have ad:=nJ w S B g f K [(1,1),(2,2)] 2 rfl #[ae .u32 1,ae aj 1,ae .u32 2,ae aj 2] rfl h (by omega) (fun z hz=>by
  simp only[List.mem_cons,List.not_mem_nil,or_false]at hz;rcases hz with rfl|rfl
  ·exact ly (by omega) (by omega)
  ·exact ly (by omega) (by omega)) (by simp[Pq];omega)
 have aS:Pq [(1,1),(2,2)]=3:=rfl
 rw[aS]at ad
 obtain⟨Q,hQ⟩:=fY (gK f K [(1,1),(2,2)])
 rw[<-hQ]at ad
 have hop:iI K 2 n l true=[(1,1),(2,2)]++kM l:=rfl
 have a1:gK Q (K+3) (kM l)=gK f K (iI K 2 n l true):=by rw[hop,lI,aS,hQ]
 have a2:K+3+Pq (kM l)=K+Pq (iI K 2 n l true):=by rw[hop,iQ,aS];omega
 have aU:=fX ad;have bg:=fX a1;have a3:=fX a2;have HH:=fX h;have bj:=fX aX;have bk:=fX aY;have bl:=fX aZ;have bm:=fX hb
 clear ad a1 a2 hQ hop aS h aY aZ hb aX
 go_enter func83,ntmps83
 go_wp2_with (first
  |(refine aD rfl 169 #[(0,.tmp 15),(1,.const (ae aj 1))] rfl (some 16) rfl #[ae .u32 1,ae aj 1] ?_ ?_;focus(simpa[Act.eval]using lk 1 1))
  |(refine aD rfl 169 #[(0,.tmp 18),(1,.const (ae aj 2))] rfl (some 19) rfl #[ae .u32 2,ae aj 2] ?_ ?_;focus(simpa[Act.eval]using lk 2 2))
  |fail)
 refine aU.out.mono ?_
 rintro e w1 ⟨rfl,h1,h2,h3⟩
 have a4:iT w1 gc 317 (kR l) 159:=(h2 gc bj.out).trans bk.out
 have a5:=Fa w1 gc l a4 (by omega) bl.out
 have a6:=fX a5;have H1:=fX h1;have H2:=fX h2;have H3:=fX h3
 clear a5 a4 h1 h2 h3 aU
 go_wp2_with fail
 refine a6.out.mono ?_
 rintro e w2 ⟨A1,c1,A2,c2,rfl,r1,r2,n1,n2,aT⟩
 obtain⟨S2,al⟩:∃S':Nat->Prop,S'=fun j=>S j\/(w1.heap.size<=j/\j<w2.heap.size):=⟨_,rfl⟩
 have av:ic w2 S2 B g Q (K+3):=by rw[al];exact H1.out.grow aT
 have a7:∀j,S j->S2 j:=fun j hj=>by rw[al];exact .inl hj
 have a8:oT S2 A1 (nA l):=fun b o h0 e=>by
  obtain⟨b',o',e',bn,_⟩:=r1.1.2 h0;have aV:=n1 b o e;rw[e]at e';injection e' with e'
  injection e' with e1
  rw[al];exact .inr ⟨aV,by omega⟩
 have a9:oT S2 A2 (nB l):=fun b o h0 e=>by
  obtain⟨b',o',e',bn,_⟩:=r2.1.2 h0;have aV:=n2 b o e;rw[e]at e';injection e' with e'
  injection e' with e1
  rw[al];exact .inr ⟨aV,by omega⟩
 have aW:=Fk w2 S2 B g Q (K+3) A1 c1 A2 c2 l av (by omega) r1 r2 (by rw[a3.out];exact bm.out)
 rw[bg.out,a3.out]at aW
 have bp:=fX aW;have R1:=fX r1;have R2:=fX r2;have bq:=fX a8;have br:=fX a9;have bd:=fX a7
 have K2:=fX (H2.out.tr (gJ.below H1.out.top aT));have K3:=fX (H3.out.trans (aT.mono H1.out.size))
 clear aW r1 r2 a8 a9 a7 av al n1 n2 aT H1 H2 H3 a6
 go_wp2_with fail
 refine bp.out.mono ?_
 rintro e w3 ⟨rfl,k1,k2,k3⟩
 have K1:=fX (k1.less bd.out);have KP:=fX k2;have K4:=fX (K2.out.tr (k2.less bd.out));have K5:=fX (K3.out.trans k3)
 have bf:=k3.size
 clear k1 k2 k3
 go_wp2
 go_ret2
 exact⟨A1,c1,A2,c2,rfl,R1.out.1.rZ KP.out bq.out bf,R2.out.1.rZ KP.out br.out bf,K1.out,K4.out,K5.out⟩
theorem Fl(w:aq)(S:Nat->Prop)(B g:Nat)(f:Nat->Nat)(K n gc kind:Nat)(l:List gA)(last:Bool)(h:ic w S B g f K)(aS:kind<=2)(hn:n<=65535)(hK:K<=8388608)(av:S gc)(ad:iT w gc 317 (kR l) 159)(hl:l.length<=65535)(al:∀t∈l,gS t=true/\t.x<256)(hb:K+Pq (iI K kind n l last)<=16000000):
  aw prog 83 #[ag (some ⟨g,0,none⟩),ae .u8 (kind:Int),ai last,ae aj (n:Int),ag (some ⟨gc,0,none⟩)] w (r8 S B g f K kind n l last w):=by
 have hc:kind=0\/kind=1\/kind=2:=by omega
 rcases hc with rfl|rfl|rfl<;>cases last
 ·exact Om w S B g f K n gc l h hn hK ad hl al hb
 ·exact On w S B g f K n gc l h hn hK ad hl al hb
 ·exact Oo w S B g f K n gc l h hn hK ad hl al hb
 ·exact Oq w S B g f K n gc l h hn hK ad hl al hb
 ·exact Ot w S B g f K n gc l h hn hK av ad hl al hb
 ·exact Ou w S B g f K n gc l h hn hK av ad hl al hb
theorem wj(T:Nat->Nat)(f:Nat->Nat)(s d:Nat):∀N,Px (fun i=>T i+if i=s then d else 0) f N=Px T f N+if s<N then d*f s else 0
 |0=>by simp[Px]
 |N+1=>by
  have ih:=wj T f s d N;show Px (fun i=>T i+if i=s then d else 0) f N+(T N+if N=s then d else 0)*f N=Px T f N+T N*f N+_
  rw[ih,Nat.add_mul];by_cases h:N=s
  ·subst h;rw[if_pos rfl,if_neg (by omega),if_pos (by omega)];omega
  ·rw[if_neg h];by_cases h2:s<N
   ·rw[if_pos h2,if_pos (by omega)];omega
   ·rw[if_neg h2,if_neg (by omega)];omega
theorem ua{T T' f:Nat->Nat}:∀N,(∀i,i<N->T i=T' i)->Px T f N=Px T' f N
 |0,_=>rfl
 |N+1,h=>by
  show Px T f N+T N*f N=Px T' f N+T' N*f N
  rw[ua N (fun i hi=>h i (by omega)),h N (by omega)]
theorem Ov{α:Type}{p:List α->Prop}(h0:p [])(h1:∀l x,p l->p (l++[x]))(l:List α):p l:=by
 have:∀n (l:List α),l.length=n->p l:=by
  intro n;induction n with
  |zero=>intro l h;rw[List.length_eq_zero_iff.1 h];exact h0
  |succ n ih=>
   intro l h;have ad:l≠[]:=by intro e;rw[e]at h;cases h
   rw[<-List.dropLast_concat_getLast ad];exact h1 _ _ (ih _ (by rw[List.length_dropLast];omega))
 exact this _ l rfl
theorem Fm(F G:Nat->Nat)(n m N M:Nat)(hN:256<N)(l:List gA):(∀t∈l,gS t=true/\t.x<256/\jt t<N/\(t.n≠0->kV t<M))->
  Pq (jh F n G m l)=Px (iF l) F N+Px (ix l) G M+lD l:=by
 refine Ov (p:=fun l=>(∀t∈l,gS t=true/\t.x<256/\jt t<N/\(t.n≠0->kV t<M))->Pq (jh F n G m l)=Px (iF l) F N+Px (ix l) G M+lD l) ?_ ?_ l
 ·intro _;have e1:Px (iF []) F N=F 256:=by
   have h:=wj (fun _=>0) F 256 1 N;have h0:∀K,Px (fun _=>0) F K=0:=by
    intro K;induction K with
    |zero=>rfl
    |succ K ih=>show Px (fun _=>0) F K+0*F K=0;rw[ih];omega
   rw[h0,if_pos hN,Nat.one_mul,Nat.zero_add]at h;rw[<-h];exact ua N fun i _=>by simp[iF]
  have e2:Px (ix []) G M=0:=by
   have h0:∀K,Px (ix []) G K=0:=by
    intro K;induction K with
    |zero=>rfl
    |succ K ih=>show Px (ix []) G K+ix [] K*G K=0;rw[ih];simp[ix]
   exact h0 M
  rw[e1,e2];simp[jh,Pq,jr,lD]
 ·intro l t ih h;have ih:=ih fun u hu=>h u (List.mem_append_left _ hu)
  obtain⟨av,hx,ad,al⟩:=h t (by simp);have e0:Pq (jh F n G m (l++[t]))=Pq (jh F n G m l)+Pq (iR F n G m t):=by
   unfold jh;rw[List.flatMap_append,iQ,iQ,iQ];simp;omega
  have e1:Px (iF (l++[t])) F N=Px (iF l) F N+F (jt t):=by
   have h:=wj (iF l) F (jt t) 1 N;rw[if_pos ad,Nat.one_mul]at h;rw[<-h];exact ua N fun i _=>by
    rw[Bu];by_cases e:i=jt t
    ·rw[if_pos e,if_pos e.symm]
    ·rw[if_neg e,if_neg (fun k=>e k.symm)]
  rw[e0,e1,E5,ih];by_cases h0:t.n=0
  ·have e2:Px (ix (l++[t])) G M=Px (ix l) G M:=ua M fun i _=>by rw[uD,if_neg (fun k=>k.1 h0)];rfl
   have e3:iR F n G m t=[jr F n t.x]:=by unfold iR;rw[if_pos h0]
   have e4:nH t=0:=by unfold nH;rw[if_pos h0]
   have e5:jt t=t.x:=by unfold jt;rw[if_pos h0]
   rw[e2,e3,e4,e5];simp[Pq,jr];omega
  ·have e2:Px (ix (l++[t])) G M=Px (ix l) G M+G (kV t):=by
    have h:=wj (ix l) G (kV t) 1 M;rw[if_pos (al h0),Nat.one_mul]at h;rw[<-h];exact ua M fun i _=>by
     rw[uD];by_cases e:i=kV t
     ·rw[if_pos e,if_pos ⟨h0,e.symm⟩]
     ·rw[if_neg e,if_neg (fun k=>e k.2.symm)]
   have e3:iR F n G m t=[jr F n (jt t),((kC t.n).toNat,(kq t.n).toNat),jr G m (kV t),((kL t.d).toNat,(kr t.d).toNat)]:=by
    unfold iR jt kV;rw[if_neg h0,if_neg h0]
   have e4:nH t=(kq t.n).toNat+(kr t.d).toNat:=by unfold nH;rw[if_neg h0]
   rw[e2,e3,e4];simp[Pq,jr];omega
theorem Ow(k kind n:Nat)(r:Nat->Nat)(l:List gA)(last:Bool)(al:kind<=2)(hl:l.length<=65535)(ad:∀t∈l,gS t=true/\t.x<256):
  Pq (gN (k%8) kind n r l last)=Pq (iI k kind n l last)+if kind=0 then 8*n else Px (iF l) (oJ kind l) (min (lO kind l) 286)+Px (ix l) (oK kind l) (min (lP kind l) 30)+lD l:=by
 have hc:kind=0\/kind=1\/kind=2:=by omega
 rcases hc with rfl|rfl|rfl
 ·rw[pW,if_pos rfl];have e:iI k 0 n l last=[(if last then 1 else 0,1),(0,2)]++[(0,(8-(k+3)%8)%8),(n,16),(65535-n,16)]:=rfl;rw[e,iQ];have e2:Pq [((if last then 1 else 0:Nat),1),(0,2)]=3:=rfl;rw[e2];have e3:Pq [(0,(8-(k+3)%8)%8),(n,16),(65535-n,16)]=(8-(k+3)%8)%8+32:=by simp[Pq]
  rw[e3];unfold jl;omega
 ·rw[if_neg (by omega)];have e:gN (k%8) 1 n r l last=iI k 1 n l last++jh jG 288 kW 32 l:=by
   unfold gN iI;rw[if_pos rfl,if_pos rfl,List.append_nil]
  rw[e,iQ];have hm:min (lO 1 l) 286=286:=rfl;have hn:min (lP 1 l) 30=30:=rfl;rw[hm,hn];have:=Fm jG kW 288 32 286 30 (by omega) l (fun t ht=>by
   obtain⟨h1,_,h3⟩:=lU (ad t ht).1 (ad t ht).2;exact⟨(ad t ht).1,(ad t ht).2,h1,fun h=>(h3 h).2.2.2⟩)
  show _+Pq (jh jG 288 kW 32 l)=_+(Px (iF l) jG 286+Px (ix l) kW 30+lD l)
  rw[this]
 ·rw[if_neg (by omega)];have e:gN (k%8) 2 n r l last=iI k 2 n l last++jh (iP l) (nA l) (iS l) (nB l) l:=by
   unfold gN iI;rw[if_neg (show¬(2:Nat)=1 by omega),if_pos rfl,if_neg (show¬(2:Nat)=1 by omega),if_pos rfl,List.append_assoc]
  rw[e,iQ];obtain⟨_,_,_,_,a1,a2,b1,b2,hA,hB⟩:=mB l (by omega);have hm:min (lO 2 l) 286=nA l:=by show min (nA l) 286=nA l;omega
  have hn:min (lP 2 l) 30=nB l:=by show min (nB l) 30=nB l;omega
  rw[hm,hn];have:=Fm (iP l) (iS l) (nA l) (nB l) (nA l) (nB l) (by omega) l (fun t ht=>by
   obtain⟨h1,_,h3⟩:=lU (ad t ht).1 (ad t ht).2;exact⟨(ad t ht).1,(ad t ht).2,(hA _ h1 (xh ht)).1,fun h=>(hB _ (h3 h).2.2.2 (xi ht h)).1⟩)
  show _+Pq (jh (iP l) (nA l) (iS l) (nB l) l)=_+(Px (iF l) (iP l) (nA l)+Px (ix l) (iS l) (nB l)+lD l)
  rw[this]
theorem Ox(k:Int):prog.built 131 [(2,ae aj k)]=some #[af none 0 0,ae .u64 0,ae aj k]:=by kernel_rfl
theorem Oy(kind:Nat)(l:List gA)(hl:l.length<=1000000):lO kind l<=288/\lP kind l<=32:=by
 obtain⟨_,_,_,_,a1,a2,b1,b2,_⟩:=mB l hl;unfold lO lP;constructor
 ·split
  ·omega
  ·split<;>omega
 ·split
  ·omega
  ·split<;>omega
theorem Fo(w:aq)(a kind n gc:Nat)(r:Nat->Nat)(l:List gA)(ha:a<=7)(aY:kind<=2)(hn:n<=65535)(hr:∀j,r j<256)(aV:iT w gc 317 (kR l) 159)(hl:l.length<=65535)(aS:∀t∈l,gS t=true/\t.x<256):
  aw prog 78 #[ae aj (a:Int),ae .u8 (kind:Int),ae aj (n:Int),ag (some ⟨gc,0,none⟩)] w fun e w'=>e=ao (ae aj ((Pq (gN a kind n r l false):Nat):Int))/\aR w.heap.size w w':=by
 have ad:=Ow a kind n r l false aY hl aS
 rw[Nat.mod_eq_of_lt (show a<8 by omega)]at ad
 have a7:=qD (a:=a) (last:=false) aY hn hr hl aS
 obtain⟨om,on⟩:=Oy kind l (by omega)
 obtain⟨T,hT⟩:=fY (Pq (gN a kind n r l false))
 obtain⟨O,hO⟩:=fY (Pq (iI a kind n l false))
 rw[<-hT]at ad a7⊢
 rw[<-hO]at ad
 have bz:O<=T:=by omega
 obtain⟨W1,aW⟩:=fY (iq w #[af none 0 0,ae .u64 0,ae aj 0] #[af none 0 0,ae .u64 0,ae aj (a:Int)] 131)
 have b1:aR w.heap.size w W1:=by rw[aW];exact kN _ _ _ _
 have aT:W1.heap[w.heap.size]?=some (ak #[af none 0 0,ae .u64 0,ae aj (a:Int)] 131 (0,0)):=by rw[aW];exact kY w _ _ _
 obtain⟨S,hS⟩:∃S:Nat->Prop,S=fun j=>j<w.heap.size:=⟨_,rfl⟩
 have a8:ic W1 S w.heap.size w.heap.size (fun _=>0) a:=by
  refine⟨⟨fun _=>by show 0<256;omega,fun _ _=>rfl,Nat.two_pow_pos _⟩,none,0,?_⟩;rw[show a/8=0 by omega,Nat.mod_eq_of_lt (show a<8 by omega)];exact⟨Nat.le_refl _,by have:=(Array.getElem?_eq_some_iff.1 aT).1;omega,by rw[hS];omega,aT,World.ownsRow_nil _ _ _ _,fun j h=>by simp[Value.ownBlock]at h,fun j h=>by rw[hS]at h;have:=b1.size;omega⟩
 have aZ:S gc:=by rw[hS];exact aV.lt
 have aU:iT W1 gc 317 (kR l) 159:=aV.below b1 aV.lt
 have hop:=Fl W1 S w.heap.size w.heap.size (fun _=>0) a n gc kind l false a8 aY hn (by omega) aZ aU hl aS (by rw[<-hO];omega)
 have a9:∀j,j<w.heap.size->S j:=fun j hj=>by rw[hS];exact hj
 have bd:=fX hop;have HO:=fX hO;have bf:=fX ad;have bq:=fX aW;have B1:=fX b1;have bg:=fX aU;have br:=fX aZ;have bA:=fX a9;have bt:=fX aS
 clear hop hO ad aW b1 aT a8 aZ aU aV a9 hS hT aS hr
 go_enter func78,ntmps78
 go_wp2_with (first
  |(refine aD rfl 131 #[(2,.tmp 13)] rfl (some 14) rfl #[af none 0 0,ae .u64 0,ae aj (a:Int)] ?_ ?_;focus(simpa[Act.eval]using Ox (a:Int)))
  |(refine aC rfl _ _ _ rfl rfl w.heap.size #[af none 0 0,ae .u64 0,ae aj (a:Int)] rfl rfl 131 #[af none 0 0,ae .u64 0,ae aj 0] (aG w _) (qQ _ _ _) rfl (by simp[Value.oneCell']) ?_;change wpList _ _ _ _ _ (iq w #[af none 0 0,ae .u64 0,ae aj 0] #[af none 0 0,ae .u64 0,ae aj (a:Int)] 131);rw[<-bq.out])
  |fail)
 refine bd.out.mono ?_
 rintro e w2 ⟨A1,c1,A2,c2,rfl,a1,a2,al,bj,bk⟩
 rw[<-HO.out]at al
 have bl:=we w2 S w.heap.size w.heap.size _ (a+O) al (by omega)
 have a3:=fX bl
 have aX:iT w2 gc 317 (kR l) 159:=(bj gc br.out).trans bg.out
 obtain⟨M,hM⟩:=fY (lO kind l)
 obtain⟨N,hN⟩:=fY (lP kind l)
 rw[<-hM]at a1 om⊢
 rw[<-hN]at a2 on⊢
 have ad:=bf.out
 rw[<-hM,<-hN]at ad
 have a4:=ND w2.drew gc l aX.drew (by omega) bt.out A1 M c1 (oJ kind l) A2 N c2 (oK kind l) a1 a2 _ _ rfl rfl
 obtain⟨C,hC⟩:=fY (Px (iF l) (oJ kind l) (min M 286)+Px (ix l) (oK kind l) (min N 30)+lD l)
 rw[<-hC]at a4 ad
 have bm:=fX a4
 have a5:=fX (show aR w.heap.size w w2 from B1.out.trans bk)
 have av:=fX ad
 clear bl al a1 a2 aX hM hN hC a4 bj bk bd bf ad
 go_wp2_with fail
 refine a3.out.mono ?_
 rintro e w3 ⟨rfl,rfl⟩
 have eO:((a+O:Nat):Int)-(a:Int)=(O:Int):=by omega
 by_cases bn:kind=0
 ·subst bn;have a6:T=O+8*n:=by rw[av.out,if_pos rfl]
  clear av bm a3;subst a6;have bu:(a:Int)+(O:Int)-(a:Int)=(O:Int):=by omega
  go_wp2;go_ret;exact⟨by first|rfl|go_num,a5.out.drew⟩
 ·have bB:((kind:Int)==0)=false:=by rw[beq_eq_false_iff_ne];omega
  have a6:T=O+C:=by rw[av.out,if_neg bn]
  clear av a3;subst a6;have bu:(a:Int)+(O:Int)-(a:Int)=(O:Int):=by omega
  go_wp2_with fail
  refine bm.out.mono ?_;rintro e w4 ⟨rfl,bp⟩;have bx:=fX (a5.out.drew.trans (bp.mono a5.out.drew.size));clear bp;go_wp2;go_ret;exact⟨by first|rfl|go_num,bx.out⟩
theorem Fp:Kr:=by
 intro w a kind A1 rn rc r A2 m c2 l bq br bd aT bf bg a1 aS;obtain⟨hm,ad,_⟩:=bg;obtain⟨V,hV⟩:=fY (sJ a kind rn r l);obtain⟨E,hE⟩:=fY (oA a kind rn l);rw[<-hV,<-hE];have al:V=if E=0 then Pq (gN a.toNat kind rn r l false)else 0:=by rw[hV,hE];rfl
 clear hV;have a2:=fX (Below.refl w.heap.size w);by_cases y0:a<0
 ·have d0:decide (a<0)=true:=mT y0;obtain rfl:E=2:=by rw[hE];unfold oA;rw[if_pos (.inl y0)]
  obtain rfl:V=0:=by rw[al,if_neg (by omega)]
  clear aT ad aS hE al;go_enter func91,ntmps91
  go_wp2;go_ret2;exact⟨rfl,a2.out⟩
 have d0:decide (a<0)=false:=lW y0;by_cases y1:7<a
 ·have d1:decide (7<a)=true:=mT y1;obtain rfl:E=2:=by rw[hE];unfold oA;rw[if_pos (.inr y1)]
  obtain rfl:V=0:=by rw[al,if_neg (by omega)]
  clear aT ad aS hE al;go_enter func91,ntmps91
  go_wp2;go_ret2;exact⟨rfl,a2.out⟩
 have d1:decide (7<a)=false:=lW y1;have aU:E=mc kind rn l:=by rw[hE];unfold oA;rw[if_neg (by omega)]
 clear hE;obtain⟨p,rfl⟩:=Int.eq_ofNat_of_zero_le (show 0<=a by omega);have aV:=zq w kind A1 rn rc A2 m c2 l bd hm ad a1 bf aS;rw[<-aU]at aV;have aY:=fX aV;by_cases he:E=0
 ·subst he;obtain⟨k2,n2,l2,aX⟩:=xM aU.symm;have a3:∀t∈l,gS t=true/\t.x<256:=fun t ht=>⟨aX t ht,(aS t ht).1⟩
  rw[if_pos rfl,Int.toNat_natCast]at al;have a4:=fX a3;have bj:=fX al;have bk:=fX ad;have HM:=fX hm;have bl:=fX aT.1.1
  have bm:p<=7:=by omega
  clear aV aU a3 al ad hm aT aS aX;go_enter func91,ntmps91
  go_wp2_with fail
  refine aY.out.mono ?_;rintro e w1 ⟨rfl,av⟩;have a5:=zp w1 A2 m c2 l HM.out ((bk.out.below av fZ).more av.size) a1 a4.out;have a6:=fX a5;have aW:=fX av
  clear a5 av aY;go_wp2_with fail
  refine a6.out.mono ?_;rintro e w2 ⟨rfl,hg,a7⟩;have aZ:=Fo w2 p kind rn w1.heap.size r l bm k2 n2 bl.out hg l2 a4.out;rw[<-bj.out]at aZ;have bn:=fX aZ;have a8:=fX (aW.out.trans (a7.mono aW.out.size))
  clear aZ a7 hg a6;go_wp2_with fail
  refine bn.out.mono ?_;rintro e w3 ⟨rfl,a9⟩;have bp:=fX (a8.out.trans (a9.mono a8.out.size));clear a9;go_wp2;go_ret2;exact⟨rfl,bp.out⟩
 ·obtain rfl:V=0:=by rw[al,if_neg he]
  have bt:(E==0)=false:=by rw[beq_eq_false_iff_ne];exact he
  clear aV aU al ad hm aT aS;go_enter func91,ntmps91
  go_wp2_with fail
  refine aY.out.mono ?_;rintro e w1 ⟨rfl,av⟩;have aW:=fX av;clear av;go_wp2;go_ret2;exact⟨rfl,aW.out⟩
theorem Oz:Ks:=by
 intro w a A1 rn rc r A2 m c2 l bT bU aS bG bH bg aT;obtain⟨hm,ad,_⟩:=bH;obtain⟨V,hV⟩:=fY (uT a rn r l);obtain⟨E,hE⟩:=fY (qF a rn l);rw[<-hV,<-hE];have al:V=if E=0 then qE a.toNat rn r l else 0:=by rw[hV,hE];rfl
 clear hV;have bj:=fX (Below.refl w.heap.size w);by_cases y0:a<0
 ·have d0:decide (a<0)=true:=mT y0;obtain rfl:E=2:=by rw[hE];unfold qF oA;rw[if_pos (.inl y0)]
  obtain rfl:V=0:=by rw[al,if_neg (by omega)]
  clear aS ad aT hE al;go_enter func61,ntmps61
  go_wp2;go_ret2;exact⟨rfl,bj.out⟩
 have d0:decide (a<0)=false:=lW y0;by_cases y1:7<a
 ·have d1:decide (7<a)=true:=mT y1;obtain rfl:E=2:=by rw[hE];unfold qF oA;rw[if_pos (.inr y1)]
  obtain rfl:V=0:=by rw[al,if_neg (by omega)]
  clear aS ad aT hE al;go_enter func61,ntmps61
  go_wp2;go_ret2;exact⟨rfl,bj.out⟩
 have d1:decide (7<a)=false:=lW y1;have aX:E=mc 0 rn l:=by rw[hE];unfold qF oA;rw[if_neg (by omega)]
 clear hE;obtain⟨p,rfl⟩:=Int.eq_ofNat_of_zero_le (show 0<=a by omega);have aY:=zq w 0 A1 rn rc A2 m c2 l (by omega) hm ad bg bG aT;rw[<-aX]at aY;have a9:=fX aY;by_cases he:E=0
 ·subst he;obtain⟨_,n2,l2,a6⟩:=xM aX.symm;have aZ:∀t∈l,gS t=true/\t.x<256:=fun t ht=>⟨a6 t ht,(aT t ht).1⟩
  rw[if_pos rfl,Int.toNat_natCast]at al;have bI:p<=7:=by omega
  obtain⟨f,hf⟩:∃f:Nat->Nat,f=fun k=>Pq (gN p k rn r l false):=⟨_,rfl⟩
  have bk:V=shF f 2:=by rw[al,hf];rfl
  have aV:∀(U:aq) (gc k:Nat),k<=2->iT U gc 317 (kR l) 159->aw prog 78 #[ae aj (p:Int),ae .u8 (k:Int),ae aj (rn:Int),ag (some ⟨gc,0,none⟩)] U fun e w'=>e=ao (ae aj ((f k:Nat):Int))/\aR U.heap.size U w':=fun U gc k hk hg=>by
   rw[hf];exact Fo U p k rn gc r l bI hk n2 aS.1.1 hg l2 aZ
  have bl:∀k,k<=2->f k<=4320000:=fun k hk=>by rw[hf];exact qD hk n2 aS.1.1 l2 aZ
  have bJ:=fX aZ;have bK:=fX bk;have bL:=fX ad;have HM:=fX hm;have aW:=fX aV;have bm:=fX bl
  clear aY aX aZ al ad hm aS aT a6 hf bk aV bl;go_enter func61,ntmps61
  go_wp2_with fail
  refine a9.out.mono ?_;rintro e w1 ⟨rfl,av⟩;have bn:=zp w1 A2 m c2 l HM.out ((bL.out.below av fZ).more av.size) bg bJ.out;have bp:=fX bn;have a1:=fX av
  clear bn av a9;go_wp2_with fail
  refine bp.out.mono ?_;rintro e w2 ⟨rfl,hg,bq⟩;have aU:=aW.out w2 w1.heap.size 0 (by omega) hg;have a2:=fX aU;have br:=fX (a1.out.trans (bq.mono a1.out.size));have bd:=fX hg
  clear aU bq hg bp;go_wp2_with fail
  refine a2.out.mono ?_;rintro e w3 ⟨rfl,bf⟩;have bt:=fX (br.out.trans (bf.mono br.out.size));have a3:=fX (bd.out.below bf bd.out.lt)
  clear bf a2 bd;obtain⟨gc,a7⟩:=fY (w1.heap.size);rw[<-a7]at a3⊢;clear a7;obtain⟨W4,a4⟩:=fY (w3.alloc (ak #[ae .u8 1,ae .u8 2] 5));have b4:aR w3.heap.size w3 W4:=by rw[a4];exact gC.alloc fZ _
  have a8:W4.heap[w3.heap.size]?=some (ak #[ae .u8 1,ae .u8 2] 5 (0,0)):=by rw[a4];exact aG w3 _
  have bM:=fX a4;have bu:=fX (a3.out.below b4 a3.out.lt);have bx:=fX (bt.out.trans (b4.mono bt.out.size));have HN:=fX a8
  clear a4 b4 a8 a3;go_wp2_with (first|rw[<-bM.out]|fail)
  go_loopw [10,11,36] (fun kv nv iv wr=>∃(i s:Nat),i<=2/\s<=2/\aQ (s=shF f i)/\kv=ae .u8 (s:Int)/\nv=ae aj ((f s:Nat):Int)/\iv=ae aj (i:Int)/\aQ (aR W4.heap.size W4 wr)) (fun _ _ iv _=>2-(aP iv).toNat)
  case atStart=>exact⟨0,0,by omega,by omega,fX rfl,rfl,rfl,rfl,fX gC⟩
  case round=>
   obtain⟨i,s,hi,bz,HS,rfl,rfl,rfl,HB⟩:=hrel;have bA:w3.heap.size<W4.heap.size:=(Array.getElem?_eq_some_iff.1 HN.out).1;by_cases bV:i<2
   ·have bB:(i:Int)<2:=by omega
    have bN:wr.cell? ⟨w3.heap.size,i,none⟩=some (ae .u8 ((i+1:Nat):Int)):=by
     rw[HB.out.cell (p:=⟨w3.heap.size,i,none⟩) bA,aH W4 w3.heap.size i _ _ (0,0) HN.out];rcases i with _|_|i
     ·rfl
     ·rfl
     ·omega
    obtain⟨j,hj⟩:=fY (i+1);rw[<-hj]at bN;have a5:shF f j=if f j<f s then j else s:=by rw[hj,HS.out];rfl
    have aU:=aW.out wr gc j (by omega) (bu.out.below HB.out bu.out.lt);have bO:=bm.out j (by omega);have bP:=bm.out s bz;obtain⟨x,hx⟩:=fY (f j);obtain⟨y,hy⟩:=fY (f s);rw[<-hx]at aU bO a5;rw[<-hy]at bP a5⊢;have a2:=fX aU;have bC:=fX a5;have HX:=fX hx;have HY:=fX hy;have HJ:=fX hj
    have bQ:j<=2:=by omega
    clear aU a5 hx hy hj;go_wp2_with fail
    refine a2.out.mono ?_;rintro e w5 ⟨rfl,bD⟩;have bE:=fX (HB.out.trans (bD.mono HB.out.size));clear bD;by_cases bF:x<y
    ·have bR:(x:Int)<(y:Int):=by omega
     go_wp2;go_roundw
     case rel=>exact⟨i+1,j,by omega,bQ,fX (by rw[<-HJ.out,bC.out,if_pos bF]),rfl,by rw[HX.out],by go_num,bE⟩
     case measure=>simp[aP];omega
    ·have bR:¬(x:Int)<(y:Int):=by omega
     go_wp2;go_roundw
     case rel=>exact⟨i+1,s,by omega,bz,fX (by rw[<-HJ.out,bC.out,if_neg bF]),rfl,by rw[HY.out],by go_num,bE⟩
     case measure=>simp[aP];omega
   ·obtain rfl:i=2:=by omega
    have bB:¬((2:Nat):Int)<2:=by omega
    obtain rfl:s=V:=by rw[HS.out,bK.out]
    have bS:=fX (bx.out.trans (HB.out.mono bx.out.size));go_wp2;go_ret2;exact⟨rfl,bS.out⟩
 ·obtain rfl:V=0:=by rw[al,if_neg he]
  have bW:(E==0)=false:=by rw[beq_eq_false_iff_ne];exact he
  clear aY aX al ad hm aS aT;go_enter func61,ntmps61
  go_wp2_with fail
  refine a9.out.mono ?_;rintro e w1 ⟨rfl,av⟩;have a1:=fX av;clear av;go_wp2;go_ret2;exact⟨rfl,a1.out⟩
end Go.Proofs.YtokpcpjnihinfaaGreat
