/-
  Words and walks.
-/
import Derived.Test.YtokpcpjnihinfaaGreatqeaa
import Derived.Test.YtokpcpjnihinfaaGreatqeac
import Derived.Test.YtokpcpjnihinfaaGreatqead
set_option maxRecDepth 100000
set_option maxHeartbeats 16000000
namespace Go.Proofs.YtokpcpjnihinfaaGreat
open Value renaming int → ae, slice → af, pointer → ag, agg → ah, bool → ai
open IntKind renaming i64 → aj
open Obj renaming cells → ak
open Ending renaming returned → ao
open Go renaming World → aq, Addr → au, Calls → aw, Value → ax, Program → az, Oper → aA, TypeId → aB, wpList_store_rowTo → aC, wpList_load_row → aE, cell_of_row → aH, bodyPost_ret → aK
open Go.RowKit renaming intOf → aP, Hid → aQ, Below → aR
open _root_.Go.Proofs.Tryz
open Go.RowKit Go.Shelf
attribute [local go_sem] Oper.semAt_some
attribute [local simp] vq
theorem yc{f:Nat->Nat}{L a s:Nat}:∀p d n,Pr f L a s p 0 d n=(d,n)
 |0,_,_=>rfl
 |p+1,d,n=>by simp only[Pr];rw[if_neg (by omega)]
theorem vu{f:Nat->Nat}{L a s:Nat}{n:Nat}(h:∀q,jk f L a q<=n):∀p c d,Pr f L a s p c d n=(d,n)
 |0,_,_=>rfl
 |p+1,c,d=>by
  have:=h p;simp only[Pr];split
  ·split
   ·exact vu h p c d
   ·rw[if_neg (by omega)];exact vu h p (c-1) d
  ·rfl
theorem JM{f:Nat->Nat}{L a s:Nat}(c d n:Nat):Pr f L a s (a-min s a) c d n=(d,n):=by
 rcases Nat.eq_zero_or_pos (a-min s a)with h|h
 ·rw[h];rfl
 ·obtain⟨k,hk⟩:∃k,a-min s a=k+1:=⟨a-min s a-1,by omega⟩;rw[hk];simp only[Pr];rw[if_neg (by omega)]
theorem JN{f:Nat->Nat}{L a s j:Nat}(hj:j<min s a){c:Nat}(hc:0<c)(d n:Nat)(ad:¬nT f L a j):Pr f L a s (a-j) c d n=Pr f L a s (a-(j+1)) c d n:=by
 unfold nT at ad;rw[show a-j=(a-1-j)+1 by omega,show a-(j+1)=a-1-j by omega];conv=>lhs;unfold Pr
 rw[if_pos ⟨by omega,hc⟩,if_pos (by omega)]
theorem JO{f:Nat->Nat}{L a s j:Nat}(hj:j<min s a){c:Nat}(hc:0<c)(d n:Nat)(ad:nT f L a j):
  Pr f L a s (a-j) c d n=if n<jk f L a (a-1-j)then Pr f L a s (a-(j+1)) (c-1) (j+1) (jk f L a (a-1-j))else Pr f L a s (a-(j+1)) (c-1) d n:=by
 unfold nT at ad
 rw[show a-j=(a-1-j)+1 by omega,show a-(j+1)=a-1-j by omega]
 conv=>lhs;unfold Pr
 rw[if_pos ⟨by omega,hc⟩,if_neg (by omega),show a-(a-1-j)=j+1 by omega]
theorem yd{f:Nat->Nat}{L a:Nat}(ha:a<=L)(q:Nat):jk f L a q<=min (L-a) 258:=by
 have h1:=(sn f L a q).1;have h2:=Bl (f:=f) (p:=q) ha;omega
def tG(h k:Nat):Prop:=k<h+2\/(h+5<=k/\k<h+8)
def tH(w u:aq)(h:Nat)(f:Nat->Nat)(L a z:Nat)(T:Nat×Nat)(j:Nat)(W:aq):Prop:=
 aR h w W/\gJ (tG h) u W/\h+8<=W.heap.size/\∃c d n:Nat,Boxed W (h+2) 3 (ae aj (c:Int))/\Boxed W (h+3) 3 (ae aj (d:Int))/\Boxed W (h+4) 3 (ae aj (n:Int))/\0<c/\c<=256/\n<=258/\d<=a/\Pr f L a z (a-j) c d n=T
def vv(w:aq)(h _:Nat)(T:Nat×Nat)(_:Nat)(W:aq):Prop:=
 aR h w W/\∃d n:Nat,Boxed W (h+3) 3 (ae aj (d:Int))/\Boxed W (h+4) 3 (ae aj (n:Int))/\(d,n)=T
theorem tJ{W W':aq}{row:Option Nat}{B:Nat}{t:aB}{v:ax}(h:Boxed W B t v)(hg:W.grownBy W' row)(hr:∀r,row=some r->∃o:Obj,W.heap[r]?=some o/\o.isCells=false):Boxed W' B t v:=
 h.kept hg (fun e=>by obtain⟨o,h1,h2⟩:=hr B e.symm;rw[h]at h1;cases h1;cases h2)
theorem tH.own(w u:aq)(f:Nat->Nat)(L a z:Nat)(T:Nat×Nat)(B:Nat)(hB:w.heap.size+8<=B):OwnFrom B (tH w u w.heap.size f L a z T):=by
 rintro j W W' row ⟨h1,h2,hs,c,d,n,h3,h4,h5,h6⟩ hg hr;refine⟨h1.grown hg h1.size (fun r e=>by have:=(hr r e).1;omega),fun k hk=>?_,Nat.le_trans hs hg.size,c,d,n,tJ h3 hg fun r e=>(hr r e).2,tJ h4 hg fun r e=>(hr r e).2,tJ h5 hg fun r e=>(hr r e).2,h6⟩;refine(hg.block k (by rcases hk with hk|hk<;>omega) (fun e=>?_)).trans (h2 k hk);have:=(hr k e.symm).1;rcases hk with hk|hk<;>omega
theorem vv.own(w:aq)(a:Nat)(T:Nat×Nat)(B:Nat)(hB:w.heap.size<=B):OwnFrom B (vv w w.heap.size a T):=by
 rintro j W W' row ⟨h1,d,n,h4,h5,h6⟩ hg hr;exact⟨h1.grown hg h1.size (fun r e=>by have:=(hr r e).1;omega),d,n,tJ h4 hg fun r e=>(hr r e).2,tJ h5 hg fun r e=>(hr r e).2,h6⟩
def nU(w W:aq)(h c d n:Nat)(X:aq):Prop:=
 aR h w X/\gJ (tG h) W X/\KeepsOthers W X/\h+8<=X.heap.size/\Boxed X (h+2) 3 (ae aj (c:Int))/\Boxed X (h+3) 3 (ae aj (d:Int))/\Boxed X (h+4) 3 (ae aj (n:Int))
theorem py{X:aq}{B C:Nat}{t:aB}{u v:ax}(h:Boxed X B t u)(ad:B≠C):Boxed (X.setCell ⟨C,0,none⟩ v) B t u:=(Below.heap_setCell X _ _ B ad).trans h
theorem ye{h C:Nat}{W X:aq}{v:ax}(hk:gJ (tG h) W X)(hC:h+2<=C/\C<h+5):gJ (tG h) W (X.setCell ⟨C,0,none⟩ v):=fun k hS=>
 (Below.heap_setCell X _ _ k (by show k≠C;rcases hS with hS|hS<;>omega)).trans (hk k hS)
theorem Qd(X:aq)(p:au)(v:ax):(X.setCell p v).heap.size=X.heap.size:=by simp[World.setCell]
theorem nU.Dh{w W X:aq}{h c d n:Nat}(H:nU w W h c d n X)(v:Nat):nU w W h v d n (X.setCell ⟨h+2,0,none⟩ (ae aj (v:Int))):=by
 obtain⟨h1,h2,h3,h4,h5,h6,h7⟩:=H;exact⟨h1.setCell (p:=⟨h+2,0,none⟩) (by show h<=h+2;omega) _,ye h2 (by omega),h3.trans (KeepsOthers.setCell _ _ _),by rw[Qd];exact h4,h5.set _,py h6 (by omega),py h7 (by omega)⟩
theorem nU.JP{w W X:aq}{h c d n:Nat}(H:nU w W h c d n X)(v:Nat):nU w W h c v n (X.setCell ⟨h+3,0,none⟩ (ae aj (v:Int))):=by
 obtain⟨h1,h2,h3,h4,h5,h6,h7⟩:=H;exact⟨h1.setCell (p:=⟨h+3,0,none⟩) (by show h<=h+3;omega) _,ye h2 (by omega),h3.trans (KeepsOthers.setCell _ _ _),by rw[Qd];exact h4,py h5 (by omega),h6.set _,py h7 (by omega)⟩
theorem nU.JQ{w W X:aq}{h c d n:Nat}(H:nU w W h c d n X)(v:Nat):nU w W h c d v (X.setCell ⟨h+4,0,none⟩ (ae aj (v:Int))):=by
 obtain⟨h1,h2,h3,h4,h5,h6,h7⟩:=H;exact⟨h1.setCell (p:=⟨h+4,0,none⟩) (by show h<=h+4;omega) _,ye h2 (by omega),h3.trans (KeepsOthers.setCell _ _ _),by rw[Qd];exact h4,py h5 (by omega),py h6 (by omega),h7.set _⟩
theorem nU.ko{w W X Y:aq}{h c d n:Nat}(H:nU w W h c d n X)(hd:iZ X Y):nU w W h c d n Y:=by
 obtain⟨t,rfl⟩:=hd;obtain⟨h1,h2,h3,h4,h5⟩:=H;exact⟨⟨h1.os,h1.tape,h1.output,h1.size,h1.block⟩,h2,h3.trans ⟨Nat.le_refl _,fun _ _ h _=>h⟩,h4,h5⟩
theorem JR(w:aq)(A:Option au)(n c a z ch:Nat)(f:Nat->Nat)(hr:gu w w.heap.size A n c f)(ha:a<=n)(hn:n<=1000000)(ca:1<=z)(hz:z<=32768)(b2:ch<=256):
  aw prog 166 #[af A n c,ae aj (a:Int),ae aj (z:Int),ae aj (ch:Int)] w fun e w'=>e=ao (.tuple #[ae aj ((Pr f n a z a ch 0 0).1:Nat),ae aj ((Pr f n a z a ch 0 0).2:Nat)])/\aR w.heap.size w w':=by
 obtain⟨T,hT⟩:=fY (Pr f n a z a ch 0 0)
 rw[<-hT]
 refine(callsIn_wide (n:=5)).1 ?_
 obtain⟨h1,h2,h3,h4⟩:=hr
 obtain⟨v,hv⟩:=fY (((((w.alloc (ak #[af A n c] 22)).alloc (ak #[ae aj (a:Int)] 3)).alloc (ak #[ae aj (ch:Int)] 3)).alloc (ak #[ae aj 0] 3)).alloc (ak #[ae aj 0] 3))
 refine callsIn_of_wp_marks func166 rfl trivial ?_ rfl
 simp only[ntmps166,List.size_toArray,List.length_cons,List.length_nil,Nat.reduceAdd,Nat.reduceSub,Array.replicate_succ,Array.replicate_zero,List.push_toArray,List.append_toArray,List.nil_append,List.cons_append]
 rcases Nat.eq_zero_or_pos ch with h0|h0
 ·subst h0;rw[yc]at hT;subst hT;have bu:aR w.heap.size w v:=by
   rw[hv];exact(((((Below.refl w.heap.size w).alloc fZ _).alloc (by simp) _).alloc (by simp;omega) _).alloc (by simp;omega) _).alloc (by simp;omega) _
  rw[show((0:Nat):Int)=0 from rfl]at hv;have e1:v.cell? ⟨w.heap.size+1+1+1,0,none⟩=some (ae aj 0):=by
   have:=((Boxed.new (((w.alloc (ak #[af A n c] 22)).alloc (ak #[ae aj (a:Int)] 3)).alloc (ak #[ae aj 0] 3)) 3 (ae aj 0)).alloc (ak #[ae aj 0] 3)).cell;rw[World.size_alloc,World.size_alloc,World.size_alloc]at this;rw[hv];exact this
  have e2:v.cell? ⟨w.heap.size+1+1+1+1,0,none⟩=some (ae aj 0):=by
   have:=(Boxed.new ((((w.alloc (ak #[af A n c] 22)).alloc (ak #[ae aj (a:Int)] 3)).alloc (ak #[ae aj 0] 3)).alloc (ak #[ae aj 0] 3)) 3 (ae aj 0)).cell;rw[World.size_alloc,World.size_alloc,World.size_alloc,World.size_alloc]at this;rw[hv];exact this
  have HV:=fX hv;have HZ:=fX bu;have E1:=fX e1;have E2:=fX e2
  clear hv bu e1 e2;gi_wp2
  rw[<-HV.out];refine⟨_,(by simp[results,Tryz.results166,go_sem,E1.out,E2.out]),rfl,HZ.out⟩
 ·have bx:((ch:Int)==0)=false:=by simp;omega
  obtain⟨h,hh⟩:=fY (w.heap.size);obtain⟨u,hu⟩:=fY (((v.alloc (ak #[af A n c] 22)).alloc (ak #[ae aj (a:Int)] 3)).alloc (ak #[ae aj (z:Int)] 3));have a3:v.heap.size=h+5:=by rw[hv,hh];simp
  have cb:u.heap.size=h+8:=by rw[hu];simp[a3]
  have bz:aR h w v:=by
   rw[hv,hh];exact(((((Below.refl w.heap.size w).alloc fZ _).alloc (by simp) _).alloc (by simp;omega) _).alloc (by simp;omega) _).alloc (by simp;omega) _
  have aW:aR (h+5) v u:=by
   rw[hu];exact(((Below.refl (h+5) v).alloc (by omega) _).alloc (by simp;omega) _).alloc (by simp;omega) _
  have a5:aR h w u:=bz.trans (aW.mono (by omega));have bA:Boxed u h 22 (af A n c):=by
   refine(aW.block h (by omega)).trans ?_;rw[hv,hh];exact((((Boxed.new w _ _).alloc _).alloc _).alloc _).alloc _
  have bB:Boxed u (h+1) 3 (ae aj (a:Int)):=by
   refine(aW.block (h+1) (by omega)).trans ?_;have:=((((Boxed.new (w.alloc (ak #[af A n c] 22)) 3 (ae aj (a:Int))).alloc (ak #[ae aj (ch:Int)] 3)).alloc (ak #[ae aj 0] 3)).alloc (ak #[ae aj 0] 3));rw[World.size_alloc]at this;rw[hv,hh];exact this
  have bC:Boxed u (h+2) 3 (ae aj (ch:Int)):=by
   refine(aW.block (h+2) (by omega)).trans ?_;have:=(((Boxed.new ((w.alloc (ak #[af A n c] 22)).alloc (ak #[ae aj (a:Int)] 3)) 3 (ae aj (ch:Int))).alloc (ak #[ae aj 0] 3)).alloc (ak #[ae aj 0] 3));rw[World.size_alloc,World.size_alloc]at this;rw[hv,hh];exact this
  have bE:Boxed u (h+3) 3 (ae aj ((0:Nat):Int)):=by
   refine(aW.block (h+3) (by omega)).trans ?_;have:=((Boxed.new (((w.alloc (ak #[af A n c] 22)).alloc (ak #[ae aj (a:Int)] 3)).alloc (ak #[ae aj (ch:Int)] 3)) 3 (ae aj 0)).alloc (ak #[ae aj 0] 3));rw[World.size_alloc,World.size_alloc,World.size_alloc]at this;rw[hv,hh];exact this
  have bF:Boxed u (h+4) 3 (ae aj ((0:Nat):Int)):=by
   refine(aW.block (h+4) (by omega)).trans ?_;have:=Boxed.new ((((w.alloc (ak #[af A n c] 22)).alloc (ak #[ae aj (a:Int)] 3)).alloc (ak #[ae aj (ch:Int)] 3)).alloc (ak #[ae aj 0] 3)) 3 (ae aj 0);rw[World.size_alloc,World.size_alloc,World.size_alloc,World.size_alloc]at this;rw[hv,hh];exact this
  have bG:Boxed u (h+5) 22 (af A n c):=by
   have:=((Boxed.new v 22 (af A n c)).alloc (ak #[ae aj (a:Int)] 3)).alloc (ak #[ae aj (z:Int)] 3);rw[a3]at this;rw[hu];exact this
  have bH:Boxed u (h+6) 3 (ae aj (a:Int)):=by
   have:=(Boxed.new (v.alloc (ak #[af A n c] 22)) 3 (ae aj (a:Int))).alloc (ak #[ae aj (z:Int)] 3);rw[World.size_alloc,a3]at this;rw[hu];exact this
  have bI:Boxed u (h+7) 3 (ae aj (z:Int)):=by
   have:=Boxed.new ((v.alloc (ak #[af A n c] 22)).alloc (ak #[ae aj (a:Int)] 3)) 3 (ae aj (z:Int));rw[World.size_alloc,World.size_alloc,a3]at this;rw[hu];exact this
  have bJ:gE u h A n f:=(hh▸h1:gE w h A n f).below a5 fZ;have bK:tH w u h f n a z T 0 u:=⟨a5,gJ.refl _ _,by omega,ch,0,0,bC,bE,bF,h0,b2,by omega,by omega,by rw[hT];rfl⟩;have bL:u=((((((((w.alloc (ak #[af A n c] 22)).alloc (ak #[ae aj (a:Int)] 3)).alloc (ak #[ae aj (ch:Int)] 3)).alloc (ak #[ae aj 0] 3)).alloc (ak #[ae aj 0] 3)).alloc (ak #[af A n c] 22)).alloc (ak #[ae aj (a:Int)] 3)).alloc (ak #[ae aj (z:Int)] 3)):=by rw[hu,hv]
  have HU:=fX bL;have a9:=fX bK;have a6:=fX bJ;have bM:=fX a5;have HH:=fX hh
  have bd:=fX bA;have bf:=fX bB;have bg:=fX bG;have bj:=fX bH;have bk:=fX bI
  clear bL bK bJ a5 aW bz a3 hv hu bA bB bC bE bF bG bH bI h1 v hT;clear hh;gi_wp2_with (gi_at_call 175;refine(JL _ _ _ _ _ _ _).mono ?_;rintro e w' ⟨rfl,rfl⟩)
  rw[<-HU.out];simp only[Nat.add_assoc,Nat.reduceAdd];rw[<-HH.out];refine JG (L:=min z a) rfl (by omega) (gf:=183) (lb:=#[ag (some ⟨h+5,0,none⟩),ag (some ⟨h+6,0,none⟩),ag (some ⟨h+7,0,none⟩)]) rfl trivial (enters_of func183 (by kernel_rfl) rfl)
   (JK _ (by omega) (h+5) (h+6) (h+7) h A n c a z f (tG h) ⟨.inr (by omega),.inr (by omega),.inr (by omega)⟩ (fun k hk=>.inl (by omega)) hn h4 ha h3 (by omega) u bg.out.cell bj.out.cell bk.out.cell (by omega) (by omega) a6.out)
   (fun h k=>h.tr k) (fun W l ob cf hl _ _ _ k hS=>World.putObj_heap_other (by rcases hS with hS|hS<;>omega)) (fun _=>rfl)
   (.exit 0) (.exit 0) (.inr ⟨_,rfl,rfl⟩)
   (tH w u h f n a z T) (vv w h a T) (by rw[HH.out];exact tH.own w u f n a z T _ (by have:=HH.out;omega)) (by rw[HH.out];exact vv.own w a T _ (by have:=HH.out;omega)) a9.out
   (fun j=>{tmps:=#[af A n c,ae aj a,ae aj z,ae aj ch,ag (some ⟨h,0,none⟩),ag (some ⟨h+1,0,none⟩),undef,ag (some ⟨h+2,0,none⟩),ag (some ⟨h+3,0,none⟩),ag (some ⟨h+4,0,none⟩),
    ae aj ((a-1-j:Nat):Int),undef,ae aj ch,ai false,af A n c,ae aj a,ae aj z,.func (.func 183) #[] #[ag (some ⟨h+5,0,none⟩),ag (some ⟨h+6,0,none⟩),ag (some ⟨h+7,0,none⟩)],ae aj ((a-1-j:Nat):Int),
    undef,undef,undef,undef,undef,undef,undef,undef,undef,undef,undef,undef,undef,undef,undef,undef,undef,undef,undef,undef,undef,undef,undef,undef],defers:=[]}) ?skip ?assign ?body ?done ?stop
  case skip=>
   rintro j W ⟨h1,h2,hs,c',d,m,h3,h4,h5,h6,h7,h8,h9,b5⟩ hj b6;exact⟨h1,h2,hs,c',d,m,h3,h4,h5,h6,h7,h8,h9,by rw[<-JN hj h6 d m b6];exact b5⟩
  case assign=>
   intro l j W K hK;simp only[tF];obtain⟨q,hq⟩:=fY (a-1-j);rw[<-hq]at hK⊢;clear hq;gi_wp2
   exact hK
  case body=>
   rintro l j W ⟨g1,g2,gs,c',d,m,g3,g4,g5,g6,g7,g8,g9,a4⟩ hj bl;have bN:nU w W h c' d m W:=⟨g1,gJ.refl _ _,⟨Nat.le_refl _,fun _ _ h _=>h⟩,gs,g3,g4,g5⟩;have aT:=JO hj g6 d m bl;rw[a4]at aT;have x0:=(g2.cell (p:=⟨h,0,none⟩) (.inl (by show h<h+2;omega))).trans bd.out.cell;have x1:=(g2.cell (p:=⟨h+1,0,none⟩) (.inl (by show h+1<h+2;omega))).trans bf.out.cell;have bO:=a6.out.kept g2 (fun k hk=>.inl (by omega));obtain⟨q,hq⟩:=fY (a-1-j);have b7:q<a:=by omega
   have aX:=Ju W h A n c f a q bO b7 ha hn;obtain⟨k,hk⟩:=fY (jk f n a q);have bm:=yd (f:=f) ha q;rw[<-hq]at aT⊢;rw[<-hk]at aT aX bm;obtain⟨j1,bn⟩:=fY (j+1);have cg:(a:Int)-(q:Int)=(j1:Int):=by omega
   obtain⟨c1,bP⟩:=fY (c'-1);have cj:(c':Int)-1=(c1:Int):=by omega
   have a8:c1<=256:=by omega
   have bQ:j1<=a:=by omega
   rw[<-bn,<-bP]at aT;have bR:=fX bn;have b9:prog.follows .mixedOrders=true:=by kernel_rfl
   have bS:=fX aX;have bT:=fX bN;have aS:=fX aT;have b8:=fX bm;have HK:=fX hk;have bU:=fX g2;have ck:=fX bl
   clear aT aX bO bN g1 g2 g3 g4 g5 a4 bm hk bl hq gs bn bP;gi_wp2_with fail
   refine((callsIn_wide.2 bS.out).inRound l).mono ?_;rintro e V ⟨rfl,bV⟩;have aV:=bT.out.ko bV;have bW:=(aV.2.1.cell (p:=⟨h+1,0,none⟩) (.inl (by show h+1<h+2;omega))).trans x1;have bX:=aV.2.2.2.2.1.cell;have y3:=aV.2.2.2.2.2.1.cell;have bZ:=aV.2.2.2.2.2.2.cell;have z2:=aV.2.2.2.2.1.frozen;have z3:=aV.2.2.2.2.2.1.frozen;have z4:=aV.2.2.2.2.2.2.frozen;have a7:=fX aV;clear aV bV bS bT;by_cases b0:m<k
   ·have b1:(m:Int)<(k:Int):=by omega
    have al:=aS.out;rw[if_pos b0]at al;have aS:=fX al;clear al;gi_wp2
    have av:=((a7.out.JP j1).JQ k).Dh c1;obtain⟨Y,hY⟩:=fY (((V.setCell ⟨h+3,0,none⟩ (ae aj (j1:Int))).setCell ⟨h+4,0,none⟩ (ae aj (k:Int))).setCell ⟨h+2,0,none⟩ (ae aj (c1:Int)));rw[<-hY]at av⊢;have y0:=(av.2.1.cell (p:=⟨h,0,none⟩) (.inl (by show h<h+2;omega))).trans x0;have y1:=(av.2.1.cell (p:=⟨h+1,0,none⟩) (.inl (by show h+1<h+2;omega))).trans x1;have y2:=av.2.2.2.2.1.cell;have y4:=av.2.2.2.2.2.2.cell;have ad:=fX av;clear av hY bW x0 x1 bX y3 bZ z2 z3 z4 a7;obtain⟨M,hM⟩:=fY (min (n-a) 258);have aY:=fun u=>vn u A n c a ha hn
    rw[<-hM]at aY;have aZ:=fX aY;have HM:=fX hM
    clear aY hM;rcases Nat.eq_zero_or_pos c1 with a1|a1
    ·subst a1;have al:=aS.out;rw[yc]at al;have a2:=fX al;have y2:Y.cell? ⟨h+2,0,none⟩=some (ae aj 0):=y2;clear al aS;gi_region_with_o (gi_at_call 177;refine((callsIn_wide.2 (aZ.out _)).inRound l).mono ?_;rintro e V2 ⟨rfl,rfl⟩)
     all_goals gi_wp2
     all_goals exact⟨ad.out.2.2.1.trans (KeepsOthers.drew _),(ad.out.ko ⟨1,rfl⟩).1,j1,k,(ad.out.ko ⟨1,rfl⟩).2.2.2.2.2.1,(ad.out.ko ⟨1,rfl⟩).2.2.2.2.2.2,a2.out.symm⟩
    ·have bx:((c1:Int)==0)=false:=by simp;omega
     by_cases aU:k=M
     ·have bp:((k:Int)==(M:Int))=true:=by simp;omega
      have al:=aS.out;rw[vu (fun q=>by have:=yd (f:=f) ha q;have:=HM.out;omega)]at al;have a2:=fX al;clear al aS aU;gi_region_with_o (gi_at_call 177;refine((callsIn_wide.2 (aZ.out _)).inRound l).mono ?_;rintro e V2 ⟨rfl,rfl⟩)
      all_goals gi_wp2
      all_goals exact⟨ad.out.2.2.1.trans (KeepsOthers.drew _),(ad.out.ko ⟨1,rfl⟩).1,j1,k,(ad.out.ko ⟨1,rfl⟩).2.2.2.2.2.1,(ad.out.ko ⟨1,rfl⟩).2.2.2.2.2.2,a2.out.symm⟩
     ·have bp:((k:Int)==(M:Int))=false:=by simp;omega
      clear aU;gi_region_with_o (gi_at_call 177;refine((callsIn_wide.2 (aZ.out _)).inRound l).mono ?_;rintro e V2 ⟨rfl,rfl⟩)
      all_goals gi_wp2
      all_goals exact⟨ad.out.2.2.1.trans (KeepsOthers.drew _),(ad.out.ko ⟨1,rfl⟩).2.1,(ad.out.ko ⟨1,rfl⟩).1,bU.out.tr (ad.out.ko ⟨1,rfl⟩).2.1,(ad.out.ko ⟨1,rfl⟩).2.2.2.1,c1,j1,k,(ad.out.ko ⟨1,rfl⟩).2.2.2.2.1,(ad.out.ko ⟨1,rfl⟩).2.2.2.2.2.1,(ad.out.ko ⟨1,rfl⟩).2.2.2.2.2.2,a1,a8,(by have:=b8.out;omega),bQ,(by rw[<-bR.out];exact aS.out.symm)⟩
   ·have b1:¬(m:Int)<(k:Int):=by omega
    have al:=aS.out;rw[if_neg b0]at al;have aS:=fX al;clear al;gi_wp2
    have av:=a7.out.Dh c1;obtain⟨Y,hY⟩:=fY (V.setCell ⟨h+2,0,none⟩ (ae aj (c1:Int)));rw[<-hY]at av⊢;have y0:=(av.2.1.cell (p:=⟨h,0,none⟩) (.inl (by show h<h+2;omega))).trans x0;have y1:=(av.2.1.cell (p:=⟨h+1,0,none⟩) (.inl (by show h+1<h+2;omega))).trans x1;have y2:=av.2.2.2.2.1.cell;have y4:=av.2.2.2.2.2.2.cell;have ad:=fX av;clear av hY bW x0 x1 bX y3 bZ z2 z3 z4 a7;obtain⟨M,hM⟩:=fY (min (n-a) 258);have aY:=fun u=>vn u A n c a ha hn
    rw[<-hM]at aY;have aZ:=fX aY;have HM:=fX hM
    clear aY hM;rcases Nat.eq_zero_or_pos c1 with a1|a1
    ·subst a1;have al:=aS.out;rw[yc]at al;have a2:=fX al;have y2:Y.cell? ⟨h+2,0,none⟩=some (ae aj 0):=y2;clear al aS;gi_region_with_o (gi_at_call 177;refine((callsIn_wide.2 (aZ.out _)).inRound l).mono ?_;rintro e V2 ⟨rfl,rfl⟩)
     all_goals gi_wp2
     all_goals exact⟨ad.out.2.2.1.trans (KeepsOthers.drew _),(ad.out.ko ⟨1,rfl⟩).1,d,m,(ad.out.ko ⟨1,rfl⟩).2.2.2.2.2.1,(ad.out.ko ⟨1,rfl⟩).2.2.2.2.2.2,a2.out.symm⟩
    ·have bx:((c1:Int)==0)=false:=by simp;omega
     by_cases aU:m=M
     ·have bp:((m:Int)==(M:Int))=true:=by simp;omega
      have al:=aS.out;rw[vu (fun q=>by have:=yd (f:=f) ha q;have:=HM.out;omega)]at al;have a2:=fX al;clear al aS aU;gi_region_with_o (gi_at_call 177;refine((callsIn_wide.2 (aZ.out _)).inRound l).mono ?_;rintro e V2 ⟨rfl,rfl⟩)
      all_goals gi_wp2
      all_goals exact⟨ad.out.2.2.1.trans (KeepsOthers.drew _),(ad.out.ko ⟨1,rfl⟩).1,d,m,(ad.out.ko ⟨1,rfl⟩).2.2.2.2.2.1,(ad.out.ko ⟨1,rfl⟩).2.2.2.2.2.2,a2.out.symm⟩
     ·have bp:((m:Int)==(M:Int))=false:=by simp;omega
      clear aU;gi_region_with_o (gi_at_call 177;refine((callsIn_wide.2 (aZ.out _)).inRound l).mono ?_;rintro e V2 ⟨rfl,rfl⟩)
      all_goals gi_wp2
      all_goals exact⟨ad.out.2.2.1.trans (KeepsOthers.drew _),(ad.out.ko ⟨1,rfl⟩).2.1,(ad.out.ko ⟨1,rfl⟩).1,bU.out.tr (ad.out.ko ⟨1,rfl⟩).2.1,(ad.out.ko ⟨1,rfl⟩).2.2.2.1,c1,d,m,(ad.out.ko ⟨1,rfl⟩).2.2.2.2.1,(ad.out.ko ⟨1,rfl⟩).2.2.2.2.2.1,(ad.out.ko ⟨1,rfl⟩).2.2.2.2.2.2,a1,a8,g8,g9,(by rw[<-bR.out];exact aS.out.symm)⟩
  case done=>
   rintro D W hD ⟨g1,g2,gs,c',d,m,g3,g4,g5,g6,g7,g8,g9,a4⟩ hK;rw[JM]at a4;subst a4;have y3:=g4.cell;have y4:=g5.cell;have z3:=g4.frozen;have z4:=g5.frozen
   have bq:=fX g1;have br:=fX g4;have bt:=fX g5;have HK:=fX hK
   clear g1 g2 gs g3 g4 g5 hK bd bf bg bj bk a9 a6 bM HU;gi_wp2
   gi_region
   obtain⟨Y,hY⟩:=fY (((W.setCell ⟨h+3,0,none⟩ (ae aj (d:Int))).setCell ⟨h+4,0,none⟩ (ae aj (m:Int))).drew);have b3:Boxed Y (h+3) 3 (ae aj (d:Int)):=by rw[hY];exact py (br.out.set _) (by omega)
   have b4:Boxed Y (h+4) 3 (ae aj (m:Int)):=by rw[hY];exact(py bt.out (by omega)).set _
   have bD:Y.heap[D]?=some (.deferred (some [])):=by
    rw[hY];exact(Below.heap_setCell _ _ _ D (by show D≠h+4;omega)).trans ((Below.heap_setCell _ _ _ D (by show D≠h+3;omega)).trans HK.out)
   have bY:aR h w Y:=by
    rw[hY];exact((bq.out.setCell (p:=⟨h+3,0,none⟩) (by show h<=h+3;omega) _).setCell (p:=⟨h+4,0,none⟩) (by show h<=h+4;omega) _).drew
   rw[<-hY];have c3:=(Boxed.kept b3 (grownBy_putObj' Y D (.deferred none)) (fun e=>by injection e;omega)).cell;have c4:=(Boxed.kept b4 (grownBy_putObj' Y D (.deferred none)) (fun e=>by injection e;omega)).cell;have BD:=fX bD;have BY:=fX bY;have C3:=fX c3;have C4:=fX c4
   clear hY b3 b4 bD bY c3 c4 y3 y4 z3 z4;gi_wp2
   refine⟨by simp,.inl ⟨_,_,rfl,run_takeDeferred BD.out,?_⟩⟩;refine⟨_,(by simp[results,Tryz.results166,go_sem,C3.out,C4.out]),rfl,?_⟩;rw[<-HH.out];exact BY.out.grown (grownBy_putObj' Y D _) (by have:=BY.out.size;have:=HH.out;omega) (fun r e=>by cases e;omega)
  case stop=>
   rintro D j W hD hj ⟨g1,d,m,g4,g5,rfl⟩ hK;have y3:=g4.cell;have y4:=g5.cell;have z3:=g4.frozen;have z4:=g5.frozen
   have bq:=fX g1;have br:=fX g4;have bt:=fX g5;have HK:=fX hK
   clear g1 g4 g5 hK bd bf bg bj bk a9 a6 bM HU;gi_wp2
   gi_region
   obtain⟨Y,hY⟩:=fY (((W.setCell ⟨h+3,0,none⟩ (ae aj (d:Int))).setCell ⟨h+4,0,none⟩ (ae aj (m:Int))).drew);have b3:Boxed Y (h+3) 3 (ae aj (d:Int)):=by rw[hY];exact py (br.out.set _) (by omega)
   have b4:Boxed Y (h+4) 3 (ae aj (m:Int)):=by rw[hY];exact(py bt.out (by omega)).set _
   have bD:Y.heap[D]?=some (.deferred (some [])):=by
    rw[hY];exact(Below.heap_setCell _ _ _ D (by show D≠h+4;omega)).trans ((Below.heap_setCell _ _ _ D (by show D≠h+3;omega)).trans HK.out)
   have bY:aR h w Y:=by
    rw[hY];exact((bq.out.setCell (p:=⟨h+3,0,none⟩) (by show h<=h+3;omega) _).setCell (p:=⟨h+4,0,none⟩) (by show h<=h+4;omega) _).drew
   rw[<-hY];have c3:=(Boxed.kept b3 (grownBy_putObj' Y D (.deferred none)) (fun e=>by injection e;omega)).cell;have c4:=(Boxed.kept b4 (grownBy_putObj' Y D (.deferred none)) (fun e=>by injection e;omega)).cell;have BD:=fX bD;have BY:=fX bY;have C3:=fX c3;have C4:=fX c4
   clear hY b3 b4 bD bY c3 c4 y3 y4 z3 z4;gi_wp2
   refine⟨by simp,.inl ⟨_,_,rfl,run_takeDeferred BD.out,?_⟩⟩;refine⟨_,(by simp[results,Tryz.results166,go_sem,C3.out,C4.out]),rfl,?_⟩;rw[<-HH.out];exact BY.out.grown (grownBy_putObj' Y D _) (by have:=BY.out.size;have:=HH.out;omega) (fun r e=>by cases e;omega)
open Go.ChangeShapes Go.WideShapes Go.ChangeAt Go.Joins
def oE(f:Nat->Nat)(n:Nat)(a s h:Int):Nat×Nat:=if¬131072<n/\0<=a/\a<=(n:Int)/\1<=s/\s<=32768/\0<=h/\h<=256 then Pr f n a.toNat s.toNat a.toNat h.toNat 0 0 else(0,0)
def rQ(f:Nat->Nat)(n:Nat)(a s h:Int):Int:=if 131072<n then 4 else if 0<=a/\a<=(n:Int)/\1<=s/\s<=32768/\0<=h/\h<=256 then(if(oE f n a s h).2=0 then 6 else 0)else 2
theorem JS(f:Nat->Nat)(n:Nat)(a s h:Int)(h0:(oE f n a s h).2=0):oE f n a s h=(0,0):=by
 unfold oE at h0⊢;split
 ·rename_i hc;rw[if_pos hc]at h0;rcases sr (f:=f) (L:=n) (a:=a.toNat) (size:=s.toNat) a.toNat h.toNat 0 0 fZ (.inl ⟨rfl,rfl⟩)with⟨h1,h2⟩|⟨_,_,_,h3,_⟩
  ·exact Prod.ext h1 h2
  ·omega
 ·rfl
theorem JT{n:Nat}{a s h:Int}(ad:¬(0<=a/\a<=(n:Int)/\1<=s/\s<=32768/\0<=h/\h<=256)):
  a<0\/(¬a<0/\(n:Int)<a)\/(¬a<0/\¬(n:Int)<a/\s<1)\/(¬a<0/\¬(n:Int)<a/\¬s<1/\32768<s)\/(¬a<0/\¬(n:Int)<a/\¬s<1/\¬32768<s/\h<0)\/(¬a<0/\¬(n:Int)<a/\¬s<1/\¬32768<s/\¬h<0/\256<h):=by omega
theorem ld{p:Prop}[Decidable p](h:¬p):decide p=false:=by simp[h]
theorem p7{p:Prop}[Decidable p](h:p):decide p=true:=by simp[h]
theorem JU(w:aq)(A:Option au)(n c:Nat)(f:Nat->Nat)(a s h:Int)(hr:gu w w.heap.size A n c f):
  aw prog 150 #[af A n c,ae aj a,ae aj s,ae aj h] w fun e w'=>e=ao (.tuple #[ae aj ((oE f n a s h).1:Nat),ae aj ((oE f n a s h).2:Nat),ae aj (rQ f n a s h)])/\aR w.heap.size w w':=by
 have HR:=fX hr
 clear hr
 by_cases hn:131072<n
 ·have e1:rQ f n a s h=4:=if_pos hn;have e2:oE f n a s h=(0,0):=if_neg (by omega);rw[e1,e2];have aS:131072<(n:Int):=by omega
  clear e1 e2;go_enter func150,ntmps150
  go_wp2;go_ret3
  exact⟨rfl,Below.refl _ _⟩
 have aS:¬131072<(n:Int):=by omega
 by_cases ad:0<=a/\a<=(n:Int)/\1<=s/\s<=32768/\0<=h/\h<=256
 ·obtain⟨T,hT⟩:=fY (oE f n a s h);have e1:rQ f n a s h=if T.2=0 then 6 else 0:=by unfold rQ;rw[if_neg hn,if_pos ad,hT]
  have e2:T=Pr f n a.toNat s.toNat a.toNat h.toNat 0 0:=by rw[hT];unfold oE;rw[if_pos ⟨hn,ad⟩]
  have e3:=JS f n a s h;obtain⟨E,hE⟩:∃E:Int,E=if T.2=0 then 6 else 0:=⟨_,rfl⟩
  rw[e1,<-hE];rw[<-hT]at e3⊢;obtain⟨x1,x2,x3,x4,x5,x6⟩:=ad;obtain⟨a,rfl⟩:=Int.eq_ofNat_of_zero_le x1;obtain⟨s,rfl⟩:=Int.eq_ofNat_of_zero_le (show 0<=s by omega);obtain⟨h,rfl⟩:=Int.eq_ofNat_of_zero_le x5;rw[Int.toNat_natCast,Int.toNat_natCast,Int.toNat_natCast]at e2;have hb:=JR w A n c a s h f HR.out (by omega) (by omega) (by omega) (by omega) (by omega);rw[<-e2]at hb;have HB:=fX hb;have d1:decide ((a:Int)<0)=false:=ld (by omega);have d2:decide ((n:Int)<(a:Int))=false:=ld (by omega);have d3:decide ((s:Int)<1)=false:=ld (by omega);have d4:decide (32768<(s:Int))=false:=ld (by omega);have d5:decide ((h:Int)<0)=false:=ld (by omega);have d6:decide (256<(h:Int))=false:=ld (by omega);obtain⟨t1,t2⟩:=T;have E3:=fX e3;have HE:=fX hE
  clear e1 e2 e3 hb hT hE;go_enter func150,ntmps150
  go_wp2_with fail
  refine HB.out.mono ?_;rintro e w' ⟨rfl,hb⟩;have al:=fX hb;clear hb;rcases Nat.eq_zero_or_pos t2 with h0|h0
  ·subst h0;have:=E3.out rfl;injection this with h1 _
   subst h1;obtain rfl:E=6:=HE.out;go_wp2;go_ret3
   exact⟨rfl,al.out⟩
  ·have aT:((t2:Int)==0)=false:=by simp;omega
   obtain rfl:E=0:=HE.out.trans (if_neg (by show¬t2=0;omega));go_wp2;go_ret3
   exact⟨rfl,al.out⟩
 ·have e1:rQ f n a s h=2:=by unfold rQ;rw[if_neg hn,if_neg ad]
  have e2:oE f n a s h=(0,0):=if_neg (fun q=>ad q.2);rw[e1,e2];have av:=JT ad;clear e1 e2 ad;rcases av with q1|⟨q1,q2⟩|⟨q1,q2,q3⟩|⟨q1,q2,q3,q4⟩|⟨q1,q2,q3,q4,q5⟩|⟨q1,q2,q3,q4,q5,q6⟩
  ·have d1:=p7 q1;go_enter func150,ntmps150
   go_wp2;go_ret3
   exact⟨rfl,Below.refl _ _⟩
  ·have d1:=ld q1;have d2:=p7 q2
   go_enter func150,ntmps150
   go_wp2;go_ret3
   exact⟨rfl,Below.refl _ _⟩
  ·have d1:=ld q1;have d2:=ld q2;have d3:=p7 q3
   go_enter func150,ntmps150
   go_wp2;go_ret3
   exact⟨rfl,Below.refl _ _⟩
  ·have d1:=ld q1;have d2:=ld q2;have d3:=ld q3;have d4:=p7 q4
   go_enter func150,ntmps150
   go_wp2;go_ret3
   exact⟨rfl,Below.refl _ _⟩
  ·have d1:=ld q1;have d2:=ld q2;have d3:=ld q3;have d4:=ld q4;have d5:=p7 q5
   go_enter func150,ntmps150
   go_wp2;go_ret3
   exact⟨rfl,Below.refl _ _⟩
  ·have d1:=ld q1;have d2:=ld q2;have d3:=ld q3;have d4:=ld q4;have d5:=ld q5;have d6:=p7 q6
   go_enter func150,ntmps150
   go_wp2;go_ret3
   exact⟨rfl,Below.refl _ _⟩
theorem yf{f:Nat->Nat}{L a s:Nat}{p c d n:Nat}(hp:p<=a)(h:p=0\/s<a-(p-1)\/c=0):Pr f L a s p c d n=(d,n):=by
 rcases p with _|p
 ·rfl
 ·simp only[Pr];rw[if_neg (by omega)]
theorem JV{f:Nat->Nat}{L a s:Nat}{p c d n:Nat}(h1:a-p<=s)(h2:0<c)(h3:jk f L a p<3):Pr f L a s (p+1) c d n=Pr f L a s p c d n:=by
 simp only[Pr];rw[if_pos ⟨h1,h2⟩,if_pos h3]
theorem JW{f:Nat->Nat}{L a s:Nat}{p c d n:Nat}(h1:a-p<=s)(h2:0<c)(h3:¬jk f L a p<3)(h4:n<jk f L a p):Pr f L a s (p+1) c d n=Pr f L a s p (c-1) (a-p) (jk f L a p):=by
 simp only[Pr];rw[if_pos ⟨h1,h2⟩,if_neg h3,if_pos h4]
theorem JX{f:Nat->Nat}{L a s:Nat}{p c d n:Nat}(h1:a-p<=s)(h2:0<c)(h3:¬jk f L a p<3)(h4:¬n<jk f L a p):Pr f L a s (p+1) c d n=Pr f L a s p (c-1) d n:=by
 simp only[Pr];rw[if_pos ⟨h1,h2⟩,if_neg h3,if_neg h4]
theorem Di(w:aq)(B:Nat)(A:Option au)(n c a z ch:Nat)(f:Nat->Nat)(hr:gE w B A n f)(ha:a<=n)(hn:n<=1000000)(hz:z<=32768)(a1:ch<=256):
  aw prog 92 #[af A n c,ae aj (a:Int),ae aj (z:Int),ae aj (ch:Int)] w fun e w'=>e=ao (.tuple #[ae aj ((Pr f n a z a ch 0 0).1:Nat),ae aj ((Pr f n a z a ch 0 0).2:Nat)])/\iZ w w':=by
 obtain⟨T,hT⟩:=fY (Pr f n a z a ch 0 0)
 rw[<-hT]
 have HR:=fX hr;have HT:=fX hT
 clear hr hT
 go_enter func92,ntmps92
 go_wp2
 go_loopw [3,10,11,12] (fun cv dv nv pv wr=>∃p c d m:Nat,p<=a/\c<=256/\d<=a/\m<=258/\cv=ae aj (c:Int)/\dv=ae aj (d:Int)/\nv=ae aj (m:Int)/\pv=ae aj ((p:Int)-1)/\aQ (T=Pr f n a z p c d m)/\aQ (iZ w wr)) (fun _ _ _ pv _=>(aP pv+1).toNat)
 case atStart=>exact⟨a,ch,0,0,Nat.le_refl _,a1,Nat.zero_le _,by omega,rfl,rfl,rfl,by go_num,HT,fX (iZ.refl w)⟩
 case round=>
  obtain⟨p,c',d,m,hp,hc,hd,hm,rfl,rfl,rfl,rfl,HK,HD⟩:=hrel;rcases Nat.eq_zero_or_pos p with h0|h0
  ·subst h0;have ad:=HK.out.trans (yf (Nat.zero_le _) (.inl rfl));subst ad;have d1:decide ((0:Int)<=((0:Nat):Int)-1)=false:=by decide
   go_wp2;go_ret2;exact⟨rfl,HD.out⟩
  ·obtain⟨q,rfl⟩:∃q,p=q+1:=⟨p-1,by omega⟩;rw[show((q+1:Nat):Int)-1=(q:Int) by omega];obtain⟨k,hk⟩:=fY (jk f n a q);have aS:=(sn f n a q).1;rw[<-hk]at aS;have d1:decide ((0:Int)<=(q:Int))=true:=by simp
   obtain⟨g,hg⟩:=fY (a-q);have eg:(a:Int)-(q:Int)=(g:Int):=by omega
   by_cases a6:g<=z
   ·have d2:decide ((g:Int)<=(z:Int))=true:=p7 (by omega);have a2:decide (g<=z)=true:=p7 (by omega);by_cases a3:c'=0
    ·subst a3;have ad:=HK.out.trans (yf hp (.inr (.inr rfl)));subst ad;have d3:decide ((0:Int)<((0:Nat):Int))=false:=by decide
     clear hg hk;go_wp2;go_ret2;exact⟨rfl,HD.out⟩
    ·have d3:decide ((0:Int)<(c':Int))=true:=p7 (by omega);obtain⟨c1,rfl⟩:∃c1,c'=c1+1:=⟨c'-1,by omega⟩;have ec:((c1+1:Nat):Int)-1=(c1:Int):=by omega
     obtain⟨cv,al⟩:∃cv:Int,cv=((c1+1:Nat):Int):=⟨_,rfl⟩;have hs:=Jv wr B A n c f a q (HD.out.rd HR.out) (by omega) ha hn;rw[<-hk]at hs;have HS:=fX hs;have a7:=fX hk
     by_cases aV:k<3
     ·have ad:=HK.out.trans (JV (by omega) (by omega) (by rw[<-hk];exact aV));have aT:=fX ad;have a4:(c1:Int)+1=cv:=by omega
      rw[<-al]at d3 ec⊢;have aW:=fX al;have aX:(k:Int)<3:=by omega
      clear ad hs hk hg al a4;go_wp2_with fail
      refine HS.out.mono ?_;rintro e w2 ⟨rfl,av⟩;have aU:=fX (show iZ w w2 by obtain⟨t,ht⟩:=av;rw[ht];exact HD.out.more t);clear av;go_wp2;go_roundw
      case rel=>exact⟨q,c1+1,d,m,by omega,hc,hd,hm,by rw[aW.out],rfl,rfl,rfl,aT,aU⟩
      case measure=>simp[aP]
     ·have aX:¬(k:Int)<3:=by omega
      by_cases aY:m<k
      ·have ad:=HK.out.trans (JW (by omega) (by omega) (by rw[<-hk];exact aV) (by rw[<-hk];exact aY));rw[<-hk,<-hg]at ad;have aT:=fX ad;rw[<-al]at d3 ec⊢;have aW:=fX al;have aZ:(m:Int)<(k:Int):=by omega
       have a5:g<=a:=by omega
       clear ad hs hk hg al;go_wp2_with fail
       refine HS.out.mono ?_;rintro e w2 ⟨rfl,av⟩;have aU:=fX (show iZ w w2 by obtain⟨t,ht⟩:=av;rw[ht];exact HD.out.more t);clear av;go_wp2;go_roundw
       case rel=>exact⟨q,c1,g,k,by omega,by omega,a5,aS,rfl,rfl,rfl,rfl,aT,aU⟩
       case measure=>simp[aP]
      ·have ad:=HK.out.trans (JX (by omega) (by omega) (by rw[<-hk];exact aV) (by rw[<-hk];exact aY));have aT:=fX ad;rw[<-al]at d3 ec⊢;have aW:=fX al;have aZ:¬(m:Int)<(k:Int):=by omega
       clear ad hs hk hg al;go_wp2_with fail
       refine HS.out.mono ?_;rintro e w2 ⟨rfl,av⟩;have aU:=fX (show iZ w w2 by obtain⟨t,ht⟩:=av;rw[ht];exact HD.out.more t);clear av;go_wp2;go_roundw
       case rel=>exact⟨q,c1,d,m,by omega,by omega,hd,hm,rfl,rfl,rfl,rfl,aT,aU⟩
       case measure=>simp[aP]
   ·have ad:=HK.out.trans (yf hp (.inr (.inl (by omega))));subst ad;have d2:decide ((g:Int)<=(z:Int))=false:=ld (by omega);have a2:decide (g<=z)=false:=ld (by omega);clear hg hk;go_wp2;go_ret2;exact⟨rfl,HD.out⟩
def iL(w:aq)(B:Nat)(A:Option au)(n c:Nat)(l:List gA):Prop:=n=l.length/\jL w B A l/\(A=none->c=0)/\n<=c/\c<=maxLen
theorem iL.below{w w':aq}{B B' n c:Nat}{A:Option au}{l:List gA}(h:iL w B A n c l)(hb:aR B' w w')(hB:B<=B'):iL w' B A n c l:=⟨h.1,h.2.1.below hb hB,h.2.2⟩
theorem iL.more{w:aq}{B B' n c:Nat}{A:Option au}{l:List gA}(h:iL w B A n c l)(hB:B<=B'):iL w B' A n c l:=⟨h.1,h.2.1.more hB,h.2.2⟩
theorem iL.nil(w:aq)(B:Nat):iL w B none 0 0 []:=⟨rfl,jL.nil w B none,fun _=>rfl,Nat.le_refl _,by unfold maxLen;omega⟩
theorem iL.gR{w:aq}{base n c:Nat}{A:Option au}{l:List gA}(h:w.ownsRow base 128 3 (af A n c) n (PO l)):iL w w.heap.size A n c l:=by
 obtain⟨h1,h2⟩:=jL.gR h;refine⟨h1,h2,?_⟩;rcases h.2 with⟨hv,h0⟩|⟨g,cap,cur,hv,_,_,k1,k2,_⟩
 ·injection hv with h3 h4 h5
  exact⟨fun _=>h5,by omega,by unfold maxLen;omega⟩
 ·injection hv with h3 h4 h5
  exact⟨(fun h=>by rw[h]at h3;cases h3),by omega,by omega⟩
theorem p8{w u:aq}{base n:Nat}{e:aB}{sz:Nat}{v:ax}{xs:List ax}(h:w.ownsRow base e sz v n xs)(hd:iZ w u):u.ownsRow base e sz v n xs:=by
 obtain⟨t,rfl⟩:=hd;exact h
theorem JY(w:aq)(A:Option au)(n c a z ch:Nat)(m:Int)(lz:Bool)(f:Nat->Nat)(hr:gE w w.heap.size A n f)(ha:a<=n)(hn:n<=131072)(hz:z<=32768)(bB:ch<=256):
  aw prog 70 #[af A n c,ae aj (a:Int),ah #[ae aj (z:Int),ae aj (ch:Int),ae aj m,ai lz]] w fun e w'=>∃A' n' c',e=ao (af A' n' c')/\iL w' w'.heap.size A' n' c' (iD f n z ch lz a)/\aR w.heap.size w w':=by
 obtain⟨W1,bl⟩:=fY (w.alloc (ak #[ae aj (z:Int),ae aj (ch:Int),ae aj m,ai lz] 27))
 have bu:aR w.heap.size w W1:=by rw[bl];exact gC.alloc fZ _
 have bC:W1.heap.size=w.heap.size+1:=by rw[bl];simp
 have bD:W1.heap[w.heap.size]?=some (ak #[ae aj (z:Int),ae aj (ch:Int),ae aj m,ai lz] 27 (0,0)):=by rw[bl];exact heap_alloc_new w _
 have HR:=fX ((hr.below bu fZ).more bu.size);have bK:=fX bu;have bL:=fX bl;have aY:=fX bC;have bM:=fX bD
 obtain⟨h,hh⟩:=fY (w.heap.size)
 have HH:=fX hh
 clear hr bl bu bC bD hh
 go_enter func70,ntmps70
 go_wp2
 rw[<-bL.out,<-HH.out]
 go_loopw [7,8] (fun ov av wr=>∃(p a':Nat) (At:Option au) (ct:Nat) (pre:List gA),a'<=n/\p<=a'/\ov=af At p ct/\av=ae aj (a':Int)/\aQ (pre++iD f n z ch lz a'=iD f n z ch lz a)/\aQ (wr.ownsRow (h+1) 128 3 (af At p ct) p (PO pre))/\aQ (aR (h+1) W1 wr)) (fun _ av _=>n-(aP av).toNat)
 case atStart=>exact⟨0,a,none,0,[],ha,Nat.zero_le _,rfl,rfl,fX rfl,fX (World.ownsRow_nil _ _ _ _),fX gC⟩
 case round=>
  obtain⟨p,a',At,ct,pre,bN,bP,rfl,rfl,HK,HO,HB⟩:=hrel;have bx:aR w.heap.size w wr:=bK.out.trans (HB.out.mono (by have:=HH.out;omega));have bO:=fX bx;by_cases a5:a'<n
  ·have bE:(a':Int)<(n:Int):=by omega
   have bf:wr.heap[h]?=some (ak #[ae aj (z:Int),ae aj (ch:Int),ae aj m,ai lz] 27 (0,0)):=(HB.out.block h (by omega)).trans (by rw[HH.out];exact bM.out);have x0:wr.cell? ⟨h,0,none⟩=some (ae aj (z:Int)):=(aH wr _ 0 _ _ (0,0) bf).trans rfl;have x1:wr.cell? ⟨h,1,none⟩=some (ae aj (ch:Int)):=(aH wr _ 1 _ _ (0,0) bf).trans rfl;have x3:wr.cell? ⟨h,3,none⟩=some (ai lz):=(aH wr _ 3 _ _ (0,0) bf).trans rfl;obtain⟨T,hT⟩:=fY (Pr f n a' z a' ch 0 0);have bd:=Di wr W1.heap.size A n c a' z ch f (HR.out.below HB.out (by have:=aY.out;have:=HH.out;omega)) bN (by omega) hz bB;rw[<-hT]at bd;have bm:=fX bd;have HT:=fX hT
   clear bx bf hT bd;obtain⟨d,k⟩:=T;go_wp2_with fail
   refine bm.out.mono ?_;rintro e w2 ⟨rfl,bn⟩;have aX:=fX bn;have y0:w2.cell? ⟨h,0,none⟩=some (ae aj (z:Int)):=by obtain⟨t,ht⟩:=bn;rw[ht];exact x0
   have y1:w2.cell? ⟨h,1,none⟩=some (ae aj (ch:Int)):=by obtain⟨t,ht⟩:=bn;rw[ht];exact x1
   have y3:w2.cell? ⟨h,3,none⟩=some (ai lz):=by obtain⟨t,ht⟩:=bn;rw[ht];exact x3
   clear bn x0 x1 x3 bm;have aZ:k=0->((k:Int)==0)=true:=fun e=>by simp[e]
   have bF:k≠0->((k:Int)==0)=false:=fun e=>by simp;omega
   have bz:=fX aZ;have bg:=fX bF
   clear aZ bF;obtain⟨a1,bp⟩:=fY (a'+1);have bQ:(a':Int)+1=(a1:Int):=by omega
   have a6:=fX bp;have bR:a1<=200000:=by omega
   by_cases bj:lz=true/\a1<n
   ·obtain⟨rfl,bS⟩:=bj;have l1:decide ((a1:Int)<(n:Int))=true:=by simp;omega
    have l2:decide (a1<n)=true:=by simp;omega
    obtain⟨T2,bA⟩:=fY (Pr f n a1 z a1 ch 0 0);have bd:=Di w2 W1.heap.size A n c a1 z ch f (HR.out.below (aX.out.below HB.out) (by have:=aY.out;have:=HH.out;omega)) (by omega) (by omega) hz bB;rw[<-bA]at bd;obtain⟨d2,q⟩:=T2;have bk:oR f n z ch true a'=q:=by unfold oR;rw[if_pos ⟨rfl,by omega⟩,<-bp,<-bA]
    have bm:=fX bd;have a8:=fX bk
    clear bA bd bk bp;go_wp2_with fail
    refine bm.out.mono ?_;rintro e w3 ⟨rfl,bG⟩;have a7:=fX (show iZ wr w3 by obtain⟨t,ht⟩:=bG;rw[ht];exact aX.out.more t);clear bG y0 y1 y3 bm l1 l2;by_cases hb:k=0\/k<q
    ·by_cases aZ:k=0
     ·have g1:=bz.out aZ;clear aZ;obtain⟨b,o,rfl,_,hc⟩:=(HR.out.below (iZ.below a7.out HB.out) (by have:=aY.out;have:=HH.out;omega)).2 (by omega);have x9:=hc a' a5;obtain⟨u,hu⟩:=fY (f a');rw[<-hu]at x9;obtain⟨A',c',w',al,aS,aT⟩:=pV w3 (h+1) At p ct pre (p8 HO.out a7.out) ⟨u,0,0⟩ (by omega) (by have:=HB.out.size;have:=aY.out;have:=HH.out;obtain⟨t,ht⟩:=a7.out;rw[ht];show h+1<=wr.heap.size;omega);have ad:=HK.out;rw[rF a5 (by rw[<-HT.out,a8.out];exact hb)]at ad;rw[<-hu,<-a6.out]at ad;have a3:=fX (show(pre++[⟨u,0,0⟩])++iD f n z ch true a1=iD f n z ch true a by rw[List.append_assoc];exact ad);have aU:=fX al;have aV:=fX aS;have a4:=fX ((iZ.below a7.out HB.out).trans aT)
      have aW:p+1<=a1/\a1<=n/\a'<a1:=by have:=a6.out;omega
      clear al aS aT ad hc hu;go_wp2_with (at_builtin;refine wpList_append_run rfl (.tmp 54) (.tmp 60) 79 rfl (af At p ct) (af (some ⟨w3.heap.size,0,none⟩) 1 1) (af A' (p+1) c') w' rfl rfl aU.out ?_)
      go_roundw
      case rel=>exact⟨p+1,a1,A',c',pre++[⟨u,0,0⟩],aW.2.1,aW.1,rfl,by go_num,a3,aV,a4⟩
      case measure=>simp[aP];omega
     ·have g1:=bg.out aZ;have g2:decide ((k:Int)<(q:Int))=true:=by simp;omega
      have g3:decide (k<q)=true:=by simp;omega
      clear aZ;obtain⟨b,o,rfl,_,hc⟩:=(HR.out.below (iZ.below a7.out HB.out) (by have:=aY.out;have:=HH.out;omega)).2 (by omega);have x9:=hc a' a5;obtain⟨u,hu⟩:=fY (f a');rw[<-hu]at x9;obtain⟨A',c',w',al,aS,aT⟩:=pV w3 (h+1) At p ct pre (p8 HO.out a7.out) ⟨u,0,0⟩ (by omega) (by have:=HB.out.size;have:=aY.out;have:=HH.out;obtain⟨t,ht⟩:=a7.out;rw[ht];show h+1<=wr.heap.size;omega);have ad:=HK.out;rw[rF a5 (by rw[<-HT.out,a8.out];exact hb)]at ad;rw[<-hu,<-a6.out]at ad;have a3:=fX (show(pre++[⟨u,0,0⟩])++iD f n z ch true a1=iD f n z ch true a by rw[List.append_assoc];exact ad);have aU:=fX al;have aV:=fX aS;have a4:=fX ((iZ.below a7.out HB.out).trans aT)
      have aW:p+1<=a1/\a1<=n/\a'<a1:=by have:=a6.out;omega
      clear al aS aT ad hc hu;go_wp2_with (at_builtin;refine wpList_append_run rfl (.tmp 54) (.tmp 60) 79 rfl (af At p ct) (af (some ⟨w3.heap.size,0,none⟩) 1 1) (af A' (p+1) c') w' rfl rfl aU.out ?_)
      go_roundw
      case rel=>exact⟨p+1,a1,A',c',pre++[⟨u,0,0⟩],aW.2.1,aW.1,rfl,by go_num,a3,aV,a4⟩
      case measure=>simp[aP];omega
    ·have g1:=bg.out (by omega);have g2:decide ((k:Int)<(q:Int))=false:=by simp;omega
     have g3:decide (k<q)=false:=by simp;omega
     have bq:a'+k<=n:=by
      have h1:=(qt (f:=f) (L:=n) (a:=a') (size:=z) (chain:=ch) (by rw[<-HT.out];omega)).2.2.2.2.2;rw[<-HT.out]at h1;have:=(h1 (k-1) (by show k-1<k;omega)).1;omega
     obtain⟨a2,a9⟩:=fY (a'+k);have bH:(a':Int)+(k:Int)=(a2:Int):=by omega
     obtain⟨A',c',w',al,aS,aT⟩:=pV w3 (h+1) At p ct pre (p8 HO.out a7.out) ⟨0,(d:Int),(k:Int)⟩ (by omega) (by have:=HB.out.size;have:=aY.out;have:=HH.out;obtain⟨t,ht⟩:=a7.out;rw[ht];show h+1<=wr.heap.size;omega);have ad:=HK.out;rw[uY a5 (by rw[<-HT.out,a8.out];exact hb)]at ad;rw[<-HT.out]at ad;replace ad:pre++⟨0,(d:Int),(k:Int)⟩::iD f n z ch true (a'+k)=iD f n z ch true a:=ad;rw[<-a9]at ad;have a3:=fX (show(pre++[⟨0,(d:Int),(k:Int)⟩])++iD f n z ch true a2=iD f n z ch true a by rw[List.append_assoc];exact ad);have aU:=fX al;have aV:=fX aS;have a4:=fX ((iZ.below a7.out HB.out).trans aT)
     have aW:p+1<=a2/\a2<=n/\a'<a2:=by have:=a6.out;omega
     clear al aS aT ad a9 bq;go_wp2_with (at_builtin;refine wpList_append_run rfl (.tmp 64) (.tmp 68) 79 rfl (af At p ct) (af (some ⟨w3.heap.size,0,none⟩) 1 1) (af A' (p+1) c') w' rfl rfl aU.out ?_)
     go_roundw
     case rel=>exact⟨p+1,a2,A',c',pre++[⟨0,(d:Int),(k:Int)⟩],aW.2.1,aW.1,rfl,by go_num,a3,aV,a4⟩
     case measure=>simp[aP];omega
   ·have bk:oR f n z ch lz a'=0:=by unfold oR;rw[if_neg (by rw[<-bp];exact bj)]
    obtain⟨q,hq⟩:∃q,q=0:=⟨_,rfl⟩;rw[<-hq]at bk;have a8:=fX bk;have bI:(0:Int)=(q:Int):=by omega
    have HQ:=fX hq;clear bk bp;subst hq;cases lz with
    |true=>
     have l1:decide ((a1:Int)<(n:Int))=false:=by simp at bj;simp;omega
     have l2:decide (a1<n)=false:=by simp at bj;simp;omega
     clear bj bI;by_cases hb:k=0\/k<0
     ·by_cases aZ:k=0
      ·have g1:=bz.out aZ;clear aZ;obtain⟨b,o,rfl,_,hc⟩:=(HR.out.below (iZ.below aX.out HB.out) (by have:=aY.out;have:=HH.out;omega)).2 (by omega);have x9:=hc a' a5;obtain⟨u,hu⟩:=fY (f a');rw[<-hu]at x9;obtain⟨A',c',w',al,aS,aT⟩:=pV w2 (h+1) At p ct pre (p8 HO.out aX.out) ⟨u,0,0⟩ (by omega) (by have:=HB.out.size;have:=aY.out;have:=HH.out;obtain⟨t,ht⟩:=aX.out;rw[ht];show h+1<=wr.heap.size;omega);have ad:=HK.out;rw[rF a5 (by rw[<-HT.out,a8.out];exact hb)]at ad;rw[<-hu,<-a6.out]at ad;have a3:=fX (show(pre++[⟨u,0,0⟩])++iD f n z ch true a1=iD f n z ch true a by rw[List.append_assoc];exact ad);have aU:=fX al;have aV:=fX aS;have a4:=fX ((iZ.below aX.out HB.out).trans aT)
       have aW:p+1<=a1/\a1<=n/\a'<a1:=by have:=a6.out;omega
       clear al aS aT ad hc hu;go_wp2_with (at_builtin;refine wpList_append_run rfl (.tmp 54) (.tmp 60) 79 rfl (af At p ct) (af (some ⟨w2.heap.size,0,none⟩) 1 1) (af A' (p+1) c') w' rfl rfl aU.out ?_)
       go_roundw
       case rel=>exact⟨p+1,a1,A',c',pre++[⟨u,0,0⟩],aW.2.1,aW.1,rfl,by go_num,a3,aV,a4⟩
       case measure=>simp[aP];omega
      ·have g1:=bg.out aZ;have g2:decide ((k:Int)<0)=true:=by simp;omega
       have g3:decide (k<0)=true:=by simp;omega
       clear aZ;obtain⟨b,o,rfl,_,hc⟩:=(HR.out.below (iZ.below aX.out HB.out) (by have:=aY.out;have:=HH.out;omega)).2 (by omega);have x9:=hc a' a5;obtain⟨u,hu⟩:=fY (f a');rw[<-hu]at x9;obtain⟨A',c',w',al,aS,aT⟩:=pV w2 (h+1) At p ct pre (p8 HO.out aX.out) ⟨u,0,0⟩ (by omega) (by have:=HB.out.size;have:=aY.out;have:=HH.out;obtain⟨t,ht⟩:=aX.out;rw[ht];show h+1<=wr.heap.size;omega);have ad:=HK.out;rw[rF a5 (by rw[<-HT.out,a8.out];exact hb)]at ad;rw[<-hu,<-a6.out]at ad;have a3:=fX (show(pre++[⟨u,0,0⟩])++iD f n z ch true a1=iD f n z ch true a by rw[List.append_assoc];exact ad);have aU:=fX al;have aV:=fX aS;have a4:=fX ((iZ.below aX.out HB.out).trans aT)
       have aW:p+1<=a1/\a1<=n/\a'<a1:=by have:=a6.out;omega
       clear al aS aT ad hc hu;go_wp2_with (at_builtin;refine wpList_append_run rfl (.tmp 54) (.tmp 60) 79 rfl (af At p ct) (af (some ⟨w2.heap.size,0,none⟩) 1 1) (af A' (p+1) c') w' rfl rfl aU.out ?_)
       go_roundw
       case rel=>exact⟨p+1,a1,A',c',pre++[⟨u,0,0⟩],aW.2.1,aW.1,rfl,by go_num,a3,aV,a4⟩
       case measure=>simp[aP];omega
     ·have g1:=bg.out (by omega);have g2:decide ((k:Int)<0)=false:=by simp<;>omega
      have g3:decide (k<0)=false:=by simp<;>omega
      have bq:a'+k<=n:=by
       have h1:=(qt (f:=f) (L:=n) (a:=a') (size:=z) (chain:=ch) (by rw[<-HT.out];omega)).2.2.2.2.2;rw[<-HT.out]at h1;have:=(h1 (k-1) (by show k-1<k;omega)).1;omega
      obtain⟨a2,a9⟩:=fY (a'+k);have bH:(a':Int)+(k:Int)=(a2:Int):=by omega
      obtain⟨A',c',w',al,aS,aT⟩:=pV w2 (h+1) At p ct pre (p8 HO.out aX.out) ⟨0,(d:Int),(k:Int)⟩ (by omega) (by have:=HB.out.size;have:=aY.out;have:=HH.out;obtain⟨t,ht⟩:=aX.out;rw[ht];show h+1<=wr.heap.size;omega);have ad:=HK.out;rw[uY a5 (by rw[<-HT.out,a8.out];exact hb)]at ad;rw[<-HT.out]at ad;replace ad:pre++⟨0,(d:Int),(k:Int)⟩::iD f n z ch true (a'+k)=iD f n z ch true a:=ad;rw[<-a9]at ad;have a3:=fX (show(pre++[⟨0,(d:Int),(k:Int)⟩])++iD f n z ch true a2=iD f n z ch true a by rw[List.append_assoc];exact ad);have aU:=fX al;have aV:=fX aS;have a4:=fX ((iZ.below aX.out HB.out).trans aT)
      have aW:p+1<=a2/\a2<=n/\a'<a2:=by have:=a6.out;omega
      clear al aS aT ad a9 bq;go_wp2_with (at_builtin;refine wpList_append_run rfl (.tmp 64) (.tmp 68) 79 rfl (af At p ct) (af (some ⟨w2.heap.size,0,none⟩) 1 1) (af A' (p+1) c') w' rfl rfl aU.out ?_)
      go_roundw
      case rel=>exact⟨p+1,a2,A',c',pre++[⟨0,(d:Int),(k:Int)⟩],aW.2.1,aW.1,rfl,by go_num,a3,aV,a4⟩
      case measure=>simp[aP];omega
    |false=>
     clear bj bI;by_cases hb:k=0\/k<0
     ·by_cases aZ:k=0
      ·have g1:=bz.out aZ;clear aZ;obtain⟨b,o,rfl,_,hc⟩:=(HR.out.below (iZ.below aX.out HB.out) (by have:=aY.out;have:=HH.out;omega)).2 (by omega);have x9:=hc a' a5;obtain⟨u,hu⟩:=fY (f a');rw[<-hu]at x9;obtain⟨A',c',w',al,aS,aT⟩:=pV w2 (h+1) At p ct pre (p8 HO.out aX.out) ⟨u,0,0⟩ (by omega) (by have:=HB.out.size;have:=aY.out;have:=HH.out;obtain⟨t,ht⟩:=aX.out;rw[ht];show h+1<=wr.heap.size;omega);have ad:=HK.out;rw[rF a5 (by rw[<-HT.out,a8.out];exact hb)]at ad;rw[<-hu,<-a6.out]at ad;have a3:=fX (show(pre++[⟨u,0,0⟩])++iD f n z ch false a1=iD f n z ch false a by rw[List.append_assoc];exact ad);have aU:=fX al;have aV:=fX aS;have a4:=fX ((iZ.below aX.out HB.out).trans aT)
       have aW:p+1<=a1/\a1<=n/\a'<a1:=by have:=a6.out;omega
       clear al aS aT ad hc hu;go_wp2_with (at_builtin;refine wpList_append_run rfl (.tmp 54) (.tmp 60) 79 rfl (af At p ct) (af (some ⟨w2.heap.size,0,none⟩) 1 1) (af A' (p+1) c') w' rfl rfl aU.out ?_)
       go_roundw
       case rel=>exact⟨p+1,a1,A',c',pre++[⟨u,0,0⟩],aW.2.1,aW.1,rfl,by go_num,a3,aV,a4⟩
       case measure=>simp[aP];omega
      ·have g1:=bg.out aZ;have g2:decide ((k:Int)<0)=true:=by simp;omega
       have g3:decide (k<0)=true:=by simp;omega
       clear aZ;obtain⟨b,o,rfl,_,hc⟩:=(HR.out.below (iZ.below aX.out HB.out) (by have:=aY.out;have:=HH.out;omega)).2 (by omega);have x9:=hc a' a5;obtain⟨u,hu⟩:=fY (f a');rw[<-hu]at x9;obtain⟨A',c',w',al,aS,aT⟩:=pV w2 (h+1) At p ct pre (p8 HO.out aX.out) ⟨u,0,0⟩ (by omega) (by have:=HB.out.size;have:=aY.out;have:=HH.out;obtain⟨t,ht⟩:=aX.out;rw[ht];show h+1<=wr.heap.size;omega);have ad:=HK.out;rw[rF a5 (by rw[<-HT.out,a8.out];exact hb)]at ad;rw[<-hu,<-a6.out]at ad;have a3:=fX (show(pre++[⟨u,0,0⟩])++iD f n z ch false a1=iD f n z ch false a by rw[List.append_assoc];exact ad);have aU:=fX al;have aV:=fX aS;have a4:=fX ((iZ.below aX.out HB.out).trans aT)
       have aW:p+1<=a1/\a1<=n/\a'<a1:=by have:=a6.out;omega
       clear al aS aT ad hc hu;go_wp2_with (at_builtin;refine wpList_append_run rfl (.tmp 54) (.tmp 60) 79 rfl (af At p ct) (af (some ⟨w2.heap.size,0,none⟩) 1 1) (af A' (p+1) c') w' rfl rfl aU.out ?_)
       go_roundw
       case rel=>exact⟨p+1,a1,A',c',pre++[⟨u,0,0⟩],aW.2.1,aW.1,rfl,by go_num,a3,aV,a4⟩
       case measure=>simp[aP];omega
     ·have g1:=bg.out (by omega);have g2:decide ((k:Int)<0)=false:=by simp<;>omega
      have g3:decide (k<0)=false:=by simp<;>omega
      have bq:a'+k<=n:=by
       have h1:=(qt (f:=f) (L:=n) (a:=a') (size:=z) (chain:=ch) (by rw[<-HT.out];omega)).2.2.2.2.2;rw[<-HT.out]at h1;have:=(h1 (k-1) (by show k-1<k;omega)).1;omega
      obtain⟨a2,a9⟩:=fY (a'+k);have bH:(a':Int)+(k:Int)=(a2:Int):=by omega
      obtain⟨A',c',w',al,aS,aT⟩:=pV w2 (h+1) At p ct pre (p8 HO.out aX.out) ⟨0,(d:Int),(k:Int)⟩ (by omega) (by have:=HB.out.size;have:=aY.out;have:=HH.out;obtain⟨t,ht⟩:=aX.out;rw[ht];show h+1<=wr.heap.size;omega);have ad:=HK.out;rw[uY a5 (by rw[<-HT.out,a8.out];exact hb)]at ad;rw[<-HT.out]at ad;replace ad:pre++⟨0,(d:Int),(k:Int)⟩::iD f n z ch false (a'+k)=iD f n z ch false a:=ad;rw[<-a9]at ad;have a3:=fX (show(pre++[⟨0,(d:Int),(k:Int)⟩])++iD f n z ch false a2=iD f n z ch false a by rw[List.append_assoc];exact ad);have aU:=fX al;have aV:=fX aS;have a4:=fX ((iZ.below aX.out HB.out).trans aT)
      have aW:p+1<=a2/\a2<=n/\a'<a2:=by have:=a6.out;omega
      clear al aS aT ad a9 bq;go_wp2_with (at_builtin;refine wpList_append_run rfl (.tmp 64) (.tmp 68) 79 rfl (af At p ct) (af (some ⟨w2.heap.size,0,none⟩) 1 1) (af A' (p+1) c') w' rfl rfl aU.out ?_)
      go_roundw
      case rel=>exact⟨p+1,a2,A',c',pre++[⟨0,(d:Int),(k:Int)⟩],aW.2.1,aW.1,rfl,by go_num,a3,aV,a4⟩
      case measure=>simp[aP];omega
  ·obtain rfl:a'=n:=by omega
   have bE:¬(a':Int)<(a':Int):=by omega
   have br:=HK.out;rw[CN fZ,List.append_nil]at br;have bt:=iL.gR HO.out;rw[br]at bt;have bJ:=fX bt;clear br bt bx;go_wp2;go_ret;exact⟨At,p,ct,rfl,bJ.out,bO.out⟩
def rR(n:Nat)(a s h m:Int):Int:=if ig s h m=false then 8 else if 131072<n then 4 else if 0<=a/\a<=(n:Int)then 0 else 2
def tK(f:Nat->Nat)(n:Nat)(a s h m:Int)(lz:Bool):List gA:=if rR n a s h m=0 then iD f n s.toNat h.toNat lz a.toNat else[]
theorem JZ{s h m:Int}(e:ig s h m=true):1<=s/\s<=32768/\0<=h/\h<=256/\1<=m/\m<=65535:=by unfold ig at e;exact of_decide_eq_true e
theorem Dj(w:aq)(p:gF)(Ah:Option au)(hc:Nat)(Aw:Option au)(wc:Nat)(Ap:Option au)(pc:Nat)(hp:gU w w.heap.size p Ah hc Aw wc Ap pc)(hm:ig p.s p.h p.m=true)(hl:p.hist.length<=32768)
  (A2:Option au) (c2:Nat) (raw:List Nat) (aW:gu w w.heap.size A2 raw.length c2 (gj raw)) (h2:raw.length<=65535):
  aw prog 54 #[ah (gI p Ah hc Aw wc Ap pc),af A2 raw.length c2] w fun e w'=>∃A' n' c',e=ao (af A' n' c')/\iL w' w'.heap.size A' n' c' (iy p raw)/\aR w.heap.size w w':=by
 obtain⟨h,hh⟩:=fY (w.heap.size)
 obtain⟨X,hX⟩:=fY (gI p Ah hc Aw wc Ap pc)
 rw[<-hX]
 obtain⟨W1,aS⟩:=fY (w.alloc (ak X 32))
 have b1:aR h w W1:=by rw[aS,hh];exact gC.alloc fZ _
 have x1:gi W1 h X 32:=by rw[aS,hh];exact gi.new w _ _
 have aU:h<W1.heap.size:=x1.lt
 obtain⟨A1,c1,w1,al,a4,A3,c3,w3,av,aV,aX⟩:=C6 W1 h (by omega) Ah hc p.hist (hh▸hp.hist.below (hh▸b1) fZ) A2 c2 raw (hh▸aW.below (hh▸b1) fZ) (by omega) (by omega)
 obtain⟨n,hn⟩:=fY (p.hist.length)
 obtain⟨m,aT⟩:=fY (raw.length)
 obtain⟨t,ht⟩:=fY (n+m)
 have et:(p.hist++raw).length=t:=by rw[List.length_append,<-hn,<-aT,ht]
 have ad:X=#[ae aj p.s,ae aj p.h,ae aj p.m,ai p.z,af Ah n hc,af Aw p.wait.length wc,af Ap p.gm.length pc,ae aj p.k,ai p.gO]:=by rw[hX,hn];rfl
 have x3:=x1.below aV aU
 have hs:=mj hm
 have hcut:=JY w3 A3 t c3 n p.s.toNat p.h.toNat p.m p.z (gj (p.hist++raw)) (by rw[<-et];exact aX.rd.1) (by omega) (by omega) (by omega) (by omega)
 rw[Int.toNat_of_nonneg (by omega),Int.toNat_of_nonneg (by omega)]at hcut
 have e:iD (gj (p.hist++raw)) t p.s.toNat p.h.toNat p.z n=iy p raw:=by unfold iy;rw[et,<-hn]
 rw[e]at hcut
 rw[<-hn,<-aT,<-ht]at av
 rw[<-hn]at al
 rw[<-aT]
 have q4:W1.cell? ⟨h,4,none⟩=some (af Ah n hc):=by rw[x1.cell,ad];rfl
 have r4:w3.cell? ⟨h,4,none⟩=some (af Ah n hc):=by rw[x3.cell,ad];rfl
 have r0:w3.cell? ⟨h,0,none⟩=some (ae aj p.s):=by rw[x3.cell,ad];rfl
 have r1:w3.cell? ⟨h,1,none⟩=some (ae aj p.h):=by rw[x3.cell,ad];rfl
 have r2:w3.cell? ⟨h,2,none⟩=some (ae aj p.m):=by rw[x3.cell,ad];rfl
 have r3:w3.cell? ⟨h,3,none⟩=some (ai p.z):=by rw[x3.cell,ad];rfl
 have a5:=fX aS;have aY:=fX al;have aZ:=fX av;have HH:=fX hh;have a1:=fX hcut;have a2:aQ (aR h w w3):=fX (b1.trans (aV.mono (by omega)))
 clear aS al av hh hcut b1 x1 x3 a4 aV aX hp aW hm hl h2 et ht hn aT hX ad hs e aU
 go_enter func54,ntmps54
 go_wp2_with (first
  |(rw[<-a5.out,<-HH.out])
  |(at_builtin;refine wpList_append_run rfl (.const (af none 0 0)) (.tmp 7) 22 rfl (af none 0 0) (af Ah n hc) (af A1 n c1) w1 rfl rfl aY.out ?_)
  |(at_builtin;refine wpList_append_run rfl (.tmp 8) (.tmp 9) 22 rfl (af A1 n c1) (af A2 m c2) (af A3 t c3) w3 rfl rfl aZ.out ?_)
  |fail)
 refine a1.out.mono ?_
 rintro e w4 ⟨A',n',c',rfl,ht,a3⟩
 have hb:=a2.out.trans (a3.mono (by rw[HH.out];exact a2.out.size))
 have HT:=fX ht;have HB:=fX hb
 clear ht hb a3
 go_wp2
 go_ret
 exact⟨A',n',c',rfl,HT.out,by rw[<-HH.out];exact HB.out⟩
theorem yg(w:aq)(q:List Nat)(K:Nat)(A:Option au)(c:Nat)(kind:Nat)(A1:Option au)(c1:Nat)(raw:List Nat)(A2:Option au)(t c2:Nat)(l:List gA)(last:Bool)
  (hq:gu w w.heap.size A q.length c (gj q)) (bn:q.length=(K+7)/8) (al:Pw (gj q) K) (hK:K+Pq (gN (K%8) kind raw.length (gj raw) l last)<=8388608) (aT:kind<=2) (hr:gu w w.heap.size A1 raw.length c1 (gj raw)) (aU:raw.length<=65535) (ht:iL w w.heap.size A2 t c2 l) (aV:l.length<=65535) (aW:∀t∈l,gS t=true/\t.x<256):
  aw prog 56 #[ah #[af A q.length c,ae aj (K:Int)],ae .u8 (kind:Int),af A1 raw.length c1,af A2 t c2,ai last] w fun e w'=>∃A' c',e=ao (ah #[af A' (gT q K kind raw l last).1.length c',ae aj (((gT q K kind raw l last).2:Nat):Int)])/\gu w' w'.heap.size A' (gT q K kind raw l last).1.length c' (gj (gT q K kind raw l last).1)/\aR w.heap.size w w':=by
 obtain⟨h,hh⟩:=fY (w.heap.size)
 obtain⟨n,hn⟩:=fY (q.length)
 obtain⟨m,hm⟩:=fY (raw.length)
 obtain⟨a,aX⟩:=fY (K%8)
 obtain⟨PP,ad⟩:=fY (gN (K%8) kind raw.length (gj raw) l last)
 obtain⟨Z,hZ⟩:=fY ((gT q K kind raw l last).1)
 obtain⟨KT,aY⟩:=fY ((gT q K kind raw l last).2)
 obtain⟨L,hL⟩:=fY (Z.length)
 have aZ:KT=K+Pq PP:=by rw[aY,ad];rfl
 have eL:L=(KT+7)/8:=by rw[hL,hZ,aY];exact nS ..
 have bD:KT<=8388608:=by rw[aZ,ad];exact hK
 have a7:=hr.1.1
 have bd:(∀x∈PP,po x):=by rw[ad];exact Cx aT aU a7 aV aW
 have bp:Pq PP<=4320000:=by rw[ad];exact qD aT aU a7 aV aW
 have bq:PP.length<=270000:=by rw[ad];exact xL aU aV
 have bf:gj Z=gK (gj q) K PP:=by
  have hc:=al.rp PP;rw[hZ,ad];rw[ad]at hc;show gj (kD _ _)=_
  rw[xS,uW hc rfl]
 rw[<-hZ,<-aY,<-hL]
 obtain⟨W1,av⟩:=fY ((w.alloc (ak #[af A n c,ae aj (K:Int)] 30)).alloc (ak #[af none 0 0,ae aj 0] 30))
 have b1:aR h w W1:=by rw[av,hh];exact(gC.alloc fZ _).alloc (by simp) _
 have x1:gi W1 h #[af A n c,ae aj (K:Int)] 30:=by rw[av,hh];exact(gi.new w _ _).old _
 have y1:gi W1 (h+1) #[af none 0 0,ae aj 0] 30:=by
  rw[av,hh];have:=gi.new (w.alloc (ak #[af A n c,ae aj (K:Int)] 30)) #[af none 0 0,ae aj 0] 30
  rwa[World.size_alloc]at this
 have aS:h+1<W1.heap.size:=y1.lt
 have on:∀V,aR W1.heap.size W1 V->aR h w V:=fun V hV=>b1.trans (hV.mono (by omega))
 have BX:aQ (∀V,aR W1.heap.size W1 V->gi V h #[af A n c,ae aj (K:Int)] 30/\V.rangeAt h 0 [af A n c,ae aj (K:Int)]/\V.cell? ⟨h,1,none⟩=some (ae aj (K:Int))):=fX fun V hV=>
  have hx:=x1.below hV (by omega)
  ⟨hx,CM hx,hx.cell.trans rfl⟩
 have TW:aQ (∀V,aR W1.heap.size W1 V->aw prog 35 #[ah #[af A n c,ae aj (K:Int)]] V fun e w'=>∃A' c',e=ao (ah #[af A' n c',ae aj (K:Int)])/\gu w' w'.heap.size A' n c' (gj q)/\aR V.heap.size V w'/\(∀g o,0<n->A'=some ⟨g,o,none⟩->g≠h+1)):=fX fun V hV=>by
  have a3:gu V V.heap.size A n c (gj q):=by rw[hn];exact(hq.below (hh▸on V hV) fZ).more (hh▸on V hV).size
  exact(CD V A n c (gj q) (K:Int) a3.1 (by omega) a3.2.1).mono fun e w' ⟨A',c',h1,h2,h3⟩=>⟨A',c',h1,gu.gR h2 al.1,h3,fun g o h0 e=>by have:=(iB.gR h2 al.1).new g o h0 e;have:=hV.size;omega⟩
 have br:aQ (∀(V:aq),(binOp .rem 3 (ae aj (K:Int)) (ae aj 8)).run prog V=.ok (ae aj (a:Int)) V):=fX fun V=>by rw[aX];exact ya prog 3 aj K 8 (by omega) V
 have NM:aQ (∀V,aR W1.heap.size W1 V->aw prog 73 #[ae aj (a:Int),ae .u8 (kind:Int),af A1 m c1,af A2 t c2,ai last] V fun e w'=>∃A' n' c',e=ao (af A' n' c')/\kF w' w'.heap.size A' n' c' PP/\aR V.heap.size V w'):=fX fun V hV=>by
  have hb:=hh▸on V hV;have a3:gu V V.heap.size A1 m c1 (gj raw):=by rw[hm];exact(hr.below hb fZ).more hb.size
  have a8:=(ht.below hb fZ).more hb.size;have a5:=C0 V a kind A1 m c1 (gj raw) A2 t c2 l last (by omega) aT a3.1 (by omega) a8.1 a8.2.1 (by have:=a8.1;omega) aW;rw[aX,hm,<-ad]at a5;rw[aX,hm];exact a5
 have PT:aQ (∀(V:aq),h+1<V.heap.size->∀(A':Option au) (c':Nat) (A3:Option au) (n3 c3:Nat),gu V V.heap.size A' n c' (gj q)->(∀g o,0<n->A'=some ⟨g,o,none⟩->g≠h+1)->kF V V.heap.size A3 n3 c3 PP->aw prog 72 #[ah #[af A' n c',ae aj (K:Int)],af A3 n3 c3] V fun e w'=>∃A4 c4,e=ao (ah #[af A4 L c4,ae aj (KT:Int)])/\gu w' w'.heap.size A4 L c4 (gj Z)/\aR V.heap.size V w'/\(∀g o,0<L->A4=some ⟨g,o,none⟩->g≠h+1)):=fX fun V bE A' c' A3 n3 c3 r1 a9 r2=>by
  have bg:gP n (gj q)=gj q:=by rw[hn];exact vd q
  have a6:=IP V A' n c' (gj q) K A3 n3 c3 PP r1.1 r1.2 (by omega) (by rw[bg];exact al) r2.1 r2.2.1 (by have:=r2.1;omega) bd (by omega);rw[bg]at a6;refine a6.mono fun e w' ⟨A4,c4,L4,e1,e2,h1,h2,h3,h5⟩=>?_
  have el:L4=L:=by rw[e1,eL,aZ]
  subst el;exact⟨A4,c4,by rw[e2,aZ],by rw[bf];exact⟨h1,h2⟩,h3,fun g o h0 e=>by
   rcases h5 g o h0 e with⟨a1,a2⟩|a1
   ·exact a9 g o (by omega) (by rw[<-a1];exact e)
   ·omega⟩
 have bt:=fX av;have HH:=fX hh;have bu:=fX b1;have bx:=fX y1;have bj:=fX aS;have LT:=fX aS;have HN:=fX hn;have HM:=fX hm
 rw[<-hn,<-hm]
 clear av hh b1 x1 y1 aS on hq hr ht a7 bd bp bq bf al aW ad hZ aY hL aZ eL aX bn hK aT aU aV hn hm
 go_enter func56,ntmps56
 go_wp2_with (rw[<-bt.out,<-HH.out])
 refine tD 11 (mG [fun v _=>v=ah #[af A n c,ae aj (K:Int)],fun v W=>∃A' c',v=ah #[af A' n c',ae aj (K:Int)]/\gu W W.heap.size A' n c' (gj q)/\(∀g o,0<n->A'=some ⟨g,o,none⟩->g≠h+1),fun v _=>v=ag (some ⟨h,1,none⟩),fun v _=>v=ae aj (K:Int),fun v _=>v=ae aj (a:Int),fun v _=>v=ae .u8 (kind:Int),fun v _=>v=af A1 m c1,fun v _=>v=af A2 t c2,fun v _=>v=ai last,fun v W=>∃A' n' c',v=af A' n' c'/\kF W W.heap.size A' n' c' PP,fun v W=>∃A' c',v=ah #[af A' L c',ae aj (KT:Int)]/\gu W W.heap.size A' L c' (gj Z)/\(∀g o,0<L->A'=some ⟨g,o,none⟩->g≠h+1)]) W1 gC (by kernel_rfl) (by kernel_rfl) ?_ ?_
 case refine_1=>
  simp only[List.take_succ_cons,List.take_zero];refine gl.cons (fun aa wv hb ha hS Kk Qq hK=>oD (gp rfl) _ _ rfl h 0 ((ha 5 (by kernel_rfl)).trans rfl) [af A n c,ae aj (K:Int)] _ (BX.out wv hb).2.1 underlying30 rfl (nQ _ _) (gx rfl) hK) ?_;refine gl.cons (fun aa wv hb ha hS Kk Qq hK=>lZ (gp rfl) 35 _ _ rfl (enters_of func35 (by kernel_rfl) rfl) #[ah #[af A n c,ae aj (K:Int)]] (by simp[(show aa.eval (.tmp 11)=ah #[af A n c,ae aj (K:Int)]from(hS 0 11 (by kernel_rfl) rfl).here)]) (TW.out wv hb) (fun ee w' ⟨A',c',h1,h2,h3,h4⟩=>⟨_,h1,h3,fun W hW=>⟨_,_,rfl,(h2.below hW fZ).more hW.size,h4⟩⟩) hK) ?_;refine gl.cons (fun aa wv hb ha hS Kk Qq hK=>gZ (gp rfl) _ _ _ rfl _ (ag (some ⟨h,1,none⟩)) ((ha 5 (by kernel_rfl)).trans rfl) (by go_simp) (gx rfl) hK) ?_;refine gl.cons (fun aa wv hb ha hS Kk Qq hK=>la (gp rfl) _ _ rfl _ (ae aj (K:Int)) (hS 2 13 (by kernel_rfl) rfl).here (by have hc:=(BX.out wv hb).2.2;go_simp) (gx rfl) hK) ?_;refine gl.cons (fun aa wv hb ha hS Kk Qq hK=>rO (gp rfl) _ _ _ _ _ rfl _ _ (ae aj (a:Int)) (hS 3 14 (by kernel_rfl) rfl).here rfl (rP _ _ _ _ _ _ _ (by decide) (by decide) _) (br.out wv) (gx rfl) hK) ?_;refine gl.cons (fun aa wv hb ha hS Kk Qq hK=>gY (gp rfl) _ rfl (gx ((ha 1 (by kernel_rfl)).trans rfl)) hK) ?_;refine gl.cons (fun aa wv hb ha hS Kk Qq hK=>gY (gp rfl) _ rfl (gx ((ha 2 (by kernel_rfl)).trans rfl)) hK) ?_;refine gl.cons (fun aa wv hb ha hS Kk Qq hK=>gY (gp rfl) _ rfl (gx ((ha 3 (by kernel_rfl)).trans rfl)) hK) ?_;refine gl.cons (fun aa wv hb ha hS Kk Qq hK=>gY (gp rfl) _ rfl (gx ((ha 4 (by kernel_rfl)).trans rfl)) hK) ?_;refine gl.cons (fun aa wv hb ha hS Kk Qq hK=>lZ (gp rfl) 73 _ _ rfl (enters_of func73 (by kernel_rfl) rfl) #[ae aj (a:Int),ae .u8 (kind:Int),af A1 m c1,af A2 t c2,ai last] (by simp[(show aa.eval (.tmp 15)=ae aj (a:Int)from(hS 4 15 (by kernel_rfl) rfl).here),(show aa.eval (.tmp 16)=ae .u8 (kind:Int)from(hS 5 16 (by kernel_rfl) rfl).here),(show aa.eval (.tmp 17)=af A1 m c1 from(hS 6 17 (by kernel_rfl) rfl).here),(show aa.eval (.tmp 18)=af A2 t c2 from(hS 7 18 (by kernel_rfl) rfl).here),(show aa.eval (.tmp 19)=ai last from(hS 8 19 (by kernel_rfl) rfl).here)]) (NM.out wv hb) (fun ee w' ⟨A',n',c',h1,h2,h3⟩=>⟨_,h1,h3,fun W hW=>⟨_,_,_,rfl,(h2.below hW fZ).more hW.size⟩⟩) hK) ?_;refine gl.cons (fun aa wv hb ha hS Kk Qq hK=>by obtain⟨A',c',e1,r1,a9⟩:=(hS 1 12 (by kernel_rfl) rfl).here;obtain⟨A3,n3,c3,e2,r2⟩:=(hS 9 20 (by kernel_rfl) rfl).here;exact lZ (gp rfl) 72 _ _ rfl (enters_of func72 (by kernel_rfl) rfl) #[ah #[af A' n c',ae aj (K:Int)],af A3 n3 c3] (by simp[e1,e2]) (PT.out wv (by have:=LT.out;have:=hb.size;omega) A' c' A3 n3 c3 r1 a9 r2) (fun ee w' ⟨A4,c4,h1,h2,h3,h4⟩=>⟨_,h1,h3,fun W hW=>⟨_,_,rfl,(h2.below hW fZ).more hW.size,h4⟩⟩) hK) ?_;exact gl.nil
 intro vals w6 hb hv
 obtain⟨A',c',bk,a4,bl⟩:=(hv 10 21 rfl).here
 have y6:=bx.out.below hb bj.out
 have bm:=bu.out.trans (hb.mono (by have:=bj.out;omega))
 obtain⟨U,hU⟩:=fY (w6.setRow (h+1) #[af A' L c',ae aj (KT:Int)])
 have bz:aQ (gi U (h+1) #[af A' L c',ae aj (KT:Int)] 30):=fX (by rw[hU];exact y6.row _)
 have bA:aQ (aR h w U):=fX (by rw[hU];exact jU bm (by omega) _)
 have bF:=fX a4;have bB:=fX y6
 have bC:aQ (gu U U.heap.size A' L c' (gj Z)):=fX (by
  rw[hU,size_setRow];exact⟨a4.1.setRow _ fun g o h0 e=>bl g o h0 e,a4.2⟩)
 have HU:=fX hU
 clear hU y6 bm a4 hv hb
 simp only[List.take_succ_cons,List.take_zero,List.drop_succ_cons,List.drop_zero,List.map_cons,List.map_nil,Pv,Act.put,List.setIfInBounds_toArray,List.set_cons_zero,List.set_cons_succ,bk]
 clear bk
 go_wp2_with (refine aC rfl _ _ _ rfl rfl (h+1) #[af A' L c',ae aj (KT:Int)] rfl rfl 30 #[af none 0 0,ae aj 0] bB.out lq rfl (by simp[Value.oneCell']) ?_;rw[<-HU.out])
 refine aK (oS rfl _ _ (h+1) #[af A' L c',ae aj (KT:Int)] rfl rfl bz.out) rfl ?_
 exact⟨A',c',rfl,bC.out,by rw[<-HH.out];exact bA.out⟩
theorem Dk(A:Option au)(n c:Nat)(k:Int):prog.built 30 [(0,af A n c),(1,ae aj k)]=some #[af A n c,ae aj k]:=by kernel_rfl
theorem J0(A:Option au)(n c:Nat)(k:Int):prog.built 108 [(0,ae aj k),(1,af A n c)]=some #[ae aj k,af A n c]:=by kernel_rfl
theorem J1(s:Int)(A:Option au)(n c:Nat)(w:aq):(Instr.field 108 (ah #[ae aj s,af A n c]) 1).run prog w=.ok (af A n c) w:=by kernel_rfl
theorem J2{P:az}{w:aq}{ops:Array aA}{rest:List aA}{o:aA}{a:Act}{Q:Exit->Act->aq->Prop}(ad:o.guard=none)(ty:aB)(x:Operand)(i:Nat)(ho:o.op=.field ty x i)(u v:ax)(hx:a.eval x=u)(hr:(Instr.field ty u i).run P w=.ok v w)(h:wpList P ops Q rest (a.put o.dst v) w):wpList P ops Q (o::rest) a w:=by
 refine wpList_plain ad fun K hK=>?_
 unfold Oper.wp;have:(execOp a.eval o).run P w=.ok (.value v) w:=by unfold execOp;simp only[ho,hx,Sem.run_bind,hr,Result.andThen_ok];rfl
 rw[this];exact hK _ _ h
theorem sM{w:aq}{g:Nat}{cs:Array ax}{t:aB}(h:gi w g cs t):w.rangeAt g 0 cs.toList:=fun i v hv=>by
 rw[h.cell,Nat.zero_add];simpa using hv
def rS(base:Nat)(A:Option au)(n:Nat):Prop:=∀g o,0<n->A=some ⟨g,o,none⟩->base<=g
theorem J3(w:aq)(p:gF)(Ah:Option au)(hc:Nat)(Aw:Option au)(wc:Nat)(Ap:Option au)(pc:Nat)(hp:gU w w.heap.size p Ah hc Aw wc Ap pc)(bN:1<=p.s)(bO:p.s<=32768)(hl:p.hist.length<=1000000)
  (q:List Nat) (K:Nat) (A:Option au) (c:Nat) (hq:gu w w.heap.size A q.length c (gj q)) (bP:q.length=(K+7)/8) (hK:K<=8388608) (A2:Option au) (c2:Nat) (raw:List Nat) (br:gu w w.heap.size A2 raw.length c2 (gj raw)) (h2:raw.length<=65535):
  aw prog 55 #[ah (gI p Ah hc Aw wc Ap pc),ah #[af A q.length c,ae aj (K:Int)],af A2 raw.length c2] w fun e w'=>∃a8 bt a9 bu Ao oc,e=ao (.tuple #[ah (gI (iH p (q,K) raw).1 a8 bt Aw wc a9 bu),af Ao (iH p (q,K) raw).2.length oc])/\
   gU w' w'.heap.size (iH p (q,K) raw).1 a8 bt Aw wc a9 bu/\gu w' w'.heap.size Ao (iH p (q,K) raw).2.length oc (gj (iH p (q,K) raw).2)/\aR w.heap.size w w'/\rS w.heap.size a8 (iH p (q,K) raw).1.hist.length/\rS w.heap.size a9 (iH p (q,K) raw).1.gm.length/\rS w.heap.size Ao (iH p (q,K) raw).2.length:=by
 obtain⟨h,hh⟩:=fY (w.heap.size)
 obtain⟨X,hX⟩:=fY (gI p Ah hc Aw wc Ap pc)
 rw[<-hX]
 obtain⟨Z,hZ⟩:=fY (gI (lX 0 0 0 false) none 0 none 0 none 0)
 have hz:=(zero_of_info oC).1
 rw[<-hZ]at hz
 obtain⟨n,hn⟩:=fY (q.length)
 obtain⟨D,hD⟩:=fY (K/8)
 obtain⟨R,hR⟩:=fY (K%8)
 obtain⟨PX,bd⟩:∃P:Array ax,P=#[af A n c,ae aj (K:Int)]:=⟨_,rfl⟩
 obtain⟨W1,av⟩:=fY (((w.alloc (ak X 32)).alloc (ak PX 30)).alloc (ak Z 32))
 have b1:aR h w W1:=by rw[av,hh];exact((gC.alloc fZ _).alloc (by simp) _).alloc (by simp;omega) _
 have x1:gi W1 h X 32:=by rw[av,hh];exact((gi.new w _ _).old _).old _
 have p1:gi W1 (h+1) PX 30:=by
  rw[av,hh];have:=(gi.new (w.alloc (ak X 32)) PX 30).old (ak Z 32)
  rwa[World.size_alloc]at this
 have z1:gi W1 (h+2) Z 32:=by
  rw[av,hh];have:=gi.new ((w.alloc (ak X 32)).alloc (ak PX 30)) Z 32
  rwa[World.size_alloc,World.size_alloc]at this
 have a7:h+2<W1.heap.size:=z1.lt
 have aX:X=#[ae aj p.s,ae aj p.h,ae aj p.m,ai p.z,af Ah p.hist.length hc,af Aw p.wait.length wc,af Ap p.gm.length pc,ae aj p.k,ai p.gO]:=hX
 obtain⟨aY,aZ⟩:=fY (p.hist.length)
 obtain⟨rn,bf⟩:=fY (raw.length)
 obtain⟨NH,a1⟩:=fY (jn p.s.toNat (p.hist++raw))
 have a2:=Jr W1 p.s.toNat (by omega) (by omega) Ah hc p.hist (hp.hist.below (hh▸b1) fZ|>.more (hh▸b1).size) A2 c2 raw (br.below (hh▸b1) fZ|>.more (hh▸b1).size) hl (by omega)
 rw[Int.toNat_of_nonneg (by omega),<-a1,<-aZ,<-bf]at a2
 have cl:W1.cell? ⟨h+1,1,none⟩=some (ae aj (K:Int)):=by rw[p1.cell,bd];rfl
 have q0:W1.cell? ⟨h,0,none⟩=some (ae aj p.s):=by rw[x1.cell,aX];rfl
 have q4:W1.cell? ⟨h,4,none⟩=some (af Ah aY hc):=by rw[x1.cell,aX,aZ];rfl
 have e8:(K:Int)/8=(D:Int):=by omega
 have a3:D<=n:=by omega
 have bQ:n<=c:=by rw[hn];exact hq.2.2.1
 obtain⟨A5,hA5⟩:∃A5,(if c=D then A else A.map (·.add D))=A5:=⟨_,rfl⟩
 have RF:aQ (∀V,(Instr.sliceAt 22 (af A n c) (some (ae aj (D:Int))) none none).run prog V=.ok (af A5 (n-D) (c-D)) V):=fX fun V=>vh A A5 n c D a3 hA5 V
 have RT:aQ (∀V,(Instr.sliceAt 22 (af A n c) none (some (ae aj (D:Int))) none).run prog V=.ok (af A D c) V):=fX fun V=>vm A n c D (by omega) V
 have bR:aQ (∀(V:aq),(binOp .rem 3 (ae aj (K:Int)) (ae aj 8)).run prog V=.ok (ae aj (R:Int)) V):=fX fun V=>by rw[hR];exact ya prog 3 aj K 8 (by omega) V
 have bg:∀V,aR h w V->gu V V.heap.size A n c (gj q):=fun V hV=>by
  rw[hn];exact(hq.below (hh▸hV) fZ).more (hh▸hV).size
 have bq:=ky (kh hq)
 have AP:aQ (∀V,aR h w V->h+3<=V.heap.size->∃A' c' w',(Builtin.append_ #[22,22] 22 #[af none 0 0,af A5 (n-D) (c-D)]).run prog V=.ok (af A' (n-D) c') w'/\iB w' (h+3) A' (n-D) c' (gj (q.drop D))/\aR V.heap.size V w'):=fX fun V hV bj=>by
  have aU:gE V V.heap.size A5 (n-D) (gj (q.drop D))/\(A5=none->c-D=0):=by
   have hv:=bg V hV;have ef:gj (q.drop D)=fun j=>gj q (j+D):=funext fun j=>rG q D j
   rcases A with _|ad
   ·have h0:=hv.2.1 rfl;have:n-D=0:=by omega
    exact⟨⟨fun j=>by rw[ef];exact bq _,fun h=>absurd h (by omega)⟩,fun _=>by omega⟩
   ·have:=hv.drop a3 hA5;rw[ef];exact⟨this.1,this.2.1⟩
  obtain⟨A',c',w',h1,h3,h4,_⟩:=qS V V.heap.size A5 (n-D) (c-D) _ aU.1 (by omega) 22 aU.2;exact⟨A',c',w',h1,(iB.gR h3 aU.1.1).mono bj,h4⟩
 have AQ:aQ (∀V,aR h w V->h+3<=V.heap.size->∃A' c' w',(Builtin.append_ #[22,22] 22 #[af none 0 0,af A D c]).run prog V=.ok (af A' D c') w'/\iB w' (h+3) A' D c' (gj (q.take D))/\aR V.heap.size V w'):=fX fun V hV bj=>by
  have hv:=bg V hV;have aU:gE V V.heap.size A D (gj (q.take D)):=by
   refine⟨fun j=>?_,fun h0=>?_⟩
   ·rcases Nat.lt_or_ge j D with g|g
    ·rw[rH q g];exact bq j
    ·rw[xR (by rw[List.length_take];omega)];omega
   ·obtain⟨b,o,e1,e2,e3⟩:=hv.1.2 (by omega);exact⟨b,o,e1,e2,fun j hj=>by rw[rH q hj];exact e3 j (by omega)⟩
  obtain⟨A',c',w',h1,h3,h4,_⟩:=qS V V.heap.size A D c _ aU (by omega) 22 hv.2.1;exact⟨A',c',w',h1,(iB.gR h3 aU.1).mono bj,h4⟩
 have eN:(NH.length,n-D,D)=((iH p (q,K) raw).1.hist.length,(iH p (q,K) raw).1.gm.length,(iH p (q,K) raw).2.length):=by
  show _=((jn p.s.toNat (p.hist++raw)).length,(q.drop (K/8)).length,(q.take (K/8)).length)
  rw[<-a1,<-hD,List.length_drop,List.length_take,<-hn,Nat.min_eq_left a3]
 obtain⟨nh,bk⟩:=fY (NH.length)
 rw[<-bk]at a2 eN
 have eL:iH p (q,K) raw=({p with hist:=NH,gm:=q.drop D,k:=((R:Nat):Int)},q.take D):=by rw[a1,hD,hR];rfl
 have bx:=hp.wait
 have a4:=fX aX;have HH:=fX hh;have bS:=fX b1;have bT:=fX x1;have bU:=fX z1;have bV:=fX a7;have bW:=fX a2;have bz:=fX eL;have bA:=fX eN;have bX:aQ (Z.size=9):=fX (by rw[hZ];rfl)
 have ck:=fX bk;have bY:=fX bx;have bZ:=fX aZ;have b0:aQ (IntKind.i64.wrap ((K:Int)/8)=(D:Int)):=fX (by rw[e8];exact wrap_i64 D (by omega))
 have cm:=b0.out
 have cn:wrap64 (D:Int)=(D:Int):=by unfold wrap64;omega
 rw[bd]at av p1
 have b2:=fX p1
 have b3:=fX av
 rw[<-hn,<-bf]
 clear hZ hD hR bd av hh b1 x1 p1 z1 a7 aX hX a2 a3 bQ bg bq hA5 eN eL bx bk a1 hn bf aZ hp hq br bP hK hl h2 bN bO
 go_enter func55,ntmps55
 go_wp2_with (first
  |(rw[<-b3.out,<-HH.out])
  |(refine wpList_buildTo rfl 108 #[(0,.tmp 14),(1,.tmp 16)] rfl (some 17) rfl #[ae aj p.s,af Ah aY hc] ?_ ?_;focus(simpa[Act.eval,Act.put]using J0 Ah aY hc p.s))
  |fail)
 refine bW.out.mono ?_
 rintro e w2 ⟨A6,c6,rfl,bB,aW⟩
 have bC:=bV.out
 have x2:=bT.out.below aW (by omega)
 have p2:=b2.out.below aW (by omega)
 have z2:=bU.out.below aW bC
 have r4:w2.cell? ⟨h,4,none⟩=some (af Ah aY hc):=by rw[x2.cell,a4.out,bZ.out];rfl
 have f4:w2.frozen? ⟨h,4,none⟩=false:=x2.free
 obtain⟨w3,aS⟩:=fY (w2.setCell ⟨h,4,none⟩ (af A6 nh c6))
 have bD:aQ (gi w3 h (X.setIfInBounds 4 (af A6 nh c6)) 32):=fX (by rw[aS];exact x2.set 4 _)
 have aV:aQ (gi w3 (h+1) #[af A n c,ae aj (K:Int)] 30):=fX (by rw[aS];exact p2.other (by show h+1≠h;omega) _)
 have bl:aQ (gi w3 (h+2) Z 32):=fX (by rw[aS];exact z2.other (by show h+2≠h;omega) _)
 have bE:aQ (aR h w w3):=fX (by rw[aS];exact jx (bS.out.trans (aW.mono (by omega))) fZ _ _)
 have bm:aQ (h+3<=w3.heap.size):=fX (by have:=bl.out.lt;omega)
 have b4:aQ (iB w3 (h+3) A6 nh c6 (gj NH)):=fX (by rw[aS];exact(bB.mono (by omega)).set (by omega) _ _)
 have b5:=fX aS
 clear aS x2 p2 z2 bB aW bC
 go_wp2_with (first
  |(rw[<-b5.out])
  |(refine J2 rfl _ _ _ rfl _ _ rfl (J1 p.s A6 nh c6 _) ?_))
 refine tD 10 (mG [fun v _=>v=ag (some ⟨h+1,0,none⟩),fun v _=>v=af A n c,fun v _=>v=ae aj (D:Int),fun v _=>v=af A5 (n-D) (c-D),fun v W=>∃A' c',v=af A' (n-D) c'/\iB W (h+3) A' (n-D) c' (gj (q.drop D)),fun v _=>v=ag (some ⟨h+1,1,none⟩),fun v _=>v=ae aj (K:Int),fun v _=>v=ae aj (R:Int),fun v W=>∃A' c',v=ah #[af A' (n-D) c',ae aj (R:Int)]/\iB W (h+3) A' (n-D) c' (gj (q.drop D)),fun v _=>v=ag (some ⟨h,6,none⟩)]) w3 gC (by kernel_rfl) (by kernel_rfl) ?_ ?_
 case refine_1=>
  simp only[List.take_succ_cons,List.take_zero];refine gl.cons (fun aa wv hb ha hS Kk Qq hK=>gZ (gp rfl) _ _ _ rfl _ (ag (some ⟨h+1,0,none⟩)) ((ha 4 (by kernel_rfl)).trans rfl) (by go_simp) (gx rfl) hK) ?_;refine gl.cons (fun aa wv hb ha hS Kk Qq hK=>la (gp rfl) _ _ rfl _ (af A n c) (hS 0 22 (by kernel_rfl) rfl).here (by have hc:=gV (aV.out.below hb aV.out.lt);go_simp) (gx rfl) hK) ?_;refine gl.cons (fun aa wv hb ha hS Kk Qq hK=>gY (gp rfl) _ rfl (gx ((ha 8 (by kernel_rfl)).trans rfl)) hK) ?_;refine gl.cons (fun aa wv hb ha hS Kk Qq hK=>qI (gp rfl) _ _ _ _ _ rfl (af A n c) (af A5 (n-D) (c-D)) (some (ae aj (D:Int))) none none (hS 1 23 (by kernel_rfl) rfl).here (congrArg some (hS 2 24 (by kernel_rfl) rfl).here) rfl rfl (RF.out wv) (gx rfl) hK) ?_;refine gl.cons (fun aa wv hb ha hS Kk Qq hK=>by obtain⟨A',c',w',h1,h2,h3⟩:=AP.out wv (bE.out.trans (hb.mono (by have:=bm.out;omega))) (by have:=bm.out;have:=hb.size;omega);exact C9 (gp rfl) _ _ _ rfl _ _ _ rfl (hS 3 25 (by kernel_rfl) rfl).here h1 h3 (fun W hW=>⟨_,_,rfl,h2.below hW⟩) hK) ?_;refine gl.cons (fun aa wv hb ha hS Kk Qq hK=>gZ (gp rfl) _ _ _ rfl _ (ag (some ⟨h+1,1,none⟩)) ((ha 4 (by kernel_rfl)).trans rfl) (by go_simp) (gx rfl) hK) ?_;refine gl.cons (fun aa wv hb ha hS Kk Qq hK=>la (gp rfl) _ _ rfl _ (ae aj (K:Int)) (hS 5 27 (by kernel_rfl) rfl).here (by have hc:=iA (aV.out.below hb aV.out.lt);go_simp) (gx rfl) hK) ?_;refine gl.cons (fun aa wv hb ha hS Kk Qq hK=>rO (gp rfl) _ _ _ _ _ rfl _ _ (ae aj (R:Int)) (hS 6 28 (by kernel_rfl) rfl).here rfl (rP _ _ _ _ _ _ _ (by decide) (by decide) _) (bR.out wv) (gx rfl) hK) ?_;refine gl.cons (fun aa wv hb ha hS Kk Qq hK=>by have b6:=(show aa.eval (.tmp 29)=ae aj (R:Int)from(hS 7 29 (by kernel_rfl) rfl).here);have b7:=hS 4 26 (by kernel_rfl) rfl;obtain⟨A',c',e1,r1⟩:=b7.here;exact Da (gp rfl) _ #[(0,.tmp 26),(1,.tmp 29)] rfl #[af A' (n-D) c',ae aj (R:Int)] (by simpa[e1,b6]using Dk A' (n-D) c' (R:Int)) (fun W hW=>⟨_,_,rfl,r1.below hW⟩) hK) ?_;refine gl.cons (fun aa wv hb ha hS Kk Qq hK=>gZ (gp rfl) _ _ _ rfl _ (ag (some ⟨h,6,none⟩)) ((ha 3 (by kernel_rfl)).trans rfl) (by go_simp) (gx rfl) hK) ?_;exact gl.nil
 intro vals w5 hb hv
 obtain⟨A7,c7,bF,n7⟩:=(hv 8 30 rfl).here
 have bG:vals 31=ag (some ⟨h,6,none⟩):=(hv 9 31 rfl).here
 have x5:=bD.out.below hb bD.out.lt
 have p5:=aV.out.below hb aV.out.lt
 have z5:=bl.out.below hb bl.out.lt
 have s6:w5.cell? ⟨h,6,none⟩=some (af Ap p.gm.length pc):=by rw[x5.cell,a4.out];rfl
 have s7:w5.cell? ⟨h,7,none⟩=some (ae aj p.k):=by rw[x5.cell,a4.out];rfl
 have f6:w5.frozen? ⟨h,6,none⟩=false:=x5.free
 have f7:w5.frozen? ⟨h,7,none⟩=false:=x5.free
 obtain⟨w4,al⟩:=fY ((w5.setCell ⟨h,6,none⟩ (af A7 (n-D) c7)).setCell ⟨h,7,none⟩ (ae aj (R:Int)))
 obtain⟨Y,hY⟩:=fY (gI (iH p (q,K) raw).1 A6 c6 Aw wc A7 c7)
 have aT:=bA.out
 have bH:aQ (gi w4 h Y 32):=fX (by
  have a:=(x5.set 6 (af A7 (n-D) c7)).set 7 (ae aj (R:Int));rw[a4.out]at a;rw[al,hY];have e1:(iH p (q,K) raw).1.hist.length=nh:=(congrArg (·.1) aT).symm;have e2:(iH p (q,K) raw).1.gm.length=n-D:=(congrArg (·.2.1) aT).symm;unfold gI;rw[e1,e2,bz.out];exact a)
 have bI:aQ (gi w4 (h+1) #[af A n c,ae aj (K:Int)] 30):=fX (by rw[al];exact(p5.other (by show h+1≠h;omega) _).other (by show h+1≠h;omega) _)
 have bn:aQ (gi w4 (h+2) Z 32):=fX (by rw[al];exact(z5.other (by show h+2≠h;omega) _).other (by show h+2≠h;omega) _)
 have bJ:aQ (aR h w w4):=fX (by rw[al];exact jx (jx (bE.out.trans (hb.mono (by have:=bm.out;omega))) fZ _ _) fZ _ _)
 have bp:aQ (h+3<=w4.heap.size):=fX (by have:=bn.out.lt;omega)
 have b8:aQ (iB w4 (h+3) A6 nh c6 (gj NH)):=fX (by rw[al];exact((b4.out.below hb).set (by omega) _ _).set (by omega) _ _)
 have b9:aQ (iB w4 (h+3) A7 (n-D) c7 (gj (q.drop D))):=fX (by rw[al];exact(n7.set (by omega) _ _).set (by omega) _ _)
 have a5:aQ (Y.size=9):=fX (by rw[hY];rfl)
 have ca:aQ (Y.all (·.oneCell')=true):=fX (by rw[hY];exact lu ..)
 have cb:=fX hY;have cf:=fX al
 clear al hY x5 p5 z5 n7 hb hv aT
 simp only[List.take_succ_cons,List.take_zero,List.drop_succ_cons,List.drop_zero,List.map_cons,List.map_nil,Pv,Act.put,List.setIfInBounds_toArray,List.set_cons_zero,List.set_cons_succ,bF,bG]
 clear bF bG
 go_wp2_with (rw[<-cf.out])
 refine tD 6 (mG [fun v _=>v=ah Y,fun v _=>v=ag (some ⟨h+1,0,none⟩),fun v _=>v=af A n c,fun v _=>v=ae aj (D:Int),fun v _=>v=af A D c,fun v W=>∃A' c',v=af A' D c'/\iB W (h+3) A' D c' (gj (q.take D))]) w4 gC (by kernel_rfl) (by kernel_rfl) ?_ ?_
 case refine_1=>
  simp only[List.take_succ_cons,List.take_zero];refine gl.cons (fun aa wv hb ha hS Kk Qq hK=>by have hx:=bH.out.below hb bH.out.lt;exact oD (gp rfl) _ _ rfl h 0 ((ha 3 (by kernel_rfl)).trans rfl) Y.toList _ (sM hx) underlying32 rfl (by rw[Array.length_toList,a5.out];exact gM) (gx rfl) hK) ?_;refine gl.cons (fun aa wv hb ha hS Kk Qq hK=>gZ (gp rfl) _ _ _ rfl _ (ag (some ⟨h+1,0,none⟩)) ((ha 4 (by kernel_rfl)).trans rfl) (by go_simp) (gx rfl) hK) ?_;refine gl.cons (fun aa wv hb ha hS Kk Qq hK=>la (gp rfl) _ _ rfl _ (af A n c) (hS 1 33 (by kernel_rfl) rfl).here (by have hc:=gV (bI.out.below hb bI.out.lt);go_simp) (gx rfl) hK) ?_;refine gl.cons (fun aa wv hb ha hS Kk Qq hK=>gY (gp rfl) _ rfl (gx ((ha 8 (by kernel_rfl)).trans rfl)) hK) ?_;refine gl.cons (fun aa wv hb ha hS Kk Qq hK=>qI (gp rfl) _ _ _ _ _ rfl (af A n c) (af A D c) none (some (ae aj (D:Int))) none (hS 2 34 (by kernel_rfl) rfl).here rfl (congrArg some (hS 3 35 (by kernel_rfl) rfl).here) rfl (RT.out wv) (gx rfl) hK) ?_;refine gl.cons (fun aa wv hb ha hS Kk Qq hK=>by obtain⟨A',c',w',h1,h2,h3⟩:=AQ.out wv (bJ.out.trans (hb.mono (by have:=bp.out;omega))) (by have:=bp.out;have:=hb.size;omega);exact C9 (gp rfl) _ _ _ rfl _ _ _ rfl (hS 4 36 (by kernel_rfl) rfl).here h1 h3 (fun W hW=>⟨_,_,rfl,h2.below hW⟩) hK) ?_;exact gl.nil
 intro vals w6 hb hv
 obtain⟨A8,c8,bK,n8⟩:=(hv 5 37 rfl).here
 have bL:vals 32=ah Y:=(hv 0 32 rfl).here
 have z6:=bn.out.below hb bn.out.lt
 obtain⟨U,hU⟩:=fY (w6.setRow (h+2) Y)
 have cg:aQ (gi U (h+2) Y 32):=fX (by rw[hU];exact z6.row Y)
 have bM:aQ (aR h w U):=fX (by rw[hU];exact jU (bJ.out.trans (hb.mono (by have:=bp.out;omega))) (by omega) _)
 have ch:aQ (iB U (h+3) A6 nh c6 (gj NH)/\iB U (h+3) A7 (n-D) c7 (gj (q.drop D))/\iB U (h+3) A8 D c8 (gj (q.take D))):=fX (by
  rw[hU];exact⟨(b8.out.below hb).row (by omega) _,(b9.out.below hb).row (by omega) _,n8.row (by omega) _⟩)
 have HU:=fX hU;have cj:=fX z6
 clear hU z6 hb hv n8
 simp only[List.take_succ_cons,List.take_zero,List.drop_succ_cons,List.drop_zero,List.map_cons,List.map_nil,Pv,Act.put,List.setIfInBounds_toArray,List.set_cons_zero,List.set_cons_succ,bL,bK]
 clear bL bK
 go_wp2_with (refine aC rfl _ _ _ rfl rfl (h+2) Y rfl rfl 32 Z cj.out (by rw[a5.out];exact gM) (by rw[bX.out,a5.out]) ca.out ?_;rw[<-HU.out])
 refine aK (xY rfl _ _ (h+2) Y a5.out rfl cg.out) rfl ?_
 obtain⟨u1,u2,u3⟩:=ch.out
 have aT:=bA.out
 have e1:nh=(iH p (q,K) raw).1.hist.length:=congrArg (·.1) aT
 have e2:n-D=(iH p (q,K) raw).1.gm.length:=congrArg (·.2.1) aT
 have e3:D=(iH p (q,K) raw).2.length:=congrArg (·.2.2) aT
 have a6:=bz.out
 have g1:(iH p (q,K) raw).1.hist=NH:=by rw[a6]
 have g2:(iH p (q,K) raw).1.gm=q.drop D:=by rw[a6]
 have g3:(iH p (q,K) raw).2=q.take D:=by rw[a6]
 have g4:(iH p (q,K) raw).1.wait=p.wait:=by rw[a6]
 refine⟨A6,c6,A7,c7,A8,c8,?_,⟨?_,?_,?_⟩,?_,by rw[<-HH.out];exact bM.out,?_,?_,?_⟩
 ·rw[<-cb.out,<-e3];rfl
 ·rw[<-e1,g1];exact u1.rd
 ·rw[g4];have hb:=bM.out;rw[HH.out]at hb;exact(bY.out.below hb fZ).more hb.size
 ·rw[<-e2,g2];exact u2.rd
 ·rw[<-e3,g3];exact u3.rd
 ·rw[<-e1,<-HH.out];exact fun g o h0 e=>by have:=u1.new g o h0 e;omega
 ·rw[<-e2,<-HH.out];exact fun g o h0 e=>by have:=u2.new g o h0 e;omega
 ·rw[<-e3,<-HH.out];exact fun g o h0 e=>by have:=u3.new g o h0 e;omega
theorem Dl(w:aq)(p:gF)(Ah:Option au)(hc:Nat)(Aw:Option au)(wc:Nat)(Ap:Option au)(pc:Nat)(hp:gU w w.heap.size p Ah hc Aw wc Ap pc)(aT:1<=p.s)(aU:p.s<=32768)(hl:p.hist.length<=1000000)
  (q:List Nat) (K:Nat) (A:Option au) (c:Nat) (hq:gu w w.heap.size A q.length c (gj q)) (aV:q.length=(K+7)/8) (hK:K<=8388608) (A2:Option au) (c2:Nat) (raw:List Nat) (aW:gu w w.heap.size A2 raw.length c2 (gj raw)) (h2:raw.length<=65535):
  aw prog 55 #[ah (gI p Ah hc Aw wc Ap pc),ah #[af A q.length c,ae aj (K:Int)],af A2 raw.length c2] w fun e w'=>∃ad al av aS Ao oc,e=ao (.tuple #[ah (gI (iH p (q,K) raw).1 ad al Aw wc av aS),af Ao (iH p (q,K) raw).2.length oc])/\
   gU w' w'.heap.size (iH p (q,K) raw).1 ad al Aw wc av aS/\gu w' w'.heap.size Ao (iH p (q,K) raw).2.length oc (gj (iH p (q,K) raw).2)/\aR w.heap.size w w':=
 (J3 w p Ah hc Aw wc Ap pc hp aT aU hl q K A c hq aV hK A2 c2 raw aW h2).mono fun _ _ ⟨a1,a2,a3,a4,a5,a6,k1,k2,k3,k4,_⟩=>⟨a1,a2,a3,a4,a5,a6,k1,k2,k3,k4⟩
def lv(cs:Array ax):Prop:=∀(i:Nat) (x:Int),cs[i]?≠some (ae .u8 x)
theorem rT(A:Option au)(n c:Nat)(k:Int):lv #[af A n c,ae aj k]:=fun i x=>by
 rcases i with _|_|i<;>simp
theorem yh{V:aq}{B g n b o:Nat}{A:Option au}{f:Nat->Nat}{cs:Array ax}{t:aB}(h:gE V B A n f)(hg:gi V g cs t)(hn:lv cs)(h0:0<n)(e:A=some ⟨b,o,none⟩):b≠g:=fun hb=>by
 obtain⟨b',o',e',_,hc⟩:=h.2 h0;rw[e]at e';injection e' with e'
 injection e' with e1 e2 _
 have h1:=hc 0 h0;rw[<-e1,hb,hg.cell]at h1;exact hn _ _ h1
theorem gE.nV{V:aq}{B g n:Nat}{A:Option au}{f:Nat->Nat}{cs:Array ax}{t:aB}(h:gE V B A n f)(hg:gi V g cs t)(hn:lv cs)(i:Nat)(v:ax):gE (V.setCell ⟨g,i,none⟩ v) B A n f:=by
 refine⟨h.1,fun h0=>?_⟩;obtain⟨b,o,e,hb,hc⟩:=h.2 h0;have ad:=yh h hg hn h0 e;refine⟨b,o,e,hb,fun j hj=>?_⟩;have h1:=hc j hj;have h2:=Below.heap_setCell V ⟨g,i,none⟩ v b ad;simp only[World.cell?,h2]at h1⊢;exact h1
theorem gu.nV{V:aq}{B g n c:Nat}{A:Option au}{f:Nat->Nat}{cs:Array ax}{t:aB}(h:gu V B A n c f)(hg:gi V g cs t)(hn:lv cs)(i:Nat)(v:ax):gu (V.setCell ⟨g,i,none⟩ v) B A n c f:=⟨h.1.nV hg hn i v,h.2⟩
structure ki (V:aq) (q:List Nat×Nat) (A:Option au) (n c:Nat):Prop where
 len:n=q.1.length
 rd:gu V V.heap.size A n c (gj q.1)
 full:q.1.length=(q.2+7)/8
 clean:Pw (gj q.1) q.2
 bits:q.2<=4400000
theorem ki.on{V W:aq}{q:List Nat×Nat}{A:Option au}{n c:Nat}(h:ki V q A n c)(hb:aR V.heap.size V W):ki W q A n c:=⟨h.len,(h.rd.below hb fZ).more hb.size,h.full,h.clean,h.bits⟩
theorem qJ(V:aq)(p:au)(v:ax):(V.setCell p v).heap.size=V.heap.size:=by simp[World.setCell]
def sN(V:aq)(g:Nat)(x y:ax):aq:=(V.setCell ⟨g,0,none⟩ x).setCell ⟨g,1,none⟩ y
theorem J4(V:aq)(g:Nat)(x y:ax):(sN V g x y).heap.size=V.heap.size:=by unfold sN;rw[qJ,qJ]
theorem nE{V:aq}{g:Nat}{a b:ax}{t:aB}(h:gi V g #[a,b] t)(x y:ax):gi (sN V g x y) g #[x,y] t:=(h.set 0 x).set 1 y
theorem sO{V:aq}{g k:Nat}{cs:Array ax}{t:aB}(h:gi V k cs t)(hk:k≠g)(x y:ax):gi (sN V g x y) k cs t:=(h.other (by exact hk) _).other (by exact hk) _
theorem nW{B g:Nat}{a V:aq}(h:aR B a V)(hg:B<=g)(x y:ax):aR B a (sN V g x y):=jx (jx h hg _ _) hg _ _
theorem ki.set{V:aq}{q:List Nat×Nat}{A A0:Option au}{n c n0 c0 g:Nat}{k0:Int}{t:aB}(h:ki V q A n c)(hg:gi V g #[af A0 n0 c0,ae aj k0] t)(A1:Option au)(n1 c1:Nat)(k1:Int):ki (sN V g (af A1 n1 c1) (ae aj k1)) q A n c:=by
 refine⟨h.len,?_,h.full,h.clean,h.bits⟩;rw[J4];have h1:=h.rd.nV hg (rT _ _ _ _) 0 (af A1 n1 c1);have ad:=hg.set 0 (af A1 n1 c1);exact h1.nV ad (rT A1 n1 c1 k0) 1 _
def rU(w:aq)(x y:ax):aq:=w.alloc (ak #[x,y] 30)
theorem yi(w:aq)(x y:ax):gi (rU w x y) w.heap.size #[x,y] 30:=gi.new w _ _
theorem yj(w:aq)(x y:ax):aR w.heap.size w (rU w x y):=gC.alloc fZ _
theorem yk(w:aq)(x y:ax):(rU w x y).heap.size=w.heap.size+1:=by unfold rU;simp
theorem yl(w:aq)(q:List Nat×Nat)(A:Option au)(n c:Nat)(h:ki w q A n c):
  aw prog 56 #[ah #[af A n c,ae aj (q.2:Int)],ae .u8 0,af none 0 0,af none 0 0,ai false] w fun e w'=>∃A' n' c',e=ao (ah #[af A' n' c',ae aj (((gT q.1 q.2 0 [] [] false).2:Nat):Int)])/\n'=(gT q.1 q.2 0 [] [] false).1.length/\gu w' w'.heap.size A' n' c' (gj (gT q.1 q.2 0 [] [] false).1)/\aR w.heap.size w w':=by
 have hb:=pW (q.2%8) 0 (gj []) [] false
 have hk:=h.bits
 have h1:=yg w q.1 q.2 A c 0 none 0 [] none 0 0 [] false (by rw[<-h.len];exact h.rd) h.full h.clean (by show q.2+Pq (gN (q.2%8) 0 0 (gj []) [] false)<=8388608;rw[hb];unfold jl;omega) (by omega) (gu.nil _ _ _ (fun j=>ky (L:=[]) (fun x hx=>by cases hx) j)) (by show 0<=65535;omega) (iL.nil _ _) (by show 0<=65535;omega) (fun t ht=>by cases ht)
 rw[<-h.len]at h1
 exact h1.mono fun e w' ⟨A',c',e1,e2,e3⟩=>⟨A',_,c',e1,rfl,e2,e3⟩
theorem rV{k kind:Nat}{raw:List Nat}{l:List gA}{last:Bool}(hk:kind<=2)(al:k<=7)(hr:raw.length<=65535)(hb:jo raw)(hl:l.length<=65535)(ad:∀t∈l,gS t=true/\t.x<256):k+Pq (gN (k%8) kind raw.length (gj raw) l last)<=4320007:=by
 have:=qD (a:=k%8) (last:=last) hk hr (ky hb) hl ad;omega
theorem Dm{q:List Nat×Nat}:(gT q.1 q.2 0 [] [] false).2<=q.2+42:=by
 rw[p6,pW];unfold jl;show q.2+(3+(8-(q.2%8+3)%8)%8+32+8*0)<=q.2+42;omega
theorem J5(w:aq)(p:gF)(Ah:Option au)(hc:Nat)(Aw:Option au)(wc:Nat)(Ap:Option au)(pc:Nat)(hp:gU w w.heap.size p Ah hc Aw wc Ap pc)(g:kg p)(hw:p.wait.length=0)(hk:p.k=0):aw prog 59 #[ah (gI p Ah hc Aw wc Ap pc)] w fun e w'=>∃A' c',e=ao (ah #[af A' (iW p).1.length c',ae aj (((iW p).2:Nat):Int)])/\gu w' w'.heap.size A' (iW p).1.length c' (gj (iW p).1)/\aR w.heap.size w w':=by
 obtain⟨h,hh⟩:=fY (w.heap.size);obtain⟨X,hX⟩:=fY (gI p Ah hc Aw wc Ap pc);rw[<-hX];obtain⟨W1,ad⟩:=fY ((w.alloc (ak X 32)).alloc (ak #[af none 0 0,ae aj 0] 30));have b1:aR h w W1:=by rw[ad,hh];exact(gC.alloc fZ _).alloc (by simp) _
 have x1:gi W1 h X 32:=by rw[ad,hh];exact(gi.new w _ _).old _
 have y1:gi W1 (h+1) #[af none 0 0,ae aj 0] 30:=by
  rw[ad,hh];have:=gi.new (w.alloc (ak X 32)) #[af none 0 0,ae aj 0] 30
  rwa[World.size_alloc]at this
 have aS:h+1<W1.heap.size:=y1.lt;obtain⟨kk,aT⟩:∃kk:Nat,p.k=(kk:Int):=⟨p.k.toNat,by have:=g.k0;omega⟩;have aU:p.k.toNat=kk:=by omega
 have aX:kk<=7:=by have:=g.k7;omega
 obtain⟨wn,aV⟩:=fY (p.wait.length);obtain⟨pn,al⟩:=fY (p.gm.length);have av:X=#[ae aj p.s,ae aj p.h,ae aj p.m,ai p.z,af Ah p.hist.length hc,af Aw wn wc,af Ap pn pc,ae aj (kk:Int),ai p.gO]:=by rw[hX,<-aT,aV,al];rfl
 have q5:W1.cell? ⟨h,5,none⟩=some (af Aw wn wc):=by rw[x1.cell,av];rfl
 have q6:W1.cell? ⟨h,6,none⟩=some (af Ap pn pc):=by rw[x1.cell,av];rfl
 have q7:W1.cell? ⟨h,7,none⟩=some (ae aj (kk:Int)):=by rw[x1.cell,av];rfl
 have aW:pn=(kk+7)/8:=by rw[al,g.len,aU]
 have eF:iW p=(p.gm,0):=by unfold iW;rw[if_pos hw,if_pos hk]
 rw[eF];obtain rfl:kk=0:=by omega
 obtain rfl:wn=0:=by omega
 obtain rfl:pn=0:=by omega
 have v0:=gV y1;have v1:=iA y1;have z0:W1.frozen? ⟨h+1,0,none⟩=false:=y1.free;have z1:W1.frozen? ⟨h+1,1,none⟩=false:=y1.free;obtain⟨U,hU⟩:=fY ((W1.setCell ⟨h+1,0,none⟩ (af Ap 0 pc)).setCell ⟨h+1,1,none⟩ (ae aj 0));have aY:aQ (gi U (h+1) #[af Ap 0 pc,ae aj 0] 30):=fX (by rw[hU];exact nE y1 _ _);have aZ:aQ (aR h w U):=fX (by rw[hU];exact nW b1 (by omega) _ _);have HU:=fX hU;have a1:=fX ad;have HH:=fX hh;have HP:=fX hp.gm;have a2:=fX al
 clear hU ad hh b1 x1 y1 aS av hX hp g aT aU aX aV al aW hw hk eF;go_enter func59,ntmps59
 go_wp2_with (first
  |(rw[<-a1.out,<-HH.out])
  |(rw[<-HU.out])
  |fail)
 refine aK (oS rfl _ _ (h+1) #[af Ap 0 pc,ae aj 0] rfl rfl aY.out) rfl ?_;have hb:=aZ.out;rw[HH.out]at hb;refine⟨Ap,pc,by rw[<-a2.out];rfl,?_,hb⟩;exact(HP.out.below hb fZ).more hb.size
theorem J6(w:aq)(p:gF)(Ah:Option au)(hc:Nat)(Aw:Option au)(wc:Nat)(Ap:Option au)(pc:Nat)(hp:gU w w.heap.size p Ah hc Aw wc Ap pc)(g:kg p)(hw:p.wait.length=0)(hk:p.k≠0):aw prog 59 #[ah (gI p Ah hc Aw wc Ap pc)] w fun e w'=>∃A' c',e=ao (ah #[af A' (iW p).1.length c',ae aj (((iW p).2:Nat):Int)])/\gu w' w'.heap.size A' (iW p).1.length c' (gj (iW p).1)/\aR w.heap.size w w':=by
 obtain⟨h,hh⟩:=fY (w.heap.size);obtain⟨X,hX⟩:=fY (gI p Ah hc Aw wc Ap pc);rw[<-hX];obtain⟨W1,al⟩:=fY ((w.alloc (ak X 32)).alloc (ak #[af none 0 0,ae aj 0] 30));have b1:aR h w W1:=by rw[al,hh];exact(gC.alloc fZ _).alloc (by simp) _
 have x1:gi W1 h X 32:=by rw[al,hh];exact(gi.new w _ _).old _
 have y1:gi W1 (h+1) #[af none 0 0,ae aj 0] 30:=by
  rw[al,hh];have:=gi.new (w.alloc (ak X 32)) #[af none 0 0,ae aj 0] 30
  rwa[World.size_alloc]at this
 have aT:h+1<W1.heap.size:=y1.lt;obtain⟨kk,a1⟩:∃kk:Nat,p.k=(kk:Int):=⟨p.k.toNat,by have:=g.k0;omega⟩;have av:p.k.toNat=kk:=by omega
 have bf:kk<=7:=by have:=g.k7;omega
 obtain⟨wn,a2⟩:=fY (p.wait.length);obtain⟨pn,ad⟩:=fY (p.gm.length);have aS:X=#[ae aj p.s,ae aj p.h,ae aj p.m,ai p.z,af Ah p.hist.length hc,af Aw wn wc,af Ap pn pc,ae aj (kk:Int),ai p.gO]:=by rw[hX,<-a1,a2,ad];rfl
 have q5:W1.cell? ⟨h,5,none⟩=some (af Aw wn wc):=by rw[x1.cell,aS];rfl
 have q6:W1.cell? ⟨h,6,none⟩=some (af Ap pn pc):=by rw[x1.cell,aS];rfl
 have q7:W1.cell? ⟨h,7,none⟩=some (ae aj (kk:Int)):=by rw[x1.cell,aS];rfl
 have aU:pn=(kk+7)/8:=by rw[ad,g.len,av]
 have eF:iW p=gT p.gm p.k.toNat 0 [] [] false:=by unfold iW;rw[if_pos hw,if_neg hk]
 rw[eF];have bp:((kk:Int)==0)=false:=by simp;omega
 obtain rfl:wn=0:=by omega
 have aV:ki W1 (p.gm,kk) Ap pn pc:=⟨ad,by rw[ad];exact(hp.gm.below (hh▸b1) fZ).more (hh▸b1).size,by show p.gm.length=_;rw[<-ad];exact aU,by show Pw (gj p.gm) kk;rw[<-av];exact g.clean,by show kk<=4400000;omega⟩;have aW:=yl W1 (p.gm,kk) Ap pn pc aV;have a3:=fX aW;have bg:=fX al;have HH:=fX hh;have bj:=fX b1;have bk:=fX y1;have a4:=fX aT;have a5:=fX av
 clear aW aV al hh b1 x1 y1 aT aS hX hp g a1 av bf a2 ad aU hw hk eF;go_enter func59,ntmps59
 go_wp2_with (first
  |(rw[<-bg.out,<-HH.out])
  |fail)
 refine a3.out.mono ?_;rintro e w2 ⟨A',n',c',rfl,a6,a7,aY⟩;have y2:=bk.out.below aY a4.out;have aX:=bj.out.trans (aY.mono (by have:=a4.out;omega));obtain⟨Q,hQ⟩:=fY (gT p.gm kk 0 [] [] false);have a8:n'=Q.1.length:=by rw[hQ];exact a6
 have a9:gu w2 w2.heap.size A' n' c' (gj Q.1):=by rw[hQ];exact a7
 rw[<-hQ];obtain⟨K',aZ⟩:=fY (Q.2);rw[<-aZ];have v0:=gV y2;have v1:=iA y2;have z0:w2.frozen? ⟨h+1,0,none⟩=false:=y2.free;have z1:w2.frozen? ⟨h+1,1,none⟩=false:=y2.free;obtain⟨U,hU⟩:=fY ((w2.setCell ⟨h+1,0,none⟩ (af A' n' c')).setCell ⟨h+1,1,none⟩ (ae aj (K':Int)));have bl:aQ (gi U (h+1) #[af A' n' c',ae aj (K':Int)] 30):=fX (by rw[hU];exact nE y2 _ _);have bm:aQ (aR h w U):=fX (by rw[hU];exact nW aX (by omega) _ _);have bn:aQ (gu U U.heap.size A' n' c' (gj Q.1)):=fX (by
  rw[hU,qJ,qJ];exact(a9.nV y2 (rT none 0 0 0) 0 _).nV (y2.set 0 _) (rT A' n' c' 0) 1 _)
 have HU:=fX hU;have HQ:=fX hQ;have HK:=fX aZ;have bd:=fX a8
 clear hU y2 aY aX a7 a9 a6 a8 aZ hQ;go_wp2_with (first
  |(rw[<-HU.out])
  |fail)
 refine aK (oS rfl _ _ (h+1) #[af A' n' c',ae aj (K':Int)] rfl rfl bl.out) rfl ?_;refine⟨A',c',?_,?_,by rw[<-HH.out];exact bm.out⟩
 ·rw[a5.out,<-HQ.out,<-bd.out,<-HK.out]
 ·rw[a5.out,<-HQ.out,<-bd.out];exact bn.out
theorem J7(w:aq)(p:gF)(Ah:Option au)(hc:Nat)(Aw:Option au)(wc:Nat)(Ap:Option au)(pc:Nat)(hp:gU w w.heap.size p Ah hc Aw wc Ap pc)(g:kg p)(hw:p.wait.length≠0):aw prog 59 #[ah (gI p Ah hc Aw wc Ap pc)] w fun e w'=>∃A' c',e=ao (ah #[af A' (iW p).1.length c',ae aj (((iW p).2:Nat):Int)])/\gu w' w'.heap.size A' (iW p).1.length c' (gj (iW p).1)/\aR w.heap.size w w':=by
 obtain⟨h,hh⟩:=fY (w.heap.size);obtain⟨X,hX⟩:=fY (gI p Ah hc Aw wc Ap pc);rw[<-hX];obtain⟨W1,bM⟩:=fY ((w.alloc (ak X 32)).alloc (ak #[af none 0 0,ae aj 0] 30));have b1:aR h w W1:=by rw[bM,hh];exact(gC.alloc fZ _).alloc (by simp) _
 have x1:gi W1 h X 32:=by rw[bM,hh];exact(gi.new w _ _).old _
 have y1:gi W1 (h+1) #[af none 0 0,ae aj 0] 30:=by
  rw[bM,hh];have:=gi.new (w.alloc (ak X 32)) #[af none 0 0,ae aj 0] 30
  rwa[World.size_alloc]at this
 have bN:h+1<W1.heap.size:=y1.lt;obtain⟨kk,cQ⟩:∃kk:Nat,p.k=(kk:Int):=⟨p.k.toNat,by have:=g.k0;omega⟩;have b5:p.k.toNat=kk:=by omega
 have ca:kk<=7:=by have:=g.k7;omega
 obtain⟨wn,cb⟩:=fY (p.wait.length);obtain⟨pn,bO⟩:=fY (p.gm.length);have bP:X=#[ae aj p.s,ae aj p.h,ae aj p.m,ai p.z,af Ah p.hist.length hc,af Aw wn wc,af Ap pn pc,ae aj (kk:Int),ai p.gO]:=by rw[hX,<-cQ,cb,bO];rfl
 have q5:W1.cell? ⟨h,5,none⟩=some (af Aw wn wc):=by rw[x1.cell,bP];rfl
 have q6:W1.cell? ⟨h,6,none⟩=some (af Ap pn pc):=by rw[x1.cell,bP];rfl
 have q7:W1.cell? ⟨h,7,none⟩=some (ae aj (kk:Int)):=by rw[x1.cell,bP];rfl
 have cn:pn=(kk+7)/8:=by rw[bO,g.len,b5]
 have cR:=mj g.jY;have dj:=g.hist;have dk:=g.wait;obtain⟨tl,cf⟩:=fY (iy p p.wait);obtain⟨t1,t2⟩:=tC g.jY g.bh g.bw;rw[<-cf]at t1 t2;have cx:=hp.on (hh▸b1);have bQ:=Dj W1 p Ah hc Aw wc Ap pc cx g.jY (by omega) Aw wc p.wait cx.wait (by omega);rw[<-hX,<-cf,<-cb]at bQ;obtain⟨P0,cg⟩:=fY (gT p.gm p.k.toNat 0 p.wait (iy p p.wait) false);obtain⟨P1,bR⟩:=fY (gT p.gm p.k.toNat 1 p.wait (iy p p.wait) false);obtain⟨P2,bS⟩:=fY (gT p.gm p.k.toNat 2 p.wait (iy p p.wait) false);have eF:iW p=iz P0 (jw (iz P1 P2)):=by unfold iW;rw[if_neg hw,cg,bR,bS]
 rw[eF];rw[b5,<-cf]at cg bR bS;have cy:Pw (gj p.gm) kk:=by rw[<-b5];exact g.clean
 have cS:p.gm.length=(kk+7)/8:=by rw[<-bO];exact cn
 have gen:∀kind,kind<=2->∀V (A2:Option au) (t c2:Nat),aR h w V->iL V V.heap.size A2 t c2 tl->∀Q,Q=gT p.gm kk kind p.wait tl false->aw prog 56 #[ah #[af Ap pn pc,ae aj (kk:Int)],ae .u8 (kind:Int),af Aw wn wc,af A2 t c2,ai false] V fun e w'=>∃A' n' c',e=ao (ah #[af A' n' c',ae aj ((Q.2:Nat):Int)])/\ki w' Q A' n' c'/\aR V.heap.size V w':=fun kind cT V A2 t c2 hV ht Q hQ=>by
  have cU:=(hp.below (hh▸hV) fZ).more (hh▸hV).size;have hle:=rV (k:=kk) (kind:=kind) (raw:=p.wait) (l:=tl) (last:=false) cT ca (by omega) g.bw (by omega) t2;have h1:=yg V p.gm kk Ap pc kind Aw wc p.wait A2 t c2 tl false cU.gm cS cy (by omega) cT cU.wait (by omega) ht (by omega) t2;rw[<-bO,<-cb,<-hQ]at h1;refine h1.mono fun e w' ⟨A',c',e1,e2,e3⟩=>⟨A',_,c',e1,⟨rfl,e2,by rw[hQ];exact nS ..,by rw[hQ];exact pw cy ..,?_⟩,e3⟩
  rw[hQ];show kk+Pq _<=4400000
  omega
 have BN:aQ (P1.2<=4320007/\P2.2<=4320007):=fX (by
  rw[bR,bS];exact⟨rV (kind:=1) (by omega) ca (by omega) g.bw (by omega) t2,rV (kind:=2) (by omega) ca (by omega) g.bw (by omega) t2⟩)
 have e5:((wn:Int)==0)=false:=by simp;omega
 have cV:=fX bQ;have dm:=fX (gen 0 (by omega));have dn:=fX (gen 1 (by omega));have dp:=fX (gen 2 (by omega));have dq:=fX cg;have dr:=fX bR;have dt:=fX bS
 have du:=fX bM;have HH:=fX hh;have dv:=fX b1;have cW:=fX x1;have dw:=fX y1;have dx:=fX bN;have aZ:=fX bP;have dy:aQ (X.size=9):=fX (by rw[hX];rfl)
 clear bQ gen cg bR bS bM hh b1 x1 y1 bN bP hX hp g cQ b5 ca cb bO cn hw eF cy cS cx cf t1 t2 cR dj dk;go_enter func59,ntmps59
 go_wp2_with (first
  |(rw[<-du.out,<-HH.out])
  |(refine aE rfl _ _ rfl h rfl _ X (0,0) _ cW.out underlying32 rfl (by rw[dy.out];exact gM) ?_)
  |fail)
 refine cV.out.mono ?_;rintro e w2 ⟨A2,t,c2,rfl,ht,ch⟩;have cX:=dx.out;have cz:=fX (dv.out.trans (ch.mono (by omega)));have bT:=fX (cW.out.below ch (by omega));have cA:=fX (dw.out.below ch cX);have cY:=fX ht;have r5:w2.cell? ⟨h,5,none⟩=some (af Aw wn wc):=by rw[bT.out.cell,aZ.out];rfl
 have r6:w2.cell? ⟨h,6,none⟩=some (af Ap pn pc):=by rw[bT.out.cell,aZ.out];rfl
 have r7:w2.cell? ⟨h,7,none⟩=some (ae aj (kk:Int)):=by rw[bT.out.cell,aZ.out];rfl
 clear ht ch cX q5 q6 q7;go_wp2_with (first
  |fail)
 refine(dm.out w2 A2 t c2 cz.out cY.out _ dq.out).mono ?_;rintro e w3 ⟨B0,l0,d0,rfl,cp,cj⟩;obtain⟨K0,cB⟩:=fY (P0.2);rw[<-cB];obtain⟨V0,bG⟩:=fY (rU w3 (af B0 l0 d0) (ae aj (K0:Int)));have cC:aR w3.heap.size w3 V0:=by rw[bG];exact yj _ _ _
 have bH:aR w2.heap.size w2 V0:=cj.trans (cC.mono cj.size);have cZ:V0.heap.size=w3.heap.size+1:=by rw[bG];exact yk _ _ _
 have da:w2.heap.size<=w3.heap.size:=cj.size;have bn:=fX (bT.out.below bH bT.out.lt);have cq:=fX (cA.out.below bH cA.out.lt);have bU:=fX (cz.out.trans (bH.mono (by rw[HH.out];exact cz.out.size)));have cr:=fX ((cY.out.below bH fZ).more bH.size);have aX:aQ (gi V0 w3.heap.size #[af B0 l0 d0,ae aj (K0:Int)] 30):=fX (by rw[bG];exact yi _ _ _);have bu:aQ (ki V0 P0 B0 l0 d0):=fX (cp.on cC);have r5:V0.cell? ⟨h,5,none⟩=some (af Aw wn wc):=by rw[bn.out.cell,aZ.out];rfl
 have r6:V0.cell? ⟨h,6,none⟩=some (af Ap pn pc):=by rw[bn.out.cell,aZ.out];rfl
 have r7:V0.cell? ⟨h,7,none⟩=some (ae aj (kk:Int)):=by rw[bn.out.cell,aZ.out];rfl
 have a3:=fX cB;have dQ:=fX bG;have dz:=fX da;have dA:=fX cZ
 have db:V0=w3.alloc (ak #[af B0 l0 d0,ae aj (K0:Int)] 30):=bG;have dB:=fX db;clear db cB bG cC bH cZ da cp cj;go_wp2_with (first
  |(rw[<-dB.out])
  |fail)
 refine(dn.out V0 A2 t c2 bU.out cr.out _ dr.out).mono ?_;rintro e w4 ⟨B1,l1,d1,rfl,ct,ck⟩;obtain⟨K1,cD⟩:=fY (P1.2);rw[<-cD];obtain⟨V1,bI⟩:=fY (rU w4 (af B1 l1 d1) (ae aj (K1:Int)));have cE:aR w4.heap.size w4 V1:=by rw[bI];exact yj _ _ _
 have bp:aR V0.heap.size V0 V1:=ck.trans (cE.mono ck.size);have dc:V1.heap.size=w4.heap.size+1:=by rw[bI];exact yk _ _ _
 have dd:V0.heap.size<=w4.heap.size:=ck.size;have bq:=fX (bn.out.below bp bn.out.lt);have cu:=fX (cq.out.below bp cq.out.lt);have bV:=fX (bU.out.trans (bp.mono (by rw[HH.out];exact bU.out.size)));have cv:=fX ((cr.out.below bp fZ).more bp.size);have al:aQ (gi V1 w4.heap.size #[af B1 l1 d1,ae aj (K1:Int)] 30):=fX (by rw[bI];exact yi _ _ _);have bW:aQ (ki V1 P1 B1 l1 d1):=fX (ct.on cE);have aX:=fX (aX.out.below bp aX.out.lt);have bu:=fX (bu.out.on bp);have r5:V1.cell? ⟨h,5,none⟩=some (af Aw wn wc):=by rw[bq.out.cell,aZ.out];rfl
 have r6:V1.cell? ⟨h,6,none⟩=some (af Ap pn pc):=by rw[bq.out.cell,aZ.out];rfl
 have r7:V1.cell? ⟨h,7,none⟩=some (ae aj (kk:Int)):=by rw[bq.out.cell,aZ.out];rfl
 have bj:=fX cD;have dR:=fX bI;have dC:=fX dd;have dD:=fX dc
 have de:V1=w4.alloc (ak #[af B1 l1 d1,ae aj (K1:Int)] 30):=bI;have dE:=fX de;clear de cD bI cE bp dc dd ct ck;go_wp2_with (first
  |(rw[<-dE.out])
  |fail)
 refine(dp.out V1 A2 t c2 bV.out cv.out _ dt.out).mono ?_;rintro e w5 ⟨B2,l2,d2,rfl,cw,cl⟩;obtain⟨K2,cF⟩:=fY (P2.2);rw[<-cF];obtain⟨V2,bJ⟩:=fY (rU w5 (af B2 l2 d2) (ae aj (K2:Int)));have cG:aR w5.heap.size w5 V2:=by rw[bJ];exact yj _ _ _
 have bf:aR V1.heap.size V1 V2:=cl.trans (cG.mono cl.size);have df:V2.heap.size=w5.heap.size+1:=by rw[bJ];exact yk _ _ _
 have dg:V1.heap.size<=w5.heap.size:=cl.size;have bX:=fX (bq.out.below bf bq.out.lt);have aS:=fX (cu.out.below bf cu.out.lt);have bF:=fX (bV.out.trans (bf.mono (by rw[HH.out];exact bV.out.size)));have dN:=fX ((cv.out.below bf fZ).more bf.size);have cm:aQ (gi V2 w5.heap.size #[af B2 l2 d2,ae aj (K2:Int)] 30):=fX (by rw[bJ];exact yi _ _ _);have dF:aQ (ki V2 P2 B2 l2 d2):=fX (cw.on cG);have aX:=fX (aX.out.below bf aX.out.lt);have bu:=fX (bu.out.on bf);have al:=fX (al.out.below bf al.out.lt);have bW:=fX (bW.out.on bf);have r5:V2.cell? ⟨h,5,none⟩=some (af Aw wn wc):=by rw[bX.out.cell,aZ.out];rfl
 have r6:V2.cell? ⟨h,6,none⟩=some (af Ap pn pc):=by rw[bX.out.cell,aZ.out];rfl
 have r7:V2.cell? ⟨h,7,none⟩=some (ae aj (kk:Int)):=by rw[bX.out.cell,aZ.out];rfl
 have bk:=fX cF;have dS:=fX bJ;have dG:=fX dg;have dT:=fX df
 have dh:V2=w5.alloc (ak #[af B2 l2 d2,ae aj (K2:Int)] 30):=bJ;have bK:=fX dh;clear dh cF bJ cG bf df dg cw cl;have dO:h+1<w3.heap.size:=by have:=cA.out.lt;have:=dz.out;omega
 have bN:w3.heap.size<w4.heap.size:=by have:=dC.out;have:=dA.out;omega
 have dP:w4.heap.size<w5.heap.size:=by have:=dG.out;have:=dD.out;omega
 have a1:=gV al.out;have b1:=iA al.out;have c1:V2.frozen? ⟨w4.heap.size,0,none⟩=false:=al.out.free;have e1:V2.frozen? ⟨w4.heap.size,1,none⟩=false:=al.out.free;have a2:=gV cm.out;have b2:=iA cm.out;have c2:V2.frozen? ⟨w5.heap.size,0,none⟩=false:=cm.out.free;have e2:V2.frozen? ⟨w5.heap.size,1,none⟩=false:=cm.out.free;by_cases c1:K2<K1
 ·have dH:decide ((K2:Int)<(K1:Int))=true:=decide_eq_true (by omega);have dI:decide (K2<K1)=true:=decide_eq_true c1;have EP:aQ (iz P1 P2=P2):=fX (by unfold iz;rw[if_pos (by have e1:=bj.out;have e2:=bk.out;omega)]);obtain⟨V3,br⟩:=fY ((V2.setCell ⟨w4.heap.size,0,none⟩ (af B2 l2 d2)).setCell ⟨w4.heap.size,1,none⟩ (ae aj (K2:Int)));have bg:aQ (gi V3 w4.heap.size #[af B2 l2 d2,ae aj (K2:Int)] 30):=fX (by rw[br];exact nE al.out _ _);have bL:aQ (gi V3 w3.heap.size #[af B0 l0 d0,ae aj (K0:Int)] 30):=fX (by rw[br];exact sO aX.out (by omega) _ _);have Y3:aQ (gi V3 (h+1) #[af none 0 0,ae aj 0] 30):=fX (by rw[br];exact sO aS.out (by omega) _ _);have cH:aQ (aR h w V3):=fX (by rw[br];exact nW bF.out (by omega) _ _);have di:aQ (ki V3 P0 B0 l0 d0):=fX (by rw[br];exact bu.out.set al.out _ _ _ _);have cI:aQ (ki V3 P2 B2 l2 d2):=fX (by rw[br];exact dF.out.set al.out _ _ _ _);have cJ:=fX br;clear br c1;by_cases c2:K2%8=0
  ·have cK:(((K2:Int)%8:Int) !=0)=false:=by simp;omega
   have cL:(((K2%8:Nat):Int) !=0)=false:=by simp;omega
   have cM:(K2%8 !=0)=false:=by simp;omega
   have a4:aQ (jw (iz P1 P2)=P2):=fX (by
    have e1:=bk.out;rw[EP.out];unfold jw;rw[if_pos (by omega)])
   have a6:=gV bg.out;have b6:=iA bg.out;have c6:V3.frozen? ⟨w4.heap.size,0,none⟩=false:=bg.out.free;have e6:V3.frozen? ⟨w4.heap.size,1,none⟩=false:=bg.out.free;have a7:=gV bL.out;have b7:=iA bL.out;have c7:V3.frozen? ⟨w3.heap.size,0,none⟩=false:=bL.out.free;have e7:V3.frozen? ⟨w3.heap.size,1,none⟩=false:=bL.out.free;have a8:=gV Y3.out;have b8:=iA Y3.out;have c8:V3.frozen? ⟨h+1,0,none⟩=false:=Y3.out.free;have e8:V3.frozen? ⟨h+1,1,none⟩=false:=Y3.out.free;by_cases c3:K2<K0
   ·have bx:decide ((K2:Int)<(K0:Int))=true:=decide_eq_true (by omega);have bz:decide (K2<K0)=true:=decide_eq_true c3;obtain⟨U,hU⟩:=fY ((V3.setCell ⟨h+1,0,none⟩ (af B2 l2 d2)).setCell ⟨h+1,1,none⟩ (ae aj (K2:Int)));have aU:aQ (gi U (h+1) #[af B2 l2 d2,ae aj (K2:Int)] 30):=fX (by rw[hU];exact nE Y3.out _ _);have aV:aQ (aR h w U):=fX (by rw[hU];exact nW cH.out (by omega) _ _);have ad:aQ (ki U P2 B2 l2 d2):=fX (by rw[hU];exact cI.out.set Y3.out _ _ _ _);have aW:aQ (iz P0 (jw (iz P1 P2))=P2):=fX (by
     have e0:=a3.out;have e1:=bk.out;rw[a4.out];unfold iz;rw[if_pos (by omega)])
    have HU:=fX hU;clear hU c3;go_wp2_with (first
     |(rw[<-HU.out])
     |(rw[<-bK.out])
     |(rw[<-cJ.out])
     |fail)
    refine aK (oS rfl _ _ (h+1) #[af B2 l2 d2,ae aj (K2:Int)] rfl rfl aU.out) rfl ?_;rw[aW.out,<-bk.out,<-ad.out.len];exact⟨B2,d2,rfl,ad.out.rd,by rw[<-HH.out];exact aV.out⟩
   ·have bx:decide ((K2:Int)<(K0:Int))=false:=decide_eq_false (by omega);have bz:decide (K2<K0)=false:=decide_eq_false c3;obtain⟨U,hU⟩:=fY ((V3.setCell ⟨h+1,0,none⟩ (af B0 l0 d0)).setCell ⟨h+1,1,none⟩ (ae aj (K0:Int)));have aU:aQ (gi U (h+1) #[af B0 l0 d0,ae aj (K0:Int)] 30):=fX (by rw[hU];exact nE Y3.out _ _);have aV:aQ (aR h w U):=fX (by rw[hU];exact nW cH.out (by omega) _ _);have ad:aQ (ki U P0 B0 l0 d0):=fX (by rw[hU];exact di.out.set Y3.out _ _ _ _);have aW:aQ (iz P0 (jw (iz P1 P2))=P0):=fX (by
     have e0:=a3.out;have e1:=bk.out;rw[a4.out];unfold iz;rw[if_neg (by omega)])
    have HU:=fX hU;clear hU c3;go_wp2_with (first
     |(rw[<-HU.out])
     |(rw[<-bK.out])
     |(rw[<-cJ.out])
     |fail)
    refine aK (oS rfl _ _ (h+1) #[af B0 l0 d0,ae aj (K0:Int)] rfl rfl aU.out) rfl ?_;rw[aW.out,<-a3.out,<-ad.out.len];exact⟨B0,d0,rfl,ad.out.rd,by rw[<-HH.out];exact aV.out⟩
  ·have cK:(((K2:Int)%8:Int) !=0)=true:=by simp;omega
   have cL:(((K2%8:Nat):Int) !=0)=true:=by simp;omega
   have cM:(K2%8 !=0)=true:=by simp;omega
   have a4:aQ (jw (iz P1 P2)=gT P2.1 P2.2 0 [] [] false):=fX (by
    have e1:=bk.out;rw[EP.out];unfold jw;rw[if_neg (by omega)])
   have a5:=yl V3 P2 B2 l2 d2 cI.out;obtain⟨P6,bA⟩:=fY (gT P2.1 P2.2 0 [] [] false);rw[<-bA,<-bk.out]at a5;have bY:=fX a5;have bd:=fX bA
   clear a5 bA c2;have a9:=gV bg.out;have b9:=iA bg.out;have c9:V3.frozen? ⟨w4.heap.size,0,none⟩=false:=bg.out.free;have e9:V3.frozen? ⟨w4.heap.size,1,none⟩=false:=bg.out.free;go_wp2_with (first
    |(rw[<-bK.out])
    |(rw[<-cJ.out])
    |fail)
   refine bY.out.mono ?_;rintro e w6 ⟨B6,l6,d6,rfl,bB,bC,aY⟩;obtain⟨K6,bD⟩:=fY (P6.2);rw[<-bD];have bE:=fX bD;have av:=bg.out.below aY bg.out.lt;have bZ:=bL.out.below aY bL.out.lt;have y6:=Y3.out.below aY Y3.out.lt;have b0:=di.out.on aY;have dJ:w4.heap.size<w6.heap.size:=av.lt;have cN:h<=V3.heap.size:=by have:=Y3.out.lt;omega
   have bt:=cH.out.trans (aY.mono cN);obtain⟨V6,aT⟩:=fY ((w6.setCell ⟨w4.heap.size,0,none⟩ (af B6 l6 d6)).setCell ⟨w4.heap.size,1,none⟩ (ae aj (K6:Int)));have g9:=gV av;have dK:=iA av;have dL:w6.frozen? ⟨w4.heap.size,0,none⟩=false:=av.free;have dM:w6.frozen? ⟨w4.heap.size,1,none⟩=false:=av.free;have bl:aQ (gi V6 w4.heap.size #[af B6 l6 d6,ae aj (K6:Int)] 30):=fX (by rw[aT];exact nE av _ _);have bm:aQ (gi V6 w3.heap.size #[af B0 l0 d0,ae aj (K0:Int)] 30):=fX (by rw[aT];exact sO bZ (by omega) _ _);have Y6:aQ (gi V6 (h+1) #[af none 0 0,ae aj 0] 30):=fX (by rw[aT];exact sO y6 (by omega) _ _);have b3:aQ (aR h w V6):=fX (by rw[aT];exact nW bt (by omega) _ _);have cO:aQ (ki V6 P0 B0 l0 d0):=fX (by rw[aT];exact b0.set av _ _ _ _);have cP:aQ (ki V6 P6 B6 l6 d6):=fX (by
    have hq:ki w6 P6 B6 l6 d6:=⟨bB,by rw[bB]at bC⊢;exact bC,by rw[bd.out];exact nS ..,by rw[bd.out];exact pw cI.out.clean _ _ _ _,by
     have e1:=Dm (q:=P2);have e2:=bk.out;have e3:=BN.out;rw[bd.out];omega⟩
    rw[aT];exact hq.set av _ _ _ _)
   have b4:=fX aT;clear aT av bZ y6 b0 aY bt bB bC bD a9 b9 c9 e9;have a6:=gV bl.out;have b6:=iA bl.out;have c6:V6.frozen? ⟨w4.heap.size,0,none⟩=false:=bl.out.free;have e6:V6.frozen? ⟨w4.heap.size,1,none⟩=false:=bl.out.free;have a7:=gV bm.out;have b7:=iA bm.out;have c7:V6.frozen? ⟨w3.heap.size,0,none⟩=false:=bm.out.free;have e7:V6.frozen? ⟨w3.heap.size,1,none⟩=false:=bm.out.free;have a8:=gV Y6.out;have b8:=iA Y6.out;have c8:V6.frozen? ⟨h+1,0,none⟩=false:=Y6.out.free;have e8:V6.frozen? ⟨h+1,1,none⟩=false:=Y6.out.free;by_cases c3:K6<K0
   ·have bx:decide ((K6:Int)<(K0:Int))=true:=decide_eq_true (by omega);have bz:decide (K6<K0)=true:=decide_eq_true c3;obtain⟨U,hU⟩:=fY ((V6.setCell ⟨h+1,0,none⟩ (af B6 l6 d6)).setCell ⟨h+1,1,none⟩ (ae aj (K6:Int)));have aU:aQ (gi U (h+1) #[af B6 l6 d6,ae aj (K6:Int)] 30):=fX (by rw[hU];exact nE Y6.out _ _);have aV:aQ (aR h w U):=fX (by rw[hU];exact nW b3.out (by omega) _ _);have ad:aQ (ki U P6 B6 l6 d6):=fX (by rw[hU];exact cP.out.set Y6.out _ _ _ _);have aW:aQ (iz P0 (jw (iz P1 P2))=P6):=fX (by
     have e0:=a3.out;have e1:=bE.out;rw[a4.out,<-bd.out];unfold iz;rw[if_pos (by omega)])
    have HU:=fX hU;clear hU c3;go_wp2_with (first
     |(rw[<-HU.out])
     |(rw[<-b4.out])
     |fail)
    refine aK (oS rfl _ _ (h+1) #[af B6 l6 d6,ae aj (K6:Int)] rfl rfl aU.out) rfl ?_;rw[aW.out,<-bE.out,<-ad.out.len];exact⟨B6,d6,rfl,ad.out.rd,by rw[<-HH.out];exact aV.out⟩
   ·have bx:decide ((K6:Int)<(K0:Int))=false:=decide_eq_false (by omega);have bz:decide (K6<K0)=false:=decide_eq_false c3;obtain⟨U,hU⟩:=fY ((V6.setCell ⟨h+1,0,none⟩ (af B0 l0 d0)).setCell ⟨h+1,1,none⟩ (ae aj (K0:Int)));have aU:aQ (gi U (h+1) #[af B0 l0 d0,ae aj (K0:Int)] 30):=fX (by rw[hU];exact nE Y6.out _ _);have aV:aQ (aR h w U):=fX (by rw[hU];exact nW b3.out (by omega) _ _);have ad:aQ (ki U P0 B0 l0 d0):=fX (by rw[hU];exact cO.out.set Y6.out _ _ _ _);have aW:aQ (iz P0 (jw (iz P1 P2))=P0):=fX (by
     have e0:=a3.out;have e1:=bE.out;rw[a4.out,<-bd.out];unfold iz;rw[if_neg (by omega)])
    have HU:=fX hU;clear hU c3;go_wp2_with (first
     |(rw[<-HU.out])
     |(rw[<-b4.out])
     |fail)
    refine aK (oS rfl _ _ (h+1) #[af B0 l0 d0,ae aj (K0:Int)] rfl rfl aU.out) rfl ?_;rw[aW.out,<-a3.out,<-ad.out.len];exact⟨B0,d0,rfl,ad.out.rd,by rw[<-HH.out];exact aV.out⟩
 ·have dH:decide ((K2:Int)<(K1:Int))=false:=decide_eq_false (by omega);have dI:decide (K2<K1)=false:=decide_eq_false c1;have EP:aQ (iz P1 P2=P1):=fX (by unfold iz;rw[if_neg (by have e1:=bj.out;have e2:=bk.out;omega)]);clear c1;by_cases c2:K1%8=0
  ·have cK:(((K1:Int)%8:Int) !=0)=false:=by simp;omega
   have cL:(((K1%8:Nat):Int) !=0)=false:=by simp;omega
   have cM:(K1%8 !=0)=false:=by simp;omega
   have a4:aQ (jw (iz P1 P2)=P1):=fX (by
    have e1:=bj.out;rw[EP.out];unfold jw;rw[if_pos (by omega)])
   have a6:=gV al.out;have b6:=iA al.out;have c6:V2.frozen? ⟨w4.heap.size,0,none⟩=false:=al.out.free;have e6:V2.frozen? ⟨w4.heap.size,1,none⟩=false:=al.out.free;have a7:=gV aX.out;have b7:=iA aX.out;have c7:V2.frozen? ⟨w3.heap.size,0,none⟩=false:=aX.out.free;have e7:V2.frozen? ⟨w3.heap.size,1,none⟩=false:=aX.out.free;have a8:=gV aS.out;have b8:=iA aS.out;have c8:V2.frozen? ⟨h+1,0,none⟩=false:=aS.out.free;have e8:V2.frozen? ⟨h+1,1,none⟩=false:=aS.out.free;by_cases c3:K1<K0
   ·have bx:decide ((K1:Int)<(K0:Int))=true:=decide_eq_true (by omega);have bz:decide (K1<K0)=true:=decide_eq_true c3;obtain⟨U,hU⟩:=fY ((V2.setCell ⟨h+1,0,none⟩ (af B1 l1 d1)).setCell ⟨h+1,1,none⟩ (ae aj (K1:Int)));have aU:aQ (gi U (h+1) #[af B1 l1 d1,ae aj (K1:Int)] 30):=fX (by rw[hU];exact nE aS.out _ _);have aV:aQ (aR h w U):=fX (by rw[hU];exact nW bF.out (by omega) _ _);have ad:aQ (ki U P1 B1 l1 d1):=fX (by rw[hU];exact bW.out.set aS.out _ _ _ _);have aW:aQ (iz P0 (jw (iz P1 P2))=P1):=fX (by
     have e0:=a3.out;have e1:=bj.out;rw[a4.out];unfold iz;rw[if_pos (by omega)])
    have HU:=fX hU;clear hU c3;go_wp2_with (first
     |(rw[<-HU.out])
     |(rw[<-bK.out])
     |fail)
    refine aK (oS rfl _ _ (h+1) #[af B1 l1 d1,ae aj (K1:Int)] rfl rfl aU.out) rfl ?_;rw[aW.out,<-bj.out,<-ad.out.len];exact⟨B1,d1,rfl,ad.out.rd,by rw[<-HH.out];exact aV.out⟩
   ·have bx:decide ((K1:Int)<(K0:Int))=false:=decide_eq_false (by omega);have bz:decide (K1<K0)=false:=decide_eq_false c3;obtain⟨U,hU⟩:=fY ((V2.setCell ⟨h+1,0,none⟩ (af B0 l0 d0)).setCell ⟨h+1,1,none⟩ (ae aj (K0:Int)));have aU:aQ (gi U (h+1) #[af B0 l0 d0,ae aj (K0:Int)] 30):=fX (by rw[hU];exact nE aS.out _ _);have aV:aQ (aR h w U):=fX (by rw[hU];exact nW bF.out (by omega) _ _);have ad:aQ (ki U P0 B0 l0 d0):=fX (by rw[hU];exact bu.out.set aS.out _ _ _ _);have aW:aQ (iz P0 (jw (iz P1 P2))=P0):=fX (by
     have e0:=a3.out;have e1:=bj.out;rw[a4.out];unfold iz;rw[if_neg (by omega)])
    have HU:=fX hU;clear hU c3;go_wp2_with (first
     |(rw[<-HU.out])
     |(rw[<-bK.out])
     |fail)
    refine aK (oS rfl _ _ (h+1) #[af B0 l0 d0,ae aj (K0:Int)] rfl rfl aU.out) rfl ?_;rw[aW.out,<-a3.out,<-ad.out.len];exact⟨B0,d0,rfl,ad.out.rd,by rw[<-HH.out];exact aV.out⟩
  ·have cK:(((K1:Int)%8:Int) !=0)=true:=by simp;omega
   have cL:(((K1%8:Nat):Int) !=0)=true:=by simp;omega
   have cM:(K1%8 !=0)=true:=by simp;omega
   have a4:aQ (jw (iz P1 P2)=gT P1.1 P1.2 0 [] [] false):=fX (by
    have e1:=bj.out;rw[EP.out];unfold jw;rw[if_neg (by omega)])
   have a5:=yl V2 P1 B1 l1 d1 bW.out;obtain⟨P6,bA⟩:=fY (gT P1.1 P1.2 0 [] [] false);rw[<-bA,<-bj.out]at a5;have bY:=fX a5;have bd:=fX bA
   clear a5 bA c2;have a9:=gV al.out;have b9:=iA al.out;have c9:V2.frozen? ⟨w4.heap.size,0,none⟩=false:=al.out.free;have e9:V2.frozen? ⟨w4.heap.size,1,none⟩=false:=al.out.free;go_wp2_with (first
    |(rw[<-bK.out])
    |fail)
   refine bY.out.mono ?_;rintro e w6 ⟨B6,l6,d6,rfl,bB,bC,aY⟩;obtain⟨K6,bD⟩:=fY (P6.2);rw[<-bD];have bE:=fX bD;have av:=al.out.below aY al.out.lt;have bZ:=aX.out.below aY aX.out.lt;have y6:=aS.out.below aY aS.out.lt;have b0:=bu.out.on aY;have dJ:w4.heap.size<w6.heap.size:=av.lt;have cN:h<=V2.heap.size:=by have:=aS.out.lt;omega
   have bt:=bF.out.trans (aY.mono cN);obtain⟨V6,aT⟩:=fY ((w6.setCell ⟨w4.heap.size,0,none⟩ (af B6 l6 d6)).setCell ⟨w4.heap.size,1,none⟩ (ae aj (K6:Int)));have g9:=gV av;have dK:=iA av;have dL:w6.frozen? ⟨w4.heap.size,0,none⟩=false:=av.free;have dM:w6.frozen? ⟨w4.heap.size,1,none⟩=false:=av.free;have bl:aQ (gi V6 w4.heap.size #[af B6 l6 d6,ae aj (K6:Int)] 30):=fX (by rw[aT];exact nE av _ _);have bm:aQ (gi V6 w3.heap.size #[af B0 l0 d0,ae aj (K0:Int)] 30):=fX (by rw[aT];exact sO bZ (by omega) _ _);have Y6:aQ (gi V6 (h+1) #[af none 0 0,ae aj 0] 30):=fX (by rw[aT];exact sO y6 (by omega) _ _);have b3:aQ (aR h w V6):=fX (by rw[aT];exact nW bt (by omega) _ _);have cO:aQ (ki V6 P0 B0 l0 d0):=fX (by rw[aT];exact b0.set av _ _ _ _);have cP:aQ (ki V6 P6 B6 l6 d6):=fX (by
    have hq:ki w6 P6 B6 l6 d6:=⟨bB,by rw[bB]at bC⊢;exact bC,by rw[bd.out];exact nS ..,by rw[bd.out];exact pw bW.out.clean _ _ _ _,by
     have e1:=Dm (q:=P1);have e2:=bj.out;have e3:=BN.out;rw[bd.out];omega⟩
    rw[aT];exact hq.set av _ _ _ _)
   have b4:=fX aT;clear aT av bZ y6 b0 aY bt bB bC bD a9 b9 c9 e9;have a6:=gV bl.out;have b6:=iA bl.out;have c6:V6.frozen? ⟨w4.heap.size,0,none⟩=false:=bl.out.free;have e6:V6.frozen? ⟨w4.heap.size,1,none⟩=false:=bl.out.free;have a7:=gV bm.out;have b7:=iA bm.out;have c7:V6.frozen? ⟨w3.heap.size,0,none⟩=false:=bm.out.free;have e7:V6.frozen? ⟨w3.heap.size,1,none⟩=false:=bm.out.free;have a8:=gV Y6.out;have b8:=iA Y6.out;have c8:V6.frozen? ⟨h+1,0,none⟩=false:=Y6.out.free;have e8:V6.frozen? ⟨h+1,1,none⟩=false:=Y6.out.free;by_cases c3:K6<K0
   ·have bx:decide ((K6:Int)<(K0:Int))=true:=decide_eq_true (by omega);have bz:decide (K6<K0)=true:=decide_eq_true c3;obtain⟨U,hU⟩:=fY ((V6.setCell ⟨h+1,0,none⟩ (af B6 l6 d6)).setCell ⟨h+1,1,none⟩ (ae aj (K6:Int)));have aU:aQ (gi U (h+1) #[af B6 l6 d6,ae aj (K6:Int)] 30):=fX (by rw[hU];exact nE Y6.out _ _);have aV:aQ (aR h w U):=fX (by rw[hU];exact nW b3.out (by omega) _ _);have ad:aQ (ki U P6 B6 l6 d6):=fX (by rw[hU];exact cP.out.set Y6.out _ _ _ _);have aW:aQ (iz P0 (jw (iz P1 P2))=P6):=fX (by
     have e0:=a3.out;have e1:=bE.out;rw[a4.out,<-bd.out];unfold iz;rw[if_pos (by omega)])
    have HU:=fX hU;clear hU c3;go_wp2_with (first
     |(rw[<-HU.out])
     |(rw[<-b4.out])
     |fail)
    refine aK (oS rfl _ _ (h+1) #[af B6 l6 d6,ae aj (K6:Int)] rfl rfl aU.out) rfl ?_;rw[aW.out,<-bE.out,<-ad.out.len];exact⟨B6,d6,rfl,ad.out.rd,by rw[<-HH.out];exact aV.out⟩
   ·have bx:decide ((K6:Int)<(K0:Int))=false:=decide_eq_false (by omega);have bz:decide (K6<K0)=false:=decide_eq_false c3;obtain⟨U,hU⟩:=fY ((V6.setCell ⟨h+1,0,none⟩ (af B0 l0 d0)).setCell ⟨h+1,1,none⟩ (ae aj (K0:Int)));have aU:aQ (gi U (h+1) #[af B0 l0 d0,ae aj (K0:Int)] 30):=fX (by rw[hU];exact nE Y6.out _ _);have aV:aQ (aR h w U):=fX (by rw[hU];exact nW b3.out (by omega) _ _);have ad:aQ (ki U P0 B0 l0 d0):=fX (by rw[hU];exact cO.out.set Y6.out _ _ _ _);have aW:aQ (iz P0 (jw (iz P1 P2))=P0):=fX (by
     have e0:=a3.out;have e1:=bE.out;rw[a4.out,<-bd.out];unfold iz;rw[if_neg (by omega)])
    have HU:=fX hU;clear hU c3;go_wp2_with (first
     |(rw[<-HU.out])
     |(rw[<-b4.out])
     |fail)
    refine aK (oS rfl _ _ (h+1) #[af B0 l0 d0,ae aj (K0:Int)] rfl rfl aU.out) rfl ?_;rw[aW.out,<-a3.out,<-ad.out.len];exact⟨B0,d0,rfl,ad.out.rd,by rw[<-HH.out];exact aV.out⟩
theorem J8(w:aq)(p:gF)(Ah:Option au)(hc:Nat)(Aw:Option au)(wc:Nat)(Ap:Option au)(pc:Nat)(hp:gU w w.heap.size p Ah hc Aw wc Ap pc)(g:kg p):aw prog 59 #[ah (gI p Ah hc Aw wc Ap pc)] w fun e w'=>∃A' c',e=ao (ah #[af A' (iW p).1.length c',ae aj (((iW p).2:Nat):Int)])/\gu w' w'.heap.size A' (iW p).1.length c' (gj (iW p).1)/\aR w.heap.size w w':=by
 by_cases hw:p.wait.length=0
 ·by_cases hk:p.k=0
  ·exact J5 w p Ah hc Aw wc Ap pc hp g hw hk
  ·exact J6 w p Ah hc Aw wc Ap pc hp g hw hk
 ·exact J7 w p Ah hc Aw wc Ap pc hp g hw
def ym(l:List aA)(i0 n:Nat):Bool:=(List.range n).all fun i=>i==i0||(List.range (n+1)).any fun j=>decide (i<j)&&j !=i0&&Region.waitsFor .any l.toArray j i
def vw(l:List aA)(i0:Nat):Bool:=(List.range l.length).all fun j=>j==i0||Region.waitsFor .any l.toArray i0 j||Region.waitsFor .any l.toArray j i0||match l[i0]?,l[j]? with
 |some x,some y=>x.apart l.toArray y
 |_,_=>false
theorem J9{l:List aA}{i0 n:Nat}{gv:Array Bool}(hs:ym l i0 n=true)(hc:Region.chainB .any l.toArray n=true)(hn:n<l.length)(inv:HeadInv .any l.toArray n gv){i:Nat}(hi:i<n)(aS:i≠i0)(hu:gv.getD i true=false):
  ∀t,n<=t->t∉Region.ready .any l.toArray gv:=by
 have a1:gv.size=l.length:=by rw[inv.size];simp
 have key:∀(d i:Nat),d=n-i->i<=n->i≠i0->gv.getD i true=false->n∈Region.ready .any l.toArray gv->i=n:=by
  intro d;induction d using Nat.strongRecOn with
  |_ d ih=>
   intro i hd hi aS hu hr;rcases Nat.eq_or_lt_of_le hi with e|hi
   ·exact e
   ·exfalso;have h1:=List.all_eq_true.1 hs i (List.mem_range.2 hi);simp only[Bool.or_eq_true,beq_iff_eq]at h1;rcases h1 with h1|h1
    ·exact aS h1
    ·obtain⟨j,hj,aT⟩:=List.any_eq_true.1 h1;simp only[Bool.and_eq_true,decide_eq_true_eq,bne_iff_ne,ne_eq]at aT;obtain⟨oj,aU,e,he,hb,av⟩:=Region.waitsFor_spec aT.2;have aW:j<=n:=by have:=List.mem_range.1 hj;omega
     cases hl:gv.getD j false with
     |true=>
      have h2:=inv.closed j oj aU hl e he hb;rw[av,getD_both hu]at h2;cases h2
     |false=>
      have aX:=ih (n-j) (by omega) j rfl aW aT.1.2 (getD_in (by omega) hl) hr;subst aX;obtain⟨_,ot,ad,al⟩:=mem_ready.1 hr;rw[aU]at ad;cases ad;have h2:=al e he hb;rw[av,getD_both hu]at h2;cases h2
 intro t ht hr
 by_cases aY:t=n
 ·subst aY;have:=key (t-i) i rfl (by omega) aS hu hr;omega
 ·obtain⟨_,ot,ad,al⟩:=mem_ready.1 hr;have aZ:t<l.length:=by have:=(Array.getElem?_eq_some_iff.1 ad).1;simpa using this
  have h1:=List.all_eq_true.1 hc t (List.mem_range.2 (by simpa using aZ));simp only[Bool.or_eq_true,decide_eq_true_eq]at h1;rcases h1 with h1|h1
  ·omega
  ·obtain⟨o',aV,e,he,hb,av⟩:=Region.waitsFor_spec h1;rw[ad]at aV;cases aV;have h2:=al e he hb;rw[av,getD_both (inv.tail (t-1) (by omega) (by simp;omega))]at h2;cases h2
theorem Ka{P:az}{Q:Exit->Act->aq->Prop}{a0:Act}{U:aq}{l:List aA}{T:Nat->ax->aq->Prop}{n i0:Nat}{o0:aA}(aZ:l[i0]?=some o0)(a5:i0<n)(hn:n<l.length)(hs:ym l i0 n=true)(bx:vw l i0=true)(bj:Region.noSelect l.toArray=true)(bz:o0.guard=none)(d0:Tmp)(a1:o0.dst=some d0)(bA:∀v c a w,Q (.panic c) (a.put o0.dst v) w->Q (.panic c) a w)
  (bB:∀(a:Act) (w:aq),aR U.heap.size U w->(∀s,nD l s=true->a.eval (.tmp s)=a0.eval (.tmp s))->(∀j d,Region.waitsFor .any l.toArray i0 j=true->(l[j]?).bind (·.dst)=some d->Up (T j) (a.eval (.tmp d)) w)->∃v,(∀w',(execOp a.eval o0).run P w'=.ok (.value v) w')/\Up (T i0) v w)
   (hc:Region.chainB .any l.toArray n=true)
  (bk:Region.seqB .any l.toArray (l.length-n) n (km n (l.length-n))=true) (hB:PL l a0.tmps.size=true) (a7:gl P l T a0 U 0 (l.take n))
  (bl:∀gv a w,qG l T a0 U gv a w->(∀i,i<n->gv.getD i false=true)->(∀i,n<=i->i<l.length->gv.getD i true=false)->wpList P l.toArray Q (l.drop n) a w):
  ∀(f:Nat) (gv:Array Bool) (a:Act) (w:aq),((List.range n).filter fun i=> !gv.getD i false).length=f->qG l T a0 U gv a w->HeadInv .any l.toArray n gv->wpAny P .any l.toArray Q (f+(l.length-n)) gv a w:=by
 have bm:=hB
 simp only[PL,Bool.and_eq_true,decide_eq_true_eq]at bm
 obtain⟨⟨bn,bp⟩,a6⟩:=bm
 intro f
 induction f with
 |zero=>
  intro gv a w hf inv hi;have bq:∀i,i<n->gv.getD i false=true:=fun i hi=>by
   have h0:=List.length_eq_zero_iff.1 hf;have h1:=List.filter_eq_nil_iff.1 h0 i (List.mem_range.2 hi);simpa using h1
  have hk:=bl gv a w inv bq (fun i h1 h2=>hi.tail i h1 (by simpa using h2));have he:=uK (n:=n) (g:=l.length-n) (gv:=gv) (by rw[inv.size];omega) (fun i h=>by
   have h1:=bq i h;cases h2:gv.getD i true with
   |true=>rfl
   |false=>rw[getD_both h2]at h1;cases h1) (fun t ht bQ=>hi.tail t ht (by simp;omega))
  subst he;have h3:=wpAny_of_seq (P:=P) (md:=.any) (Q':=Q) (l.drop n) n (km n (l.length-n)) a w (fun j=>by simp[List.getElem?_drop]) (by rw[List.length_drop];exact bk) hk;rw[List.length_drop]at h3;rw[Nat.zero_add];exact h3
 |succ f ih=>
  intro gv a w hf inv hi;rw[show f+1+(l.length-n)=(f+(l.length-n))+1 by omega];obtain⟨x,bC,a8⟩:∃x,x<n/\gv.getD x false=false:=by
   have:0<((List.range n).filter fun i=> !gv.getD i false).length:=by omega
   obtain⟨x,hx⟩:=List.exists_mem_of_length_pos this;obtain⟨h1,h2⟩:=List.mem_filter.1 hx;exact⟨x,List.mem_range.1 h1,by simpa using h2⟩
  by_cases a2:i0∈Region.ready .any l.toArray gv
  ·obtain⟨h0,o,ho,al⟩:=mem_ready.1 a2;have ad:l[i0]?=some o:=by simpa using ho
   have bD:o=o0:=by rw[aZ]at ad;exact(Option.some.inj ad).symm
   subst bD;have aW:i0<l.length:=(List.getElem?_eq_some_iff.1 ad).1;have aU:∀s,nD l s=true->a.eval (.tmp s)=a0.eval (.tmp s):=fun s hs=>by
    show a.tmps.getD s undef=a0.tmps.getD s undef
    rw[Array.getD_eq_getD_getElem?,Array.getD_eq_getD_getElem?,inv.off s (fun _ _ _ hd=>rL hs hd)]
   have aT:∀j d,Region.waitsFor .any l.toArray i0 j=true->(l[j]?).bind (·.dst)=some d->Up (T j) (a.eval (.tmp d)) w:=fun j d hw hd=>by
    obtain⟨ok,av,e,he,hb,aV⟩:=Region.waitsFor_spec hw;rw[ho]at av;cases av;exact inv.told j d (by have:=al e he hb;rwa[aV]at this) hd
   obtain⟨v,bE,bF⟩:=bB a w inv.below aU aT;have aX:d0<a.tmps.size:=by
    have h1:=List.all_eq_true.1 bp o (List.mem_of_getElem? ad);simp only[a1,decide_eq_true_eq]at h1;rw[inv.tmps];exact h1
   refine wpAny_first (oi:=o) (v:=v) ho (Region.noSelect_spec bj) (bA v) (f+(l.length-n)) gv a w (fun j oj hj aY bG a9=>?_) a2 (.inl ⟨by simp[Region.wanted,bz],bE⟩) ?_
   ·have bH:j<l.length:=by have:=(Array.getElem?_eq_some_iff.1 hj).1;simpa using this
    have h1:=List.all_eq_true.1 bx j (List.mem_range.2 bH);have bI:l[j]?=some oj:=by simpa using hj
    simp only[aZ,bI,Bool.or_eq_true,beq_iff_eq]at h1;rcases h1 with((h1|h1)|h1)|h1
    ·exact absurd h1 aY
    ·obtain⟨ok,av,e,he,hb,aV⟩:=Region.waitsFor_spec h1;rw[ho]at av;cases av;have h2:=al e he hb;rw[aV,getD_both bG]at h2;cases h2
    ·obtain⟨ok,av,e,he,hb,aV⟩:=Region.waitsFor_spec h1;rw[hj]at av;cases av;exact absurd aV (a9 e he hb)
    ·exact h1
   ·refine ih _ _ _ ?_ ⟨by simp[inv.size],?_,?_,inv.below,fun s hs=>?_,fun j d hl hd=>?_⟩ (hi.set a2 a5)
    ·have bd:((List.range n).filter fun i=> !(gv.setIfInBounds i0 true).getD i false)=((List.range n).filter fun i=> !gv.getD i false).erase i0:=by
      rw[List.Nodup.erase_eq_filter (List.nodup_range.filter _),List.filter_filter];apply List.filter_congr;intro x hx;by_cases e:x=i0
      ·subst e;have:x<gv.size:=by rw[inv.size];exact aW
       simp[this]
      ·rw[getD_set_ne false (Ne.symm e)];simp[e]
     rw[bd,List.length_erase_of_mem (List.mem_filter.2 ⟨List.mem_range.2 a5,by rw[getD_both h0];rfl⟩),hf];rfl
    ·unfold Act.put;cases o.dst<;>simp[inv.tmps]
    ·unfold Act.put;cases o.dst<;>exact inv.defers
    ·rw[<-inv.off s (fun j d hl hd=>hs j d (getD_set_true hl) hd),a1];have e:d0≠s:=hs i0 d0 (by have:i0<gv.size:=(by rw[inv.size];exact aW);simp[this]) (by rw[ad];simpa using a1);simp[Act.put,Array.getElem?_setIfInBounds_ne e]
    ·by_cases e:j=i0
     ·subst e;rw[ad]at hd;have aS:o.dst=some d:=by simpa using hd
      have bJ:d=d0:=by rw[a1]at aS;exact(Option.some.inj aS).symm
      subst bJ;have he:(a.put o.dst v).eval (.tmp d)=v:=by rw[aS];simp[Act.put,Act.eval,aX]
      rw[he];exact bF
     ·rw[getD_set_ne false (Ne.symm e)]at hl;have h1:=inv.told j d hl hd;have he:(a.put o.dst v).eval (.tmp d)=a.eval (.tmp d):=Act.eval_put fun d' aS hx=>by
       cases hx
       cases hj:l[j]? with
       |none=>rw[hj]at hd;cases hd
       |some y=>
        rw[hj]at hd;exact e (rM bn hj ad (by simpa using hd) aS)
      rw[he];exact h1
  obtain⟨y,bK,br,bL⟩:∃y,y<n/\y≠i0/\gv.getD y false=false:=by
   by_cases e:x=i0
   ·subst e;have hex:∃e,e∈o0.after/\Region.binds .any e=true/\gv.getD e.on false≠true:=by
     apply Classical.byContradiction;intro a9;exact a2 (mem_ready.2 ⟨getD_in (by rw[inv.size];omega) a8,o0,by simpa using aZ,fun e he hb=>Classical.byContradiction fun aY=>a9 ⟨e,he,hb,aY⟩⟩)
    obtain⟨e,he,hb,aY⟩:=hex;have h1:=List.all_eq_true.1 a6 x (List.mem_range.2 (by omega));simp only[aZ]at h1;have h2:=Array.all_eq_true_iff_forall_mem.1 h1 e he;simp only[hb,Bool.not_true,Bool.false_or,decide_eq_true_eq]at h2;exact⟨e.on,by omega,by omega,by simpa using aY⟩
   ·exact⟨x,bC,e,a8⟩
  have bM:gv.getD y true=false:=getD_in (by rw[inv.size];omega) bL;have a3:∀i,i∈Region.ready .any l.toArray gv->i<n:=fun i hr=>by
   rcases Nat.lt_or_ge i n with g|g
   ·exact g
   ·exact absurd hr (J9 hs hc hn hi bK br bM i g)
  refine⟨fun h0=>?_,fun k hk=>?_⟩
  ·exfalso;have bt:∀i,i<l.length->gv.getD i false=true:=fun i=>by
    induction i using Nat.strongRecOn with
    |_ i bN=>
     intro a4;cases hu:gv.getD i false with
     |true=>rfl
     |false=>
      exfalso;have h1:=List.all_eq_true.1 a6 i (List.mem_range.2 a4);have bO:l[i]?=some l[i]:=List.getElem?_eq_getElem a4;simp only[bO]at h1;have:i∈Region.ready .any l.toArray gv:=mem_ready.2 ⟨getD_in (by rw[inv.size];exact a4) hu,l[i],by simp[a4],fun e he hb=>by
       have h2:=Array.all_eq_true_iff_forall_mem.1 h1 e he;simp only[hb,Bool.not_true,Bool.false_or,decide_eq_true_eq]at h2;exact bN e.on h2 (by omega)⟩
      rw[h0]at this;cases this
   have:=bt x (by omega);rw[a8]at this;cases this
  ·have bf:=a3 k hk;obtain⟨h0,o,ho,al⟩:=mem_ready.1 hk;have ad:l[k]?=some o:=by simpa using ho
   have aW:k<l.length:=(List.getElem?_eq_some_iff.1 ad).1;have bP:sL P l T a0 U k o:=by
    have:=a7.get (j:=k) (o:=o) (by rw[List.getElem?_take_of_lt bf];exact ad);rwa[Nat.zero_add]at this
   have aU:∀s,nD l s=true->a.eval (.tmp s)=a0.eval (.tmp s):=fun s hs=>by
    show a.tmps.getD s undef=a0.tmps.getD s undef
    rw[Array.getD_eq_getD_getElem?,Array.getD_eq_getD_getElem?,inv.off s (fun _ _ _ hd=>rL hs hd)]
   have aT:∀j d,Region.waitsFor .any l.toArray k j=true->(l[j]?).bind (·.dst)=some d->Up (T j) (a.eval (.tmp d)) w:=fun j d hw hd=>by
    obtain⟨ok,av,e,he,hb,aV⟩:=Region.waitsFor_spec hw;rw[ho]at av;cases av;exact inv.told j d (by have:=al e he hb;rwa[aV]at this) hd
   have aX:∀d,o.dst=some d->d<a.tmps.size:=fun d hd=>by
    have h1:=List.all_eq_true.1 bp o (List.mem_of_getElem? ad);simp only[hd,decide_eq_true_eq]at h1;rw[inv.tmps];exact h1
   have bg:=bP a w inv.below aU aT (wpAny P .any l.toArray Q (f+(l.length-n)) (gv.setIfInBounds k true)) Q (fun v w' hb hv=>by
    refine ih _ _ _ ?_ ⟨by simp[inv.size],?_,?_,inv.below.trans (hb.mono inv.below.size),fun s hs=>?_,fun j d hl hd=>?_⟩ (hi.set hk bf)
    ·have bd:((List.range n).filter fun i=> !(gv.setIfInBounds k true).getD i false)=((List.range n).filter fun i=> !gv.getD i false).erase k:=by
      rw[List.Nodup.erase_eq_filter (List.nodup_range.filter _),List.filter_filter];apply List.filter_congr;intro x hx;by_cases e:x=k
      ·subst e;have:x<gv.size:=by rw[inv.size];exact aW
       simp[this]
      ·rw[getD_set_ne false (Ne.symm e)];simp[e]
     rw[bd,List.length_erase_of_mem (List.mem_filter.2 ⟨List.mem_range.2 bf,by rw[getD_both h0];rfl⟩),hf];rfl
    ·unfold Act.put;cases o.dst<;>simp[inv.tmps]
    ·unfold Act.put;cases o.dst<;>exact inv.defers
    ·rw[<-inv.off s (fun j d hl hd=>hs j d (getD_set_true hl) hd)];unfold Act.put;cases hd:o.dst with
     |none=>rfl
     |some d=>
      have e:d≠s:=hs k d (by have:k<gv.size:=(by rw[inv.size];exact aW);simp[this]) (by rw[ad];simpa using hd);simp[Array.getElem?_setIfInBounds_ne e]
    ·by_cases e:j=k
     ·subst e;rw[ad]at hd;have aS:o.dst=some d:=by simpa using hd
      have bu:=aX d aS;have he:(a.put o.dst v).eval (.tmp d)=v:=by rw[aS];simp[Act.put,Act.eval,bu]
      rw[he];exact hv
     ·rw[getD_set_ne false (Ne.symm e)]at hl;have h1:=inv.told j d hl hd;have he:(a.put o.dst v).eval (.tmp d)=a.eval (.tmp d):=Act.eval_put fun d' aS hx=>by
       cases hx
       cases hj:l[j]? with
       |none=>rw[hj]at hd;cases hd
       |some y=>
        rw[hj]at hd;exact e (rM bn hj ad (by simpa using hd) aS)
      rw[he];exact h1.on hb)
   unfold wpOp;simp only[ho];split at bg
   ·rename_i hw;rw[if_pos hw];exact .inl bg
   ·rename_i hw;rw[if_neg hw];exact bg
theorem Dn{P:az}{o:aA}{a:Act}(x:Operand)(i:Nat)(ho:o.op=.extract x i)(u v:ax)(hx:a.eval x=u)(hr:∀w,(Instr.extract u i).run P w=.ok v w):∀w',(execOp a.eval o).run P w'=.ok (.value v) w':=fun w'=>by
 unfold execOp;simp only[ho,hx,Sem.run_bind,hr w',Result.andThen_ok];rfl
def Dp(l:List aA)(i0 n m:Nat):Bool:=decide (i0<n)&&vw l i0&&Region.noSelect l.toArray&&decide (n<l.length)&&ym l i0 n&&Region.chainB .any l.toArray n&&Region.seqB .any l.toArray (l.length-n) n (km n (l.length-n))&&PL l m
theorem Dq{P:az}{id:Nat}{Q:Exit->Act->aq->Prop}{a0:Act}{w0:aq}{l:List aA}(n i0:Nat)(o0:aA)(aX:l[i0]?=some o0)(aY:o0.guard=none)(d0:Tmp)(aZ:o0.dst=some d0)(T:Nat->ax->aq->Prop)(U:aq)(hU:aR U.heap.size U w0)(hm:P.follows .mixedOrders=true)(hB:Dp l i0 n a0.tmps.size=true)(a1:∀v c a w,Q (.panic c) (a.put o0.dst v) w->Q (.panic c) a w)
  (a2:∀(a:Act) (w:aq),aR U.heap.size U w->(∀s,nD l s=true->a.eval (.tmp s)=a0.eval (.tmp s))->(∀j d,Region.waitsFor .any l.toArray i0 j=true->(l[j]?).bind (·.dst)=some d->Up (T j) (a.eval (.tmp d)) w)->∃v,(∀w',(execOp a.eval o0).run P w'=.ok (.value v) w')/\Up (T i0) v w)
  (ad:gl P l T a0 U 0 (l.take n))
  (av:∀(vals:Tmp->ax) (w:aq),aR U.heap.size U w->(∀j d,((l.take n)[j]?).bind (·.dst)=some d->Up (T j) (vals d) w)->wpList P l.toArray Q (l.drop n) (Pv ((l.take n).map (·.dst)) vals a0) w):(Code.region id l.toArray true).wp P Q a0 w0:=by
 simp only[Dp,Bool.and_eq_true,decide_eq_true_eq]at hB
 obtain⟨⟨⟨⟨⟨⟨⟨aS,a3⟩,aT⟩,hn⟩,hs⟩,hc⟩,aU⟩,hB⟩:=hB
 refine wp_region_any hm ?_
 have al:∀i,(Array.replicate l.toArray.size false).getD i false=false:=fun i=>getD_replicate_false _ _
 have hinv:HeadInv .any l.toArray n (Array.replicate l.toArray.size false):=⟨by simp,(fun j oj _ hl=>by rw[al]at hl;cases hl),(fun t _ ht=>by simp at ht;simp[ht])⟩
 have key:=Ka (P:=P) (Q:=Q) (T:=T) (U:=U) aX aS hn hs a3 aT aY d0 aZ a1 a2 hc aU hB ad (fun gv a w inv a4 a5=>by
  have ha:a=Pv ((l.take n).map (·.dst)) (fun d=>a.eval (.tmp d)) a0:=by
   have aV:=hB;simp only[PL,Bool.and_eq_true,decide_eq_true_eq]at aV;have ht:a.tmps=(Pv ((l.take n).map (·.dst)) (fun d=>a.eval (.tmp d)) a0).tmps:=by
    apply Array.ext_getElem?;intro s;by_cases hs:some s∈(l.take n).map (·.dst)
    ·obtain⟨o,ho,hd⟩:=List.mem_map.1 hs;have h1:=List.all_eq_true.1 aV.1.2 o (List.mem_of_mem_take ho);simp only[hd,decide_eq_true_eq]at h1;rw[rJ _ _ _ s (.inl hs) h1];have h2:s<a.tmps.size:=by rw[inv.tmps];exact h1
     simp[Act.eval,h2]
    ·rw[rK _ _ _ s hs];refine inv.off s (fun j d hl hd e=>hs ?_);cases hj:l[j]? with
     |none=>rw[hj]at hd;cases hd
     |some y=>
      have a6:j<l.length:=(List.getElem?_eq_some_iff.1 hj).1;have a7:j<n:=by
       rcases Nat.lt_or_ge j n with g|g
       ·exact g
       ·have:=getD_both (a5 j g a6);rw[hl]at this;cases this
      rw[hj]at hd;exact List.mem_map.2 ⟨y,List.mem_of_getElem? (i:=j) (by rw[List.getElem?_take_of_lt a7];exact hj),by rw[<-e];simpa using hd⟩
   have aW:a.defers=(Pv ((l.take n).map (·.dst)) (fun d=>a.eval (.tmp d)) a0).defers:=by rw[rI];exact inv.defers
   cases a with
   |mk t df=>
    generalize hp:Pv ((l.take n).map (·.dst)) (fun d=>(Act.mk t df).eval (.tmp d)) a0=p at*;cases p with
    |mk t2 a8=>simp only at ht aW;rw[ht,aW]
  rw[ha];refine av _ w inv.below fun j d hd=>?_
  rcases Nat.lt_or_ge j n with g|g
  ·rw[List.getElem?_take_of_lt g]at hd;exact inv.told j d (a4 j g) hd
  ·rw[List.getElem?_eq_none (by rw[List.length_take];omega)]at hd;cases hd) n (Array.replicate l.toArray.size false) a0 w0.drew (by rw[List.filter_eq_self.2 (fun i _=>by rw[al];rfl)];simp) ⟨by simp,rfl,rfl,hU.drew,fun _ _=>rfl,fun j d h _=>by rw[al]at h;cases h⟩ hinv
 rw[show n+(l.length-n)=l.toArray.size by simp;omega]at key
 exact key
theorem pz(p:gF)(Ah:Option au)(hc:Nat)(Aw:Option au)(wc:Nat)(Ap:Option au)(pc:Nat):lv (gI p Ah hc Aw wc Ap pc):=fun i x=>by
 unfold gI;rcases i with _|_|_|_|_|_|_|_|_|i<;>simp
theorem gu.pA{V:aq}{B g n c:Nat}{A:Option au}{f:Nat->Nat}{cs:Array ax}{t:aB}(h:gu V B A n c f)(hg:gi V g cs t)(hn:lv cs)(ds:Array ax):gu (V.setRow g ds) B A n c f:=⟨h.1.setRow ds fun _ _ h0 e=>yh h.1 hg hn h0 e,h.2⟩
theorem Kb(w:aq)(p:gF)(Ah:Option au)(hc:Nat)(Aw:Option au)(wc:Nat)(Ap:Option au)(pc:Nat)(hp:gU w w.heap.size p Ah hc Aw wc Ap pc)(g:kg p):
  aw prog 44 #[ah (gI p Ah hc Aw wc Ap pc)] w fun e w'=>∃ad al av aS Ao oc,e=ao (.tuple #[ah (gI (jA p).1 ad al none 0 av aS),af Ao (jA p).2.length oc])/\
   gU w' w'.heap.size (jA p).1 ad al none 0 av aS/\gu w' w'.heap.size Ao (jA p).2.length oc (gj (jA p).2)/\aR w.heap.size w w':=by
 obtain⟨h,hh⟩:=fY (w.heap.size)
 obtain⟨X,hX⟩:=fY (gI p Ah hc Aw wc Ap pc)
 rw[<-hX]
 obtain⟨Z,hZ⟩:=fY (gI (lX 0 0 0 false) none 0 none 0 none 0)
 have hz:=(zero_of_info oC).1
 rw[<-hZ]at hz
 obtain⟨W1,aY⟩:=fY ((w.alloc (ak X 32)).alloc (ak Z 32))
 have b1:aR h w W1:=by rw[aY,hh];exact(gC.alloc fZ _).alloc (by simp) _
 have x1:gi W1 h X 32:=by rw[aY,hh];exact(gi.new w _ _).old _
 have z1:gi W1 (h+1) Z 32:=by
  rw[aY,hh];have:=gi.new (w.alloc (ak X 32)) Z 32
  rwa[World.size_alloc]at this
 have a9:h+1<W1.heap.size:=z1.lt
 obtain⟨wn,bg⟩:=fY (p.wait.length)
 have bl:X=#[ae aj p.s,ae aj p.h,ae aj p.m,ai p.z,af Ah p.hist.length hc,af Aw wn wc,af Ap p.gm.length pc,ae aj p.k,ai p.gO]:=by rw[hX,bg];rfl
 obtain⟨F,hF⟩:=fY (iW p)
 obtain⟨L,hL⟩:=fY (iH p F p.wait)
 obtain⟨f1,f2,f3,f4⟩:=CU g
 rw[<-hF]at f1 f2 f3 f4
 have bm:=mj g.jY
 have bG:=g.hist;have bH:=g.wait;have bI:=g.k7;have bJ:=g.k0
 have a8:∀V,aR W1.heap.size W1 V->gU V V.heap.size p Ah hc Aw wc Ap pc:=fun V hV=>(hp.on (hh▸b1)).on hV
 have FL:aQ (∀V,aR W1.heap.size W1 V->aw prog 59 #[ah X] V fun e w'=>∃A' n' c',e=ao (ah #[af A' n' c',ae aj (F.2:Int)])/\n'=F.1.length/\gu w' w'.heap.size A' n' c' (gj F.1)/\aR V.heap.size V w'):=fX fun V hV=>by
  have h1:=J8 V p Ah hc Aw wc Ap pc (a8 V hV) g;rw[<-hF,<-hX]at h1;exact h1.mono fun e w' ⟨A',c',e1,e2,e3⟩=>⟨A',_,c',e1,rfl,e2,e3⟩
 have LF:aQ (∀V,aR W1.heap.size W1 V->∀(A':Option au) (n' c':Nat),n'=F.1.length->gu V V.heap.size A' n' c' (gj F.1)->aw prog 55 #[ah X,ah #[af A' n' c',ae aj (F.2:Int)],af Aw wn wc] V fun e w'=>∃ad al av aS Ao oc,e=ao (.tuple #[ah (gI L.1 ad al Aw wc av aS),af Ao L.2.length oc])/\
   gU w' w'.heap.size L.1 ad al Aw wc av aS/\gu w' w'.heap.size Ao L.2.length oc (gj L.2)/\aR V.heap.size V w'):=fX fun V hV A' n' c' en r1=>by
  subst en
  have h1:=Dl V p Ah hc Aw wc Ap pc (a8 V hV) (by omega) (by omega) (by omega) F.1 F.2 A' c' r1 f2 (by omega) Aw wc p.wait (a8 V hV).wait (by omega)
  rw[<-hX,<-bg]at h1
  rw[hL]
  exact h1
 have bn:jA p=({L.1 with wait:=[]},L.2):=by unfold jA;rw[<-hF,<-hL]
 have bK:=fX aY;have HH:=fX hh;have bL:=fX b1;have aX:=fX x1;have bM:=fX z1;have bN:=fX a9;have bO:=fX bl;have bp:aQ (X.size=9):=fX (by rw[hX];rfl);have br:aQ (Z.size=9):=fX (by rw[hZ];rfl);have bP:aQ (lv Z):=fX (by rw[hZ];exact pz _ _ _ _ _ _ _);have bQ:=fX bn
 clear hZ aY hh b1 x1 z1 a9 bl hX a8 hp g bg hF hL f1 f2 f3 f4 bm bG bH bI bJ bn
 go_enter func44,ntmps44
 go_wp2_with (rw[<-bK.out,<-HH.out])
 refine Dq 10 8 _ rfl rfl 14 rfl (mG [fun v _=>v=ah X,fun v _=>v=ah X,fun v W=>∃A' n' c',v=ah #[af A' n' c',ae aj (F.2:Int)]/\n'=F.1.length/\gu W W.heap.size A' n' c' (gj F.1),fun v _=>v=ag (some ⟨h,5,none⟩),fun v _=>v=af Aw wn wc,fun v W=>∃ad al av aS Ao oc,v=.tuple #[ah (gI L.1 ad al Aw wc av aS),af Ao L.2.length oc]/\gU W W.heap.size L.1 ad al Aw wc av aS/\gu W W.heap.size Ao L.2.length oc (gj L.2),fun v W=>∃ad al av aS Ao oc,v=.tuple #[ah (gI L.1 ad al Aw wc av aS),af Ao L.2.length oc]/\gU W W.heap.size L.1 ad al Aw wc av aS/\gu W W.heap.size Ao L.2.length oc (gj L.2),fun v W=>∃ad al av aS,v=ah (gI L.1 ad al Aw wc av aS)/\gU W W.heap.size L.1 ad al Aw wc av aS,fun v W=>∃Ao oc,v=af Ao L.2.length oc/\gu W W.heap.size Ao L.2.length oc (gj L.2),fun v W=>∃gq,v=ag (some ⟨gq,0,none⟩)/\gi W gq Z 32/\W1.heap.size<=gq]) W1 gC (by kernel_rfl) (by kernel_rfl) (fun _ _ _ _ h=>h) (fun aa wv hb ha hS=>by have hs:=hS 6 6 (by kernel_rfl) rfl;obtain⟨a1,a2,a3,a4,a5,a6,e1,r1,r2⟩:=hs.here;exact⟨_,Dn _ _ rfl _ _ e1 (fun w=>by go_simp),fun W hW=>⟨_,_,rfl,(r2.below hW fZ).more hW.size⟩⟩) ?_ ?_
 case refine_1=>
  simp only[List.take_succ_cons,List.take_zero];refine gl.cons (fun aa wv hb ha hS Kk Qq hK=>by have hx:=aX.out.below hb aX.out.lt;exact oD (gp rfl) _ _ rfl h 0 ((ha 1 (by kernel_rfl)).trans rfl) X.toList _ (sM hx) underlying32 rfl (by rw[Array.length_toList,bp.out];exact gM) (gx rfl) hK) ?_;refine gl.cons (fun aa wv hb ha hS Kk Qq hK=>by have hx:=aX.out.below hb aX.out.lt;exact oD (gp rfl) _ _ rfl h 0 ((ha 1 (by kernel_rfl)).trans rfl) X.toList _ (sM hx) underlying32 rfl (by rw[Array.length_toList,bp.out];exact gM) (gx rfl) hK) ?_;refine gl.cons (fun aa wv hb ha hS Kk Qq hK=>lZ (gp rfl) 59 _ _ rfl (enters_of func59 (by kernel_rfl) rfl) #[ah X] (by simp[(show aa.eval (.tmp 8)=ah X from(hS 1 8 (by kernel_rfl) rfl).here)]) (FL.out wv hb) (fun ee w' ⟨A',n',c',h1,h2,h3,h4⟩=>⟨_,h1,h4,fun W hW=>⟨_,_,_,rfl,h2,(h3.below hW fZ).more hW.size⟩⟩) hK) ?_;refine gl.cons (fun aa wv hb ha hS Kk Qq hK=>gZ (gp rfl) _ _ _ rfl _ (ag (some ⟨h,5,none⟩)) ((ha 1 (by kernel_rfl)).trans rfl) (by go_simp) (gx rfl) hK) ?_;refine gl.cons (fun aa wv hb ha hS Kk Qq hK=>la (gp rfl) _ _ rfl _ (af Aw wn wc) (hS 3 10 (by kernel_rfl) rfl).here (by have hc:wv.cell? ⟨h,5,none⟩=some (af Aw wn wc):=by {rw[(aX.out.below hb aX.out.lt).cell,bO.out];rfl};go_simp) (gx rfl) hK) ?_;refine gl.cons (fun aa wv hb ha hS Kk Qq hK=>by obtain⟨A',n',c',e1,e2,r1⟩:=(hS 2 9 (by kernel_rfl) rfl).here;exact lZ (gp rfl) 55 _ _ rfl (enters_of func55 (by kernel_rfl) rfl) #[ah X,ah #[af A' n' c',ae aj (F.2:Int)],af Aw wn wc] (by simp[e1,(show aa.eval (.tmp 7)=ah X from(hS 0 7 (by kernel_rfl) rfl).here),(show aa.eval (.tmp 11)=af Aw wn wc from(hS 4 11 (by kernel_rfl) rfl).here)]) (LF.out wv hb A' n' c' e2 r1) (fun ee w' ⟨a1,a2,a3,a4,a5,a6,h1,h2,h3,h4⟩=>⟨_,h1,h4,fun W hW=>⟨_,_,_,_,_,_,rfl,(h2.below hW fZ).more hW.size,(h3.below hW fZ).more hW.size⟩⟩) hK) ?_;refine gl.cons (fun aa wv hb ha hS Kk Qq hK=>gY (gp rfl) _ rfl (hS 5 12 (by kernel_rfl) rfl) hK) ?_;refine gl.cons (fun aa wv hb ha hS Kk Qq hK=>by have hs:=hS 6 6 (by kernel_rfl) rfl;obtain⟨a1,a2,a3,a4,a5,a6,e1,r1,r2⟩:=hs.here;exact px (gp rfl) _ _ rfl _ _ e1 (by go_simp) (fun W hW=>⟨_,_,_,_,rfl,(r1.below hW fZ).more hW.size⟩) hK) ?_;refine gl.cons (fun aa wv hb ha hS Kk Qq hK=>by have hs:=hS 6 6 (by kernel_rfl) rfl;obtain⟨a1,a2,a3,a4,a5,a6,e1,r1,r2⟩:=hs.here;exact px (gp rfl) _ _ rfl _ _ e1 (by go_simp) (fun W hW=>⟨_,_,rfl,(r2.below hW fZ).more hW.size⟩) hK) ?_;refine gl.cons (fun aa wv hb ha hS Kk Qq hK=>by have b2:=hz;exact vg (w':=wv.alloc (ak Z 32)) (gp rfl) (ag (some ⟨wv.heap.size,0,none⟩)) (by go_simp) (gC.alloc fZ _) (fun W hW=>⟨_,rfl,(gi.new wv Z 32).below hW (by simp),hb.size⟩) hK) ?_;exact gl.nil
 intro vals w5 hb hv
 obtain⟨ad,al,av,aS,bj,bt⟩:=(hv 7 13 rfl).here
 obtain⟨Ao,oc,bu,bx⟩:=(hv 8 14 rfl).here
 obtain⟨gq,e4,bq,bR⟩:=(hv 9 4 rfl).here
 have bz:=bN.out
 have z5:=bM.out.below hb bz
 have bA:=bL.out.trans (hb.mono (by omega))
 obtain⟨Y0,aT⟩:=fY (gI L.1 ad al Aw wc av aS)
 obtain⟨Y1,aZ⟩:=fY (gI {L.1 with wait:=[]} ad al none 0 av aS)
 have bk:h+1≠gq:=by omega
 obtain⟨w6,aU⟩:=fY (w5.setRow gq Y0)
 have q6:gi w6 gq Y0 32:=by rw[aU];exact bq.row Y0
 have z6:gi w6 (h+1) Z 32:=by rw[aU];exact z5.xX bk _
 obtain⟨w7,aV⟩:=fY (w6.setCell ⟨gq,5,none⟩ (af none 0 0))
 have q7:gi w7 gq Y1 32:=by
  have a:=q6.set 5 (af none 0 0);rw[aV,aZ];rw[aT]at a;exact a
 have z7:gi w7 (h+1) Z 32:=by rw[aV];exact z6.other (by exact bk) _
 obtain⟨w8,a7⟩:=fY (w7.setRow (h+1) Y1)
 have bS:aQ (gi w8 (h+1) Y1 32):=fX (by rw[a7];exact z7.row Y1)
 have bT:aQ (aR h w w8):=fX (by rw[a7,aV,aU];exact jU (jx (jU bA (by omega) _) (by omega) _ _) (by omega) _)
 have nZ:lv Z:=bP.out
 have n0:lv Y0:=by rw[aT];exact pz _ _ _ _ _ _ _
 have bU:aQ (∀(A:Option au) (n c:Nat) (f:Nat->Nat),gu w5 w5.heap.size A n c f->gu w8 w8.heap.size A n c f):=fX fun A n c f r=>by
  rw[a7,size_setRow,aV,qJ,aU,size_setRow];have a1:=r.pA bq nZ Y0;rw[<-aU]at a1⊢;have a2:=a1.nV q6 n0 5 (af none 0 0);rw[<-aV]at a2⊢;exact a2.pA z7 nZ Y1
 have c5:w6.cell? ⟨gq,5,none⟩=some (af Aw L.1.wait.length wc):=by rw[q6.cell,aT];rfl
 have f5:w6.frozen? ⟨gq,5,none⟩=false:=q6.free
 have bd:aQ (Y0.size=9):=fX (by rw[aT];rfl)
 have aW:aQ (Y1.size=9):=fX (by rw[aZ];rfl)
 have bB:aQ (Y0.all (·.oneCell')=true):=fX (by rw[aT];exact lu ..)
 have bC:aQ (Y1.all (·.oneCell')=true):=fX (by rw[aZ];exact lu ..)
 have bV:=fX bq;have bW:=fX q7;have bX:=fX z7;have bY:=fX aU;have bZ:=fX aV;have b0:=fX a7;have bf:=fX bt;have bD:=fX bx;have bE:=fX aZ
 rw[<-aT]at bj
 clear aU aV a7 q6 q7 z5 z6 z7 bq nZ n0 aT aZ bt bx hb hv bA bz bk bR
 simp only[List.take_succ_cons,List.take_zero,List.drop_succ_cons,List.drop_zero,List.map_cons,List.map_nil,Pv,Act.put,List.setIfInBounds_toArray,List.set_cons_zero,List.set_cons_succ,bj,bu,e4]
 clear bj bu e4
 go_wp2_with (first
  |(rw[<-bZ.out])
  |(refine aC rfl _ _ _ rfl rfl gq Y0 rfl rfl 32 Z bV.out (by rw[bd.out];exact gM) (by rw[br.out,bd.out]) bB.out ?_;rw[<-bY.out])
  |(refine aE rfl _ _ rfl gq rfl _ Y1 (0,0) _ bW.out underlying32 rfl (by rw[aW.out];exact gM) ?_)
  |(refine aC rfl _ _ _ rfl rfl (h+1) Y1 rfl rfl 32 Z bX.out (by rw[aW.out];exact gM) (by rw[br.out,aW.out]) bC.out ?_;rw[<-b0.out]))
 refine aK (xY rfl _ _ (h+1) Y1 aW.out rfl bS.out) rfl ?_
 have bF:=bQ.out
 have g1:(jA p).1={L.1 with wait:=[]}:=by rw[bF]
 have g2:(jA p).2=L.2:=by rw[bF]
 rw[g1,g2]
 have k:=bU.out
 refine⟨ad,al,av,aS,Ao,oc,by rw[bE.out];rfl,⟨k _ _ _ _ bf.out.hist,?_,k _ _ _ _ bf.out.gm⟩,k _ _ _ _ bD.out,by rw[<-HH.out];exact bT.out⟩
 exact gu.nil _ _ _ (fun j=>ky (L:=[]) (fun x hx=>by cases hx) j)
end Go.Proofs.YtokpcpjnihinfaaGreat
