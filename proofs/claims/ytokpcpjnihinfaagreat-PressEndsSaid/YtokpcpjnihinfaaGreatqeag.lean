/-
  Words and walks.
-/
import Derived.Test.YtokpcpjnihinfaaGreatqeaa
import Derived.Test.YtokpcpjnihinfaaGreatqeab
import Derived.Test.YtokpcpjnihinfaaGreatqeac
import Derived.Test.YtokpcpjnihinfaaGreatqead
import Derived.Test.YtokpcpjnihinfaaGreatqeae
import Derived.Test.YtokpcpjnihinfaaGreatqeaf
set_option maxRecDepth 100000
set_option maxHeartbeats 16000000
namespace Go.Proofs.YtokpcpjnihinfaaGreat
open Value renaming int → ae, slice → af, pointer → ag, agg → ah, bool → ai
open IntKind renaming i64 → aj
open Obj renaming cells → ak
open Ending renaming returned → ao
open Go renaming World → aq, Addr → au, Calls → aw, Value → ax, Program → az, Oper → aA, TypeId → aB, wpList_store_rowTo → aC, wpList_buildTo → aD, wpList_load_row → aE, heap_alloc_new → aG, cell_of_row → aH, setRow_heap → aI, bodyPost_ret → aK, yielded → aM, heap_setCell_same → aN, frozen_of_row → aO
open Go.RowKit renaming intOf → aP, Hid → aQ, Below → aR
open _root_.Go.Proofs.Tryz
open Go.RowKit Go.ChangeShapes Go.WideShapes Go.ChangeAt Go.Joins
theorem mq{w w':aq}{base sz n:Nat}{e:aB}{v:ax}{xs:List ax}(h:w.ownsRow base e sz v n xs)(hk:∀j,v.ownBlock=some j->w'.heap[j]?=w.heap[j]?):w'.ownsRow base e sz v n xs:=by
 obtain⟨h1,h2⟩:=h;refine⟨h1,?_⟩;rcases h2 with h2|⟨g,cap,cur,hv,hg,hh,r⟩
 ·exact .inl h2
 ·exact .inr ⟨g,cap,cur,hv,hg,(hk g (by rw[hv];rfl)).trans hh,r⟩
theorem oH{w:aq}{base sz n:Nat}{e:aB}{v:ax}{xs:List ax}(h:w.ownsRow base e sz v n xs):∀j,v.ownBlock=some j->base<=j/\j<w.heap.size:=by
 intro j hj;rcases h.2 with⟨rfl,_⟩|⟨g,cap,cur,rfl,hg,hh,_⟩
 ·simp[Value.ownBlock]at hj
 ·simp[Value.ownBlock]at hj;subst hj;exact⟨hg,(Array.getElem?_eq_some_iff.1 hh).1⟩
theorem gJ.set{S:Nat->Prop}{w:aq}{p:au}(h:¬S p.block)(v:ax):gJ S w (w.setCell p v):=fun k hk=>Below.heap_setCell w p v k (fun e=>h (e▸hk))
theorem gJ.below{S:Nat->Prop}{w w':aq}(h:∀j,S j->j<w.heap.size)(hb:aR w.heap.size w w'):gJ S w w':=fun k hk=>hb.block k (h k hk)
theorem gJ.less{S S':Nat->Prop}{w w':aq}(h:gJ S w w')(hs:∀j,S' j->S j):gJ S' w w':=fun k hk=>h k (hs k hk)
theorem gJ.drew{S:Nat->Prop}{w w':aq}(h:gJ S w w'):gJ S w w'.drew:=h
structure jF (w:aq) (S:Nat->Prop) (B g:Nat) (F:Nat->Nat) (L R q:Nat) (A:Option au) (c:Nat):Prop where
 base:B<=g
 size:B<=w.heap.size
 out:¬S g
 row:w.heap[g]?=some (ak #[af A L c,ae .u64 (R:Int),ae aj (q:Int)] 131 (0,0))
 own:w.ownsRow B 5 1 (af A L c) L (gD L F)
 oQ:∀j,(Value.slice A L c).ownBlock=some j->¬S j
 top:∀j,S j->j<w.heap.size
theorem jF.lt{w:aq}{S:Nat->Prop}{B g:Nat}{F:Nat->Nat}{L R q:Nat}{A:Option au}{c:Nat}(h:jF w S B g F L R q A c):g<w.heap.size:=(Array.getElem?_eq_some_iff.1 h.row).1
theorem jF.ne{w:aq}{S:Nat->Prop}{B g:Nat}{F:Nat->Nat}{L R q:Nat}{A:Option au}{c:Nat}(h:jF w S B g F L R q A c):(Value.slice A L c).ownBlock≠some g:=oG h.own h.row (by kernel_rfl)
theorem jF.drew{w:aq}{S:Nat->Prop}{B g:Nat}{F:Nat->Nat}{L R q:Nat}{A:Option au}{c:Nat}(h:jF w S B g F L R q A c):jF w.drew S B g F L R q A c:=⟨h.1,h.2,h.3,h.4,h.5,h.6,h.7⟩
theorem jF.cells{w:aq}{S:Nat->Prop}{B g:Nat}{F:Nat->Nat}{L R q:Nat}{A:Option au}{c:Nat}(h:jF w S B g F L R q A c):
  w.cell? ⟨g,0,none⟩=some (af A L c)/\w.cell? ⟨g,1,none⟩=some (ae .u64 (R:Int))/\w.cell? ⟨g,2,none⟩=some (ae aj (q:Int))/\w.frozen? ⟨g,0,none⟩=false/\w.frozen? ⟨g,1,none⟩=false/\w.frozen? ⟨g,2,none⟩=false:=
 ⟨(aH w g 0 _ _ (0,0) h.row).trans rfl,(aH w g 1 _ _ (0,0) h.row).trans rfl,(aH w g 2 _ _ (0,0) h.row).trans rfl,aO w g 0 _ _ h.row,aO w g 1 _ _ h.row,aO w g 2 _ _ h.row⟩
theorem jF.rest{w:aq}{S:Nat->Prop}{B g:Nat}{F:Nat->Nat}{L R q:Nat}{A:Option au}{c:Nat}(h:jF w S B g F L R q A c)(R':Nat):jF (w.setCell ⟨g,1,none⟩ (ae .u64 (R':Int))) S B g F L R' q A c:=
 ⟨h.base,by simpa[World.setCell]using h.size,h.out,(aN w g 1 _ _ _ h.row).trans (by simp),mq h.own fun j hj=>Below.heap_setCell w _ _ j (fun e=>h.ne (by rw[hj,e])),h.oQ,fun j hj=>by simpa[World.setCell]using h.top j hj⟩
theorem jF.left{w:aq}{S:Nat->Prop}{B g:Nat}{F:Nat->Nat}{L R q:Nat}{A:Option au}{c:Nat}(h:jF w S B g F L R q A c)(q':Nat):jF (w.setCell ⟨g,2,none⟩ (ae aj (q':Int))) S B g F L R q' A c:=
 ⟨h.base,by simpa[World.setCell]using h.size,h.out,(aN w g 2 _ _ _ h.row).trans (by simp),mq h.own fun j hj=>Below.heap_setCell w _ _ j (fun e=>h.ne (by rw[hj,e])),h.oQ,fun j hj=>by simpa[World.setCell]using h.top j hj⟩
theorem jF.less{w:aq}{S S':Nat->Prop}{B g:Nat}{F:Nat->Nat}{L R q:Nat}{A:Option au}{c:Nat}(h:jF w S B g F L R q A c)(hs:∀j,S' j->S j):jF w S' B g F L R q A c:=
 ⟨h.base,h.size,fun k=>h.out (hs _ k),h.row,h.own,fun j hj k=>h.oQ j hj (hs _ k),fun j hj=>h.top j (hs _ hj)⟩
theorem jF.grow{w w':aq}{S:Nat->Prop}{B g:Nat}{F:Nat->Nat}{L R q:Nat}{A:Option au}{c:Nat}(h:jF w S B g F L R q A c)(hb:aR w.heap.size w w'):jF w' (fun j=>S j\/(w.heap.size<=j/\j<w'.heap.size)) B g F L R q A c:=
 ⟨h.base,Nat.le_trans h.size hb.size,fun k=>k.elim h.out fun k=>by have:=h.lt;omega,(hb.block g h.lt).trans h.row,mq h.own fun j hj=>hb.block j (oH h.own j hj).2,fun j hj k=>k.elim (h.oQ j hj) fun k=>by have:=(oH h.own j hj).2;omega,
  fun j hj=>hj.elim (fun k=>Nat.lt_of_lt_of_le (h.top j k) hb.size) fun k=>k.2⟩
theorem jF.after{w w':aq}{S:Nat->Prop}{B g:Nat}{F:Nat->Nat}{L R q:Nat}{A:Option au}{c:Nat}(h:jF w S B g F L R q A c)(hb:aR w.heap.size w w'):jF w' S B g F L R q A c:=(h.grow hb).less fun _ k=>.inl k
theorem jF.Lp{w:aq}{S:Nat->Prop}{B g:Nat}{F G:Nat->Nat}{L R q:Nat}{A:Option au}{c:Nat}(h:jF w S B g F L R q A c)(e:∀j,j<L->F j=G j):jF w S B g G L R q A c:=⟨h.1,h.2,h.3,h.4,by have:=h.5;rwa[sy e]at this,h.6,h.7⟩
theorem jF.grown{w w':aq}{S:Nat->Prop}{B g:Nat}{F G:Nat->Nat}{L L' R q:Nat}{A A':Option au}{c c':Nat}(h:jF w S B g F L R q A c)(ho:w'.ownsRow B 5 1 (af A' L' c') L' (gD L' G))(hb:aR B w w')
  (hk:∀k,k<w.heap.size->(Value.slice A L c).ownBlock≠some k->w'.heap[k]?=w.heap[k]?) (hw:∀j,(Value.slice A' L' c').ownBlock=some j->(Value.slice A L c).ownBlock=some j\/w.heap.size<=j):
  jF (w'.setCell ⟨g,0,none⟩ (af A' L' c')) S B g G L' R q A' c'/\gJ S w (w'.setCell ⟨g,0,none⟩ (af A' L' c'))/\aR B w (w'.setCell ⟨g,0,none⟩ (af A' L' c')):=by
 have hg:=(hk g h.lt h.ne).trans h.row
 have ad:(Value.slice A' L' c').ownBlock≠some g:=oG ho hg (by kernel_rfl)
 have al:∀j,(Value.slice A' L' c').ownBlock=some j->¬S j:=fun j hj k=>(hw j hj).elim (fun e=>h.oQ j e k) fun e=>by have:=h.top j k;omega
 refine⟨⟨h.base,Nat.le_trans h.size (by simpa[World.setCell]using hb.size),h.out,(aN w' g 0 _ _ _ hg).trans (by simp),mq ho fun j hj=>Below.heap_setCell w' _ _ j (fun e=>ad (by rw[hj,e])),al,fun j hj=>Nat.lt_of_lt_of_le (h.top j hj) (by simpa[World.setCell]using hb.size)⟩,?_,hb.setCell h.base _⟩
 exact fun j hj=>(Below.heap_setCell w' _ _ j (fun e=>h.out (by have e:j=g:=e;rwa[e]at hj))).trans (hk j (h.top j hj) fun e=>h.oQ j e hj)
def ic(w:aq)(S:Nat->Prop)(B g:Nat)(f:Nat->Nat)(k:Nat):Prop:=Pw f k/\∃A c,jF w S B g f (k/8) (f (k/8)) (k%8) A c
theorem ic.less{w:aq}{S S':Nat->Prop}{B g k:Nat}{f:Nat->Nat}(h:ic w S B g f k)(hs:∀j,S' j->S j):ic w S' B g f k:=by
 obtain⟨h1,A,c,h2⟩:=h;exact⟨h1,A,c,h2.less hs⟩
theorem ic.grow{w w':aq}{S:Nat->Prop}{B g k:Nat}{f:Nat->Nat}(h:ic w S B g f k)(hb:aR w.heap.size w w'):ic w' (fun j=>S j\/(w.heap.size<=j/\j<w'.heap.size)) B g f k:=by
 obtain⟨h1,A,c,h2⟩:=h;exact⟨h1,A,c,h2.grow hb⟩
theorem ic.after{w w':aq}{S:Nat->Prop}{B g k:Nat}{f:Nat->Nat}(h:ic w S B g f k)(hb:aR w.heap.size w w'):ic w' S B g f k:=(h.grow hb).less fun _ k=>.inl k
theorem ic.drew{w:aq}{S:Nat->Prop}{B g k:Nat}{f:Nat->Nat}(h:ic w S B g f k):ic w.drew S B g f k:=by
 obtain⟨h1,A,c,h2⟩:=h;exact⟨h1,A,c,h2.drew⟩
theorem ic.lt{w:aq}{S:Nat->Prop}{B g k:Nat}{f:Nat->Nat}(h:ic w S B g f k):g<w.heap.size:=by
 obtain⟨h1,A,c,h2⟩:=h;exact h2.lt
theorem ic.top{w:aq}{S:Nat->Prop}{B g k:Nat}{f:Nat->Nat}(h:ic w S B g f k):∀j,S j->j<w.heap.size:=by
 obtain⟨h1,A,c,h2⟩:=h;exact h2.top
theorem ic.size{w:aq}{S:Nat->Prop}{B g k:Nat}{f:Nat->Nat}(h:ic w S B g f k):B<=w.heap.size:=by
 obtain⟨h1,A,c,h2⟩:=h;exact h2.size
theorem DW(x:Nat×Nat):(kE x).toArray.all (·.oneCell')=true:=by simp[kE,Value.oneCell']
theorem yE(x:Nat×Nat):(prog.info? 169).map (·.size)=some (kE x).toArray.size:=by simp only[kE];kernel_rfl
theorem Lr(x:Nat×Nat):(prog.info? 169).map (·.size)=some (kE x).length:=by simp only[kE];kernel_rfl
theorem Ls(a b i:Nat)(ha:a<18446744073709551616)(h:b<18446744073709551616)(hb:a<2^i)(hd:2^i∣b):bits .or .u64 (a:Int) (b:Int)=((a+b:Nat):Int):=by
 have hx:a|||b<2^64:=Nat.or_lt_two_pow (by omega) (by omega)
 have e:a|||b=a+b:=by rw[Nat.or_comm,wm b a i hb hd,Nat.add_comm]
 rw[<-e];show IntKind.u64.wrap ((BitVec.ofInt 64 (a:Int)|||BitVec.ofInt 64 (b:Int)).toNat:Int)=_
 rw[BitVec.toNat_or,n9 64 a (by omega),n9 64 b (by omega),IntKind.wrap_u64];omega
def oT(S:Nat->Prop)(A:Option au)(m:Nat):Prop:=∀b o,0<m->A=some ⟨b,o,none⟩->S b
theorem Lu(w:aq)(S:Nat->Prop)(B g:Nat)(f:Nat->Nat)(K:Nat)(A2:Option au)(m c2:Nat)(P:List (Nat×Nat))(h:ic w S B g f K)(hp:lJ w w.heap.size A2 P)(hS:oT S A2 m)(hm:m=P.length)(cZ:m<=1000)(bp:∀x∈P,pF x)(hk:K+Pq P<=16000000):
  aw prog 105 #[ag (some ⟨g,0,none⟩),af A2 m c2] w fun e w'=>e=ao (.tuple #[])/\ic w' S B g (gK f K P) (K+Pq P)/\gJ S w w'/\aR B w w':=by
 have H:=fX h;have HP:=fX hp;have HS:=fX hS;have HM:=fX hm;have HF:=fX bp;have HK:=fX hk
 clear h hp hS hm bp hk
 go_enter func105,ntmps105
 go_wp2_with fail
 go_loopw [8] (fun iv wr=>∃i:Nat,i<=m/\iv=ae aj (i:Int)/\aQ (ic wr S B g (gK f K (P.take i)) (K+Pq (P.take i)))/\aQ (gJ S w wr)/\aQ (aR B w wr)) (fun iv _=>m-(aP iv).toNat)
 case atStart=>exact⟨0,Nat.zero_le _,rfl,fX H.out,fX (gJ.refl _ _),fX gC⟩
 case round=>
  obtain⟨i,hi,rfl,HR,bF,HB⟩:=hrel;by_cases cy:i<m
  ·have bS:(i:Int)<(m:Int):=by omega
   have a6:i<P.length:=by rw[<-HM.out];exact cy
   obtain⟨b,o,rfl,cz,hc⟩:=HP.out.at a6;have bT:S b:=HS.out b o (by omega) rfl;have bq:=HP.out.range rfl a6;have bG:wr.rangeAt b (o+i*2) (kE (P.getD i nC)):=fun j v hv=>by rw[bF.out.cell (p:=⟨b,o+i*2+j,none⟩) bT];exact bq j v hv
   obtain⟨x1,x2⟩:=HF.out _ (CK a6);obtain⟨aS,a7⟩:=CJ (f:=f) (k:=K) a6;have cA:=uO P i;have bU:=uO P (i+1);obtain⟨⟨v,n⟩,ht⟩:∃t,t=P.getD i nC:=⟨_,rfl⟩;rw[<-ht]at bG x1 x2 aS a7;dsimp only at x1 x2 aS a7;obtain⟨k,hk⟩:=fY (K+Pq (P.take i));obtain⟨G,hG⟩:=fY (gK f K (P.take i));have hr:=HR.out;rw[<-hG,<-hk]at hr aS;obtain⟨a8,A,c,hq⟩:=hr;obtain⟨F1,aV⟩:=fY (PF G k v n);rw[<-aV]at aS;have br:Pw F1 (k+n):=by rw[aV];exact a8.put v n
   have aW:=yC a8 v n x2;rw[<-aV,Nat.mod_eq_of_lt x1]at aW;have bt:∀j,j<k/8->G j=F1 j:=fun j hj=>by rw[aV];exact(yA G k v n j hj).symm
   have bV:=hq.Lp bt;have bW:k+n=K+Pq (P.take (i+1)):=by rw[a7,hk];omega
   have c7:k+n<=16000000:=by have:=HK.out;omega
   have cY:v<65536:=by
    have:(2:Nat)^n<=2^16:=Nat.pow_le_pow_right (by omega) x2;have e:(2:Nat)^16=65536:=rfl;omega
   obtain⟨h,hh⟩:=fY (wr.heap.size);obtain⟨W2,a9⟩:=fY (iq wr #[ae .u32 0,ae aj 0] (kE (v,n)).toArray 169);have av:aR wr.heap.size wr W2:=by rw[a9];exact kN _ _ _ _
   have aX:W2.heap[h]?=some (ak (kE (v,n)).toArray 169 (0,0)):=by rw[a9,hh];exact kY wr _ _ _
   have bd:=bV.after av;have bu:gJ S w W2:=bF.out.tr (gJ.below hq.top av);have bX:aR B w W2:=HB.out.trans (av.mono hq.size);have y0:W2.cell? ⟨h,0,none⟩=some (ae .u32 (v:Int)):=(aH W2 _ 0 _ _ (0,0) aX).trans rfl;have y1:W2.cell? ⟨h,1,none⟩=some (ae aj (n:Int)):=(aH W2 _ 1 _ _ (0,0) aX).trans rfl;obtain⟨z0,z1,z2,e0,e1,e2⟩:=bd.cells;have c8:g<h:=by rw[hh];exact hq.lt
   obtain⟨R,hR⟩:=fY (G (k/8));obtain⟨q,bf⟩:=fY (k%8);obtain⟨L,hL⟩:=fY (k/8);rw[<-hR,<-bf,<-hL]at bd;rw[<-hL]at z0;rw[<-hR]at z1;rw[<-bf]at z2;have aT:q<8:=by omega
   have cB:=fX bG;have cC:=fX a9;have bg:=fX bd;have bx:=fX bu;have bY:=fX bX;have HH:=fX hh;have bz:=fX aW;have al:=fX br;have cD:=fX bW;have cE:=fX aS;have HR:=fX hR;have bH:=fX bf;have HL:=fX hL;have bZ:=fX a8
   clear bG a9 bd bu bX hh aW br bW aS hR bf hL aX av bV bt aV a8 hq a7 ht cA bU hc bq bT cz x1 hk hG;go_wp2_with (first|refine wpList_load_mid rfl _ _ rfl b (o+i*2) rfl (kE (v,n)) _ cB.out underlying169 rfl (Lr _) ?_|refine aC rfl _ _ _ rfl rfl wr.heap.size (kE (v,n)).toArray rfl rfl 169 #[ae .u32 0,ae aj 0] (aG wr _) (yE _) rfl (DW _) ?_;change wpList _ _ _ _ _ (iq wr #[ae .u32 0,ae aj 0] (kE (v,n)).toArray 169);rw[<-cC.out,<-HH.out])
   go_region;have b0:bits .or .u64 (R:Int) (IntKind.u64.wrap ((v:Int)*2^q))=((lg F1 L:Nat):Int):=by
    have h8:2^q<=2^7:=Nat.pow_le_pow_right (by omega) (by omega);have e7:(2:Nat)^7=128:=rfl;have c9:v*2^q<=65535*128:=Nat.mul_le_mul (by omega) (by omega);have cF:R<2^q:=by rw[HR.out,bH.out];exact bZ.out.2.2
    have e:IntKind.u64.wrap ((v:Int)*2^q)=((v*2^q:Nat):Int):=by rw[zF,IntKind.wrap_u64];omega
    rw[e,Ls R (v*2^q) q (by omega) (by omega) cF (Nat.dvd_mul_left _ _),HL.out,bz.out,<-HR.out,<-bH.out]
   rw[b0];have aY:=(bg.out.rest (lg F1 L)).drew;obtain⟨W3,aZ⟩:=fY ((W2.setCell ⟨g,1,none⟩ (ae .u64 ((lg F1 L:Nat):Int))).drew);have bA:gJ S w W3:=by rw[aZ];exact(bx.out.tr (gJ.set bg.out.out _)).drew
   have b1:aR B w W3:=by rw[aZ];exact(bY.out.setCell bg.out.base _).drew
   have cG:W3.cell? ⟨h,1,none⟩=some (ae aj (n:Int)):=by rw[aZ];exact(World.cell?_setCell_other _ _ _ _ (fun e=>by have:g=h:=congrArg Addr.block e;omega)).trans y1
   rw[<-aZ]at aY⊢;obtain⟨b2,bI,b3,b4,b5,b6⟩:=aY.cells;obtain⟨R3,bJ⟩:=fY (lg F1 L);rw[<-bJ]at aY bI⊢;have bj:=fX aY;have bB:=fX bA;have b7:=fX b1;have cH:=fX bJ
   clear b0 aY bA b1 bJ aZ y0 y1 z0 z1 z2 e0 e1 e2 bg bx bY bz;go_wp2;go_region;have bk:=(bj.out.left (q+n)).drew;rw[Int.natCast_add]at bk;obtain⟨W4,bl⟩:=fY ((W3.setCell ⟨g,2,none⟩ (ae aj ((q:Int)+(n:Int)))).drew);have bC:gJ S w W4:=by rw[bl];exact(bB.out.tr (gJ.set bj.out.out _)).drew
   have b8:aR B w W4:=by rw[bl];exact(b7.out.setCell bj.out.base _).drew
   rw[<-bl]at bk⊢;have cI:=fX bk;have b9:=fX bC;have cJ:=fX b8
   clear bk bC b8 bl b2 bI b3 b4 b5 b6 cG bj bB b7;go_wp2;go_loopw [] (fun wx=>∃(t:Nat) (A':Option au) (c':Nat),L<=t/\8*t<=k+n/\aQ (jF wx S B g F1 t (lg F1 t) (k+n-8*t) A' c')/\aQ (gJ S w wx)/\aQ (aR B w wx)) (fun wx=>(aP ((wx.cell? ⟨g,2,none⟩).getD (ae aj 0))).toNat)
   case atStart=>
    refine⟨L,A,c,Nat.le_refl _,by have:=HL.out;omega,fX ?_,b9,cJ⟩;have:=cI.out;rw[show k+n-8*L=q+n by have:=HL.out;have:=bH.out;omega,<-cH.out];exact this
   case round=>
    obtain⟨t,At,ct,da,db,HQ,ca,cb⟩:=hrel;obtain⟨s,hs⟩:=fY (k+n-8*t);have ad:=HQ.out;rw[<-hs]at ad;obtain⟨Rv,a1⟩:=fY (lg F1 t);have bK:=Lh al.out.1 t;rw[<-a1]at ad bK;obtain⟨z0,z1,z2,e0,e1,e2⟩:=ad.cells;have dc:s<=16000000:=by omega
    have cK:=fX ad;have bL:=fX hs;have cL:=fX a1
    have cM:=HL.out;by_cases dd:8<=s
    ·have cf:(8:Int)<=(s:Int):=by omega
     have hz:F1 (t+3)=0:=al.out.2.1 _ (by omega);obtain⟨bM,bN⟩:=Lf al.out.1 t hz;rw[<-a1]at bM bN;obtain⟨x,hx⟩:=fY (F1 t);obtain⟨A',c',w',cg,ch,av,bm,cj⟩:=DU wr.drew B At t ct F1 (ad.drew).own x hx (by omega) ad.size;obtain⟨bO,a2,bP⟩:=ad.drew.grown ch av bm cj;rw[<-hx]at bM;obtain⟨R5,bQ⟩:=fY (lg F1 (t+1));rw[<-bQ]at bN;have de:IntKind.u8.wrap (Rv:Int)=(x:Int):=by rw[IntKind.wrap_u8];omega
     have df:(Rv:Int)%256=(x:Int):=by omega
     have dg:(Rv:Int)/256=(R5:Int):=by omega
     have cN:8*(t+1)<=k+n:=by omega
     obtain⟨W5,bR⟩:=fY (w'.setCell ⟨g,0,none⟩ (af A' (t+1) c'));have ck:=fX cg;rw[<-bR]at bO a2 bP;have bn:=fX bO;have cl:=fX (ca.out.tr a2);have cO:=fX (cb.out.drew.trans bP);have cP:=fX bR;have cQ:=fX bQ
     have dh:g<wr.heap.size:=ad.lt;have cR:w'.frozen? ⟨g,0,none⟩=false:=aO w' g 0 _ _ ((bm g ad.lt ad.ne).trans ad.row);have cS:w'.cell? ⟨g,0,none⟩=some (af At t ct):=(aH w' g 0 _ _ (0,0) ((bm g ad.lt ad.ne).trans ad.row)).trans rfl;have cT:=fX z2;clear cg bO a2 bP bR bQ ch av bm cj bM bN hx hs a1 ad cM hz bK;go_wp2;go_region_law ((refine sh rfl (.tmp 45) (.tmp 51) 22 22 rfl (af At t ct) (af (some ⟨wr.heap.size,0,none⟩) 1 1) rfl rfl (af A' (t+1) c') w' ck.out ?_))
     all_goals(
      rw[<-cP.out];obtain⟨b2,bI,b3,b4,b5,b6⟩:=bn.out.cells;have aU:=bn.out.rest R5;obtain⟨W6,a3⟩:=fY (W5.setCell ⟨g,1,none⟩ (ae .u64 (R5:Int)));rw[<-a3]at aU;have bD:gJ S w W6:=by rw[a3];exact cl.out.tr (gJ.set bn.out.out _)
      have cm:aR B w W6:=by rw[a3];exact cO.out.setCell bn.out.base _
      obtain⟨_,_,z6,_,_,e6⟩:=aU.cells;have aT:=aU.left (s-8);have cn:((s-8:Nat):Int)=(s:Int)-8:=by omega
      rw[cn]at aT;obtain⟨W7,a4⟩:=fY (W6.setCell ⟨g,2,none⟩ (ae aj ((s:Int)-8)));rw[<-a4]at aT;have bE:gJ S w W7:=by rw[a4];exact bD.tr (gJ.set aU.out _)
      have cp:aR B w W7:=by rw[a4];exact cm.setCell aU.base _
      obtain⟨_,_,z7,_,_,_⟩:=aT.cells;have cU:=fX aT;have cq:=fX bE;have cV:=fX cp;have cr:=fX a3;have cu:=fX a4;have cW:=fX z7
      clear aU bD cm aT bE cp a3 a4 cn z0 z1 z2 e0 e1 e2 cR cS z7;go_wp2;go_roundw
      case rel=>
       rw[<-cr.out,<-cu.out];exact⟨t+1,A',c',by omega,cN,fX (by rw[<-cQ.out,show k+n-8*(t+1)=s-8 by have:=bL.out;omega];exact cU.out),cq,cV⟩
      case measure=>rw[<-cr.out,<-cu.out,cT.out,cW.out];simp[aP];omega)
    ·have cf:¬(8:Int)<=(s:Int):=by omega
     have cv:t=(k+n)/8:=by have:=bL.out;omega
     have cw:s=(k+n)%8:=by have:=bL.out;omega
     have a5:ic wr S B g F1 (k+n):=by
      refine⟨al.out,At,ct,?_⟩;have h1:=cK.out;rw[cL.out,cv,Lg al.out,cw]at h1;exact h1
     rw[cD.out,<-cE.out]at a5;have cx:=fX a5;clear a5 cv cw bK ad hs a1;go_wp2;go_roundw
     case rel=>exact⟨i+1,by omega,by go_num,cx,ca,cb⟩
     case measure=>simp[aP];omega
  ·obtain rfl:i=m:=by omega
   have bS:¬(i:Int)<(i:Int):=by omega
   have hr:=HR.out;rw[HM.out,List.take_length]at hr;have cX:=fX hr;clear hr HR;go_wp2;go_end0;exact⟨rfl,cX.out,bF.out,HB.out⟩
def jB(p:gF)(Ah:Option au)(hc:Nat)(Aw:Option au)(wc:Nat)(Ap:Option au)(pc:Nat)(Ao:Option au)(on oc:Nat):Array ax:=
 #[ae aj p.s,ae aj p.h,ae aj p.m,ai p.z,af Ah p.hist.length hc,af Aw p.wait.length wc,af Ap p.gm.length pc,ae aj p.k,ai p.gO,af Ao on oc]
theorem vG(p:gF)(Ah:Option au)(hc:Nat)(Aw:Option au)(wc:Nat)(Ap:Option au)(pc:Nat)(Ao:Option au)(on oc:Nat):lv (jB p Ah hc Aw wc Ap pc Ao on oc):=fun i x=>by
 unfold jB;rcases i with _|_|_|_|_|_|_|_|_|_|i<;>simp
def kj(A:Option au)(n:Nat)(v:ax):Prop:=∀b o,0<n->A=some ⟨b,o,none⟩->v.ownBlock≠some b
structure gQ (w:aq) (B g:Nat) (p:gF) (out:List Nat) (Ah:Option au) (hc:Nat) (Aw:Option au) (wc:Nat) (Ap:Option au) (pc:Nat) (Ao:Option au) (oc:Nat):Prop where
 box:gi w g (jB p Ah hc Aw wc Ap pc Ao out.length oc) 62
 le:B<=g
 row:gu w w.heap.size Ah (p.hist.length+p.wait.length) hc (gj (p.hist++p.wait))
 wait:gu w w.heap.size Aw p.wait.length wc (gj p.wait)
 gm:gu w w.heap.size Ap p.gm.length pc (gj p.gm)
 own:w.ownsRow B 5 1 (af Ao out.length oc) out.length (gD out.length (gj out))
 bo:jo out
 nr:kj Ah (p.hist.length+p.wait.length) (af Ao out.length oc)
 nw:kj Aw p.wait.length (af Ao out.length oc)
 np:kj Ap p.gm.length (af Ao out.length oc)
section
variable {w w':aq} {B g:Nat} {p p':gF} {out:List Nat} {Ah:Option au} {hc:Nat} {Aw:Option au} {wc:Nat} {Ap:Option au} {pc:Nat} {Ao:Option au} {oc:Nat}
theorem gQ.lt(U:gQ w B g p out Ah hc Aw wc Ap pc Ao oc):g<w.heap.size:=U.box.lt
theorem gQ.below(U:gQ w B g p out Ah hc Aw wc Ap pc Ao oc)(hb:aR w.heap.size w w'):gQ w' B g p out Ah hc Aw wc Ap pc Ao oc:=
 ⟨U.box.below hb U.lt,U.le,(U.row.below hb fZ).more hb.size,(U.wait.below hb fZ).more hb.size,(U.gm.below hb fZ).more hb.size,uZ U.own hb,U.bo,U.nr,U.nw,U.np⟩
theorem gQ.ne(U:gQ w B g p out Ah hc Aw wc Ap pc Ao oc):(Value.slice Ao out.length oc).ownBlock≠some g:=oG U.own U.box (by kernel_rfl)
theorem gQ.hist(U:gQ w B g p out Ah hc Aw wc Ap pc Ao oc):gu w w.heap.size Ah p.hist.length hc (gj p.hist):=by
 refine⟨⟨fun j=>ky (fun x hx=>?_) j,fun h0=>?_⟩,U.row.2.1,by have:=U.row.2.2.1;omega,U.row.2.2.2⟩
 ·obtain⟨i,hi,rfl⟩:=List.mem_iff_getElem.1 hx;have:=U.row.1.1 i;rw[pY]at this;unfold cat at this;rw[if_pos hi]at this;unfold gj at this;rwa[List.getD_eq_getElem?_getD,List.getElem?_eq_getElem hi]at this
 ·obtain⟨b,o,e,hb,ad⟩:=U.row.1.2 (by omega);refine⟨b,o,e,hb,fun j hj=>?_⟩;have:=ad j (by omega);rw[pY]at this;unfold cat at this;rwa[if_pos hj]at this
theorem gu.off{B0 n c:Nat}{A:Option au}{f:Nat->Nat}{cs:Array ax}{t:aB}(h:gu w B0 A n c f)(hg:gi w g cs t)(hn:lv cs)(ho:∀j,j≠g->w'.heap[j]?=w.heap[j]?):gu w' B0 A n c f:=by
 refine⟨⟨h.1.1,fun h0=>?_⟩,h.2⟩;obtain⟨b,o,e,hb,ad⟩:=h.1.2 h0;have al:=yh h.1 hg hn h0 e;refine⟨b,o,e,hb,fun j hj=>?_⟩;have h1:=ad j hj;have h2:=ho b al;simp only[World.cell?,h2]at h1⊢;exact h1
theorem gQ.put(U:gQ w B g p out Ah hc Aw wc Ap pc Ao oc){ad:Option au}{aS:Nat}{al:Option au}{aT:Nat}{av:Option au}{aU:Nat}(hs:w'.heap.size=w.heap.size)(ho:∀j,j≠g->w'.heap[j]?=w.heap[j]?)(hx:gi w' g (jB p' ad aS al aT av aU Ao out.length oc) 62)
  (r1:gu w w.heap.size ad (p'.hist.length+p'.wait.length) aS (gj (p'.hist++p'.wait))) (r2:gu w w.heap.size al p'.wait.length aT (gj p'.wait)) (r3:gu w w.heap.size av p'.gm.length aU (gj p'.gm))
  (n1:kj ad (p'.hist.length+p'.wait.length) (af Ao out.length oc)) (n2:kj al p'.wait.length (af Ao out.length oc)) (n3:kj av p'.gm.length (af Ao out.length oc)):gQ w' B g p' out ad aS al aT av aU Ao oc:=by
 have k:∀{A:Option au} {n c:Nat} {f:Nat->Nat},gu w w.heap.size A n c f->gu w' w'.heap.size A n c f:=fun r=>by rw[hs];exact r.off U.box (vG _ _ _ _ _ _ _ _ _ _) ho
 exact⟨hx,U.le,k r1,k r2,k r3,mq U.own fun j hj=>ho j fun e=>U.ne (by rw[hj,e]),U.bo,n1,n2,n3⟩
theorem gQ.Lv(U:gQ w B g p out Ah hc Aw wc Ap pc Ao oc){ad:Option au}{aS:Nat}{al:Option au}{aT:Nat}{av:Option au}{aU:Nat}(i:Nat)(v:ax)(he:(jB p Ah hc Aw wc Ap pc Ao out.length oc).setIfInBounds i v=jB p' ad aS al aT av aU Ao out.length oc)
  (r1:gu w w.heap.size ad (p'.hist.length+p'.wait.length) aS (gj (p'.hist++p'.wait))) (r2:gu w w.heap.size al p'.wait.length aT (gj p'.wait)) (r3:gu w w.heap.size av p'.gm.length aU (gj p'.gm))
  (n1:kj ad (p'.hist.length+p'.wait.length) (af Ao out.length oc)) (n2:kj al p'.wait.length (af Ao out.length oc)) (n3:kj av p'.gm.length (af Ao out.length oc)):gQ (w.setCell ⟨g,i,none⟩ v) B g p' out ad aS al aT av aU Ao oc:=
 U.put (by simp[World.setCell]) (fun j hj=>Below.heap_setCell w _ v j hj) (he▸U.box.set i v) r1 r2 r3 n1 n2 n3
theorem gQ.vH(U:gQ w B g p out Ah hc Aw wc Ap pc Ao oc){ad:Option au}{aS:Nat}{al:Option au}{aT:Nat}{av:Option au}{aU:Nat}(i j:Nat)(v u:ax)(he:((jB p Ah hc Aw wc Ap pc Ao out.length oc).setIfInBounds i v).setIfInBounds j u=jB p' ad aS al aT av aU Ao out.length oc)
  (r1:gu w w.heap.size ad (p'.hist.length+p'.wait.length) aS (gj (p'.hist++p'.wait))) (r2:gu w w.heap.size al p'.wait.length aT (gj p'.wait)) (r3:gu w w.heap.size av p'.gm.length aU (gj p'.gm))
  (n1:kj ad (p'.hist.length+p'.wait.length) (af Ao out.length oc)) (n2:kj al p'.wait.length (af Ao out.length oc)) (n3:kj av p'.gm.length (af Ao out.length oc)):gQ ((w.setCell ⟨g,i,none⟩ v).setCell ⟨g,j,none⟩ u) B g p' out ad aS al aT av aU Ao oc:=
 U.put (by simp[World.setCell]) (fun k hk=>(Below.heap_setCell _ _ u k hk).trans (Below.heap_setCell w _ v k hk)) (he▸(U.box.set i v).set j u) r1 r2 r3 n1 n2 n3
theorem gQ.grown(U:gQ w B g p out Ah hc Aw wc Ap pc Ao oc){pI:Option au}{pJ:Nat}{more:List Nat}(hm:jo more)(ho:w'.ownsRow B 5 1 (af pI (out++more).length pJ) (out++more).length (gD (out++more).length (gj (out++more))))(hs:w.heap.size<=w'.heap.size)
  (hk:∀k,k<w.heap.size->(Value.slice Ao out.length oc).ownBlock≠some k->w'.heap[k]?=w.heap[k]?) (hw:∀j,(Value.slice pI (out++more).length pJ).ownBlock=some j->(Value.slice Ao out.length oc).ownBlock=some j\/w.heap.size<=j):
  gQ (w'.setCell ⟨g,9,none⟩ (af pI (out++more).length pJ)) B g p (out++more) Ah hc Aw wc Ap pc pI pJ:=by
 have hg:gi w' g (jB p Ah hc Aw wc Ap pc Ao out.length oc) 62:=(hk g U.lt U.ne).trans U.box
 have al:(Value.slice pI (out++more).length pJ).ownBlock≠some g:=oG ho hg (by kernel_rfl)
 have k:∀{A:Option au} {n c:Nat} {f:Nat->Nat},gu w w.heap.size A n c f->kj A n (af Ao out.length oc)->gu (w'.setCell ⟨g,9,none⟩ (af pI (out++more).length pJ)) (w'.setCell ⟨g,9,none⟩ (af pI (out++more).length pJ)).heap.size A n c f:=fun{A n c f} r nr=>by
  have r':gu w' w'.heap.size A n c f:=⟨⟨r.1.1,fun h0=>by
   obtain⟨b,o,e,hb,ad⟩:=r.1.2 h0;refine⟨b,o,e,by omega,fun j hj=>?_⟩;have h1:=ad j hj;have h2:=hk b hb (nr b o h0 e);simp only[World.cell?,h2]at h1⊢;exact h1⟩,r.2⟩
  have e:(w'.setCell ⟨g,9,none⟩ (af pI (out++more).length pJ)).heap.size=w'.heap.size:=by simp[World.setCell]
  rw[e];exact r'.off hg (vG _ _ _ _ _ _ _ _ _ _) (fun j hj=>Below.heap_setCell w' _ _ j hj)
 have q:∀{A:Option au} {n c:Nat} {f:Nat->Nat},gu w w.heap.size A n c f->kj A n (af Ao out.length oc)->kj A n (af pI (out++more).length pJ):=fun{A n c f} r nr b o h0 e hx=>by
  obtain⟨b',o',e',hb,_⟩:=r.1.2 h0;rw[e]at e';injection e' with e'
  injection e' with e1 _ _
  rcases hw b hx with h|h
  ·exact nr b o h0 e h
  ·omega
 exact⟨hg.set 9 _,U.le,k U.row U.nr,k U.wait U.nw,k U.gm U.np,mq ho fun j hj=>Below.heap_setCell w' _ _ j fun e=>al (by rw[hj,e]),fun x hx=>(List.mem_append.1 hx).elim (U.bo x) (hm x),q U.row U.nr,q U.wait U.nw,q U.gm U.np⟩
end
theorem gu.from{w:aq}{B n c q:Nat}{A A2:Option au}{L:List Nat}(h:gu w B A n c (gj L))(hq:q<=n)(hA:(if c=q then A else A.map (·.add q))=A2):gu w B A2 (n-q) (c-q) (gj (L.drop q)):=by
 have ef:gj (L.drop q)=fun j=>gj L (j+q):=funext fun j=>rG L q j
 rw[ef];rcases A with _|a
 ·have h0:=h.2.1 rfl;have hn:n=0:=by have:=h.2.2.1;omega
  have:A2=none:=by rw[<-hA];split<;>rfl
  subst this;exact⟨⟨fun j=>h.1.1 _,fun h=>absurd h (by omega)⟩,fun _=>by omega,by omega,by have:=h.2.2.2;omega⟩
 ·exact h.drop hq hA
theorem kj.from{n c q:Nat}{A A2:Option au}{v:ax}(h:kj A n v)(hq:q<=n)(hA:(if c=q then A else A.map (·.add q))=A2)(hr:0<n->∃b o,A=some ⟨b,o,none⟩):kj A2 (n-q) v:=fun b o h0 e hx=>by
 obtain⟨b',o',e'⟩:=hr (by omega);have hb:b=b':=by
  rw[<-hA]at e;split at e
  ·rw[e']at e;injection e with e;injection e with e1 _ _;exact e1.symm
  ·rw[e']at e;have:(some ((⟨b',o',none⟩:au).add q))=some (⟨b,o,none⟩:au):=e;injection this with this
   have:=congrArg Addr.block this;unfold Addr.add at this;split at this<;>simpa using this.symm
 subst hb;exact h b o' (by omega) e' hx
theorem gu.at{w:aq}{B n c:Nat}{A:Option au}{f:Nat->Nat}(h:gu w B A n c f)(h0:0<n):∃b o,A=some ⟨b,o,none⟩:=by
 obtain⟨b,o,e,_,_⟩:=h.1.2 h0;exact⟨b,o,e⟩
theorem Lw(p:gF)(Ah:Option au)(hc:Nat)(Aw:Option au)(wc:Nat)(Ap:Option au)(pc:Nat):prog.built 62 [(0,ah (gI p Ah hc Aw wc Ap pc))]=some (jB p Ah hc Aw wc Ap pc none 0 0):=by kernel_rfl
def trN(a b c:Nat):Nat->Nat
 |0=>a
 |1=>b
 |_=>c
def yF(f g h:Nat->Nat):Nat->Nat->Nat
 |0=>f
 |1=>g
 |_=>h
theorem DX(a b c:Nat):PG (trN a b c) 3=a+b+c:=by simp[PG,trN]
theorem Lx(x y z:List Nat):nO (trN x.length y.length z.length) (yF (gj x) (gj y) (gj z)) 3=gj (x++(y++z)):=by
 funext j;rw[pY];show cat (cat (cat (fun _=>0) 0 (gj x)) (0+x.length) (gj y)) (0+x.length+y.length) (gj z) j=cat (gj x) x.length (gj (y++z)) j
 unfold cat;rw[show gj (y++z) (j-x.length)=cat (gj y) y.length (gj z) (j-x.length)from pY y z _];unfold cat;by_cases h1:j<x.length
 ·rw[if_pos (by omega),if_pos (by omega),if_neg (by omega),if_pos h1];rfl
 ·by_cases h2:j-x.length<y.length
  ·rw[if_pos (by omega),if_neg (by omega),if_neg h1];show gj y (j-(0+x.length))=(if j-x.length<y.length then gj y (j-x.length)else _)
   rw[if_pos h2,Nat.zero_add]
  ·rw[if_neg (by omega),if_neg h1];show gj z (j-(0+x.length+y.length))=(if j-x.length<y.length then _ else gj z (j-x.length-y.length))
   rw[if_neg h2,show j-(0+x.length+y.length)=j-x.length-y.length by omega]
theorem DY(w:aq)(p:gF)(Ah:Option au)(hc:Nat)(Aw:Option au)(wc:Nat)(Ap:Option au)(pc:Nat)(hp:gU w w.heap.size p Ah hc Aw wc Ap pc)(Ab:Option au)(bc:Nat)(b:List Nat)(hb:gu w w.heap.size Ab b.length bc (gj b))(h1:p.hist.length<=1000000)(h2:p.wait.length<=1000000)(h3:b.length<=1000000):
  aw prog 28 #[ah (gI p Ah hc Aw wc Ap pc),af Ab b.length bc] w fun e w'=>∃g bq br bt bu,e=ao (ag (some ⟨g,0,none⟩))/\gQ w' w.heap.size g {p with wait:=p.wait++b} [] bq br bt bu Ap pc none 0/\aR w.heap.size w w':=by
 obtain⟨h,hh⟩:=fY (w.heap.size)
 obtain⟨X,hX⟩:=fY (gI p Ah hc Aw wc Ap pc)
 obtain⟨Y,hY⟩:=fY (jB p Ah hc Aw wc Ap pc none 0 0)
 have a4:=Lw p Ah hc Aw wc Ap pc
 rw[<-hX,<-hY]at a4
 obtain⟨hn,av⟩:=fY (p.hist.length)
 obtain⟨wn,aT⟩:=fY (p.wait.length)
 obtain⟨bn,aV⟩:=fY (b.length)
 have a1:X=#[ae aj p.s,ae aj p.h,ae aj p.m,ai p.z,af Ah hn hc,af Aw wn wc,af Ap p.gm.length pc,ae aj p.k,ai p.gO]:=by rw[hX,av,aT];rfl
 have a5:Y=#[ae aj p.s,ae aj p.h,ae aj p.m,ai p.z,af Ah hn hc,af Aw wn wc,af Ap p.gm.length pc,ae aj p.k,ai p.gO,af none 0 0]:=by rw[hY,av,aT];rfl
 rw[<-hX]
 obtain⟨W1,aW⟩:=fY (w.alloc (ak X 32))
 obtain⟨W2,aU⟩:=fY (W1.alloc (ak Y 62))
 have s1:W1.heap.size=h+1:=by rw[aW,World.size_alloc,hh]
 have b1:aR h w W1:=by rw[aW,hh];exact gC.alloc fZ _
 have b2:aR h w W2:=by rw[aU];exact b1.alloc (by rw[s1];omega) _
 have x1:gi W1 h X 32:=by rw[aW,hh];exact gi.new w _ _
 have x2:gi W2 h X 32:=by rw[aU];exact x1.old _
 have y2:gi W2 (h+1) Y 62:=by rw[aU,<-s1];exact gi.new W1 _ _
 have s2:W2.heap.size=h+2:=by rw[aU,World.size_alloc,s1]
 obtain⟨W3,aS⟩:=fY (W2.alloc (ak #[af Ah hn hc,af Aw wn wc,af Ab bn bc] 22))
 have s3:W3.heap.size=h+3:=by rw[aS,World.size_alloc,s2]
 have b3:aR h w W3:=by rw[aS];exact b2.alloc (by rw[s2];omega) _
 have x3:gi W3 h X 32:=by rw[aS];exact x2.old _
 have y3:gi W3 (h+1) Y 62:=by rw[aS];exact y2.old _
 have z3:gi W3 (h+2) #[af Ah hn hc,af Aw wn wc,af Ab bn bc] 22:=by rw[aS,<-s2];exact gi.new W2 _ _
 have rd:∀{V:aq},aR h w V->∀{A:Option au} {n c:Nat} {f:Nat->Nat},gu w w.heap.size A n c f->gu V V.heap.size A n c f:=fun{V} hV {A n c f} r=>(r.below hV (by omega)).more (by have:=hV.size;omega)
 have aX:P5 W3 W3.heap.size (some ⟨h+2,0,none⟩) 3 (trN p.hist.length p.wait.length b.length) (yF (gj p.hist) (gj p.wait) (gj b)):=fun _=>by
  refine⟨h+2,0,rfl,by omega,fun i hi=>?_⟩;rcases i with _|_|_|i
  ·have r:=rd b3 hp.hist;exact⟨Ah,hc,by rw[z3.cell,av];rfl,r.1,r.2.1⟩
  ·have r:=rd b3 hp.wait;exact⟨Aw,wc,by rw[z3.cell,aT];rfl,r.1,r.2.1⟩
  ·have r:=rd b3 hb;exact⟨Ab,bc,by rw[z3.cell,aV];rfl,r.1,r.2.1⟩
  ·omega
 have a8:∀i j,yF (gj p.hist) (gj p.wait) (gj b) i j<256:=fun i j=>by
  rcases i with _|_|i
  ·exact hp.hist.1.1 j
  ·exact hp.wait.1.1 j
  ·exact hb.1.1 j
 have a2:=Hf W3 (some ⟨h+2,0,none⟩) 3 3 (trN p.hist.length p.wait.length b.length) _ a8 aX (by omega) (by rw[DX];omega)
 rw[DX,Lx]at a2
 rw[<-av,<-aT,<-aV]at a2
 have a3:aQ (∀(V:aq) (A A2:Option au) (c:Nat),aR W3.heap.size W3 V->gu V V.heap.size A (hn+wn+bn) c (gj (p.hist++(p.wait++b)))->(if c=hn then A else A.map (·.add hn))=A2->gQ ((V.setCell ⟨h+1,4,none⟩ (af A hn c)).setCell ⟨h+1,5,none⟩ (af A2 (hn+wn+bn-hn) (c-hn))) h (h+1) {p with wait:=p.wait++b} [] A c A2 (c-hn) Ap pc none 0):=fX fun V A A2 c hV r hA2=>by
  have bx:aR h w V:=b3.trans (hV.mono (by omega));have yV:=y3.below hV y3.lt;have hl:(p.wait++b).length=hn+wn+bn-hn:=by rw[List.length_append,<-aT,<-aV];omega
  have e0:(({p with wait:=p.wait++b}:gF).hist++({p with wait:=p.wait++b}:gF).wait)=p.hist++(p.wait++b):=rfl;have nn:∀(A:Option au) (n:Nat),kj A n (af none ([]:List Nat).length 0):=fun A n b o _ _ hx=>by simp[Value.ownBlock]at hx
  have sz:((V.setCell ⟨h+1,4,none⟩ (af A hn c)).setCell ⟨h+1,5,none⟩ (af A2 (hn+wn+bn-hn) (c-hn))).heap.size=V.heap.size:=by simp[World.setCell]
  have k:∀{A':Option au} {n' c':Nat} {f:Nat->Nat},gu V V.heap.size A' n' c' f->gu ((V.setCell ⟨h+1,4,none⟩ (af A hn c)).setCell ⟨h+1,5,none⟩ (af A2 (hn+wn+bn-hn) (c-hn))) ((V.setCell ⟨h+1,4,none⟩ (af A hn c)).setCell ⟨h+1,5,none⟩ (af A2 (hn+wn+bn-hn) (c-hn))).heap.size A' n' c' f:=fun{A' n' c' f} r=>by
   rw[sz];exact r.off (hY▸yV) (vG _ _ _ _ _ _ _ _ _ _) fun j hj=>(Below.heap_setCell _ _ _ j hj).trans (Below.heap_setCell V _ _ j hj)
  refine⟨?_,by omega,?_,?_,?_,World.ownsRow_nil _ _ _ _,(fun x hx=>by cases hx),nn _ _,nn _ _,nn _ _⟩
  ·have a:=(yV.set 4 (af A hn c)).set 5 (af A2 (hn+wn+bn-hn) (c-hn));rw[a5]at a;unfold jB;show gi _ _ #[_,_,_,_,af A p.hist.length c,af A2 (p.wait++b).length (c-hn),_,_,_,_] _
   rw[hl,<-av];exact a
  ·rw[e0];show gu _ _ A (p.hist.length+(p.wait++b).length) c _
   rw[hl,<-av,show hn+(hn+wn+bn-hn)=hn+wn+bn by omega];exact k r
  ·show gu _ _ A2 (p.wait++b).length (c-hn) (gj (p.wait++b))
   rw[hl];have:=r.from (q:=hn) (by omega) hA2
   rw[show(p.hist++(p.wait++b)).drop hn=p.wait++b by rw[av];exact List.drop_left ..]at this;exact k this
  ·show gu _ _ Ap p.gm.length pc (gj p.gm)
   exact k (rd bx hp.gm)
 have a9:=fX aW;have bz:=fX aU;have bA:=fX aS;have bB:=fX a2;have bC:=fX x1;have bD:aQ (X.size=9):=fX (by rw[hX];rfl);have bE:=fX a4;have HH:=fX hh;have bF:=fX a1;have bd:=fX a5
 have bf:=fX x3;have bg:=fX y3;have bj:=fX b3;have bk:=fX s3;have bG:=fX s1;have bH:=fX s2
 have c4:W2.cell? ⟨h,4,none⟩=some (af Ah hn hc):=by rw[x2.cell,a1];rfl
 have c5:W2.cell? ⟨h,5,none⟩=some (af Aw wn wc):=by rw[x2.cell,a1];rfl
 rw[<-aV]
 clear hp hb h1 h2 h3 aW aU aS hX hY av aT aV a2 a8 aX rd x1 x2 y2 x3 y3 z3 s1 s2 s3 b1 b2 b3 a4 hh a1 a5
 go_enter func28,ntmps28
 go_wp2_with (first
  |(rw[<-a9.out,<-HH.out])
  |(rw[<-a9.out])
  |(refine aE rfl _ _ rfl h rfl _ X (0,0) _ bC.out underlying32 rfl (by rw[bD.out];exact gM) ?_)
  |(refine aD rfl 62 #[(0,.tmp 7)] rfl (some 8) rfl Y ?_ ?_;focus(simpa[Act.eval,Act.put]using bE.out))
  |(rw[<-bz.out])
  |(rw[<-bA.out])
  |fail)
 rw[bH.out]
 refine bB.out.mono ?_
 rintro e w4 ⟨A,c,rfl,rA,aY,-⟩
 rw[bG.out]
 have x4:=bf.out.below aY bf.out.lt
 have y4:=bg.out.below aY bg.out.lt
 have q4:w4.cell? ⟨h,4,none⟩=some (af Ah hn hc):=by rw[x4.cell,bF.out];rfl
 have d4:w4.cell? ⟨h+1,4,none⟩=some (af Ah hn hc):=by rw[y4.cell,bd.out];rfl
 have d5:w4.cell? ⟨h+1,5,none⟩=some (af Aw wn wc):=by rw[y4.cell,bd.out];rfl
 have f4:w4.frozen? ⟨h+1,4,none⟩=false:=y4.free
 have f5:w4.frozen? ⟨h+1,5,none⟩=false:=y4.free
 have bI:=rA.2.2.1
 have bL:(hn:Int)<=(c:Int):=by omega
 have bJ:(hn:Int)<=((hn+wn+bn:Nat):Int):=by omega
 obtain⟨T,hT⟩:=fY (hn+wn+bn)
 obtain⟨A2,hA2⟩:∃A2,(if c=hn then A else A.map (·.add hn))=A2:=⟨_,rfl⟩
 have bl:=fX (a3.out w4 A A2 c aY rA hA2)
 rw[<-hT]at bJ bI⊢
 have HT:=fX hT;have bm:=fX hA2;have bp:=fX aY;have bK:=fX rA
 clear x4 y4 hT hA2 aY rA a3
 rcases A with _|ad
 ·obtain rfl:c=0:=bK.out.2.1 rfl;obtain rfl:T=0:=by omega
  obtain rfl:hn=0:=by omega
  obtain rfl:A2=none:=by rw[<-bm.out];rfl
  obtain⟨W5,al⟩:=fY ((w4.setCell ⟨h+1,4,none⟩ (af none 0 0)).setCell ⟨h+1,5,none⟩ (af none 0 (0)));have hf:=bl.out;rw[<-HT.out,<-al]at hf;have aZ:aR h w W5:=by rw[al];exact jx (jx (bj.out.trans (bp.out.mono (by have:=bk.out;omega))) (by omega) _ _) (by omega) _ _
  have HF:=fX (hf.below gC.drew);have a6:=fX aZ.drew;have a7:=fX al
  clear hf aZ al;go_wp2_with fail
  go_region;all_goals(
   rw[<-a7.out];go_wp2;go_ret;exact⟨h+1,none,0,none,0,rfl,by rw[<-HH.out];exact HF.out,by rw[<-HH.out];exact a6.out⟩)
 ·have hA3:(if c=hn then(some ad:Option au)else some (ad.add hn))=A2:=bm.out;obtain⟨W5,al⟩:=fY ((w4.setCell ⟨h+1,4,none⟩ (af (some ad) hn c)).setCell ⟨h+1,5,none⟩ (af A2 (T-hn) (c-hn)));have hf:=bl.out;rw[<-HT.out,<-al]at hf;have aZ:aR h w W5:=by rw[al];exact jx (jx (bj.out.trans (bp.out.mono (by have:=bk.out;omega))) (by omega) _ _) (by omega) _ _
  have HF:=fX (hf.below gC.drew);have a6:=fX aZ.drew;have a7:=fX al
  clear hf aZ al;go_wp2_with fail
  go_region;all_goals(
   rw[<-a7.out];go_wp2;go_ret;exact⟨h+1,(some ad),c,A2,c-hn,rfl,by rw[<-HH.out];exact HF.out,by rw[<-HH.out];exact a6.out⟩)
theorem lG{P:az}{l:List aA}{o:aA}{a:Act}{w:aq}{T:ax->aq->Prop}{K:Act->aq->Prop}{Q:Exit->Act->aq->Prop}{E:Prop}(hw:Region.wanted o (aM l.toArray a.tmps)=true)(x:Operand)(ho:o.op=.nilCheck x)(ad:au)(hx:a.eval x=ag (some ad))
  (hT:Up T (ag (some ad)) w) (hK:∀v w',aR w.heap.size w w'->Up T v w'->K (a.put o.dst v) w'):if Region.wanted o (aM l.toArray a.tmps)=true then Oper.wp P o a w K Q else E:=
 mW hw _ (by simp only[execOp,ho,hx];rfl) hT hK
theorem yG{l:List aA}{o:aA}{a:Act}{w:aq}{T:ax->aq->Prop}{K:Act->aq->Prop}{Q:Exit->Act->aq->Prop}{E:Prop}(hw:Region.wanted o (aM l.toArray a.tmps)=true)(x:Operand)(t:aB)(ho:o.op=.call {callee:=.builtin .len,args:=#[x],argTypes:=#[t]})(A:Option au)(n c:Nat)(hx:a.eval x=af A n c)
  {e:aB} (ht:prog.underlying t=some (.slice e)) (hT:Up T (ae aj (n:Int)) w) (hK:∀v w',aR w.heap.size w w'->Up T v w'->K (a.put o.dst v) w'):if Region.wanted o (aM l.toArray a.tmps)=true then Oper.wp prog o a w K Q else E:=
 mW hw _ (by
  have h:(Builtin.len_ #[t] o.type #[af A n c]).run prog w=.ok (goInt n) w:=by
   have he:prog.elem t=e:=by unfold Program.elem;rw[ht]
   exact run_len_slice w t o.type A n c (by rw[he];exact ht)
  simp[execOp,ho,resolve,invoke,builtin,hx,h,Result.andThen,goInt]) hT hK
theorem Ly{l:List aA}{o:aA}{a:Act}{w:aq}{T:ax->aq->Prop}{K:Act->aq->Prop}{Q:Exit->Act->aq->Prop}{E:Prop}(hw:Region.wanted o (aM l.toArray a.tmps)=true)(x y:Operand)(t t':aB)(ho:o.op=.call {callee:=.builtin .max,args:=#[x,y],argTypes:=#[t,t']})(m n r:Int)(hx:a.eval x=ae aj m)(hy:a.eval y=ae aj n)
  (hr:(if n>m then n else m)=r) (hT:Up T (ae aj r) w) (hK:∀v w',aR w.heap.size w w'->Up T v w'->K (a.put o.dst v) w'):if Region.wanted o (aM l.toArray a.tmps)=true then Oper.wp prog o a w K Q else E:=by
 subst hr
 have h:(Builtin.max_ #[t,t'] o.type #[ae aj m,ae aj n]).run prog w=.ok (ae aj (if n>m then n else m)) w:=by
  exact run_max_int2 ..
 exact mW hw _ (by simp[execOp,ho,resolve,invoke,builtin,hx,hy,h,Result.andThen]) hT hK
theorem kH{w:aq}{g:Nat}{cs:Array ax}{t:aB}(h:gi w g cs t)(k:Nat)(l:List ax)(hl:∀i,i<l.length->cs[k+i]?=l[i]?):w.rangeAt g k l:=fun i v hv=>by
 have hi:i<l.length:=by
  rcases Nat.lt_or_ge i l.length with h|h
  ·exact h
  ·rw[List.getElem?_eq_none h]at hv;cases hv
 rw[h.cell,hl i hi];exact hv
theorem Lz(P:az)(t:aB)(x y:Nat)(h:x+y<=9223372036854775807)(w:aq):(binOp .add t (ae aj (x:Int)) (ae aj (y:Int))).run P w=.ok (ae aj ((x+y:Nat):Int)) w:=by
 have e:IntKind.i64.wrap ((x:Int)+(y:Int))=((x+y:Nat):Int):=by rw[<-Int.natCast_add];exact wrap_i64 _ h
 simp[binOp,Op.intArith,go_sem,e]
theorem LC(P:az)(t:aB)(x y:Nat)(hx:x<=4611686018427387904)(hy:y<=4611686018427387904)(w:aq):(binOp .sub t (ae aj (x:Int)) (ae aj (y:Int))).run P w=.ok (ae aj ((x:Int)-(y:Int))) w:=by
 have e:IntKind.i64.wrap ((x:Int)-(y:Int))=(x:Int)-(y:Int):=by
  show(let m:=((x:Int)-(y:Int))%(2^64:Int);if(true&&decide (m≥(2^63:Int)))=true then m-(2^64:Int)else m)=_
  have h1:(2:Int)^64=18446744073709551616:=rfl;have h2:(2:Int)^63=9223372036854775808:=rfl;simp only[h1,h2,Bool.true_and,decide_eq_true_eq];omega
 simp[binOp,Op.intArith,go_sem,e]
def yH(l:List aA)(F:List Nat)(n:Nat):Bool:=(List.range n).all fun i=>F.contains i||(List.range (n+1)).any fun j=>decide (i<j)&& !F.contains j&&Region.waitsFor .any l.toArray j i
theorem LD{l:List aA}{F:List Nat}{n:Nat}{gv:Array Bool}(hs:yH l F n=true)(hc:Region.chainB .any l.toArray n=true)(hn:n<l.length)(inv:HeadInv .any l.toArray n gv){i:Nat}(hi:i<n)(aS:i∉F)(hu:gv.getD i true=false):
  ∀t,n<=t->t∉Region.ready .any l.toArray gv:=by
 have a1:gv.size=l.length:=by rw[inv.size];simp
 have key:∀(d i:Nat),d=n-i->i<=n->i∉F->gv.getD i true=false->n∈Region.ready .any l.toArray gv->i=n:=by
  intro d;induction d using Nat.strongRecOn with
  |_ d ih=>
   intro i hd hi aS hu hr;rcases Nat.eq_or_lt_of_le hi with e|hi
   ·exact e
   ·exfalso;have h1:=List.all_eq_true.1 hs i (List.mem_range.2 hi);simp only[Bool.or_eq_true]at h1;rcases h1 with h1|h1
    ·exact aS (by simpa using h1)
    ·obtain⟨j,hj,aT⟩:=List.any_eq_true.1 h1;simp only[Bool.and_eq_true,decide_eq_true_eq,Bool.not_eq_true',List.contains_eq_mem,decide_eq_false_iff_not]at aT;obtain⟨oj,aU,e,he,hb,av⟩:=Region.waitsFor_spec aT.2;have aW:j<=n:=by have:=List.mem_range.1 hj;omega
     cases hl:gv.getD j false with
     |true=>
      have h2:=inv.closed j oj aU hl e he hb;rw[av,getD_both hu]at h2;cases h2
     |false=>
      have aX:=ih (n-j) (by omega) j rfl aW aT.1.2 (getD_in (by omega) hl) hr;subst aX;obtain⟨_,ot,ad,al⟩:=mem_ready.1 hr;rw[aU]at ad;cases ad;have h2:=al e he hb;rw[av,getD_both hu]at h2;cases h2
 intro t ht hr
 by_cases aY:t=n
 ·subst aY;have:=key (t-i) i rfl (by omega) aS hu hr;omega
 ·obtain⟨_,ot,ad,al⟩:=mem_ready.1 hr;have aZ:t<l.length:=by have:=(Array.getElem?_eq_some_iff.1 ad).1;simpa using this
  have h1:=List.all_eq_true.1 hc t (List.mem_range.2 (by simpa using aZ));simp only[Bool.or_eq_true,decide_eq_true_eq]at h1;rcases h1 with h1|h1
  ·omega
  ·obtain⟨o',aV,e,he,hb,av⟩:=Region.waitsFor_spec h1;rw[ad]at aV;cases aV;have h2:=al e he hb;rw[av,getD_both (inv.tail (t-1) (by omega) (by simp;omega))]at h2;cases h2
def DZ(P:az)(l:List aA)(T:Nat->ax->aq->Prop)(a0:Act)(U:aq)(Q:Exit->Act->aq->Prop)(i0:Nat):Prop:=
 ∃o0 d0,l[i0]?=some o0/\o0.guard=none/\o0.dst=some d0/\(∀v c a w,Q (.panic c) (a.put o0.dst v) w->Q (.panic c) a w)/\
  ∀(a:Act) (w:aq),aR U.heap.size U w->(∀s,nD l s=true->a.eval (.tmp s)=a0.eval (.tmp s))->(∀j d,Region.waitsFor .any l.toArray i0 j=true->(l[j]?).bind (·.dst)=some d->Up (T j) (a.eval (.tmp d)) w)->∃v,(∀w',(execOp a.eval o0).run P w'=.ok (.value v) w')/\Up (T i0) v w
theorem LG{P:az}{Q:Exit->Act->aq->Prop}{a0:Act}{U:aq}{l:List aA}{T:Nat->ax->aq->Prop}{n:Nat}{F:List Nat}(bC:∀i∈F,i<n)(hn:n<l.length)(hs:yH l F n=true)(a7:∀i∈F,vw l i=true)(bl:Region.noSelect l.toArray=true)(hF:∀i∈F,DZ P l T a0 U Q i)
   (hc:Region.chainB .any l.toArray n=true)
  (bm:Region.seqB .any l.toArray (l.length-n) n (km n (l.length-n))=true) (hB:PL l a0.tmps.size=true) (a8:gl P l T a0 U 0 (l.take n))
  (bn:∀gv a w,qG l T a0 U gv a w->(∀i,i<n->gv.getD i false=true)->(∀i,n<=i->i<l.length->gv.getD i true=false)->wpList P l.toArray Q (l.drop n) a w):
  ∀(f:Nat) (gv:Array Bool) (a:Act) (w:aq),((List.range n).filter fun i=> !gv.getD i false).length=f->qG l T a0 U gv a w->HeadInv .any l.toArray n gv->wpAny P .any l.toArray Q (f+(l.length-n)) gv a w:=by
 have bp:=hB
 simp only[PL,Bool.and_eq_true,decide_eq_true_eq]at bp
 obtain⟨⟨bq,br⟩,a5⟩:=bp
 intro f
 induction f with
 |zero=>
  intro gv a w hf inv hi;have bt:∀i,i<n->gv.getD i false=true:=fun i hi=>by
   have h0:=List.length_eq_zero_iff.1 hf;have h1:=List.filter_eq_nil_iff.1 h0 i (List.mem_range.2 hi);simpa using h1
  have hk:=bn gv a w inv bt (fun i h1 h2=>hi.tail i h1 (by simpa using h2));have he:=uK (n:=n) (g:=l.length-n) (gv:=gv) (by rw[inv.size];omega) (fun i h=>by
   have h1:=bt i h;cases h2:gv.getD i true with
   |true=>rfl
   |false=>rw[getD_both h2]at h1;cases h1) (fun t ht bV=>hi.tail t ht (by simp;omega))
  subst he;have h3:=wpAny_of_seq (P:=P) (md:=.any) (Q':=Q) (l.drop n) n (km n (l.length-n)) a w (fun j=>by simp[List.getElem?_drop]) (by rw[List.length_drop];exact bm) hk;rw[List.length_drop]at h3;rw[Nat.zero_add];exact h3
 |succ f ih=>
  intro gv a w hf inv hi;rw[show f+1+(l.length-n)=(f+(l.length-n))+1 by omega];obtain⟨x,a9,aW⟩:∃x,x<n/\gv.getD x false=false:=by
   have:0<((List.range n).filter fun i=> !gv.getD i false).length:=by omega
   obtain⟨x,hx⟩:=List.exists_mem_of_length_pos this;obtain⟨h1,h2⟩:=List.mem_filter.1 hx;exact⟨x,List.mem_range.1 h1,by simpa using h2⟩
  by_cases bu:∃i0,i0∈F/\i0∈Region.ready .any l.toArray gv
  ·obtain⟨i0,aX,bd⟩:=bu;have a6:=bC i0 aX;have a7:=a7 i0 aX;obtain⟨o0,d0,bx,bD,a2,bE,bF⟩:=hF i0 aX;obtain⟨h0,o,ho,al⟩:=mem_ready.1 bd;have ad:l[i0]?=some o:=by simpa using ho
   have bG:o=o0:=by rw[bx]at ad;exact(Option.some.inj ad).symm
   subst bG;have aY:i0<l.length:=(List.getElem?_eq_some_iff.1 ad).1;have aU:∀s,nD l s=true->a.eval (.tmp s)=a0.eval (.tmp s):=fun s hs=>by
    show a.tmps.getD s undef=a0.tmps.getD s undef
    rw[Array.getD_eq_getD_getElem?,Array.getD_eq_getD_getElem?,inv.off s (fun _ _ _ hd=>rL hs hd)]
   have aT:∀j d,Region.waitsFor .any l.toArray i0 j=true->(l[j]?).bind (·.dst)=some d->Up (T j) (a.eval (.tmp d)) w:=fun j d hw hd=>by
    obtain⟨ok,av,e,he,hb,aV⟩:=Region.waitsFor_spec hw;rw[ho]at av;cases av;exact inv.told j d (by have:=al e he hb;rwa[aV]at this) hd
   obtain⟨v,bH,bI⟩:=bF a w inv.below aU aT;have aZ:d0<a.tmps.size:=by
    have h1:=List.all_eq_true.1 br o (List.mem_of_getElem? ad);simp only[a2,decide_eq_true_eq]at h1;rw[inv.tmps];exact h1
   refine wpAny_first (oi:=o) (v:=v) ho (Region.noSelect_spec bl) (bE v) (f+(l.length-n)) gv a w (fun j oj hj a1 bJ bf=>?_) bd (.inl ⟨by simp[Region.wanted,bD],bH⟩) ?_
   ·have bK:j<l.length:=by have:=(Array.getElem?_eq_some_iff.1 hj).1;simpa using this
    have h1:=List.all_eq_true.1 a7 j (List.mem_range.2 bK);have bL:l[j]?=some oj:=by simpa using hj
    simp only[bx,bL,Bool.or_eq_true,beq_iff_eq]at h1;rcases h1 with((h1|h1)|h1)|h1
    ·exact absurd h1 a1
    ·obtain⟨ok,av,e,he,hb,aV⟩:=Region.waitsFor_spec h1;rw[ho]at av;cases av;have h2:=al e he hb;rw[aV,getD_both bJ]at h2;cases h2
    ·obtain⟨ok,av,e,he,hb,aV⟩:=Region.waitsFor_spec h1;rw[hj]at av;cases av;exact absurd aV (bf e he hb)
    ·exact h1
   ·refine ih _ _ _ ?_ ⟨by simp[inv.size],?_,?_,inv.below,fun s hs=>?_,fun j d hl hd=>?_⟩ (hi.set bd a6)
    ·have bg:((List.range n).filter fun i=> !(gv.setIfInBounds i0 true).getD i false)=((List.range n).filter fun i=> !gv.getD i false).erase i0:=by
      rw[List.Nodup.erase_eq_filter (List.nodup_range.filter _),List.filter_filter];apply List.filter_congr;intro x hx;by_cases e:x=i0
      ·subst e;have:x<gv.size:=by rw[inv.size];exact aY
       simp[this]
      ·rw[getD_set_ne false (Ne.symm e)];simp[e]
     rw[bg,List.length_erase_of_mem (List.mem_filter.2 ⟨List.mem_range.2 a6,by rw[getD_both h0];rfl⟩),hf];rfl
    ·unfold Act.put;cases o.dst<;>simp[inv.tmps]
    ·unfold Act.put;cases o.dst<;>exact inv.defers
    ·rw[<-inv.off s (fun j d hl hd=>hs j d (getD_set_true hl) hd),a2];have e:d0≠s:=hs i0 d0 (by have:i0<gv.size:=(by rw[inv.size];exact aY);simp[this]) (by rw[ad];simpa using a2);simp[Act.put,Array.getElem?_setIfInBounds_ne e]
    ·by_cases e:j=i0
     ·subst e;rw[ad]at hd;have aS:o.dst=some d:=by simpa using hd
      have bM:d=d0:=by rw[a2]at aS;exact(Option.some.inj aS).symm
      subst bM;have he:(a.put o.dst v).eval (.tmp d)=v:=by rw[aS];simp[Act.put,Act.eval,aZ]
      rw[he];exact bI
     ·rw[getD_set_ne false (Ne.symm e)]at hl;have h1:=inv.told j d hl hd;have he:(a.put o.dst v).eval (.tmp d)=a.eval (.tmp d):=Act.eval_put fun d' aS hx=>by
       cases hx
       cases hj:l[j]? with
       |none=>rw[hj]at hd;cases hd
       |some y=>
        rw[hj]at hd;exact e (rM bq hj ad (by simpa using hd) aS)
      rw[he];exact h1
  obtain⟨y,bN,bz,bO⟩:∃y,y<n/\y∉F/\gv.getD y false=false:=by
   have key:∀x,x<n->gv.getD x false=false->∃y,y<n/\y∉F/\gv.getD y false=false:=by
    intro x;induction x using Nat.strongRecOn with
    |_ x bP=>
     intro a9 aW;by_cases e:x∈F
     ·have hex:∃o0:aA,l[x]?=some o0/\∃e,e∈o0.after/\Region.binds .any e=true/\gv.getD e.on false≠true:=by
       refine⟨l[x]'(by omega),List.getElem?_eq_getElem (by omega),?_⟩;apply Classical.byContradiction;intro bf;exact bu ⟨x,e,mem_ready.2 ⟨getD_in (by rw[inv.size];omega) aW,l[x]'(by omega),by simp,fun e he hb=>Classical.byContradiction fun a1=>bf ⟨e,he,hb,a1⟩⟩⟩
      obtain⟨o0,bQ,e,he,hb,a1⟩:=hex;have h1:=List.all_eq_true.1 a5 x (List.mem_range.2 (by omega));simp only[bQ]at h1;have h2:=Array.all_eq_true_iff_forall_mem.1 h1 e he;simp only[hb,Bool.not_true,Bool.false_or,decide_eq_true_eq]at h2;exact bP e.on h2 (by omega) (by simpa using a1)
     ·exact⟨x,a9,e,aW⟩
   exact key x a9 aW
  have bR:gv.getD y true=false:=getD_in (by rw[inv.size];omega) bO;have a3:∀i,i∈Region.ready .any l.toArray gv->i<n:=fun i hr=>by
   rcases Nat.lt_or_ge i n with g|g
   ·exact g
   ·exact absurd hr (LD hs hc hn hi bN bz bR i g)
  refine⟨fun h0=>?_,fun k hk=>?_⟩
  ·exfalso;have bA:∀i,i<l.length->gv.getD i false=true:=fun i=>by
    induction i using Nat.strongRecOn with
    |_ i bS=>
     intro a4;cases hu:gv.getD i false with
     |true=>rfl
     |false=>
      exfalso;have h1:=List.all_eq_true.1 a5 i (List.mem_range.2 a4);have bT:l[i]?=some l[i]:=List.getElem?_eq_getElem a4;simp only[bT]at h1;have:i∈Region.ready .any l.toArray gv:=mem_ready.2 ⟨getD_in (by rw[inv.size];exact a4) hu,l[i],by simp[a4],fun e he hb=>by
       have h2:=Array.all_eq_true_iff_forall_mem.1 h1 e he;simp only[hb,Bool.not_true,Bool.false_or,decide_eq_true_eq]at h2;exact bS e.on h2 (by omega)⟩
      rw[h0]at this;cases this
   have:=bA x (by omega);rw[aW]at this;cases this
  ·have bj:=a3 k hk;obtain⟨h0,o,ho,al⟩:=mem_ready.1 hk;have ad:l[k]?=some o:=by simpa using ho
   have aY:k<l.length:=(List.getElem?_eq_some_iff.1 ad).1;have bU:sL P l T a0 U k o:=by
    have:=a8.get (j:=k) (o:=o) (by rw[List.getElem?_take_of_lt bj];exact ad);rwa[Nat.zero_add]at this
   have aU:∀s,nD l s=true->a.eval (.tmp s)=a0.eval (.tmp s):=fun s hs=>by
    show a.tmps.getD s undef=a0.tmps.getD s undef
    rw[Array.getD_eq_getD_getElem?,Array.getD_eq_getD_getElem?,inv.off s (fun _ _ _ hd=>rL hs hd)]
   have aT:∀j d,Region.waitsFor .any l.toArray k j=true->(l[j]?).bind (·.dst)=some d->Up (T j) (a.eval (.tmp d)) w:=fun j d hw hd=>by
    obtain⟨ok,av,e,he,hb,aV⟩:=Region.waitsFor_spec hw;rw[ho]at av;cases av;exact inv.told j d (by have:=al e he hb;rwa[aV]at this) hd
   have aZ:∀d,o.dst=some d->d<a.tmps.size:=fun d hd=>by
    have h1:=List.all_eq_true.1 br o (List.mem_of_getElem? ad);simp only[hd,decide_eq_true_eq]at h1;rw[inv.tmps];exact h1
   have bk:=bU a w inv.below aU aT (wpAny P .any l.toArray Q (f+(l.length-n)) (gv.setIfInBounds k true)) Q (fun v w' hb hv=>by
    refine ih _ _ _ ?_ ⟨by simp[inv.size],?_,?_,inv.below.trans (hb.mono inv.below.size),fun s hs=>?_,fun j d hl hd=>?_⟩ (hi.set hk bj)
    ·have bg:((List.range n).filter fun i=> !(gv.setIfInBounds k true).getD i false)=((List.range n).filter fun i=> !gv.getD i false).erase k:=by
      rw[List.Nodup.erase_eq_filter (List.nodup_range.filter _),List.filter_filter];apply List.filter_congr;intro x hx;by_cases e:x=k
      ·subst e;have:x<gv.size:=by rw[inv.size];exact aY
       simp[this]
      ·rw[getD_set_ne false (Ne.symm e)];simp[e]
     rw[bg,List.length_erase_of_mem (List.mem_filter.2 ⟨List.mem_range.2 bj,by rw[getD_both h0];rfl⟩),hf];rfl
    ·unfold Act.put;cases o.dst<;>simp[inv.tmps]
    ·unfold Act.put;cases o.dst<;>exact inv.defers
    ·rw[<-inv.off s (fun j d hl hd=>hs j d (getD_set_true hl) hd)];unfold Act.put;cases hd:o.dst with
     |none=>rfl
     |some d=>
      have e:d≠s:=hs k d (by have:k<gv.size:=(by rw[inv.size];exact aY);simp[this]) (by rw[ad];simpa using hd);simp[Array.getElem?_setIfInBounds_ne e]
    ·by_cases e:j=k
     ·subst e;rw[ad]at hd;have aS:o.dst=some d:=by simpa using hd
      have bB:=aZ d aS;have he:(a.put o.dst v).eval (.tmp d)=v:=by rw[aS];simp[Act.put,Act.eval,bB]
      rw[he];exact hv
     ·rw[getD_set_ne false (Ne.symm e)]at hl;have h1:=inv.told j d hl hd;have he:(a.put o.dst v).eval (.tmp d)=a.eval (.tmp d):=Act.eval_put fun d' aS hx=>by
       cases hx
       cases hj:l[j]? with
       |none=>rw[hj]at hd;cases hd
       |some y=>
        rw[hj]at hd;exact e (rM bq hj ad (by simpa using hd) aS)
      rw[he];exact h1.on hb)
   unfold wpOp;simp only[ho];split at bk
   ·rename_i hw;rw[if_pos hw];exact .inl bk
   ·rename_i hw;rw[if_neg hw];exact bk
theorem vI{P:az}{o:aA}{a:Act}(x:Operand)(ho:o.op=.move x)(v:ax)(hx:a.eval x=v):∀w',(execOp a.eval o).run P w'=.ok (.value v) w':=fun w'=>by
 unfold execOp;simp only[ho,hx];rfl
theorem LH{P:az}{o:aA}{a:Act}(t:aB)(x:Operand)(lo hi mx:Option Operand)(ho:o.op=.slice t x lo hi mx)(u v:ax)(ad al av:Option ax)(hx:a.eval x=u)(h1:lo.map a.eval=ad)(h2:hi.map a.eval=al)(h3:mx.map a.eval=av)(hr:∀w,(Instr.sliceAt t u ad al av).run P w=.ok v w):∀w',(execOp a.eval o).run P w'=.ok (.value v) w':=fun w'=>by
 unfold execOp;simp only[ho,hx,h1,h2,h3,Sem.run_bind,hr w',Result.andThen_ok];rfl
def D0(l:List aA)(F:List Nat)(n m:Nat):Bool:=(F.all fun i=>decide (i<n))&&(F.all fun i=>vw l i)&&Region.noSelect l.toArray&&decide (n<l.length)&&yH l F n&&Region.chainB .any l.toArray n&&Region.seqB .any l.toArray (l.length-n) n (km n (l.length-n))&&PL l m
theorem D1{P:az}{id:Nat}{Q:Exit->Act->aq->Prop}{a0:Act}{w0:aq}{l:List aA}(n:Nat)(F:List Nat)(T:Nat->ax->aq->Prop)(U:aq)(hU:aR U.heap.size U w0)(hm:P.follows .mixedOrders=true)(hB:D0 l F n a0.tmps.size=true)(hF:∀i∈F,DZ P l T a0 U Q i)
  (ad:gl P l T a0 U 0 (l.take n))
  (av:∀(vals:Tmp->ax) (w:aq),aR U.heap.size U w->(∀j d,((l.take n)[j]?).bind (·.dst)=some d->Up (T j) (vals d) w)->wpList P l.toArray Q (l.drop n) (Pv ((l.take n).map (·.dst)) vals a0) w):(Code.region id l.toArray true).wp P Q a0 w0:=by
 simp only[D0,Bool.and_eq_true,decide_eq_true_eq]at hB
 obtain⟨⟨⟨⟨⟨⟨⟨aW,aX⟩,aS⟩,hn⟩,hs⟩,hc⟩,aT⟩,hB⟩:=hB
 refine wp_region_any hm ?_
 have al:∀i,(Array.replicate l.toArray.size false).getD i false=false:=fun i=>getD_replicate_false _ _
 have hinv:HeadInv .any l.toArray n (Array.replicate l.toArray.size false):=⟨by simp,(fun j oj _ hl=>by rw[al]at hl;cases hl),(fun t _ ht=>by simp at ht;simp[ht])⟩
 have key:=LG (P:=P) (Q:=Q) (T:=T) (U:=U) (F:=F) (fun i hi=>of_decide_eq_true (List.all_eq_true.1 aW i hi)) hn hs (fun i hi=>List.all_eq_true.1 aX i hi) aS hF hc aT hB ad (fun gv a w inv aY aZ=>by
  have ha:a=Pv ((l.take n).map (·.dst)) (fun d=>a.eval (.tmp d)) a0:=by
   have aU:=hB;simp only[PL,Bool.and_eq_true,decide_eq_true_eq]at aU;have ht:a.tmps=(Pv ((l.take n).map (·.dst)) (fun d=>a.eval (.tmp d)) a0).tmps:=by
    apply Array.ext_getElem?;intro s;by_cases hs:some s∈(l.take n).map (·.dst)
    ·obtain⟨o,ho,hd⟩:=List.mem_map.1 hs;have h1:=List.all_eq_true.1 aU.1.2 o (List.mem_of_mem_take ho);simp only[hd,decide_eq_true_eq]at h1;rw[rJ _ _ _ s (.inl hs) h1];have h2:s<a.tmps.size:=by rw[inv.tmps];exact h1
     simp[Act.eval,h2]
    ·rw[rK _ _ _ s hs];refine inv.off s (fun j d hl hd e=>hs ?_);cases hj:l[j]? with
     |none=>rw[hj]at hd;cases hd
     |some y=>
      have a1:j<l.length:=(List.getElem?_eq_some_iff.1 hj).1;have a2:j<n:=by
       rcases Nat.lt_or_ge j n with g|g
       ·exact g
       ·have:=getD_both (aZ j g a1);rw[hl]at this;cases this
      rw[hj]at hd;exact List.mem_map.2 ⟨y,List.mem_of_getElem? (i:=j) (by rw[List.getElem?_take_of_lt a2];exact hj),by rw[<-e];simpa using hd⟩
   have aV:a.defers=(Pv ((l.take n).map (·.dst)) (fun d=>a.eval (.tmp d)) a0).defers:=by rw[rI];exact inv.defers
   cases a with
   |mk t df=>
    generalize hp:Pv ((l.take n).map (·.dst)) (fun d=>(Act.mk t df).eval (.tmp d)) a0=p at*;cases p with
    |mk t2 a3=>simp only at ht aV;rw[ht,aV]
  rw[ha];refine av _ w inv.below fun j d hd=>?_
  rcases Nat.lt_or_ge j n with g|g
  ·rw[List.getElem?_take_of_lt g]at hd;exact inv.told j d (aY j g) hd
  ·rw[List.getElem?_eq_none (by rw[List.length_take];omega)]at hd;cases hd) n (Array.replicate l.toArray.size false) a0 w0.drew (by rw[List.filter_eq_self.2 (fun i _=>by rw[al];rfl)];simp) ⟨by simp,rfl,rfl,hU.drew,fun _ _=>rfl,fun j d h _=>by rw[al]at h;cases h⟩ hinv
 rw[show n+(l.length-n)=l.toArray.size by simp;omega]at key
 exact key
structure D2 (l:List aA) (T:Nat->ax->Prop) (a0:Act) (W0 W1:aq) (s:Nat) (gv:Array Bool) (a:Act) (w:aq):Prop where
 size:gv.size=l.length
 tmps:a.tmps.size=a0.tmps.size
 defers:a.defers=a0.defers
 off:∀t,(∀j d,gv.getD j false=true->(l[j]?).bind (·.dst)=some d->d≠t)->a.tmps[t]?=a0.tmps[t]?
 told:∀j d,gv.getD j false=true->(l[j]?).bind (·.dst)=some d->T j (a.eval (.tmp d))
 closed:∀j oj,l[j]?=some oj->gv.getD j false=true->∀e∈oj.after,Region.binds .any e=true->gv.getD e.on false=true
 world:w=if gv.getD s false=true then W1 else W0
def vJ(P:az)(l:List aA)(T:Nat->ax->Prop)(a0:Act)(W0 W1:aq)(s k:Nat)(o:aA):Prop:=
 ∀(a:Act) (w:aq),(w=W0\/(w=W1/\k≠s/\Region.waitsFor .any l.toArray s k=false))->(∀t,nD l t=true->a.eval (.tmp t)=a0.eval (.tmp t))->(∀j d,Region.waitsFor .any l.toArray k j=true->(l[j]?).bind (·.dst)=some d->T j (a.eval (.tmp d)))->
  ∀(K:Act->aq->Prop) (Q:Exit->Act->aq->Prop),(∀v,T k v->K (a.put o.dst v) (if k=s then W1 else w))->if Region.wanted o (aM l.toArray a.tmps)=true then Oper.wp P o a w K Q else K (a.put o.dst undef) w
def lj(P:az)(l:List aA)(T:Nat->ax->Prop)(a0:Act)(W0 W1:aq)(s:Nat):Nat->List aA->Prop
 |_,[]=>True
 |k,o::r=>vJ P l T a0 W0 W1 s k o/\lj P l T a0 W0 W1 s (k+1) r
theorem lj.get{P:az}{l:List aA}{T:Nat->ax->Prop}{a0:Act}{W0 W1:aq}{s:Nat}:∀{r:List aA} {k:Nat},lj P l T a0 W0 W1 s k r->∀{j:Nat} {o:aA},r[j]?=some o->vJ P l T a0 W0 W1 s (k+j) o
 |[],_,_,_,_,h=>by cases h
 |_::_,k,hA,0,_,h=>by cases h;exact hA.1
 |_::r,k,hA,j+1,o,h=>by
  have:=lj.get (r:=r) hA.2 (j:=j) (by simpa using h);rw[show k+1+j=k+(j+1) by omega]at this;exact this
theorem LI{P:az}{Q:Exit->Act->aq->Prop}{a0:Act}{W0 W1:aq}{l:List aA}{T:Nat->ax->Prop}{s:Nat}(hs:s<l.length)(hB:PL l a0.tmps.size=true)(aW:lj P l T a0 W0 W1 s 0 l)
  (aV:∀gv a w,D2 l T a0 W0 W1 s gv a w->(∀i,i<l.length->gv.getD i false=true)->Q .normal a w):
  ∀(f:Nat) (gv:Array Bool) (a:Act) (w:aq),((List.range l.length).filter fun i=> !gv.getD i false).length=f->D2 l T a0 W0 W1 s gv a w->wpAny P .any l.toArray Q f gv a w:=by
 have a1:=hB
 simp only[PL,Bool.and_eq_true,decide_eq_true_eq]at a1
 obtain⟨⟨a9,bd⟩,a2⟩:=a1
 have a3:∀(gv:Array Bool),gv.size=l.length->Region.ready .any l.toArray gv=[]->∀i,i<l.length->gv.getD i false=true:=fun gv bl hr i=>by
  induction i using Nat.strongRecOn with
  |_ i ih=>
   intro hi;cases hu:gv.getD i false with
   |true=>rfl
   |false=>
    exfalso;have h1:=List.all_eq_true.1 a2 i (List.mem_range.2 hi);have bf:l[i]?=some l[i]:=List.getElem?_eq_getElem hi;simp only[bf]at h1;have:i∈Region.ready .any l.toArray gv:=mem_ready.2 ⟨getD_in (by omega) hu,l[i],by simp[hi],fun e he hb=>by
     have h2:=Array.all_eq_true_iff_forall_mem.1 h1 e he;simp only[hb,Bool.not_true,Bool.false_or,decide_eq_true_eq]at h2;exact ih e.on h2 (by omega)⟩
    rw[hr]at this;cases this
 intro f
 induction f with
 |zero=>
  intro gv a w hf inv;have a4:∀i,i<l.length->gv.getD i false=true:=fun i hi=>by
   have h0:=List.length_eq_zero_iff.1 hf;have h1:=List.filter_eq_nil_iff.1 h0 i (List.mem_range.2 hi);simpa using h1
  refine⟨?_,aV gv a w inv a4⟩;apply List.eq_nil_iff_forall_not_mem.2;intro i hi;obtain⟨h0,o,ho,_⟩:=mem_ready.1 hi;have av:i<l.length:=by have:=(Array.getElem?_eq_some_iff.1 ho).1;simpa using this
  have h1:=a4 i av;rw[getD_both h0]at h1;cases h1
 |succ f ih=>
  intro gv a w hf inv;refine⟨fun h0=>aV gv a w inv (a3 gv inv.size h0),fun k hk=>?_⟩;obtain⟨h0,o,ho,al⟩:=mem_ready.1 hk;have ad:l[k]?=some o:=by simpa using ho
  have av:k<l.length:=(List.getElem?_eq_some_iff.1 ad).1;have bg:vJ P l T a0 W0 W1 s k o:=by have:=aW.get ad;rwa[Nat.zero_add]at this
  have aX:∀t,nD l t=true->a.eval (.tmp t)=a0.eval (.tmp t):=fun t ht=>by
   show a.tmps.getD t undef=a0.tmps.getD t undef
   rw[Array.getD_eq_getD_getElem?,Array.getD_eq_getD_getElem?,inv.off t (fun _ _ _ hd=>rL ht hd)]
  have aT:∀j d,Region.waitsFor .any l.toArray k j=true->(l[j]?).bind (·.dst)=some d->T j (a.eval (.tmp d)):=fun j d hw hd=>by
   obtain⟨ok,a5,e,he,hb,aY⟩:=Region.waitsFor_spec hw;rw[ho]at a5;cases a5;exact inv.told j d (by have:=al e he hb;rwa[aY]at this) hd
  have a6:∀d,o.dst=some d->d<a.tmps.size:=fun d hd=>by
   have h1:=List.all_eq_true.1 bd o (List.mem_of_getElem? ad);simp only[hd,decide_eq_true_eq]at h1;rw[inv.tmps];exact h1
  have a7:w=W0\/(w=W1/\k≠s/\Region.waitsFor .any l.toArray s k=false):=by
   cases aS:gv.getD s false with
   |false=>left;have:=inv.world;rw[aS]at this;simpa using this
   |true=>
    right;refine⟨by have:=inv.world;rw[aS]at this;simpa using this,fun e=>?_,?_⟩
    ·subst e;rw[getD_both h0]at aS;cases aS
    ·cases hw:Region.waitsFor .any l.toArray s k with
     |false=>rfl
     |true=>
      exfalso;obtain⟨os,bj,e,he,hb,aY⟩:=Region.waitsFor_spec hw;have:=inv.closed s os (by simpa using bj) aS e he hb;rw[aY,getD_both h0]at this;cases this
  have aZ:=bg a w a7 aX aT (wpAny P .any l.toArray Q f (gv.setIfInBounds k true)) Q (fun v hv=>by
   refine ih _ _ _ ?_ ⟨by simp[inv.size],?_,?_,fun t ht=>?_,fun j d hl hd=>?_,fun j oj hj hl e he hb=>?_,?_⟩
   ·have bk:((List.range l.length).filter fun i=> !(gv.setIfInBounds k true).getD i false)=((List.range l.length).filter fun i=> !gv.getD i false).erase k:=by
     rw[List.Nodup.erase_eq_filter (List.nodup_range.filter _),List.filter_filter];apply List.filter_congr;intro x hx;by_cases e:x=k
     ·subst e;have:x<gv.size:=by rw[inv.size];exact av
      simp[this]
     ·rw[getD_set_ne false (Ne.symm e)];simp[e]
    rw[bk,List.length_erase_of_mem (List.mem_filter.2 ⟨List.mem_range.2 av,by rw[getD_both h0];rfl⟩),hf];rfl
   ·unfold Act.put;cases o.dst<;>simp[inv.tmps]
   ·unfold Act.put;cases o.dst<;>exact inv.defers
   ·rw[<-inv.off t (fun j d hl hd=>ht j d (getD_set_true hl) hd)];unfold Act.put;cases hd:o.dst with
    |none=>rfl
    |some d=>
     have e:d≠t:=ht k d (by have:k<gv.size:=(by rw[inv.size];exact av);simp[this]) (by rw[ad];simpa using hd);simp[Array.getElem?_setIfInBounds_ne e]
   ·by_cases e:j=k
    ·subst e;rw[ad]at hd;have aU:o.dst=some d:=by simpa using hd
     have a8:=a6 d aU;have he:(a.put o.dst v).eval (.tmp d)=v:=by rw[aU];simp[Act.put,Act.eval,a8]
     rw[he];exact hv
    ·rw[getD_set_ne false (Ne.symm e)]at hl;have h1:=inv.told j d hl hd;have he:(a.put o.dst v).eval (.tmp d)=a.eval (.tmp d):=Act.eval_put fun d' aU hx=>by
      cases hx
      cases hj:l[j]? with
      |none=>rw[hj]at hd;cases hd
      |some y=>
       rw[hj]at hd;exact e (rM a9 hj ad (by simpa using hd) aU)
     rw[he];exact h1
   ·by_cases e':j=k
    ·subst e';rw[ad]at hj;cases hj;exact getD_set_true (al e he hb)
    ·rw[getD_set_ne false (Ne.symm e')]at hl;exact getD_set_true (inv.closed j oj hj hl e he hb)
   ·by_cases e:k=s
    ·subst e;have:k<gv.size:=by rw[inv.size];exact av
     rw[if_pos rfl];simp[this]
    ·rw[if_neg e,getD_set_ne false e];exact inv.world)
  unfold wpOp;simp only[ho];split at aZ
  ·rename_i hw;rw[if_pos hw];exact .inl aZ
  ·rename_i hw;rw[if_neg hw];exact aZ
theorem LJ{P:az}{id:Nat}{Q:Exit->Act->aq->Prop}{a0:Act}{w0:aq}{l:List aA}(s:Nat)(T:Nat->ax->Prop)(W1:aq)(hm:P.follows .mixedOrders=true)(hs:(decide (s<l.length)&&PL l a0.tmps.size)=true)
  (al:lj P l T a0 w0.drew W1 s 0 l)
  (av:∀(vals:Tmp->ax),(∀j d,(l[j]?).bind (·.dst)=some d->T j (vals d))->Q .normal (Pv (l.map (·.dst)) vals a0) W1):(Code.region id l.toArray true).wp P Q a0 w0:=by
 simp only[Bool.and_eq_true,decide_eq_true_eq]at hs
 obtain⟨aS,hB⟩:=hs
 refine wp_region_any hm ?_
 have ad:∀i,(Array.replicate l.toArray.size false).getD i false=false:=fun i=>getD_replicate_false _ _
 refine LI (T:=T) aS hB al (fun gv a w inv aT=>?_) l.toArray.size _ _ _ ?_ ⟨by simp,rfl,rfl,fun _ _=>rfl,(fun j d h _=>by rw[ad]at h;cases h),(fun j oj _ h=>by rw[ad]at h;cases h),by rw[ad];rfl⟩
 ·have ha:a=Pv (l.map (·.dst)) (fun d=>a.eval (.tmp d)) a0:=by
   have ht:a.tmps=(Pv (l.map (·.dst)) (fun d=>a.eval (.tmp d)) a0).tmps:=by
    apply Array.ext_getElem?;intro t;by_cases ht:some t∈l.map (·.dst)
    ·obtain⟨o,ho,hd⟩:=List.mem_map.1 ht;simp only[PL,Bool.and_eq_true,decide_eq_true_eq]at hB;have h1:=List.all_eq_true.1 hB.1.2 o ho;simp only[hd,decide_eq_true_eq]at h1;rw[rJ _ _ _ t (.inl ht) h1];have h2:t<a.tmps.size:=by rw[inv.tmps];exact h1
     simp[Act.eval,h2]
    ·rw[rK _ _ _ t ht];refine inv.off t (fun j d _ hd e=>ht ?_);cases hj:l[j]? with
     |none=>rw[hj]at hd;cases hd
     |some y=>
      rw[hj]at hd;exact List.mem_map.2 ⟨y,List.mem_of_getElem? hj,by rw[<-e];simpa using hd⟩
   have aU:a.defers=(Pv (l.map (·.dst)) (fun d=>a.eval (.tmp d)) a0).defers:=by rw[rI];exact inv.defers
   cases a with
   |mk t df=>
    generalize hp:Pv (l.map (·.dst)) (fun d=>(Act.mk t df).eval (.tmp d)) a0=p at*;cases p with
    |mk t2 aV=>simp only at ht aU;rw[ht,aU]
  have hw:=inv.world;rw[if_pos (aT s aS)]at hw;rw[ha,hw];refine av _ fun j d hd=>?_
  refine inv.told j d (aT j ?_) hd;cases hj:l[j]? with
  |none=>rw[hj]at hd;cases hd
  |some _=>exact(List.getElem?_eq_some_iff.1 hj).1
 ·rw[List.filter_eq_self.2 (fun i _=>by rw[ad];rfl)];simp
theorem pK{P:az}{l:List aA}{o:aA}{a:Act}{w W1:aq}{s k:Nat}{T:ax->Prop}{K:Act->aq->Prop}{Q:Exit->Act->aq->Prop}{E:Prop}(ad:k≠s)(hw:Region.wanted o (aM l.toArray a.tmps)=true)(v:ax)
  (hr:(execOp a.eval o).run P w=.ok (.value v) w) (hK:∀v,T v->K (a.put o.dst v) (if k=s then W1 else w)) (hT:T v):if Region.wanted o (aM l.toArray a.tmps)=true then Oper.wp P o a w K Q else E:=by
 rw[if_pos hw]
 unfold Oper.wp
 rw[hr]
 have:=hK v hT
 rw[if_neg ad]at this
 exact this
theorem LK{P:az}{l:List aA}{o:aA}{a:Act}{w W1:aq}{s:Nat}{T:ax->Prop}{K:Act->aq->Prop}{Q:Exit->Act->aq->Prop}{E:Prop}(hw:Region.wanted o (aM l.toArray a.tmps)=true)(_:o.dst=none)
  (hr:(execOp a.eval o).run P w=.ok .skip W1) (hK:∀v,T v->K (a.put o.dst v) (if s=s then W1 else w)) (hT:T undef):if Region.wanted o (aM l.toArray a.tmps)=true then Oper.wp P o a w K Q else E:=by
 rw[if_pos hw]
 unfold Oper.wp
 rw[hr]
 have:=hK undef hT
 rw[if_pos rfl]at this
 exact this
theorem lj.nil{P:az}{l:List aA}{T:Nat->ax->Prop}{a0:Act}{W0 W1:aq}{s k:Nat}:lj P l T a0 W0 W1 s k []:=trivial
theorem lj.cons{P:az}{l:List aA}{T:Nat->ax->Prop}{a0:Act}{W0 W1:aq}{s k:Nat}{o:aA}{r:List aA}(h:vJ P l T a0 W0 W1 s k o)(hr:lj P l T a0 W0 W1 s (k+1) r):lj P l T a0 W0 W1 s k (o::r):=⟨h,hr⟩
def LL(L:List (ax->Prop))(k:Nat):ax->Prop:=(L[k]?).getD fun _=>True
theorem lv.yI{cs:Array ax}(h:lv cs)(i:Nat)(A:Option au)(n c:Nat):lv (cs.setIfInBounds i (af A n c)):=fun j x e=>by
 by_cases hj:i=j
 ·subst hj;rcases Nat.lt_or_ge i cs.size with hi|hi
  ·simp[hi]at e
  ·rw[Array.getElem?_eq_none (by simpa using hi)]at e;cases e
 ·rw[Array.getElem?_setIfInBounds_ne hj]at e;exact h j x e
theorem LM{w:aq}{base n c:Nat}{A:Option au}{xs:List ax}(h:w.ownsRow base 5 1 (af A n c) n xs)(h0:0<n):∃(g o:Nat) (cur:Array ax),A=some ⟨g,o,none⟩/\base<=g/\w.heap[g]?=some (ak cur 5 (0,0)):=by
 rcases h.2 with⟨_,hv⟩|⟨g,cap,cur,hv,hg,hh,_⟩
 ·omega
 ·injection hv with h1 h2 h3
  exact⟨g,0,cur,h1,hg,hh⟩
theorem D3(w:aq)(B g:Nat)(p:gF)(out:List Nat)(Ah:Option au)(hc:Nat)(Aw:Option au)(wc:Nat)(Ap:Option au)(pc:Nat)(Ao:Option au)(oc:Nat)(U:gQ w B g p out Ah hc Aw wc Ap pc Ao oc)(a7:p.hist.length<=2000000)(a8:p.wait.length<=2000000)(a9:p.gm.length<=2000000):
  aw prog 49 #[ag (some ⟨g,0,none⟩)] w fun e w'=>∃A1 c1 A2 c2 A3 c3,e=ao (.tuple #[ah (gI p A1 c1 A2 c2 A3 c3),af Ao out.length oc,ae aj 0])/\gU w' w'.heap.size p A1 c1 A2 c2 A3 c3/\gu w' w'.heap.size Ao out.length oc (gj out)/\aR B w w'/\kG w' B A1 p.hist.length/\kG w' B A2 p.wait.length:=by
 obtain⟨h,hh⟩:=fY (w.heap.size)
 obtain⟨K,hk⟩:∃K:Int,p.k=K:=⟨_,rfl⟩
 obtain⟨Z,hZ⟩:=fY (gI (lX 0 0 0 false) none 0 none 0 none 0)
 have hz:=(zero_of_info oC).1
 rw[<-hZ]at hz
 obtain⟨W1,aV⟩:=fY (w.alloc (ak Z 32))
 have b1:aR h w W1:=by rw[aV,hh];exact gC.alloc fZ _
 have z1:gi W1 h Z 32:=by rw[aV,hh];exact gi.new w _ _
 have U1:=U.below (hh▸b1)
 have bC:g<h:=by rw[hh];exact U.lt
 have CL:∀{A:Option au} {n c:Nat} {f:Nat->Nat} (V:aq),h<=V.heap.size->gu V V.heap.size A n c f->n<=2000000->aw prog 63 #[af A n c] V fun e w'=>∃A' c',e=ao (af A' n c')/\w'.ownsRow h 5 1 (af A' n c') n (gD n f)/\aR V.heap.size V w':=fun{A n c f} V hV r hn=>
  (DS V A n c f r hn).mono fun e w' ⟨A',c',h1,h2,h3⟩=>⟨A',c',h1,s9 h2 hV,h3⟩
 have aY:h<W1.heap.size:=z1.lt
 have CH:aQ (∀V,aR W1.heap.size W1 V->aw prog 63 #[af Ah p.hist.length hc] V fun e w'=>∃A' c',e=ao (af A' p.hist.length c')/\w'.ownsRow h 5 1 (af A' p.hist.length c') p.hist.length (gD p.hist.length (gj p.hist))/\aR V.heap.size V w'):=fX fun V hV=>CL V (by have:=hV.size;omega) (U1.below hV).hist a7
 have CW:aQ (∀V,aR W1.heap.size W1 V->aw prog 63 #[af Aw p.wait.length wc] V fun e w'=>∃A' c',e=ao (af A' p.wait.length c')/\w'.ownsRow h 5 1 (af A' p.wait.length c') p.wait.length (gD p.wait.length (gj p.wait))/\aR V.heap.size V w'):=fX fun V hV=>CL V (by have:=hV.size;omega) (U1.below hV).wait a8
 have CP:aQ (∀V,aR W1.heap.size W1 V->aw prog 63 #[af Ap p.gm.length pc] V fun e w'=>∃A' c',e=ao (af A' p.gm.length c')/\w'.ownsRow h 5 1 (af A' p.gm.length c') p.gm.length (gD p.gm.length (gj p.gm))/\aR V.heap.size V w'):=fX fun V hV=>CL V (by have:=hV.size;omega) (U1.below hV).gm a9
 obtain⟨hn,aS⟩:=fY (p.hist.length)
 obtain⟨wn,aT⟩:=fY (p.wait.length)
 obtain⟨pn,av⟩:=fY (p.gm.length)
 obtain⟨on,aW⟩:=fY (out.length)
 have eX:jB p Ah hc Aw wc Ap pc Ao out.length oc=#[ae aj p.s,ae aj p.h,ae aj p.m,ai p.z,af Ah hn hc,af Aw wn wc,af Ap pn pc,ae aj K,ai p.gO,(af Ao on oc)]:=by
  unfold jB;rw[<-aS,<-aT,<-av,hk,<-aW]
 have hx:=U1.box
 rw[eX]at hx
 rw[<-aS]at CH;rw[<-aT]at CW;rw[<-av]at CP
 have bd:aQ (∀(V:aq) (A1:Option au) (c1:Nat) (A2:Option au) (c2:Nat) (A3:Option au) (c3:Nat),aR W1.heap.size W1 V->V.ownsRow h 5 1 (af A1 hn c1) hn (gD hn (gj p.hist))->V.ownsRow h 5 1 (af A2 wn c2) wn (gD wn (gj p.wait))->V.ownsRow h 5 1 (af A3 pn c3) pn (gD pn (gj p.gm))->True):=fX fun _ _ _ _ _ _ _ _ _ _ _=>trivial
 have HX:=fX hx;have bD:=fX aV;have HH:=fX hh;have bf:=fX z1;have a1:=fX aY;have bE:=fX b1;have bF:=fX U1;have al:=fX (And.intro U.le bC);have bg:=fX aS;have bj:=fX aT;have bk:=fX av;have bG:=fX aW;have bH:=fX hk;have bl:=fX hZ;have a2:aQ (lv #[ae aj p.s,ae aj p.h,ae aj p.m,ai p.z,af Ah hn hc,af Aw wn wc,af Ap pn pc,ae aj K,ai p.gO,af Ao on oc]):=fX (eX▸vG _ _ _ _ _ _ _ _ _ _);have a3:=fX (And.intro (kh U.hist) (And.intro (kh U.wait) (kh U.gm)))
 rw[<-aS,<-aT,<-aW]
 clear aS aT av aW U aV b1 z1 U1 CL aY hx eX hZ hk a7 a8 a9 hh bd
 go_enter func49,ntmps49
 go_wp2_with (first|(rw[<-bD.out,<-HH.out])|fail)
 refine D1 25 [1,2] (mG [fun v _=>v=ag (some ⟨g,0,none⟩),fun v _=>v=ag (some ⟨g,0,none⟩),fun v _=>v=ag (some ⟨g,0,none⟩),fun v _=>v=ag (some ⟨g,0,none⟩),fun v _=>v=ag (some ⟨g,0,none⟩),fun v _=>v=ag (some ⟨g,0,none⟩),fun v _=>v=ag (some ⟨g,4,none⟩),fun v _=>v=af Ah hn hc,fun v W=>∃A' c',v=af A' hn c'/\W.ownsRow h 5 1 (af A' hn c') hn (gD hn (gj p.hist)),fun v _=>v=ag (some ⟨g,0,none⟩),fun v _=>v=ag (some ⟨g,0,none⟩),fun v _=>v=ag (some ⟨g,0,none⟩),fun v _=>v=ag (some ⟨g,5,none⟩),fun v _=>v=af Aw wn wc,fun v W=>∃A' c',v=af A' wn c'/\W.ownsRow h 5 1 (af A' wn c') wn (gD wn (gj p.wait)),fun v _=>v=ag (some ⟨g,0,none⟩),fun v _=>v=ag (some ⟨g,0,none⟩),fun v _=>v=ag (some ⟨g,0,none⟩),fun v _=>v=ag (some ⟨g,6,none⟩),fun v _=>v=ag (some ⟨g,6,none⟩),fun v _=>v=af Ap pn pc,fun v W=>∃A' c',v=af A' pn c'/\W.ownsRow h 5 1 (af A' pn c') pn (gD pn (gj p.gm)),fun v _=>v=ag (some ⟨g,0,none⟩),fun v _=>v=ag (some ⟨g,0,none⟩),fun v _=>v=ag (some ⟨g,4,none⟩)]) W1 gC (by kernel_rfl) (by kernel_rfl) (List.forall_mem_cons.2 ⟨⟨_,_,rfl,rfl,rfl,(fun _ _ _ _ h=>h),fun aa wv hb ha hS=>⟨_,vI _ rfl _ ((ha 0 (by kernel_rfl)).trans rfl),gx rfl⟩⟩,(List.forall_mem_cons.2 ⟨⟨_,_,rfl,rfl,rfl,(fun _ _ _ _ h=>h),fun aa wv hb ha hS=>⟨_,vI _ rfl _ ((ha 0 (by kernel_rfl)).trans rfl),gx rfl⟩⟩,(fun _ h=>by cases h)⟩)⟩) ?_ ?_
 case refine_1=>
  simp only[List.take_succ_cons,List.take_zero];refine gl.cons (fun aa wv hb ha hS Kk Qq hK=>gY (gp rfl) _ rfl (gx ((ha 0 (by kernel_rfl)).trans rfl)) hK) ?_;refine gl.cons (fun aa wv hb ha hS Kk Qq hK=>gY (gp rfl) _ rfl (gx ((ha 0 (by kernel_rfl)).trans rfl)) hK) ?_;refine gl.cons (fun aa wv hb ha hS Kk Qq hK=>gY (gp rfl) _ rfl (gx ((ha 0 (by kernel_rfl)).trans rfl)) hK) ?_;refine gl.cons (fun aa wv hb ha hS Kk Qq hK=>gY (gp rfl) _ rfl (gx ((ha 0 (by kernel_rfl)).trans rfl)) hK) ?_;refine gl.cons (fun aa wv hb ha hS Kk Qq hK=>lG (gp rfl) _ rfl _ (hS 3 8 (by kernel_rfl) rfl).here (gx rfl) hK) ?_;refine gl.cons (fun aa wv hb ha hS Kk Qq hK=>gZ (gp rfl) _ _ _ rfl _ (ag (some ⟨g,0,none⟩)) (hS 4 9 (by kernel_rfl) rfl).here (by go_simp) (gx rfl) hK) ?_;refine gl.cons (fun aa wv hb ha hS Kk Qq hK=>gZ (gp rfl) _ _ _ rfl _ (ag (some ⟨g,4,none⟩)) (hS 5 10 (by kernel_rfl) rfl).here (by go_simp) (gx rfl) hK) ?_;refine gl.cons (fun aa wv hb ha hS Kk Qq hK=>la (gp rfl) _ _ rfl _ (af Ah hn hc) (hS 6 11 (by kernel_rfl) rfl).here (by have hc:=jd (HX.out.below hb HX.out.lt);go_simp) (gx rfl) hK) ?_;refine gl.cons (fun aa wv hb ha hS Kk Qq hK=>lZ (gp rfl) 63 _ _ rfl (enters_of func63 (by kernel_rfl) rfl) #[af Ah hn hc] (by simp[(show aa.eval (.tmp 12)=af Ah hn hc from(hS 7 12 (by kernel_rfl) rfl).here)]) (CH.out wv hb) (fun ee w' ⟨A',c',h1,h2,h3⟩=>⟨_,h1,h3,fun W hW=>⟨_,_,rfl,uZ h2 hW⟩⟩) hK) ?_;refine gl.cons (fun aa wv hb ha hS Kk Qq hK=>gY (gp rfl) _ rfl (gx ((ha 0 (by kernel_rfl)).trans rfl)) hK) ?_;refine gl.cons (fun aa wv hb ha hS Kk Qq hK=>lG (gp rfl) _ rfl _ (hS 9 14 (by kernel_rfl) rfl).here (gx rfl) hK) ?_;refine gl.cons (fun aa wv hb ha hS Kk Qq hK=>gZ (gp rfl) _ _ _ rfl _ (ag (some ⟨g,0,none⟩)) (hS 10 15 (by kernel_rfl) rfl).here (by go_simp) (gx rfl) hK) ?_;refine gl.cons (fun aa wv hb ha hS Kk Qq hK=>gZ (gp rfl) _ _ _ rfl _ (ag (some ⟨g,5,none⟩)) (hS 11 16 (by kernel_rfl) rfl).here (by go_simp) (gx rfl) hK) ?_;refine gl.cons (fun aa wv hb ha hS Kk Qq hK=>la (gp rfl) _ _ rfl _ (af Aw wn wc) (hS 12 17 (by kernel_rfl) rfl).here (by have hc:=iX (HX.out.below hb HX.out.lt);go_simp) (gx rfl) hK) ?_;refine gl.cons (fun aa wv hb ha hS Kk Qq hK=>lZ (gp rfl) 63 _ _ rfl (enters_of func63 (by kernel_rfl) rfl) #[af Aw wn wc] (by simp[(show aa.eval (.tmp 18)=af Aw wn wc from(hS 13 18 (by kernel_rfl) rfl).here)]) (CW.out wv hb) (fun ee w' ⟨A',c',h1,h2,h3⟩=>⟨_,h1,h3,fun W hW=>⟨_,_,rfl,uZ h2 hW⟩⟩) hK) ?_;refine gl.cons (fun aa wv hb ha hS Kk Qq hK=>gY (gp rfl) _ rfl (gx ((ha 0 (by kernel_rfl)).trans rfl)) hK) ?_;refine gl.cons (fun aa wv hb ha hS Kk Qq hK=>lG (gp rfl) _ rfl _ (hS 15 20 (by kernel_rfl) rfl).here (gx rfl) hK) ?_;refine gl.cons (fun aa wv hb ha hS Kk Qq hK=>gZ (gp rfl) _ _ _ rfl _ (ag (some ⟨g,0,none⟩)) (hS 16 21 (by kernel_rfl) rfl).here (by go_simp) (gx rfl) hK) ?_;refine gl.cons (fun aa wv hb ha hS Kk Qq hK=>gZ (gp rfl) _ _ _ rfl _ (ag (some ⟨g,6,none⟩)) (hS 17 22 (by kernel_rfl) rfl).here (by go_simp) (gx rfl) hK) ?_;refine gl.cons (fun aa wv hb ha hS Kk Qq hK=>gZ (gp rfl) _ _ _ rfl _ (ag (some ⟨g,6,none⟩)) (hS 18 23 (by kernel_rfl) rfl).here (by go_simp) (gx rfl) hK) ?_;refine gl.cons (fun aa wv hb ha hS Kk Qq hK=>la (gp rfl) _ _ rfl _ (af Ap pn pc) (hS 19 24 (by kernel_rfl) rfl).here (by have hc:=jf (HX.out.below hb HX.out.lt);go_simp) (gx rfl) hK) ?_;refine gl.cons (fun aa wv hb ha hS Kk Qq hK=>lZ (gp rfl) 63 _ _ rfl (enters_of func63 (by kernel_rfl) rfl) #[af Ap pn pc] (by simp[(show aa.eval (.tmp 25)=af Ap pn pc from(hS 20 25 (by kernel_rfl) rfl).here)]) (CP.out wv hb) (fun ee w' ⟨A',c',h1,h2,h3⟩=>⟨_,h1,h3,fun W hW=>⟨_,_,rfl,uZ h2 hW⟩⟩) hK) ?_;refine gl.cons (fun aa wv hb ha hS Kk Qq hK=>lG (gp rfl) _ rfl _ (hS 0 5 (by kernel_rfl) rfl).here (gx rfl) hK) ?_;refine gl.cons (fun aa wv hb ha hS Kk Qq hK=>gZ (gp rfl) _ _ _ rfl _ (ag (some ⟨g,0,none⟩)) (hS 22 27 (by kernel_rfl) rfl).here (by go_simp) (gx rfl) hK) ?_
  refine gl.cons (fun aa wv hb ha hS Kk Qq hK=>gZ (gp rfl) _ _ _ rfl _ (ag (some ⟨g,4,none⟩)) (hS 23 28 (by kernel_rfl) rfl).here (by go_simp) (gx rfl) hK) ?_;exact gl.nil
 intro vals w5 hb hv
 obtain⟨A1,c1,bm,o1⟩:=(hv 8 13 rfl).here
 obtain⟨A2,c2,bn,o2⟩:=(hv 14 19 rfl).here
 obtain⟨A3,c3,bp,o3⟩:=(hv 21 26 rfl).here
 have e6:vals 6=ag (some ⟨g,0,none⟩):=(hv 1 6 rfl).here
 have e7:vals 7=ag (some ⟨g,0,none⟩):=(hv 2 7 rfl).here
 have bq:vals 29=ag (some ⟨g,4,none⟩):=(hv 24 29 rfl).here
 have x5:=HX.out.below hb HX.out.lt
 have s4:=jd x5
 have s5:=iX x5
 have s6:=jf x5
 have f4:w5.frozen? ⟨g,4,none⟩=false:=x5.free
 have f5:w5.frozen? ⟨g,5,none⟩=false:=x5.free
 have f6:w5.frozen? ⟨g,6,none⟩=false:=x5.free
 obtain⟨W6,ad⟩:=fY (((w5.setCell ⟨g,4,none⟩ (af A1 hn c1)).setCell ⟨g,5,none⟩ (af A2 wn c2)).setCell ⟨g,6,none⟩ (af A3 pn c3))
 have a4:aQ (gi W6 g #[ae aj p.s,ae aj p.h,ae aj p.m,ai p.z,af A1 hn c1,af A2 wn c2,af A3 pn c3,ae aj K,ai p.gO,(af Ao on oc)] 62):=fX (by rw[ad];exact((x5.set 4 _).set 5 _).set 6 _)
 obtain⟨YP,aU⟩:=fY (gI p A1 c1 A2 c2 A3 c3)
 have br:YP=#[ae aj p.s,ae aj p.h,ae aj p.m,ai p.z,af A1 hn c1,af A2 wn c2,af A3 pn c3,ae aj K,ai p.gO]:=by rw[aU,bg.out,bj.out,bk.out,<-bH.out];rfl
 have aX:aQ (YP.size=9):=fX (by rw[aU];rfl)
 have bI:aQ (YP.all (·.oneCell')=true):=fX (by rw[aU];exact lu ..)
 have bJ:aQ (Z.size=YP.size):=fX (by rw[aX.out,bl.out];rfl)
 have bK:aQ (∀V,gi V g #[ae aj p.s,ae aj p.h,ae aj p.m,ai p.z,af A1 hn c1,af A2 wn c2,af A3 pn c3,ae aj K,ai p.gO,af Ao on oc] 62->V.rangeAt g 0 YP.toList):=fX fun V hx i v hv=>by
  rw[hx.cell,Nat.zero_add];rw[br]at hv;rcases i with _|_|_|_|_|_|_|_|_|i<;>first|(simp at hv;done)|simpa using hv
 have bL:=a4.out
 have bt:gi W6 h Z 32:=by
  rw[ad];exact(((bf.out.below hb a1.out).other (by show h≠g;omega) _).other (by show h≠g;omega) _).other (by show h≠g;omega) _
 have a5:aQ (gi W6.drew h Z 32):=fX bt
 obtain⟨W8,bM⟩:=fY ((W6.drew).setRow h YP)
 have bN:aQ (gi ((W6.drew).setRow h YP) h YP 32):=fX (a5.out.row YP)
 have a6:=bF.out.below hb
 have bu:aR B w w5:=(bE.out.mono (by have:=al.out;omega)).trans (hb.mono (by have:=al.out;have:=a1.out;omega))
 have aZ:gu w5 w5.heap.size Ao on oc (gj out):=by have:=gu.gR a6.own (ky a6.bo);rwa[<-bG.out]at this
 have key:∀{A:Option au} {n c:Nat} {L:List Nat},gu w5 w5.heap.size A n c (gj L)->gu ((W6.drew).setRow h YP) ((W6.drew).setRow h YP).heap.size A n c (gj L):=fun{A n c L} r=>by
  have bO:W6.heap.size=w5.heap.size:=by rw[ad];simp[World.setCell]
  have r6:gu W6 W6.heap.size A n c (gj L):=by
   rw[bO,ad];have k1:=r.nV x5 a2.out 4 (af A1 hn c1);have k2:=k1.nV (x5.set 4 _) (a2.out.yI 4 _ _ _) 5 (af A2 wn c2);exact k2.nV ((x5.set 4 _).set 5 _) ((a2.out.yI 4 _ _ _).yI 5 _ _ _) 6 (af A3 pn c3)
  have r7:=r6.drew.pA a5.out (by rw[bl.out];exact pz _ _ _ _ _ _ _) YP;rw[size_setRow];exact r7
 have bx:aR B w ((W6.drew).setRow h YP):=jU (Below.drew (by rw[ad];exact jx (jx (jx bu al.out.1 _ _) al.out.1 _ _) al.out.1 _ _)) (by have:=al.out;omega) _
 have nb:∀{A:Option au} {n c:Nat} {L:List Nat},w5.ownsRow h 5 1 (af A n c) n (gD n (gj L))->kG ((W6.drew).setRow h YP) B A n:=fun{A n c L} o h0=>by
  obtain⟨gg,o',cur,e1,e2,e3⟩:=LM o h0;refine⟨gg,o',cur,e1,by have:=al.out;omega,?_⟩;have n1:gg≠h:=fun e=>by
   have h1:=bf.out.below hb a1.out;have h2:w5.heap[gg]?=some (ak Z 32 (0,0)):=by rw[e];exact h1
   rw[e3]at h2;injection h2 with h2
   injection h2 with _ h3 _
   exact absurd h3 (by decide)
  rw[setRow_other _ _ _ _ n1];show W6.heap[gg]?=_
  rw[ad];have n2:gg≠g:=by omega
  exact((Below.heap_setCell _ _ _ gg n2).trans ((Below.heap_setCell _ _ _ gg n2).trans (Below.heap_setCell _ _ _ gg n2))).trans e3
 have bz:aQ (∃A1 c1 A2 c2 A3 c3,Ending.returned (.tuple #[ah YP,af Ao on oc,ae aj 0])=ao (.tuple #[ah (gI p A1 c1 A2 c2 A3 c3),af Ao on oc,ae aj 0])/\gU ((W6.drew).setRow h YP) ((W6.drew).setRow h YP).heap.size p A1 c1 A2 c2 A3 c3/\gu ((W6.drew).setRow h YP) ((W6.drew).setRow h YP).heap.size Ao on oc (gj out)/\aR B w ((W6.drew).setRow h YP)/\kG ((W6.drew).setRow h YP) B A1 hn/\kG ((W6.drew).setRow h YP) B A2 wn):=fX (by
  have q1:=key (gu.gR o1 (ky a3.out.1));have q2:=key (gu.gR o2 (ky a3.out.2.1));have q3:=key (gu.gR o3 (ky a3.out.2.2))
  refine⟨A1,c1,A2,c2,A3,c3,by rw[aU],⟨?_,?_,?_⟩,key aZ,bx,nb o1,nb o2⟩
  ·rw[<-bg.out];exact q1
  ·rw[<-bj.out];exact q2
  ·rw[<-bk.out];exact q3)
 have bP:=fX ad
 clear x5 hb hv ad br aU bL bt bM W8 a6 bu aZ key bx nb o1 o2 o3
 simp only[List.take_succ_cons,List.take_zero,List.drop_succ_cons,List.drop_zero,List.map_cons,List.map_nil,Pv,Act.put,List.setIfInBounds_toArray,List.set_cons_zero,List.set_cons_succ,e6,e7,bm,bn,bp,bq]
 clear e6 e7 bm bn bp bq
 go_wp2_with (first|(rw[<-bP.out])|fail)
 have bA:aQ (gi (W6.drew) g #[ae aj p.s,ae aj p.h,ae aj p.m,ai p.z,af A1 hn c1,af A2 wn c2,af A3 pn c3,ae aj K,ai p.gO,af Ao on oc] 62):=fX a4.out
 have bB:aQ (gi ((W6.drew).setRow h YP) g #[ae aj p.s,ae aj p.h,ae aj p.m,ai p.z,af A1 hn c1,af A2 wn c2,af A3 pn c3,ae aj K,ai p.gO,af Ao on oc] 62):=fX (gi.xX a4.out (by omega) _)
 refine LJ 8 (LL [fun v=>v=ag (some ⟨g,0,none⟩),fun v=>v=ag (some ⟨g,0,none⟩),fun v=>v=ag (some ⟨g,0,none⟩),fun v=>v=ah YP,fun v=>v=ag (some ⟨g,0,none⟩),fun v=>v=ag (some ⟨g,0,none⟩),fun v=>v=ag (some ⟨g,9,none⟩),fun v=>v=af Ao on oc,fun v=>v=undef,fun v=>v=af Ao on oc,fun v=>v=ae aj 0]) ((W6.drew).setRow h YP) (by kernel_rfl) (by kernel_rfl) ?_ ?_
 case refine_1=>
  refine lj.cons (fun aa wv hw ha hS Kk Qq hK=>pK (k:=0) (s:=8) (by decide) (gp rfl) (ag (some ⟨g,0,none⟩)) (by have e:=(show aa.eval (.tmp 0)=ag (some ⟨g,0,none⟩)from((ha 0 (by kernel_rfl)).trans rfl));unfold execOp;simp only[e];rfl) hK rfl) ?_;refine lj.cons (fun aa wv hw ha hS Kk Qq hK=>pK (k:=1) (s:=8) (by decide) (gp rfl) (ag (some ⟨g,0,none⟩)) (by have e:=(show aa.eval (.tmp 37)=ag (some ⟨g,0,none⟩)from hS 0 37 (by kernel_rfl) rfl);unfold execOp;simp only[e];rfl) hK rfl) ?_;refine lj.cons (fun aa wv hw ha hS Kk Qq hK=>pK (k:=2) (s:=8) (by decide) (gp rfl) (ag (some ⟨g,0,none⟩)) (by have e:=(show aa.eval (.tmp 38)=ag (some ⟨g,0,none⟩)from hS 1 38 (by kernel_rfl) rfl);unfold execOp;simp only[e];go_simp) hK rfl) ?_;refine lj.cons (fun aa wv hw ha hS Kk Qq hK=>pK (k:=3) (s:=8) (by decide) (gp rfl) (ah YP) (by have e:=(show aa.eval (.tmp 39)=ag (some ⟨g,0,none⟩)from hS 2 39 (by kernel_rfl) rfl);have hx:gi wv g #[ae aj p.s,ae aj p.h,ae aj p.m,ai p.z,af A1 hn c1,af A2 wn c2,af A3 pn c3,ae aj K,ai p.gO,af Ao on oc] 62:=by {rcases hw with hw|⟨hw,_,_⟩<;>first|(rw[hw];exact bA.out)|(rw[hw];exact bB.out)};have hl:=run_loadVar_mid (P:=prog) wv g 0 32 YP.toList _ (bK.out wv hx) underlying32 rfl (by rw[Array.length_toList,aX.out];exact gM);unfold execOp;simp only[e,Instr.loadAt,Instr.sureAddr,Sem.run_bind,Sem.run_pure,Result.andThen_ok,hl]) hK rfl) ?_;refine lj.cons (fun aa wv hw ha hS Kk Qq hK=>pK (k:=4) (s:=8) (by decide) (gp rfl) (ag (some ⟨g,0,none⟩)) (by have e:=(show aa.eval (.tmp 0)=ag (some ⟨g,0,none⟩)from((ha 0 (by kernel_rfl)).trans rfl));unfold execOp;simp only[e];rfl) hK rfl) ?_;refine lj.cons (fun aa wv hw ha hS Kk Qq hK=>pK (k:=5) (s:=8) (by decide) (gp rfl) (ag (some ⟨g,0,none⟩)) (by have e:=(show aa.eval (.tmp 41)=ag (some ⟨g,0,none⟩)from hS 4 41 (by kernel_rfl) rfl);unfold execOp;simp only[e];rfl) hK rfl) ?_;refine lj.cons (fun aa wv hw ha hS Kk Qq hK=>pK (k:=6) (s:=8) (by decide) (gp rfl) (ag (some ⟨g,9,none⟩)) (by have e:=(show aa.eval (.tmp 42)=ag (some ⟨g,0,none⟩)from hS 5 42 (by kernel_rfl) rfl);unfold execOp;simp only[e];go_simp) hK rfl) ?_;refine lj.cons (fun aa wv hw ha hS Kk Qq hK=>pK (k:=7) (s:=8) (by decide) (gp rfl) (af Ao on oc) (by have e:=(show aa.eval (.tmp 43)=ag (some ⟨g,9,none⟩)from hS 6 43 (by kernel_rfl) rfl);have hx:gi wv g #[ae aj p.s,ae aj p.h,ae aj p.m,ai p.z,af A1 hn c1,af A2 wn c2,af A3 pn c3,ae aj K,ai p.gO,af Ao on oc] 62:=by {rcases hw with hw|⟨hw,_,_⟩<;>first|(rw[hw];exact bA.out)|(rw[hw];exact bB.out)};have hc:wv.cell? ⟨g,9,none⟩=some (af Ao on oc):=hx.cell.trans rfl;unfold execOp;simp only[e];go_simp) hK rfl) ?_;refine lj.cons (fun aa wv hw ha hS Kk Qq hK=>LK (s:=8) (gp rfl) rfl (by have e1:=(show aa.eval (.tmp 2)=ag (some ⟨h,0,none⟩)from((ha 2 (by kernel_rfl)).trans rfl));have e2:=(show aa.eval (.tmp 40)=ah YP from hS 3 40 (by kernel_rfl) rfl);have bQ:wv=W6.drew:=by {rcases hw with hw|⟨_,hw,_⟩<;>first|exact hw|exact absurd rfl hw};subst bQ;have bR:=run_storeVar_row (P:=prog) (W6.drew) h 32 32 Z YP a5.out (by rw[aX.out];exact gM) bJ.out bI.out;unfold execOp;simp only[e1,e2,Instr.storeAt,Instr.sureAddr,Sem.run_bind,Sem.run_pure,Result.andThen_ok,bR]) hK rfl) ?_;refine lj.cons (fun aa wv hw ha hS Kk Qq hK=>pK (k:=9) (s:=8) (by decide) (gp rfl) (af Ao on oc) (by have e:=(show aa.eval (.tmp 44)=af Ao on oc from hS 7 44 (by kernel_rfl) rfl);unfold execOp;simp only[e];rfl) hK rfl) ?_;refine lj.cons (fun aa wv hw ha hS Kk Qq hK=>pK (k:=10) (s:=8) (by decide) (gp rfl) (ae aj 0) (by unfold execOp;rfl) hK rfl) ?_;exact lj.nil
 intro vals hv
 have e3:vals 3=af Ao on oc:=hv 9 3 rfl
 have e4:vals 4=ae aj 0:=hv 10 4 rfl
 clear hv
 simp only[List.map_cons,List.map_nil,Pv,Act.put,List.setIfInBounds_toArray,List.set_cons_zero,List.set_cons_succ,e3,e4]
 clear e3 e4
 go_wp2
 refine aK (mY rfl _ _ h YP aX.out rfl bN.out) rfl ?_
 exact bz.out
theorem D4(w:aq)(B g:Nat)(p:gF)(out:List Nat)(Ah:Option au)(hc:Nat)(Aw:Option au)(wc:Nat)(Ap:Option au)(pc:Nat)(Ao:Option au)(oc:Nat)(U:gQ w B g p out Ah hc Aw wc Ap pc Ao oc)(K:Nat)(hk:p.k=(K:Int))(hK:K<=16000000)(bm:K/8<=p.gm.length)(bn:out.length<=100000000):
  aw prog 48 #[ag (some ⟨g,0,none⟩)] w fun e w'=>e=ao (.tuple #[])/\(∃bq br bt bu,gQ w' B g {p with gm:=p.gm.drop (K/8),k:=((K%8:Nat):Int)} (out++p.gm.take (K/8)) Ah hc Aw wc bq br bt bu)/\aR B w w':=by
 obtain⟨hn,aY⟩:=fY (p.hist.length)
 obtain⟨wn,aZ⟩:=fY (p.wait.length)
 obtain⟨pn,ad⟩:=fY (p.gm.length)
 obtain⟨on,av⟩:=fY (out.length)
 obtain⟨D,hD⟩:=fY (K/8)
 obtain⟨R,hR⟩:=fY (K%8)
 have aV:D<=pn:=by omega
 have a6:=U.gm.2.2.1
 rw[<-ad]at a6
 have bD:(D:Int)<=(pc:Int):=by omega
 have bE:D<=pc:=by omega
 have a7:B<=w.heap.size:=by have:=U.le;have:=U.lt;omega
 have eX:jB p Ah hc Aw wc Ap pc Ao out.length oc=#[ae aj p.s,ae aj p.h,ae aj p.m,ai p.z,af Ah hn hc,af Aw wn wc,af Ap pn pc,ae aj (K:Int),ai p.gO,af Ao on oc]:=by
  unfold jB;rw[<-aY,<-aZ,<-ad,hk,<-av]
 have hx:=U.box
 rw[eX]at hx
 have c6:=jf hx
 have c7:=iY hx
 have c9:w.cell? ⟨g,9,none⟩=some (af Ao on oc):=hx.cell.trans rfl
 have bp:=kh U.gm
 have aS:(out++p.gm.take D).length=on+D:=by rw[List.length_append,List.length_take,<-av,<-ad,Nat.min_eq_left aV]
 have a8:gu w w.heap.size Ap D pc (gj (p.gm.take D)):=by
  refine⟨⟨fun j=>ky (qM bp D) j,fun h0=>?_⟩,U.gm.2.1,by omega,U.gm.2.2.2⟩;obtain⟨b,o,e1,e2,e3⟩:=U.gm.1.2 (by omega);exact⟨b,o,e1,e2,fun j hj=>by rw[rH p.gm hj];exact e3 j (by omega)⟩
 have aU:=U.own
 rw[<-av]at aU
 obtain⟨A',c',w1,aX,a9,al,a1,bd⟩:=DV w.drew B Ao on oc (gj out) aU Ap D pc (gj (p.gm.take D)) (gj (out++p.gm.take D)) a8
  (fun j hj=>by rw[pY];unfold cat;rw[if_pos (by omega)]) (fun j hj=>by rw[pY];unfold cat;rw[if_neg (by omega),av,Nat.add_sub_cancel_left]) (by omega) a7
 have al:aR B w w1:=⟨al.os,al.tape,al.output,al.size,al.block⟩
 have a2:gi w1 g #[ae aj p.s,ae aj p.h,ae aj p.m,ai p.z,af Ah hn hc,af Aw wn wc,af Ap pn pc,ae aj (K:Int),ai p.gO,af Ao on oc] 62:=(a1 g U.lt (by have:=U.ne;rwa[<-av]at this)).trans hx
 have f9:w1.frozen? ⟨g,9,none⟩=false:=a2.free
 have d9:w1.cell? ⟨g,9,none⟩=some (af Ao on oc):=a2.cell.trans rfl
 have U1:gQ (w1.setCell ⟨g,9,none⟩ (af A' (on+D) c')) B g p (out++p.gm.take D) Ah hc Aw wc Ap pc A' c':=by
  have:=U.grown (w':=w1) (pI:=A') (pJ:=c') (more:=p.gm.take D) (qM bp D) (by rw[aS];exact a9) al.size (by rw[<-av];exact a1) (by rw[aS,<-av];exact bd);rwa[aS]at this
 obtain⟨W2,aW⟩:=fY (w1.setCell ⟨g,9,none⟩ (af A' (on+D) c'))
 rw[<-aW]at U1
 have bf:aR B w W2:=by rw[aW];exact jx al U.le _ _
 have a3:=U1.box
 have bg:jB p Ah hc Aw wc Ap pc A' (out++p.gm.take D).length c'=#[ae aj p.s,ae aj p.h,ae aj p.m,ai p.z,af Ah hn hc,af Aw wn wc,af Ap pn pc,ae aj (K:Int),ai p.gO,af A' (on+D) c']:=by
  unfold jB;rw[<-aY,<-aZ,<-ad,hk,aS]
 rw[bg]at a3
 obtain⟨A5,hA5⟩:∃A5,(if pc=D then Ap else Ap.map (·.add D))=A5:=⟨_,rfl⟩
 have RF:aQ (∀V,(Instr.sliceAt 22 (af Ap pn pc) (some (ae aj (D:Int))) none none).run prog V=.ok (af A5 (pn-D) (pc-D)) V):=fX fun V=>vh Ap A5 pn pc D aV hA5 V
 have bx:aQ (∀(V:aq),(binOp .rem 3 (ae aj (K:Int)) (ae aj 8)).run prog V=.ok (ae aj (R:Int)) V):=fX fun V=>by rw[hR];exact ya prog 3 aj K 8 (by omega) V
 have r3:gu W2 W2.heap.size A5 (pn-D) (pc-D) (gj (p.gm.drop D)):=by
  have:=U1.gm;rw[<-ad]at this;exact this.from aV hA5
 have n3:kj A5 (pn-D) (af A' (on+D) c'):=by
  have:=U1.np;rw[<-ad,aS]at this;exact this.from aV hA5 (by have:=U1.gm;rw[<-ad]at this;exact this.at)
 have UF:aQ (∀V,aR W2.heap.size W2 V->gQ ((V.setCell ⟨g,6,none⟩ (af A5 (pn-D) (pc-D))).setCell ⟨g,7,none⟩ (ae aj (R:Int))) B g {p with gm:=p.gm.drop D,k:=(R:Int)} (out++p.gm.take D) Ah hc Aw wc A5 (pc-D) A' c'/\aR B w ((V.setCell ⟨g,6,none⟩ (af A5 (pn-D) (pc-D))).setCell ⟨g,7,none⟩ (ae aj (R:Int)))):=fX fun V hV=>by
  have UV:=U1.below hV;have a4:(p.gm.drop D).length=pn-D:=by rw[List.length_drop,<-ad]
  refine⟨UV.vH (p':={p with gm:=p.gm.drop D,k:=(R:Int)}) 6 7 _ _ (by unfold jB;simp only[a4];rfl) UV.row UV.wait (by show gu V _ A5 (p.gm.drop D).length _ _;rw[a4];exact(r3.below hV fZ).more hV.size) UV.nr UV.nw (by show kj A5 (p.gm.drop D).length _;rw[a4,aS];exact n3),jx (jx (bf.trans (hV.mono (by have:=U.le;have:=U1.lt;omega))) U.le _ _) U.le _ _⟩
 have aT:aQ (gi W2 g #[ae aj p.s,ae aj p.h,ae aj p.m,ai p.z,af Ah hn hc,af Aw wn wc,af Ap pn pc,ae aj (K:Int),ai p.gO,af A' (on+D) c'] 62):=fX a3
 have bj:=fX aX;have bz:=fX aW;have HR:=fX hR;have bF:=fX hD
 have e8:(K:Int)/8=(D:Int):=by omega
 have bG:IntKind.i64.wrap ((K:Int)/8)=(D:Int):=by rw[e8];exact wrap_i64 D (by omega)
 have bH:wrap64 (D:Int)=(D:Int):=by unfold wrap64;omega
 rw[<-hD,<-hR]
 clear U U1 hk hK bm bn aY aZ ad av hD hR a6 a7 eX hx bp aS a8 aU a9 al a1 bd a2 aW bf a3 bg hA5 r3 n3 aX e8
 go_enter func48,ntmps48
 go_wp2
 go_region_law ((refine sh rfl (.tmp 14) (.tmp 22) 22 22 rfl (af Ao on oc) (af Ap D pc) rfl rfl (af A' (on+D) c') w1 bj.out ?_))
 all_goals(
  rw[<-bz.out];go_wp2_with fail
  refine tD 20 (mG [fun v _=>v=ag (some ⟨g,0,none⟩),fun v _=>v=ag (some ⟨g,0,none⟩),fun v _=>v=ag (some ⟨g,0,none⟩),fun v _=>v=ag (some ⟨g,0,none⟩),fun v _=>v=ag (some ⟨g,6,none⟩),fun v _=>v=ag (some ⟨g,6,none⟩),fun v _=>v=af Ap pn pc,fun v _=>v=ae aj (D:Int),fun v _=>v=af A5 (pn-D) (pc-D),fun v _=>v=ag (some ⟨g,0,none⟩),fun v _=>v=ag (some ⟨g,0,none⟩),fun v _=>v=ag (some ⟨g,0,none⟩),fun v _=>v=ag (some ⟨g,6,none⟩),fun v _=>v=ag (some ⟨g,7,none⟩),fun v _=>v=ae aj (K:Int),fun v _=>v=ae aj (R:Int),fun v _=>v=ah #[af A5 (pn-D) (pc-D),ae aj (R:Int)],fun v _=>v=ag (some ⟨g,0,none⟩),fun v _=>v=ag (some ⟨g,0,none⟩),fun v _=>v=ag (some ⟨g,6,none⟩)]) W2 gC (by kernel_rfl) (by kernel_rfl) ?_ ?_
  case refine_1=>
   simp only[List.take_succ_cons,List.take_zero];refine gl.cons (fun aa wv hb ha hS Kk Qq hK=>gY (gp rfl) _ rfl (gx ((ha 0 (by kernel_rfl)).trans rfl)) hK) ?_;refine gl.cons (fun aa wv hb ha hS Kk Qq hK=>gY (gp rfl) _ rfl (gx ((ha 0 (by kernel_rfl)).trans rfl)) hK) ?_;refine gl.cons (fun aa wv hb ha hS Kk Qq hK=>lG (gp rfl) _ rfl _ (hS 1 27 (by kernel_rfl) rfl).here (gx rfl) hK) ?_;refine gl.cons (fun aa wv hb ha hS Kk Qq hK=>gZ (gp rfl) _ _ _ rfl _ (ag (some ⟨g,0,none⟩)) (hS 2 28 (by kernel_rfl) rfl).here (by go_simp) (gx rfl) hK) ?_;refine gl.cons (fun aa wv hb ha hS Kk Qq hK=>gZ (gp rfl) _ _ _ rfl _ (ag (some ⟨g,6,none⟩)) (hS 3 29 (by kernel_rfl) rfl).here (by go_simp) (gx rfl) hK) ?_;refine gl.cons (fun aa wv hb ha hS Kk Qq hK=>gZ (gp rfl) _ _ _ rfl _ (ag (some ⟨g,6,none⟩)) (hS 4 30 (by kernel_rfl) rfl).here (by go_simp) (gx rfl) hK) ?_;refine gl.cons (fun aa wv hb ha hS Kk Qq hK=>la (gp rfl) _ _ rfl _ (af Ap pn pc) (hS 5 31 (by kernel_rfl) rfl).here (by have hc:=jf (aT.out.below hb aT.out.lt);go_simp) (gx rfl) hK) ?_;refine gl.cons (fun aa wv hb ha hS Kk Qq hK=>gY (gp rfl) _ rfl (gx ((ha 2 (by kernel_rfl)).trans rfl)) hK) ?_;refine gl.cons (fun aa wv hb ha hS Kk Qq hK=>qI (gp rfl) _ _ _ _ _ rfl (af Ap pn pc) (af A5 (pn-D) (pc-D)) (some (ae aj (D:Int))) none none (hS 6 32 (by kernel_rfl) rfl).here (congrArg some (hS 7 33 (by kernel_rfl) rfl).here) rfl rfl (RF.out wv) (gx rfl) hK) ?_;refine gl.cons (fun aa wv hb ha hS Kk Qq hK=>gY (gp rfl) _ rfl (gx ((ha 0 (by kernel_rfl)).trans rfl)) hK) ?_;refine gl.cons (fun aa wv hb ha hS Kk Qq hK=>lG (gp rfl) _ rfl _ (hS 9 35 (by kernel_rfl) rfl).here (gx rfl) hK) ?_;refine gl.cons (fun aa wv hb ha hS Kk Qq hK=>gZ (gp rfl) _ _ _ rfl _ (ag (some ⟨g,0,none⟩)) (hS 10 36 (by kernel_rfl) rfl).here (by go_simp) (gx rfl) hK) ?_;refine gl.cons (fun aa wv hb ha hS Kk Qq hK=>gZ (gp rfl) _ _ _ rfl _ (ag (some ⟨g,6,none⟩)) (hS 11 37 (by kernel_rfl) rfl).here (by go_simp) (gx rfl) hK) ?_;refine gl.cons (fun aa wv hb ha hS Kk Qq hK=>gZ (gp rfl) _ _ _ rfl _ (ag (some ⟨g,7,none⟩)) (hS 12 38 (by kernel_rfl) rfl).here (by go_simp) (gx rfl) hK) ?_;refine gl.cons (fun aa wv hb ha hS Kk Qq hK=>la (gp rfl) _ _ rfl _ (ae aj (K:Int)) (hS 13 39 (by kernel_rfl) rfl).here (by have hc:=iY (aT.out.below hb aT.out.lt);go_simp) (gx rfl) hK) ?_;refine gl.cons (fun aa wv hb ha hS Kk Qq hK=>rO (gp rfl) _ _ _ _ _ rfl _ _ (ae aj (R:Int)) (hS 14 40 (by kernel_rfl) rfl).here rfl (rP _ _ _ _ _ _ _ (by decide) (by decide) _) (bx.out wv) (gx rfl) hK) ?_;refine gl.cons (fun aa wv hb ha hS Kk Qq hK=>by have bA:=(show aa.eval (.tmp 34)=af A5 (pn-D) (pc-D)from(hS 8 34 (by kernel_rfl) rfl).here);have bB:=(show aa.eval (.tmp 41)=ae aj (R:Int)from(hS 15 41 (by kernel_rfl) rfl).here);exact Da (gp rfl) _ #[(0,.tmp 34),(1,.tmp 41)] rfl #[af A5 (pn-D) (pc-D),ae aj (R:Int)] (by simpa[bA,bB]using Dk A5 (pn-D) (pc-D) (R:Int)) (gx rfl) hK) ?_;refine gl.cons (fun aa wv hb ha hS Kk Qq hK=>lG (gp rfl) _ rfl _ (hS 0 26 (by kernel_rfl) rfl).here (gx rfl) hK) ?_;refine gl.cons (fun aa wv hb ha hS Kk Qq hK=>gZ (gp rfl) _ _ _ rfl _ (ag (some ⟨g,0,none⟩)) (hS 17 43 (by kernel_rfl) rfl).here (by go_simp) (gx rfl) hK) ?_;refine gl.cons (fun aa wv hb ha hS Kk Qq hK=>gZ (gp rfl) _ _ _ rfl _ (ag (some ⟨g,6,none⟩)) (hS 18 44 (by kernel_rfl) rfl).here (by go_simp) (gx rfl) hK) ?_;exact gl.nil
  intro vals w5 hb hv;have bk:vals 42=ah #[af A5 (pn-D) (pc-D),ae aj (R:Int)]:=(hv 16 42 rfl).here;have bl:vals 45=ag (some ⟨g,6,none⟩):=(hv 19 45 rfl).here;have x5:=aT.out.below hb aT.out.lt;have s6:=jf x5;have s7:=iY x5;have f6:w5.frozen? ⟨g,6,none⟩=false:=x5.free;have f7:w5.frozen? ⟨g,7,none⟩=false:=x5.free;obtain⟨W6,a5⟩:=fY ((w5.setCell ⟨g,6,none⟩ (af A5 (pn-D) (pc-D))).setCell ⟨g,7,none⟩ (ae aj (R:Int)));have HF:=fX (a5▸UF.out w5 hb);have bC:=fX a5;clear x5 hb hv a5;simp only[List.take_succ_cons,List.take_zero,List.drop_succ_cons,List.drop_zero,List.map_cons,List.map_nil,Pv,Act.put,List.setIfInBounds_toArray,List.set_cons_zero,List.set_cons_succ,bk,bl];clear bk bl;go_wp2_with (rw[<-bC.out])
  go_end0;exact⟨rfl,⟨A5,pc-D,A',c',HF.out.1⟩,HF.out.2⟩)
theorem LN(d k:Int):prog.built 127 [(1,ae aj d),(2,ae aj k)]=some #[ae .u8 0,ae aj d,ae aj k]:=by kernel_rfl
theorem D5(x:Int):prog.built 127 [(0,ae .u8 x)]=some #[ae .u8 x,ae aj 0,ae aj 0]:=by kernel_rfl
theorem yJ:(prog.info? 127).map (·.size)=some 3:=by kernel_rfl
theorem pL(a b c:ax):(prog.info? 127).map (·.size)=some (#[a,b,c]:Array ax).size:=yJ
theorem sX(x:Int)(d k:Int):(#[ae .u8 x,ae aj d,ae aj k]:Array ax).all (·.oneCell')=true:=by simp[Value.oneCell']
theorem tR{fn:Func}{p:Tmp}(h:fn.results=#[.cell p 127])(tmps:Array ax)(w:aq)(g:Nat)(cs:Array ax)(hs:cs.size=3)(hp:tmps.getD p undef=ag (some ⟨g,0,none⟩))(ht:w.heap[g]?=some (ak cs 127 (0,0))):
  (results fn tmps).run prog w=.ok (ah cs) w:=by
 have ad:tmps[p]?.getD undef=ag (some ⟨g,0,none⟩):=by simpa using hp
 have hl:=run_loadVar_row (P:=prog) w g 127 127 cs (0,0) _ ht underlying127 rfl (by rw[hs];exact yJ)
 simp[results,h,ad,asAddr,hl]
theorem yK(w:aq)(A:Option au)(n c:Nat)(f:Nat->Nat)(a z ch:Nat)(m:Int)(lz:Bool)(hr:gu w w.heap.size A n c f)(ha:a<=n)(hn:n<=131072)(a3:1<=z)(hz:z<=32768)(a4:ch<=256):
  aw prog 129 #[af A n c,ae aj (a:Int),ah #[ae aj (z:Int),ae aj (ch:Int),ae aj m,ai lz]] w fun e w'=>
   e=ao (ah #[ae .u8 0,ae aj ((Pr f n a z a ch 0 0).1:Nat),ae aj ((Pr f n a z a ch 0 0).2:Nat)])/\aR w.heap.size w w':=by
 obtain⟨T,hT⟩:=fY (Pr f n a z a ch 0 0)
 have eT:oE f n a z ch=T:=by
  unfold oE;rw[if_pos ⟨by omega,by omega,by omega,by omega,by omega,by omega,by omega⟩,Int.toNat_natCast,Int.toNat_natCast,Int.toNat_natCast,hT]
 rw[<-hT]
 obtain⟨d,k⟩:=T
 clear hT
 obtain⟨h,hh⟩:=fY (w.heap.size)
 obtain⟨W1,ad⟩:=fY ((w.alloc (ak #[ae aj (z:Int),ae aj (ch:Int),ae aj m,ai lz] 27)).alloc (ak #[ae .u8 0,ae aj 0,ae aj 0] 127))
 have al:aR h w W1:=by rw[ad,hh];exact(gC.alloc fZ _).alloc (by simp) _
 have aT:W1.heap.size=h+2:=by rw[ad,hh];simp
 have av:W1.heap[h]?=some (ak #[ae aj (z:Int),ae aj (ch:Int),ae aj m,ai lz] 27 (0,0)):=by
  rw[ad,hh];exact(Below.heap_alloc _ _ _ (by simp)).trans (aG w _)
 have aU:W1.heap[h+1]?=some (ak #[ae .u8 0,ae aj 0,ae aj 0] 127 (0,0)):=by
  have:=aG (w.alloc (ak #[ae aj (z:Int),ae aj (ch:Int),ae aj m,ai lz] 27)) (ak #[ae .u8 0,ae aj 0,ae aj 0] 127);rw[World.size_alloc,<-ad,<-hh]at this;exact this
 have x0:W1.cell? ⟨h,0,none⟩=some (ae aj (z:Int)):=(aH W1 _ 0 _ _ (0,0) av).trans rfl
 have x1:W1.cell? ⟨h,1,none⟩=some (ae aj (ch:Int)):=(aH W1 _ 1 _ _ (0,0) av).trans rfl
 have hf:=JU W1 A n c f a z ch ((hr.below (hh▸al) (by omega)).more (by omega))
 rw[eT]at hf
 obtain⟨E,hE⟩:=fY (rQ f n a z ch)
 rw[<-hE]at hf
 have HF:=fX hf;have aY:=fX al;have aV:=fX aT;have aZ:=fX aU;have a1:=fX ad;have HH:=fX hh
 clear hf al aT aU av ad hE eT hr hh
 go_enter func129,ntmps129
 go_wp2_with fail
 rw[<-a1.out,<-HH.out]
 refine HF.out.mono ?_
 rintro e w2 ⟨rfl,aS⟩
 have aW:=(aS.block (h+1) (by have:=aV.out;omega)).trans aZ.out
 have a2:=fX (aY.out.trans (aS.mono (by have:=aV.out;omega)))
 have aX:=fX aW
 clear aS aW x0 x1
 go_wp2_with (first
  |(refine aD rfl 127 #[(1,.tmp 21),(2,.tmp 22)] rfl (some 23) rfl #[ae .u8 0,ae aj (d:Int),ae aj (k:Int)] ?_ ?_;focus(simpa[Act.eval]using LN (d:Int) (k:Int)))
  |(refine aC rfl _ _ _ rfl rfl (h+1) #[ae .u8 0,ae aj (d:Int),ae aj (k:Int)] rfl rfl 127 #[ae .u8 0,ae aj 0,ae aj 0] aX.out (pL _ _ _) rfl (sX _ _ _) ?_))
 refine aK (tR rfl _ _ (h+1) _ rfl rfl (aI _ _ _ _ _ _ aX.out)) rfl ⟨rfl,?_⟩
 rw[<-HH.out]
 exact pH a2.out (by omega) _
def ng(f:Nat->Nat)(n z ch:Nat)(lz:Bool)(a:Nat):gA:=
 if(Pr f n a z a ch 0 0).2=0\/(Pr f n a z a ch 0 0).2<oR f n z ch lz a then⟨f a,0,0⟩else⟨0,((Pr f n a z a ch 0 0).1:Nat),((Pr f n a z a ch 0 0).2:Nat)⟩
theorem vK(x d n:Int)(w:aq):(Instr.field 127 (ah #[ae .u8 x,ae aj d,ae aj n]) 2).run prog w=.ok (ae aj n) w:=by
 have hi:(prog.info? 3).map (·.size)=some 1:=by kernel_rfl
 unfold Instr.field;simp[go_sem,asAgg]
theorem vL{P:az}{C:aq->Prop}{K:Act->Prop}{a:Act}{o:aA}(ty:aB)(x:Operand)(i:Nat)(ho:o.op=.field ty x i)(v u:ax)(hx:a.eval x=v)
  (ad:∀w,(Instr.field ty v i).run P w=.ok u w) (hk:K (a.put o.dst u)):o.quiet P a C K:=
 ⟨_,fun w hw=>by
  unfold Oper.quietAt execOp;simp only[ho,hx,Sem.run_bind,ad,Result.andThen_ok];exact⟨rfl,rfl⟩,hk⟩
theorem vM(a b c:ax):(prog.info? 127).map (·.size)=some ([a,b,c]:List ax).length:=yJ
theorem vN(a b c d:ax):(prog.info? 27).map (·.size)=some ([a,b,c,d]:List ax).length:=vF
theorem LP(w:aq)(A:Option au)(n c:Nat)(f:Nat->Nat)(a z ch:Nat)(m:Int)(lz:Bool)(hr:gu w w.heap.size A n c f)(ha:a<n)(hn:n<=131072)(bm:1<=z)(hz:z<=32768)(bn:ch<=256):
  aw prog 103 #[af A n c,ae aj (a:Int),ah #[ae aj (z:Int),ae aj (ch:Int),ae aj m,ai lz]] w fun e w'=>
   e=ao (ah #[ae .u8 ((ng f n z ch lz a).x:Int),ae aj (ng f n z ch lz a).d,ae aj (ng f n z ch lz a).n])/\aR w.heap.size w w':=by
 obtain⟨R,hR⟩:=fY (ng f n z ch lz a)
 rw[<-hR]
 unfold ng at hR
 obtain⟨T,hT⟩:=fY (Pr f n a z a ch 0 0)
 rw[<-hT]at hR
 obtain⟨a1,bd⟩:=fY (a+1)
 obtain⟨T2,a4⟩:=fY (Pr f n a1 z a1 ch 0 0)
 have a9:oR f n z ch lz a=if lz=true then T2.2 else 0:=by
  unfold oR;rw[<-bd];cases lz with
  |false=>rfl
  |true=>
   rw[if_pos rfl];by_cases h:a1<n
   ·rw[if_pos ⟨rfl,h⟩,a4]
   ·rw[if_neg (fun q=>h q.2),a4];obtain rfl:a1=n:=by omega
    by_cases h2:(Pr f a1 a1 z a1 ch 0 0).2=0
    ·exact h2.symm
    ·obtain⟨b1,b2,b3,b4,b5,b6⟩:=qt h2;have:=(b6 0 (by omega)).1;omega
 rw[a9]at hR
 have bf:T.2=0->T.1=0:=fun h0=>by
  rw[hT]at h0⊢;rcases sr (f:=f) (L:=n) (a:=a) (size:=z) a ch 0 0 fZ (.inl ⟨rfl,rfl⟩)with⟨h1,h2⟩|⟨_,_,_,h3,_⟩
  ·exact h1
  ·omega
 have bz:=yK
 have bg:∀V,gu V V.heap.size A n c f->aw prog 129 #[af A n c,ae aj (a:Int),ah #[ae aj (z:Int),ae aj (ch:Int),ae aj m,ai lz]] V fun e w'=>
   e=ao (ah #[ae .u8 0,ae aj (T.1:Nat),ae aj (T.2:Nat)])/\aR V.heap.size V w':=fun V hV=>by
  rw[hT];exact yK V A n c f a z ch m lz hV (by omega) hn bm hz bn
 have bj:∀V,gu V V.heap.size A n c f->aw prog 129 #[af A n c,ae aj (a1:Int),ah #[ae aj (z:Int),ae aj (ch:Int),ae aj m,ai lz]] V fun e w'=>
   e=ao (ah #[ae .u8 0,ae aj (T2.1:Nat),ae aj (T2.2:Nat)])/\aR V.heap.size V w':=fun V hV=>by
  rw[a4];exact yK V A n c f a1 z ch m lz hV (by omega) hn bm hz bn
 obtain⟨d,k⟩:=T
 obtain⟨d2,k2⟩:=T2
 clear hT a4 a9 bz
 dsimp only at hR bf bg bj
 obtain⟨h,hh⟩:=fY (w.heap.size)
 obtain⟨W1,aU⟩:=fY ((w.alloc (ak #[ae aj (z:Int),ae aj (ch:Int),ae aj m,ai lz] 27)).alloc (ak #[ae .u8 0,ae aj 0,ae aj 0] 127))
 have bk:aR h w W1:=by rw[aU,hh];exact(gC.alloc fZ _).alloc (by simp) _
 have bp:W1.heap.size=h+2:=by rw[aU,hh];simp
 have bq:W1.heap[h]?=some (ak #[ae aj (z:Int),ae aj (ch:Int),ae aj m,ai lz] 27 (0,0)):=by
  rw[aU,hh];exact(Below.heap_alloc _ _ _ (by simp)).trans (aG w _)
 have br:W1.heap[h+1]?=some (ak #[ae .u8 0,ae aj 0,ae aj 0] 127 (0,0)):=by
  have:=aG (w.alloc (ak #[ae aj (z:Int),ae aj (ch:Int),ae aj m,ai lz] 27)) (ak #[ae .u8 0,ae aj 0,ae aj 0] 127);rw[World.size_alloc,<-aU,<-hh]at this;exact this
 have hf:=bg W1 ((hr.below (hh▸bk) (by omega)).more (by omega))
 rw[<-hh]at hr
 have HR:=fX hr.1;have bA:=fX hr;have aT:=fX hR;have bB:=fX bj;have bC:=fX bf
 have HF:=fX hf;have bD:=fX bk;have a5:=fX bp;have bt:=fX bq;have bE:=fX br;have bF:=fX aU;have HH:=fX hh
 have bl:IntKind.i64.wrap ((a:Int)+1)=(a1:Int):=by rw[bd,IntKind.wrap_i64];omega
 have bG:=fX bl
 clear hf bk bp br bq aU hr hh hR bg bj bf bd bl
 go_enter func103,ntmps103
 go_wp2_with (refine aE rfl _ _ rfl h rfl _ #[ae aj (z:Int),ae aj (ch:Int),ae aj m,ai lz] (0,0) _ bt.out underlying27 rfl vF ?_)
 rw[<-bF.out,<-HH.out]
 refine HF.out.mono ?_
 rintro e w2 ⟨rfl,aW⟩
 obtain⟨g,hg⟩:=fY (w2.heap.size)
 obtain⟨W3,aX⟩:=fY (iq w2 #[ae .u8 0,ae aj 0,ae aj 0] #[ae .u8 0,ae aj (d:Int),ae aj (k:Int)] 127)
 have a6:aR w2.heap.size w2 W3:=by rw[aX];exact kN _ _ _ _
 have bu:W3.heap.size=g+1:=by rw[aX,hg,xq]
 have bK:h+2<=g:=by have:=aW.size;have:=a5.out;omega
 have y5:=(a6.block h (by omega)).trans ((aW.block h (by have:=a5.out;omega)).trans bt.out)
 have y6:=(a6.block (h+1) (by omega)).trans ((aW.block (h+1) (by have:=a5.out;omega)).trans bE.out)
 have y7:W3.heap[g]?=some (ak #[ae .u8 0,ae aj (d:Int),ae aj (k:Int)] 127 (0,0)):=by rw[aX,hg];exact kY w2 _ _ _
 have aY:aR h w W3:=(bD.out.trans (aW.mono (by have:=a5.out;omega))).trans (a6.mono (by omega))
 have a7:=fX aY;have al:=fX bu;have a8:=fX y6;have aV:=fX y7;have HG:=fX hg;have bH:=fX aX
 have S7:∀V,(∃p:ka W3.heap.size W3,V=p.w)->V.rangeAt g 0 [ae .u8 0,ae aj (d:Int),ae aj (k:Int)]:=by
  rintro V ⟨⟨V,hV⟩,rfl⟩ i v hv;rw[aH V g _ _ _ (0,0) ((hV.block g (by omega)).trans aV.out),Nat.zero_add];simpa using hv
 have S5:∀V,(∃p:ka W3.heap.size W3,V=p.w)->V.rangeAt h 0 [ae aj (z:Int),ae aj (ch:Int),ae aj m,ai lz]:=by
  rintro V ⟨⟨V,hV⟩,rfl⟩ i v hv;rw[aH V h _ _ _ (0,0) ((hV.block h (by omega)).trans y5),Nat.zero_add];simpa using hv
 have z3:∀p:ka W3.heap.size W3,p.w.cell? ⟨h,3,none⟩=some (ai lz):=by
  rintro⟨V,hV⟩;exact(aH V h 3 _ _ (0,0) ((hV.block h (by omega)).trans y5)).trans rfl
 have z2:∀p:ka W3.heap.size W3,p.w.cell? ⟨g,2,none⟩=some (ae aj (k:Int)):=by
  rintro⟨V,hV⟩;exact(aH V g 2 _ _ (0,0) ((hV.block g (by omega)).trans aV.out)).trans rfl
 have U1:∀V,aR W3.heap.size W3 V->aw prog 124 #[ah #[ae .u8 0,ae aj (d:Int),ae aj (k:Int)]] V fun e V'=>e=ao (ai (nY ⟨0,(d:Int),(k:Int)⟩))/\aR W3.heap.size W3 V':=fun V hV=>
  (DQ V ⟨0,(d:Int),(k:Int)⟩).mono fun _ _ q=>⟨q.1,hV.trans (q.2.mono hV.size)⟩
 have U2:∀V,aR W3.heap.size W3 V->aw prog 129 #[af A n c,ae aj (a1:Int),ah #[ae aj (z:Int),ae aj (ch:Int),ae aj m,ai lz]] V fun e V'=>e=ao (ah #[ae .u8 0,ae aj (d2:Int),ae aj (k2:Int)])/\aR W3.heap.size W3 V':=fun V hV=>
  (bB.out V ((bA.out.below (aY.trans (hV.mono (by omega))) fZ).more (by have:=hV.size;omega))).mono fun _ _ q=>⟨q.1,hV.trans (q.2.mono hV.size)⟩
 have R7:=fX S7;have R5:=fX S5;have T2:=fX U2;have T1:=fX U1
 clear S7 S5 U2 U1 a6 bu y5 y6 y7 aY hg aX aW HF
 go_wp2_with (refine aC rfl _ _ _ rfl rfl w2.heap.size #[ae .u8 0,ae aj (d:Int),ae aj (k:Int)] rfl rfl 127 #[ae .u8 0,ae aj 0,ae aj 0] (aG w2 _) (pL _ _ _) rfl (sX _ _ _) ?_;change wpList _ _ _ _ _ (iq w2 #[ae .u8 0,ae aj 0,ae aj 0] #[ae .u8 0,ae aj (d:Int),ae aj (k:Int)] 127);rw[<-bH.out,<-HG.out])
 have bl:=bG.out
 by_cases aZ:k=0
 ·have a2:nY ⟨0,(d:Int),(k:Int)⟩=false:=by have:=bC.out aZ;simp[nY,aZ,this]
  rw[a2]at T1;obtain⟨u,hu⟩:=fY (f a);have HU:=fX hu;have av:R=⟨u,0,0⟩:=by rw[aT.out,if_pos (.inl aZ),hu]
  clear hu;subst av;clear a2 aZ;refine th W3.heap.size W3 gC (by kernel_rfl) (by kernel_rfl) ?_;repeat (first
   |(go_big_quiet_want;with_reducible refine oh _ _ rfl _ _ rfl _ _ R7.out underlying127 rfl (vM _ _ _) ?_;go_big_quiet_on;simp only[Act.put,List.setIfInBounds_toArray,List.set_cons_zero,List.set_cons_succ])
   |(go_big_quiet_want;with_reducible refine oh _ _ rfl _ _ rfl _ _ R5.out underlying27 rfl (vN _ _ _ _) ?_;go_big_quiet_on;simp only[Act.put,List.setIfInBounds_toArray,List.set_cons_zero,List.set_cons_succ])
   |(go_big_quiet_want;with_reducible refine vL _ _ _ rfl (ah #[ae .u8 0,ae aj (d2:Int),ae aj (k2:Int)]) (ae aj (k2:Int)) rfl (fun w=>vK 0 (d2:Int) (k2:Int) w) ?_;go_big_quiet_on;simp only[Act.put,List.setIfInBounds_toArray,List.set_cons_zero,List.set_cons_succ])
   |(go_big_quiet_step (first|(with_reducible exact mR T1.out _)|(with_reducible exact mR T2.out _))))
  refine wpQuiet_nil ?_;rintro V ⟨⟨V,hV⟩,rfl⟩;have HV:=fX (a7.out.trans (hV.mono (by have:=al.out;omega)));have y6:=(hV.block (h+1) (by have:=al.out;omega)).trans a8.out;have y7:=(hV.block g (by have:=al.out;omega)).trans aV.out;have ad:=fX y6;have aS:=fX y7
  have a3:=HR.out.below HV.out (by omega);obtain⟨bb,o,rfl,_,hc⟩:=a3.2 (by omega);have x9:=hc a ha;rw[<-HU.out]at x9;clear a3 hc hV y6 y7;go_wp2_with (first
   |(refine aD rfl 127 #[(0,.tmp 33)] rfl (some 34) rfl #[ae .u8 (u:Int),ae aj 0,ae aj 0] ?_ ?_;focus(simpa[Act.eval]using D5 (u:Int)))
   |(refine aC rfl _ _ _ rfl rfl (h+1) #[ae .u8 (u:Int),ae aj 0,ae aj 0] rfl rfl 127 #[ae .u8 0,ae aj 0,ae aj 0] ad.out (pL _ _ _) rfl (sX _ _ _) ?_))
  refine aK (tR rfl _ _ (h+1) _ rfl rfl (aI _ _ _ _ _ _ ad.out)) rfl ⟨rfl,?_⟩;rw[<-HH.out];exact pH HV.out (by omega) _
 ·have a2:nY ⟨0,(d:Int),(k:Int)⟩=true:=by simp[nY];omega
  rw[a2]at T1;clear a2;cases lz with
  |false=>
   have av:R=⟨0,(d:Int),(k:Int)⟩:=by rw[aT.out,if_neg (by simp[aZ])]
   subst av;refine th W3.heap.size W3 gC (by kernel_rfl) (by kernel_rfl) ?_;repeat (first
    |(go_big_quiet_want;with_reducible refine oh _ _ rfl _ _ rfl _ _ R7.out underlying127 rfl (vM _ _ _) ?_;go_big_quiet_on;simp only[Act.put,List.setIfInBounds_toArray,List.set_cons_zero,List.set_cons_succ])
    |(go_big_quiet_want;with_reducible refine oh _ _ rfl _ _ rfl _ _ R5.out underlying27 rfl (vN _ _ _ _) ?_;go_big_quiet_on;simp only[Act.put,List.setIfInBounds_toArray,List.set_cons_zero,List.set_cons_succ])
    |(go_big_quiet_want;with_reducible refine vL _ _ _ rfl (ah #[ae .u8 0,ae aj (d2:Int),ae aj (k2:Int)]) (ae aj (k2:Int)) rfl (fun w=>vK 0 (d2:Int) (k2:Int) w) ?_;go_big_quiet_on;simp only[Act.put,List.setIfInBounds_toArray,List.set_cons_zero,List.set_cons_succ])
    |(go_big_quiet_step (first|(with_reducible exact mR T1.out _)|(with_reducible exact mR T2.out _))))
   refine wpQuiet_nil ?_;rintro V ⟨⟨V,hV⟩,rfl⟩;have HV:=fX (a7.out.trans (hV.mono (by have:=al.out;omega)));have y6:=(hV.block (h+1) (by have:=al.out;omega)).trans a8.out;have y7:=(hV.block g (by have:=al.out;omega)).trans aV.out;have ad:=fX y6;have aS:=fX y7
   clear hV y6 y7;go_wp2_with (first
    |(refine aE rfl _ _ rfl g rfl _ #[ae .u8 0,ae aj (d:Int),ae aj (k:Int)] (0,0) _ aS.out underlying127 rfl (pL _ _ _) ?_)
    |(refine aC rfl _ _ _ rfl rfl (h+1) #[ae .u8 0,ae aj (d:Int),ae aj (k:Int)] rfl rfl 127 #[ae .u8 0,ae aj 0,ae aj 0] ad.out (pL _ _ _) rfl (sX _ _ _) ?_))
   refine aK (tR rfl _ _ (h+1) _ rfl rfl (aI _ _ _ _ _ _ ad.out)) rfl ⟨rfl,?_⟩;rw[<-HH.out];exact pH HV.out (by omega) _
  |true=>
   by_cases bI:k<k2
   ·have bJ:decide ((k:Int)<(k2:Int))=true:=by simp;omega
    have bx:decide (k<k2)=true:=by simp;omega
    obtain⟨u,hu⟩:=fY (f a);have HU:=fX hu;have av:R=⟨u,0,0⟩:=by rw[aT.out,if_pos (.inr (by simpa using bI)),hu]
    clear hu;subst av;refine th W3.heap.size W3 gC (by kernel_rfl) (by kernel_rfl) ?_;repeat (first
     |(go_big_quiet_want;with_reducible refine oh _ _ rfl _ _ rfl _ _ R7.out underlying127 rfl (vM _ _ _) ?_;go_big_quiet_on;simp only[Act.put,List.setIfInBounds_toArray,List.set_cons_zero,List.set_cons_succ])
     |(go_big_quiet_want;with_reducible refine oh _ _ rfl _ _ rfl _ _ R5.out underlying27 rfl (vN _ _ _ _) ?_;go_big_quiet_on;simp only[Act.put,List.setIfInBounds_toArray,List.set_cons_zero,List.set_cons_succ])
     |(go_big_quiet_want;with_reducible refine vL _ _ _ rfl (ah #[ae .u8 0,ae aj (d2:Int),ae aj (k2:Int)]) (ae aj (k2:Int)) rfl (fun w=>vK 0 (d2:Int) (k2:Int) w) ?_;go_big_quiet_on;simp only[Act.put,List.setIfInBounds_toArray,List.set_cons_zero,List.set_cons_succ])
     |(go_big_quiet_step (first|(with_reducible exact mR T1.out _)|(with_reducible exact mR T2.out _))))
    refine wpQuiet_nil ?_;rintro V ⟨⟨V,hV⟩,rfl⟩;have HV:=fX (a7.out.trans (hV.mono (by have:=al.out;omega)));have y6:=(hV.block (h+1) (by have:=al.out;omega)).trans a8.out;have y7:=(hV.block g (by have:=al.out;omega)).trans aV.out;have ad:=fX y6;have aS:=fX y7
    have a3:=HR.out.below HV.out (by omega);obtain⟨bb,o,rfl,_,hc⟩:=a3.2 (by omega);have x9:=hc a ha;rw[<-HU.out]at x9;clear a3 hc hV y6 y7;go_wp2_with (first
     |(refine aD rfl 127 #[(0,.tmp 33)] rfl (some 34) rfl #[ae .u8 (u:Int),ae aj 0,ae aj 0] ?_ ?_;focus(simpa[Act.eval]using D5 (u:Int)))
     |(refine aC rfl _ _ _ rfl rfl (h+1) #[ae .u8 (u:Int),ae aj 0,ae aj 0] rfl rfl 127 #[ae .u8 0,ae aj 0,ae aj 0] ad.out (pL _ _ _) rfl (sX _ _ _) ?_))
    refine aK (tR rfl _ _ (h+1) _ rfl rfl (aI _ _ _ _ _ _ ad.out)) rfl ⟨rfl,?_⟩;rw[<-HH.out];exact pH HV.out (by omega) _
   ·have bJ:decide ((k:Int)<(k2:Int))=false:=by simp;omega
    have bx:decide (k<k2)=false:=by simp;omega
    have av:R=⟨0,(d:Int),(k:Int)⟩:=by rw[aT.out,if_neg (by simp;omega)]
    subst av;refine th W3.heap.size W3 gC (by kernel_rfl) (by kernel_rfl) ?_;repeat (first
     |(go_big_quiet_want;with_reducible refine oh _ _ rfl _ _ rfl _ _ R7.out underlying127 rfl (vM _ _ _) ?_;go_big_quiet_on;simp only[Act.put,List.setIfInBounds_toArray,List.set_cons_zero,List.set_cons_succ])
     |(go_big_quiet_want;with_reducible refine oh _ _ rfl _ _ rfl _ _ R5.out underlying27 rfl (vN _ _ _ _) ?_;go_big_quiet_on;simp only[Act.put,List.setIfInBounds_toArray,List.set_cons_zero,List.set_cons_succ])
     |(go_big_quiet_want;with_reducible refine vL _ _ _ rfl (ah #[ae .u8 0,ae aj (d2:Int),ae aj (k2:Int)]) (ae aj (k2:Int)) rfl (fun w=>vK 0 (d2:Int) (k2:Int) w) ?_;go_big_quiet_on;simp only[Act.put,List.setIfInBounds_toArray,List.set_cons_zero,List.set_cons_succ])
     |(go_big_quiet_step (first|(with_reducible exact mR T1.out _)|(with_reducible exact mR T2.out _))))
    refine wpQuiet_nil ?_;rintro V ⟨⟨V,hV⟩,rfl⟩;have HV:=fX (a7.out.trans (hV.mono (by have:=al.out;omega)));have y6:=(hV.block (h+1) (by have:=al.out;omega)).trans a8.out;have y7:=(hV.block g (by have:=al.out;omega)).trans aV.out;have ad:=fX y6;have aS:=fX y7
    clear hV y6 y7;go_wp2_with (first
     |(refine aE rfl _ _ rfl g rfl _ #[ae .u8 0,ae aj (d:Int),ae aj (k:Int)] (0,0) _ aS.out underlying127 rfl (pL _ _ _) ?_)
     |(refine aC rfl _ _ _ rfl rfl (h+1) #[ae .u8 0,ae aj (d:Int),ae aj (k:Int)] rfl rfl 127 #[ae .u8 0,ae aj 0,ae aj 0] ad.out (pL _ _ _) rfl (sX _ _ _) ?_))
    refine aK (tR rfl _ _ (h+1) _ rfl rfl (aI _ _ _ _ _ _ ad.out)) rfl ⟨rfl,?_⟩;rw[<-HH.out];exact pH HV.out (by omega) _
def D6(F:Fence)(n:Nat)(P:az)(g:Nat)(lb:Array ax)(ad:Nat->Array ax)(Kp:aq->aq->Prop)(L:Nat)(w:aq):Prop:=
 ∀(l:Nat) (J:Nat->aq->Prop) (W:aq),aR w.heap.size w W->
  (∀j W1 W2,J j W1->aR W1.heap.size W1 W2->J j W2)->
  (∀j W1,J j W1->j<L->YieldAt F (n-1) P l (ad j) W1 fun e W'=>e=ao (ai true)/\J (j+1) W'/\Kp W1 W')->
  J 0 W->CallsIn F n P g (#[.func (.yield l) #[] #[]]++lb) W fun e W'=>(∃v,e=ao v)/\J L W'
theorem LQ{W W':aq}(h:aR W.heap.size W W'):W.grownBy W' none:=⟨h.os,h.tape,h.output,h.size,fun k hk _=>h.block k hk⟩
theorem LR{F:Fence}{n:Nat}{P:az}{g:Operand}{ps:Array Tmp}{assign body:Code}{Q:Exit->Act->aq->Prop}{a:Act}{w:aq}
  (a7:F.round=none) (h1:1<=n) {gf:Nat} {lb:Array ax} (hg:a.eval g=.func (.func gf) #[] lb) (a8:F.fn gf) (eg:∀args w,(callFunc gf args).run P w=.ok (.enter gf args) w)
  {al:Nat->Array ax} {Kp:aq->aq->Prop} {L:Nat} (aY:D6 F (n-1) P gf lb al Kp L w)
  (aV:∀{A B C:aq},Kp A B->Kp B C->Kp A C) (aZ:∀(W:aq) (l:Nat) (o o':Obj),w.heap.size<=l->W.heap[l]?=some o->o.isCells=false->o.isWalk=false->Kp W (W.putObj l o')) (a9:∀j,(al j).size=ps.size)
  (I:Nat->aq->Prop) (hI:OwnFrom w.heap.size I) (h0:I 0 w) (I1:Nat->Act->aq->Prop) (bd:∀a₁,OwnFrom w.heap.size (fun j=>I1 j a₁))
  (av:∀(l j:Nat) (W:aq) (K:Act->aq->Prop),I j W->j<L->(∀a₁ W₁,KeepsOthers W W₁->Kp W W₁->I1 j a₁ W₁->K a₁ W₁)->
   assign.wpIn (F.inRound l) (n-1-1) P (Exit.then K (fun _ _ _=>False)) {tmps:=(ps.zip (al j)).foldl (fun t (p,v)=>t.setIfInBounds p v) a.tmps,defers:=[]} W)
  (aW:∀(l j:Nat) (a₁:Act) (W:aq),I1 j a₁ W->j<L->body.wpIn (F.inRound l) (n-1-1) P (fun e _ W'=>e=.normal/\KeepsOthers W W'/\Kp W W'/\I (j+1) W') a₁ W)
  (aX:∀(D:Nat) (W:aq),w.heap.size<=D->I L W->W.heap[D]?=some (.deferred (some []))->Q .normal {a with defers:={target:=.collected D,args:=#[]}::a.defers} W):
  (Code.rangeFunc g ps assign body).wpIn F n P Q a w:=by
 refine wpIn_rangeFunc fun fn bf=>?_
 rw[a7]
 obtain⟨rec,ad⟩:∃rec:LoopState->Loop,rec=fun st=>{state:=st,pending:=none,fn,tmps:=a.tmps,params:=ps,assign,body,defers:=w.heap.size}:=⟨_,rfl⟩
 obtain⟨D,hD⟩:=fY (w.heap.size)
 obtain⟨W1,aS⟩:=fY ((w.alloc (.deferred (some []))).alloc (.loop (rec .ready)))
 have bg:W1.heap[D+1]?=some (.loop (rec .ready)):=by
  rw[aS,hD];have h:=World.alloc_heap_new (w.alloc (.deferred (some []))) (.loop (rec .ready));rwa[World.size_alloc]at h
 have bj:W1.heap[D]?=some (.deferred (some [])):=by
  rw[aS,hD];exact(Below.heap_alloc _ _ _ (by simp)).trans (World.alloc_heap_new w _)
 have a1:I 0 W1:=by rw[aS];exact hI.alloc _ (hI.alloc _ h0)
 have bk:aR w.heap.size w W1:=by
  rw[aS];exact((Below.refl _ w).alloc fZ _).alloc (by simp) _
 refine⟨D+1,[{target:=.collected D,args:=#[]}],W1,{target:=.fn (.func gf) lb,args:=#[.func (.yield (D+1)) #[] #[]]},W1,gf,#[.func (.yield (D+1)) #[] #[]]++lb,W1,?_,?_,?_,?_,fun _=>h1,?_⟩
 ·rw[aS,ad,hD];exact run_enterLoop_outer _ _ _ _ _
 ·simp only[resolve,hg];simp[go_sem]
 ·intro f' a2;simp[Target.leads]at a2;subst a2;exact a8
 ·simp[invoke,go_sem,eg]
 ·refine(aY (D+1) (fun j W=>I j W/\W.heap[D+1]?=some (.loop (rec .ready))/\W.heap[D]?=some (.deferred (some []))) W1 bk ?_ ?_ ⟨a1,bg,bj⟩).mono ?_
  ·rintro j A B ⟨hi,hl,hk⟩ hb;exact⟨hI _ _ _ none hi (LQ hb) (fun r e=>by cases e),(hb.block _ (Array.getElem?_eq_some_iff.1 hl).1).trans hl,(hb.block _ (Array.getElem?_eq_some_iff.1 hk).1).trans hk⟩
  ·rintro j W ⟨hi,hl,hk⟩ hj;have bx:D+1<W.heap.size:=(Array.getElem?_eq_some_iff.1 hl).1;have hy:=run_yield (P:=P) (args:=al j) hl (by rw[ad];exact a9 j);rw[ad]at hy;refine⟨fn,_,assign,body,hy,roundIn_of_wpIn bf (av _ j W _ hi hj fun a₁ Wa a4 bl bm=>?_)⟩;have aU:=a4.same _ _ hl rfl;have bn:=a4.same _ _ hk rfl;have a5:D+1<Wa.heap.size:=(Array.getElem?_eq_some_iff.1 aU).1;refine⟨_,run_beginRound aU (by rw[ad]),?_⟩;have bp:(Wa.putObj (D+1) (.loop {rec .ready with state:=.busy})).heap[D+1]?=some (.loop {rec .ready with state:=.busy}):=World.putObj_heap_same a5;have bq:(Wa.putObj (D+1) (.loop {rec .ready with state:=.busy})).heap[D]?=some (.deferred (some [])):=(World.putObj_heap_other (by omega)).trans bn;have br:Kp W (Wa.putObj (D+1) (.loop {rec .ready with state:=.busy})):=aV bl (aZ Wa _ _ _ (by omega) aU rfl rfl);refine wpIn_mono (aW _ j _ _ ((bd a₁).putObj _ bm (by omega) aU rfl) hj) ?_;rintro e a3 W3 ⟨rfl,a6,bt,bu⟩;have aT:=a6.same _ _ bp rfl;have hr:=run_endRound (P:=P) none aT;rw[ad]at hr aT;refine⟨_,_,hr,rfl,⟨hI.putObj _ bu (by omega) aT rfl,?_,(World.putObj_heap_other (by omega)).trans (a6.same _ _ bq rfl)⟩,aV (aV br bt) (aZ W3 _ _ _ (by omega) aT rfl rfl)⟩;rw[World.putObj_heap_same (Array.getElem?_eq_some_iff.1 aT).1,ad];rfl
  ·rintro e W2 ⟨⟨v,rfl⟩,hi,hl,hk⟩;refine⟨none,_,by have h:=run_endLoop (P:=P) hl (by rw[ad];simp);rw[ad]at h;exact h,?_⟩;exact aX D _ (by omega) (hI.putObj _ hi (by omega) hl rfl) ((World.putObj_heap_other (by omega)).trans hk)
open Go.Shelf
attribute [local go_sem] Oper.semAt_some
attribute [local simp] vq
theorem LU{f:Nat->Nat}{n z ch:Nat}{lz:Bool}{a:Nat}(ha:a<n):
  iD f n z ch lz a=ng f n z ch lz a::iD f n z ch lz (a+pT (ng f n z ch lz a))/\1<=pT (ng f n z ch lz a)/\a+pT (ng f n z ch lz a)<=n/\
  (if(ng f n z ch lz a).n<1 then 1 else(ng f n z ch lz a).n)=((pT (ng f n z ch lz a):Nat):Int)/\(ng f n z ch lz a).x<256\/¬(∀j,f j<256):=by
 by_cases hf:∀j,f j<256
 ·refine .inl ?_;unfold ng;by_cases h:(Pr f n a z a ch 0 0).2=0\/(Pr f n a z a ch 0 0).2<oR f n z ch lz a
  ·rw[if_pos h];have e:pT ⟨f a,0,0⟩=1:=by unfold pT;rw[if_pos rfl]
   rw[e];exact⟨rF ha h,Nat.le_refl _,by omega,rfl,hf a⟩
  ·rw[if_neg h];obtain⟨b1,b2,b3,b4,b5,b6⟩:=qt (f:=f) (L:=n) (a:=a) (size:=z) (chain:=ch) (fun q=>h (.inl q));have e:pT ⟨0,((Pr f n a z a ch 0 0).1:Nat),((Pr f n a z a ch 0 0).2:Nat)⟩=(Pr f n a z a ch 0 0).2:=by
    unfold pT;rw[if_neg (by show¬((((Pr f n a z a ch 0 0).2:Nat):Int)=0);omega)];exact Int.toNat_natCast _
   rw[e];have hl:=(b6 ((Pr f n a z a ch 0 0).2-1) (by omega)).1;refine⟨uY ha h,by omega,by omega,?_,by show 0<256;omega⟩;rw[if_neg (by show¬((((Pr f n a z a ch 0 0).2:Nat):Int)<1);omega)]
 ·exact .inr hf
theorem LV{w:aq}{B n:Nat}{A:Option au}{f:Nat->Nat}(h:gE w B A n f):gE w w.heap.size A n f:=by
 refine⟨h.1,fun hn=>?_⟩;obtain⟨b,o,rfl,_,hc⟩:=h.2 hn;refine⟨b,o,rfl,?_,hc⟩;have:=hc 0 hn;rcases Nat.lt_or_ge b w.heap.size with g|g
 ·exact g
 ·simp only[World.cell?]at this;rw[Array.getElem?_eq_none g]at this;simp at this
def qO(S:Nat->Prop)(W W':aq):Prop:=gJ S W W'/\(∀(k:Nat) (cs:Array ax),W.heap[k]?=some (ak cs 127 (0,0))->W'.heap[k]?=some (ak cs 127 (0,0)))/\W.heap.size<=W'.heap.size
theorem qO.tr{S:Nat->Prop}{A B C:aq}(h:qO S A B)(k:qO S B C):qO S A C:=⟨h.1.tr k.1,fun i cs hi=>k.2.1 i cs (h.2.1 i cs hi),Nat.le_trans h.2.2 k.2.2⟩
theorem yL{S:Nat->Prop}{N:Nat}{W W':aq}(hb:aR W.heap.size W W')(hN:N<=W.heap.size)(hS:∀k,S k->k<N):gJ S W W':=fun k hk=>hb.block k (by have:=hS k hk;omega)
def yM(t:gA):ax:=ah #[ae .u8 (t.x:Int),ae aj t.d,ae aj t.n]
def tS(T:List gA)(j:Nat):Array ax:=#[yM (T.getD j iE)]
theorem LW(fu:Nat)(bQ:1<=fu)(l Bb Ba Bs B N:Nat)(A:Option au)(n c a z ch:Nat)(m:Int)(lz:Bool)(f:Nat->Nat)(S:Nat->Prop)(hS:S Bb/\S Ba/\S Bs)(bd:∀k,k<B->S k)(bf:∀k,S k->k<N)(ha:a<=n)(hn:n<=131072)(bE:1<=z)(hz:z<=32768)(bF:ch<=256)
  (T:List gA) (hT:T=iD f n z ch lz a) (J:Nat->aq->Prop)
  (hd:∀j W1 W2,J j W1->aR W1.heap.size W1 W2->J j W2)
  (hY:∀j W1,J j W1->j<T.length->YieldAt Fence.wide (fu-1) prog l (tS T j) W1 fun e W'=>e=ao (ai true)/\J (j+1) W'/\qO S W1 W')
  (W:aq) (hN:N<=W.heap.size) (bG:W.cell? ⟨Bb,0,none⟩=some (af A n c)) (bR:W.cell? ⟨Ba,0,none⟩=some (ae aj (a:Int))) (bH:W.heap[Bs]?=some (ak #[ae aj (z:Int),ae aj (ch:Int),ae aj m,ai lz] 27 (0,0))) (hr:gu W B A n c f) (h0:J 0 W):
  CallsIn Fence.wide fu prog 102 #[.func (.yield l) #[] #[],ag (some ⟨Ba,0,none⟩),ag (some ⟨Bb,0,none⟩),ag (some ⟨Bs,0,none⟩)] W fun e W'=>(∃v,e=ao v)/\J T.length W':=by
 refine callsIn_of_wp func102 rfl trivial ?_ rfl
 simp only[ntmps102,List.size_toArray,List.length_cons,List.length_nil,Nat.reduceAdd,Nat.reduceSub,Array.replicate_succ,Array.replicate_zero,List.push_toArray,List.append_toArray,List.nil_append,List.cons_append]
 have HR:=fX hr;have bI:=fX bd;have bg:=fX bf;have HY:=fX hY;have HD:=fX hd;have HT:=fX hT;have HN:=fX hN;have bJ:=fX bH
 clear hr bd bf hY hd hT hN
 gi_wp2
 gi_loopw [5] (fun av wr=>∃j a':Nat,a'<=n/\av=ae aj (a':Int)/\aQ (j<=T.length/\T.drop j=iD f n z ch lz a')/\aQ (J j wr)/\aQ (gJ S W wr)/\aQ (N<=wr.heap.size)) (fun av _=>n-(aP av).toNat)
 case atStart=>exact⟨0,a,ha,rfl,fX ⟨Nat.zero_le _,HT.out⟩,fX h0,fX (gJ.refl _ _),HN⟩
 case round=>
  obtain⟨j,a',bS,rfl,HK,HJ,al,a6⟩:=hrel;have c1:=(al.out.cell (p:=⟨Bb,0,none⟩) hS.1).trans bG;by_cases bj:a'<n
  ·have bk:(a':Int)<(n:Int):=by omega
   have aZ:=(al.out Bs hS.2.2).trans bJ.out;have bl:gu wr wr.heap.size A n c f:=⟨LV (HR.out.1.kept al.out bI.out),HR.out.2⟩;have a7:=LP wr A n c f a' z ch m lz bl bj hn bE hz bF;rcases LU (f:=f) (n:=n) (z:=z) (ch:=ch) (lz:=lz) bj with⟨q1,q2,q3,q4,q5⟩|q
   ·obtain⟨t,ht⟩:=fY (ng f n z ch lz a');rw[<-ht]at a7 q1 q2 q3 q4;obtain⟨tx,td,tn⟩:=t;obtain⟨E,hE⟩:=fY (pT ⟨tx,td,tn⟩);rw[<-hE]at q1 q2 q3 q4;have ad:T.drop j=⟨tx,td,tn⟩::iD f n z ch lz (a'+E):=HK.out.2.trans q1;have aS:j<T.length:=by
     rcases Nat.lt_or_ge j T.length with g|g
     ·exact g
     ·rw[List.drop_eq_nil_of_le g]at ad;cases ad
    have a1:T.getD j iE=⟨tx,td,tn⟩:=by
     rw[List.drop_eq_getElem_cons aS]at ad;injection ad with h1 _
     rw[List.getD_eq_getElem?_getD,List.getElem?_eq_getElem aS];exact h1
    have a2:T.drop (j+1)=iD f n z ch lz (a'+E):=by
     rw[List.drop_eq_getElem_cons aS]at ad;injection ad with _ h2
    have aT:=DR;have bm:=fX a7;have bK:=fX a2;have bn:=fX a1;have a3:=fX aZ;have bL:=fX q4
    clear a7 ad a2 a1 bl ht hE q1 q4 q5 aZ aT;gi_wp2_with (refine vo rfl _ _ rfl Bs rfl _ #[ae aj (z:Int),ae aj (ch:Int),ae aj m,ai lz] (0,0) _ a3.out underlying27 rfl vF ?_)
    refine(callsIn_wide.2 bm.out).mono ?_;rintro e w2 ⟨rfl,a8⟩;obtain⟨g,hg⟩:=fY (w2.heap.size);have aW:aR wr.heap.size wr (w2.alloc (ak #[ae .u8 (tx:Int),ae aj td,ae aj tn] 127)):=a8.alloc a8.size _;have bp:=HD.out _ _ _ HJ.out aW;have a4:=al.out.tr (yL aW a6.out bg.out);have bq:N<=(w2.alloc (ak #[ae .u8 (tx:Int),ae aj td,ae aj tn] 127)).heap.size:=Nat.le_trans a6.out aW.size;have aU:(w2.alloc (ak #[ae .u8 (tx:Int),ae aj td,ae aj tn] 127)).heap[g]?=some (ak #[ae .u8 (tx:Int),ae aj td,ae aj tn] 127 (0,0)):=by rw[hg];exact aG w2 _
    obtain⟨fn,tmps,assign,body,hy,br⟩:=HY.out _ _ bp aS;have bt:tS T j=#[ah #[ae .u8 (tx:Int),ae aj td,ae aj tn]]:=by unfold tS yM;rw[bn.out]
    rw[bt]at hy;have a5:=fX a4;have bu:=fX bq;have aV:=fX aU;have bx:=fX br;have HG:=fX hg
    clear a8 aW bp a4 bq aU br bt al HJ a6 bm a3 c1 hg;gi_wp2
    refine bx.out.mono ?_;rintro e W4 ⟨rfl,bz,aX⟩;have a9:=fX (aX.2.1 g _ aV.out);have bA:=fX (a5.out.tr aX.1);have bB:=fX (Nat.le_trans bu.out aX.2.2);have bM:=fX bz;have aT:=DR W4 ⟨tx,td,tn⟩;rw[bL.out]at aT;have bN:=fX aT;clear aX bz aT hy aV bx a5 bu;rw[<-HG.out];gi_wp2_with (refine vo rfl _ _ rfl g rfl _ #[ae .u8 (tx:Int),ae aj td,ae aj tn] (0,0) _ a9.out underlying127 rfl (pL _ _ _) ?_)
    refine(callsIn_wide.2 bN.out).mono ?_;rintro e w5 ⟨rfl,aY⟩;have bO:=fX (HD.out _ _ _ bM.out aY);have bC:=fX (bA.out.tr (yL aY bB.out bg.out));have bP:=fX (Nat.le_trans bB.out aY.size);clear aY;gi_wp2
    go_roundw
    case rel=>exact⟨j+1,a'+E,q3,by go_num,fX ⟨aS,bK.out⟩,bO,bC,bP⟩
    case measure=>simp[aP];omega
   ·exact absurd HR.out.1.1 q
  ·obtain rfl:a'=n:=by omega
   have bk:¬(a':Int)<(a':Int):=by omega
   have bD:j=T.length:=by
    have h1:=HK.out.2;rw[CN fZ]at h1;have h2:=congrArg List.length h1;rw[List.length_drop]at h2;have:=HK.out.1;simp at h2;omega
   subst bD;gi_wp2
   go_end0;exact⟨⟨_,rfl⟩,HJ.out⟩
theorem LX(n:Nat)(A:Option au)(len cap a:Nat)(z ch m:Int)(lz:Bool)(w:aq):
  CallsIn Fence.wide n prog 81 #[af A len cap,ae aj (a:Int),ah #[ae aj z,ae aj ch,ae aj m,ai lz]] w fun e w'=>e=ao (.func (.func 102) #[] #[ag (some ⟨w.heap.size+1,0,none⟩),ag (some ⟨w.heap.size,0,none⟩),ag (some ⟨w.heap.size+2,0,none⟩)])/\
   w'=((w.alloc (ak #[af A len cap] 22)).alloc (ak #[ae aj (a:Int)] 3)).alloc (ak #[ae aj z,ae aj ch,ae aj m,ai lz] 27):=by
 refine callsIn_of_wp func81 rfl trivial ?_ rfl
 simp only[ntmps81,List.size_toArray,List.length_cons,List.length_nil,Nat.reduceAdd,Nat.reduceSub,Array.replicate_succ,Array.replicate_zero,List.push_toArray,List.append_toArray,List.nil_append,List.cons_append]
 gi_wp2
 go_ret
 exact⟨rfl,rfl⟩
theorem LY(fu:Nat)(al:1<=fu)(Bb Ba Bs B N:Nat)(A:Option au)(n c a z ch:Nat)(m:Int)(lz:Bool)(f:Nat->Nat)(S:Nat->Prop)(hS:S Bb/\S Ba/\S Bs)(av:∀k,k<B->S k)(ad:∀k,S k->k<N)(ha:a<=n)(hn:n<=131072)(aS:1<=z)(hz:z<=32768)(aT:ch<=256)
  (T:List gA) (hT:T=iD f n z ch lz a) (w:aq) (hN:N<=w.heap.size) (aU:w.cell? ⟨Bb,0,none⟩=some (af A n c)) (aV:w.cell? ⟨Ba,0,none⟩=some (ae aj (a:Int))) (aW:w.heap[Bs]?=some (ak #[ae aj (z:Int),ae aj (ch:Int),ae aj m,ai lz] 27 (0,0))) (hr:gu w B A n c f) (hB:B<=w.heap.size):
  D6 Fence.wide fu prog 102 #[ag (some ⟨Ba,0,none⟩),ag (some ⟨Bb,0,none⟩),ag (some ⟨Bs,0,none⟩)] (tS T) (qO S) T.length w:=fun l J W hW hd hY h0=>
 LW fu al l Bb Ba Bs B N A n c a z ch m lz f S hS av ad ha hn aS hz aT T hT J hd hY W (Nat.le_trans hN hW.size) ((hW.cell (Nat.lt_of_lt_of_le (ad _ hS.1) hN)).trans aU) ((hW.cell (Nat.lt_of_lt_of_le (ad _ hS.2.1) hN)).trans aV) ((hW.block Bs (Nat.lt_of_lt_of_le (ad _ hS.2.2) hN)).trans aW) (hr.below hW hB) h0
attribute [local go_sem] Oper.semAt_some
attribute [local simp] vq
theorem LZ(w:aq)(base:Nat)(A:Option au)(n c:Nat)(l:List gA)(aS:w.ownsRow base 128 3 (af A n c) n (PO l))(t:gA)(hn:n<=1000000)(ad:base<=w.heap.size):
  ∃A' c' w',(Builtin.append_ #[79,79] 79 #[af A n c,af (some ⟨w.heap.size,0,none⟩) 1 1]).run prog (w.alloc (ak #[ae .u8 (t.x:Int),ae aj t.d,ae aj t.n] 128))=.ok (af A' (n+1) c') w'/\
   w'.ownsRow base 128 3 (af A' (n+1) c') (n+1) (PO (l++[t]))/\aR base w w'/\KeepsOthers w w'/\(∀k,k<w.heap.size->(Value.slice A n c).ownBlock≠some k->w'.heap[k]?=w.heap[k]?):=by
 have al:aR base w (w.alloc (ak #[ae .u8 (t.x:Int),ae aj t.d,ae aj t.n] 128)):=(Below.refl base w).alloc ad _
 have av:=aS.alloc (ak #[ae .u8 (t.x:Int),ae aj t.d,ae aj t.n] 128)
 obtain⟨A',c',w',h2,o2,b2⟩:=xF (kl:=24) underlying79 BW rfl (by decide) (w.alloc (ak #[ae .u8 (t.x:Int),ae aj t.d,ae aj t.n] 128)) base _ (af A n c) n _ av _ 1 1 _
  (gX.new w 3 1 #[ae .u8 (t.x:Int),ae aj t.d,ae aj t.n] 128 rfl) (fun u hu=>by simp at hu;rcases hu with rfl|rfl|rfl<;>rfl) (by unfold maxLen;omega) (by omega) 79 (fun h=>by cases h) (Nat.le_trans ad al.size)
 refine⟨A',c',w',h2,?_,al.trans ((Below.refl base _).grown b2 (Nat.le_trans ad al.size) (oZ av)),(KeepsOthers.alloc w _).trans (KeepsOthers.of_grownBy b2 (Ik av)),fun k hk aT=>?_⟩
 ·rw[xw];exact o2
 ·refine(b2.block k (by simp;omega) (fun e=>aT e.symm)).trans ?_;exact(Below.refl w.heap.size w).alloc fZ (ak #[ae .u8 (t.x:Int),ae aj t.d,ae aj t.n] 128)|>.block k hk
def vO(B b k:Nat):Prop:=k<B\/(b+1<=k/\k<b+4)
def rX(w u:aq)(b:Nat)(T:List gA)(j:Nat)(W:aq):Prop:=
 aR w.heap.size w W/\gJ (vO w.heap.size b) u W/\u.heap.size<=W.heap.size/\
 ∃(A:Option au) (c:Nat),Boxed W b 79 (af A j c)/\W.ownsRow (b+4) 128 3 (af A j c) j (PO (T.take j))
theorem rX.own(w u:aq)(b:Nat)(T:List gA)(hb:w.heap.size<=b)(hu:u.heap.size=b+4):OwnFrom u.heap.size (rX w u b T):=by
 rintro j W W' row ⟨h1,h2,h3,A,c,h5,h6⟩ ad hr;have hk:∀k,k<u.heap.size->W'.heap[k]?=W.heap[k]?:=fun k hk=>ad.block k (by omega) (fun e=>by have:=(hr k e.symm).1;omega)
 refine⟨h1.grown ad ?_ (fun r e=>?_),fun k hS=>(hk k ?_).trans (h2 k hS),Nat.le_trans h3 ad.size,A,c,(hk _ (by omega)).trans h5,Ck h6 ad (fun r e=>(hr r e).2)⟩
 ·omega
 ·have:=(hr r e).1;omega
 ·rcases hS with hS|hS<;>omega
def yN(A:Option au)(n c a z ch:Nat)(m:Int)(lz:Bool)(g b x:Nat)(t:gA):Act:=
 {tmps:=#[af A n c,ae aj (a:Int),ah #[ae aj (z:Int),ae aj (ch:Int),ae aj m,ai lz],undef,undef,ag (some ⟨g,0,none⟩),af none 0 0,ae aj 0,ae aj 0,ag (some ⟨b,0,none⟩),ag (some ⟨x,0,none⟩),
  ah #[ae aj (z:Int),ae aj (ch:Int),ae aj m,ai lz],ae aj 0,ae aj 0,ai false,undef,af A n c,ae aj (n:Int),ai false,ae aj (a:Int),ai false,ai false,ae aj (a:Int),af A n c,ae aj (n:Int),ai false,ai false,af A n c,ae aj (a:Int),
  ah #[ae aj (z:Int),ae aj (ch:Int),ae aj m,ai lz],.func (.func 102) #[] #[ag (some ⟨b+2,0,none⟩),ag (some ⟨b+1,0,none⟩),ag (some ⟨b+3,0,none⟩)],ah #[ae .u8 (t.x:Int),ae aj t.d,ae aj t.n],undef,undef,undef,undef,undef],defers:=[]}
def vP(w u:aq)(b:Nat)(V:List gA)(fr:Nat->gA->Act)(j:Nat)(a₁:Act)(W:aq):Prop:=
 ∃x:Nat,a₁=fr x (V.getD j iE)/\u.heap.size<=x/\W.heap[x]?=some (ak #[ae .u8 ((V.getD j iE).x:Int),ae aj (V.getD j iE).d,ae aj (V.getD j iE).n] 127 (0,0))/\rX w u b V j W
theorem L0{W W':aq}{row:Option Nat}{x:Nat}{cs:Array ax}{t:aB}{fr:Nat×Nat}(h:W.heap[x]?=some (ak cs t fr))(hg:W.grownBy W' row)(hr:∀r,row=some r->∃o:Obj,W.heap[r]?=some o/\o.isCells=false):W'.heap[x]?=some (ak cs t fr):=by
 refine(hg.block x (Array.getElem?_eq_some_iff.1 h).1 fun he=>?_).trans h;obtain⟨o,ho,hc⟩:=hr x he.symm;rw[ho]at h;cases h;cases hc
theorem vP.own(w u:aq)(b:Nat)(V:List gA)(fr:Nat->gA->Act)(hb:w.heap.size<=b)(hu:u.heap.size=b+4)(a₁:Act):OwnFrom u.heap.size (fun j=>vP w u b V fr j a₁):=by
 rintro j W W' row ⟨x,h1,h2,h3,h4⟩ ad hr;exact⟨x,h1,h2,L0 h3 ad (fun r e=>(hr r e).2),rX.own w u b V hb hu j W W' row h4 ad hr⟩
theorem L6{S:Nat->Prop}{N:Nat}(hS:∀k,S k->k<N)(W:aq)(l:Nat)(o o':Obj)(hl:N<=l)(h:W.heap[l]?=some o)(hc:o.isCells=false):qO S W (W.putObj l o'):=by
 refine⟨fun k hk=>World.putObj_heap_other (by have:=hS k hk;omega),fun k cs hk=>?_,by simp[World.putObj]⟩;refine(World.putObj_heap_other (fun e=>?_)).trans hk;subst e;rw[h]at hk;cases hk;cases hc
theorem L7(w:aq)(A:Option au)(n c:Nat)(f:Nat->Nat)(a s h m:Int)(lz:Bool)(hr:gu w w.heap.size A n c f)(_: -9223372036854775808<=a)(_:a<=9223372036854775807):
  aw prog 64 #[af A n c,ae aj a,ah #[ae aj s,ae aj h,ae aj m,ai lz]] w fun e w'=>∃A' n' c',e=ao (.tuple #[af A' n' c',ae aj (rR n a s h m)])/\iL w' w'.heap.size A' n' c' (tK f n a s h m lz)/\aR w.heap.size w w':=by
 obtain⟨E,hE⟩:=fY (rR n a s h m)
 obtain⟨V,hV⟩:=fY (tK f n a s h m lz)
 rw[<-hE,<-hV]
 unfold tK at hV
 rw[<-hE]at hV
 obtain⟨W1,aZ⟩:=fY (w.alloc (ak #[ae aj s,ae aj h,ae aj m,ai lz] 27))
 have bu:aR w.heap.size w W1:=by rw[aZ];exact gC.alloc fZ _
 have bl:W1.heap.size=w.heap.size+1:=by rw[aZ];simp
 have aT:W1.heap[w.heap.size]?=some (ak #[ae aj s,ae aj h,ae aj m,ai lz] 27 (0,0)):=by rw[aZ];exact aG w _
 obtain⟨g,hg⟩:=fY (w.heap.size)
 rw[<-hg]at aT bl
 have bm:=pG W1 s h m lz
 obtain⟨e1,av⟩:=fY (jV s h m)
 rw[<-av]at bm
 have HR:=fX hr;have HE:=fX hE;have HV:=fX hV;have al:=fX bu;have bx:=fX bl;have a1:=fX aT;have HG:=fX hg;have a2:=fX bm;have aX:=fX av;have a3:=fX aZ
 clear hr hE hV bu bl aT hg bm av aZ
 by_cases aU:E=0
 ·have bW:ig s h m=true/\n<=131072/\0<=a/\a<=(n:Int):=by
   have:=HE.out;rw[aU]at this;unfold rR at this;by_cases q1:ig s h m=true
   ·rw[if_neg (by rw[q1];decide)]at this;by_cases q2:131072<n
    ·rw[if_pos q2]at this;omega
    ·rw[if_neg q2]at this;by_cases q3:0<=a/\a<=(n:Int)
     ·exact⟨q1,by omega,q3.1,q3.2⟩
     ·rw[if_neg q3]at this;omega
   ·rw[if_pos (by simpa using q1)]at this;omega
  subst aU;obtain⟨bn,hn,bX,cf⟩:=bW;obtain⟨m1,m2,m3,m4,m5,m6⟩:=JZ bn;obtain rfl:e1=0:=by rw[aX.out];unfold jV;rw[if_pos bn]
  obtain⟨a,rfl⟩:=Int.eq_ofNat_of_zero_le bX;obtain⟨z,rfl⟩:=Int.eq_ofNat_of_zero_le (show 0<=s by omega);obtain⟨ch,rfl⟩:=Int.eq_ofNat_of_zero_le (show 0<=h by omega);have a7:V=iD f n z ch lz a:=by rw[HV.out,if_pos rfl,Int.toNat_natCast,Int.toNat_natCast,Int.toNat_natCast]
  have bz:=fX a7;clear a7 HE HV aX bn;have d1:decide (131072<(n:Int))=false:=by simp;omega
  have d2:decide ((a:Int)<0)=false:=by simp
  have d3:decide ((n:Int)<(a:Int))=false:=by simp;omega
  have d4:decide (n<a)=false:=by simp;omega
  refine(callsIn_wide (n:=5)).1 ?_;refine callsIn_of_wp_marks func64 rfl trivial ?_ rfl;simp only[ntmps64,List.size_toArray,List.length_cons,List.length_nil,Nat.reduceAdd,Nat.reduceSub,Array.replicate_succ,Array.replicate_zero,List.push_toArray,List.append_toArray,List.nil_append,List.cons_append];gi_wp2_with fail
  rw[<-a3.out,<-HG.out];refine(callsIn_wide.2 a2.out).mono ?_;rintro e w2 ⟨rfl,ad⟩;have bp:=(ad.block g (by have:=bx.out;omega)).trans a1.out;have aS:=fX (al.out.trans (ad.mono al.out.size));have bY:=fX bp
  obtain⟨b,hb⟩:=fY (w2.heap.size);have bZ:g<b:=by have:=ad.size;have:=bx.out;omega
  have bA:(w2.alloc (ak #[af none 0 0] 79)).heap[g]?=some (ak #[ae aj (z:Int),ae aj (ch:Int),ae aj m,ai lz] 27 (0,0)):=(Below.heap_alloc _ _ _ (by omega)).trans bp;have bB:=fX bA;clear ad bp bA;gi_wp2_with (first
   |(refine vo rfl _ _ rfl g rfl _ #[ae aj (z:Int),ae aj (ch:Int),ae aj m,ai lz] (0,0) _ bB.out underlying27 rfl vF ?_)
   |(gi_at_call 81;refine(LX _ _ _ _ _ _ _ _ _ _).mono ?_;rintro e w' ⟨rfl,rfl⟩))
  obtain⟨u,hu⟩:=fY ((((w2.alloc (ak #[af none 0 0] 79)).alloc (ak #[af A n c] 22)).alloc (ak #[ae aj (a:Int)] 3)).alloc (ak #[ae aj (z:Int),ae aj (ch:Int),ae aj m,ai lz] 27));have bC:u.heap.size=b+4:=by rw[hu,hb];simp
  have bD:aR b w2 u:=by
   rw[hu,hb];exact((((Below.refl w2.heap.size w2).alloc fZ _).alloc (by simp) _).alloc (by simp;omega) _).alloc (by simp;omega) _
  have bE:aR w.heap.size w u:=aS.out.trans (bD.mono (by have:=HG.out;omega));have bF:Boxed u b 79 (af none 0 0):=by
   rw[hu,hb];exact(((Boxed.new w2 _ _).alloc _).alloc _).alloc _
  have bG:Boxed u (b+1) 22 (af A n c):=by
   have:=((Boxed.new (w2.alloc (ak #[af none 0 0] 79)) 22 (af A n c)).alloc (ak #[ae aj (a:Int)] 3)).alloc (ak #[ae aj (z:Int),ae aj (ch:Int),ae aj m,ai lz] 27);rw[World.size_alloc,<-hb]at this;rw[hu];exact this
  have bH:Boxed u (b+2) 3 (ae aj (a:Int)):=by
   have:=(Boxed.new ((w2.alloc (ak #[af none 0 0] 79)).alloc (ak #[af A n c] 22)) 3 (ae aj (a:Int))).alloc (ak #[ae aj (z:Int),ae aj (ch:Int),ae aj m,ai lz] 27);rw[World.size_alloc,World.size_alloc,<-hb]at this;rw[hu];exact this
  have bI:u.heap[b+3]?=some (ak #[ae aj (z:Int),ae aj (ch:Int),ae aj m,ai lz] 27 (0,0)):=by
   have:=aG (((w2.alloc (ak #[af none 0 0] 79)).alloc (ak #[af A n c] 22)).alloc (ak #[ae aj (a:Int)] 3)) (ak #[ae aj (z:Int),ae aj (ch:Int),ae aj m,ai lz] 27);rw[World.size_alloc,World.size_alloc,World.size_alloc,<-hb]at this;rw[hu];exact this
  have HU:=fX hu;have HB:=fX hb;have aV:=fX bC;have bq:=fX bE;have b0:=fX bF;have b1:=fX bG;have b2:=fX bH;have b3:=fX bI
  clear hu bC bD bE bF bG bH bI bB bY hb;rw[<-HU.out];simp only[Nat.add_assoc,Nat.reduceAdd];rw[<-HB.out];refine LR (L:=V.length) rfl (by omega) (gf:=102) (lb:=#[ag (some ⟨b+2,0,none⟩),ag (some ⟨b+1,0,none⟩),ag (some ⟨b+3,0,none⟩)]) rfl trivial (enters_of func102 (by kernel_rfl) rfl)
   (LY _ (by omega) (b+1) (b+2) (b+3) w.heap.size (b+4) A n c a z ch m lz f (vO w.heap.size b) ⟨.inr (by omega),.inr (by omega),.inr (by omega)⟩ (fun k hk=>.inl hk) (fun k hk=>by rcases hk with hk|hk<;>have:=HG.out<;>omega) (by omega) hn (by omega) (by omega) (by omega) V bz.out u (by rw[aV.out];exact Nat.le_refl _) b1.out.cell b2.out.cell b3.out (HR.out.below bq.out fZ) bq.out.size)
   (fun h k=>h.tr k) ?keep (fun _=>rfl)
   (rX w u b V) (rX.own w u b V (by have:=HG.out;omega) aV.out) ?start
   (vP w u b V (yN A n c a z ch m lz g b)) (fun a₁=>vP.own w u b V _ (by have:=HG.out;omega) aV.out a₁) ?assign ?body ?done
  case keep=>
   intro W l o o' hl ho hc _;exact L6 (N:=u.heap.size) (fun k hk=>by rw[aV.out];rcases hk with hk|hk<;>have:=HG.out<;>omega) W l o o' hl ho hc
  case start=>exact⟨bq.out,gJ.refl _ _,Nat.le_refl _,none,0,b0.out,World.ownsRow_nil _ _ _ _⟩
  case assign=>
   intro l j W K hI hj hK;have hb:aR W.heap.size W (W.alloc (ak #[ae .u8 ((V.getD j iE).x:Int),ae aj (V.getD j iE).d,ae aj (V.getD j iE).n] 127)):=gC.alloc fZ _;have hn:(W.alloc (ak #[ae .u8 ((V.getD j iE).x:Int),ae aj (V.getD j iE).d,ae aj (V.getD j iE).n] 127)).heap[W.heap.size]?=some (ak #[ae .u8 ((V.getD j iE).x:Int),ae aj (V.getD j iE).d,ae aj (V.getD j iE).n] 127 (0,0)):=aG W _;have bd:=(rX.own w u b V (by have:=HG.out;omega) aV.out).alloc (ak #[ae .u8 ((V.getD j iE).x:Int),ae aj (V.getD j iE).d,ae aj (V.getD j iE).n] 127) hI;have bJ:KeepsOthers W (W.alloc (ak #[ae .u8 ((V.getD j iE).x:Int),ae aj (V.getD j iE).d,ae aj (V.getD j iE).n] 127)):=KeepsOthers.alloc W _;have bK:qO (vO w.heap.size b) W (W.alloc (ak #[ae .u8 ((V.getD j iE).x:Int),ae aj (V.getD j iE).d,ae aj (V.getD j iE).n] 127)):=
    ⟨yL hb hI.2.2.1 (fun k hk=>by rw[aV.out];rcases hk with hk|hk<;>have:=HG.out<;>omega),fun k cs hk=>(hb.block k (Array.getElem?_eq_some_iff.1 hk).1).trans hk,hb.size⟩
   have bL:=hI.2.2.1;obtain⟨t,ht⟩:=fY (V.getD j iE);have aY:=hK (yN A n c a z ch m lz g b W.heap.size (V.getD j iE)) _ bJ bK ⟨W.heap.size,rfl,bL,hn,bd⟩;simp only[tS,yM];rw[<-ht]at aY⊢;obtain⟨tx,td,tn⟩:=t;have br:=fX aY;clear aY hK bJ bK bd hn hb hI ht bL;gi_wp2
   exact br.out
  case body=>
   rintro l j a₁ W ⟨x,rfl,hx,aW,h1,h2,h3,A1,c1,h5,h6⟩ hj;have bt:V.take (j+1)=V.take j++[V.getD j iE]:=by
    rw[List.take_succ_eq_append_getElem hj,List.getD_eq_getElem?_getD,List.getElem?_eq_getElem hj];rfl
   have b4:V.length<=n-a:=by rw[bz.out];exact(uB lz (by omega) _ _ (by omega)).1
   obtain⟨t,ht⟩:=fY (V.getD j iE);rw[<-ht]at aW bt⊢;obtain⟨A',c',w3,bf,a4,a8,bg,bM⟩:=LZ W (b+4) A1 j c1 _ h6 t (by omega) (by rw[<-aV.out];exact h3);obtain⟨tx,td,tn⟩:=t;have a5:=oG h6 aW (by kernel_rfl);have bN:=(Array.getElem?_eq_some_iff.1 aW).1;have bj:u.heap.size<=w3.heap.size:=by have:=a8.size;omega
   have bO:∀k,k<b+4->w3.heap[k]?=W.heap[k]?:=fun k hk=>a8.block k hk
   have aT:=(bO b (by omega)).trans h5;have cl:=h5.cell;have cg:=Boxed.cell aT;have cj:=Boxed.frozen aT;have cb:g<b:=bZ;have bP:=fX aW;have bQ:=fX bf;have bR:=fX a4;have a9:=fX a8;have b5:=fX bg;have b6:=fX bM;have H1:=fX h1;have H2:=fX h2;have b7:=fX bt;have a1:=fX aT;have H6:=fX h6;have bS:=fX bj
   have ck:=fX a5;have HX:=fX hx;have cm:=fX bN
   clear aW bf a4 a8 bg bM h1 h2 bt aT h6 bO a5 ht b4 bj hx bN;unfold yN;gi_wp2_with (first
    |(refine vo rfl _ _ rfl x rfl _ #[ae .u8 (tx:Int),ae aj td,ae aj tn] (0,0) _ bP.out underlying127 rfl (pL _ _ _) ?_)
    |(gi_at_builtin;refine JH rfl (.tmp 32) (.tmp 34) 79 rfl (af A1 j c1) (af (some ⟨W.heap.size,0,none⟩) 1 1) (af A' (j+1) c') w3 rfl rfl bQ.out ?_))
   have bk:=Boxed.set (af A' (j+1) c') a1.out;obtain⟨Y,hY⟩:=fY (w3.setCell ⟨b,0,none⟩ (af A' (j+1) c'));have bT:Y.heap.size=w3.heap.size:=by rw[hY];simp[World.setCell]
   have bU:∀k,k≠b->Y.heap[k]?=w3.heap[k]?:=fun k hk=>by rw[hY];exact Below.heap_setCell w3 _ _ k (by show k≠b;exact hk)
   have b8:KeepsOthers w3 Y:=by rw[hY];exact KeepsOthers.setCell _ _ _
   have b9:aR w.heap.size w Y:=by rw[hY];exact(H1.out.trans (a9.out.mono (by have:=HG.out;omega))).setCell (p:=⟨b,0,none⟩) (by show w.heap.size<=b;have:=HG.out;omega) _
   have a6:=ownsRow_setCell_below bR.out (a:=⟨b,0,none⟩) (by show b<_;omega) (af A' (j+1) c');rw[<-hY]at bk a6⊢;have bV:gJ (vO w.heap.size b) W Y:=fun k hS=>(bU k (by have:=HG.out;rcases hS with hS|hS<;>omega)).trans (a9.out.block k (by have:=HG.out;rcases hS with hS|hS<;>omega))
   refine⟨b5.out.trans b8,⟨bV,fun k cs hk=>?_,by rw[bT];exact a9.out.size⟩,b9,fun k hS=>(bV k hS).trans (H2.out k hS),by rw[bT];exact bS.out,A',c',bk,?_⟩
   ·have ca:k≠b:=fun e=>by
     subst e;have:=cl;have h9:=a9.out.block k (by omega);rw[a1.out]at h9;rw[hk]at h9;injection h9 with h9
     injection h9 with _ h9 _
     exact absurd h9 (by decide)
    exact(bU k ca).trans ((b6.out k (Array.getElem?_eq_some_iff.1 hk).1 (oG H6.out hk (by kernel_rfl))).trans hk)
   ·rw[b7.out];exact a6
  case done=>
   rintro D W hD ⟨h1,h2,h3,A1,c1,h5,h6⟩ hK;rw[List.take_length]at h6;have cl:=h5.cell;have H1:=fX h1;have H6:=fX h6;have HK:=fX hK
   clear h1 h2 h3 h5 h6 hK;gi_wp2
   refine⟨by simp,.inl ⟨_,_,rfl,run_takeDeferred HK.out,?_⟩⟩;refine⟨_,(by simp[results,Tryz.results64,go_sem]),A1,V.length,c1,rfl,?_,?_⟩
   ·have ho:=Ck H6.out (grownBy_putObj' W D (.deferred none)) (fun r e=>by cases e;exact⟨_,HK.out,rfl⟩);exact iL.gR ho
   ·exact H1.out.grown (grownBy_putObj' W D _) H1.out.size (fun r e=>by cases e;rw[aV.out]at hD;have:=HG.out;omega)
 ·have a7:V=[]:=by rw[HV.out,if_neg aU]
  subst a7;have hE:=HE.out;have av:=aX.out;clear HV a1;unfold rR at hE;unfold jV at av;by_cases q1:ig s h m=false
  ·rw[if_pos q1]at hE;rw[if_neg (by rw[q1];decide)]at av;subst hE;subst av;clear aU HE aX;go_enter func64,ntmps64
   go_wp2_with fail
   rw[<-a3.out,<-HG.out];refine a2.out.mono ?_;rintro e w2 ⟨rfl,ad⟩;have aS:=fX (al.out.trans (ad.mono al.out.size));clear ad;go_wp2;go_ret2;exact⟨none,0,0,rfl,iL.nil _ _,aS.out⟩
  rw[if_neg q1]at hE;rw[if_pos (by simpa using q1)]at av;subst av;by_cases q2:131072<n
  ·rw[if_pos q2]at hE;subst hE;have d1:decide (131072<(n:Int))=true:=by simp;omega
   clear aU HE aX;go_enter func64,ntmps64
   go_wp2_with fail
   rw[<-a3.out,<-HG.out];refine a2.out.mono ?_;rintro e w2 ⟨rfl,ad⟩;have aS:=fX (al.out.trans (ad.mono al.out.size));clear ad;go_wp2;go_ret2;exact⟨none,0,0,rfl,iL.nil _ _,aS.out⟩
  rw[if_neg q2]at hE;have d1:decide (131072<(n:Int))=false:=by simp;omega
  by_cases q3:a<0
  ·rw[if_neg (by omega)]at hE;subst hE;have d2:decide (a<0)=true:=by simp;omega
   clear aU HE aX;go_enter func64,ntmps64
   go_wp2_with fail
   rw[<-a3.out,<-HG.out];refine a2.out.mono ?_;rintro e w2 ⟨rfl,ad⟩;have aS:=fX (al.out.trans (ad.mono al.out.size));clear ad;go_wp2;go_ret2;exact⟨none,0,0,rfl,iL.nil _ _,aS.out⟩
  have d2:decide (a<0)=false:=by simp;omega
  by_cases q4:(n:Int)<a
  ·rw[if_neg (by omega)]at hE;subst hE;have d3:decide ((n:Int)<a)=true:=by simp;omega
   clear aU HE aX;go_enter func64,ntmps64
   go_wp2_with fail
   rw[<-a3.out,<-HG.out];refine a2.out.mono ?_;rintro e w2 ⟨rfl,ad⟩;have aS:=fX (al.out.trans (ad.mono al.out.size));clear ad;go_wp2;go_ret2;exact⟨none,0,0,rfl,iL.nil _ _,aS.out⟩
  ·rw[if_pos (by omega)]at hE;exact absurd hE aU
end Go.Proofs.YtokpcpjnihinfaaGreat
