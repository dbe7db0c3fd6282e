/-
  Words and walks.
-/
import Derived.Lib.SlBytesConst
import Derived.KernelRfl
import Derived.Lib.SliceRun
import Derived.Test.YtokpcpjnihinfaaGreatqwaa
import Derived.Test.YtokpcpjnihinfaaGreatqwab
import Derived.Test.YtokpcpjnihinfaaGreatqwac
import Derived.Test.YtokpcpjnihinfaaGreatqwad
import Derived.Test.YtokpcpjnihinfaaGreatqwaf
set_option maxRecDepth 100000
set_option maxHeartbeats 16000000
namespace Go.Proofs.YtokpcpjnihinfaaGreat
open Value renaming int → ae, slice → af, pointer → ag, agg → ah, bool → ai
open IntKind renaming i64 → aj
open Obj renaming cells → ak
open Ending renaming returned → ao
open Go renaming World → aq, Addr → au, Calls → aw, Value → ax, Program → az, Oper → aA, TypeId → aB, wpList_store_rowTo → aC, wpList_buildTo → aD, wpList_load_row → aE, heap_alloc_new → aG, cell_of_row → aH, setRow_heap → aI, bodyPost_ret → aK, yielded → aM, heap_setCell_same → aN, frozen_of_row → aO
open Go.RowKit renaming intOf → aP, Hid → aQ, Below → aR
open _root_.Go.Proofs.Tryz
open Go.RowKit Go.ChangeShapes Go.WideShapes Go.ChangeAt Go.Joins
theorem wE(a:iz):kI a a=true:=by unfold kI sF oC;simp
theorem Lm{hn wn bn:Nat}(h:oB hn wn bn=false):hn<=600/\wn<=300/\bn<=300:=by
 unfold oB at h;simp only[Bool.or_eq_false_iff,decide_eq_false_iff_not]at h;omega
theorem jt{a b c:aq}(h1:aR a.heap.size a b)(h2:aR b.heap.size b c):aR a.heap.size a c:=h1.trans (h2.mono h1.size)
theorem Ef{w:aq}{g h:Nat}{cur Y:Array ax}{t:aB}(hh:w.heap[g]?=some (ak cur 5 (0,0)))(hb:gZ w h Y t)(ht:(5==t)=false):h≠g:=fun e=>by
 have ad:w.heap[h]?=_:=hb;rw[e,hh]at ad;injection ad with ad
 injection ad with _ h2
 rw[h2]at ht;simp at ht
theorem lO.any{w:aq}{base n:Nat}{A:Option au}(h:lO w base A n)(g i x:Nat)(hx:x<256):lO (w.setCell ⟨g,i,none⟩ (ae .u8 (x:Int))) base A n:=fun h0=>by
 obtain⟨g',o',cur,F,h1,h2,h3,h4,h5⟩:=h h0;by_cases e:g'=g
 ·subst e;refine⟨g',o',cur.setIfInBounds i (ae .u8 (x:Int)),fun j=>if o'+j=i then x else F j,h1,h2,aN w g' i cur _ _ h3,fun j=>by show(if o'+j=i then x else F j)<256;split;exact hx;exact h4 j,fun j hj=>?_⟩;have hs:o'+j<cur.size:=by
   rcases Nat.lt_or_ge (o'+j) cur.size with q|q
   ·exact q
   ·have:=h5 j hj;rw[Array.getElem?_eq_none q]at this;cases this
  rw[Array.getElem?_setIfInBounds];by_cases q:i=o'+j
  ·subst q;simp[hs]
  ·rw[if_neg q];show cur[o'+j]?=some (ae .u8 ((if o'+j=i then x else F j:Nat):Int))
   rw[if_neg (fun e:o'+j=i=>q e.symm)];exact h5 j hj
 ·exact⟨g',o',cur,F,h1,h2,(Below.heap_setCell w _ _ g' (by show g'≠g;exact e)).trans h3,h4,h5⟩
theorem Ln(V:aq)(s ch m:Int)(z:Bool):aw prog 19 #[ah #[ae aj s,ae aj ch,ae aj m,ai z]] V fun e w'=>∃Ah hc Aw wc Ap pc,e=ao (.tuple #[ah (iA (lE s ch m z) Ah hc Aw wc Ap pc),ae aj (oz s ch m)])/\iD w' w'.heap.size (lE s ch m z) Ah hc Aw wc Ap pc/\aR V.heap.size V w':=
 (Du V s ch m z).mono fun e w' ⟨h1,h2⟩=>⟨none,0,none,0,none,0,h1,by unfold lE;split<;>exact⟨ib.nil _ _ _ pF,ib.nil _ _ _ pF,ib.nil _ _ _ pF⟩,h2⟩
def mB(p:iz)(kind n:Nat)(l:List iu)(last:Bool):iz×List Nat:=
 ({(jQ p (ke p.ie p.k.toNat kind (p.wait.take n) l last) (p.wait.take n)).1 with wait:=p.wait.drop n},(jQ p (ke p.ie p.k.toNat kind (p.wait.take n) l last) (p.wait.take n)).2)
theorem rF{l:List Nat}(h:jm l)(n:Nat):jm (l.take n):=fun x hx=>h x (List.mem_of_mem_take hx)
theorem Lp{l:List Nat}(h:jm l)(n:Nat):jm (l.drop n):=fun x hx=>h x (List.mem_of_mem_drop hx)
structure lS (p:iz):Prop where
 ks:iJ p.s p.h p.m=true
 hist:(p.hist.length:Int)<=p.s
 k0:0<=p.k
 k7:p.k<=7
 len:p.ie.length=(p.k.toNat+7)/8
 clean:Qa (hH p.ie) p.k.toNat
 iH:p.iH=false
 bh:jm p.hist
 bw:jm p.wait
theorem kD.w{p:iz}(g:kD p):lS p:=⟨g.ks,g.hist,g.k0,g.k7,g.len,g.clean,g.iH,g.bh,g.bw⟩
theorem lS.empty{p:iz}(g:lS p):kD {p with wait:=[]}:=⟨g.ks,g.hist,(by have:=lr g.ks;show((0:Nat):Int)<p.m;omega),g.k0,g.k7,g.len,g.clean,g.iH,g.bh,fun x hx=>by cases hx⟩
theorem lS.set{p:iz}(g:lS p){b:List Nat}(hb:jm b):lS {p with wait:=b}:=⟨g.ks,g.hist,g.k0,g.k7,g.len,g.clean,g.iH,g.bh,hb⟩
theorem Eg{p:iz}(g:lS p)(kind n:Nat)(l:List iu)(last:Bool):lS (mB p kind n l last).1:=by
 have h:=Dg g.empty (vL g.clean kind (p.wait.take n) l last) (rv ..) (rF g.bw n) (w:=[]) (fun x hx=>by cases hx) (by have:=lr g.ks;show((0:Nat):Int)<p.m;omega);exact h.w.set (Lp g.bw n)
theorem Eh(p:iz)(raw:List Nat)(n:Nat)(hw:p.wait.take n=raw):mB p (kr p raw) n (jq p raw) false=({(kC p raw).1 with wait:=p.wait.drop n},(kC p raw).2):=by
 unfold mB;rw[hw];rfl
theorem Lr{p:iz}{N:Nat}(hm:iJ p.s p.h p.m=true)(hN:p.wait.length<=N)(h:p.m.toNat<=p.wait.length):
  P4 N p p.wait=((P4 N (mB p (kr p (p.wait.take p.m.toNat)) p.m.toNat (jq p (p.wait.take p.m.toNat)) false).1 (p.wait.drop p.m.toNat)).1,(mB p (kr p (p.wait.take p.m.toNat)) p.m.toNat (jq p (p.wait.take p.m.toNat)) false).2++(P4 N (mB p (kr p (p.wait.take p.m.toNat)) p.m.toNat (jq p (p.wait.take p.m.toNat)) false).1 (p.wait.drop p.m.toNat)).2):=by
 have hs:=lr hm
 rw[Eh p _ _ rfl]
 obtain⟨M,rfl⟩:∃M,N=M+1:=⟨N-1,by omega⟩
 have e:P4 (M+1) ({(kC p (p.wait.take p.m.toNat)).1 with wait:=p.wait.drop p.m.toNat}) (p.wait.drop p.m.toNat)=P4 M (kC p (p.wait.take p.m.toNat)).1 (p.wait.drop p.m.toNat):=by
  rw[ua];exact Dm _ _ _ _ hm (by rw[List.length_drop];omega) (by rw[List.length_drop];omega)
 show _=((P4 (M+1) _ _).1,_++(P4 (M+1) _ _).2)
 rw[e]
 simp only[P4]
 rw[if_pos h]
theorem Ls{p:iz}{N:Nat}(h:¬p.m.toNat<=p.wait.length):P4 N p p.wait=(p,[]):=by
 cases N with
 |zero=>rfl
 |succ N=>simp only[P4];rw[if_neg h]
theorem Lu{p:iz}(g:lS p){raw:List Nat}{n:Nat}(hw:p.wait.take n=raw):(mB p (kr p raw) n (jq p raw) false).2.length<=6+raw.length:=by
 rw[Eh p raw n hw];have h:=Dl (p:={p with wait:=[]}) g.empty raw;have h7:=g.k7;have h2:(kC p raw).2.length+((kC p raw).1.k.toNat+7)/8<=(p.k.toNat+7)/8+5+raw.length:=h;show(kC p raw).2.length<=_
 omega
theorem Lv{p:iz}(q:iz×List Nat)(hq:q=mB p (kr p p.wait) p.wait.length (jq p p.wait) true):jR p=({q.1 with ie:=[],k:=0,iH:=true},q.2++q.1.ie):=by
 rw[hq];unfold mB;rw[List.take_length,List.drop_length];obtain⟨E,hE⟩:=gX (ke p.ie p.k.toNat (kr p p.wait) p.wait (jq p p.wait) true);have he:mJ p=(E.1,8*E.1.length):=by unfold mJ;rw[<-hE]
 unfold jR;rw[he,<-hE];unfold jQ;show({p with hist:=_,ie:=E.1.drop (8*E.1.length/8),k:=((8*E.1.length%8:Nat):Int),wait:=[],iH:=true},E.1.take (8*E.1.length/8))=({p with hist:=_,wait:=[],ie:=[],k:=0,iH:=true},E.1.take (E.2/8)++E.1.drop (E.2/8))
 rw[show 8*E.1.length/8=E.1.length by omega,List.drop_length,List.take_length,List.take_append_drop,show 8*E.1.length%8=0 by omega];rfl
def qe(x:Nat×Nat):Prop:=x.1<2^x.2/\x.2<=16
def lT(F:Nat->Nat)(L:Nat):Nat:=F L+256*F (L+1)+65536*F (L+2)
theorem yU(f:Nat->Nat)(k v:Nat):∀n j,j<k/8->Qf f k v n j=f j
 |0,_,_=>rfl
 |n+1,j,h=>by
  simp only[Qf];unfold kP iG;rw[if_neg (by omega)];exact yU f k v n j h
theorem Lw(G:Nat->Nat)(k n b:Nat)(hn:n<=15):lT (kP G (k+n) b) (k/8)=lT G (k/8)+b*2^(k%8+n):=by
 obtain⟨p,hp⟩:=gX (2^((k+n)%8));have hd:(k+n)/8=k/8\/(k+n)/8=k/8+1\/(k+n)/8=k/8+2:=by omega
 rcases hd with hd|hd|hd
 ·have e:2^(k%8+n)=p:=by rw[hp,show(k+n)%8=k%8+n by omega]
  rw[e];unfold lT kP iG;rw[hd,<-hp,if_pos rfl,if_neg (by omega),if_neg (by omega)];omega
 ·have e:2^(k%8+n)=256*p:=by rw[hp,show k%8+n=8+(k+n)%8 by omega,Nat.pow_add]
  rw[e,Nat.mul_left_comm];unfold lT kP iG;rw[hd,<-hp,if_neg (by omega),if_pos rfl,if_neg (by omega)];omega
 ·have e:2^(k%8+n)=65536*p:=by rw[hp,show k%8+n=16+(k+n)%8 by omega,Nat.pow_add]
  rw[e,Nat.mul_left_comm];unfold lT kP iG;rw[hd,<-hp,if_neg (by omega),if_neg (by omega),if_pos rfl];omega
theorem yW{f:Nat->Nat}{k:Nat}(hc:Qa f k)(v:Nat):∀n,n<=16->lT (Qf f k v n) (k/8)=f (k/8)+(v%2^n)*2^(k%8)
 |0,_=>by
  unfold lT;simp only[Qf];rw[hc.2.1 (k/8+1) (by omega),hc.2.1 (k/8+2) (by omega),Nat.pow_zero,Nat.mod_one];omega
 |n+1,h=>by
  have ih:=yW hc v n (by omega);simp only[Qf];rw[Lw _ _ _ _ (by omega),ih,Nat.mod_pow_succ,Nat.add_mul,Nat.add_assoc,Nat.mul_comm (2^n),Nat.mul_assoc,<-Nat.pow_add,Nat.add_comm n]
theorem Lx{F:Nat->Nat}(hF:∀j,F j<256)(L:Nat)(h:F (L+3)=0):lT F L%256=F L/\lT F L/256=lT F (L+1):=by
 have h0:=hF L;have h1:=hF (L+1);have h2:=hF (L+2);unfold lT;rw[show L+1+1=L+2 by omega,show L+1+2=L+3 by omega,h];omega
theorem Ei{F:Nat->Nat}{K:Nat}(h:Qa F K)(j:Nat)(hj:K<8*j):F j=0:=h.2.1 j (by omega)
theorem Ly{F:Nat->Nat}{K:Nat}(h:Qa F K):lT F (K/8)=F (K/8):=by
 unfold lT;rw[h.2.1 (K/8+1) (by omega),h.2.1 (K/8+2) (by omega)];omega
theorem Lz{F:Nat->Nat}(hF:∀j,F j<256)(L:Nat):lT F L<16777216:=by
 have h0:=hF L;have h1:=hF (L+1);have h2:=hF (L+2);unfold lT;omega
theorem LC(f:Nat->Nat)(k:Nat):kP f k 0=f:=by
 funext j;unfold kP iG;by_cases h:j=k/8
 ·rw[if_pos h,h];omega
 ·rw[if_neg h]
theorem yY(f:Nat->Nat)(k:Nat):∀n,Qf f k 0 n=f
 |0=>rfl
 |n+1=>by
  simp only[Qf];rw[yY f k n,Nat.zero_div,Nat.zero_mod,LC]
theorem Ej(f:Nat->Nat):∀n k,iE f k (List.replicate n (0,1))=f
 |0,_=>rfl
 |n+1,k=>by
  rw[List.replicate_succ];simp only[iE];rw[yY,Ej f n]
theorem LD(f:Nat->Nat)(k p:Nat)(P:List (Nat×Nat)):iE f k ((0,p)::P)=iE f k (List.replicate p (0,1)++P)/\PR ((0,p)::P)=PR (List.replicate p (0,1)++P):=by
 constructor
 ·rw[mj,Ej,yv];simp only[iE];rw[yY]
 ·rw[jC,yv];rfl
theorem LG{f:Nat->Nat}{k:Nat}(hc:Qa f k)(h8:k%8=0)(v:Nat)(hv:v<256):Qf f k v 8=iG f (k/8) v:=by
 have ad:=hc.put v 8;have h1:=yW hc v 8 (by omega);have hz:f (k/8)=0:=by have:=hc.2.2;rw[h8]at this;have e:(2:Nat)^0=1:=rfl;omega
 have e1:(2:Nat)^0=1:=rfl;have e2:(2:Nat)^8=256:=rfl;rw[h8,hz,e1,e2,Nat.mod_eq_of_lt hv]at h1;have z1:=Ei ad (k/8+2) (by omega);have z2:=ad.2.2;rw[show(k+8)/8=k/8+1 by omega,show(k+8)%8=0 by omega,e1]at z2;unfold lT at h1;funext j;unfold iG;by_cases h:j=k/8
 ·rw[if_pos h,h];omega
 ·rw[if_neg h];rcases Nat.lt_or_ge j (k/8)with g|g
  ·exact yU f k v 8 j g
  ·rw[hc.2.1 j (by omega)];rcases Nat.lt_or_ge (k/8+1) j with g2|g2
   ·exact Ei ad j (by omega)
   ·obtain rfl:j=k/8+1:=by omega
    omega
def qH(f:Nat->Nat)(L n:Nat)(r:Nat->Nat)(j:Nat):Nat:=if j<L then f j else if j<L+n then r (j-L)else 0
theorem Ek{f:Nat->Nat}{k:Nat}(hc:Qa f k)(h8:k%8=0)(r:Nat->Nat)(hr:∀j,r j<256):∀n,iE f k ((List.range n).map fun i=>(r i,8))=qH f (k/8) n r
 |0=>by
  funext j;simp only[List.range_zero,List.map_nil,iE];unfold qH;by_cases h:j<k/8
  ·rw[if_pos h]
  ·rw[if_neg h,if_neg (by omega)];rcases Nat.lt_or_ge (k/8) j with g|g
   ·exact hc.2.1 j g
   ·have:=hc.2.2;rw[h8]at this;have e:(2:Nat)^0=1:=rfl;rw[show j=k/8 by omega];omega
 |n+1=>by
  have ih:=Ek hc h8 r hr n;have ad:=hc.rW ((List.range n).map fun i=>(r i,8));rw[tY,ih]at ad;rw[List.range_succ,List.map_append,mj,tY,ih];simp only[List.map_cons,List.map_nil,iE];rw[LG ad (by omega) _ (hr n),show(k+8*n)/8=k/8+n by omega];funext j;unfold iG qH;by_cases h:j=k/8+n
  ·rw[if_pos h,if_neg (by omega),if_pos (by omega),show j-k/8=n by omega]
  ·rw[if_neg h];by_cases h1:j<k/8
   ·rw[if_pos h1,if_pos h1]
   ·rw[if_neg h1,if_neg h1];by_cases h2:j<k/8+n
    ·rw[if_pos h2,if_pos (by omega)]
    ·rw[if_neg h2,if_neg (by omega)]
theorem l7{v b:Nat}(hv:v<2^b)(hb:b<=16):qe (v,b):=⟨hv,hb⟩
theorem LH{t:iu}(hm:iO t=true)(hx:t.x<256)(h0:t.n≠0):qe ((ll t.n).toNat,(kY t.n).toNat)/\qe ((lC t.d).toNat,(kZ t.d).toNat):=by
 obtain⟨ad,al,_⟩:=(mH hm hx).2.2 h0;obtain⟨_,_,_,_,p1,p2,p3,p4⟩:=rR ad;obtain⟨_,_,_,_,q1,q2,q3,q4⟩:=rS al;exact⟨l7 (by omega) (by omega),l7 (by omega) (by omega)⟩
theorem LI{l:List iu}(hl:l.length<=1000000){r:Int×Int}(hr:r∈jV l):qe (r.2.toNat,(jG r.1).toNat):=by
 obtain⟨s0,al,x0,ad,hx⟩:=(sf l hl).1 r hr;have hb:=vA r.1;have e2:jG r.1=(kL r.1:Nat):=by unfold jG;rw[if_pos (by omega)]
 rw[e2,Int.toNat_natCast];exact l7 (by omega) (by omega)
def ku(s h m:Int):Int:=if iJ s h m=true then 0 else 8
def qI(t:iu):Int:=if iO t=true then 0 else 8
theorem wF:(prog.info? 27).map (·.size)=some 4:=by kernel_rfl
theorem pG(w:aq)(s h m:Int)(z:Bool):aw prog 31 #[ah #[ae aj s,ae aj h,ae aj m,ai z]] w fun e w'=>e=ao (ae aj (ku s h m))/\aR w.heap.size w w':=by
 have HB:=gW ((Below.refl w.heap.size w).alloc gY (ak #[ae aj s,ae aj h,ae aj m,ai z] 27));by_cases y0:s<1
 ·have d0:decide (s<1)=true:=by simp;omega
  have e:ku s h m=8:=by unfold ku;rw[if_neg];unfold iJ;simp;omega
  rw[e];go_enter func31,ntmps31
  go_wp2;go_ret;exact⟨rfl,HB.out⟩
 have d0:decide (s<1)=false:=by simp;omega
 by_cases y1:32768<s
 ·have d1:decide (32768<s)=true:=by simp;omega
  have e:ku s h m=8:=by unfold ku;rw[if_neg];unfold iJ;simp;omega
  rw[e];go_enter func31,ntmps31
  go_wp2;go_ret;exact⟨rfl,HB.out⟩
 have d1:decide (32768<s)=false:=by simp;omega
 by_cases y2:h<0
 ·have d2:decide (h<0)=true:=by simp;omega
  have e:ku s h m=8:=by unfold ku;rw[if_neg];unfold iJ;simp;omega
  rw[e];go_enter func31,ntmps31
  go_wp2;go_ret;exact⟨rfl,HB.out⟩
 have d2:decide (h<0)=false:=by simp;omega
 by_cases y3:256<h
 ·have d3:decide (256<h)=true:=by simp;omega
  have e:ku s h m=8:=by unfold ku;rw[if_neg];unfold iJ;simp;omega
  rw[e];go_enter func31,ntmps31
  go_wp2;go_ret;exact⟨rfl,HB.out⟩
 have d3:decide (256<h)=false:=by simp;omega
 by_cases y4:m<1
 ·have d4:decide (m<1)=true:=by simp;omega
  have e:ku s h m=8:=by unfold ku;rw[if_neg];unfold iJ;simp;omega
  rw[e];go_enter func31,ntmps31
  go_wp2;go_ret;exact⟨rfl,HB.out⟩
 have d4:decide (m<1)=false:=by simp;omega
 by_cases y5:65535<m
 ·have d5:decide (65535<m)=true:=by simp;omega
  have e:ku s h m=8:=by unfold ku;rw[if_neg];unfold iJ;simp;omega
  rw[e];go_enter func31,ntmps31
  go_wp2;go_ret;exact⟨rfl,HB.out⟩
 have d5:decide (65535<m)=false:=by simp;omega
 have e:ku s h m=0:=by unfold ku;rw[if_pos];unfold iJ;simp;omega
 rw[e];go_enter func31,ntmps31
 go_wp2;go_ret;exact⟨rfl,HB.out⟩
def oT(t:iu):Bool:=t.n !=0||t.d !=0
theorem El(w:aq)(t:iu):aw prog 124 #[ah #[ae .u8 (t.x:Int),ae aj t.d,ae aj t.n]] w fun e w'=>e=ao (ai (oT t))/\aR w.heap.size w w':=by
 obtain⟨x,d,n⟩:=t;have HB:=gW ((Below.refl w.heap.size w).alloc gY (ak #[ae .u8 (x:Int),ae aj d,ae aj n] 127));by_cases h0:n=0
 ·subst h0;have e:oT ⟨x,d,0⟩=(d !=0):=by simp[oT]
  rw[e];clear e;go_enter func124,ntmps124
  go_wp2;go_ret;exact⟨rfl,HB.out⟩
 ·have e0:(n !=0)=true:=by simp[h0]
  have e:oT ⟨x,d,n⟩=true:=by simp[oT,h0]
  rw[e];clear e;go_enter func124,ntmps124
  go_wp2;go_ret;exact⟨rfl,HB.out⟩
theorem Em(w:aq)(t:iu):aw prog 104 #[ah #[ae .u8 (t.x:Int),ae aj t.d,ae aj t.n]] w fun e w'=>e=ao (ae aj (if t.n<1 then 1 else t.n))/\aR w.heap.size w w':=by
 obtain⟨x,d,n⟩:=t;have HB:=gW ((Below.refl w.heap.size w).alloc gY (ak #[ae .u8 (x:Int),ae aj d,ae aj n] 127));by_cases h0:n<1
 ·rw[if_pos h0];go_enter func104,ntmps104
  go_wp2;go_ret;exact⟨rfl,HB.out⟩
 ·rw[if_neg h0];go_enter func104,ntmps104
  go_wp2;go_ret;exact⟨rfl,HB.out⟩
theorem LJ(w:aq)(t:iu)(_:sG t):aw prog 98 #[ah #[ae .u8 (t.x:Int),ae aj t.d,ae aj t.n]] w fun e w'=>e=ao (ae aj (qI t))/\aR w.heap.size w w':=by
 obtain⟨x,d,n⟩:=t;obtain⟨W1,al⟩:=gX (w.alloc (ak #[ae .u8 (x:Int),ae aj d,ae aj n] 128));have aZ:=gW al;have aU:aR w.heap.size w W1:=by rw[al];exact ix.alloc gY _
 have aV:W1.heap.size=w.heap.size+1:=by rw[al];simp
 have aS:W1.heap[w.heap.size]?=some (ak #[ae .u8 (x:Int),ae aj d,ae aj n] 128 (0,0)):=by rw[al];exact aG w _
 have aW:=gW aU;have a1:=gW aV;have aX:=gW aS
 have HM:=gW (El W1 ⟨x,d,n⟩);clear al aU aV aS;obtain⟨E,hE⟩:=gX (qI ⟨x,d,n⟩);rw[<-hE];obtain⟨b,hb⟩:=gX (oT ⟨x,d,n⟩);rw[<-hb]at HM;have HE:=gW hE;have aY:=gW hb
 clear hE hb;go_enter func98,ntmps98
 go_wp2_with fail
 rw[<-aZ.out];refine HM.out.mono ?_;rintro e w2 ⟨rfl,aT⟩;have ad:=gW (aW.out.trans (aT.mono aW.out.size));have av:w2.heap[w.heap.size]?=some (ak #[ae .u8 (x:Int),ae aj d,ae aj n] 128 (0,0)):=(aT.block _ (by have:=a1.out;omega)).trans aX.out;have x0:w2.cell? ⟨w.heap.size,0,none⟩=some (ae .u8 (x:Int)):=(aH w2 _ 0 _ _ (0,0) av).trans rfl;have x1:w2.cell? ⟨w.heap.size,1,none⟩=some (ae aj d):=(aH w2 _ 1 _ _ (0,0) av).trans rfl;have x2:w2.cell? ⟨w.heap.size,2,none⟩=some (ae aj n):=(aH w2 _ 2 _ _ (0,0) av).trans rfl;clear aT av;cases b with
 |false=>
  have hz:n=0/\d=0:=by have h:=aY.out.symm;simp[oT]at h;exact h
  obtain rfl:E=0:=by rw[HE.out];unfold qI;rw[if_pos];simp[iO,hz.1,hz.2]
  go_wp2;go_ret;exact⟨rfl,ad.out⟩
 |true=>
  have hz:¬(n=0/\d=0):=by have h:=aY.out.symm;simp[oT]at h;omega
  have key:∀P:Prop,(iO ⟨x,d,n⟩=true↔P)->(¬P->E=8)/\(P->E=0):=fun P hP=>⟨fun h=>by rw[HE.out];unfold qI;rw[if_neg (fun g=>h (hP.1 g))],fun h=>by rw[HE.out];unfold qI;rw[if_pos (hP.2 h)]⟩
  have hk:=key (¬n<3/\¬258<n/\¬d<1/\¬32768<d/\x=0) (by unfold iO;simp only[decide_eq_true_eq];omega);clear key;by_cases y0:n<3
  ·have d0:decide (n<3)=true:=by simp;omega
   obtain rfl:E=8:=hk.1 (by omega);clear hk;go_wp2;go_ret;exact⟨rfl,ad.out⟩
  have d0:decide (n<3)=false:=by simp;omega
  by_cases y1:258<n
  ·have d1:decide (258<n)=true:=by simp;omega
   obtain rfl:E=8:=hk.1 (by omega);clear hk;go_wp2;go_ret;exact⟨rfl,ad.out⟩
  have d1:decide (258<n)=false:=by simp;omega
  by_cases y2:d<1
  ·have d2:decide (d<1)=true:=by simp;omega
   obtain rfl:E=8:=hk.1 (by omega);clear hk;go_wp2;go_ret;exact⟨rfl,ad.out⟩
  have d2:decide (d<1)=false:=by simp;omega
  by_cases y3:32768<d
  ·have d3:decide (32768<d)=true:=by simp;omega
   obtain rfl:E=8:=hk.1 (by omega);clear hk;go_wp2;go_ret;exact⟨rfl,ad.out⟩
  have d3:decide (32768<d)=false:=by simp;omega
  by_cases y4:x=0
  ·subst y4;have d4:(((0:Nat):Int) !=0)=false:=by decide
   obtain rfl:E=0:=hk.2 (by omega);clear hk;go_wp2;go_ret;exact⟨rfl,ad.out⟩
  ·have d4:((x:Int) !=0)=true:=by simp;omega
   obtain rfl:E=8:=hk.1 (by omega);clear hk;go_wp2;go_ret;exact⟨rfl,ad.out⟩
theorem En(w:aq)(A:Option au)(n c:Nat)(f:Nat->Nat)(hr:ib w w.heap.size A n c f)(hn:n<=2000000):
  aw prog 63 #[af A n c] w fun e w'=>∃A' c',e=ao (af A' n c')/\w'.ownsRow w.heap.size 5 1 (af A' n c') n (iw n f)/\aR w.heap.size w w':=by
 rcases A with _|ad
 ·obtain rfl:=hr.2.1 rfl;have h0:n=0:=by have:=hr.2.2.1;omega
  subst h0;clear hr;have aU:∀(w:aq) (a:Option au) (n c n' c':Nat),(binOp .eql 22 (af a n c) (af none n' c')).run prog w=.ok (ai a.isNone) w:=fun w a n c n' c'=>Lib.run_eql_slice_nil w _ _ a n c n' c' underlying22
  go_enter func63,ntmps63
  go_wp2;go_ret;exact⟨none,0,rfl,World.ownsRow_nil _ _ _ _,Below.refl _ _⟩
 ·have aU:∀(w:aq) (a:Option au) (n c n' c':Nat),(binOp .eql 22 (af a n c) (af none n' c')).run prog w=.ok (ai a.isNone) w:=fun w a n c n' c'=>Lib.run_eql_slice_nil w _ _ a n c n' c' underlying22
  have al:aR w.heap.size w (w.alloc (ak #[] 5)):=ix.alloc gY _;have av:(w.alloc (ak #[] 5)).ownsRow w.heap.size 5 1 (af (some ⟨w.heap.size,0,none⟩) 0 0) 0 (iw 0 f):=World.ownsRow_made w #[] 0 gY (Nat.zero_le _) rfl;obtain⟨A',c',w',h1,h2,h3⟩:=sO _ w.heap.size (w.alloc (ak #[] 5)).heap.size _ 0 f av (some ad) n c f ((hr.1.below al gY).more al.size) (by omega) 22 (fun h=>by cases h) al.size;rw[Nat.zero_add]at h1 h2;have e:cat f 0 f=f:=by funext j;unfold cat;rw[if_neg (by omega)];rfl
  rw[e]at h2;have aS:=gW h1;have aT:=gW h2;have HB:=gW (al.trans h3)
  clear h1 h2 h3 av al hr e;go_enter func63,ntmps63
  go_wp2_with (at_builtin;refine wpList_append_run rfl (.tmp 5) (.tmp 6) 22 rfl (af (some ⟨w.heap.size,0,none⟩) 0 0) (af (some ad) n c) (af A' n c') w' rfl rfl aS.out ?_)
  go_ret;exact⟨A',c',rfl,aT.out,HB.out⟩
theorem oU{w:aq}{base sz n h:Nat}{e t:aB}{v:ax}{xs:List ax}{cs:Array ax}(ho:w.ownsRow base e sz v n xs)(hh:w.heap[h]?=some (ak cs t (0,0)))(ad:(e==t)=false):v.ownBlock≠some h:=fun hk=>by
 rcases ho.2 with⟨rfl,_⟩|⟨g,cap,cur,rfl,_,hg,_⟩
 ·simp[Value.ownBlock]at hk
 ·simp[Value.ownBlock]at hk;subst hk;rw[hg]at hh;injection hh with hh
  injection hh with _ h2 _
  rw[h2]at ad;simp at ad
theorem qf{B:Nat}{a w:aq}(h:aR B a w){g:Nat}(hp:B<=g)(cs:Array ax):aR B a (w.setRow g cs):=
 ⟨h.os,h.tape,h.output,by rw[size_setRow];exact h.size,fun k hk=>(setRow_other w g k cs (by omega)).trans (h.block k hk)⟩
theorem uv(t:iu):(jK t).toArray.all (·.oneCell')=true:=by simp[jK,Value.oneCell']
theorem tA(t:iu):(prog.info? 128).map (·.size)=some (jK t).toArray.size:=tf
theorem Eo{T E:aB}{z:ax}{sz kS:Nat}(hT:prog.underlying T=some (.slice E))(hI:(prog.info? E).map (fun i=>(i.zero,i.size,i.bytes))=some (some z,sz,kS))(hz:z.cells.size=sz)(aT:0<sz)
  (w:aq) (base B:Nat) (v0:ax) (n:Nat) (xs:List ax) (al:w.ownsRow base E sz v0 n xs) (A:Option au) (m c:Nat) (ys:List ax) (hr:iQ w B sz A m ys) (h1:∀u∈ys,u.oneCell'=true)
  (aU:n+m<=maxLen) (aV:(n+m)*kS<=140737488355328) (ty:aB) (hA:A=none->c=0) (aS:base<=w.heap.size):
  ∃A' c' w',(Builtin.append_ #[T,T] ty #[v0,af A m c]).run prog w=.ok (af A' (n+m) c') w'/\w'.ownsRow base E sz (af A' (n+m) c') (n+m) (xs++ys)/\w.grownBy w' v0.ownBlock/\((Value.slice A' (n+m) c').ownBlock=v0.ownBlock\/(Value.slice A' (n+m) c').ownBlock=some w.heap.size):=by
 obtain⟨i0,hi,aW,aX,aY⟩:=info_parts hI
 have key:∃v' w',(Builtin.append_ #[T,T] ty #[v0,af A m c]).run prog w=.ok v' w'/\w'.ownsRow base E sz v' (n+m) (xs++ys)/\w.grownBy w' v0.ownBlock/\(v'.ownBlock=v0.ownBlock\/v'.ownBlock=some w.heap.size):=by
  rcases A with _|ad
  ·have h0:m=0:=by
    rcases Nat.eq_zero_or_pos m with h|h
    ·exact h
    ·obtain⟨b,o,h,_⟩:=hr.2 h;cases h
   subst h0;obtain rfl:=hA rfl;have hy:ys=[]:=List.length_eq_zero_iff.1 (by have:=hr.1;omega);subst hy;refine⟨v0,w,run_append_owned_none (P:=prog) (w:=w) base T ty E i0 sz hT hi v0 n _ al,?_,World.grownBy.refl _ _,.inl rfl⟩;simpa using al
  ·have av:∀j u,ys[j]?=some u->w.cell? (ad.add j)=some u:=by
    intro j u hu;have hm:0<m:=by
     rcases Nat.eq_zero_or_pos m with h|h
     ·have hy:ys=[]:=List.length_eq_zero_iff.1 (by have:=hr.1;rw[h]at this;omega);rw[hy]at hu;cases hu
     ·exact h
    obtain⟨b,o,h,_,hc⟩:=hr.2 hm;injection h with h
    subst h;have e:(⟨b,o,none⟩:au).add j=⟨b,o+j,none⟩:=by unfold Addr.add;split<;>simp_all
    rw[e];exact hc j u hu
   obtain⟨v',w',h1,h2,h3,_,h5⟩:=run_append_own_at (P:=prog) w base T ty E i0 z sz kS hT hi aW aX aY hz aT v0 n xs al ad m c ys hr.1 av h1 aU aV aS;exact⟨v',w',h1,h2,h3,h5⟩
 obtain⟨v',w',h1,h2,h3,h5⟩:=key
 have hv:∃A' c',v'=af A' (n+m) c':=by
  rcases h2.2 with⟨rfl,h⟩|⟨g,cap,cur,rfl,_⟩
  ·exact⟨none,0,by rw[h]⟩
  ·exact⟨_,_,rfl⟩
 obtain⟨A',c',rfl⟩:=hv
 exact⟨A',c',w',h1,h2,h3,h5⟩
theorem Ep(w:aq)(base:Nat)(A:Option au)(n c:Nat)(F:Nat->Nat)(av:w.ownsRow base 5 1 (af A n c) n (iw n F))(x:Nat)(hx:x=F n)(hn:n<=1000000000)(ad:base<=w.heap.size):
  ∃A' c' w',(Builtin.append_ #[22,22] 22 #[af A n c,af (some ⟨w.heap.size,0,none⟩) 1 1]).run prog (w.alloc (ak #[ae .u8 (x:Int)] 5))=.ok (af A' (n+1) c') w'/\
   w'.ownsRow base 5 1 (af A' (n+1) c') (n+1) (iw (n+1) F)/\aR base w w'/\(∀k,k<w.heap.size->(Value.slice A n c).ownBlock≠some k->w'.heap[k]?=w.heap[k]?)/\(∀j,(Value.slice A' (n+1) c').ownBlock=some j->(Value.slice A n c).ownBlock=some j\/w.heap.size<=j):=by
 subst hx
 have al:aR base w (w.alloc (ak #[ae .u8 (F n:Int)] 5)):=(Below.refl base w).alloc ad _
 have aS:=av.alloc (ak #[ae .u8 (F n:Int)] 5)
 obtain⟨A',c',w',h2,o2,b2,h5⟩:=Eo (z:=ae .u8 0) (kS:=1) underlying22 pz rfl (by decide) (w.alloc (ak #[ae .u8 (F n:Int)] 5)) base _ (af A n c) n _ aS _ 1 1 _
  (iQ.new w 1 1 #[ae .u8 (F n:Int)] 5 rfl) (fun u hu=>by simp at hu;subst hu;rfl) (by unfold maxLen;omega) (by omega) 22 (fun h=>by cases h) (Nat.le_trans ad al.size)
 refine⟨A',c',w',h2,?_,al.trans ((Below.refl base _).grown b2 (Nat.le_trans ad al.size) (pN aS)),fun k hk aT=>?_,fun j hj=>?_⟩
 ·have e:iw n F++(#[Value.int .u8 (F n:Int)]:Array ax).toList=iw (n+1) F:=by
   unfold iw;rw[List.range_succ,List.map_append];rfl
  rw[e]at o2;exact o2
 ·refine(b2.block k (by simp;omega) (fun e=>aT e.symm)).trans ?_;exact(Below.refl w.heap.size w).alloc gY (ak #[ae .u8 (F n:Int)] 5)|>.block k hk
 ·rcases h5 with h5|h5
  ·exact .inl (h5▸hj)
  ·rw[h5]at hj;injection hj with hj
   simp at hj;exact .inr (by omega)
theorem wG(w:aq)(base:Nat)(A:Option au)(n c:Nat)(F:Nat->Nat)(al:w.ownsRow base 5 1 (af A n c) n (iw n F))(A2:Option au)(m c2:Nat)(r G:Nat->Nat)(hr:ib w w.heap.size A2 m c2 r)(hG:∀j,j<n->G j=F j)(aS:∀j,j<m->G (n+j)=r j)(hn:n+m<=1000000000)(ad:base<=w.heap.size):
  ∃A' c' w',(Builtin.append_ #[22,22] 22 #[af A n c,af A2 m c2]).run prog w=.ok (af A' (n+m) c') w'/\
   w'.ownsRow base 5 1 (af A' (n+m) c') (n+m) (iw (n+m) G)/\aR base w w'/\(∀k,k<w.heap.size->(Value.slice A n c).ownBlock≠some k->w'.heap[k]?=w.heap[k]?)/\(∀j,(Value.slice A' (n+m) c').ownBlock=some j->(Value.slice A n c).ownBlock=some j\/w.heap.size<=j):=by
 have av:iQ w w.heap.size 1 A2 m (iw m r):=by
  refine⟨by simp[iw],fun h0=>?_⟩;obtain⟨b,o,h1,h2,h3⟩:=hr.1.2 h0;refine⟨b,o,h1,h2,fun j u hu=>?_⟩;have hj:j<m:=by
   rcases Nat.lt_or_ge j m with g|g
   ·exact g
   ·rw[List.getElem?_eq_none (by simpa[iw]using g)]at hu;cases hu
  rw[h3 j hj,<-hu];simp[iw,hj]
 obtain⟨A',c',w',h2,o2,b2,h5⟩:=Eo (z:=ae .u8 0) (kS:=1) underlying22 pz rfl (by decide) w base _ (af A n c) n _ al A2 m c2 _
  av (fun u hu=>by simp[iw]at hu;obtain⟨_,_,rfl⟩:=hu;rfl) (by unfold maxLen;omega) (by omega) 22 hr.2.1 ad
 refine⟨A',c',w',h2,?_,(Below.refl base _).grown b2 ad (pN al),fun k hk aT=>b2.block k hk (fun e=>aT e.symm),fun j hj=>?_⟩
 ·have e:iw n F++iw m r=iw (n+m) G:=by
   unfold iw;rw[List.range_add,List.map_append,List.map_map];congr 1
   ·refine List.map_congr_left fun j hj=>?_
    rw[hG j (List.mem_range.1 hj)]
   ·refine List.map_congr_left fun j hj=>?_
    simp only[Function.comp];rw[aS j (List.mem_range.1 hj)]
  rw[e]at o2;exact o2
 ·rcases h5 with h5|h5
  ·exact .inl (h5▸hj)
  ·rw[h5]at hj;injection hj with hj
   exact .inr (by omega)
theorem mV{w w':aq}{base sz n:Nat}{e:aB}{v:ax}{xs:List ax}(h:w.ownsRow base e sz v n xs)(hk:∀j,v.ownBlock=some j->w'.heap[j]?=w.heap[j]?):w'.ownsRow base e sz v n xs:=by
 obtain⟨h1,h2⟩:=h;refine⟨h1,?_⟩;rcases h2 with h2|⟨g,cap,cur,hv,hg,hh,r⟩
 ·exact .inl h2
 ·exact .inr ⟨g,cap,cur,hv,hg,(hk g (by rw[hv];rfl)).trans hh,r⟩
theorem oD{w:aq}{base sz n:Nat}{e:aB}{v:ax}{xs:List ax}(h:w.ownsRow base e sz v n xs):∀j,v.ownBlock=some j->base<=j/\j<w.heap.size:=by
 intro j hj;rcases h.2 with⟨rfl,_⟩|⟨g,cap,cur,rfl,hg,hh,_⟩
 ·simp[Value.ownBlock]at hj
 ·simp[Value.ownBlock]at hj;subst hj;exact⟨hg,(Array.getElem?_eq_some_iff.1 hh).1⟩
theorem iC.set{S:Nat->Prop}{w:aq}{p:au}(h:¬S p.block)(v:ax):iC S w (w.setCell p v):=fun k hk=>Below.heap_setCell w p v k (fun e=>h (e▸hk))
theorem iC.below{S:Nat->Prop}{w w':aq}(h:∀j,S j->j<w.heap.size)(hb:aR w.heap.size w w'):iC S w w':=fun k hk=>hb.block k (h k hk)
theorem iC.less{S S':Nat->Prop}{w w':aq}(h:iC S w w')(hs:∀j,S' j->S j):iC S' w w':=fun k hk=>h k (hs k hk)
theorem iC.drew{S:Nat->Prop}{w w':aq}(h:iC S w w'):iC S w w'.drew:=h
structure kf (w:aq) (S:Nat->Prop) (B g:Nat) (F:Nat->Nat) (L R q:Nat) (A:Option au) (c:Nat):Prop where
 base:B<=g
 size:B<=w.heap.size
 out:¬S g
 row:w.heap[g]?=some (ak #[af A L c,ae .u64 (R:Int),ae aj (q:Int)] 131 (0,0))
 own:w.ownsRow B 5 1 (af A L c) L (iw L F)
 pD:∀j,(Value.slice A L c).ownBlock=some j->¬S j
 top:∀j,S j->j<w.heap.size
theorem kf.lt{w:aq}{S:Nat->Prop}{B g:Nat}{F:Nat->Nat}{L R q:Nat}{A:Option au}{c:Nat}(h:kf w S B g F L R q A c):g<w.heap.size:=(Array.getElem?_eq_some_iff.1 h.row).1
theorem kf.ne{w:aq}{S:Nat->Prop}{B g:Nat}{F:Nat->Nat}{L R q:Nat}{A:Option au}{c:Nat}(h:kf w S B g F L R q A c):(Value.slice A L c).ownBlock≠some g:=oU h.own h.row (by kernel_rfl)
theorem kf.drew{w:aq}{S:Nat->Prop}{B g:Nat}{F:Nat->Nat}{L R q:Nat}{A:Option au}{c:Nat}(h:kf w S B g F L R q A c):kf w.drew S B g F L R q A c:=⟨h.1,h.2,h.3,h.4,h.5,h.6,h.7⟩
theorem kf.cells{w:aq}{S:Nat->Prop}{B g:Nat}{F:Nat->Nat}{L R q:Nat}{A:Option au}{c:Nat}(h:kf w S B g F L R q A c):
  w.cell? ⟨g,0,none⟩=some (af A L c)/\w.cell? ⟨g,1,none⟩=some (ae .u64 (R:Int))/\w.cell? ⟨g,2,none⟩=some (ae aj (q:Int))/\w.frozen? ⟨g,0,none⟩=false/\w.frozen? ⟨g,1,none⟩=false/\w.frozen? ⟨g,2,none⟩=false:=
 ⟨(aH w g 0 _ _ (0,0) h.row).trans rfl,(aH w g 1 _ _ (0,0) h.row).trans rfl,(aH w g 2 _ _ (0,0) h.row).trans rfl,aO w g 0 _ _ h.row,aO w g 1 _ _ h.row,aO w g 2 _ _ h.row⟩
theorem kf.rest{w:aq}{S:Nat->Prop}{B g:Nat}{F:Nat->Nat}{L R q:Nat}{A:Option au}{c:Nat}(h:kf w S B g F L R q A c)(R':Nat):kf (w.setCell ⟨g,1,none⟩ (ae .u64 (R':Int))) S B g F L R' q A c:=
 ⟨h.base,by simpa[World.setCell]using h.size,h.out,(aN w g 1 _ _ _ h.row).trans (by simp),mV h.own fun j hj=>Below.heap_setCell w _ _ j (fun e=>h.ne (by rw[hj,e])),h.pD,fun j hj=>by simpa[World.setCell]using h.top j hj⟩
theorem kf.left{w:aq}{S:Nat->Prop}{B g:Nat}{F:Nat->Nat}{L R q:Nat}{A:Option au}{c:Nat}(h:kf w S B g F L R q A c)(q':Nat):kf (w.setCell ⟨g,2,none⟩ (ae aj (q':Int))) S B g F L R q' A c:=
 ⟨h.base,by simpa[World.setCell]using h.size,h.out,(aN w g 2 _ _ _ h.row).trans (by simp),mV h.own fun j hj=>Below.heap_setCell w _ _ j (fun e=>h.ne (by rw[hj,e])),h.pD,fun j hj=>by simpa[World.setCell]using h.top j hj⟩
theorem kf.less{w:aq}{S S':Nat->Prop}{B g:Nat}{F:Nat->Nat}{L R q:Nat}{A:Option au}{c:Nat}(h:kf w S B g F L R q A c)(hs:∀j,S' j->S j):kf w S' B g F L R q A c:=
 ⟨h.base,h.size,fun k=>h.out (hs _ k),h.row,h.own,fun j hj k=>h.pD j hj (hs _ k),fun j hj=>h.top j (hs _ hj)⟩
theorem kf.grow{w w':aq}{S:Nat->Prop}{B g:Nat}{F:Nat->Nat}{L R q:Nat}{A:Option au}{c:Nat}(h:kf w S B g F L R q A c)(hb:aR w.heap.size w w'):kf w' (fun j=>S j\/(w.heap.size<=j/\j<w'.heap.size)) B g F L R q A c:=
 ⟨h.base,Nat.le_trans h.size hb.size,fun k=>k.elim h.out fun k=>by have:=h.lt;omega,(hb.block g h.lt).trans h.row,mV h.own fun j hj=>hb.block j (oD h.own j hj).2,fun j hj k=>k.elim (h.pD j hj) fun k=>by have:=(oD h.own j hj).2;omega,
  fun j hj=>hj.elim (fun k=>Nat.lt_of_lt_of_le (h.top j k) hb.size) fun k=>k.2⟩
theorem kf.after{w w':aq}{S:Nat->Prop}{B g:Nat}{F:Nat->Nat}{L R q:Nat}{A:Option au}{c:Nat}(h:kf w S B g F L R q A c)(hb:aR w.heap.size w w'):kf w' S B g F L R q A c:=(h.grow hb).less fun _ k=>.inl k
theorem kf.LK{w:aq}{S:Nat->Prop}{B g:Nat}{F G:Nat->Nat}{L R q:Nat}{A:Option au}{c:Nat}(h:kf w S B g F L R q A c)(e:∀j,j<L->F j=G j):kf w S B g G L R q A c:=⟨h.1,h.2,h.3,h.4,by have:=h.5;rwa[ta e]at this,h.6,h.7⟩
theorem kf.grown{w w':aq}{S:Nat->Prop}{B g:Nat}{F G:Nat->Nat}{L L' R q:Nat}{A A':Option au}{c c':Nat}(h:kf w S B g F L R q A c)(ho:w'.ownsRow B 5 1 (af A' L' c') L' (iw L' G))(hb:aR B w w')
  (hk:∀k,k<w.heap.size->(Value.slice A L c).ownBlock≠some k->w'.heap[k]?=w.heap[k]?) (hw:∀j,(Value.slice A' L' c').ownBlock=some j->(Value.slice A L c).ownBlock=some j\/w.heap.size<=j):
  kf (w'.setCell ⟨g,0,none⟩ (af A' L' c')) S B g G L' R q A' c'/\iC S w (w'.setCell ⟨g,0,none⟩ (af A' L' c'))/\aR B w (w'.setCell ⟨g,0,none⟩ (af A' L' c')):=by
 have hg:=(hk g h.lt h.ne).trans h.row
 have ad:(Value.slice A' L' c').ownBlock≠some g:=oU ho hg (by kernel_rfl)
 have al:∀j,(Value.slice A' L' c').ownBlock=some j->¬S j:=fun j hj k=>(hw j hj).elim (fun e=>h.pD j e k) fun e=>by have:=h.top j k;omega
 refine⟨⟨h.base,Nat.le_trans h.size (by simpa[World.setCell]using hb.size),h.out,(aN w' g 0 _ _ _ hg).trans (by simp),mV ho fun j hj=>Below.heap_setCell w' _ _ j (fun e=>ad (by rw[hj,e])),al,fun j hj=>Nat.lt_of_lt_of_le (h.top j hj) (by simpa[World.setCell]using hb.size)⟩,?_,hb.setCell h.base _⟩
 exact fun j hj=>(Below.heap_setCell w' _ _ j (fun e=>h.out (by have e:j=g:=e;rwa[e]at hj))).trans (hk j (h.top j hj) fun e=>h.pD j e hj)
def iX(w:aq)(S:Nat->Prop)(B g:Nat)(f:Nat->Nat)(k:Nat):Prop:=Qa f k/\∃A c,kf w S B g f (k/8) (f (k/8)) (k%8) A c
theorem iX.less{w:aq}{S S':Nat->Prop}{B g k:Nat}{f:Nat->Nat}(h:iX w S B g f k)(hs:∀j,S' j->S j):iX w S' B g f k:=by
 obtain⟨h1,A,c,h2⟩:=h;exact⟨h1,A,c,h2.less hs⟩
theorem iX.grow{w w':aq}{S:Nat->Prop}{B g k:Nat}{f:Nat->Nat}(h:iX w S B g f k)(hb:aR w.heap.size w w'):iX w' (fun j=>S j\/(w.heap.size<=j/\j<w'.heap.size)) B g f k:=by
 obtain⟨h1,A,c,h2⟩:=h;exact⟨h1,A,c,h2.grow hb⟩
theorem iX.after{w w':aq}{S:Nat->Prop}{B g k:Nat}{f:Nat->Nat}(h:iX w S B g f k)(hb:aR w.heap.size w w'):iX w' S B g f k:=(h.grow hb).less fun _ k=>.inl k
theorem iX.drew{w:aq}{S:Nat->Prop}{B g k:Nat}{f:Nat->Nat}(h:iX w S B g f k):iX w.drew S B g f k:=by
 obtain⟨h1,A,c,h2⟩:=h;exact⟨h1,A,c,h2.drew⟩
theorem iX.lt{w:aq}{S:Nat->Prop}{B g k:Nat}{f:Nat->Nat}(h:iX w S B g f k):g<w.heap.size:=by
 obtain⟨h1,A,c,h2⟩:=h;exact h2.lt
theorem iX.top{w:aq}{S:Nat->Prop}{B g k:Nat}{f:Nat->Nat}(h:iX w S B g f k):∀j,S j->j<w.heap.size:=by
 obtain⟨h1,A,c,h2⟩:=h;exact h2.top
theorem iX.size{w:aq}{S:Nat->Prop}{B g k:Nat}{f:Nat->Nat}(h:iX w S B g f k):B<=w.heap.size:=by
 obtain⟨h1,A,c,h2⟩:=h;exact h2.size
theorem Er(x:Nat×Nat):(ln x).toArray.all (·.oneCell')=true:=by simp[ln,Value.oneCell']
theorem yZ(x:Nat×Nat):(prog.info? 169).map (·.size)=some (ln x).toArray.size:=by simp only[ln];kernel_rfl
theorem LL(x:Nat×Nat):(prog.info? 169).map (·.size)=some (ln x).length:=by simp only[ln];kernel_rfl
theorem LM(a b i:Nat)(ha:a<18446744073709551616)(h:b<18446744073709551616)(hb:a<2^i)(hd:2^i∣b):bits .or .u64 (a:Int) (b:Int)=((a+b:Nat):Int):=by
 have hx:a|||b<2^64:=Nat.or_lt_two_pow (by omega) (by omega)
 have e:a|||b=a+b:=by rw[Nat.or_comm,xj b a i hb hd,Nat.add_comm]
 rw[<-e];show IntKind.u64.wrap ((BitVec.ofInt 64 (a:Int)|||BitVec.ofInt 64 (b:Int)).toNat:Int)=_
 rw[BitVec.toNat_or,oW 64 a (by omega),oW 64 b (by omega),IntKind.wrap_u64];omega
def pH(S:Nat->Prop)(A:Option au)(m:Nat):Prop:=∀b o,0<m->A=some ⟨b,o,none⟩->S b
theorem LN(w:aq)(S:Nat->Prop)(B g:Nat)(f:Nat->Nat)(K:Nat)(A2:Option au)(m c2:Nat)(P:List (Nat×Nat))(h:iX w S B g f K)(hp:mo w w.heap.size A2 P)(hS:pH S A2 m)(hm:m=P.length)(c8:m<=1000)(bp:∀x∈P,qe x)(hk:K+PR P<=16000000):
  aw prog 105 #[ag (some ⟨g,0,none⟩),af A2 m c2] w fun e w'=>e=ao (.tuple #[])/\iX w' S B g (iE f K P) (K+PR P)/\iC S w w'/\aR B w w':=by
 have H:=gW h;have HP:=gW hp;have HS:=gW hS;have HM:=gW hm;have HF:=gW bp;have HK:=gW hk
 clear h hp hS hm bp hk
 go_enter func105,ntmps105
 go_wp2_with fail
 go_loopw [8] (fun iv wr=>∃i:Nat,i<=m/\iv=ae aj (i:Int)/\aQ (iX wr S B g (iE f K (P.take i)) (K+PR (P.take i)))/\aQ (iC S w wr)/\aQ (aR B w wr)) (fun iv _=>m-(aP iv).toNat)
 case atStart=>exact⟨0,Nat.zero_le _,rfl,gW H.out,gW (iC.refl _ _),gW ix⟩
 case round=>
  obtain⟨i,hi,rfl,HR,bG,HB⟩:=hrel;by_cases cz:i<m
  ·have bT:(i:Int)<(m:Int):=by omega
   have a6:i<P.length:=by rw[<-HM.out];exact cz
   obtain⟨b,o,rfl,cA,hc⟩:=HP.out.at a6;have bU:S b:=HS.out b o (by omega) rfl;have bq:=HP.out.range rfl a6;have bH:wr.rangeAt b (o+i*2) (ln (P.getD i oq)):=fun j v hv=>by rw[bG.out.cell (p:=⟨b,o+i*2+j,none⟩) bU];exact bq j v hv
   obtain⟨x1,x2⟩:=HF.out _ (C8 a6);obtain⟨aS,a7⟩:=C7 (f:=f) (k:=K) a6;have cB:=vy P i;have bV:=vy P (i+1);obtain⟨⟨v,n⟩,ht⟩:∃t,t=P.getD i oq:=⟨_,rfl⟩;rw[<-ht]at bH x1 x2 aS a7;dsimp only at x1 x2 aS a7;obtain⟨k,hk⟩:=gX (K+PR (P.take i));obtain⟨G,hG⟩:=gX (iE f K (P.take i));have hr:=HR.out;rw[<-hG,<-hk]at hr aS;obtain⟨a8,A,c,hq⟩:=hr;obtain⟨F1,aV⟩:=gX (Qf G k v n);rw[<-aV]at aS;have br:Qa F1 (k+n):=by rw[aV];exact a8.put v n
   have aW:=yW a8 v n x2;rw[<-aV,Nat.mod_eq_of_lt x1]at aW;have bt:∀j,j<k/8->G j=F1 j:=fun j hj=>by rw[aV];exact(yU G k v n j hj).symm
   have bW:=hq.LK bt;have bX:k+n=K+PR (P.take (i+1)):=by rw[a7,hk];omega
   have c9:k+n<=16000000:=by have:=HK.out;omega
   have cZ:v<65536:=by
    have:(2:Nat)^n<=2^16:=Nat.pow_le_pow_right (by omega) x2;have e:(2:Nat)^16=65536:=rfl;omega
   obtain⟨h,hh⟩:=gX (wr.heap.size);obtain⟨W2,a9⟩:=gX (iP wr #[ae .u32 0,ae aj 0] (ln (v,n)).toArray 169);have av:aR wr.heap.size wr W2:=by rw[a9];exact kU _ _ _ _
   have aX:W2.heap[h]?=some (ak (ln (v,n)).toArray 169 (0,0)):=by rw[a9,hh];exact lq wr _ _ _
   have bd:=bW.after av;have bu:iC S w W2:=bG.out.tr (iC.below hq.top av);have bY:aR B w W2:=HB.out.trans (av.mono hq.size);have y0:W2.cell? ⟨h,0,none⟩=some (ae .u32 (v:Int)):=(aH W2 _ 0 _ _ (0,0) aX).trans rfl;have y1:W2.cell? ⟨h,1,none⟩=some (ae aj (n:Int)):=(aH W2 _ 1 _ _ (0,0) aX).trans rfl;obtain⟨z0,z1,z2,e0,e1,e2⟩:=bd.cells;have da:g<h:=by rw[hh];exact hq.lt
   obtain⟨R,hR⟩:=gX (G (k/8));obtain⟨q,bf⟩:=gX (k%8);obtain⟨L,hL⟩:=gX (k/8);rw[<-hR,<-bf,<-hL]at bd;rw[<-hL]at z0;rw[<-hR]at z1;rw[<-bf]at z2;have aT:q<8:=by omega
   have cC:=gW bH;have cD:=gW a9;have bg:=gW bd;have bz:=gW bu;have bZ:=gW bY;have HH:=gW hh;have bA:=gW aW;have al:=gW br;have cE:=gW bX;have cF:=gW aS;have HR:=gW hR;have bI:=gW bf;have HL:=gW hL;have b0:=gW a8
   clear bH a9 bd bu bY hh aW br bX aS hR bf hL aX av bW bt aV a8 hq a7 ht cB bV hc bq bU cA x1 hk hG;go_wp2_with (first|refine wpList_load_mid rfl _ _ rfl b (o+i*2) rfl (ln (v,n)) _ cC.out underlying169 rfl (LL _) ?_|refine aC rfl _ _ _ rfl rfl wr.heap.size (ln (v,n)).toArray rfl rfl 169 #[ae .u32 0,ae aj 0] (aG wr _) (yZ _) rfl (Er _) ?_;change wpList _ _ _ _ _ (iP wr #[ae .u32 0,ae aj 0] (ln (v,n)).toArray 169);rw[<-cD.out,<-HH.out])
   go_region;have b1:bits .or .u64 (R:Int) (IntKind.u64.wrap ((v:Int)*2^q))=((lT F1 L:Nat):Int):=by
    have h8:2^q<=2^7:=Nat.pow_le_pow_right (by omega) (by omega);have e7:(2:Nat)^7=128:=rfl;have db:v*2^q<=65535*128:=Nat.mul_le_mul (by omega) (by omega);have cG:R<2^q:=by rw[HR.out,bI.out];exact b0.out.2.2
    have e:IntKind.u64.wrap ((v:Int)*2^q)=((v*2^q:Nat):Int):=by rw[zT,IntKind.wrap_u64];omega
    rw[e,LM R (v*2^q) q (by omega) (by omega) cG (Nat.dvd_mul_left _ _),HL.out,bA.out,<-HR.out,<-bI.out]
   rw[b1];have aY:=(bg.out.rest (lT F1 L)).drew;obtain⟨W3,aZ⟩:=gX ((W2.setCell ⟨g,1,none⟩ (ae .u64 ((lT F1 L:Nat):Int))).drew);have bB:iC S w W3:=by rw[aZ];exact(bz.out.tr (iC.set bg.out.out _)).drew
   have b2:aR B w W3:=by rw[aZ];exact(bZ.out.setCell bg.out.base _).drew
   have cH:W3.cell? ⟨h,1,none⟩=some (ae aj (n:Int)):=by rw[aZ];exact(World.cell?_setCell_other _ _ _ _ (fun e=>by have:g=h:=congrArg Addr.block e;omega)).trans y1
   rw[<-aZ]at aY⊢;obtain⟨b3,bJ,b4,b5,b6,b7⟩:=aY.cells;obtain⟨R3,bK⟩:=gX (lT F1 L);rw[<-bK]at aY bJ⊢;have bj:=gW aY;have bC:=gW bB;have b8:=gW b2;have cI:=gW bK
   clear b1 aY bB b2 bK aZ y0 y1 z0 z1 z2 e0 e1 e2 bg bz bZ bA;go_wp2;go_region;have bk:=(bj.out.left (q+n)).drew;rw[Int.natCast_add]at bk;obtain⟨W4,bl⟩:=gX ((W3.setCell ⟨g,2,none⟩ (ae aj ((q:Int)+(n:Int)))).drew);have bD:iC S w W4:=by rw[bl];exact(bC.out.tr (iC.set bj.out.out _)).drew
   have b9:aR B w W4:=by rw[bl];exact(b8.out.setCell bj.out.base _).drew
   rw[<-bl]at bk⊢;have cJ:=gW bk;have ca:=gW bD;have cK:=gW b9
   clear bk bD b9 bl b3 bJ b4 b5 b6 b7 cH bj bC b8;go_wp2;go_loopw [] (fun wx=>∃(t:Nat) (A':Option au) (c':Nat),L<=t/\8*t<=k+n/\aQ (kf wx S B g F1 t (lT F1 t) (k+n-8*t) A' c')/\aQ (iC S w wx)/\aQ (aR B w wx)) (fun wx=>(aP ((wx.cell? ⟨g,2,none⟩).getD (ae aj 0))).toNat)
   case atStart=>
    refine⟨L,A,c,Nat.le_refl _,by have:=HL.out;omega,gW ?_,ca,cK⟩;have:=cJ.out;rw[show k+n-8*L=q+n by have:=HL.out;have:=bI.out;omega,<-cI.out];exact this
   case round=>
    obtain⟨t,At,ct,dc,dd,HQ,cb,cf⟩:=hrel;obtain⟨s,hs⟩:=gX (k+n-8*t);have ad:=HQ.out;rw[<-hs]at ad;obtain⟨Rv,a1⟩:=gX (lT F1 t);have bL:=Lz al.out.1 t;rw[<-a1]at ad bL;obtain⟨z0,z1,z2,e0,e1,e2⟩:=ad.cells;have de:s<=16000000:=by omega
    have cL:=gW ad;have bM:=gW hs;have cM:=gW a1
    have cN:=HL.out;by_cases df:8<=s
    ·have cg:(8:Int)<=(s:Int):=by omega
     have hz:F1 (t+3)=0:=al.out.2.1 _ (by omega);obtain⟨bN,bO⟩:=Lx al.out.1 t hz;rw[<-a1]at bN bO;obtain⟨x,hx⟩:=gX (F1 t);obtain⟨A',c',w',ch,cj,av,bm,ck⟩:=Ep wr.drew B At t ct F1 (ad.drew).own x hx (by omega) ad.size;obtain⟨bP,a2,bQ⟩:=ad.drew.grown cj av bm ck;rw[<-hx]at bN;obtain⟨R5,bR⟩:=gX (lT F1 (t+1));rw[<-bR]at bO;have dg:IntKind.u8.wrap (Rv:Int)=(x:Int):=by rw[IntKind.wrap_u8];omega
     have dh:(Rv:Int)%256=(x:Int):=by omega
     have di:(Rv:Int)/256=(R5:Int):=by omega
     have cO:8*(t+1)<=k+n:=by omega
     obtain⟨W5,bS⟩:=gX (w'.setCell ⟨g,0,none⟩ (af A' (t+1) c'));have cl:=gW ch;rw[<-bS]at bP a2 bQ;have bn:=gW bP;have cm:=gW (cb.out.tr a2);have cP:=gW (cf.out.drew.trans bQ);have cQ:=gW bS;have cR:=gW bR
     have dj:g<wr.heap.size:=ad.lt;have cS:w'.frozen? ⟨g,0,none⟩=false:=aO w' g 0 _ _ ((bm g ad.lt ad.ne).trans ad.row);have cT:w'.cell? ⟨g,0,none⟩=some (af At t ct):=(aH w' g 0 _ _ (0,0) ((bm g ad.lt ad.ne).trans ad.row)).trans rfl;have cU:=gW z2;clear ch bP a2 bQ bS bR cj av bm ck bN bO hx hs a1 ad cN hz bL;go_wp2;go_region_law ((refine sT rfl (.tmp 45) (.tmp 51) 22 22 rfl (af At t ct) (af (some ⟨wr.heap.size,0,none⟩) 1 1) rfl rfl (af A' (t+1) c') w' cl.out ?_))
     all_goals(
      rw[<-cQ.out];obtain⟨b3,bJ,b4,b5,b6,b7⟩:=bn.out.cells;have aU:=bn.out.rest R5;obtain⟨W6,a3⟩:=gX (W5.setCell ⟨g,1,none⟩ (ae .u64 (R5:Int)));rw[<-a3]at aU;have bE:iC S w W6:=by rw[a3];exact cm.out.tr (iC.set bn.out.out _)
      have cn:aR B w W6:=by rw[a3];exact cP.out.setCell bn.out.base _
      obtain⟨_,_,z6,_,_,e6⟩:=aU.cells;have aT:=aU.left (s-8);have cp:((s-8:Nat):Int)=(s:Int)-8:=by omega
      rw[cp]at aT;obtain⟨W7,a4⟩:=gX (W6.setCell ⟨g,2,none⟩ (ae aj ((s:Int)-8)));rw[<-a4]at aT;have bF:iC S w W7:=by rw[a4];exact bE.tr (iC.set aU.out _)
      have cq:aR B w W7:=by rw[a4];exact cn.setCell aU.base _
      obtain⟨_,_,z7,_,_,_⟩:=aT.cells;have cV:=gW aT;have cr:=gW bF;have cW:=gW cq;have cu:=gW a3;have cv:=gW a4;have cX:=gW z7
      clear aU bE cn aT bF cq a3 a4 cp z0 z1 z2 e0 e1 e2 cS cT z7;go_wp2;go_roundw
      case rel=>
       rw[<-cu.out,<-cv.out];exact⟨t+1,A',c',by omega,cO,gW (by rw[<-cR.out,show k+n-8*(t+1)=s-8 by have:=bM.out;omega];exact cV.out),cr,cW⟩
      case measure=>rw[<-cu.out,<-cv.out,cU.out,cX.out];simp[aP];omega)
    ·have cg:¬(8:Int)<=(s:Int):=by omega
     have cw:t=(k+n)/8:=by have:=bM.out;omega
     have cx:s=(k+n)%8:=by have:=bM.out;omega
     have a5:iX wr S B g F1 (k+n):=by
      refine⟨al.out,At,ct,?_⟩;have h1:=cL.out;rw[cM.out,cw,Ly al.out,cx]at h1;exact h1
     rw[cE.out,<-cF.out]at a5;have cy:=gW a5;clear a5 cw cx bL ad hs a1;go_wp2;go_roundw
     case rel=>exact⟨i+1,by omega,by go_num,cy,cb,cf⟩
     case measure=>simp[aP];omega
  ·obtain rfl:i=m:=by omega
   have bT:¬(i:Int)<(i:Int):=by omega
   have hr:=HR.out;rw[HM.out,List.take_length]at hr;have cY:=gW hr;clear hr HR;go_wp2;go_end0;exact⟨rfl,cY.out,bG.out,HB.out⟩
def jZ(p:iz)(Ah:Option au)(hc:Nat)(Aw:Option au)(wc:Nat)(Ap:Option au)(pc:Nat)(Ao:Option au)(on oc:Nat):Array ax:=
 #[ae aj p.s,ae aj p.h,ae aj p.m,ai p.z,af Ah p.hist.length hc,af Aw p.wait.length wc,af Ap p.ie.length pc,ae aj p.k,ai p.iH,af Ao on oc]
theorem wH(p:iz)(Ah:Option au)(hc:Nat)(Aw:Option au)(wc:Nat)(Ap:Option au)(pc:Nat)(Ao:Option au)(on oc:Nat):l5 (jZ p Ah hc Aw wc Ap pc Ao on oc):=fun i x=>by
 unfold jZ;rcases i with _|_|_|_|_|_|_|_|_|_|i<;>simp
def jw(A:Option au)(n:Nat)(v:ax):Prop:=∀b o,0<n->A=some ⟨b,o,none⟩->v.ownBlock≠some b
structure iT (w:aq) (B g:Nat) (p:iz) (out:List Nat) (Ah:Option au) (hc:Nat) (Aw:Option au) (wc:Nat) (Ap:Option au) (pc:Nat) (Ao:Option au) (oc:Nat):Prop where
 box:gZ w g (jZ p Ah hc Aw wc Ap pc Ao out.length oc) 62
 le:B<=g
 row:ib w w.heap.size Ah (p.hist.length+p.wait.length) hc (hH (p.hist++p.wait))
 wait:ib w w.heap.size Aw p.wait.length wc (hH p.wait)
 ie:ib w w.heap.size Ap p.ie.length pc (hH p.ie)
 own:w.ownsRow B 5 1 (af Ao out.length oc) out.length (iw out.length (hH out))
 bo:jm out
 nr:jw Ah (p.hist.length+p.wait.length) (af Ao out.length oc)
 nw:jw Aw p.wait.length (af Ao out.length oc)
 np:jw Ap p.ie.length (af Ao out.length oc)
section
variable {w w':aq} {B g:Nat} {p p':iz} {out:List Nat} {Ah:Option au} {hc:Nat} {Aw:Option au} {wc:Nat} {Ap:Option au} {pc:Nat} {Ao:Option au} {oc:Nat}
theorem iT.lt(U:iT w B g p out Ah hc Aw wc Ap pc Ao oc):g<w.heap.size:=U.box.lt
theorem iT.below(U:iT w B g p out Ah hc Aw wc Ap pc Ao oc)(hb:aR w.heap.size w w'):iT w' B g p out Ah hc Aw wc Ap pc Ao oc:=
 ⟨U.box.below hb U.lt,U.le,(U.row.below hb gY).more hb.size,(U.wait.below hb gY).more hb.size,(U.ie.below hb gY).more hb.size,qz U.own hb,U.bo,U.nr,U.nw,U.np⟩
theorem iT.ne(U:iT w B g p out Ah hc Aw wc Ap pc Ao oc):(Value.slice Ao out.length oc).ownBlock≠some g:=oU U.own U.box (by kernel_rfl)
theorem iT.hist(U:iT w B g p out Ah hc Aw wc Ap pc Ao oc):ib w w.heap.size Ah p.hist.length hc (hH p.hist):=by
 refine⟨⟨fun j=>kH (fun x hx=>?_) j,fun h0=>?_⟩,U.row.2.1,by have:=U.row.2.2.1;omega,U.row.2.2.2⟩
 ·obtain⟨i,hi,rfl⟩:=List.mem_iff_getElem.1 hx;have:=U.row.1.1 i;rw[oO]at this;unfold cat at this;rw[if_pos hi]at this;unfold hH at this;rwa[List.getD_eq_getElem?_getD,List.getElem?_eq_getElem hi]at this
 ·obtain⟨b,o,e,hb,ad⟩:=U.row.1.2 (by omega);refine⟨b,o,e,hb,fun j hj=>?_⟩;have:=ad j (by omega);rw[oO]at this;unfold cat at this;rwa[if_pos hj]at this
theorem ib.off{B0 n c:Nat}{A:Option au}{f:Nat->Nat}{cs:Array ax}{t:aB}(h:ib w B0 A n c f)(hg:gZ w g cs t)(hn:l5 cs)(ho:∀j,j≠g->w'.heap[j]?=w.heap[j]?):ib w' B0 A n c f:=by
 refine⟨⟨h.1.1,fun h0=>?_⟩,h.2⟩;obtain⟨b,o,e,hb,ad⟩:=h.1.2 h0;have al:=yJ h.1 hg hn h0 e;refine⟨b,o,e,hb,fun j hj=>?_⟩;have h1:=ad j hj;have h2:=ho b al;simp only[World.cell?,h2]at h1⊢;exact h1
theorem iT.put(U:iT w B g p out Ah hc Aw wc Ap pc Ao oc){ad:Option au}{aS:Nat}{al:Option au}{aT:Nat}{av:Option au}{aU:Nat}(hs:w'.heap.size=w.heap.size)(ho:∀j,j≠g->w'.heap[j]?=w.heap[j]?)(hx:gZ w' g (jZ p' ad aS al aT av aU Ao out.length oc) 62)
  (r1:ib w w.heap.size ad (p'.hist.length+p'.wait.length) aS (hH (p'.hist++p'.wait))) (r2:ib w w.heap.size al p'.wait.length aT (hH p'.wait)) (r3:ib w w.heap.size av p'.ie.length aU (hH p'.ie))
  (n1:jw ad (p'.hist.length+p'.wait.length) (af Ao out.length oc)) (n2:jw al p'.wait.length (af Ao out.length oc)) (n3:jw av p'.ie.length (af Ao out.length oc)):iT w' B g p' out ad aS al aT av aU Ao oc:=by
 have k:∀{A:Option au} {n c:Nat} {f:Nat->Nat},ib w w.heap.size A n c f->ib w' w'.heap.size A n c f:=fun r=>by rw[hs];exact r.off U.box (wH _ _ _ _ _ _ _ _ _ _) ho
 exact⟨hx,U.le,k r1,k r2,k r3,mV U.own fun j hj=>ho j fun e=>U.ne (by rw[hj,e]),U.bo,n1,n2,n3⟩
theorem iT.LO(U:iT w B g p out Ah hc Aw wc Ap pc Ao oc){ad:Option au}{aS:Nat}{al:Option au}{aT:Nat}{av:Option au}{aU:Nat}(i:Nat)(v:ax)(he:(jZ p Ah hc Aw wc Ap pc Ao out.length oc).setIfInBounds i v=jZ p' ad aS al aT av aU Ao out.length oc)
  (r1:ib w w.heap.size ad (p'.hist.length+p'.wait.length) aS (hH (p'.hist++p'.wait))) (r2:ib w w.heap.size al p'.wait.length aT (hH p'.wait)) (r3:ib w w.heap.size av p'.ie.length aU (hH p'.ie))
  (n1:jw ad (p'.hist.length+p'.wait.length) (af Ao out.length oc)) (n2:jw al p'.wait.length (af Ao out.length oc)) (n3:jw av p'.ie.length (af Ao out.length oc)):iT (w.setCell ⟨g,i,none⟩ v) B g p' out ad aS al aT av aU Ao oc:=
 U.put (by simp[World.setCell]) (fun j hj=>Below.heap_setCell w _ v j hj) (he▸U.box.set i v) r1 r2 r3 n1 n2 n3
theorem iT.wI(U:iT w B g p out Ah hc Aw wc Ap pc Ao oc){ad:Option au}{aS:Nat}{al:Option au}{aT:Nat}{av:Option au}{aU:Nat}(i j:Nat)(v u:ax)(he:((jZ p Ah hc Aw wc Ap pc Ao out.length oc).setIfInBounds i v).setIfInBounds j u=jZ p' ad aS al aT av aU Ao out.length oc)
  (r1:ib w w.heap.size ad (p'.hist.length+p'.wait.length) aS (hH (p'.hist++p'.wait))) (r2:ib w w.heap.size al p'.wait.length aT (hH p'.wait)) (r3:ib w w.heap.size av p'.ie.length aU (hH p'.ie))
  (n1:jw ad (p'.hist.length+p'.wait.length) (af Ao out.length oc)) (n2:jw al p'.wait.length (af Ao out.length oc)) (n3:jw av p'.ie.length (af Ao out.length oc)):iT ((w.setCell ⟨g,i,none⟩ v).setCell ⟨g,j,none⟩ u) B g p' out ad aS al aT av aU Ao oc:=
 U.put (by simp[World.setCell]) (fun k hk=>(Below.heap_setCell _ _ u k hk).trans (Below.heap_setCell w _ v k hk)) (he▸(U.box.set i v).set j u) r1 r2 r3 n1 n2 n3
theorem iT.grown(U:iT w B g p out Ah hc Aw wc Ap pc Ao oc){qg:Option au}{qh:Nat}{more:List Nat}(hm:jm more)(ho:w'.ownsRow B 5 1 (af qg (out++more).length qh) (out++more).length (iw (out++more).length (hH (out++more))))(hs:w.heap.size<=w'.heap.size)
  (hk:∀k,k<w.heap.size->(Value.slice Ao out.length oc).ownBlock≠some k->w'.heap[k]?=w.heap[k]?) (hw:∀j,(Value.slice qg (out++more).length qh).ownBlock=some j->(Value.slice Ao out.length oc).ownBlock=some j\/w.heap.size<=j):
  iT (w'.setCell ⟨g,9,none⟩ (af qg (out++more).length qh)) B g p (out++more) Ah hc Aw wc Ap pc qg qh:=by
 have hg:gZ w' g (jZ p Ah hc Aw wc Ap pc Ao out.length oc) 62:=(hk g U.lt U.ne).trans U.box
 have al:(Value.slice qg (out++more).length qh).ownBlock≠some g:=oU ho hg (by kernel_rfl)
 have k:∀{A:Option au} {n c:Nat} {f:Nat->Nat},ib w w.heap.size A n c f->jw A n (af Ao out.length oc)->ib (w'.setCell ⟨g,9,none⟩ (af qg (out++more).length qh)) (w'.setCell ⟨g,9,none⟩ (af qg (out++more).length qh)).heap.size A n c f:=fun{A n c f} r nr=>by
  have r':ib w' w'.heap.size A n c f:=⟨⟨r.1.1,fun h0=>by
   obtain⟨b,o,e,hb,ad⟩:=r.1.2 h0;refine⟨b,o,e,by omega,fun j hj=>?_⟩;have h1:=ad j hj;have h2:=hk b hb (nr b o h0 e);simp only[World.cell?,h2]at h1⊢;exact h1⟩,r.2⟩
  have e:(w'.setCell ⟨g,9,none⟩ (af qg (out++more).length qh)).heap.size=w'.heap.size:=by simp[World.setCell]
  rw[e];exact r'.off hg (wH _ _ _ _ _ _ _ _ _ _) (fun j hj=>Below.heap_setCell w' _ _ j hj)
 have q:∀{A:Option au} {n c:Nat} {f:Nat->Nat},ib w w.heap.size A n c f->jw A n (af Ao out.length oc)->jw A n (af qg (out++more).length qh):=fun{A n c f} r nr b o h0 e hx=>by
  obtain⟨b',o',e',hb,_⟩:=r.1.2 h0;rw[e]at e';injection e' with e'
  injection e' with e1 _ _
  rcases hw b hx with h|h
  ·exact nr b o h0 e h
  ·omega
 exact⟨hg.set 9 _,U.le,k U.row U.nr,k U.wait U.nw,k U.ie U.np,mV ho fun j hj=>Below.heap_setCell w' _ _ j fun e=>al (by rw[hj,e]),fun x hx=>(List.mem_append.1 hx).elim (U.bo x) (hm x),q U.row U.nr,q U.wait U.nw,q U.ie U.np⟩
end
theorem ib.from{w:aq}{B n c q:Nat}{A A2:Option au}{L:List Nat}(h:ib w B A n c (hH L))(hq:q<=n)(hA:(if c=q then A else A.map (·.add q))=A2):ib w B A2 (n-q) (c-q) (hH (L.drop q)):=by
 have ef:hH (L.drop q)=fun j=>hH L (j+q):=funext fun j=>tm L q j
 rw[ef];rcases A with _|a
 ·have h0:=h.2.1 rfl;have hn:n=0:=by have:=h.2.2.1;omega
  have:A2=none:=by rw[<-hA];split<;>rfl
  subst this;exact⟨⟨fun j=>h.1.1 _,fun h=>absurd h (by omega)⟩,fun _=>by omega,by omega,by have:=h.2.2.2;omega⟩
 ·exact h.drop hq hA
theorem jw.from{n c q:Nat}{A A2:Option au}{v:ax}(h:jw A n v)(hq:q<=n)(hA:(if c=q then A else A.map (·.add q))=A2)(hr:0<n->∃b o,A=some ⟨b,o,none⟩):jw A2 (n-q) v:=fun b o h0 e hx=>by
 obtain⟨b',o',e'⟩:=hr (by omega);have hb:b=b':=by
  rw[<-hA]at e;split at e
  ·rw[e']at e;injection e with e;injection e with e1 _ _;exact e1.symm
  ·rw[e']at e;have:(some ((⟨b',o',none⟩:au).add q))=some (⟨b,o,none⟩:au):=e;injection this with this
   have:=congrArg Addr.block this;unfold Addr.add at this;split at this<;>simpa using this.symm
 subst hb;exact h b o' (by omega) e' hx
theorem ib.at{w:aq}{B n c:Nat}{A:Option au}{f:Nat->Nat}(h:ib w B A n c f)(h0:0<n):∃b o,A=some ⟨b,o,none⟩:=by
 obtain⟨b,o,e,_,_⟩:=h.1.2 h0;exact⟨b,o,e⟩
theorem lU{P:az}{l:List aA}{o:aA}{a:Act}{w:aq}{T:ax->aq->Prop}{K:Act->aq->Prop}{Q:Exit->Act->aq->Prop}{E:Prop}(hw:Region.wanted o (aM l.toArray a.tmps)=true)(x:Operand)(ho:o.op=.nilCheck x)(ad:au)(hx:a.eval x=ag (some ad))
  (hT:Up T (ag (some ad)) w) (hK:∀v w',aR w.heap.size w w'->Up T v w'->K (a.put o.dst v) w'):if Region.wanted o (aM l.toArray a.tmps)=true then Oper.wp P o a w K Q else E:=
 oQ hw _ (by simp only[execOp,ho,hx];rfl) hT hK
theorem uw{l:List aA}{o:aA}{a:Act}{w:aq}{T:ax->aq->Prop}{K:Act->aq->Prop}{Q:Exit->Act->aq->Prop}{E:Prop}(hw:Region.wanted o (aM l.toArray a.tmps)=true)(x:Operand)(t:aB)(ho:o.op=.call {callee:=.builtin .len,args:=#[x],argTypes:=#[t]})(A:Option au)(n c:Nat)(hx:a.eval x=af A n c)
  {e:aB} (ht:prog.underlying t=some (.slice e)) (hT:Up T (ae aj (n:Int)) w) (hK:∀v w',aR w.heap.size w w'->Up T v w'->K (a.put o.dst v) w'):if Region.wanted o (aM l.toArray a.tmps)=true then Oper.wp prog o a w K Q else E:=
 oQ hw _ (by
  have h:(Builtin.len_ #[t] o.type #[af A n c]).run prog w=.ok (goInt n) w:=by
   have he:prog.elem t=e:=by unfold Program.elem;rw[ht]
   exact run_len_slice w t o.type A n c (by rw[he];exact ht)
  simp[execOp,ho,resolve,invoke,builtin,hx,h,Result.andThen,goInt]) hT hK
theorem LP{l:List aA}{o:aA}{a:Act}{w:aq}{T:ax->aq->Prop}{K:Act->aq->Prop}{Q:Exit->Act->aq->Prop}{E:Prop}(hw:Region.wanted o (aM l.toArray a.tmps)=true)(x y:Operand)(t t':aB)(ho:o.op=.call {callee:=.builtin .max,args:=#[x,y],argTypes:=#[t,t']})(m n r:Int)(hx:a.eval x=ae aj m)(hy:a.eval y=ae aj n)
  (hr:(if n>m then n else m)=r) (hT:Up T (ae aj r) w) (hK:∀v w',aR w.heap.size w w'->Up T v w'->K (a.put o.dst v) w'):if Region.wanted o (aM l.toArray a.tmps)=true then Oper.wp prog o a w K Q else E:=by
 subst hr
 have h:(Builtin.max_ #[t,t'] o.type #[ae aj m,ae aj n]).run prog w=.ok (ae aj (if n>m then n else m)) w:=by
  exact run_max_int2 ..
 exact oQ hw _ (by simp[execOp,ho,resolve,invoke,builtin,hx,hy,h,Result.andThen]) hT hK
theorem mg{w:aq}{g:Nat}{cs:Array ax}{t:aB}(h:gZ w g cs t)(k:Nat)(l:List ax)(hl:∀i,i<l.length->cs[k+i]?=l[i]?):w.rangeAt g k l:=fun i v hv=>by
 have hi:i<l.length:=by
  rcases Nat.lt_or_ge i l.length with h|h
  ·exact h
  ·rw[List.getElem?_eq_none h]at hv;cases hv
 rw[h.cell,hl i hi];exact hv
theorem LQ(P:az)(t:aB)(x y:Nat)(h:x+y<=9223372036854775807)(w:aq):(binOp .add t (ae aj (x:Int)) (ae aj (y:Int))).run P w=.ok (ae aj ((x+y:Nat):Int)) w:=by
 have e:IntKind.i64.wrap ((x:Int)+(y:Int))=((x+y:Nat):Int):=by rw[<-Int.natCast_add];exact wrap_i64 _ h
 simp[binOp,Op.intArith,go_sem,e]
theorem LR(P:az)(t:aB)(x y:Nat)(hx:x<=4611686018427387904)(hy:y<=4611686018427387904)(w:aq):(binOp .sub t (ae aj (x:Int)) (ae aj (y:Int))).run P w=.ok (ae aj ((x:Int)-(y:Int))) w:=by
 have e:IntKind.i64.wrap ((x:Int)-(y:Int))=(x:Int)-(y:Int):=by
  show(let m:=((x:Int)-(y:Int))%(2^64:Int);if(true&&decide (m≥(2^63:Int)))=true then m-(2^64:Int)else m)=_
  have h1:(2:Int)^64=18446744073709551616:=rfl;have h2:(2:Int)^63=9223372036854775808:=rfl;simp only[h1,h2,Bool.true_and,decide_eq_true_eq];omega
 simp[binOp,Op.intArith,go_sem,e]
theorem Es(w:aq)(B g:Nat)(p:iz)(out:List Nat)(Ah:Option au)(hc:Nat)(Aw:Option au)(wc:Nat)(Ap:Option au)(pc:Nat)(Ao:Option au)(oc:Nat)(U:iT w B g p out Ah hc Aw wc Ap pc Ao oc)(K:Nat)(hk:p.k=(K:Int))(hK:K<=16000000)(bm:K/8<=p.ie.length)(bn:out.length<=100000000):
  aw prog 48 #[ag (some ⟨g,0,none⟩)] w fun e w'=>e=ao (.tuple #[])/\(∃bq br bt bu,iT w' B g {p with ie:=p.ie.drop (K/8),k:=((K%8:Nat):Int)} (out++p.ie.take (K/8)) Ah hc Aw wc bq br bt bu)/\aR B w w':=by
 obtain⟨hn,aY⟩:=gX (p.hist.length)
 obtain⟨wn,aZ⟩:=gX (p.wait.length)
 obtain⟨pn,ad⟩:=gX (p.ie.length)
 obtain⟨on,av⟩:=gX (out.length)
 obtain⟨D,hD⟩:=gX (K/8)
 obtain⟨R,hR⟩:=gX (K%8)
 have aV:D<=pn:=by omega
 have a6:=U.ie.2.2.1
 rw[<-ad]at a6
 have bE:(D:Int)<=(pc:Int):=by omega
 have bF:D<=pc:=by omega
 have a7:B<=w.heap.size:=by have:=U.le;have:=U.lt;omega
 have eX:jZ p Ah hc Aw wc Ap pc Ao out.length oc=#[ae aj p.s,ae aj p.h,ae aj p.m,ai p.z,af Ah hn hc,af Aw wn wc,af Ap pn pc,ae aj (K:Int),ai p.iH,af Ao on oc]:=by
  unfold jZ;rw[<-aY,<-aZ,<-ad,hk,<-av]
 have hx:=U.box
 rw[eX]at hx
 have c6:w.cell? ⟨g,6,none⟩=some (af Ap pn pc):=hx.cell.trans rfl
 have c7:w.cell? ⟨g,7,none⟩=some (ae aj (K:Int)):=hx.cell.trans rfl
 have c9:w.cell? ⟨g,9,none⟩=some (af Ao on oc):=hx.cell.trans rfl
 have bp:=kE U.ie
 have aS:(out++p.ie.take D).length=on+D:=by rw[List.length_append,List.length_take,<-av,<-ad,Nat.min_eq_left aV]
 have a8:ib w w.heap.size Ap D pc (hH (p.ie.take D)):=by
  refine⟨⟨fun j=>kH (rF bp D) j,fun h0=>?_⟩,U.ie.2.1,by omega,U.ie.2.2.2⟩;obtain⟨b,o,e1,e2,e3⟩:=U.ie.1.2 (by omega);exact⟨b,o,e1,e2,fun j hj=>by rw[tp p.ie hj];exact e3 j (by omega)⟩
 have aU:=U.own
 rw[<-av]at aU
 obtain⟨A',c',w1,aX,a9,al,a1,bd⟩:=wG w.drew B Ao on oc (hH out) aU Ap D pc (hH (p.ie.take D)) (hH (out++p.ie.take D)) a8
  (fun j hj=>by rw[oO];unfold cat;rw[if_pos (by omega)]) (fun j hj=>by rw[oO];unfold cat;rw[if_neg (by omega),av,Nat.add_sub_cancel_left]) (by omega) a7
 have al:aR B w w1:=⟨al.os,al.tape,al.output,al.size,al.block⟩
 have a2:gZ w1 g #[ae aj p.s,ae aj p.h,ae aj p.m,ai p.z,af Ah hn hc,af Aw wn wc,af Ap pn pc,ae aj (K:Int),ai p.iH,af Ao on oc] 62:=(a1 g U.lt (by have:=U.ne;rwa[<-av]at this)).trans hx
 have f9:w1.frozen? ⟨g,9,none⟩=false:=a2.free
 have d9:w1.cell? ⟨g,9,none⟩=some (af Ao on oc):=a2.cell.trans rfl
 have U1:iT (w1.setCell ⟨g,9,none⟩ (af A' (on+D) c')) B g p (out++p.ie.take D) Ah hc Aw wc Ap pc A' c':=by
  have:=U.grown (w':=w1) (qg:=A') (qh:=c') (more:=p.ie.take D) (rF bp D) (by rw[aS];exact a9) al.size (by rw[<-av];exact a1) (by rw[aS,<-av];exact bd);rwa[aS]at this
 obtain⟨W2,aW⟩:=gX (w1.setCell ⟨g,9,none⟩ (af A' (on+D) c'))
 rw[<-aW]at U1
 have bf:aR B w W2:=by rw[aW];exact kh al U.le _ _
 have a3:=U1.box
 have bg:jZ p Ah hc Aw wc Ap pc A' (out++p.ie.take D).length c'=#[ae aj p.s,ae aj p.h,ae aj p.m,ai p.z,af Ah hn hc,af Aw wn wc,af Ap pn pc,ae aj (K:Int),ai p.iH,af A' (on+D) c']:=by
  unfold jZ;rw[<-aY,<-aZ,<-ad,hk,aS]
 rw[bg]at a3
 obtain⟨A5,hA5⟩:∃A5,(if pc=D then Ap else Ap.map (·.add D))=A5:=⟨_,rfl⟩
 have RF:aQ (∀V,(Instr.sliceAt 22 (af Ap pn pc) (some (ae aj (D:Int))) none none).run prog V=.ok (af A5 (pn-D) (pc-D)) V):=gW fun V=>ud Ap A5 pn pc D aV hA5 V
 have bz:aQ (∀(V:aq),(binOp .rem 3 (ae aj (K:Int)) (ae aj 8)).run prog V=.ok (ae aj (R:Int)) V):=gW fun V=>by rw[hR];exact yC prog 3 aj K 8 (by omega) V
 have r3:ib W2 W2.heap.size A5 (pn-D) (pc-D) (hH (p.ie.drop D)):=by
  have:=U1.ie;rw[<-ad]at this;exact this.from aV hA5
 have n3:jw A5 (pn-D) (af A' (on+D) c'):=by
  have:=U1.np;rw[<-ad,aS]at this;exact this.from aV hA5 (by have:=U1.ie;rw[<-ad]at this;exact this.at)
 have UF:aQ (∀V,aR W2.heap.size W2 V->iT ((V.setCell ⟨g,6,none⟩ (af A5 (pn-D) (pc-D))).setCell ⟨g,7,none⟩ (ae aj (R:Int))) B g {p with ie:=p.ie.drop D,k:=(R:Int)} (out++p.ie.take D) Ah hc Aw wc A5 (pc-D) A' c'/\aR B w ((V.setCell ⟨g,6,none⟩ (af A5 (pn-D) (pc-D))).setCell ⟨g,7,none⟩ (ae aj (R:Int)))):=gW fun V hV=>by
  have UV:=U1.below hV;have a4:(p.ie.drop D).length=pn-D:=by rw[List.length_drop,<-ad]
  refine⟨UV.wI (p':={p with ie:=p.ie.drop D,k:=(R:Int)}) 6 7 _ _ (by unfold jZ;simp only[a4];rfl) UV.row UV.wait (by show ib V _ A5 (p.ie.drop D).length _ _;rw[a4];exact(r3.below hV gY).more hV.size) UV.nr UV.nw (by show jw A5 (p.ie.drop D).length _;rw[a4,aS];exact n3),kh (kh (bf.trans (hV.mono (by have:=U.le;have:=U1.lt;omega))) U.le _ _) U.le _ _⟩
 have aT:aQ (gZ W2 g #[ae aj p.s,ae aj p.h,ae aj p.m,ai p.z,af Ah hn hc,af Aw wn wc,af Ap pn pc,ae aj (K:Int),ai p.iH,af A' (on+D) c'] 62):=gW a3
 have bj:=gW aX;have bA:=gW aW;have HR:=gW hR;have bG:=gW hD
 have e8:(K:Int)/8=(D:Int):=by omega
 have bH:IntKind.i64.wrap ((K:Int)/8)=(D:Int):=by rw[e8];exact wrap_i64 D (by omega)
 have bI:wrap64 (D:Int)=(D:Int):=by unfold wrap64;omega
 rw[<-hD,<-hR]
 clear U U1 hk hK bm bn aY aZ ad av hD hR a6 a7 eX hx bp aS a8 aU a9 al a1 bd a2 aW bf a3 bg hA5 r3 n3 aX e8
 go_enter func48,ntmps48
 go_wp2
 go_region_law ((refine sT rfl (.tmp 14) (.tmp 22) 22 22 rfl (af Ao on oc) (af Ap D pc) rfl rfl (af A' (on+D) c') w1 bj.out ?_))
 all_goals(
  rw[<-bA.out];go_wp2_with fail
  refine uc 20 (nM [fun v _=>v=ag (some ⟨g,0,none⟩),fun v _=>v=ag (some ⟨g,0,none⟩),fun v _=>v=ag (some ⟨g,0,none⟩),fun v _=>v=ag (some ⟨g,0,none⟩),fun v _=>v=ag (some ⟨g,6,none⟩),fun v _=>v=ag (some ⟨g,6,none⟩),fun v _=>v=af Ap pn pc,fun v _=>v=ae aj (D:Int),fun v _=>v=af A5 (pn-D) (pc-D),fun v _=>v=ag (some ⟨g,0,none⟩),fun v _=>v=ag (some ⟨g,0,none⟩),fun v _=>v=ag (some ⟨g,0,none⟩),fun v _=>v=ag (some ⟨g,6,none⟩),fun v _=>v=ag (some ⟨g,7,none⟩),fun v _=>v=ae aj (K:Int),fun v _=>v=ae aj (R:Int),fun v _=>v=ah #[af A5 (pn-D) (pc-D),ae aj (R:Int)],fun v _=>v=ag (some ⟨g,0,none⟩),fun v _=>v=ag (some ⟨g,0,none⟩),fun v _=>v=ag (some ⟨g,6,none⟩)]) W2 ix (by kernel_rfl) (by kernel_rfl) ?_ ?_
  case refine_1=>
   simp only[List.take_succ_cons,List.take_zero];refine ia.cons (fun aa wv hb ha hS Kk Qq hK=>iS (ic rfl) _ rfl (ij ((ha 0 (by kernel_rfl)).trans rfl)) hK) ?_;refine ia.cons (fun aa wv hb ha hS Kk Qq hK=>iS (ic rfl) _ rfl (ij ((ha 0 (by kernel_rfl)).trans rfl)) hK) ?_;refine ia.cons (fun aa wv hb ha hS Kk Qq hK=>lU (ic rfl) _ rfl _ (hS 1 27 (by kernel_rfl) rfl).here (ij rfl) hK) ?_;refine ia.cons (fun aa wv hb ha hS Kk Qq hK=>iL (ic rfl) _ _ _ rfl _ (ag (some ⟨g,0,none⟩)) (hS 2 28 (by kernel_rfl) rfl).here (by go_simp) (ij rfl) hK) ?_;refine ia.cons (fun aa wv hb ha hS Kk Qq hK=>iL (ic rfl) _ _ _ rfl _ (ag (some ⟨g,6,none⟩)) (hS 3 29 (by kernel_rfl) rfl).here (by go_simp) (ij rfl) hK) ?_;refine ia.cons (fun aa wv hb ha hS Kk Qq hK=>iL (ic rfl) _ _ _ rfl _ (ag (some ⟨g,6,none⟩)) (hS 4 30 (by kernel_rfl) rfl).here (by go_simp) (ij rfl) hK) ?_;refine ia.cons (fun aa wv hb ha hS Kk Qq hK=>lu (ic rfl) _ _ rfl _ (af Ap pn pc) (hS 5 31 (by kernel_rfl) rfl).here (by have hc:wv.cell? ⟨g,6,none⟩=some (af Ap pn pc):=(aT.out.below hb aT.out.lt).cell.trans rfl;go_simp) (ij rfl) hK) ?_;refine ia.cons (fun aa wv hb ha hS Kk Qq hK=>iS (ic rfl) _ rfl (ij ((ha 2 (by kernel_rfl)).trans rfl)) hK) ?_;refine ia.cons (fun aa wv hb ha hS Kk Qq hK=>rB (ic rfl) _ _ _ _ _ rfl (af Ap pn pc) (af A5 (pn-D) (pc-D)) (some (ae aj (D:Int))) none none (hS 6 32 (by kernel_rfl) rfl).here (congrArg some (hS 7 33 (by kernel_rfl) rfl).here) rfl rfl (RF.out wv) (ij rfl) hK) ?_;refine ia.cons (fun aa wv hb ha hS Kk Qq hK=>iS (ic rfl) _ rfl (ij ((ha 0 (by kernel_rfl)).trans rfl)) hK) ?_;refine ia.cons (fun aa wv hb ha hS Kk Qq hK=>lU (ic rfl) _ rfl _ (hS 9 35 (by kernel_rfl) rfl).here (ij rfl) hK) ?_;refine ia.cons (fun aa wv hb ha hS Kk Qq hK=>iL (ic rfl) _ _ _ rfl _ (ag (some ⟨g,0,none⟩)) (hS 10 36 (by kernel_rfl) rfl).here (by go_simp) (ij rfl) hK) ?_;refine ia.cons (fun aa wv hb ha hS Kk Qq hK=>iL (ic rfl) _ _ _ rfl _ (ag (some ⟨g,6,none⟩)) (hS 11 37 (by kernel_rfl) rfl).here (by go_simp) (ij rfl) hK) ?_;refine ia.cons (fun aa wv hb ha hS Kk Qq hK=>iL (ic rfl) _ _ _ rfl _ (ag (some ⟨g,7,none⟩)) (hS 12 38 (by kernel_rfl) rfl).here (by go_simp) (ij rfl) hK) ?_;refine ia.cons (fun aa wv hb ha hS Kk Qq hK=>lu (ic rfl) _ _ rfl _ (ae aj (K:Int)) (hS 13 39 (by kernel_rfl) rfl).here (by have hc:wv.cell? ⟨g,7,none⟩=some (ae aj (K:Int)):=(aT.out.below hb aT.out.lt).cell.trans rfl;go_simp) (ij rfl) hK) ?_;refine ia.cons (fun aa wv hb ha hS Kk Qq hK=>qD (ic rfl) _ _ _ _ _ rfl _ _ (ae aj (R:Int)) (hS 14 40 (by kernel_rfl) rfl).here rfl (sy _ _ _ _ _ _ _ (by decide) (by decide) _) (bz.out wv) (ij rfl) hK) ?_;refine ia.cons (fun aa wv hb ha hS Kk Qq hK=>by have bB:=(show aa.eval (.tmp 34)=af A5 (pn-D) (pc-D)from(hS 8 34 (by kernel_rfl) rfl).here);have bC:=(show aa.eval (.tmp 41)=ae aj (R:Int)from(hS 15 41 (by kernel_rfl) rfl).here);exact DF (ic rfl) _ #[(0,.tmp 34),(1,.tmp 41)] rfl #[af A5 (pn-D) (pc-D),ae aj (R:Int)] (by simpa[bB,bC]using DS A5 (pn-D) (pc-D) (R:Int)) (ij rfl) hK) ?_;refine ia.cons (fun aa wv hb ha hS Kk Qq hK=>lU (ic rfl) _ rfl _ (hS 0 26 (by kernel_rfl) rfl).here (ij rfl) hK) ?_;refine ia.cons (fun aa wv hb ha hS Kk Qq hK=>iL (ic rfl) _ _ _ rfl _ (ag (some ⟨g,0,none⟩)) (hS 17 43 (by kernel_rfl) rfl).here (by go_simp) (ij rfl) hK) ?_;refine ia.cons (fun aa wv hb ha hS Kk Qq hK=>iL (ic rfl) _ _ _ rfl _ (ag (some ⟨g,6,none⟩)) (hS 18 44 (by kernel_rfl) rfl).here (by go_simp) (ij rfl) hK) ?_;exact ia.nil
  intro vals w5 hb hv;have bk:vals 42=ah #[af A5 (pn-D) (pc-D),ae aj (R:Int)]:=(hv 16 42 rfl).here;have bl:vals 45=ag (some ⟨g,6,none⟩):=(hv 19 45 rfl).here;have x5:=aT.out.below hb aT.out.lt;have s6:w5.cell? ⟨g,6,none⟩=some (af Ap pn pc):=x5.cell.trans rfl;have s7:w5.cell? ⟨g,7,none⟩=some (ae aj (K:Int)):=x5.cell.trans rfl;have f6:w5.frozen? ⟨g,6,none⟩=false:=x5.free;have f7:w5.frozen? ⟨g,7,none⟩=false:=x5.free;obtain⟨W6,a5⟩:=gX ((w5.setCell ⟨g,6,none⟩ (af A5 (pn-D) (pc-D))).setCell ⟨g,7,none⟩ (ae aj (R:Int)));have HF:=gW (a5▸UF.out w5 hb);have bD:=gW a5;clear x5 hb hv a5;simp only[List.take_succ_cons,List.take_zero,List.drop_succ_cons,List.drop_zero,List.map_cons,List.map_nil,P5,Act.put,List.setIfInBounds_toArray,List.set_cons_zero,List.set_cons_succ,bk,bl];clear bk bl;go_wp2_with (rw[<-bD.out])
  go_end0;exact⟨rfl,⟨A5,pc-D,A',c',HF.out.1⟩,HF.out.2⟩)
theorem LS(d k:Int):prog.built 127 [(1,ae aj d),(2,ae aj k)]=some #[ae .u8 0,ae aj d,ae aj k]:=by kernel_rfl
theorem Et(x:Int):prog.built 127 [(0,ae .u8 x)]=some #[ae .u8 x,ae aj 0,ae aj 0]:=by kernel_rfl
theorem y8:(prog.info? 127).map (·.size)=some 3:=by kernel_rfl
theorem qi(a b c:ax):(prog.info? 127).map (·.size)=some (#[a,b,c]:Array ax).size:=y8
theorem tB(x:Int)(d k:Int):(#[ae .u8 x,ae aj d,ae aj k]:Array ax).all (·.oneCell')=true:=by simp[Value.oneCell']
theorem ux{fn:Func}{p:Tmp}(h:fn.results=#[.cell p 127])(tmps:Array ax)(w:aq)(g:Nat)(cs:Array ax)(hs:cs.size=3)(hp:tmps.getD p undef=ag (some ⟨g,0,none⟩))(ht:w.heap[g]?=some (ak cs 127 (0,0))):
  (results fn tmps).run prog w=.ok (ah cs) w:=by
 have ad:tmps[p]?.getD undef=ag (some ⟨g,0,none⟩):=by simpa using hp
 have hl:=run_loadVar_row (P:=prog) w g 127 127 cs (0,0) _ ht underlying127 rfl (by rw[hs];exact y8)
 simp[results,h,ad,asAddr,hl]
theorem y9(w:aq)(A:Option au)(n c:Nat)(f:Nat->Nat)(a z ch:Nat)(m:Int)(lz:Bool)(hr:ib w w.heap.size A n c f)(ha:a<=n)(hn:n<=131072)(a3:1<=z)(hz:z<=32768)(a4:ch<=256):
  aw prog 129 #[af A n c,ae aj (a:Int),ah #[ae aj (z:Int),ae aj (ch:Int),ae aj m,ai lz]] w fun e w'=>
   e=ao (ah #[ae .u8 0,ae aj ((PS f n a z a ch 0 0).1:Nat),ae aj ((PS f n a z a ch 0 0).2:Nat)])/\aR w.heap.size w w':=by
 obtain⟨T,hT⟩:=gX (PS f n a z a ch 0 0)
 have eT:ph f n a z ch=T:=by
  unfold ph;rw[if_pos ⟨by omega,by omega,by omega,by omega,by omega,by omega,by omega⟩,Int.toNat_natCast,Int.toNat_natCast,Int.toNat_natCast,hT]
 rw[<-hT]
 obtain⟨d,k⟩:=T
 clear hT
 obtain⟨h,hh⟩:=gX (w.heap.size)
 obtain⟨W1,ad⟩:=gX ((w.alloc (ak #[ae aj (z:Int),ae aj (ch:Int),ae aj m,ai lz] 27)).alloc (ak #[ae .u8 0,ae aj 0,ae aj 0] 127))
 have al:aR h w W1:=by rw[ad,hh];exact(ix.alloc gY _).alloc (by simp) _
 have aT:W1.heap.size=h+2:=by rw[ad,hh];simp
 have av:W1.heap[h]?=some (ak #[ae aj (z:Int),ae aj (ch:Int),ae aj m,ai lz] 27 (0,0)):=by
  rw[ad,hh];exact(Below.heap_alloc _ _ _ (by simp)).trans (aG w _)
 have aU:W1.heap[h+1]?=some (ak #[ae .u8 0,ae aj 0,ae aj 0] 127 (0,0)):=by
  have:=aG (w.alloc (ak #[ae aj (z:Int),ae aj (ch:Int),ae aj m,ai lz] 27)) (ak #[ae .u8 0,ae aj 0,ae aj 0] 127);rw[World.size_alloc,<-ad,<-hh]at this;exact this
 have x0:W1.cell? ⟨h,0,none⟩=some (ae aj (z:Int)):=(aH W1 _ 0 _ _ (0,0) av).trans rfl
 have x1:W1.cell? ⟨h,1,none⟩=some (ae aj (ch:Int)):=(aH W1 _ 1 _ _ (0,0) av).trans rfl
 have hf:=Kn W1 A n c f a z ch ((hr.below (hh▸al) (by omega)).more (by omega))
 rw[eT]at hf
 obtain⟨E,hE⟩:=gX (sB f n a z ch)
 rw[<-hE]at hf
 have HF:=gW hf;have aY:=gW al;have aV:=gW aT;have aZ:=gW aU;have a1:=gW ad;have HH:=gW hh
 clear hf al aT aU av ad hE eT hr hh
 go_enter func129,ntmps129
 go_wp2_with fail
 rw[<-a1.out,<-HH.out]
 refine HF.out.mono ?_
 rintro e w2 ⟨rfl,aS⟩
 have aW:=(aS.block (h+1) (by have:=aV.out;omega)).trans aZ.out
 have a2:=gW (aY.out.trans (aS.mono (by have:=aV.out;omega)))
 have aX:=gW aW
 clear aS aW x0 x1
 go_wp2_with (first
  |(refine aD rfl 127 #[(1,.tmp 21),(2,.tmp 22)] rfl (some 23) rfl #[ae .u8 0,ae aj (d:Int),ae aj (k:Int)] ?_ ?_;focus(simpa[Act.eval]using LS (d:Int) (k:Int)))
  |(refine aC rfl _ _ _ rfl rfl (h+1) #[ae .u8 0,ae aj (d:Int),ae aj (k:Int)] rfl rfl 127 #[ae .u8 0,ae aj 0,ae aj 0] aX.out (qi _ _ _) rfl (tB _ _ _) ?_))
 refine aK (ux rfl _ _ (h+1) _ rfl rfl (aI _ _ _ _ _ _ aX.out)) rfl ⟨rfl,?_⟩
 rw[<-HH.out]
 exact qf a2.out (by omega) _
def nT(f:Nat->Nat)(n z ch:Nat)(lz:Bool)(a:Nat):iu:=
 if(PS f n a z a ch 0 0).2=0\/(PS f n a z a ch 0 0).2<pE f n z ch lz a then⟨f a,0,0⟩else⟨0,((PS f n a z a ch 0 0).1:Nat),((PS f n a z a ch 0 0).2:Nat)⟩
theorem wJ(x d n:Int)(w:aq):(Instr.field 127 (ah #[ae .u8 x,ae aj d,ae aj n]) 2).run prog w=.ok (ae aj n) w:=by
 have hi:(prog.info? 3).map (·.size)=some 1:=by kernel_rfl
 unfold Instr.field;simp[go_sem,asAgg]
theorem wK{P:az}{C:aq->Prop}{K:Act->Prop}{a:Act}{o:aA}(ty:aB)(x:Operand)(i:Nat)(ho:o.op=.field ty x i)(v u:ax)(hx:a.eval x=v)
  (ad:∀w,(Instr.field ty v i).run P w=.ok u w) (hk:K (a.put o.dst u)):o.quiet P a C K:=
 ⟨_,fun w hw=>by
  unfold Oper.quietAt execOp;simp only[ho,hx,Sem.run_bind,ad,Result.andThen_ok];exact⟨rfl,rfl⟩,hk⟩
theorem wL(a b c:ax):(prog.info? 127).map (·.size)=some ([a,b,c]:List ax).length:=y8
theorem wM(a b c d:ax):(prog.info? 27).map (·.size)=some ([a,b,c,d]:List ax).length:=wF
theorem LU(w:aq)(A:Option au)(n c:Nat)(f:Nat->Nat)(a z ch:Nat)(m:Int)(lz:Bool)(hr:ib w w.heap.size A n c f)(ha:a<n)(hn:n<=131072)(bm:1<=z)(hz:z<=32768)(bn:ch<=256):
  aw prog 103 #[af A n c,ae aj (a:Int),ah #[ae aj (z:Int),ae aj (ch:Int),ae aj m,ai lz]] w fun e w'=>
   e=ao (ah #[ae .u8 ((nT f n z ch lz a).x:Int),ae aj (nT f n z ch lz a).d,ae aj (nT f n z ch lz a).n])/\aR w.heap.size w w':=by
 obtain⟨R,hR⟩:=gX (nT f n z ch lz a)
 rw[<-hR]
 unfold nT at hR
 obtain⟨T,hT⟩:=gX (PS f n a z a ch 0 0)
 rw[<-hT]at hR
 obtain⟨a1,bd⟩:=gX (a+1)
 obtain⟨T2,a4⟩:=gX (PS f n a1 z a1 ch 0 0)
 have a9:pE f n z ch lz a=if lz=true then T2.2 else 0:=by
  unfold pE;rw[<-bd];cases lz with
  |false=>rfl
  |true=>
   rw[if_pos rfl];by_cases h:a1<n
   ·rw[if_pos ⟨rfl,h⟩,a4]
   ·rw[if_neg (fun q=>h q.2),a4];obtain rfl:a1=n:=by omega
    by_cases h2:(PS f a1 a1 z a1 ch 0 0).2=0
    ·exact h2.symm
    ·obtain⟨b1,b2,b3,b4,b5,b6⟩:=qX h2;have:=(b6 0 (by omega)).1;omega
 rw[a9]at hR
 have bf:T.2=0->T.1=0:=fun h0=>by
  rw[hT]at h0⊢;rcases sY (f:=f) (L:=n) (a:=a) (size:=z) a ch 0 0 gY (.inl ⟨rfl,rfl⟩)with⟨h1,h2⟩|⟨_,_,_,h3,_⟩
  ·exact h1
  ·omega
 have bA:=y9
 have bg:∀V,ib V V.heap.size A n c f->aw prog 129 #[af A n c,ae aj (a:Int),ah #[ae aj (z:Int),ae aj (ch:Int),ae aj m,ai lz]] V fun e w'=>
   e=ao (ah #[ae .u8 0,ae aj (T.1:Nat),ae aj (T.2:Nat)])/\aR V.heap.size V w':=fun V hV=>by
  rw[hT];exact y9 V A n c f a z ch m lz hV (by omega) hn bm hz bn
 have bj:∀V,ib V V.heap.size A n c f->aw prog 129 #[af A n c,ae aj (a1:Int),ah #[ae aj (z:Int),ae aj (ch:Int),ae aj m,ai lz]] V fun e w'=>
   e=ao (ah #[ae .u8 0,ae aj (T2.1:Nat),ae aj (T2.2:Nat)])/\aR V.heap.size V w':=fun V hV=>by
  rw[a4];exact y9 V A n c f a1 z ch m lz hV (by omega) hn bm hz bn
 obtain⟨d,k⟩:=T
 obtain⟨d2,k2⟩:=T2
 clear hT a4 a9 bA
 dsimp only at hR bf bg bj
 obtain⟨h,hh⟩:=gX (w.heap.size)
 obtain⟨W1,aU⟩:=gX ((w.alloc (ak #[ae aj (z:Int),ae aj (ch:Int),ae aj m,ai lz] 27)).alloc (ak #[ae .u8 0,ae aj 0,ae aj 0] 127))
 have bk:aR h w W1:=by rw[aU,hh];exact(ix.alloc gY _).alloc (by simp) _
 have bp:W1.heap.size=h+2:=by rw[aU,hh];simp
 have bq:W1.heap[h]?=some (ak #[ae aj (z:Int),ae aj (ch:Int),ae aj m,ai lz] 27 (0,0)):=by
  rw[aU,hh];exact(Below.heap_alloc _ _ _ (by simp)).trans (aG w _)
 have br:W1.heap[h+1]?=some (ak #[ae .u8 0,ae aj 0,ae aj 0] 127 (0,0)):=by
  have:=aG (w.alloc (ak #[ae aj (z:Int),ae aj (ch:Int),ae aj m,ai lz] 27)) (ak #[ae .u8 0,ae aj 0,ae aj 0] 127);rw[World.size_alloc,<-aU,<-hh]at this;exact this
 have hf:=bg W1 ((hr.below (hh▸bk) (by omega)).more (by omega))
 rw[<-hh]at hr
 have HR:=gW hr.1;have bB:=gW hr;have aT:=gW hR;have bC:=gW bj;have bD:=gW bf
 have HF:=gW hf;have bE:=gW bk;have a5:=gW bp;have bt:=gW bq;have bF:=gW br;have bG:=gW aU;have HH:=gW hh
 have bl:IntKind.i64.wrap ((a:Int)+1)=(a1:Int):=by rw[bd,IntKind.wrap_i64];omega
 have bH:=gW bl
 clear hf bk bp br bq aU hr hh hR bg bj bf bd bl
 go_enter func103,ntmps103
 go_wp2_with (refine aE rfl _ _ rfl h rfl _ #[ae aj (z:Int),ae aj (ch:Int),ae aj m,ai lz] (0,0) _ bt.out underlying27 rfl wF ?_)
 rw[<-bG.out,<-HH.out]
 refine HF.out.mono ?_
 rintro e w2 ⟨rfl,aW⟩
 obtain⟨g,hg⟩:=gX (w2.heap.size)
 obtain⟨W3,aX⟩:=gX (iP w2 #[ae .u8 0,ae aj 0,ae aj 0] #[ae .u8 0,ae aj (d:Int),ae aj (k:Int)] 127)
 have a6:aR w2.heap.size w2 W3:=by rw[aX];exact kU _ _ _ _
 have bu:W3.heap.size=g+1:=by rw[aX,hg,yb]
 have bL:h+2<=g:=by have:=aW.size;have:=a5.out;omega
 have y5:=(a6.block h (by omega)).trans ((aW.block h (by have:=a5.out;omega)).trans bt.out)
 have y6:=(a6.block (h+1) (by omega)).trans ((aW.block (h+1) (by have:=a5.out;omega)).trans bF.out)
 have y7:W3.heap[g]?=some (ak #[ae .u8 0,ae aj (d:Int),ae aj (k:Int)] 127 (0,0)):=by rw[aX,hg];exact lq w2 _ _ _
 have aY:aR h w W3:=(bE.out.trans (aW.mono (by have:=a5.out;omega))).trans (a6.mono (by omega))
 have a7:=gW aY;have al:=gW bu;have a8:=gW y6;have aV:=gW y7;have HG:=gW hg;have bI:=gW aX
 have S7:∀V,(∃p:kN W3.heap.size W3,V=p.w)->V.rangeAt g 0 [ae .u8 0,ae aj (d:Int),ae aj (k:Int)]:=by
  rintro V ⟨⟨V,hV⟩,rfl⟩ i v hv;rw[aH V g _ _ _ (0,0) ((hV.block g (by omega)).trans aV.out),Nat.zero_add];simpa using hv
 have S5:∀V,(∃p:kN W3.heap.size W3,V=p.w)->V.rangeAt h 0 [ae aj (z:Int),ae aj (ch:Int),ae aj m,ai lz]:=by
  rintro V ⟨⟨V,hV⟩,rfl⟩ i v hv;rw[aH V h _ _ _ (0,0) ((hV.block h (by omega)).trans y5),Nat.zero_add];simpa using hv
 have z3:∀p:kN W3.heap.size W3,p.w.cell? ⟨h,3,none⟩=some (ai lz):=by
  rintro⟨V,hV⟩;exact(aH V h 3 _ _ (0,0) ((hV.block h (by omega)).trans y5)).trans rfl
 have z2:∀p:kN W3.heap.size W3,p.w.cell? ⟨g,2,none⟩=some (ae aj (k:Int)):=by
  rintro⟨V,hV⟩;exact(aH V g 2 _ _ (0,0) ((hV.block g (by omega)).trans aV.out)).trans rfl
 have U1:∀V,aR W3.heap.size W3 V->aw prog 124 #[ah #[ae .u8 0,ae aj (d:Int),ae aj (k:Int)]] V fun e V'=>e=ao (ai (oT ⟨0,(d:Int),(k:Int)⟩))/\aR W3.heap.size W3 V':=fun V hV=>
  (El V ⟨0,(d:Int),(k:Int)⟩).mono fun _ _ q=>⟨q.1,hV.trans (q.2.mono hV.size)⟩
 have U2:∀V,aR W3.heap.size W3 V->aw prog 129 #[af A n c,ae aj (a1:Int),ah #[ae aj (z:Int),ae aj (ch:Int),ae aj m,ai lz]] V fun e V'=>e=ao (ah #[ae .u8 0,ae aj (d2:Int),ae aj (k2:Int)])/\aR W3.heap.size W3 V':=fun V hV=>
  (bC.out V ((bB.out.below (aY.trans (hV.mono (by omega))) gY).more (by have:=hV.size;omega))).mono fun _ _ q=>⟨q.1,hV.trans (q.2.mono hV.size)⟩
 have R7:=gW S7;have R5:=gW S5;have T2:=gW U2;have T1:=gW U1
 clear S7 S5 U2 U1 a6 bu y5 y6 y7 aY hg aX aW HF
 go_wp2_with (refine aC rfl _ _ _ rfl rfl w2.heap.size #[ae .u8 0,ae aj (d:Int),ae aj (k:Int)] rfl rfl 127 #[ae .u8 0,ae aj 0,ae aj 0] (aG w2 _) (qi _ _ _) rfl (tB _ _ _) ?_;change wpList _ _ _ _ _ (iP w2 #[ae .u8 0,ae aj 0,ae aj 0] #[ae .u8 0,ae aj (d:Int),ae aj (k:Int)] 127);rw[<-bI.out,<-HG.out])
 have bl:=bH.out
 by_cases aZ:k=0
 ·have a2:oT ⟨0,(d:Int),(k:Int)⟩=false:=by have:=bD.out aZ;simp[oT,aZ,this]
  rw[a2]at T1;obtain⟨u,hu⟩:=gX (f a);have HU:=gW hu;have av:R=⟨u,0,0⟩:=by rw[aT.out,if_pos (.inl aZ),hu]
  clear hu;subst av;clear a2 aZ;refine tL W3.heap.size W3 ix (by kernel_rfl) (by kernel_rfl) ?_;repeat (first
   |(go_big_quiet_want;with_reducible refine oY _ _ rfl _ _ rfl _ _ R7.out underlying127 rfl (wL _ _ _) ?_;go_big_quiet_on;simp only[Act.put,List.setIfInBounds_toArray,List.set_cons_zero,List.set_cons_succ])
   |(go_big_quiet_want;with_reducible refine oY _ _ rfl _ _ rfl _ _ R5.out underlying27 rfl (wM _ _ _ _) ?_;go_big_quiet_on;simp only[Act.put,List.setIfInBounds_toArray,List.set_cons_zero,List.set_cons_succ])
   |(go_big_quiet_want;with_reducible refine wK _ _ _ rfl (ah #[ae .u8 0,ae aj (d2:Int),ae aj (k2:Int)]) (ae aj (k2:Int)) rfl (fun w=>wJ 0 (d2:Int) (k2:Int) w) ?_;go_big_quiet_on;simp only[Act.put,List.setIfInBounds_toArray,List.set_cons_zero,List.set_cons_succ])
   |(go_big_quiet_step (first|(with_reducible exact nH T1.out _)|(with_reducible exact nH T2.out _))))
  refine wpQuiet_nil ?_;rintro V ⟨⟨V,hV⟩,rfl⟩;have HV:=gW (a7.out.trans (hV.mono (by have:=al.out;omega)));have y6:=(hV.block (h+1) (by have:=al.out;omega)).trans a8.out;have y7:=(hV.block g (by have:=al.out;omega)).trans aV.out;have ad:=gW y6;have aS:=gW y7
  have a3:=HR.out.below HV.out (by omega);obtain⟨bb,o,rfl,_,hc⟩:=a3.2 (by omega);have x9:=hc a ha;rw[<-HU.out]at x9;clear a3 hc hV y6 y7;go_wp2_with (first
   |(refine aD rfl 127 #[(0,.tmp 33)] rfl (some 34) rfl #[ae .u8 (u:Int),ae aj 0,ae aj 0] ?_ ?_;focus(simpa[Act.eval]using Et (u:Int)))
   |(refine aC rfl _ _ _ rfl rfl (h+1) #[ae .u8 (u:Int),ae aj 0,ae aj 0] rfl rfl 127 #[ae .u8 0,ae aj 0,ae aj 0] ad.out (qi _ _ _) rfl (tB _ _ _) ?_))
  refine aK (ux rfl _ _ (h+1) _ rfl rfl (aI _ _ _ _ _ _ ad.out)) rfl ⟨rfl,?_⟩;rw[<-HH.out];exact qf HV.out (by omega) _
 ·have a2:oT ⟨0,(d:Int),(k:Int)⟩=true:=by simp[oT];omega
  rw[a2]at T1;clear a2;cases lz with
  |false=>
   have av:R=⟨0,(d:Int),(k:Int)⟩:=by rw[aT.out,if_neg (by simp[aZ])]
   subst av;refine tL W3.heap.size W3 ix (by kernel_rfl) (by kernel_rfl) ?_;repeat (first
    |(go_big_quiet_want;with_reducible refine oY _ _ rfl _ _ rfl _ _ R7.out underlying127 rfl (wL _ _ _) ?_;go_big_quiet_on;simp only[Act.put,List.setIfInBounds_toArray,List.set_cons_zero,List.set_cons_succ])
    |(go_big_quiet_want;with_reducible refine oY _ _ rfl _ _ rfl _ _ R5.out underlying27 rfl (wM _ _ _ _) ?_;go_big_quiet_on;simp only[Act.put,List.setIfInBounds_toArray,List.set_cons_zero,List.set_cons_succ])
    |(go_big_quiet_want;with_reducible refine wK _ _ _ rfl (ah #[ae .u8 0,ae aj (d2:Int),ae aj (k2:Int)]) (ae aj (k2:Int)) rfl (fun w=>wJ 0 (d2:Int) (k2:Int) w) ?_;go_big_quiet_on;simp only[Act.put,List.setIfInBounds_toArray,List.set_cons_zero,List.set_cons_succ])
    |(go_big_quiet_step (first|(with_reducible exact nH T1.out _)|(with_reducible exact nH T2.out _))))
   refine wpQuiet_nil ?_;rintro V ⟨⟨V,hV⟩,rfl⟩;have HV:=gW (a7.out.trans (hV.mono (by have:=al.out;omega)));have y6:=(hV.block (h+1) (by have:=al.out;omega)).trans a8.out;have y7:=(hV.block g (by have:=al.out;omega)).trans aV.out;have ad:=gW y6;have aS:=gW y7
   clear hV y6 y7;go_wp2_with (first
    |(refine aE rfl _ _ rfl g rfl _ #[ae .u8 0,ae aj (d:Int),ae aj (k:Int)] (0,0) _ aS.out underlying127 rfl (qi _ _ _) ?_)
    |(refine aC rfl _ _ _ rfl rfl (h+1) #[ae .u8 0,ae aj (d:Int),ae aj (k:Int)] rfl rfl 127 #[ae .u8 0,ae aj 0,ae aj 0] ad.out (qi _ _ _) rfl (tB _ _ _) ?_))
   refine aK (ux rfl _ _ (h+1) _ rfl rfl (aI _ _ _ _ _ _ ad.out)) rfl ⟨rfl,?_⟩;rw[<-HH.out];exact qf HV.out (by omega) _
  |true=>
   by_cases bJ:k<k2
   ·have bK:decide ((k:Int)<(k2:Int))=true:=by simp;omega
    have bz:decide (k<k2)=true:=by simp;omega
    obtain⟨u,hu⟩:=gX (f a);have HU:=gW hu;have av:R=⟨u,0,0⟩:=by rw[aT.out,if_pos (.inr (by simpa using bJ)),hu]
    clear hu;subst av;refine tL W3.heap.size W3 ix (by kernel_rfl) (by kernel_rfl) ?_;repeat (first
     |(go_big_quiet_want;with_reducible refine oY _ _ rfl _ _ rfl _ _ R7.out underlying127 rfl (wL _ _ _) ?_;go_big_quiet_on;simp only[Act.put,List.setIfInBounds_toArray,List.set_cons_zero,List.set_cons_succ])
     |(go_big_quiet_want;with_reducible refine oY _ _ rfl _ _ rfl _ _ R5.out underlying27 rfl (wM _ _ _ _) ?_;go_big_quiet_on;simp only[Act.put,List.setIfInBounds_toArray,List.set_cons_zero,List.set_cons_succ])
     |(go_big_quiet_want;with_reducible refine wK _ _ _ rfl (ah #[ae .u8 0,ae aj (d2:Int),ae aj (k2:Int)]) (ae aj (k2:Int)) rfl (fun w=>wJ 0 (d2:Int) (k2:Int) w) ?_;go_big_quiet_on;simp only[Act.put,List.setIfInBounds_toArray,List.set_cons_zero,List.set_cons_succ])
     |(go_big_quiet_step (first|(with_reducible exact nH T1.out _)|(with_reducible exact nH T2.out _))))
    refine wpQuiet_nil ?_;rintro V ⟨⟨V,hV⟩,rfl⟩;have HV:=gW (a7.out.trans (hV.mono (by have:=al.out;omega)));have y6:=(hV.block (h+1) (by have:=al.out;omega)).trans a8.out;have y7:=(hV.block g (by have:=al.out;omega)).trans aV.out;have ad:=gW y6;have aS:=gW y7
    have a3:=HR.out.below HV.out (by omega);obtain⟨bb,o,rfl,_,hc⟩:=a3.2 (by omega);have x9:=hc a ha;rw[<-HU.out]at x9;clear a3 hc hV y6 y7;go_wp2_with (first
     |(refine aD rfl 127 #[(0,.tmp 33)] rfl (some 34) rfl #[ae .u8 (u:Int),ae aj 0,ae aj 0] ?_ ?_;focus(simpa[Act.eval]using Et (u:Int)))
     |(refine aC rfl _ _ _ rfl rfl (h+1) #[ae .u8 (u:Int),ae aj 0,ae aj 0] rfl rfl 127 #[ae .u8 0,ae aj 0,ae aj 0] ad.out (qi _ _ _) rfl (tB _ _ _) ?_))
    refine aK (ux rfl _ _ (h+1) _ rfl rfl (aI _ _ _ _ _ _ ad.out)) rfl ⟨rfl,?_⟩;rw[<-HH.out];exact qf HV.out (by omega) _
   ·have bK:decide ((k:Int)<(k2:Int))=false:=by simp;omega
    have bz:decide (k<k2)=false:=by simp;omega
    have av:R=⟨0,(d:Int),(k:Int)⟩:=by rw[aT.out,if_neg (by simp;omega)]
    subst av;refine tL W3.heap.size W3 ix (by kernel_rfl) (by kernel_rfl) ?_;repeat (first
     |(go_big_quiet_want;with_reducible refine oY _ _ rfl _ _ rfl _ _ R7.out underlying127 rfl (wL _ _ _) ?_;go_big_quiet_on;simp only[Act.put,List.setIfInBounds_toArray,List.set_cons_zero,List.set_cons_succ])
     |(go_big_quiet_want;with_reducible refine oY _ _ rfl _ _ rfl _ _ R5.out underlying27 rfl (wM _ _ _ _) ?_;go_big_quiet_on;simp only[Act.put,List.setIfInBounds_toArray,List.set_cons_zero,List.set_cons_succ])
     |(go_big_quiet_want;with_reducible refine wK _ _ _ rfl (ah #[ae .u8 0,ae aj (d2:Int),ae aj (k2:Int)]) (ae aj (k2:Int)) rfl (fun w=>wJ 0 (d2:Int) (k2:Int) w) ?_;go_big_quiet_on;simp only[Act.put,List.setIfInBounds_toArray,List.set_cons_zero,List.set_cons_succ])
     |(go_big_quiet_step (first|(with_reducible exact nH T1.out _)|(with_reducible exact nH T2.out _))))
    refine wpQuiet_nil ?_;rintro V ⟨⟨V,hV⟩,rfl⟩;have HV:=gW (a7.out.trans (hV.mono (by have:=al.out;omega)));have y6:=(hV.block (h+1) (by have:=al.out;omega)).trans a8.out;have y7:=(hV.block g (by have:=al.out;omega)).trans aV.out;have ad:=gW y6;have aS:=gW y7
    clear hV y6 y7;go_wp2_with (first
     |(refine aE rfl _ _ rfl g rfl _ #[ae .u8 0,ae aj (d:Int),ae aj (k:Int)] (0,0) _ aS.out underlying127 rfl (qi _ _ _) ?_)
     |(refine aC rfl _ _ _ rfl rfl (h+1) #[ae .u8 0,ae aj (d:Int),ae aj (k:Int)] rfl rfl 127 #[ae .u8 0,ae aj 0,ae aj 0] ad.out (qi _ _ _) rfl (tB _ _ _) ?_))
    refine aK (ux rfl _ _ (h+1) _ rfl rfl (aI _ _ _ _ _ _ ad.out)) rfl ⟨rfl,?_⟩;rw[<-HH.out];exact qf HV.out (by omega) _
def Eu(F:Fence)(n:Nat)(P:az)(g:Nat)(lb:Array ax)(ad:Nat->Array ax)(Kp:aq->aq->Prop)(L:Nat)(w:aq):Prop:=
 ∀(l:Nat) (J:Nat->aq->Prop) (W:aq),aR w.heap.size w W->
  (∀j W1 W2,J j W1->aR W1.heap.size W1 W2->J j W2)->
  (∀j W1,J j W1->j<L->YieldAt F (n-1) P l (ad j) W1 fun e W'=>e=ao (ai true)/\J (j+1) W'/\Kp W1 W')->
  J 0 W->CallsIn F n P g (#[.func (.yield l) #[] #[]]++lb) W fun e W'=>(∃v,e=ao v)/\J L W'
theorem LV{W W':aq}(h:aR W.heap.size W W'):W.grownBy W' none:=⟨h.os,h.tape,h.output,h.size,fun k hk _=>h.block k hk⟩
theorem LW{F:Fence}{n:Nat}{P:az}{g:Operand}{ps:Array Tmp}{assign body:Code}{Q:Exit->Act->aq->Prop}{a:Act}{w:aq}
  (a7:F.round=none) (h1:1<=n) {gf:Nat} {lb:Array ax} (hg:a.eval g=.func (.func gf) #[] lb) (a8:F.fn gf) (eg:∀args w,(callFunc gf args).run P w=.ok (.enter gf args) w)
  {al:Nat->Array ax} {Kp:aq->aq->Prop} {L:Nat} (aY:Eu F (n-1) P gf lb al Kp L w)
  (aV:∀{A B C:aq},Kp A B->Kp B C->Kp A C) (aZ:∀(W:aq) (l:Nat) (o o':Obj),w.heap.size<=l->W.heap[l]?=some o->o.isCells=false->o.isWalk=false->Kp W (W.putObj l o')) (a9:∀j,(al j).size=ps.size)
  (I:Nat->aq->Prop) (hI:OwnFrom w.heap.size I) (h0:I 0 w) (I1:Nat->Act->aq->Prop) (bd:∀a₁,OwnFrom w.heap.size (fun j=>I1 j a₁))
  (av:∀(l j:Nat) (W:aq) (K:Act->aq->Prop),I j W->j<L->(∀a₁ W₁,KeepsOthers W W₁->Kp W W₁->I1 j a₁ W₁->K a₁ W₁)->
   assign.wpIn (F.inRound l) (n-1-1) P (Exit.then K (fun _ _ _=>False)) {tmps:=(ps.zip (al j)).foldl (fun t (p,v)=>t.setIfInBounds p v) a.tmps,defers:=[]} W)
  (aW:∀(l j:Nat) (a₁:Act) (W:aq),I1 j a₁ W->j<L->body.wpIn (F.inRound l) (n-1-1) P (fun e _ W'=>e=.normal/\KeepsOthers W W'/\Kp W W'/\I (j+1) W') a₁ W)
  (aX:∀(D:Nat) (W:aq),w.heap.size<=D->I L W->W.heap[D]?=some (.deferred (some []))->Q .normal {a with defers:={target:=.collected D,args:=#[]}::a.defers} W):
  (Code.rangeFunc g ps assign body).wpIn F n P Q a w:=by
 refine wpIn_rangeFunc fun fn bf=>?_
 rw[a7]
 obtain⟨rec,ad⟩:∃rec:LoopState->Loop,rec=fun st=>{state:=st,pending:=none,fn,tmps:=a.tmps,params:=ps,assign,body,defers:=w.heap.size}:=⟨_,rfl⟩
 obtain⟨D,hD⟩:=gX (w.heap.size)
 obtain⟨W1,aS⟩:=gX ((w.alloc (.deferred (some []))).alloc (.loop (rec .ready)))
 have bg:W1.heap[D+1]?=some (.loop (rec .ready)):=by
  rw[aS,hD];have h:=World.alloc_heap_new (w.alloc (.deferred (some []))) (.loop (rec .ready));rwa[World.size_alloc]at h
 have bj:W1.heap[D]?=some (.deferred (some [])):=by
  rw[aS,hD];exact(Below.heap_alloc _ _ _ (by simp)).trans (World.alloc_heap_new w _)
 have a1:I 0 W1:=by rw[aS];exact hI.alloc _ (hI.alloc _ h0)
 have bk:aR w.heap.size w W1:=by
  rw[aS];exact((Below.refl _ w).alloc gY _).alloc (by simp) _
 refine⟨D+1,[{target:=.collected D,args:=#[]}],W1,{target:=.fn (.func gf) lb,args:=#[.func (.yield (D+1)) #[] #[]]},W1,gf,#[.func (.yield (D+1)) #[] #[]]++lb,W1,?_,?_,?_,?_,fun _=>h1,?_⟩
 ·rw[aS,ad,hD];exact run_enterLoop_outer _ _ _ _ _
 ·simp only[resolve,hg];simp[go_sem]
 ·intro f' a2;simp[Target.leads]at a2;subst a2;exact a8
 ·simp[invoke,go_sem,eg]
 ·refine(aY (D+1) (fun j W=>I j W/\W.heap[D+1]?=some (.loop (rec .ready))/\W.heap[D]?=some (.deferred (some []))) W1 bk ?_ ?_ ⟨a1,bg,bj⟩).mono ?_
  ·rintro j A B ⟨hi,hl,hk⟩ hb;exact⟨hI _ _ _ none hi (LV hb) (fun r e=>by cases e),(hb.block _ (Array.getElem?_eq_some_iff.1 hl).1).trans hl,(hb.block _ (Array.getElem?_eq_some_iff.1 hk).1).trans hk⟩
  ·rintro j W ⟨hi,hl,hk⟩ hj;have bz:D+1<W.heap.size:=(Array.getElem?_eq_some_iff.1 hl).1;have hy:=run_yield (P:=P) (args:=al j) hl (by rw[ad];exact a9 j);rw[ad]at hy;refine⟨fn,_,assign,body,hy,roundIn_of_wpIn bf (av _ j W _ hi hj fun a₁ Wa a4 bl bm=>?_)⟩;have aU:=a4.same _ _ hl rfl;have bn:=a4.same _ _ hk rfl;have a5:D+1<Wa.heap.size:=(Array.getElem?_eq_some_iff.1 aU).1;refine⟨_,run_beginRound aU (by rw[ad]),?_⟩;have bp:(Wa.putObj (D+1) (.loop {rec .ready with state:=.busy})).heap[D+1]?=some (.loop {rec .ready with state:=.busy}):=World.putObj_heap_same a5;have bq:(Wa.putObj (D+1) (.loop {rec .ready with state:=.busy})).heap[D]?=some (.deferred (some [])):=(World.putObj_heap_other (by omega)).trans bn;have br:Kp W (Wa.putObj (D+1) (.loop {rec .ready with state:=.busy})):=aV bl (aZ Wa _ _ _ (by omega) aU rfl rfl);refine wpIn_mono (aW _ j _ _ ((bd a₁).putObj _ bm (by omega) aU rfl) hj) ?_;rintro e a3 W3 ⟨rfl,a6,bt,bu⟩;have aT:=a6.same _ _ bp rfl;have hr:=run_endRound (P:=P) none aT;rw[ad]at hr aT;refine⟨_,_,hr,rfl,⟨hI.putObj _ bu (by omega) aT rfl,?_,(World.putObj_heap_other (by omega)).trans (a6.same _ _ bq rfl)⟩,aV (aV br bt) (aZ W3 _ _ _ (by omega) aT rfl rfl)⟩;rw[World.putObj_heap_same (Array.getElem?_eq_some_iff.1 aT).1,ad];rfl
  ·rintro e W2 ⟨⟨v,rfl⟩,hi,hl,hk⟩;refine⟨none,_,by have h:=run_endLoop (P:=P) hl (by rw[ad];simp);rw[ad]at h;exact h,?_⟩;exact aX D _ (by omega) (hI.putObj _ hi (by omega) hl rfl) ((World.putObj_heap_other (by omega)).trans hk)
open Go.Shelf
attribute [local go_sem] Oper.semAt_some
attribute [local simp] vS
theorem LX{f:Nat->Nat}{n z ch:Nat}{lz:Bool}{a:Nat}(ha:a<n):
  jk f n z ch lz a=nT f n z ch lz a::jk f n z ch lz (a+qv (nT f n z ch lz a))/\1<=qv (nT f n z ch lz a)/\a+qv (nT f n z ch lz a)<=n/\
  (if(nT f n z ch lz a).n<1 then 1 else(nT f n z ch lz a).n)=((qv (nT f n z ch lz a):Nat):Int)/\(nT f n z ch lz a).x<256\/¬(∀j,f j<256):=by
 by_cases hf:∀j,f j<256
 ·refine .inl ?_;unfold nT;by_cases h:(PS f n a z a ch 0 0).2=0\/(PS f n a z a ch 0 0).2<pE f n z ch lz a
  ·rw[if_pos h];have e:qv ⟨f a,0,0⟩=1:=by unfold qv;rw[if_pos rfl]
   rw[e];exact⟨sj ha h,Nat.le_refl _,by omega,rfl,hf a⟩
  ·rw[if_neg h];obtain⟨b1,b2,b3,b4,b5,b6⟩:=qX (f:=f) (L:=n) (a:=a) (size:=z) (chain:=ch) (fun q=>h (.inl q));have e:qv ⟨0,((PS f n a z a ch 0 0).1:Nat),((PS f n a z a ch 0 0).2:Nat)⟩=(PS f n a z a ch 0 0).2:=by
    unfold qv;rw[if_neg (by show¬((((PS f n a z a ch 0 0).2:Nat):Int)=0);omega)];exact Int.toNat_natCast _
   rw[e];have hl:=(b6 ((PS f n a z a ch 0 0).2-1) (by omega)).1;refine⟨vI ha h,by omega,by omega,?_,by show 0<256;omega⟩;rw[if_neg (by show¬((((PS f n a z a ch 0 0).2:Nat):Int)<1);omega)]
 ·exact .inr hf
theorem LY{w:aq}{B n:Nat}{A:Option au}{f:Nat->Nat}(h:iy w B A n f):iy w w.heap.size A n f:=by
 refine⟨h.1,fun hn=>?_⟩;obtain⟨b,o,rfl,_,hc⟩:=h.2 hn;refine⟨b,o,rfl,?_,hc⟩;have:=hc 0 hn;rcases Nat.lt_or_ge b w.heap.size with g|g
 ·exact g
 ·simp only[World.cell?]at this;rw[Array.getElem?_eq_none g]at this;simp at this
def rG(S:Nat->Prop)(W W':aq):Prop:=iC S W W'/\(∀(k:Nat) (cs:Array ax),W.heap[k]?=some (ak cs 127 (0,0))->W'.heap[k]?=some (ak cs 127 (0,0)))/\W.heap.size<=W'.heap.size
theorem rG.tr{S:Nat->Prop}{A B C:aq}(h:rG S A B)(k:rG S B C):rG S A C:=⟨h.1.tr k.1,fun i cs hi=>k.2.1 i cs (h.2.1 i cs hi),Nat.le_trans h.2.2 k.2.2⟩
theorem zc{S:Nat->Prop}{N:Nat}{W W':aq}(hb:aR W.heap.size W W')(hN:N<=W.heap.size)(hS:∀k,S k->k<N):iC S W W':=fun k hk=>hb.block k (by have:=hS k hk;omega)
def zd(t:iu):ax:=ah #[ae .u8 (t.x:Int),ae aj t.d,ae aj t.n]
def uy(T:List iu)(j:Nat):Array ax:=#[zd (T.getD j jl)]
theorem LZ(fu:Nat)(bR:1<=fu)(l Bb Ba Bs B N:Nat)(A:Option au)(n c a z ch:Nat)(m:Int)(lz:Bool)(f:Nat->Nat)(S:Nat->Prop)(hS:S Bb/\S Ba/\S Bs)(bd:∀k,k<B->S k)(bf:∀k,S k->k<N)(ha:a<=n)(hn:n<=131072)(bF:1<=z)(hz:z<=32768)(bG:ch<=256)
  (T:List iu) (hT:T=jk f n z ch lz a) (J:Nat->aq->Prop)
  (hd:∀j W1 W2,J j W1->aR W1.heap.size W1 W2->J j W2)
  (hY:∀j W1,J j W1->j<T.length->YieldAt Fence.wide (fu-1) prog l (uy T j) W1 fun e W'=>e=ao (ai true)/\J (j+1) W'/\rG S W1 W')
  (W:aq) (hN:N<=W.heap.size) (bH:W.cell? ⟨Bb,0,none⟩=some (af A n c)) (bS:W.cell? ⟨Ba,0,none⟩=some (ae aj (a:Int))) (bI:W.heap[Bs]?=some (ak #[ae aj (z:Int),ae aj (ch:Int),ae aj m,ai lz] 27 (0,0))) (hr:ib W B A n c f) (h0:J 0 W):
  CallsIn Fence.wide fu prog 102 #[.func (.yield l) #[] #[],ag (some ⟨Ba,0,none⟩),ag (some ⟨Bb,0,none⟩),ag (some ⟨Bs,0,none⟩)] W fun e W'=>(∃v,e=ao v)/\J T.length W':=by
 refine callsIn_of_wp func102 rfl trivial ?_ rfl
 simp only[ntmps102,List.size_toArray,List.length_cons,List.length_nil,Nat.reduceAdd,Nat.reduceSub,Array.replicate_succ,Array.replicate_zero,List.push_toArray,List.append_toArray,List.nil_append,List.cons_append]
 have HR:=gW hr;have bJ:=gW bd;have bg:=gW bf;have HY:=gW hY;have HD:=gW hd;have HT:=gW hT;have HN:=gW hN;have bK:=gW bI
 clear hr bd bf hY hd hT hN
 gi_wp2
 gi_loopw [5] (fun av wr=>∃j a':Nat,a'<=n/\av=ae aj (a':Int)/\aQ (j<=T.length/\T.drop j=jk f n z ch lz a')/\aQ (J j wr)/\aQ (iC S W wr)/\aQ (N<=wr.heap.size)) (fun av _=>n-(aP av).toNat)
 case atStart=>exact⟨0,a,ha,rfl,gW ⟨Nat.zero_le _,HT.out⟩,gW h0,gW (iC.refl _ _),HN⟩
 case round=>
  obtain⟨j,a',bT,rfl,HK,HJ,al,a6⟩:=hrel;have c1:=(al.out.cell (p:=⟨Bb,0,none⟩) hS.1).trans bH;by_cases bj:a'<n
  ·have bk:(a':Int)<(n:Int):=by omega
   have aZ:=(al.out Bs hS.2.2).trans bK.out;have bl:ib wr wr.heap.size A n c f:=⟨LY (HR.out.1.kept al.out bJ.out),HR.out.2⟩;have a7:=LU wr A n c f a' z ch m lz bl bj hn bF hz bG;rcases LX (f:=f) (n:=n) (z:=z) (ch:=ch) (lz:=lz) bj with⟨q1,q2,q3,q4,q5⟩|q
   ·obtain⟨t,ht⟩:=gX (nT f n z ch lz a');rw[<-ht]at a7 q1 q2 q3 q4;obtain⟨tx,td,tn⟩:=t;obtain⟨E,hE⟩:=gX (qv ⟨tx,td,tn⟩);rw[<-hE]at q1 q2 q3 q4;have ad:T.drop j=⟨tx,td,tn⟩::jk f n z ch lz (a'+E):=HK.out.2.trans q1;have aS:j<T.length:=by
     rcases Nat.lt_or_ge j T.length with g|g
     ·exact g
     ·rw[List.drop_eq_nil_of_le g]at ad;cases ad
    have a1:T.getD j jl=⟨tx,td,tn⟩:=by
     rw[List.drop_eq_getElem_cons aS]at ad;injection ad with h1 _
     rw[List.getD_eq_getElem?_getD,List.getElem?_eq_getElem aS];exact h1
    have a2:T.drop (j+1)=jk f n z ch lz (a'+E):=by
     rw[List.drop_eq_getElem_cons aS]at ad;injection ad with _ h2
    have aT:=Em;have bm:=gW a7;have bL:=gW a2;have bn:=gW a1;have a3:=gW aZ;have bM:=gW q4
    clear a7 ad a2 a1 bl ht hE q1 q4 q5 aZ aT;gi_wp2_with (refine vR rfl _ _ rfl Bs rfl _ #[ae aj (z:Int),ae aj (ch:Int),ae aj m,ai lz] (0,0) _ a3.out underlying27 rfl wF ?_)
    refine(callsIn_wide.2 bm.out).mono ?_;rintro e w2 ⟨rfl,a8⟩;obtain⟨g,hg⟩:=gX (w2.heap.size);have aW:aR wr.heap.size wr (w2.alloc (ak #[ae .u8 (tx:Int),ae aj td,ae aj tn] 127)):=a8.alloc a8.size _;have bp:=HD.out _ _ _ HJ.out aW;have a4:=al.out.tr (zc aW a6.out bg.out);have bq:N<=(w2.alloc (ak #[ae .u8 (tx:Int),ae aj td,ae aj tn] 127)).heap.size:=Nat.le_trans a6.out aW.size;have aU:(w2.alloc (ak #[ae .u8 (tx:Int),ae aj td,ae aj tn] 127)).heap[g]?=some (ak #[ae .u8 (tx:Int),ae aj td,ae aj tn] 127 (0,0)):=by rw[hg];exact aG w2 _
    obtain⟨fn,tmps,assign,body,hy,br⟩:=HY.out _ _ bp aS;have bt:uy T j=#[ah #[ae .u8 (tx:Int),ae aj td,ae aj tn]]:=by unfold uy zd;rw[bn.out]
    rw[bt]at hy;have a5:=gW a4;have bu:=gW bq;have aV:=gW aU;have bz:=gW br;have HG:=gW hg
    clear a8 aW bp a4 bq aU br bt al HJ a6 bm a3 c1 hg;gi_wp2
    refine bz.out.mono ?_;rintro e W4 ⟨rfl,bA,aX⟩;have a9:=gW (aX.2.1 g _ aV.out);have bB:=gW (a5.out.tr aX.1);have bC:=gW (Nat.le_trans bu.out aX.2.2);have bN:=gW bA;have aT:=Em W4 ⟨tx,td,tn⟩;rw[bM.out]at aT;have bO:=gW aT;clear aX bA aT hy aV bz a5 bu;rw[<-HG.out];gi_wp2_with (refine vR rfl _ _ rfl g rfl _ #[ae .u8 (tx:Int),ae aj td,ae aj tn] (0,0) _ a9.out underlying127 rfl (qi _ _ _) ?_)
    refine(callsIn_wide.2 bO.out).mono ?_;rintro e w5 ⟨rfl,aY⟩;have bP:=gW (HD.out _ _ _ bN.out aY);have bD:=gW (bB.out.tr (zc aY bC.out bg.out));have bQ:=gW (Nat.le_trans bC.out aY.size);clear aY;gi_wp2
    go_roundw
    case rel=>exact⟨j+1,a'+E,q3,by go_num,gW ⟨aS,bL.out⟩,bP,bD,bQ⟩
    case measure=>simp[aP];omega
   ·exact absurd HR.out.1.1 q
  ·obtain rfl:a'=n:=by omega
   have bk:¬(a':Int)<(a':Int):=by omega
   have bE:j=T.length:=by
    have h1:=HK.out.2;rw[Db gY]at h1;have h2:=congrArg List.length h1;rw[List.length_drop]at h2;have:=HK.out.1;simp at h2;omega
   subst bE;gi_wp2
   go_end0;exact⟨⟨_,rfl⟩,HJ.out⟩
theorem L0(n:Nat)(A:Option au)(len cap a:Nat)(z ch m:Int)(lz:Bool)(w:aq):
  CallsIn Fence.wide n prog 81 #[af A len cap,ae aj (a:Int),ah #[ae aj z,ae aj ch,ae aj m,ai lz]] w fun e w'=>e=ao (.func (.func 102) #[] #[ag (some ⟨w.heap.size+1,0,none⟩),ag (some ⟨w.heap.size,0,none⟩),ag (some ⟨w.heap.size+2,0,none⟩)])/\
   w'=((w.alloc (ak #[af A len cap] 22)).alloc (ak #[ae aj (a:Int)] 3)).alloc (ak #[ae aj z,ae aj ch,ae aj m,ai lz] 27):=by
 refine callsIn_of_wp func81 rfl trivial ?_ rfl
 simp only[ntmps81,List.size_toArray,List.length_cons,List.length_nil,Nat.reduceAdd,Nat.reduceSub,Array.replicate_succ,Array.replicate_zero,List.push_toArray,List.append_toArray,List.nil_append,List.cons_append]
 gi_wp2
 go_ret
 exact⟨rfl,rfl⟩
theorem L6(fu:Nat)(al:1<=fu)(Bb Ba Bs B N:Nat)(A:Option au)(n c a z ch:Nat)(m:Int)(lz:Bool)(f:Nat->Nat)(S:Nat->Prop)(hS:S Bb/\S Ba/\S Bs)(av:∀k,k<B->S k)(ad:∀k,S k->k<N)(ha:a<=n)(hn:n<=131072)(aS:1<=z)(hz:z<=32768)(aT:ch<=256)
  (T:List iu) (hT:T=jk f n z ch lz a) (w:aq) (hN:N<=w.heap.size) (aU:w.cell? ⟨Bb,0,none⟩=some (af A n c)) (aV:w.cell? ⟨Ba,0,none⟩=some (ae aj (a:Int))) (aW:w.heap[Bs]?=some (ak #[ae aj (z:Int),ae aj (ch:Int),ae aj m,ai lz] 27 (0,0))) (hr:ib w B A n c f) (hB:B<=w.heap.size):
  Eu Fence.wide fu prog 102 #[ag (some ⟨Ba,0,none⟩),ag (some ⟨Bb,0,none⟩),ag (some ⟨Bs,0,none⟩)] (uy T) (rG S) T.length w:=fun l J W hW hd hY h0=>
 LZ fu al l Bb Ba Bs B N A n c a z ch m lz f S hS av ad ha hn aS hz aT T hT J hd hY W (Nat.le_trans hN hW.size) ((hW.cell (Nat.lt_of_lt_of_le (ad _ hS.1) hN)).trans aU) ((hW.cell (Nat.lt_of_lt_of_le (ad _ hS.2.1) hN)).trans aV) ((hW.block Bs (Nat.lt_of_lt_of_le (ad _ hS.2.2) hN)).trans aW) (hr.below hW hB) h0
attribute [local go_sem] Oper.semAt_some
attribute [local simp] vS
theorem L7(w:aq)(base:Nat)(A:Option au)(n c:Nat)(l:List iu)(aS:w.ownsRow base 128 3 (af A n c) n (Ql l))(t:iu)(hn:n<=1000000)(ad:base<=w.heap.size):
  ∃A' c' w',(Builtin.append_ #[79,79] 79 #[af A n c,af (some ⟨w.heap.size,0,none⟩) 1 1]).run prog (w.alloc (ak #[ae .u8 (t.x:Int),ae aj t.d,ae aj t.n] 128))=.ok (af A' (n+1) c') w'/\
   w'.ownsRow base 128 3 (af A' (n+1) c') (n+1) (Ql (l++[t]))/\aR base w w'/\KeepsOthers w w'/\(∀k,k<w.heap.size->(Value.slice A n c).ownBlock≠some k->w'.heap[k]?=w.heap[k]?):=by
 have al:aR base w (w.alloc (ak #[ae .u8 (t.x:Int),ae aj t.d,ae aj t.n] 128)):=(Below.refl base w).alloc ad _
 have av:=aS.alloc (ak #[ae .u8 (t.x:Int),ae aj t.d,ae aj t.n] 128)
 obtain⟨A',c',w',h2,o2,b2⟩:=ym (kS:=24) underlying79 Cl rfl (by decide) (w.alloc (ak #[ae .u8 (t.x:Int),ae aj t.d,ae aj t.n] 128)) base _ (af A n c) n _ av _ 1 1 _
  (iQ.new w 3 1 #[ae .u8 (t.x:Int),ae aj t.d,ae aj t.n] 128 rfl) (fun u hu=>by simp at hu;rcases hu with rfl|rfl|rfl<;>rfl) (by unfold maxLen;omega) (by omega) 79 (fun h=>by cases h) (Nat.le_trans ad al.size)
 refine⟨A',c',w',h2,?_,al.trans ((Below.refl base _).grown b2 (Nat.le_trans ad al.size) (pN av)),(KeepsOthers.alloc w _).trans (KeepsOthers.of_grownBy b2 (IN av)),fun k hk aT=>?_⟩
 ·rw[yf];exact o2
 ·refine(b2.block k (by simp;omega) (fun e=>aT e.symm)).trans ?_;exact(Below.refl w.heap.size w).alloc gY (ak #[ae .u8 (t.x:Int),ae aj t.d,ae aj t.n] 128)|>.block k hk
def wN(B b k:Nat):Prop:=k<B\/(b+1<=k/\k<b+4)
def sJ(w u:aq)(b:Nat)(T:List iu)(j:Nat)(W:aq):Prop:=
 aR w.heap.size w W/\iC (wN w.heap.size b) u W/\u.heap.size<=W.heap.size/\
 ∃(A:Option au) (c:Nat),Boxed W b 79 (af A j c)/\W.ownsRow (b+4) 128 3 (af A j c) j (Ql (T.take j))
theorem sJ.own(w u:aq)(b:Nat)(T:List iu)(hb:w.heap.size<=b)(hu:u.heap.size=b+4):OwnFrom u.heap.size (sJ w u b T):=by
 rintro j W W' row ⟨h1,h2,h3,A,c,h5,h6⟩ ad hr;have hk:∀k,k<u.heap.size->W'.heap[k]?=W.heap[k]?:=fun k hk=>ad.block k (by omega) (fun e=>by have:=(hr k e.symm).1;omega)
 refine⟨h1.grown ad ?_ (fun r e=>?_),fun k hS=>(hk k ?_).trans (h2 k hS),Nat.le_trans h3 ad.size,A,c,(hk _ (by omega)).trans h5,Cy h6 ad (fun r e=>(hr r e).2)⟩
 ·omega
 ·have:=(hr r e).1;omega
 ·rcases hS with hS|hS<;>omega
def ze(A:Option au)(n c a z ch:Nat)(m:Int)(lz:Bool)(g b x:Nat)(t:iu):Act:=
 {tmps:=#[af A n c,ae aj (a:Int),ah #[ae aj (z:Int),ae aj (ch:Int),ae aj m,ai lz],undef,undef,ag (some ⟨g,0,none⟩),af none 0 0,ae aj 0,ae aj 0,ag (some ⟨b,0,none⟩),ag (some ⟨x,0,none⟩),
  ah #[ae aj (z:Int),ae aj (ch:Int),ae aj m,ai lz],ae aj 0,ae aj 0,ai false,undef,af A n c,ae aj (n:Int),ai false,ae aj (a:Int),ai false,ai false,ae aj (a:Int),af A n c,ae aj (n:Int),ai false,ai false,af A n c,ae aj (a:Int),
  ah #[ae aj (z:Int),ae aj (ch:Int),ae aj m,ai lz],.func (.func 102) #[] #[ag (some ⟨b+2,0,none⟩),ag (some ⟨b+1,0,none⟩),ag (some ⟨b+3,0,none⟩)],ah #[ae .u8 (t.x:Int),ae aj t.d,ae aj t.n],undef,undef,undef,undef,undef],defers:=[]}
def wO(w u:aq)(b:Nat)(V:List iu)(fr:Nat->iu->Act)(j:Nat)(a₁:Act)(W:aq):Prop:=
 ∃x:Nat,a₁=fr x (V.getD j jl)/\u.heap.size<=x/\W.heap[x]?=some (ak #[ae .u8 ((V.getD j jl).x:Int),ae aj (V.getD j jl).d,ae aj (V.getD j jl).n] 127 (0,0))/\sJ w u b V j W
theorem L8{W W':aq}{row:Option Nat}{x:Nat}{cs:Array ax}{t:aB}{fr:Nat×Nat}(h:W.heap[x]?=some (ak cs t fr))(hg:W.grownBy W' row)(hr:∀r,row=some r->∃o:Obj,W.heap[r]?=some o/\o.isCells=false):W'.heap[x]?=some (ak cs t fr):=by
 refine(hg.block x (Array.getElem?_eq_some_iff.1 h).1 fun he=>?_).trans h;obtain⟨o,ho,hc⟩:=hr x he.symm;rw[ho]at h;cases h;cases hc
theorem wO.own(w u:aq)(b:Nat)(V:List iu)(fr:Nat->iu->Act)(hb:w.heap.size<=b)(hu:u.heap.size=b+4)(a₁:Act):OwnFrom u.heap.size (fun j=>wO w u b V fr j a₁):=by
 rintro j W W' row ⟨x,h1,h2,h3,h4⟩ ad hr;exact⟨x,h1,h2,L8 h3 ad (fun r e=>(hr r e).2),sJ.own w u b V hb hu j W W' row h4 ad hr⟩
theorem L9{S:Nat->Prop}{N:Nat}(hS:∀k,S k->k<N)(W:aq)(l:Nat)(o o':Obj)(hl:N<=l)(h:W.heap[l]?=some o)(hc:o.isCells=false):rG S W (W.putObj l o'):=by
 refine⟨fun k hk=>World.putObj_heap_other (by have:=hS k hk;omega),fun k cs hk=>?_,by simp[World.putObj]⟩;refine(World.putObj_heap_other (fun e=>?_)).trans hk;subst e;rw[h]at hk;cases hk;cases hc
theorem Ma(w:aq)(A:Option au)(n c:Nat)(f:Nat->Nat)(a s h m:Int)(lz:Bool)(hr:ib w w.heap.size A n c f)(_: -9223372036854775808<=a)(_:a<=9223372036854775807):
  aw prog 64 #[af A n c,ae aj a,ah #[ae aj s,ae aj h,ae aj m,ai lz]] w fun e w'=>∃A' n' c',e=ao (.tuple #[af A' n' c',ae aj (sE n a s h m)])/\jW w' w'.heap.size A' n' c' (um f n a s h m lz)/\aR w.heap.size w w':=by
 obtain⟨E,hE⟩:=gX (sE n a s h m)
 obtain⟨V,hV⟩:=gX (um f n a s h m lz)
 rw[<-hE,<-hV]
 unfold um at hV
 rw[<-hE]at hV
 obtain⟨W1,aZ⟩:=gX (w.alloc (ak #[ae aj s,ae aj h,ae aj m,ai lz] 27))
 have bu:aR w.heap.size w W1:=by rw[aZ];exact ix.alloc gY _
 have bl:W1.heap.size=w.heap.size+1:=by rw[aZ];simp
 have aT:W1.heap[w.heap.size]?=some (ak #[ae aj s,ae aj h,ae aj m,ai lz] 27 (0,0)):=by rw[aZ];exact aG w _
 obtain⟨g,hg⟩:=gX (w.heap.size)
 rw[<-hg]at aT bl
 have bm:=pG W1 s h m lz
 obtain⟨e1,av⟩:=gX (ku s h m)
 rw[<-av]at bm
 have HR:=gW hr;have HE:=gW hE;have HV:=gW hV;have al:=gW bu;have bz:=gW bl;have a1:=gW aT;have HG:=gW hg;have a2:=gW bm;have aX:=gW av;have a3:=gW aZ
 clear hr hE hV bu bl aT hg bm av aZ
 by_cases aU:E=0
 ·have bX:iJ s h m=true/\n<=131072/\0<=a/\a<=(n:Int):=by
   have:=HE.out;rw[aU]at this;unfold sE at this;by_cases q1:iJ s h m=true
   ·rw[if_neg (by rw[q1];decide)]at this;by_cases q2:131072<n
    ·rw[if_pos q2]at this;omega
    ·rw[if_neg q2]at this;by_cases q3:0<=a/\a<=(n:Int)
     ·exact⟨q1,by omega,q3.1,q3.2⟩
     ·rw[if_neg q3]at this;omega
   ·rw[if_pos (by simpa using q1)]at this;omega
  subst aU;obtain⟨bn,hn,bY,cg⟩:=bX;obtain⟨m1,m2,m3,m4,m5,m6⟩:=Kt bn;obtain rfl:e1=0:=by rw[aX.out];unfold ku;rw[if_pos bn]
  obtain⟨a,rfl⟩:=Int.eq_ofNat_of_zero_le bY;obtain⟨z,rfl⟩:=Int.eq_ofNat_of_zero_le (show 0<=s by omega);obtain⟨ch,rfl⟩:=Int.eq_ofNat_of_zero_le (show 0<=h by omega);have a7:V=jk f n z ch lz a:=by rw[HV.out,if_pos rfl,Int.toNat_natCast,Int.toNat_natCast,Int.toNat_natCast]
  have bA:=gW a7;clear a7 HE HV aX bn;have d1:decide (131072<(n:Int))=false:=by simp;omega
  have d2:decide ((a:Int)<0)=false:=by simp
  have d3:decide ((n:Int)<(a:Int))=false:=by simp;omega
  have d4:decide (n<a)=false:=by simp;omega
  refine(callsIn_wide (n:=5)).1 ?_;refine callsIn_of_wp_marks func64 rfl trivial ?_ rfl;simp only[ntmps64,List.size_toArray,List.length_cons,List.length_nil,Nat.reduceAdd,Nat.reduceSub,Array.replicate_succ,Array.replicate_zero,List.push_toArray,List.append_toArray,List.nil_append,List.cons_append];gi_wp2_with fail
  rw[<-a3.out,<-HG.out];refine(callsIn_wide.2 a2.out).mono ?_;rintro e w2 ⟨rfl,ad⟩;have bp:=(ad.block g (by have:=bz.out;omega)).trans a1.out;have aS:=gW (al.out.trans (ad.mono al.out.size));have bZ:=gW bp
  obtain⟨b,hb⟩:=gX (w2.heap.size);have b0:g<b:=by have:=ad.size;have:=bz.out;omega
  have bB:(w2.alloc (ak #[af none 0 0] 79)).heap[g]?=some (ak #[ae aj (z:Int),ae aj (ch:Int),ae aj m,ai lz] 27 (0,0)):=(Below.heap_alloc _ _ _ (by omega)).trans bp;have bC:=gW bB;clear ad bp bB;gi_wp2_with (first
   |(refine vR rfl _ _ rfl g rfl _ #[ae aj (z:Int),ae aj (ch:Int),ae aj m,ai lz] (0,0) _ bC.out underlying27 rfl wF ?_)
   |(gi_at_call 81;refine(L0 _ _ _ _ _ _ _ _ _ _).mono ?_;rintro e w' ⟨rfl,rfl⟩))
  obtain⟨u,hu⟩:=gX ((((w2.alloc (ak #[af none 0 0] 79)).alloc (ak #[af A n c] 22)).alloc (ak #[ae aj (a:Int)] 3)).alloc (ak #[ae aj (z:Int),ae aj (ch:Int),ae aj m,ai lz] 27));have bD:u.heap.size=b+4:=by rw[hu,hb];simp
  have bE:aR b w2 u:=by
   rw[hu,hb];exact((((Below.refl w2.heap.size w2).alloc gY _).alloc (by simp) _).alloc (by simp;omega) _).alloc (by simp;omega) _
  have bF:aR w.heap.size w u:=aS.out.trans (bE.mono (by have:=HG.out;omega));have bG:Boxed u b 79 (af none 0 0):=by
   rw[hu,hb];exact(((Boxed.new w2 _ _).alloc _).alloc _).alloc _
  have bH:Boxed u (b+1) 22 (af A n c):=by
   have:=((Boxed.new (w2.alloc (ak #[af none 0 0] 79)) 22 (af A n c)).alloc (ak #[ae aj (a:Int)] 3)).alloc (ak #[ae aj (z:Int),ae aj (ch:Int),ae aj m,ai lz] 27);rw[World.size_alloc,<-hb]at this;rw[hu];exact this
  have bI:Boxed u (b+2) 3 (ae aj (a:Int)):=by
   have:=(Boxed.new ((w2.alloc (ak #[af none 0 0] 79)).alloc (ak #[af A n c] 22)) 3 (ae aj (a:Int))).alloc (ak #[ae aj (z:Int),ae aj (ch:Int),ae aj m,ai lz] 27);rw[World.size_alloc,World.size_alloc,<-hb]at this;rw[hu];exact this
  have bJ:u.heap[b+3]?=some (ak #[ae aj (z:Int),ae aj (ch:Int),ae aj m,ai lz] 27 (0,0)):=by
   have:=aG (((w2.alloc (ak #[af none 0 0] 79)).alloc (ak #[af A n c] 22)).alloc (ak #[ae aj (a:Int)] 3)) (ak #[ae aj (z:Int),ae aj (ch:Int),ae aj m,ai lz] 27);rw[World.size_alloc,World.size_alloc,World.size_alloc,<-hb]at this;rw[hu];exact this
  have HU:=gW hu;have HB:=gW hb;have aV:=gW bD;have bq:=gW bF;have b1:=gW bG;have b2:=gW bH;have b3:=gW bI;have b4:=gW bJ
  clear hu bD bE bF bG bH bI bJ bC bZ hb;rw[<-HU.out];simp only[Nat.add_assoc,Nat.reduceAdd];rw[<-HB.out];refine LW (L:=V.length) rfl (by omega) (gf:=102) (lb:=#[ag (some ⟨b+2,0,none⟩),ag (some ⟨b+1,0,none⟩),ag (some ⟨b+3,0,none⟩)]) rfl trivial (enters_of func102 (by kernel_rfl) rfl)
   (L6 _ (by omega) (b+1) (b+2) (b+3) w.heap.size (b+4) A n c a z ch m lz f (wN w.heap.size b) ⟨.inr (by omega),.inr (by omega),.inr (by omega)⟩ (fun k hk=>.inl hk) (fun k hk=>by rcases hk with hk|hk<;>have:=HG.out<;>omega) (by omega) hn (by omega) (by omega) (by omega) V bA.out u (by rw[aV.out];exact Nat.le_refl _) b2.out.cell b3.out.cell b4.out (HR.out.below bq.out gY) bq.out.size)
   (fun h k=>h.tr k) ?keep (fun _=>rfl)
   (sJ w u b V) (sJ.own w u b V (by have:=HG.out;omega) aV.out) ?start
   (wO w u b V (ze A n c a z ch m lz g b)) (fun a₁=>wO.own w u b V _ (by have:=HG.out;omega) aV.out a₁) ?assign ?body ?done
  case keep=>
   intro W l o o' hl ho hc _;exact L9 (N:=u.heap.size) (fun k hk=>by rw[aV.out];rcases hk with hk|hk<;>have:=HG.out<;>omega) W l o o' hl ho hc
  case start=>exact⟨bq.out,iC.refl _ _,Nat.le_refl _,none,0,b1.out,World.ownsRow_nil _ _ _ _⟩
  case assign=>
   intro l j W K hI hj hK;have hb:aR W.heap.size W (W.alloc (ak #[ae .u8 ((V.getD j jl).x:Int),ae aj (V.getD j jl).d,ae aj (V.getD j jl).n] 127)):=ix.alloc gY _;have hn:(W.alloc (ak #[ae .u8 ((V.getD j jl).x:Int),ae aj (V.getD j jl).d,ae aj (V.getD j jl).n] 127)).heap[W.heap.size]?=some (ak #[ae .u8 ((V.getD j jl).x:Int),ae aj (V.getD j jl).d,ae aj (V.getD j jl).n] 127 (0,0)):=aG W _;have bd:=(sJ.own w u b V (by have:=HG.out;omega) aV.out).alloc (ak #[ae .u8 ((V.getD j jl).x:Int),ae aj (V.getD j jl).d,ae aj (V.getD j jl).n] 127) hI;have bK:KeepsOthers W (W.alloc (ak #[ae .u8 ((V.getD j jl).x:Int),ae aj (V.getD j jl).d,ae aj (V.getD j jl).n] 127)):=KeepsOthers.alloc W _;have bL:rG (wN w.heap.size b) W (W.alloc (ak #[ae .u8 ((V.getD j jl).x:Int),ae aj (V.getD j jl).d,ae aj (V.getD j jl).n] 127)):=
    ⟨zc hb hI.2.2.1 (fun k hk=>by rw[aV.out];rcases hk with hk|hk<;>have:=HG.out<;>omega),fun k cs hk=>(hb.block k (Array.getElem?_eq_some_iff.1 hk).1).trans hk,hb.size⟩
   have bM:=hI.2.2.1;obtain⟨t,ht⟩:=gX (V.getD j jl);have aY:=hK (ze A n c a z ch m lz g b W.heap.size (V.getD j jl)) _ bK bL ⟨W.heap.size,rfl,bM,hn,bd⟩;simp only[uy,zd];rw[<-ht]at aY⊢;obtain⟨tx,td,tn⟩:=t;have br:=gW aY;clear aY hK bK bL bd hn hb hI ht bM;gi_wp2
   exact br.out
  case body=>
   rintro l j a₁ W ⟨x,rfl,hx,aW,h1,h2,h3,A1,c1,h5,h6⟩ hj;have bt:V.take (j+1)=V.take j++[V.getD j jl]:=by
    rw[List.take_succ_eq_append_getElem hj,List.getD_eq_getElem?_getD,List.getElem?_eq_getElem hj];rfl
   have b5:V.length<=n-a:=by rw[bA.out];exact(vd lz (by omega) _ _ (by omega)).1
   obtain⟨t,ht⟩:=gX (V.getD j jl);rw[<-ht]at aW bt⊢;obtain⟨A',c',w3,bf,a4,a8,bg,bN⟩:=L7 W (b+4) A1 j c1 _ h6 t (by omega) (by rw[<-aV.out];exact h3);obtain⟨tx,td,tn⟩:=t;have a5:=oU h6 aW (by kernel_rfl);have bO:=(Array.getElem?_eq_some_iff.1 aW).1;have bj:u.heap.size<=w3.heap.size:=by have:=a8.size;omega
   have bP:∀k,k<b+4->w3.heap[k]?=W.heap[k]?:=fun k hk=>a8.block k hk
   have aT:=(bP b (by omega)).trans h5;have cl:=h5.cell;have cj:=Boxed.cell aT;have ck:=Boxed.frozen aT;have cf:g<b:=b0;have bQ:=gW aW;have bR:=gW bf;have bS:=gW a4;have a9:=gW a8;have b6:=gW bg;have b7:=gW bN;have H1:=gW h1;have H2:=gW h2;have b8:=gW bt;have a1:=gW aT;have H6:=gW h6;have bT:=gW bj
   have cm:=gW a5;have HX:=gW hx;have cn:=gW bO
   clear aW bf a4 a8 bg bN h1 h2 bt aT h6 bP a5 ht b5 bj hx bO;unfold ze;gi_wp2_with (first
    |(refine vR rfl _ _ rfl x rfl _ #[ae .u8 (tx:Int),ae aj td,ae aj tn] (0,0) _ bQ.out underlying127 rfl (qi _ _ _) ?_)
    |(gi_at_builtin;refine J9 rfl (.tmp 32) (.tmp 34) 79 rfl (af A1 j c1) (af (some ⟨W.heap.size,0,none⟩) 1 1) (af A' (j+1) c') w3 rfl rfl bR.out ?_))
   have bk:=Boxed.set (af A' (j+1) c') a1.out;obtain⟨Y,hY⟩:=gX (w3.setCell ⟨b,0,none⟩ (af A' (j+1) c'));have bU:Y.heap.size=w3.heap.size:=by rw[hY];simp[World.setCell]
   have bV:∀k,k≠b->Y.heap[k]?=w3.heap[k]?:=fun k hk=>by rw[hY];exact Below.heap_setCell w3 _ _ k (by show k≠b;exact hk)
   have b9:KeepsOthers w3 Y:=by rw[hY];exact KeepsOthers.setCell _ _ _
   have ca:aR w.heap.size w Y:=by rw[hY];exact(H1.out.trans (a9.out.mono (by have:=HG.out;omega))).setCell (p:=⟨b,0,none⟩) (by show w.heap.size<=b;have:=HG.out;omega) _
   have a6:=ownsRow_setCell_below bS.out (a:=⟨b,0,none⟩) (by show b<_;omega) (af A' (j+1) c');rw[<-hY]at bk a6⊢;have bW:iC (wN w.heap.size b) W Y:=fun k hS=>(bV k (by have:=HG.out;rcases hS with hS|hS<;>omega)).trans (a9.out.block k (by have:=HG.out;rcases hS with hS|hS<;>omega))
   refine⟨b6.out.trans b9,⟨bW,fun k cs hk=>?_,by rw[bU];exact a9.out.size⟩,ca,fun k hS=>(bW k hS).trans (H2.out k hS),by rw[bU];exact bT.out,A',c',bk,?_⟩
   ·have cb:k≠b:=fun e=>by
     subst e;have:=cl;have h9:=a9.out.block k (by omega);rw[a1.out]at h9;rw[hk]at h9;injection h9 with h9
     injection h9 with _ h9 _
     exact absurd h9 (by decide)
    exact(bV k cb).trans ((b7.out k (Array.getElem?_eq_some_iff.1 hk).1 (oU H6.out hk (by kernel_rfl))).trans hk)
   ·rw[b8.out];exact a6
  case done=>
   rintro D W hD ⟨h1,h2,h3,A1,c1,h5,h6⟩ hK;rw[List.take_length]at h6;have cl:=h5.cell;have H1:=gW h1;have H6:=gW h6;have HK:=gW hK
   clear h1 h2 h3 h5 h6 hK;gi_wp2
   refine⟨by simp,.inl ⟨_,_,rfl,run_takeDeferred HK.out,?_⟩⟩;refine⟨_,(by simp[results,Tryz.results64,go_sem]),A1,V.length,c1,rfl,?_,?_⟩
   ·have ho:=Cy H6.out (grownBy_putObj' W D (.deferred none)) (fun r e=>by cases e;exact⟨_,HK.out,rfl⟩);exact jW.iI ho
   ·exact H1.out.grown (grownBy_putObj' W D _) H1.out.size (fun r e=>by cases e;rw[aV.out]at hD;have:=HG.out;omega)
 ·have a7:V=[]:=by rw[HV.out,if_neg aU]
  subst a7;have hE:=HE.out;have av:=aX.out;clear HV a1;unfold sE at hE;unfold ku at av;by_cases q1:iJ s h m=false
  ·rw[if_pos q1]at hE;rw[if_neg (by rw[q1];decide)]at av;subst hE;subst av;clear aU HE aX;go_enter func64,ntmps64
   go_wp2_with fail
   rw[<-a3.out,<-HG.out];refine a2.out.mono ?_;rintro e w2 ⟨rfl,ad⟩;have aS:=gW (al.out.trans (ad.mono al.out.size));clear ad;go_wp2;go_ret2;exact⟨none,0,0,rfl,jW.nil _ _,aS.out⟩
  rw[if_neg q1]at hE;rw[if_pos (by simpa using q1)]at av;subst av;by_cases q2:131072<n
  ·rw[if_pos q2]at hE;subst hE;have d1:decide (131072<(n:Int))=true:=by simp;omega
   clear aU HE aX;go_enter func64,ntmps64
   go_wp2_with fail
   rw[<-a3.out,<-HG.out];refine a2.out.mono ?_;rintro e w2 ⟨rfl,ad⟩;have aS:=gW (al.out.trans (ad.mono al.out.size));clear ad;go_wp2;go_ret2;exact⟨none,0,0,rfl,jW.nil _ _,aS.out⟩
  rw[if_neg q2]at hE;have d1:decide (131072<(n:Int))=false:=by simp;omega
  by_cases q3:a<0
  ·rw[if_neg (by omega)]at hE;subst hE;have d2:decide (a<0)=true:=by simp;omega
   clear aU HE aX;go_enter func64,ntmps64
   go_wp2_with fail
   rw[<-a3.out,<-HG.out];refine a2.out.mono ?_;rintro e w2 ⟨rfl,ad⟩;have aS:=gW (al.out.trans (ad.mono al.out.size));clear ad;go_wp2;go_ret2;exact⟨none,0,0,rfl,jW.nil _ _,aS.out⟩
  have d2:decide (a<0)=false:=by simp;omega
  by_cases q4:(n:Int)<a
  ·rw[if_neg (by omega)]at hE;subst hE;have d3:decide ((n:Int)<a)=true:=by simp;omega
   clear aU HE aX;go_enter func64,ntmps64
   go_wp2_with fail
   rw[<-a3.out,<-HG.out];refine a2.out.mono ?_;rintro e w2 ⟨rfl,ad⟩;have aS:=gW (al.out.trans (ad.mono al.out.size));clear ad;go_wp2;go_ret2;exact⟨none,0,0,rfl,jW.nil _ _,aS.out⟩
  ·rw[if_pos (by omega)]at hE;exact absurd hE aU
theorem Ev{t:iu}(h:iO t=true)(hx:t.x<256):sG t:=by
 unfold iO at h;simp only[decide_eq_true_eq]at h;exact⟨hx,by omega,by omega⟩
theorem Ew(w:aq)(B g:Nat)(p:iz)(out:List Nat)(Ah:Option au)(hc:Nat)(Aw:Option au)(wc:Nat)(Ap:Option au)(pc:Nat)(Ao:Option au)(oc:Nat)(U:iT w B g p out Ah hc Aw wc Ap pc Ao oc)(K:Nat)(hk:p.k=(K:Int))(n:Nat)(hn:n<=p.wait.length)(hb:p.hist.length+p.wait.length<=2000000):
  aw prog 65 #[ag (some ⟨g,0,none⟩),ae aj (n:Int)] w fun e w'=>e=ao (af Ah (p.hist.length+n) hc)/\aR w.heap.size w w':=by
 have aT:=hn
 clear hn
 obtain⟨hn,al⟩:=gX (p.hist.length)
 obtain⟨wn,av⟩:=gX (p.wait.length)
 obtain⟨pn,ad⟩:=gX (p.ie.length)
 obtain⟨on,aS⟩:=gX (out.length)
 have eX:jZ p Ah hc Aw wc Ap pc Ao out.length oc=#[ae aj p.s,ae aj p.h,ae aj p.m,ai p.z,af Ah hn hc,af Aw wn wc,af Ap pn pc,ae aj (K:Int),ai p.iH,(af Ao on oc)]:=by
  unfold jZ;rw[<-al,<-av,<-ad,hk,<-aS]
 have hx:=U.box
 rw[eX]at hx
 have aU:=U.row.2.2.1
 have aV:aQ (∀V:aq,(binOp .add 3 (ae aj (hn:Int)) (ae aj (n:Int))).run prog V=.ok (ae aj ((hn+n:Nat):Int)) V):=gW fun V=>LQ _ _ _ _ (by omega) V
 have RT:aQ (∀V:aq,(Instr.sliceAt 22 (af Ah hn hc) none (some (ae aj ((hn+n:Nat):Int))) none).run prog V=.ok (af Ah (hn+n) hc) V):=gW fun V=>vP Ah hn hc (hn+n) (by omega) V
 have HX:=gW hx
 rw[<-al]
 clear U hk aT hb al av ad aS eX hx aU
 go_enter func65,ntmps65
 go_wp2
 refine tt (nM [fun v _=>v=ag (some ⟨g,0,none⟩),fun v _=>v=ag (some ⟨g,0,none⟩),fun v _=>v=ag (some ⟨g,0,none⟩),fun v _=>v=ag (some ⟨g,4,none⟩),fun v _=>v=af Ah hn hc,fun v _=>v=ag (some ⟨g,0,none⟩),fun v _=>v=ag (some ⟨g,0,none⟩),fun v _=>v=ag (some ⟨g,0,none⟩),fun v _=>v=ag (some ⟨g,4,none⟩),fun v _=>v=af Ah hn hc,fun v _=>v=ae aj (hn:Int),fun v _=>v=ae aj (n:Int),fun v _=>v=ae aj ((hn+n:Nat):Int),fun v _=>v=af Ah (hn+n) hc,fun v _=>v=af Ah (hn+n) hc]) w ix (by kernel_rfl) (by kernel_rfl) ?_ ?_
 case refine_1=>
  refine ia.cons (fun aa wv hb ha hS Kk Qq hK=>iS (ic rfl) _ rfl (ij ((ha 0 (by kernel_rfl)).trans rfl)) hK) ?_;refine ia.cons (fun aa wv hb ha hS Kk Qq hK=>lU (ic rfl) _ rfl _ (hS 0 5 (by kernel_rfl) rfl).here (ij rfl) hK) ?_;refine ia.cons (fun aa wv hb ha hS Kk Qq hK=>iL (ic rfl) _ _ _ rfl _ (ag (some ⟨g,0,none⟩)) (hS 1 6 (by kernel_rfl) rfl).here (by go_simp) (ij rfl) hK) ?_;refine ia.cons (fun aa wv hb ha hS Kk Qq hK=>iL (ic rfl) _ _ _ rfl _ (ag (some ⟨g,4,none⟩)) (hS 2 7 (by kernel_rfl) rfl).here (by go_simp) (ij rfl) hK) ?_;refine ia.cons (fun aa wv hb ha hS Kk Qq hK=>lu (ic rfl) _ _ rfl _ (af Ah hn hc) (hS 3 8 (by kernel_rfl) rfl).here (by have hc:wv.cell? ⟨g,4,none⟩=some (af Ah hn hc):=(HX.out.below hb HX.out.lt).cell.trans rfl;go_simp) (ij rfl) hK) ?_;refine ia.cons (fun aa wv hb ha hS Kk Qq hK=>iS (ic rfl) _ rfl (ij ((ha 0 (by kernel_rfl)).trans rfl)) hK) ?_;refine ia.cons (fun aa wv hb ha hS Kk Qq hK=>lU (ic rfl) _ rfl _ (hS 5 10 (by kernel_rfl) rfl).here (ij rfl) hK) ?_;refine ia.cons (fun aa wv hb ha hS Kk Qq hK=>iL (ic rfl) _ _ _ rfl _ (ag (some ⟨g,0,none⟩)) (hS 6 11 (by kernel_rfl) rfl).here (by go_simp) (ij rfl) hK) ?_;refine ia.cons (fun aa wv hb ha hS Kk Qq hK=>iL (ic rfl) _ _ _ rfl _ (ag (some ⟨g,4,none⟩)) (hS 7 12 (by kernel_rfl) rfl).here (by go_simp) (ij rfl) hK) ?_;refine ia.cons (fun aa wv hb ha hS Kk Qq hK=>lu (ic rfl) _ _ rfl _ (af Ah hn hc) (hS 8 13 (by kernel_rfl) rfl).here (by have hc:wv.cell? ⟨g,4,none⟩=some (af Ah hn hc):=(HX.out.below hb HX.out.lt).cell.trans rfl;go_simp) (ij rfl) hK) ?_;refine ia.cons (fun aa wv hb ha hS Kk Qq hK=>uw (ic rfl) _ _ rfl Ah hn hc (hS 9 14 (by kernel_rfl) rfl).here underlying22 (ij rfl) hK) ?_;refine ia.cons (fun aa wv hb ha hS Kk Qq hK=>iS (ic rfl) _ rfl (ij ((ha 1 (by kernel_rfl)).trans rfl)) hK) ?_;refine ia.cons (fun aa wv hb ha hS Kk Qq hK=>qD (ic rfl) _ _ _ _ _ rfl _ _ (ae aj ((hn+n:Nat):Int)) (hS 10 15 (by kernel_rfl) rfl).here (hS 11 16 (by kernel_rfl) rfl).here (sy _ _ _ _ _ _ _ (by decide) (by decide) _) (aV.out wv) (ij rfl) hK) ?_;refine ia.cons (fun aa wv hb ha hS Kk Qq hK=>rB (ic rfl) _ _ _ _ _ rfl (af Ah hn hc) (af Ah (hn+n) hc) none (some (ae aj ((hn+n:Nat):Int))) none (hS 4 9 (by kernel_rfl) rfl).here rfl (congrArg some (hS 12 17 (by kernel_rfl) rfl).here) rfl (RT.out wv) (ij rfl) hK) ?_;refine ia.cons (fun aa wv hb ha hS Kk Qq hK=>tu (ic rfl) _ rfl (hS 13 18 (by kernel_rfl) rfl) hK) ?_;exact ia.nil
 intro vals w5 hb hv
 have e4:vals 4=af Ah (hn+n) hc:=(hv 14 4 rfl).here
 have HB:=gW hb
 clear hb hv
 simp only[List.map_cons,List.map_nil,P5,Act.put,List.setIfInBounds_toArray,List.set_cons_zero,List.set_cons_succ,e4]
 clear e4
 go_wp2
 go_ret
 exact⟨rfl,HB.out⟩
theorem qj(s h m:Int)(z:Bool):(prog.info? 27).map (·.size)=some ([ae aj s,ae aj h,ae aj m,ai z]:List ax).length:=by kernel_rfl
theorem Mb(w:aq)(B g:Nat)(p:iz)(out:List Nat)(Ah:Option au)(hc:Nat)(Aw:Option au)(wc:Nat)(Ap:Option au)(pc:Nat)(Ao:Option au)(oc:Nat)(U:iT w B g p out Ah hc Aw wc Ap pc Ao oc)(gd:lS p)(n:Nat)(aS:n<=p.wait.length)(aV:n<=65535)(hb:p.wait.length<=1000000):
  aw prog 50 #[ag (some ⟨g,0,none⟩),ae aj (n:Int)] w fun e w'=>∃A' n' c',e=ao (af A' n' c')/\jW w' w'.heap.size A' n' c' (jq p (p.wait.take n))/\aR w.heap.size w w':=by
 obtain⟨K,hk⟩:∃K:Nat,p.k=(K:Int):=⟨p.k.toNat,by have:=gd.k0;omega⟩
 have hs:=lr gd.ks
 have hh:=gd.hist
 obtain⟨TL,al⟩:=gX (jq p (p.wait.take n))
 rw[<-al]
 have TX:aQ (∀V,aR w.heap.size w V->aw prog 65 #[ag (some ⟨g,0,none⟩),ae aj (n:Int)] V fun e w'=>e=ao (af Ah (p.hist.length+n) hc)/\aR V.heap.size V w'):=gW fun V hV=>Ew V B g p out Ah hc Aw wc Ap pc Ao oc (U.below hV) K hk n aS (by omega)
 have hlen:(p.hist++p.wait.take n).length=p.hist.length+n:=by rw[List.length_append,List.length_take,Nat.min_eq_left aS]
 have CT:aQ (∀V,aR w.heap.size w V->aw prog 64 #[af Ah (p.hist.length+n) hc,ae aj (p.hist.length:Int),ah #[ae aj p.s,ae aj p.h,ae aj p.m,ai p.z]] V fun e w'=>∃A' n' c',e=ao (.tuple #[af A' n' c',ae aj 0])/\jW w' w'.heap.size A' n' c' TL/\aR V.heap.size V w'):=gW fun V hV=>by
  have hr:=(U.below hV).row;have bb:jm (p.hist++p.wait.take n):=fun x hx=>(List.mem_append.1 hx).elim (gd.bh x) (rF gd.bw n x)
  have aW:ib V V.heap.size Ah (p.hist.length+n) hc (hH (p.hist++p.wait.take n)):=by
   refine⟨⟨kH bb,fun h0=>?_⟩,hr.2.1,by have:=hr.2.2.1;omega,hr.2.2.2⟩;obtain⟨b,o,e1,e2,e3⟩:=hr.1.2 (by omega);refine⟨b,o,e1,e2,fun j hj=>?_⟩;rw[e3 j (by omega),oO,oO];unfold cat;by_cases h:j<p.hist.length
   ·rw[if_pos h,if_pos h]
   ·rw[if_neg h,if_neg h,tp p.wait (show j-p.hist.length<n by omega)]
  have h1:=Ma V Ah (p.hist.length+n) hc (hH (p.hist++p.wait.take n)) (p.hist.length:Int) p.s p.h p.m p.z aW (by omega) (by omega);have hE:sE (p.hist.length+n) (p.hist.length:Int) p.s p.h p.m=0:=by
   unfold sE;rw[gd.ks,if_neg (by simp),if_neg (by omega),if_pos (by omega)]
  have hV:um (hH (p.hist++p.wait.take n)) (p.hist.length+n) (p.hist.length:Int) p.s p.h p.m p.z=TL:=by
   unfold um;rw[hE,if_pos rfl,al,Int.toNat_natCast];unfold jq;rw[hlen]
  rw[hE,hV]at h1;exact h1
 obtain⟨hn,av⟩:=gX (p.hist.length)
 obtain⟨wn,aT⟩:=gX (p.wait.length)
 obtain⟨pn,ad⟩:=gX (p.ie.length)
 obtain⟨on,aU⟩:=gX (out.length)
 rw[<-av]at TX CT
 have eX:jZ p Ah hc Aw wc Ap pc Ao out.length oc=#[ae aj p.s,ae aj p.h,ae aj p.m,ai p.z,af Ah hn hc,af Aw wn wc,af Ap pn pc,ae aj (K:Int),ai p.iH,(af Ao on oc)]:=by
  unfold jZ;rw[<-av,<-aT,<-ad,hk,<-aU]
 have hx:=U.box
 rw[eX]at hx
 have HX:=gW hx
 clear U hk hb av aT ad aU eX hx gd hs hh hlen al aV
 go_enter func50,ntmps50
 go_wp2_with fail
 refine tt (nM [fun v _=>v=ag (some ⟨g,0,none⟩),fun v _=>v=ae aj (n:Int),fun v _=>v=af Ah (hn+n) hc,fun v _=>v=ag (some ⟨g,0,none⟩),fun v _=>v=ag (some ⟨g,0,none⟩),fun v _=>v=ag (some ⟨g,0,none⟩),fun v _=>v=ag (some ⟨g,4,none⟩),fun v _=>v=af Ah hn hc,fun v _=>v=ae aj (hn:Int),fun v _=>v=ag (some ⟨g,0,none⟩),fun v _=>v=ag (some ⟨g,0,none⟩),fun v _=>v=ag (some ⟨g,0,none⟩),fun v _=>v=ag (some ⟨g,0,none⟩),fun v _=>v=ah #[ae aj p.s,ae aj p.h,ae aj p.m,ai p.z],fun v W=>∃A' n' c',v=.tuple #[af A' n' c',ae aj 0]/\jW W W.heap.size A' n' c' TL,fun v W=>∃A' n' c',v=.tuple #[af A' n' c',ae aj 0]/\jW W W.heap.size A' n' c' TL,fun v W=>∃A' n' c',v=af A' n' c'/\jW W W.heap.size A' n' c' TL,fun v _=>v=ae aj 0,fun v W=>∃A' n' c',v=af A' n' c'/\jW W W.heap.size A' n' c' TL,fun v _=>v=ae aj 0]) w ix (by kernel_rfl) (by kernel_rfl) ?_ ?_
 case refine_1=>
  refine ia.cons (fun aa wv hb ha hS Kk Qq hK=>iS (ic rfl) _ rfl (ij ((ha 0 (by kernel_rfl)).trans rfl)) hK) ?_;refine ia.cons (fun aa wv hb ha hS Kk Qq hK=>iS (ic rfl) _ rfl (ij ((ha 1 (by kernel_rfl)).trans rfl)) hK) ?_;refine ia.cons (fun aa wv hb ha hS Kk Qq hK=>mq (ic rfl) 65 _ _ rfl (enters_of func65 (by kernel_rfl) rfl) #[ag (some ⟨g,0,none⟩),ae aj (n:Int)] (by simp[(show aa.eval (.tmp 8)=ag (some ⟨g,0,none⟩)from(hS 0 8 (by kernel_rfl) rfl).here),(show aa.eval (.tmp 9)=ae aj (n:Int)from(hS 1 9 (by kernel_rfl) rfl).here)]) (TX.out wv hb) (fun ee w' ⟨h1,h2⟩=>⟨_,h1,h2,ij rfl⟩) hK) ?_;refine ia.cons (fun aa wv hb ha hS Kk Qq hK=>iS (ic rfl) _ rfl (ij ((ha 0 (by kernel_rfl)).trans rfl)) hK) ?_;refine ia.cons (fun aa wv hb ha hS Kk Qq hK=>lU (ic rfl) _ rfl _ (hS 3 11 (by kernel_rfl) rfl).here (ij rfl) hK) ?_;refine ia.cons (fun aa wv hb ha hS Kk Qq hK=>iL (ic rfl) _ _ _ rfl _ (ag (some ⟨g,0,none⟩)) (hS 4 12 (by kernel_rfl) rfl).here (by go_simp) (ij rfl) hK) ?_;refine ia.cons (fun aa wv hb ha hS Kk Qq hK=>iL (ic rfl) _ _ _ rfl _ (ag (some ⟨g,4,none⟩)) (hS 5 13 (by kernel_rfl) rfl).here (by go_simp) (ij rfl) hK) ?_;refine ia.cons (fun aa wv hb ha hS Kk Qq hK=>lu (ic rfl) _ _ rfl _ (af Ah hn hc) (hS 6 14 (by kernel_rfl) rfl).here (by have hc:wv.cell? ⟨g,4,none⟩=some (af Ah hn hc):=(HX.out.below hb HX.out.lt).cell.trans rfl;go_simp) (ij rfl) hK) ?_;refine ia.cons (fun aa wv hb ha hS Kk Qq hK=>uw (ic rfl) _ _ rfl Ah hn hc (hS 7 15 (by kernel_rfl) rfl).here underlying22 (ij rfl) hK) ?_;refine ia.cons (fun aa wv hb ha hS Kk Qq hK=>iS (ic rfl) _ rfl (ij ((ha 0 (by kernel_rfl)).trans rfl)) hK) ?_;refine ia.cons (fun aa wv hb ha hS Kk Qq hK=>lU (ic rfl) _ rfl _ (hS 9 17 (by kernel_rfl) rfl).here (ij rfl) hK) ?_;refine ia.cons (fun aa wv hb ha hS Kk Qq hK=>iL (ic rfl) _ _ _ rfl _ (ag (some ⟨g,0,none⟩)) (hS 10 18 (by kernel_rfl) rfl).here (by go_simp) (ij rfl) hK) ?_;refine ia.cons (fun aa wv hb ha hS Kk Qq hK=>iL (ic rfl) _ _ _ rfl _ (ag (some ⟨g,0,none⟩)) (hS 11 19 (by kernel_rfl) rfl).here (by go_simp) (ij rfl) hK) ?_;refine ia.cons (fun aa wv hb ha hS Kk Qq hK=>nN (ic rfl) _ _ rfl g 0 (hS 12 20 (by kernel_rfl) rfl).here [ae aj p.s,ae aj p.h,ae aj p.m,ai p.z] _ (mg (HX.out.below hb HX.out.lt) 0 [ae aj p.s,ae aj p.h,ae aj p.m,ai p.z] (fun i hi=>by rcases i with _|_|_|_|i<;>first|rfl|(simp at hi;omega))) underlying27 rfl (qj ..) (ij rfl) hK) ?_;refine ia.cons (fun aa wv hb ha hS Kk Qq hK=>mq (ic rfl) 64 _ _ rfl (enters_of func64 (by kernel_rfl) rfl) #[af Ah (hn+n) hc,ae aj (hn:Int),ah #[ae aj p.s,ae aj p.h,ae aj p.m,ai p.z]] (by simp[(show aa.eval (.tmp 10)=af Ah (hn+n) hc from(hS 2 10 (by kernel_rfl) rfl).here),(show aa.eval (.tmp 16)=ae aj (hn:Int)from(hS 8 16 (by kernel_rfl) rfl).here),(show aa.eval (.tmp 21)=ah #[ae aj p.s,ae aj p.h,ae aj p.m,ai p.z]from(hS 13 21 (by kernel_rfl) rfl).here)]) (CT.out wv hb) (fun ee w' ⟨A',n',c',h1,h2,h3⟩=>⟨_,h1,h3,fun W hW=>⟨_,_,_,rfl,(h2.below hW gY).more hW.size⟩⟩) hK) ?_;refine ia.cons (fun aa wv hb ha hS Kk Qq hK=>iS (ic rfl) _ rfl (hS 14 22 (by kernel_rfl) rfl) hK) ?_;refine ia.cons (fun aa wv hb ha hS Kk Qq hK=>by have hs:=hS 15 7 (by kernel_rfl) rfl;obtain⟨a1,a2,a3,e1,r1⟩:=hs.here;exact rz (ic rfl) _ _ rfl _ _ e1 (by go_simp) (fun W hW=>⟨_,_,_,rfl,(r1.below hW gY).more hW.size⟩) hK) ?_;refine ia.cons (fun aa wv hb ha hS Kk Qq hK=>by have hs:=hS 15 7 (by kernel_rfl) rfl;obtain⟨a1,a2,a3,e1,r1⟩:=hs.here;exact rz (ic rfl) _ _ rfl _ _ e1 (by go_simp) (ij rfl) hK) ?_;refine ia.cons (fun aa wv hb ha hS Kk Qq hK=>tu (ic rfl) _ rfl (hS 16 23 (by kernel_rfl) rfl) hK) ?_;refine ia.cons (fun aa wv hb ha hS Kk Qq hK=>tu (ic rfl) _ rfl (hS 17 24 (by kernel_rfl) rfl) hK) ?_;exact ia.nil
 intro vals w5 hb hv
 obtain⟨A',n',c',e5,r5⟩:=(hv 18 5 rfl).here
 have HB:=gW hb;have HR:=gW r5
 clear hb hv r5
 simp only[List.map_cons,List.map_nil,P5,Act.put,List.setIfInBounds_toArray,List.set_cons_zero,List.set_cons_succ,e5]
 clear e5
 go_wp2
 go_ret
 exact⟨A',n',c',rfl,HR.out,HB.out⟩
theorem Mc(w:aq)(n:Nat)(hn:n<=1000000000000):
  aw prog 60 #[af none 0 0,ae aj (n:Int)] w fun e w'=>∃A c,e=ao (af A 0 c)/\w'.ownsRow w.heap.size 5 1 (af A 0 c) 0 []/\aR w.heap.size w w':=by
 rcases Nat.eq_zero_or_pos n with h0|h0
 ·subst h0;go_enter func60,ntmps60
  go_wp2;go_ret;exact⟨none,0,rfl,World.ownsRow_nil _ _ _ _,Below.refl _ _⟩
 ·obtain⟨i0,hi,aS,aW,aT⟩:=info_parts pz;have ad:=Lib.run_append_nil_zeros (P:=prog) w 22 3 22 5 i0 (ae .u8 0) aj aj underlying22 underlying3 hi aS n h0 (by omega) (by omega) (by rw[aT];omega);have aX:=grownCap_ge w n 0 5;have hle:=grownCap_le_maxLen w n 0 5 (by unfold maxLen;omega);obtain⟨c,hc⟩:=gX (grownCap w n 0 5);rw[<-hc]at ad aX hle;obtain⟨Z,hZ⟩:=gX ((Builtin.zeroCells (Value.int .u8 0).cells n++Builtin.zeroCells (Value.int .u8 0).cells (c-n)));rw[<-hZ]at ad;have aU:Z.size=c*1:=by rw[hZ];simp[size_zeroCells,Value.cells];omega
  have al:=World.ownsRow_made (base:=w.heap.size) (e:=5) (size:=1) w.drew Z c gY hle aU;have av:aR w.heap.size w (w.drew.alloc (ak Z 5)):=(Below.refl w.heap.size w).drew.alloc gY _;obtain⟨w1,aV⟩:=gX (w.drew.alloc (ak Z 5));rw[<-aV]at ad al av;have HR:=gW ad;have HO:=gW al;have HB:=gW av
  unfold maxLen at hle;clear ad al av hZ aU aV hc hi aS aW aT;have hp:(0:Int)<(n:Int):=by omega
  go_enter func60,ntmps60
  go_wp2_with (at_builtin;refine Lib.wpList_append_run _ rfl _ _ _ _ rfl _ _ rfl rfl _ _ HR.out ?_)
  go_ret;exact⟨_,_,rfl,HO.out,HB.out⟩
theorem Ex(w:aq)(A:Option au)(k c:Nat)(n:Nat->Nat)(f:Nat->Nat->Nat)(hf:∀i j,f i j<256)(hr:Qu w w.heap.size A k n f)(hk:k<=1000000)(hs:Qd n k<=1000000000):
  aw prog 45 #[af A k c] w fun e w'=>∃A' c',e=ao (af A' (Qd n k) c')/\w'.ownsRow w.heap.size 5 1 (af A' (Qd n k) c') (Qd n k) (iw (Qd n k) (oL n f k))/\aR w.heap.size w w':=by
 have HR:=gW hr;have HF:=gW hf;have HS:=gW hs
 obtain⟨N,hN⟩:=gX (Qd n k)
 rw[<-hN]at hs⊢
 have HN:=gW hN
 clear hr hf hN
 go_enter func45,ntmps45
 go_wp2_with fail
 go_loopw [3,11] (fun s i wr=>∃j q:Nat,j<=k/\i=ae aj (j:Int)/\s=ae aj (q:Int)/\aQ (q=Qd n j)/\w=wr) (fun _ i _=>k-(aP i).toNat)
 case atStart=>exact⟨0,0,Nat.zero_le _,rfl,rfl,gW rfl,rfl⟩
 case round=>
  obtain⟨j,q,hj,rfl,rfl,HQ,rfl⟩:=hrel;by_cases aZ:j<k
  ·have aV:(j:Int)<(k:Int):=by omega
   obtain⟨b,o,rfl,hb,al⟩:=HR.out (by omega);obtain⟨Ai,ci,c1,_,_⟩:=al j aZ;have ad:Qd n (j+1)=q+n j:=by rw[HQ.out];rfl
   have av:=vn n (show j+1<=k by omega);have aS:=HS.out;obtain⟨m,hm⟩:=gX (n j);rw[<-hm]at c1 ad;have a5:q+m<=1000000000:=by omega
   have a6:¬((q:Int)+(m:Int)<0):=by omega
   have aT:=gW ad;clear al ad av aS hm;go_wp2;go_roundw
   case rel=>exact⟨j+1,q+m,by omega,by go_num,by go_num,gW aT.out.symm,trivial⟩
   case measure=>simp[aP];omega
  ·obtain rfl:j=k:=by omega
   have aV:¬(j:Int)<(j:Int):=by omega
   have a1:q=N:=by rw[HQ.out,HN.out]
   subst a1;go_wp2_with fail
   refine(Mc _ q (by omega)).mono ?_;rintro e w1 ⟨A1,c1,rfl,aW,aX⟩;have a2:=gW aW;have a3:=gW aX
   clear aW aX;go_wp2_with fail
   go_loopw [6,27] (fun s i wr=>∃(t p:Nat) (At:Option au) (ct:Nat),t<=j/\i=ae aj (t:Int)/\s=af At p ct/\aQ (p=Qd n t)/\aQ (wr.ownsRow w.heap.size 5 1 (af At p ct) p (iw p (oL n f t)))/\aQ (aR w.heap.size w wr)) (fun _ i _=>j-(aP i).toNat)
   case atStart=>exact⟨0,0,A1,c1,Nat.zero_le _,rfl,rfl,gW rfl,a2,a3⟩
   case round=>
    obtain⟨t,p,At,ct,ht,rfl,rfl,HP,HO,HB⟩:=hrel;by_cases aY:t<j
    ·have aU:(t:Int)<(j:Int):=by omega
     obtain⟨b,o,rfl,hb,al⟩:=(HR.out.below HB.out gY) (by omega);obtain⟨Ai,ci,k1,k2,k3⟩:=al t aY;have ad:Qd n (t+1)=p+n t:=by rw[HP.out];rfl
     have av:=vn n (show t+1<=j by omega);have aS:=HS.out;obtain⟨A',c',w',r1,r2,r3⟩:=sO wr w.heap.size _ (af At p ct) p _ HO.out Ai (n t) ci (f t) k2 (by omega) 22 k3 HB.out.size;obtain⟨m,hm⟩:=gX (n t);rw[<-hm]at k1 r1 r2 ad;have e1:cat (oL n f t) p (f t)=oL n f (t+1):=by funext x;rw[HP.out];rfl
     rw[e1]at r2;have aT:=gW ad;have R1:=gW r1;have R2:=gW r2;have R3:=gW (HB.out.trans r3)
     clear al ad av aS r1 r2 r3 k2 k3 hm e1;go_wp2_with (at_builtin;refine wpList_append_run rfl (.tmp 31) (.tmp 32) 22 rfl (af At p ct) (af Ai m ci) (af A' (p+m) c') w' rfl rfl R1.out ?_)
     go_roundw
     case rel=>exact⟨t+1,p+m,A',c',by omega,by go_num,rfl,gW aT.out.symm,R2,R3⟩
     case measure=>simp[aP];omega
    ·obtain rfl:t=j:=by omega
     have aU:¬(t:Int)<(t:Int):=by omega
     have a4:p=q:=by rw[HP.out,HN.out]
     subst a4;go_wp2;go_ret;exact⟨At,ct,rfl,HO.out,HB.out⟩
end Go.Proofs.YtokpcpjnihinfaaGreat
