/-
  Words and walks.
-/
import Derived.WalkMore
import Derived.Test.YtgokdgcmkcmjeaaGreatqkaa
import Derived.Test.YtgokdgcmkcmjeaaGreatqkab
import Derived.Test.YtgokdgcmkcmjeaaGreatqkac
import Derived.Test.YtgokdgcmkcmjeaaGreatqkad
import Derived.Test.YtgokdgcmkcmjeaaGreatqkah
import Derived.Test.YtgokdgcmkcmjeaaGreatqkaj
set_option maxRecDepth 100000
set_option maxHeartbeats 16000000
namespace Go.Proofs.YtgokdgcmkcmjeaaGreat
open Value renaming int → ae, slice → af, pointer → ag, agg → ai
open IntKind renaming i64 → ak
open Obj renaming cells → ao
open Ending renaming returned → aq
open Go renaming World → au, Addr → aw, Calls → ax, Value → ay, Program → aA, Oper → aB, TypeId → aC, wpList_store_rowTo → aD, wpList_load_row → aF, heap_alloc_new → aH, madeCells → aK, yielded → aN
open Go.RowKit renaming intOf → aQ, Hid → aR, Below → aS
open _root_.Go.Proofs.Tryz
open Go.RowKit
def mJ(W:Nat->Nat)(Z:Nat->Int)(j:Nat):Int:=if j%2=0 then(W (j/2):Int)else Z (j/2)
theorem vX(W:Nat->Nat)(Z:Nat->Int)(t:Nat):mJ W Z (t*2)=(W t:Int):=by
 unfold mJ;rw[if_pos (by omega),show t*2/2=t by omega]
theorem yn(W:Nat->Nat)(Z:Nat->Int)(t:Nat):mJ W Z (t*2+1)=Z t:=by
 unfold mJ;rw[if_neg (by omega),show(t*2+1)/2=t by omega]
theorem Ij{W W':Nat->Nat}{Z Z':Nat->Int}{m:Nat}(h:∀t,t<m->W t=W' t/\Z t=Z' t):∀j,j<m*2->mJ W Z j=mJ W' Z' j:=fun j hj=>by
 have:=h (j/2) (by omega);unfold mJ;rw[this.1,this.2]
def ke(m:Nat)(W:Nat->Nat)(Z:Nat->Int):List ay:=(List.range (m*2)).map fun j=>ae ak (mJ W Z j)
theorem vY(m:Nat)(W:Nat->Nat)(Z:Nat->Int)(j:Nat):(ke m W Z)[j]?=if j<m*2 then some (ae ak (mJ W Z j))else none:=by
 unfold ke;by_cases h:j<m*2<;>simp[h]
theorem Ik(m:Nat)(W:Nat->Nat)(Z:Nat->Int):∀u∈ke m W Z,u.oneCell'=true:=by
 intro u hu;simp only[ke,List.mem_map]at hu;obtain⟨j,_,rfl⟩:=hu;rfl
theorem Il(m:Nat)(W:Nat->Nat)(Z:Nat->Int):(ke m W Z).length=m*2:=by simp[ke]
def jA(w:au)(lo B:Nat)(A:Option aw)(m:Nat)(W:Nat->Nat)(Z:Nat->Int):Prop:=
 0<m->∃b o,A=some ⟨b,o,none⟩/\lo<=b/\b<B/\∀j,j<m*2->w.cell? ⟨b,o+j,none⟩=some (ae ak (mJ W Z j))
theorem jA.below{w w':au}{lo B B' m:Nat}{A:Option aw}{W:Nat->Nat}{Z:Nat->Int}(h:jA w lo B A m W Z)(hb:aS B' w w')(hB:B<=B'):jA w' lo B A m W Z:=fun hm=>by
 obtain⟨b,o,h1,h2,h3,h4⟩:=h hm;exact⟨b,o,h1,h2,h3,fun j hj=>by rw[hb.cell (p:=⟨b,o+j,none⟩) (by show b<B';omega)];exact h4 j hj⟩
theorem jA.more{w:au}{lo ad B B' m:Nat}{A:Option aw}{W:Nat->Nat}{Z:Nat->Int}(h:jA w lo B A m W Z)(hl:ad<=lo)(hB:B<=B'):jA w ad B' A m W Z:=fun hm=>by
 obtain⟨b,o,h1,h2,h3,h4⟩:=h hm;exact⟨b,o,h1,by omega,by omega,h4⟩
theorem jA.ext{w:au}{lo B m:Nat}{A:Option aw}{W W':Nat->Nat}{Z Z':Nat->Int}(h:jA w lo B A m W Z)(e:∀t,t<m->W t=W' t/\Z t=Z' t):jA w lo B A m W' Z':=fun hm=>by
 obtain⟨b,o,h1,h2,h3,h4⟩:=h hm;exact⟨b,o,h1,h2,h3,fun j hj=>by rw[h4 j hj,Ij e j hj]⟩
theorem jA.src{w:au}{lo B m:Nat}{A:Option aw}{W:Nat->Nat}{Z:Nat->Int}(h:jA w lo B A m W Z):gR w B 2 A m (ke m W Z):=by
 refine⟨Il m W Z,fun hm=>?_⟩;obtain⟨b,o,h1,_,h3,h4⟩:=h hm;refine⟨b,o,h1,h3,fun j u hu=>?_⟩;rw[vY]at hu;by_cases hj:j<m*2
 ·rw[if_pos hj]at hu;injection hu with hu;rw[<-hu];exact h4 j hj
 ·rw[if_neg hj]at hu;cases hu
def kC(e:aC)(w:au)(g M:Nat)(v:Nat->Int):Prop:=∃cur:Array ay,w.heap[g]?=some (ao cur e (0,0))/\∀j,j<M->cur[j]?=some (ae ak (v j))
section
variable {e:aC} {w w':au} {g M:Nat} {v v':Nat->Int}
theorem kC.lt(h:kC e w g M v):g<w.heap.size:=by
 obtain⟨cur,h1,_⟩:=h;exact(Array.getElem?_eq_some_iff.1 h1).1
theorem kC.cell(h:kC e w g M v){j:Nat}(hj:j<M):w.cell? ⟨g,j,none⟩=some (ae ak (v j)):=by
 obtain⟨cur,h1,h2⟩:=h;rw[cell_of_row w g j _ _ (0,0) h1];exact h2 j hj
theorem kC.frozen(h:kC e w g M v)(j:Nat):w.frozen? ⟨g,j,none⟩=false:=by
 obtain⟨cur,h1,_⟩:=h;exact frozen_of_row w g j _ _ h1
theorem kC.set(h:kC e w g M v)(i:Nat)(x:Int):kC e (w.setCell ⟨g,i,none⟩ (ae ak x)) g M (fun j=>if j=i then x else v j):=by
 obtain⟨cur,h1,h2⟩:=h;refine⟨cur.setIfInBounds i (ae ak x),heap_setCell_same w g i cur _ _ h1,fun j hj=>?_⟩;rw[Array.getElem?_setIfInBounds];have hs:j<cur.size:=by
  rcases Nat.lt_or_ge j cur.size with h|h
  ·exact h
  ·have:=h2 j hj;rw[Array.getElem?_eq_none h]at this;cases this
 by_cases e:i=j
 ·subst e;simp[hs]
 ·have e':¬j=i:=fun h=>e h.symm
  simp[e,e',h2 j hj]
theorem kC.drew(h:kC e w g M v):kC e w.drew g M v:=h
theorem kC.ext(h:kC e w g M v)(h2:∀j,j<M->v j=v' j):kC e w g M v':=by
 obtain⟨cur,h1,h3⟩:=h;exact⟨cur,h1,fun j hj=>by rw[h3 j hj,h2 j hj]⟩
end
theorem kC.Im{e:aC}{w:au}{g m:Nat}{W:Nat->Nat}{Z:Nat->Int}(h:kC e w g (m*2) (mJ W Z)){lo:Nat}(ad:lo<=g):jA w lo w.heap.size (some ⟨g,0,none⟩) m W Z:=
 fun _=>⟨g,0,rfl,ad,h.lt,fun j hj=>by rw[Nat.zero_add];exact h.cell hj⟩
theorem vZ:(prog.info? 271).map (fun i=>(i.zero,i.size,i.bytes))=some (some (ai #[ae ak 0,ae ak 0]),2,16):=by kernel_rfl
theorem Io(n:Nat)(h:n<=2000):∀u:au,(Instr.makeSlice 246 (ae ak (n:Int)) (ae ak (n:Int))).run prog u=
   .ok (af (some ⟨u.heap.size,0,none⟩) n n) (u.alloc (ao (aK #[ae ak 0,ae ak 0] (n*2)) 271)):=fun u=>by
 obtain⟨i0,hi,ad,ah,al⟩:=info_parts vZ
 have h:=run_make (P:=prog) u 246 271 i0 _ underlying246 hi ad ak ak (n:Int) (n:Int) (by omega) (Int.le_refl _) (by rw[al];omega) (by omega)
 rw[Int.toNat_natCast]at h
 rw[ah]at h
 exact h
theorem Ip(w:au)(n:Nat):kC 271 (w.alloc (ao (aK #[ae ak 0,ae ak 0] (n*2)) 271)) w.heap.size (n*2) (fun _=>0):=by
 refine⟨_,aH w _,fun j hj=>?_⟩;unfold aK;have e1:j%2=0\/j%2=1:=by omega
 rcases e1 with e1|e1<;>simp[hj,e1]
def VA(t:Nat)(W:Nat->Nat)(Z:Nat->Int)(j:Nat):Int:=if j<t*2 then mJ W Z j else 0
theorem Iq(t:Nat)(W:Nat->Nat)(Z:Nat->Int):(fun j=>if j=t*2+1 then Z t else(fun j=>if j=t*2 then(W t:Int)else VA t W Z j) j)=VA (t+1) W Z:=by
 funext j;show(if j=t*2+1 then Z t else if j=t*2 then(W t:Int)else VA t W Z j)=_
 unfold VA;by_cases h1:j=t*2+1
 ·rw[if_pos h1,if_pos (by omega),h1,yn]
 ·rw[if_neg h1];by_cases h2:j=t*2
  ·rw[if_pos h2,if_pos (by omega),h2,vX]
  ·rw[if_neg h2];by_cases h3:j<t*2
   ·rw[if_pos h3,if_pos (by omega)]
   ·rw[if_neg h3,if_neg (by omega)]
theorem Ir(W:Nat->Nat)(Z:Nat->Int):(fun _=>0)=VA 0 W Z:=by
 funext j;unfold VA;rw[if_neg (by omega)]
theorem QR(w:au)(A:Option aw)(c:Nat)(l:List Int)(hr:iM w w.heap.size A l)(A2:Option aw)(c2:Nat)(L:List Nat)(aZ:iM w w.heap.size A2 (gg L))(hL:∀j,j<L.length->L.getD j 0<l.length)(N n:Nat)(hN:N=l.length)(hn:n=L.length)(hl:n<=400)
  (hb:∀j,j<l.length->0<=l.getD j 0/\l.getD j 0<=1073741824):
  ax prog 170 #[af A N c,af A2 n c2] w fun e w'=>∃A' c',e=aq (af A' n c')/\aS w.heap.size w w'/\n<=c'/\(A'=none->c'=0)/\jA w' w.heap.size w'.heap.size A' n (fun t=>fy l (L.getD t 0)) (fun t=>((L.getD t 0:Nat):Int)):=by
 have HR:=fa hr;have bg:=fa aZ;have bj:=fa hb;have bl:=fa hL;have HN:=fa hN;have aU:=fa hn
 obtain⟨W,hW⟩:∃W:Nat->Nat,W=fun t=>fy l (L.getD t 0):=⟨_,rfl⟩
 obtain⟨Z,hZ⟩:∃Z:Nat->Int,Z=fun t=>((L.getD t 0:Nat):Int):=⟨_,rfl⟩
 rw[<-hW,<-hZ]
 have HW:=fa hW;have HZ:=fa hZ
 have bn:=Io n (by omega)
 have ah:=Ip w n
 rw[Ir W Z]at ah
 have aV:aS w.heap.size w (w.alloc (ao (aK #[ae ak 0,ae ak 0] (n*2)) 271)):=(Below.refl _ w).alloc fe _
 obtain⟨u,hu⟩:=fb (w.alloc (ao (aK #[ae ak 0,ae ak 0] (n*2)) 271))
 rw[<-hu]at ah aV
 have HU:=fa hu;have bq:=fa aV;have aW:=fa ah
 clear hr aZ hb hL hN hn hW hZ hu ah aV
 go_enter func170,ntmps170
 go_wp2
 rw[<-HU.out]
 clear bn
 go_loopw [13] (fun i wr=>∃t:Nat,t<=n/\i=ae ak (t:Int)/\aS w.heap.size w wr/\kC 271 wr w.heap.size (n*2) (VA t W Z)) (fun i _=>n-(aQ i).toNat)
 case atStart=>exact⟨0,Nat.zero_le _,rfl,bq.out,aW.out⟩
 case round=>
  obtain⟨t,ht,rfl,al,ad⟩:=hrel;by_cases aX:t<n
  ·have a1:(t:Int)<(n:Int):=by omega
   obtain⟨b2,o2,rfl,bt,a2⟩:=(bg.out.below al fe).at (k:=t) (by rw[oS,<-aU.out];exact aX);have a3:=a2 t (by rw[oS,<-aU.out];exact aX);rw[wK]at a3;have av:=bl.out t (by rw[<-aU.out];exact aX);obtain⟨s,hs⟩:=fb (L.getD t 0);rw[<-hs]at a3 av;obtain⟨b1,o1,rfl,bu,a4⟩:=(HR.out.below al fe).at (k:=s) av;have c1:=a4 s av;have hx:=bj.out s av;have aY:l.getD s 0=(W t:Int):=by rw[HW.out];show _=(((l.getD (L.getD t 0) 0).toNat:Nat):Int);rw[<-hs];omega
   have a5:(s:Int)=Z t:=by rw[HZ.out,hs]
   obtain⟨x,a6⟩:=fb (l.getD s 0);rw[<-a6]at c1 hx aY;have br:s<N:=by rw[HN.out];exact av
   have f1:=ad.frozen (t*2);have f2:=ad.frozen (t*2+1);have g1:=ad.cell (show t*2<n*2 by omega);have g2:=(ad.set (t*2) x).cell (show t*2+1<n*2 by omega);have aT:=(ad.set (t*2) x).set (t*2+1) (s:Int);have a7:=fa aT;have HB:=fa al;have a8:=fa aY;have a9:=fa a5
   clear a4 a2 ad aT al hs aY a5 a6 av;go_wp2;go_roundw
   case rel=>
    refine⟨t+1,by omega,by go_num,(HB.out.setCell (p:=⟨w.heap.size,t*2,none⟩) fe _).setCell (p:=⟨w.heap.size,t*2+1,none⟩) fe _,?_⟩;have h:=a7.out;rw[a8.out,a9.out,Iq]at h;rw[a8.out,a9.out];exact h
   case measure=>simp[aQ];omega
  ·obtain rfl:t=n:=by omega
   have a1:¬(t:Int)<(t:Int):=by omega
   have bf:=fa ad;have HB:=fa al
   clear ad al;go_wp2;go_ret;exact⟨some ⟨w.heap.size,0,none⟩,t,rfl,HB.out,Nat.le_refl _,(fun h=>by cases h),(kC.ext bf.out (fun j hj=>by unfold VA;rw[if_pos hj])).Im fe⟩
theorem QS(w:au)(lo:Nat)(A:Option aw)(c m:Nat)(W:Nat->Nat)(Z:Nat->Int)(hr:jA w lo w.heap.size A m W Z)(hm:m<=1000)(hb:∀j,j<m->W j<=70368744177664):
  ax prog 186 #[af A m c] w fun e w'=>∃A' c',e=aq (af A' (m/2) c')/\aS w.heap.size w w'/\m/2<=c'/\(A'=none->c'=0)/\jA w' w.heap.size w'.heap.size A' (m/2) (iQ W) (fun _=> -1):=by
 have HR:=fa hr;have aW:=fa hb
 obtain⟨n,hn⟩:=fb (m/2)
 have en:(m:Int)/2=(n:Int):=by omega
 have a7:2*n<=m:=by omega
 rw[<-hn]
 obtain⟨P,hP⟩:∃P:Nat->Nat,P=iQ W:=⟨_,rfl⟩
 obtain⟨Y,hY⟩:∃Y:Nat->Int,Y=fun _=> -1:=⟨_,rfl⟩
 rw[<-hP,<-hY]
 have HP:=fa hP;have HY:=fa hY
 have a5:=Io n (by omega)
 have ah:=Ip w n
 rw[Ir P Y]at ah
 have aT:aS w.heap.size w (w.alloc (ao (aK #[ae ak 0,ae ak 0] (n*2)) 271)):=(Below.refl _ w).alloc fe _
 obtain⟨u,hu⟩:=fb (w.alloc (ao (aK #[ae ak 0,ae ak 0] (n*2)) 271))
 rw[<-hu]at ah aT
 have HU:=fa hu;have a6:=fa aT;have aU:=fa ah
 clear hr hb hP hY hu ah aT hn
 go_enter func186,ntmps186
 go_wp2
 rw[<-HU.out]
 clear a5
 go_loopw [11] (fun i wr=>∃t:Nat,t<=n/\i=ae ak (t:Int)/\aS w.heap.size w wr/\kC 271 wr w.heap.size (n*2) (VA t P Y)) (fun i _=>n-(aQ i).toNat)
 case atStart=>exact⟨0,Nat.zero_le _,rfl,a6.out,aU.out⟩
 case round=>
  obtain⟨t,ht,rfl,al,ad⟩:=hrel;by_cases a8:t<n
  ·have aX:(t:Int)<(n:Int):=by omega
   obtain⟨b1,o1,rfl,_,a9,aV⟩:=(HR.out.below al fe) (by omega);obtain⟨p,hp⟩:=fb (2*t);have ep:2*(t:Int)=(p:Int):=by omega
   have c1:=aV (p*2) (by omega);have c2:=aV ((p+1)*2) (by omega);rw[vX]at c1 c2;have bf:p+1<m:=by omega
   have hx:=aW.out p (by omega);have hy:=aW.out (p+1) (by omega);have hs:P t=W p+W (p+1):=by rw[HP.out];unfold iQ;rw[hp]
   obtain⟨x,aY⟩:=fb (W p);obtain⟨y,aZ⟩:=fb (W (p+1));rw[<-aY]at c1 hx hs;rw[<-aZ]at c2 hy hs;have bg:wr.cell? ⟨b1,o1+p*2,none⟩=some (ae ak (x:Int)):=c1;have f1:=ad.frozen (t*2);have f2:=ad.frozen (t*2+1);have g1:=ad.cell (show t*2<n*2 by omega);have g2:=(ad.set (t*2) ((x:Int)+(y:Int))).cell (show t*2+1<n*2 by omega);have av:=(ad.set (t*2) ((x:Int)+(y:Int))).set (t*2+1) (-1);obtain⟨z1,a1⟩:=fb (VA t P Y (t*2));rw[<-a1]at g1;obtain⟨z2,a2⟩:∃z2:Int,z2=(if t*2+1=t*2 then((x:Int)+(y:Int))else VA t P Y (t*2+1)):=⟨_,rfl⟩;rw[<-a2]at g2;have a3:=fa av;have HB:=fa al;have HS:=fa hs
   clear aV ad av al hs aY aZ hp c1 a1 a2;go_wp2;go_region;go_wp2;go_roundw
   case rel=>
    refine⟨t+1,by omega,by go_num,((HB.out.setCell (p:=⟨w.heap.size,t*2,none⟩) fe _).setCell (p:=⟨w.heap.size,t*2+1,none⟩) fe _).drew,?_⟩;have h:=a3.out.drew;have e1:(x:Int)+(y:Int)=(P t:Int):=by have:=HS.out;omega
    have e2:(-1:Int)=Y t:=by rw[HY.out]
    rw[e1,e2,Iq]at h;rw[e1,e2];exact h
   case measure=>simp[aQ];omega
  ·obtain rfl:t=n:=by omega
   have aX:¬(t:Int)<(t:Int):=by omega
   have a4:=fa ad;have HB:=fa al
   clear ad al;go_wp2;go_ret;exact⟨some ⟨w.heap.size,0,none⟩,t,rfl,HB.out,Nat.le_refl _,(fun h=>by cases h),(kC.ext a4.out (fun j hj=>by unfold VA;rw[if_pos hj])).Im fe⟩
def qD(n m:Nat)(w p:Nat->Nat)(z y:Nat->Int)(t:Nat):Int:=
 if kh n m w p (UX n m w p t) (t-UX n m w p t)=true then z (UX n m w p t)else y (t-UX n m w p t)
def VH:ay->Nat
 |af _ n _=>n
 |_=>0
theorem jA.next{w:au}{lo B m c:Nat}{A:Option aw}{W:Nat->Nat}{Z:Nat->Int}(h:jA w lo B A (m+1) W Z)(hc:m+1<=c):
  ∃b o,A=some ⟨b,o,none⟩/\lo<=b/\b<B/\w.cell? ⟨b,o,none⟩=some (ae ak (W 0:Int))/\w.cell? ⟨b,o+1,none⟩=some (ae ak (Z 0))/\
   jA w lo B (if c=1 then some ⟨b,o,none⟩else some ⟨b,o+2,none⟩) m (fun t=>W (t+1)) (fun t=>Z (t+1)):=by
 obtain⟨b,o,h1,h2,h3,h4⟩:=h (by omega)
 have e0:=h4 0 (by omega)
 have e1:=h4 1 (by omega)
 have p0:=vX W Z 0
 have p1:=yn W Z 0
 rw[Nat.zero_mul]at p0 p1
 rw[p0]at e0
 rw[show(1:Nat)=0+1 by rfl,p1]at e1
 refine⟨b,o,h1,h2,h3,e0,e1,fun hm=>?_⟩
 rw[if_neg (by omega)]
 refine⟨b,o+2,rfl,h2,h3,fun j hj=>?_⟩
 rw[show o+2+j=o+(j+2) by omega,h4 (j+2) (by omega)]
 congr 2
 unfold mJ
 rw[show(j+2)%2=j%2 by omega,show(j+2)/2=j/2+1 by omega]
theorem QT(m:Nat)(W:Nat->Nat)(Z:Nat->Int):ke m W Z++[ae ak (W m:Int),ae ak (Z m)]=ke (m+1) W Z:=by
 unfold ke;rw[show(m+1)*2=m*2+1+1 by omega,List.range_succ,List.range_succ];simp only[List.map_append,List.map_cons,List.map_nil,List.append_assoc,List.cons_append,List.nil_append];rw[vX,yn]
theorem It(m k:Nat)(W W2:Nat->Nat)(Z Z2:Nat->Int)(V:Nat->Nat)(Y:Nat->Int)(h1:∀t,t<m->V t=W t/\Y t=Z t)(h2:∀t,t<k->V (m+t)=W2 t/\Y (m+t)=Z2 t):ke m W Z++ke k W2 Z2=ke (m+k) V Y:=by
 apply List.ext_getElem?;intro j;rw[List.getElem?_append,Il,vY,vY,vY];by_cases hj:j<m*2
 ·rw[if_pos hj,if_pos hj,if_pos (by omega),Ij h1 j hj]
 ·rw[if_neg hj];by_cases hk:j-m*2<k*2
  ·rw[if_pos hk,if_pos (by omega)];have h:=h2 ((j-m*2)/2) (by omega);congr 2;unfold mJ;rw[show j%2=(j-m*2)%2 by omega,show j/2=m+(j-m*2)/2 by omega,h.1,h.2]
  ·rw[if_neg hk,if_neg (by omega)]
def nF(w:au)(base:Nat)(A:Option aw)(c m:Nat)(W:Nat->Nat)(Z:Nat->Int):Prop:=w.ownsRow base 271 2 (af A m c) m (ke m W Z)
theorem nF.rd{w:au}{base c m:Nat}{A:Option aw}{W:Nat->Nat}{Z:Nat->Int}(h:nF w base A c m W Z):jA w base w.heap.size A m W Z:=fun hm=>by
 have hs:=gR.gD h;obtain⟨b,o,e,hb,hc⟩:=hs.2 hm;refine⟨b,o,e,ql h b (by rw[e];rfl),hb,fun j hj=>hc j _ ?_⟩;rw[vY,if_pos hj]
theorem nF.cap{w:au}{base c m:Nat}{A:Option aw}{W:Nat->Nat}{Z:Nat->Int}(h:nF w base A c m W Z):m<=c/\(A=none->c=0):=by
 rcases h.2 with⟨hv,h0⟩|⟨g,cap,cur,hv,_,_,h1,h2,_⟩
 ·injection hv with h3 h4 h5
  exact⟨by omega,fun _=>h5⟩
 ·injection hv with h3 h4 h5
  exact⟨by omega,fun h=>by rw[h]at h3;cases h3⟩
theorem Iu(w:au)(base:Nat)(A:Option aw)(c m:Nat)(W:Nat->Nat)(Z:Nat->Int)(h:nF w base A c m W Z)(x z:Int)(hx:x=(W m:Int))(hz:z=Z m)(hm:m<=2000)(ad:base<=w.heap.size):
  ∃A' c' w',(Builtin.append_ #[246,246] 246 #[af A m c,af (some ⟨w.heap.size,0,none⟩) 1 1]).run prog (w.alloc (ao #[ae ak x,ae ak z] 271))=.ok (af A' (m+1) c') w'/\
   nF w' base A' c' (m+1) W Z/\aS base w w':=by
 subst hx;subst hz
 have ah:aS base w (w.alloc (ao #[ae ak (W m:Int),ae ak (Z m)] 271)):=(Below.refl base w).alloc ad _
 obtain⟨A',c',w',h2,o2,b2⟩:=uH (z:=ai #[ae ak 0,ae ak 0]) (kI:=16) underlying246 vZ rfl (by decide) (w.alloc (ao #[ae ak (W m:Int),ae ak (Z m)] 271)) base _ (af A m c) m _ (World.ownsRow.alloc h _) _ 1 1 _
  (gR.new w 2 1 #[ae ak (W m:Int),ae ak (Z m)] 271 rfl) (fun u hu=>by simp at hu;rcases hu with rfl|rfl<;>rfl) (by unfold maxLen;omega) (by omega) 246 (fun h=>by cases h) (Nat.le_trans ad ah.size)
 refine⟨A',c',w',h2,?_,ah.trans b2⟩
 have e:ke m W Z++(#[Value.int ak (W m:Int),ae ak (Z m)]:Array ay).toList=ke (m+1) W Z:=QT m W Z
 rw[e]at o2
 exact o2
theorem QU(n:Nat)(h:n<=2000):∀u:au,(Instr.makeSlice 246 (ae ak 0) (ae ak (n:Int))).run prog u=
   .ok (af (some ⟨u.heap.size,0,none⟩) 0 n) (u.alloc (ao (aK #[ae ak 0,ae ak 0] (n*2)) 271)):=fun u=>by
 obtain⟨i0,hi,ad,ah,al⟩:=info_parts vZ
 have h:=run_make (P:=prog) u 246 271 i0 _ underlying246 hi ad ak ak 0 (n:Int) (by omega) (by omega) (by rw[al];omega) (by omega)
 rw[Int.toNat_natCast]at h
 rw[ah]at h
 exact h
theorem QV(w:au)(n:Nat)(hn:n<=2000)(W:Nat->Nat)(Z:Nat->Int):nF (w.alloc (ao (aK #[ae ak 0,ae ak 0] (n*2)) 271)) w.heap.size (some ⟨w.heap.size,0,none⟩) n 0 W Z:=
 ⟨by simp[ke],.inr ⟨w.heap.size,n,_,rfl,Nat.le_refl _,aH w _,Nat.zero_le _,by unfold maxLen;omega,by rw[size_madeCells],by simp[ke]⟩⟩
section
variable {n m:Nat} {w p:Nat->Nat}
theorem Iv{y:Nat}:∀t,UX n m w p (n+y)=n->y+t<=m->UX n m w p (n+y+t)=n
 |0,h,_=>h
 |t+1,h,ht=>by
  have ih:=Iv t h (by omega);show(if kh n m w p (UX n m w p (n+y+t)) (n+y+t-UX n m w p (n+y+t))=true then UX n m w p (n+y+t)+1 else UX n m w p (n+y+t))=n
  rw[ih,if_neg];unfold kh;simp only[decide_eq_true_eq];omega
theorem Iw{x:Nat}:∀t,UX n m w p (x+m)=x->x+t<=n->UX n m w p (x+m+t)=x+t
 |0,h,_=>h
 |t+1,h,ht=>by
  have ih:=Iw t h (by omega);show(if kh n m w p (UX n m w p (x+m+t)) (x+m+t-UX n m w p (x+m+t))=true then UX n m w p (x+m+t)+1 else UX n m w p (x+m+t))=x+(t+1)
  rw[ih,if_pos]
  ·omega
  ·unfold kh;simp only[decide_eq_true_eq];omega
theorem QW{z y:Nat->Int}{k t:Nat}(h:UX n m w p (n+k)=n)(ht:k+t<m):nQ n m w p (n+k+t)=p (k+t)/\qD n m w p z y (n+k+t)=y (k+t):=by
 have h1:=Iv (y:=k) t h (by omega);unfold nQ qD;rw[h1,if_neg,if_neg,show n+k+t-n=k+t by omega]
 ·exact⟨rfl,rfl⟩
 ·unfold kh;simp only[decide_eq_true_eq];omega
 ·unfold kh;simp only[decide_eq_true_eq];omega
theorem QX{z y:Nat->Int}{x t:Nat}(h:UX n m w p (x+m)=x)(ht:x+t<n):nQ n m w p (x+m+t)=w (x+t)/\qD n m w p z y (x+m+t)=z (x+t):=by
 have h1:=Iw (x:=x) t h (by omega);unfold nQ qD;rw[h1,if_pos,if_pos]
 ·exact⟨rfl,rfl⟩
 ·unfold kh;simp only[decide_eq_true_eq];omega
 ·unfold kh;simp only[decide_eq_true_eq];omega
end
theorem QY(w:au)(lo:Nat)(A:Option aw)(c n:Nat)(W:Nat->Nat)(Z:Nat->Int)(hr:jA w lo w.heap.size A n W Z)(hc:n<=c)(hA:A=none->c=0)(A2:Option aw)(c2 m:Nat)(P:Nat->Nat)(Y:Nat->Int)(a6:jA w lo w.heap.size A2 m P Y)(bO:m<=c2)(hA2:A2=none->c2=0)(bt:n+m<=2000):
  ax prog 185 #[af A n c,af A2 m c2] w fun e w'=>∃A' c',e=aq (af A' (n+m) c')/\aS w.heap.size w w'/\(n+m)<=c'/\(A'=none->c'=0)/\jA w' w.heap.size w'.heap.size A' (n+m) (nQ n m W P) (qD n m W P Z Y):=by
 obtain⟨V,hV⟩:∃V:Nat->Nat,V=nQ n m W P:=⟨_,rfl⟩
 obtain⟨U,hU⟩:∃U:Nat->Int,U=qD n m W P Z Y:=⟨_,rfl⟩
 rw[<-hV,<-hU]
 have HR:=fa hr;have bP:=fa a6;have HV:=fa hV;have a8:=fa hU
 have bQ:=fa hA;have bR:=fa hA2
 have bu:=QU (n+m) bt
 have bx:∀u:au,(Instr.makeSlice 246 (ae ak 0) (ae ak ((n:Int)+(m:Int)))).run prog u=.ok (af (some ⟨u.heap.size,0,none⟩) 0 (n+m)) (u.alloc (ao (aK #[ae ak 0,ae ak 0] ((n+m)*2)) 271)):=fun u=>by
  have h:=bu u;rw[Int.natCast_add]at h;exact h
 have aT:=QV w (n+m) bt V U
 have a9:aS w.heap.size w (w.alloc (ao (aK #[ae ak 0,ae ak 0] ((n+m)*2)) 271)):=(Below.refl _ w).alloc fe _
 obtain⟨u,hu⟩:=fb (w.alloc (ao (aK #[ae ak 0,ae ak 0] ((n+m)*2)) 271))
 rw[<-hu]at aT a9
 have HU:=fa hu;have bf:=fa a9;have bg:=fa aT
 clear hr a6 hV hU hu aT a9 bu hA hA2
 go_enter func185,ntmps185
 go_wp2
 go_step3
 go_wp2
 rw[<-HU.out]
 clear bx
 go_step3
 go_wp2
 go_loopw [0,1,5] (fun vi vp vr wr=>∃(x y r s:Nat) (Ai Ap Ao:Option aw) (ci cp co:Nat),n=x+r/\m=y+s/\vi=af Ai r ci/\vp=af Ap s cp/\vr=af Ao (x+y) co/\r<=ci/\s<=cp/\aR (Ai=none->ci=0)/\aR (Ap=none->cp=0)/\
   aR (jA wr lo w.heap.size Ai r (fun t=>W (x+t)) (fun t=>Z (x+t)))/\aR (jA wr lo w.heap.size Ap s (fun t=>P (y+t)) (fun t=>Y (y+t)))/\aR (nF wr w.heap.size Ao co (x+y) V U)/\aR (UX n m W P (x+y)=x)/\aR (aS w.heap.size w wr)) (fun vi vp _ _=>VH vi+VH vp)
 case atStart=>exact⟨0,0,n,m,A,A2,_,c,c2,_,by omega,by omega,rfl,rfl,rfl,hc,bO,bQ,bR,fa ((HR.out.below bf.out fe).ext (fun t _=>by rw[Nat.zero_add];exact⟨rfl,rfl⟩)),fa ((bP.out.below bf.out fe).ext (fun t _=>by rw[Nat.zero_add];exact⟨rfl,rfl⟩)),bg,fa rfl,bf⟩
 case round=>
  obtain⟨x,y,r,s,Ai,Ap,Ao,ci,cp,co,hn,hm,rfl,rfl,rfl,bS,bT,bz,bA,HI,HP,HO,aX,HB⟩:=hrel;have a7:=HB.out.size;by_cases bj:r=0
  ·subst bj;have bB:n=x:=by omega
   obtain⟨A',c',w',r1,o1,b1⟩:=uH (z:=ai #[ae ak 0,ae ak 0]) (kI:=16) underlying246 vZ rfl (by decide) wr w.heap.size w.heap.size (af Ao (x+y) co) (x+y) _ HO.out Ap s cp _ HP.out.src (Ik _ _ _) (by unfold maxLen;omega) (by omega) 246 bA.out a7;have e1:ke (x+y) V U++ke s (fun t=>P (y+t)) (fun t=>Y (y+t))=ke (x+y+s) V U:=by
    refine It _ _ _ _ _ _ _ _ (fun _ _=>⟨rfl,rfl⟩) (fun t ht=>?_);rw[HV.out,a8.out];subst bB;exact QW aX.out (by omega)
   rw[e1]at o1;have al:x+y+s=n+m:=by omega
   rw[al]at r1 o1;have R1:=fa r1;have O1:=fa o1;have B1:=fa (HB.out.trans (b1.mono fe))
   clear r1 o1 b1 e1;obtain⟨xy,ah⟩:=fb (x+y);rw[<-ah]at R1⊢;have av:=nF.cap O1.out;have aY:=fa av;clear ah hn hm bB al av;go_wp2_with (at_builtin;refine wpList_append_run rfl (.tmp 24) (.tmp 25) 246 rfl (af Ao xy co) (af Ap s cp) (af A' (n+m) c') w' rfl rfl R1.out ?_)
   rw[Exit.noGoto_ret];go_ret;exact⟨A',c',rfl,B1.out,aY.out.1,aY.out.2,nF.rd O1.out⟩
  ·obtain⟨r1,bl⟩:∃r1,r=r1+1:=⟨r-1,by omega⟩;by_cases bC:s=0
   ·subst bC;have bD:m=y:=by omega
    have bE:((r:Int)==0)=false:=by simp;omega
    obtain⟨A',c',w',bn,o1,b1⟩:=uH (z:=ai #[ae ak 0,ae ak 0]) (kI:=16) underlying246 vZ rfl (by decide) wr w.heap.size w.heap.size (af Ao (x+y) co) (x+y) _ HO.out Ai r ci _ HI.out.src (Ik _ _ _) (by unfold maxLen;omega) (by omega) 246 bz.out a7;have e1:ke (x+y) V U++ke r (fun t=>W (x+t)) (fun t=>Z (x+t))=ke (x+y+r) V U:=by
     refine It _ _ _ _ _ _ _ _ (fun _ _=>⟨rfl,rfl⟩) (fun t ht=>?_);rw[HV.out,a8.out];subst bD;exact QX aX.out (by omega)
    rw[e1]at o1;have al:x+y+r=n+m:=by omega
    rw[al]at bn o1;have R1:=fa bn;have O1:=fa o1;have B1:=fa (HB.out.trans (b1.mono fe))
    have av:=nF.cap O1.out;have aY:=fa av;clear bn o1 b1 e1;obtain⟨xy,ah⟩:=fb (x+y);rw[<-ah]at R1⊢;have a6:1<=r:=by omega
    clear ah hn hm bD al av bl bj;go_wp2_with (at_builtin;refine wpList_append_run rfl (.tmp 31) (.tmp 32) 246 rfl (af Ao xy co) (af Ai r ci) (af A' (n+m) c') w' rfl rfl R1.out ?_)
    rw[Exit.noGoto_ret];go_ret;exact⟨A',c',rfl,B1.out,aY.out.1,aY.out.2,nF.rd O1.out⟩
   ·obtain⟨s1,bF⟩:∃s1,s=s1+1:=⟨s-1,by omega⟩;have hI:=HI.out;have hP:=HP.out;rw[bl]at hI;rw[bF]at hP;obtain⟨bi,oi,rfl,b0,b2,aZ,a1,bG⟩:=hI.next (by omega:r1+1<=ci);obtain⟨bp,op,rfl,b3,b4,a2,a3,bH⟩:=hP.next (by omega:s1+1<=cp);have bE:((r:Int)==0)=false:=by simp;omega
    have bY:((s:Int)==0)=false:=by simp;omega
    have a6:1<=r:=by omega
    have b5:1<=s:=by omega
    have b6:(1:Int)<=(r:Int):=by omega
    have b7:(1:Int)<=(s:Int):=by omega
    have b8:0<r:=by omega
    have b9:0<s:=by omega
    have er:r-1=r1:=by omega
    have es:s-1=s1:=by omega
    have aU:UX n m W P (x+y+1)=if kh n m W P x y=true then x+1 else x:=by
     show(if kh n m W P (UX n m W P (x+y)) (x+y-UX n m W P (x+y))=true then UX n m W P (x+y)+1 else UX n m W P (x+y))=_
     rw[aX.out,show x+y-x=y by omega]
    have hv:V (x+y)=if kh n m W P x y=true then W x else P y:=by
     rw[HV.out];unfold nQ;rw[aX.out,show x+y-x=y by omega]
    have hz:U (x+y)=if kh n m W P x y=true then Z x else Y y:=by
     rw[a8.out];unfold qD;rw[aX.out,show x+y-x=y by omega]
    have aV:kh n m W P x y=true↔W x<=P y:=by unfold kh;simp only[decide_eq_true_eq];omega
    have e0:W (x+0)=W x:=rfl;have e1:P (y+0)=P y:=rfl;have e2:Z (x+0)=Z x:=rfl;have e3:Y (y+0)=Y y:=rfl;rw[e0]at aZ;rw[e1]at a2;rw[e2]at a1;rw[e3]at a3;obtain⟨a,ha⟩:=fb (W x);obtain⟨b,hb⟩:=fb (P y);obtain⟨za,bI⟩:=fb (Z x);obtain⟨zb,bJ⟩:=fb (Y y);rw[<-ha]at aZ hv aV;rw[<-hb]at a2 hv aV;rw[<-bI]at a1 hz;rw[<-bJ]at a3 hz;have bU:=fa bG;have bV:=fa bH
    have bK:=fa hn;have bL:=fa hm
    obtain⟨xy,ah⟩:=fb (x+y);have bZ:xy<=2000:=by omega
    rw[<-ah]at aU hv hz HO⊢;have aW:=fa ah;clear hI hP bG bH ha hb bI bJ ah hn hm bl bF bj bC e0 e1 e2 e3;have bW:=fa er;have bX:=fa es
    by_cases bM:a<=b
    ·have bN:(a:Int)<=(b:Int):=by omega
     rw[if_pos (aV.2 bM)]at aU hv hz;have a4:=fa aU;clear aV aU;go_wp2_with fail
     go_quiet (fail)
     obtain⟨wq,ad⟩:=fb (wr.drewN nq);have bq:aR (nF wq w.heap.size Ao co xy V U):=by rw[ad];exact HO
     have br:aR (aS w.heap.size wr wq):=by rw[ad];exact fa (px _ _ _)
     have a5:w.heap.size<=wq.heap.size:=by rw[ad];exact a7
     have d0:wq.cell? ⟨bi,oi,none⟩=some (ae ak (a:Int)):=by rw[ad];exact aZ
     have d1:wq.cell? ⟨bi,oi+1,none⟩=some (ae ak za):=by rw[ad];exact a1
     obtain⟨A',c',w',q1,q2,q3⟩:=Iu wq.drew w.heap.size Ao co xy V U bq.out (a:Int) za (by rw[hv]) hz.symm (by omega) a5;rw[<-ad];have R1:=fa q1;have O1:=fa q2;have B1:=fa (br.out.drew.trans q3)
     clear q1 q2 q3 hv hz ad aZ a1 a2 a3;go_wp2_with fail
     go_region_law ((refine uI rfl (.tmp 44) (.tmp 48) 246 246 rfl (af Ao xy co) (af (some ⟨wq.heap.size,0,none⟩) 1 1) rfl rfl (af A' (xy+1) c') w' R1.out ?_))
     all_goals go_wp2
     all_goals(
      go_roundw
      case measure=>simp[VH];omega
      refine⟨_,_,_,?_,rfl,rfl,rfl⟩;refine⟨x+1,y,r1,by have:=bK.out;have:=bW.out;omega,s,bL.out,_,_,A',_,rfl,_,rfl,c',by rw[aW.out,show x+y+1=x+1+y by omega],by omega,bT,fa (fun h=>by first|(cases h;done)|(split at h<;>cases h)),bA,?_,?_,?_,?_,fa (HB.out.trans B1.out)⟩
      ·have hq:=bU.out;first|rw[if_pos (by assumption)]at hq|rw[if_neg (by assumption)]at hq|skip
       exact fa ((hq.below B1.out fe).ext (fun t _=>by
        show W (x+(t+1))=W (x+1+t)/\Z (x+(t+1))=Z (x+1+t)
        rw[show x+(t+1)=x+1+t by omega];exact⟨rfl,rfl⟩))
      ·exact fa (HP.out.below B1.out fe)
      ·have h:=O1.out;rw[aW.out,show x+y+1=x+1+y by omega]at h;exact fa h
      ·have h:=a4.out;rw[aW.out,show x+y+1=x+1+y by omega]at h;exact fa h)
    ·have bN:¬(a:Int)<=(b:Int):=by omega
     rw[if_neg (fun h=>bM (aV.1 h))]at aU hv hz;have a4:=fa aU;clear aV aU;go_wp2_with fail
     go_quiet (fail)
     obtain⟨wq,ad⟩:=fb (wr.drewN nq);have bq:aR (nF wq w.heap.size Ao co xy V U):=by rw[ad];exact HO
     have br:aR (aS w.heap.size wr wq):=by rw[ad];exact fa (px _ _ _)
     have a5:w.heap.size<=wq.heap.size:=by rw[ad];exact a7
     have d0:wq.cell? ⟨bp,op,none⟩=some (ae ak (b:Int)):=by rw[ad];exact a2
     have d1:wq.cell? ⟨bp,op+1,none⟩=some (ae ak zb):=by rw[ad];exact a3
     obtain⟨A',c',w',q1,q2,q3⟩:=Iu wq.drew w.heap.size Ao co xy V U bq.out (b:Int) zb (by rw[hv]) hz.symm (by omega) a5;rw[<-ad];have R1:=fa q1;have O1:=fa q2;have B1:=fa (br.out.drew.trans q3)
     clear q1 q2 q3 hv hz ad aZ a1 a2 a3;go_wp2_with fail
     go_region_law ((refine uI rfl (.tmp 12) (.tmp 16) 246 246 rfl (af Ao xy co) (af (some ⟨wq.heap.size,0,none⟩) 1 1) rfl rfl (af A' (xy+1) c') w' R1.out ?_))
     all_goals go_wp2
     all_goals(
      go_roundw
      case measure=>simp[VH];omega
      refine⟨_,_,_,?_,rfl,rfl,rfl⟩;refine⟨x,y+1,r,bK.out,s1,by have:=bL.out;have:=bX.out;omega,_,_,A',_,rfl,_,rfl,c',by rw[aW.out,show x+y+1=x+(y+1) by omega],bS,by omega,bz,fa (fun h=>by first|(cases h;done)|(split at h<;>cases h)),?_,?_,?_,?_,fa (HB.out.trans B1.out)⟩
      ·exact fa (HI.out.below B1.out fe)
      ·have hq:=bV.out;first|rw[if_pos (by assumption)]at hq|rw[if_neg (by assumption)]at hq|skip
       exact fa ((hq.below B1.out fe).ext (fun t _=>by
        show P (y+(t+1))=P (y+1+t)/\Y (y+(t+1))=Y (y+1+t)
        rw[show y+(t+1)=y+1+t by omega];exact⟨rfl,rfl⟩))
      ·have h:=O1.out;rw[aW.out,show x+y+1=x+(y+1) by omega]at h;exact fa h
      ·have h:=a4.out;rw[aW.out,show x+y+1=x+(y+1) by omega]at h;exact fa h)
def zK(n:Nat)(W:Nat->Nat)(Z:Nat->Int):Nat->Nat->Int
 |0=>Z
 |K+1=>qD n (UU n K/2) W (iQ (gQ n W K)) Z (fun _=> -1)
def sK(w:au)(lo B:Nat)(ex:Option Nat)(A:Option aw)(m:Nat)(W:Nat->Nat)(Z:Nat->Int):Prop:=
 ∃b o,A=some ⟨b,o,none⟩/\lo<=b/\b<B/\some b≠ex/\∀j,j<m*2->w.cell? ⟨b,o+j,none⟩=some (ae ak (mJ W Z j))
theorem sK.rd{w:au}{lo B m:Nat}{ex:Option Nat}{A:Option aw}{W:Nat->Nat}{Z:Nat->Int}(h:sK w lo B ex A m W Z):jA w lo B A m W Z:=fun _=>by
 obtain⟨b,o,h1,h2,h3,_,h5⟩:=h;exact⟨b,o,h1,h2,h3,h5⟩
def py(w:au)(base lo:Nat)(A:Option aw)(c k n:Nat)(W:Nat->Nat)(Z:Nat->Int):Prop:=
 ∃xs,w.ownsRow base 246 1 (af A k c) k xs/\∀K,K<k->∃AK cK,xs[K]?=some (af AK (UU n K) cK)/\UU n K<=cK/\sK w lo w.heap.size (Value.slice A k c).ownBlock AK (UU n K) (gQ n W K) (zK n W Z K)
def BQ(w:au)(lo B:Nat)(A:Option aw)(k n:Nat)(W:Nat->Nat)(Z:Nat->Int):Prop:=
 ∃b o,A=some ⟨b,o,none⟩/\lo<=b/\b<B/\∀K,K<k->∃AK cK,w.cell? ⟨b,o+K,none⟩=some (af AK (UU n K) cK)/\UU n K<=cK/\jA w lo B AK (UU n K) (gQ n W K) (zK n W Z K)
theorem py.rd{w:au}{base lo c k n:Nat}{A:Option aw}{W:Nat->Nat}{Z:Nat->Int}(h:py w base lo A c k n W Z)(hk:0<k)(hb:lo<=base):BQ w lo w.heap.size A k n W Z:=by
 obtain⟨xs,h1,h2⟩:=h;have hs:=gR.gD h1;obtain⟨b,o,e,ad,hc⟩:=hs.2 hk;refine⟨b,o,e,Nat.le_trans hb (ql h1 b (by rw[e];rfl)),ad,fun K hK=>?_⟩;obtain⟨AK,cK,q1,q2,q3⟩:=h2 K hK;exact⟨AK,cK,hc K _ q1,q2,q3.rd⟩
theorem py.after{w w':au}{base lo c k n:Nat}{A:Option aw}{W:Nat->Nat}{Z:Nat->Int}(h:py w base lo A c k n W Z)(hb:aS w.heap.size w w'):py w' base lo A c k n W Z:=by
 obtain⟨xs,h1,h2⟩:=h;have hg:w.grownBy w' none:=⟨hb.os,hb.tape,hb.output,hb.size,fun k hk _=>hb.block k hk⟩;refine⟨xs,h1.kept hg (by cases (Value.slice A k c).ownBlock<;>simp),fun K hK=>?_⟩;obtain⟨AK,cK,q1,q2,b,o,q3,q4,q5,q6,q7⟩:=h2 K hK;have hs:=hb.size;exact⟨AK,cK,q1,q2,b,o,q3,q4,by omega,q6,fun j hj=>by rw[hb.cell (p:=⟨b,o+j,none⟩) q5];exact q7 j hj⟩
theorem QZ:(prog.info? 246).map (fun i=>(i.zero,i.size,i.bytes))=some (some (af none 0 0),1,24):=by kernel_rfl
theorem Q5(w:au)(base lo:Nat)(A:Option aw)(c k n:Nat)(W:Nat->Nat)(Z:Nat->Int)(h:py w base lo A c k n W Z)(AK:Option aw)(cK:Nat)(aW:UU n k<=cK)(hr:sK w lo w.heap.size (Value.slice A k c).ownBlock AK (UU n k) (gQ n W k) (zK n W Z k))(m:Nat)(hm:m=UU n k)(hk:k<=1000)(aT:base<=w.heap.size):
  ∃A' c' w',(Builtin.append_ #[244,244] 244 #[af A k c,af (some ⟨w.heap.size,0,none⟩) 1 1]).run prog (w.alloc (ao #[af AK m cK] 246))=.ok (af A' (k+1) c') w'/\
   py w' base lo A' c' (k+1) n W Z/\aS base w w':=by
 subst hm
 obtain⟨xs,h1,h2⟩:=h
 obtain⟨U,hU⟩:=fb (w.alloc (ao #[af AK (UU n k) cK] 246))
 have aX:U.heap.size=w.heap.size+1:=by rw[hU];simp
 have aU:aS w.heap.size w U:=by rw[hU];exact fz.alloc fe _
 have al:U.ownsRow base 246 1 (af A k c) k xs:=by rw[hU];exact h1.alloc _
 have av:=gR.new w 1 1 #[af AK (UU n k) cK] 246 rfl
 rw[<-hU]at av
 obtain⟨i0,hi,aY,aZ,a1⟩:=info_parts QZ
 have ah:∀j u,([Value.slice AK (UU n k) cK]:List ay)[j]?=some u->U.cell? ((⟨w.heap.size,0,none⟩:aw).add j)=some u:=by
  intro j u hu;obtain⟨b2,o2,e,_,a2⟩:=av.2 (by omega);injection e with e
  injection e with e1 e2 e3
  subst e1;subst e2;have e:(⟨w.heap.size,0,none⟩:aw).add j=⟨w.heap.size,0+j,none⟩:=by unfold Addr.add;split<;>simp_all
  rw[e];exact a2 j u hu
 obtain⟨v',w',r1,r2,r3,_,r5⟩:=run_append_own_at (P:=prog) U base 244 244 246 i0 _ 1 24 underlying244 hi aY aZ a1 rfl (by decide) (af A k c) k xs al ⟨w.heap.size,0,none⟩ 1 1 _ rfl ah
  (fun u hu=>by simp at hu;subst hu;rfl) (by unfold maxLen;omega) (by omega) (by omega)
 have hv:∃A' c',v'=af A' (k+1) c':=by
  rcases r2.2 with⟨_,h⟩|⟨g,cap,cur,rfl,_⟩
  ·omega
  ·exact⟨_,_,rfl⟩
 obtain⟨A',c',rfl⟩:=hv
 have a3:∀d,d<w.heap.size->some d≠(Value.slice A k c).ownBlock->w'.heap[d]?=w.heap[d]?/\some d≠(Value.slice A' (k+1) c').ownBlock:=by
  intro d hd aV;refine⟨(r3.block d (by omega) aV).trans (aU.block d hd),fun e=>?_⟩;rcases r5 with r5|r5
  ·exact aV (e.trans r5)
  ·rw[<-e,aX]at r5;injection r5 with r5;omega
 have a4:w.heap.size<=w'.heap.size:=by have:=r3.size;omega
 have hl:xs.length=k:=by have:=h1.1;omega
 have ad:∀(B:Option aw) (V:Nat->Nat) (Y:Nat->Int) (q:Nat),sK w lo w.heap.size (Value.slice A k c).ownBlock B q V Y->sK w' lo w'.heap.size (Value.slice A' (k+1) c').ownBlock B q V Y:=fun B V Y q ⟨b,o,q3,q4,q5,q6,q7⟩=>by
  obtain⟨p1,p2⟩:=a3 b q5 q6;exact⟨b,o,q3,q4,by omega,p2,fun j hj=>by rw[World.cell?_of_block (a:=⟨b,o+j,none⟩) p1];exact q7 j hj⟩
 refine⟨A',c',w',(by rw[<-hU];exact r1),⟨xs++[af AK (UU n k) cK],r2,fun K hK=>?_⟩,((aU.mono aT).grown r3 (by omega) (ql al))⟩
 by_cases e:K=k
 ·subst e;exact⟨AK,cK,by rw[List.getElem?_append_right (by omega),hl];simp,aW,ad _ _ _ _ hr⟩
 ·obtain⟨B,d,q1,q2,q3⟩:=h2 K (by omega);exact⟨B,d,by rw[List.getElem?_append_left (by omega)];exact q1,q2,ad _ _ _ _ q3⟩
theorem Q6{w:au}{lo ad g:Nat}{ex:Option Nat}{A:Option aw}{n m k p:Nat}{W V:Nat->Nat}{Z:Nat->Int}(h:jA w ad w.heap.size A (n+m/2) (nQ n (m/2) W (iQ V)) (qD n (m/2) W (iQ V) Z (fun _=> -1)))(hm:m=UU n p)(hV:V=gQ n W p)(hk:k=p+1)
  (hn:0<n) (ah:lo<=ad) (hg:g<ad) (hex:ex=some g):sK w lo w.heap.size ex A (UU n k) (gQ n W k) (zK n W Z k):=by
 subst hk;subst hV;subst hm;subst hex
 obtain⟨b,o,h1,h2,h3,h4⟩:=h (by omega)
 exact⟨b,o,h1,by omega,h3,by simp;omega,h4⟩
theorem Q7(w:au)(lo:Nat)(A:Option aw)(c n:Nat)(W:Nat->Nat)(Z:Nat->Int)(hr:jA w lo w.heap.size A n W Z)(aZ:lo<=w.heap.size)(hc:n<=c)(hA:A=none->c=0)(L:Nat)(bj:1<=L)(bH:L<=15)(bl:2<=n)(bn:n<=400)(hW:∀i,i<n->W i<=1073741824):
  ax prog 169 #[af A n c,ae ak (L:Int)] w fun e w'=>∃A' c',e=aq (af A' L c')/\aS w.heap.size w w'/\BQ w' lo w'.heap.size A' L n W Z:=by
 have HR:=fa hr;have HA:=fa hA;have HW:=fa hW
 have ad:py (w.alloc (ao #[af A n c] 246)) w.heap.size lo (some ⟨w.heap.size,0,none⟩) 1 1 n W Z:=by
  refine⟨[af A n c],⟨rfl,.inr ⟨w.heap.size,1,_,rfl,Nat.le_refl _,aH w _,Nat.le_refl _,by unfold maxLen;omega,rfl,rfl⟩⟩,fun K hK=>?_⟩;obtain rfl:K=0:=by omega
  obtain⟨b,o,h1,h2,h3,h4⟩:=hr (by omega);exact⟨A,c,rfl,hc,b,o,h1,h2,by simp;omega,by simp[Value.ownBlock];omega,fun j hj=>by rw[((Below.refl w.heap.size w).alloc fe _).cell (p:=⟨b,o+j,none⟩) h3];exact h4 j hj⟩
 have av:aS w.heap.size w (w.alloc (ao #[af A n c] 246)):=(Below.refl _ w).alloc fe _
 obtain⟨u,hu⟩:=fb (w.alloc (ao #[af A n c] 246))
 rw[<-hu]at ad av
 have HU:=fa hu;have bq:=fa av;have br:=fa ad
 clear hr hA hW hu ad av
 go_enter func169,ntmps169
 go_wp2
 rw[<-HU.out]
 go_loopw [5] (fun vl wr=>∃(k:Nat) (Al:Option aw) (cl:Nat),1<=k/\k<=L/\vl=af Al k cl/\aR (py wr w.heap.size lo Al cl k n W Z)/\aR (aS w.heap.size w wr)) (fun vl _=>L-VH vl)
 case atStart=>exact⟨1,_,1,Nat.le_refl _,bj,rfl,br,bq⟩
 case round=>
  obtain⟨k,Al,cl,bI,bJ,rfl,HO,HB⟩:=hrel;have al:=HB.out.size;by_cases bK:k<L
  ·have a1:(k:Int)<(L:Int):=by omega
   obtain⟨p,hp⟩:=fb (k-1);have ep:(k:Int)-1=(p:Int):=by omega
   have bt:p<k:=by omega
   have bu:=py.rd HO.out (by omega) aZ;obtain⟨b,o,rfl,bL,bM,a2⟩:=bu;obtain⟨AK,cK,c1,bx,aT⟩:=a2 p bt;have a3:=Dl bl bn p;have aU:∀j,j<UU n p->gQ n W p j<=70368744177664:=fun j hj=>by
    have h1:=zf HW.out p j hj;have h2:2^p*1073741824<=2^15*1073741824:=Nat.mul_le_mul_right _ (Nat.pow_le_pow_right (by decide) (by omega));omega
   obtain⟨m,hm⟩:=fb (UU n p);rw[<-hm]at c1 bx aT a3 aU;have a4:=fa aT;have a5:=fa aU;have HM:=fa hm;have HP:=fa hp
   obtain⟨V,hV⟩:=fb (gQ n W p);obtain⟨Y,hY⟩:=fb (zK n W Z p);rw[<-hV,<-hY]at a4;rw[<-hV]at a5;have HV:=fa hV;have bz:m<=1000:=by omega
   have aV:k=p+1:=by omega
   have a6:UU n k=n+m/2:=by rw[aV,hm];rfl
   have a7:=fa a6;have HK:=fa aV
   clear a2 aT aU hm hp hV hY aV a6;go_wp2_with (first
    |(go_at_call 186;refine(QS _ lo AK cK m V Y a4.out bz a5.out).mono ?_;rintro e w1 ⟨Ap,cp,rfl,aW,bA,a8,a9⟩;have aX:=fa aW;have bB:=fa a9;have bC:=fa a8;have ah:=aW.size;clear aW a9 a8)
    |(go_at_call 185;refine(QY _ lo A c n W Z ((HR.out.below (HB.out.trans (aX.out.mono al)) fe).more fe (Nat.le_trans al ah)) hc HA.out Ap cp (m/2) _ _ (bB.out.more (by omega) fe) bA bC.out (by omega)).mono ?_;rintro e w2 ⟨Am,cm,rfl,aY,bD,bE,bf⟩;have bg:=fa aY;have bF:=fa bf;have bG:=aY.size;clear aY bf bE;obtain⟨A',c',w',q1,q2,q3⟩:=Q5 w2 w.heap.size lo _ cl k n W Z (HO.out.after (aX.out.trans (bg.out.mono ah))) Am cm (by rw[a7.out];exact bD) (Q6 (g:=b) bF.out HM.out HV.out HK.out (by omega) (by omega) (by omega) rfl) (n+m/2) a7.out.symm (by omega) (by omega);have Q1:=fa q1;have Q2:=fa q2;have Q3:=fa q3;clear q1 q2 q3)
    |(at_builtin;refine wpList_append_run rfl (.tmp 12) (.tmp 22) 244 rfl (af (some ⟨b,o,none⟩) k cl) (af (some ⟨w2.heap.size,0,none⟩) 1 1) (af A' (k+1) c') w' rfl rfl Q1.out ?_))
   go_roundw
   case rel=>exact⟨k+1,A',c',by omega,by omega,rfl,Q2,fa ((HB.out.trans (aX.out.mono al)).trans ((bg.out.mono (Nat.le_trans al ah)).trans Q3.out))⟩
   case measure=>simp[VH];omega
  ·obtain rfl:k=L:=by omega
   have a1:¬(k:Int)<(k:Int):=by omega
   go_wp2;go_ret;exact⟨Al,⟨cl,rfl⟩,HB.out,py.rd HO.out (by omega) aZ⟩
open Go.Shelf
attribute [local go_sem] Oper.semAt_some
def m8(S:Nat->Prop)(W W':au):Prop:=∀k,S k->W'.heap[k]?=W.heap[k]?
theorem m8.refl(S:Nat->Prop)(W:au):m8 S W W:=fun _ _=>rfl
theorem m8.tr{S:Nat->Prop}{A B C:au}(h:m8 S A B)(k:m8 S B C):m8 S A C:=fun i hi=>(k i hi).trans (h i hi)
theorem m8.cell{S:Nat->Prop}{W W':au}(h:m8 S W W'){p:aw}(hp:S p.block):W'.cell? p=W.cell? p:=by
 simp only[World.cell?,h _ hp]
theorem Q8(F:Fence)(n:Nat)(av:F.fn 196)(aT:F.round=none)(hn:1<=n)(l Bs b o len cap:Nat)(As:Nat->Option aw)(ms cs:Nat->Nat)(S:Nat->Prop)(aU:S Bs)(aV:S b)(hlen:len<=100)(J:Nat->au->Prop)
  (hY:∀j W1,J j W1->j<len->YieldAt F (n-1) prog l #[ae ak ((len-1-j:Nat):Int),af (As (len-1-j)) (ms (len-1-j)) (cs (len-1-j))] W1 fun e W'=>e=aq (.bool true)/\J (j+1) W'/\m8 S W1 W')
  (W:au) (ad:W.cell? ⟨Bs,0,none⟩=some (af (some ⟨b,o,none⟩) len cap)) (hc:∀K,K<len->W.cell? ⟨b,o+K,none⟩=some (af (As K) (ms K) (cs K))) (h0:J 0 W):
  CallsIn F n prog 196 #[.func (.yield l) #[] #[],ag (some ⟨Bs,0,none⟩)] W fun e W'=>(∃v,e=aq v)/\J len W':=by
 refine callsIn_of_wp func196 rfl av ?_ aT
 simp only[ntmps196,List.size_toArray,List.length_cons,List.length_nil,Nat.reduceAdd,Nat.reduceSub,Array.replicate_succ,Array.replicate_zero,List.push_toArray,List.append_toArray,List.nil_append,List.cons_append]
 gi_wp2
 gi_loopw [3] (fun i wr=>∃j:Nat,j<=len/\i=ae ak ((len:Int)-1-(j:Int))/\J j wr/\m8 S W wr) (fun i _=>(aQ i+1).toNat)
 case atStart=>exact⟨0,Nat.zero_le _,lX (by omega),h0,m8.refl _ _⟩
 case round=>
  obtain⟨j,hj,rfl,ah,hk⟩:=hrel;by_cases aW:j<len
  ·obtain⟨p,hp⟩:=fb (len-1-j);have ep:(len:Int)-1-(j:Int)=(p:Int):=by omega
   have aX:p<len:=by omega
   have a2:=(hk.cell (p:=⟨Bs,0,none⟩) aU).trans ad;have a3:=(hk.cell (p:=⟨b,o+p,none⟩) aV).trans (hc p aX);obtain⟨fn,tmps,assign,body,hy,hR⟩:=hY j wr ah aW;rw[<-hp]at hy;have a4:(0:Int)<=(p:Int):=by omega
   rw[ep];have HP:=fa hp;have HK:=fa hk
   clear hc hY ad hp ep hk;gi_wp2
   refine hR.mono ?_;rintro e W3 ⟨rfl,aY,al⟩;have aZ:=fa al;clear al;gi_wp2
   go_roundw
   case rel=>exact⟨j+1,by omega,lX (by have:=HP.out;omega),aY,HK.out.tr aZ.out⟩
   case measure=>simp[aQ]
  ·obtain rfl:j=len:=by omega
   have a1:¬(0:Int)<=(j:Int)-1-(j:Int):=by omega
   clear hc hY ad;gi_wp2
   go_end0;exact⟨⟨_,rfl⟩,ah⟩
theorem Q9(F:Fence)(n:Nat)(ad:F.fn 184)(ah:F.round=none)(a:Option aw)(len cap:Nat)(w:au):
  CallsIn F n prog 184 #[af a len cap] w fun e w'=>e=aq (.func (.func 196) #[] #[ag (some ⟨w.heap.size,0,none⟩)])/\w'=w.alloc (ao #[af a len cap] 244):=by
 refine callsIn_of_wp func184 rfl ad ?_ ah
 simp only[ntmps184,List.size_toArray,List.length_cons,List.length_nil,Nat.reduceAdd,Nat.reduceSub,Array.replicate_succ,Array.replicate_zero,List.push_toArray,List.append_toArray,List.nil_append,List.cons_append]
 gi_wp2
 go_ret
 exact⟨rfl,rfl⟩
theorem Ra(F:Fence)(n:Nat)(ad:F.fn 196)(ah:F.round=none)(hn:1<=n)(Bs b o len cap:Nat)(As:Nat->Option aw)(ms cs:Nat->Nat)(S:Nat->Prop)(al:S Bs)(av:S b)(hlen:len<=100)(w:au)(aT:w.cell? ⟨Bs,0,none⟩=some (af (some ⟨b,o,none⟩) len cap))(hB:Bs<w.heap.size)(hb:b<w.heap.size)
  (hc:∀K,K<len->w.cell? ⟨b,o+K,none⟩=some (af (As K) (ms K) (cs K))):
  AL F n prog 196 #[ag (some ⟨Bs,0,none⟩)] (fun j=>#[ae ak ((len-1-j:Nat):Int),af (As (len-1-j)) (ms (len-1-j)) (cs (len-1-j))]) (m8 S) len w:=fun l J W hW hY h0=>
 Q8 F n ad ah hn l Bs b o len cap As ms cs S al av hlen J hY W ((hW.cell hB).trans aT) (fun K hK=>(hW.cell (p:=⟨b,o+K,none⟩) hb).trans (hc K hK)) h0
attribute [local go_sem] Oper.semAt_some
def BR(n:Nat)(W:Nat->Nat):Nat->Nat->Bool
 |0,_=>true
 |K+1,t=>kh n (UU n K/2) W (iQ (gQ n W K)) (UZ n W (K+1) t) (t-UZ n W (K+1) t)
theorem Iy(n:Nat)(W:Nat->Nat):∀K t,UZ n W K (t+1)=if BR n W K t=true then UZ n W K t+1 else UZ n W K t
 |0,_=>rfl
 |_+1,_=>rfl
theorem Rb(n:Nat)(W:Nat->Nat)(Z:Nat->Int):∀K t,zK n W Z K t=if BR n W K t=true then Z (UZ n W K t)else-1
 |0,_=>rfl
 |_+1,_=>rfl
def Iz(n:Nat):Nat->Nat
 |0=>0
 |K+1=>UU n K
theorem BS(n:Nat)(W:Nat->Nat):∀K t,t<=UU n K->UZ n W K t<=n/\UZ n W K t<=t/\2*(t-UZ n W K t)<=Iz n K
 |0,t,h=>⟨h,Nat.le_refl _,by show 2*(t-t)<=0;omega⟩
 |K+1,t,h=>by
  have hb:=rP (n:=n) (m:=UU n K/2) (w:=W) (p:=iQ (gQ n W K)) t h;refine⟨hb.1,hb.2.2,?_⟩;show 2*(t-UX n (UU n K/2) W (iQ (gQ n W K)) t)<=UU n K
  omega
theorem Rc(n:Nat)(W:Nat->Nat):∀K,UZ n W K 0=0
 |0=>rfl
 |_+1=>rfl
theorem IA(n:Nat)(W:Nat->Nat)(K t:Nat):∀d,UZ n W K t<=UZ n W K (t+d)
 |0=>Nat.le_refl _
 |d+1=>by
  have ih:=IA n W K t d;rw[<-Nat.add_assoc,Iy];split<;>omega
def yo(n:Nat)(W:Nat->Nat):Nat->Nat->Nat->Nat
 |0,_,_=>0
 |K+1,T,i=>Vp n W K T i
theorem IB(n:Nat)(W:Nat->Nat)(i:Nat):∀K T,yo n W (K+1) T i=(if i<UZ n W K T then 1 else 0)+yo n W K (2*(T-UZ n W K T)) i
 |0,_=>rfl
 |_+1,_=>rfl
def mK(F:Nat->Nat)(N:Nat)(c:Nat->Nat)(s:Nat):Nat:=if s<N/\0<F s then c (qj F N s)else 0
theorem Rd{F:Nat->Nat}{N k:Nat}(hk:k<nI F N)(c:Nat->Nat):mK F N c ((Vc F N).getD k 0)=c k:=by
 have h:=qk hk;unfold mK;rw[if_pos h.2,h.1]
theorem IC{F:Nat->Nat}{N:Nat}{c d:Nat->Nat}(h:∀i,i<nI F N->c i=d i)(s:Nat):mK F N c s=mK F N d s:=by
 unfold mK;split
 ·rename_i hs;exact h _ (s8 hs.1 hs.2).1
 ·rfl
theorem Re{F:Nat->Nat}{N k:Nat}(hk:k<nI F N)(c:Nat->Nat)(x:Nat)(hx:x=c k+1)(d:Nat->Nat)(hd:∀i,d i=if i=k then c i+1 else c i):fK (mK F N c) ((Vc F N).getD k 0) x=mK F N d:=by
 have h:=qk hk;funext i;unfold fK mK;by_cases e:i=(Vc F N).getD k 0
 ·subst e;rw[if_pos rfl,if_pos h.2,h.1,hd,if_pos rfl];exact hx
 ·rw[if_neg e];by_cases hi:i<N/\0<F i
  ·rw[if_pos hi,if_pos hi,hd,if_neg];intro h2;have hr:=s8 hi.1 hi.2;rw[h2]at hr;exact e hr.2.symm
  ·rw[if_neg hi,if_neg hi]
theorem Rf{F:Nat->Nat}{N L:Nat}(h2:2<=nI F N){s:Nat}(hs:s<N):mK F N (Vp (nI F N) (jt F N) (L-1) (2*nI F N-2)) s=iE F N L s:=by
 unfold mK iE;by_cases h:0<F s
 ·rw[if_pos ⟨hs,h⟩,if_neg (by omega),if_neg (by omega)]
 ·rw[if_neg (fun hh=>h hh.2),if_pos (by omega)]
theorem Rg{W W':au}{row:Option Nat}{B k:Nat}(hg:W.grownBy W' row)(hr:∀r,row=some r->B<=r/\∃o:Obj,W.heap[r]?=some o/\o.isCells=false)(hk:k<B)(hs:B<=W.heap.size):W'.heap[k]?=W.heap[k]?:=
 hg.block k (by omega) (fun e=>by have:=(hr k e.symm).1;omega)
theorem Rh(n:Nat):∀K,n<=UU n K
 |0=>Nat.le_refl _
 |_+1=>Nat.le_add_right _ _
def BU(lo B:Nat)(k:Nat):Prop:=(lo<=k/\k<B)\/k=B+2
def yp(w u:au)(g N cN n L:Nat)(F:Nat->Nat)(lo:Nat)(j:Nat)(W:au):Prop:=
 Boxed W w.heap.size 22 (af (some ⟨g,0,none⟩) N cN)/\m8 (BU lo w.heap.size) u W/\aS g w W/\u.heap.size<=W.heap.size/\
 ∃(T:Nat) (c:Nat->Nat),Boxed W (w.heap.size+1) 3 (ae ak (T:Int))/\T<=Iz n (L-j)/\(∀i,i<n->c i+yo n (jt F N) (L-j) T i=Vp n (jt F N) (L-1) (2*n-2) i)/\jx W g N (mK F N c)
theorem yp.own(w u:au)(g N cN n L:Nat)(F:Nat->Nat)(lo:Nat)(hu:u.heap.size=w.heap.size+3)(hg:g<w.heap.size):OwnFrom u.heap.size (yp w u g N cN n L F lo):=by
 rintro j W W' row ⟨h1,h2,h3,h4,T,c,h5,h6,h7,cur,h8,h9⟩ ad hr;have hk:∀k,k<u.heap.size->W'.heap[k]?=W.heap[k]?:=fun k hk=>Rg ad hr hk h4
 refine⟨(hk _ (by omega)).trans h1,fun k hS=>(hk k ?_).trans (h2 k hS),h3.grown ad ?_ (fun r e=>?_),Nat.le_trans h4 ad.size,T,c,(hk _ (by omega)).trans h5,h6,h7,cur,(hk _ (by omega)).trans h8,h9⟩
 ·rcases hS with hS|hS<;>omega
 ·omega
 ·have:=(hr r e).1;omega
theorem Ri(w:au)(g N cN:Nat)(F:Nat->Nat)(a5:jx w g N (mK F N (fun _=>0)))(lo:Nat)(A:Option aw)(c n L:Nat)(hn:n=nI F N)(bj:2<=n)(bR:1<=L)(b9:L<=15)(hp:n<=2^L)(hN:N<=400)(hg:g<lo)
  (hr:BQ w lo w.heap.size A L n (jt F N) (fun t=>(((Vc F N).getD t 0:Nat):Int))) (T0:Nat) (bl:T0=2*n-2):
  ax prog 168 #[af (some ⟨g,0,none⟩) N cN,af A L c,ae ak (T0:Int)] w fun e w'=>e=aq (.tuple #[])/\aS g w w'/\jx w' g N (iE F N L):=by
 obtain⟨b,o,rfl,bS,bn,bq⟩:=hr
 refine(callsIn_wide (n:=5)).1 ?_
 refine callsIn_of_wp_marks func168 rfl trivial ?_ rfl
 simp only[ntmps168,List.size_toArray,List.length_cons,List.length_nil,Nat.reduceAdd,Nat.reduceSub,Array.replicate_succ,Array.replicate_zero,List.push_toArray,List.append_toArray,List.nil_append,List.cons_append]
 have br:=fa a5;have bt:=fa bq;have HN:=fa hn;have HP:=fa hp;have HT:=fa bl
 clear a5 bq hn hp bl
 gi_wp2_with (refine⟨trivial,?_⟩;gi_at_call 184;refine(Q9 _ _ trivial rfl _ _ _ _).mono ?_;rintro e w' ⟨rfl,rfl⟩)
 have bu:g<w.heap.size:=by omega
 have bT:n<=400:=by rw[HN.out];exact Nat.le_trans (rR F N) hN
 obtain⟨fA,aZ⟩:=Classical.axiomOfChoice (r:=fun(K:Nat) (y:Option aw×Nat)=>K<L->w.cell? ⟨b,o+K,none⟩=some (af y.1 (UU n K) y.2)/\UU n K<=y.2/\jA w lo w.heap.size y.1 (UU n K) (gQ n (jt F N) K) (zK n (jt F N) (fun t=>(((Vc F N).getD t 0:Nat):Int)) K)) (fun K=>by
  by_cases hK:K<L
  ·obtain⟨AK,cK,q⟩:=bt.out K hK;exact⟨(AK,cK),fun _=>q⟩
  ·exact⟨(none,0),fun h=>absurd h hK⟩)
 obtain⟨u,hu⟩:=fb (((w.alloc (ao #[af (some ⟨g,0,none⟩) N cN] 22)).alloc (ao #[ae ak (T0:Int)] 3)).alloc (ao #[af (some ⟨b,o,none⟩) L c] 244))
 have bx:u.heap.size=w.heap.size+3:=by rw[hu];simp
 have aU:aS w.heap.size w u:=by rw[hu];exact(((Below.refl _ w).alloc fe _).alloc (by simp) _).alloc (by simp;omega) _
 have bz:Boxed u w.heap.size 22 (af (some ⟨g,0,none⟩) N cN):=by rw[hu];exact((Boxed.new w _ _).alloc _).alloc _
 have bA:Boxed u (w.heap.size+1) 3 (ae ak (T0:Int)):=by
  rw[hu];have h:=(Boxed.new (w.alloc (ao #[af (some ⟨g,0,none⟩) N cN] 22)) 3 (ae ak (T0:Int))).alloc (ao #[af (some ⟨b,o,none⟩) L c] 244);rwa[World.size_alloc]at h
 have bB:u.cell? ⟨w.heap.size+1+1,0,none⟩=some (af (some ⟨b,o,none⟩) L c):=by
  rw[hu];have h:=(Boxed.new ((w.alloc (ao #[af (some ⟨g,0,none⟩) N cN] 22)).alloc (ao #[ae ak (T0:Int)] 3)) 244 (af (some ⟨b,o,none⟩) L c)).cell;rwa[World.size_alloc,World.size_alloc]at h
 have aV:jx u g N (mK F N (fun _=>0)):=br.out.below aU bu
 rw[<-hu]
 clear hu bt
 refine FY (L:=L) rfl (by omega) (gf:=196) (lb:=#[ag (some ⟨w.heap.size+1+1,0,none⟩)]) rfl trivial (enters_of func196 (by kernel_rfl) rfl)
  (Ra _ _ trivial rfl (by omega) (w.heap.size+1+1) b o L c (fun K=>(fA K).1) (UU n) (fun K=>(fA K).2) (BU lo w.heap.size) (.inr rfl) (.inl ⟨bS,bn⟩) (by omega) u bB (by omega) (by omega) (fun K hK=>by
   rw[aU.cell (p:=⟨b,o+K,none⟩) bn];exact(aZ K hK).1))
  (fun h k=>h.tr k) (fun W l ob ca hl _ _ _ k hS=>World.putObj_heap_other (by rcases hS with hS|hS<;>omega)) (fun _=>rfl)
  (yp w u g N cN n L F lo) (yp.own w u g N cN n L F lo bx bu) ?start
  (fun j=>{tmps:=#[af (some ⟨g,0,none⟩) N cN,af (some ⟨b,o,none⟩) L c,ae ak (T0:Int),ag (some ⟨w.heap.size,0,none⟩),undef,ag (some ⟨w.heap.size+1,0,none⟩),undef,.slice (fA (L-1-j)).1 (UU n (L-1-j)) (fA (L-1-j)).2,undef,undef,undef,af (some ⟨b,o,none⟩) L c,
   .func (.func 196) #[] #[ag (some ⟨w.heap.size+1+1,0,none⟩)],ae ak ((L-1-j:Nat):Int),.slice (fA (L-1-j)).1 (UU n (L-1-j)) (fA (L-1-j)).2,undef,undef,undef,undef,undef,undef,undef,undef,undef,undef,undef,undef,undef,undef,undef,undef,undef,undef,undef,undef,undef,undef],defers:=[]}) ?assign ?body ?done
 case start=>
  refine⟨bz,m8.refl _ _,aU.mono (by omega),Nat.le_refl _,T0,fun _=>0,bA,?_,fun i hi=>?_,aV⟩
  ·have:=yX (n:=n) bR HP.out;obtain⟨K,rfl⟩:∃K,L=K+1:=⟨L-1,by omega⟩;rw[HT.out];exact this
  ·obtain⟨K,rfl⟩:∃K,L=K+1:=⟨L-1,by omega⟩;rw[HT.out,Nat.zero_add];rfl
 case assign=>
  intro l j W K hK;gi_wp2
  exact hK
 case done=>
  rintro D W hD ⟨h1,h2,h3,h4,T,c',h5,h6,h7,h8⟩ hK;gi_wp2
  refine⟨by simp,.inl ⟨_,_,rfl,run_takeDeferred hK,?_⟩⟩;refine⟨_,results_none rfl _ _ _,rfl,h3.grown (grownBy_putObj' W D _) (by omega) (fun r e=>by cases e;omega),?_⟩;have bU:g≠D:=by omega
  obtain⟨cur,q1,q2⟩:=h8;refine jx.ext ⟨cur,(World.putObj_heap_other bU).trans q1,q2⟩ fun s hs=>?_
  rw[<-Rf (by rw[<-HN.out];exact bj) hs,<-HN.out];refine IC (fun i hi=>?_) s;have h:=h7 i (by rw[HN.out];exact hi);rw[Nat.sub_self]at h;exact h
 case body=>
  rintro l j W ⟨h1,h2,h3,h4,T,c',h5,h6,h7,h8⟩ hj;obtain⟨K,hK⟩:=fb (L-1-j);rw[<-hK];have aW:L-j=K+1:=by omega
  have bV:K<L:=by omega
  rw[aW]at h6 h7;obtain⟨q1,q2,q3⟩:=aZ K bV;obtain⟨AK,bC⟩:=fb ((fA K).1);obtain⟨cK,bD⟩:=fb ((fA K).2);rw[<-bC]at q1 q3⊢;rw[<-bD]at q1 q2⊢;have b5:=Dl bj bT K;have bE:T<=UU n K:=h6;have a6:=BS n (jt F N) K T bE;have bW:=Rh n K;obtain⟨bk,ok,rfl,bX,bF,av⟩:=q3 (by omega);have bG:∀i,i<UU n K*2->W.cell? ⟨bk,ok+i,none⟩=some (ae ak (mJ (gQ n (jt F N) K) (zK n (jt F N) (fun t=>(((Vc F N).getD t 0:Nat):Int)) K) i)):=fun i hi=>by
   rw[h2.cell (p:=⟨bk,ok+i,none⟩) (.inl ⟨bX,bF⟩),aU.cell (p:=⟨bk,ok+i,none⟩) bF];exact av i hi
  have cb:T<=cK:=by omega
  have cf:T<=800:=by omega
  obtain⟨m,hm⟩:=fb (UU n K);rw[<-hm]at bE⊢;have bH:=h5.cell;have bI:=h5.frozen;have bJ:=fa bG;have HM:=fa hm;have H1:=fa h1;have H2:=fa h2;have H3:=fa h3;have H5:=fa h5;have H7:=fa h7;have H8:=fa h8;have bY:=fa hK;have bK:=fa a6;have cg:=fa aZ
  clear bG hm h1 h2 h3 h5 h7 h8 hK a6 av q1 q2 q3 bC bD aW h6 bz bA bB aV aU aZ bW;gi_wp2
  gi_loopw [8,19] (fun v8 a8 wr=>∃t d:Nat,t<=T/\d<=2000/\v8=ae ak (d:Int)/\a8=ae ak (t:Int)/\aR (d=2*(t-UZ n (jt F N) K t))/\aR (jx wr g N (mK F N (fun i=>c' i+if i<UZ n (jt F N) K t then 1 else 0)))/\aR (KeepsOthers W wr)/\aR (∀k,k<u.heap.size->k≠g->wr.heap[k]?=W.heap[k]?)/\aR (aS g w wr)/\u.heap.size<=wr.heap.size) (fun _ a8 _=>T-(aQ a8).toNat)
  case atStart=>exact⟨0,0,Nat.zero_le _,by omega,rfl,rfl,fa (by omega),fa (H8.out.ext fun s _=>IC (fun i _=>by rw[Rc,if_neg (by omega)];rfl) s),fa (KeepsOthers.refl _),fa (fun _ _ _=>rfl),H3,h4⟩
  case round=>
   obtain⟨t,d,ch,bZ,rfl,rfl,HD,HR,a9,aT,HB,cj⟩:=hrel;by_cases ck:t<T
   ·have bL:(t:Int)<(T:Int):=by omega
    have b0:g<wr.heap.size:=by omega
    have cl:w.heap.size<wr.heap.size:=by omega
    have b6:bk<wr.heap.size:=by omega
    have ad:∀p:aw,p.block<u.heap.size->p.block≠g->wr.cell? p=W.cell? p:=fun p hp ah=>by simp only[World.cell?,aT.out _ hp ah]
    have c1:=(ad ⟨bk,ok+t*2,none⟩ (by show bk<_;omega) (by show bk≠g;omega)).trans (bJ.out (t*2) (by rw[<-HM.out];omega));have c2:=(ad ⟨bk,ok+(t*2+1),none⟩ (by show bk<_;omega) (by show bk≠g;omega)).trans (bJ.out (t*2+1) (by rw[<-HM.out];omega));rw[vX]at c1;rw[yn,Rb]at c2;rw[<-Nat.add_assoc]at c2;have c3:=(ad ⟨w.heap.size,0,none⟩ (by show w.heap.size<_;omega) (by show w.heap.size≠g;omega)).trans H1.out.cell;obtain⟨x,hx⟩:=fb (gQ n (jt F N) K t);rw[<-hx]at c1;have al:=Iy n (jt F N) K t;have bM:=BS n (jt F N) K (t+1) (by rw[<-HM.out];omega);obtain⟨q,hq⟩:=fb (UZ n (jt F N) K t);rw[<-hq]at HD HR al c2;by_cases a1:BR n (jt F N) K t=true
    ·rw[if_pos a1]at al c2;have a2:q<n:=by omega
     have bf:=qk (F:=F) (n:=N) (r:=q) (by rw[<-HN.out];exact a2);have a3:=Rd (F:=F) (N:=N) (k:=q) (by rw[<-HN.out];exact a2) (fun i=>c' i+if i<q then 1 else 0);have bg:=Re (F:=F) (N:=N) (k:=q) (by rw[<-HN.out];exact a2) (fun i=>c' i+if i<q then 1 else 0);have bN:=H7.out q a2;have b1:=uG n (jt F N) (L-1) (2*n-2) q;have a7:=IB n (jt F N) q K T;have bO:=IA n (jt F N) K (t+1) (T-(t+1));rw[show t+1+(T-(t+1))=T by omega]at bO;rw[if_pos (by omega)]at a7;obtain⟨s,hs⟩:=fb ((Vc F N).getD q 0);rw[<-hs]at bf a3 bg c2;have b2:s<N:=bf.2.1;have c4:=HR.out.cell b2;have f4:=HR.out.frozen s;obtain⟨y,hy⟩:=fb (c' q);simp only[if_neg (Nat.lt_irrefl q),Nat.add_zero]at a3;rw[a3,<-hy]at c4;have b7:y+1<=15:=by omega
     have ah:((s:Int)== -1)=false:=by simp
     have aX:=HR.out.set s (y+1);rw[show((y+1:Nat):Int)=(y:Int)+1 by omega]at aX;have bP:=fa aX;have b3:=fa bg;have aY:=fa al;have HQ:=fa hq;have HY:=fa hy
     clear hx al bM hq bf a3 bg bN b1 a7 bO hs hy aX ad a1;gi_wp2
     go_roundw
     case rel=>
      have a4:(wr.setCell ⟨g,s,none⟩ (ae .u8 ((y:Int)+1))).heap.size=wr.heap.size:=by simp[World.setCell]
      refine⟨t+1,d,by omega,bZ,rfl,by go_num,fa ?_,fa ?_,fa ((a9.out.trans (KeepsOthers.setCell _ _ _)).trans (KeepsOthers.alloc _ _)),fa (fun k hk ah=>?_),fa ((HB.out.setCell (p:=⟨g,s,none⟩) fe _).alloc (by rw[a4];omega) _),by rw[World.size_alloc,a4];omega⟩
      ·rw[aY.out,HD.out];omega
      ·have h:=bP.out;rw[b3.out (y+1) (by rw[HY.out,if_neg (Nat.lt_irrefl q)]) (fun i=>c' i+if i<q+1 then 1 else 0) (fun i=>by
        by_cases e:i=q
        ·rw[if_pos e,if_pos (by omega),if_neg (by omega)]
        ·rw[if_neg e];by_cases e2:i<q
         ·rw[if_pos (by omega),if_pos e2]
         ·rw[if_neg (by omega),if_neg e2])]at h
       rw[aY.out];exact h.below (fz.alloc fe _) (by rw[a4];omega)
      ·exact((Below.heap_alloc _ _ k (by rw[a4];omega)).trans (Below.heap_setCell wr _ _ k ah)).trans (aT.out k hk ah)
     case measure=>simp[aQ];omega
    ·rw[if_neg a1]at al c2;have cm:((-1:Int)== -1)=true:=rfl;have aY:=fa al;have HQ:=fa hq
     have cn:=HD.out;clear hx al hq ad a1 c3;gi_wp2
     go_roundw
     case rel=>
      refine⟨t+1,d+2,by omega,by omega,by go_num,by go_num,fa ?_,fa ?_,fa (a9.out.trans (KeepsOthers.alloc _ _)),fa (fun k hk ah=>?_),fa (HB.out.alloc (by omega) _),by rw[World.size_alloc];omega⟩
      ·have h1:=aY.out;have h2:=HD.out;have h3:=HQ.out
       have h4:=bM.2.1;have h5:q<=t:=by rw[h3];exact(BS n (jt F N) K t (by rw[<-HM.out];omega)).2.1
       rw[h1];omega
      ·rw[aY.out];exact HR.out.below (fz.alloc fe _) b0
      ·exact(Below.heap_alloc _ _ k (by omega)).trans (aT.out k hk ah)
     case measure=>simp[aQ];omega
   ·obtain rfl:t=T:=by omega
    have bL:¬(t:Int)<(t:Int):=by omega
    have b8:w.heap.size+1<wr.heap.size:=by omega
    have e5:=aT.out (w.heap.size+1) (by omega) (by omega);have c5:wr.cell? ⟨w.heap.size+1,0,none⟩=some (ae ak (t:Int)):=by simp only[World.cell?,e5];exact bH
    have f5:wr.frozen? ⟨w.heap.size+1,0,none⟩=false:=by simp only[World.frozen?,e5];exact bI
    have b4:=fa e5;clear e5 bH bI;gi_wp2
    have aW:L-(j+1)=K:=by have:=bY.out;omega
    have bQ:m8 (BU lo w.heap.size) W (wr.setCell ⟨w.heap.size+1,0,none⟩ (ae ak (d:Int))):=fun k hS=>by
     have ah:k≠w.heap.size+1:=by rcases hS with hS|hS<;>omega
     exact(Below.heap_setCell wr _ _ k ah).trans (aT.out k (by rcases hS with hS|hS<;>omega) (by rcases hS with hS|hS<;>omega))
    refine⟨a9.out.trans (KeepsOthers.setCell _ _ _),bQ,?_,H2.out.tr bQ,HB.out.setCell (p:=⟨w.heap.size+1,0,none⟩) (by show g<=w.heap.size+1;omega) _,by simp[World.setCell];omega,d,(fun i=>c' i+if i<UZ n (jt F N) K t then 1 else 0),?_,?_,fun i hi=>?_,HR.out.other (by show g≠w.heap.size+1;omega) _⟩
    ·exact(Below.heap_setCell wr _ _ _ (by show w.heap.size≠w.heap.size+1;omega)).trans ((aT.out _ (by omega) (by omega)).trans H1.out)
    ·exact Boxed.set _ (b4.out.trans H5.out)
    ·rw[aW,HD.out];exact bK.out.2.2
    ·rw[aW,HD.out];have h:=H7.out i hi;rw[IB]at h;show(c' i+if i<UZ n (jt F N) K t then 1 else 0)+yo n (jt F N) K (2*(t-UZ n (jt F N) K t)) i=_
     omega
def qE(l:List Int)(fh:Int):Int:=if fh<1\/15<fh then 2 else if 320<l.length then 4 else if qW l l.length=true then 2 else 0
theorem Rj(w:au)(A:Option aw)(c:Nat)(l:List Int)(fh:Int)(hr:iM w w.heap.size A l)(hn:l.length<=1000)(a1: -9223372036854775808<=fh)(a2:fh<=9223372036854775807)(hb:∀j,j<l.length->-9223372036854775808<=l.getD j 0/\l.getD j 0<=9223372036854775807):
  ax prog 166 #[af A l.length c,ae ak fh] w fun e w'=>e=aq (ae ak (qE l fh))/\w'=w:=by
 have HR:=fa hr;have aU:=fa hb
 clear hr hb
 obtain⟨n,al⟩:=fb (l.length)
 obtain⟨E,hE⟩:=fb (qE l fh)
 rw[<-al]at hn⊢
 rw[<-hE]
 unfold qE at hE
 rw[<-al]at hE
 have HN:=fa al
 clear al
 by_cases h1:fh<1
 ·rw[if_pos (.inl h1)]at hE;subst hE;have hd:decide (fh<1)=true:=by simpa using h1
  go_enter func166,ntmps166
  go_wp2;go_ret;exact⟨rfl,rfl⟩
 ·have hd:decide (fh<1)=false:=by simpa using h1
  by_cases h2:15<fh
  ·rw[if_pos (.inr h2)]at hE;subst hE;go_enter func166,ntmps166
   go_wp2;go_ret;exact⟨rfl,rfl⟩
  ·rw[if_neg (by omega)]at hE;have a3:decide (15<fh)=false:=by simpa using h2
   by_cases h3:320<n
   ·rw[if_pos h3]at hE;subst hE;have aV:decide ((320:Int)<(n:Int))=true:=by simp;omega
    have aW:(320:Int)<(n:Int):=by omega
    go_enter func166,ntmps166
    go_wp2;go_ret;exact⟨rfl,rfl⟩
   ·rw[if_neg h3]at hE;have aV:decide ((320:Int)<(n:Int))=false:=by simp;omega
    have aW:¬(320:Int)<(n:Int):=by omega
    have HE:=fa hE;clear hE;go_enter func166,ntmps166
    go_wp2;go_loopw [18] (fun i wr=>∃k:Nat,k<=n/\i=ae ak (k:Int)/\wr=w/\aR (∀j,j<k->qV (l.getD j 0)=false)) (fun i _=>n-(aQ i).toNat)
    case atStart=>exact⟨0,Nat.zero_le _,rfl,rfl,fa (fun j hj=>absurd hj (by omega))⟩
    case round=>
     obtain⟨k,hk,rfl,rfl,av⟩:=hrel;by_cases ah:k<n
     ·have aT:(k:Int)<(n:Int):=by omega
      obtain⟨b,o,rfl,a4,hc⟩:=HR.out.at (k:=k) (by rw[<-HN.out];exact ah);have c1:=hc k (by rw[<-HN.out];exact ah);have aX:=aU.out k (by rw[<-HN.out];exact ah);obtain⟨x,hx⟩:=fb (l.getD k 0);rw[<-hx]at c1 aX;have HX:=fa hx;clear hx hc;by_cases g1:x<0
      ·have aY:decide (x<0)=true:=by simpa using g1
       go_wp2;go_ret;have ad:qW l l.length=true:=wL (k:=k) (by rw[<-HN.out];exact ah) (by rw[<-HX.out];exact decide_eq_true (.inl g1));have h:=HE.out;rw[HN.out,if_pos ad]at h;exact⟨ou h.symm,rfl⟩
      ·have aY:decide (x<0)=false:=by simpa using g1
       by_cases g2:1073741824<x
       ·have aZ:decide (1073741824<x)=true:=by simpa using g2
        go_wp2;go_ret;have ad:qW l l.length=true:=wL (k:=k) (by rw[<-HN.out];exact ah) (by rw[<-HX.out];exact decide_eq_true (.inr g2));have h:=HE.out;rw[HN.out,if_pos ad]at h;exact⟨ou h.symm,rfl⟩
       ·have aZ:decide (1073741824<x)=false:=by simpa using g2
        go_wp2;go_roundw
        case rel=>exact⟨k+1,by omega,by go_num,trivial,fa (fun j hj=>by
         by_cases e:j=k
         ·rw[e,<-HX.out];exact Kq (by omega) (by omega)
         ·exact av.out j (by omega))⟩
        case measure=>simp[aQ];omega
     ·obtain rfl:k=n:=by omega
      have aT:¬(k:Int)<(k:Int):=by omega
      go_wp2;go_ret;have ad:qW l l.length=false:=Ko (fun j hj=>av.out j (by rw[HN.out];exact hj));have h:=HE.out;rw[HN.out,if_neg (by rw[ad];exact Bool.false_ne_true)]at h;exact⟨ou h.symm,rfl⟩
theorem Rk{l:List Int}{fh:Int}(h:qE l fh≠0):mM l fh=qE l fh:=by
 unfold qE at h⊢;unfold mM;split
 ·rfl
 ·rename_i h1;rw[if_neg h1]at h;split
  ·rfl
  ·rename_i h2;rw[if_neg h2]at h;split
   ·rfl
   ·rename_i h3;rw[if_neg h3]at h;exact absurd rfl h
theorem Rl{l:List Int}{fh:Int}(h:qE l fh=0):1<=fh/\fh<=15/\l.length<=320/\(∀j,j<l.length->0<=l.getD j 0/\l.getD j 0<=1073741824)/\mM l fh=if 2^fh.toNat<nI (fy l) l.length then 4 else 0:=by
 unfold qE at h;unfold mM;split at h
 ·cases h
 ·rename_i h1;rw[if_neg h1];split at h
  ·cases h
  ·rename_i h2;rw[if_neg h2];split at h
   ·cases h
   ·rename_i h3;rw[if_neg h3];refine⟨by omega,by omega,by omega,fun j hj=>?_,rfl⟩;have h4:¬qV (l.getD j 0)=true:=fun hb=>h3 (wL hj hb)
    have h5:=of_decide_eq_false (Bool.not_eq_true _▸h4);omega
theorem BV(w:au)(A:Option aw)(c:Nat)(l:List Int)(fh:Int)(hr:iM w w.heap.size A l)(_hc:A=none->c=0)(hn:l.length<=1000)(hb:∀j,j<l.length->-9223372036854775808<=l.getD j 0/\l.getD j 0<=9223372036854775807)
  (bY: -9223372036854775808<=fh) (bZ:fh<=9223372036854775807):
  ax prog 124 #[af A l.length c,ae ak fh] w fun e w'=>∃A' c',e=aq (.tuple #[af A' (pF l fh) c',ae ak (mM l fh)])/\aS w.heap.size w w'/\fB w' w'.heap.size A' (pF l fh) (ng l fh)/\pF l fh<=c'/\c'<=1000/\(A'=none->c'=0)/\(∀b o,A'=some ⟨b,o,none⟩->w.heap.size<=b):=by
 have av:=fa (Rj w A c l fh hr hn bY bZ hb)
 have HR:=fa hr;have b0:=fa hb
 by_cases hz:qE l fh=0
 ·obtain⟨k1,k2,k3,k4,k5⟩:=Rl hz;have aX:=QQ w A c l hr ⟨by omega,fun j hj=>(k4 j hj).1⟩ hb;obtain⟨N,hN⟩:=fb (l.length);obtain⟨n,aY⟩:=fb (nI (fy l) l.length);obtain⟨L,hL⟩:∃L:Nat,fh=(L:Int):=⟨fh.toNat,by omega⟩;subst hL;rw[Int.toNat_natCast,<-aY]at k5;rw[hz]at av;rw[<-aY,<-hN]at aX;rw[<-hN]at av k3⊢;obtain⟨E,hE⟩:=fb (mM l (L:Int));obtain⟨lo,bj⟩:=fb (pF l (L:Int));obtain⟨ol,aV⟩:=fb (ng l (L:Int));rw[<-hE,<-bj,<-aV];have aZ:=fa hE;have bz:=fa bj;have aT:=fa aV;have HN:=fa hN;have bA:=fa aY;have bB:=fa k4;have bC:=fa k5
  have a6:=fa aX;have bD:1<=L:=by omega
  have bl:L<=15:=by omega
  have cj:n<=N:=by rw[aY,hN];exact rR _ _
  obtain⟨Q,hQ⟩:=fb (2^L);have a8:Q<=2^15:=by rw[hQ];exact Nat.pow_le_pow_right (by decide) bl
  have ch:Q<=32768:=a8;have a1:((2:Int)^L)=(Q:Int):=by rw[hQ,Int.natCast_pow];rfl
  have ck:wrap64 ((2:Int)^L)=(Q:Int):=by rw[a1];unfold wrap64;omega
  have HQ:=fa hQ;clear hr hb hz hE bj aV hN aY k4 k5 aX _hc hn hQ a8 a1;by_cases a2:Q<n
  ·have bn:(Q:Int)<(n:Int):=by omega
   have b1:decide ((Q:Int)<(n:Int))=true:=decide_eq_true bn;go_enter func124,ntmps124
   go_wp2_with (first
    |(go_at_call 166;refine av.out.mono ?_;rintro e w1 ⟨rfl,rfl⟩)
    |(go_at_call 167;refine a6.out.mono ?_;rintro e w2 ⟨A1,c1,rfl,ad,ah⟩;have a3:=fa ad;have bE:=fa ah;clear ad ah))
   go_ret2;have he:E=4:=by rw[aZ.out,bC.out,if_pos (by rw[<-HQ.out];exact a2)]
   have aW:lo=0:=by rw[bz.out];unfold pF;rw[<-aZ.out,he,if_neg (by decide)]
   rw[he,aW,aT.out];exact⟨none,0,rfl,a3.out,⟨fun j=>uJ l _ j,fun h=>absurd h (by omega)⟩,by omega,by omega,fun _=>rfl,fun _ _ e=>by cases e⟩
  ·have bn:¬(Q:Int)<(n:Int):=by omega
   have b1:decide ((Q:Int)<(n:Int))=false:=decide_eq_false bn;have bF:n<=2^L:=by rw[<-HQ.out];omega
   have he:E=0:=by rw[aZ.out,bC.out,if_neg (by omega)]
   have aW:lo=N:=by rw[bz.out];unfold pF;rw[<-aZ.out,he,if_pos rfl,<-HN.out]
   have a9:∀j,ol j=iE (fy l) N L j:=fun j=>by rw[aT.out];unfold ng;rw[<-aZ.out,he,if_pos rfl,<-HN.out,Int.toNat_natCast]
   have bq:=fa a9;have b2:=fa bF
   subst he;subst aW;have cl:=Kr lo (by omega);clear a2 a9 bF;by_cases h2:2<=n
   ·have bG:((n:Int)==1)=false:=by simp;omega
    have a4:(1:Int)<(n:Int):=by omega
    have bf:decide ((1:Int)<(n:Int))=true:=decide_eq_true a4;have al:=fa (show n=nI (fy l) lo by rw[HN.out];exact bA.out);go_enter func124,ntmps124
    go_wp2_with (first
     |(go_at_call 166;refine av.out.mono ?_;rintro e w1 ⟨rfl,rfl⟩)
     |(go_at_call 167;refine a6.out.mono ?_;rintro e w2 ⟨A1,c1,rfl,ad,ah⟩;have a7:=fa (show aS w1.heap.size w1 (w2.alloc (ao (aK #[ae .u8 0] lo) 5))from ad.alloc ad.size _);have b3:=fa (((HR.out.below a7.out fe).more a7.out.size));have bE:=fa ((ah.below ((Below.refl w2.heap.size w2).alloc fe (ao (aK #[ae .u8 0] lo) 5)) fe).more (by simp:w2.heap.size<=(w2.alloc (ao (aK #[ae .u8 0] lo) 5)).heap.size));have bH:=fa (wM w2 lo);have aU:=ad.size;clear ad ah;have bI:=fa (QR _ A c l b3.out A1 c1 (Vc (fy l) lo) bE.out (fun j hj=>by have h:=qk (F:=fy l) (n:=lo) (r:=j) (by rw[<-oy];exact hj);have h2:=h.2.1;rw[HN.out]at h2⊢;exact h2) lo n HN.out (by rw[oy];exact al.out) (by omega) bB.out))
     |(go_at_call 170;refine bI.out.mono ?_;rintro e w3 ⟨A3,c3,rfl,bJ,bK,hA3,bL⟩;have br:=fa bJ;have b5:=fa bK;have b6:=fa hA3;have b7:=fa bL;clear bJ bK hA3 bL;have bM:=fa (Q7 w3 _ A3 c3 n (jt (fy l) lo) (fun t=>(((Vc (fy l) lo).getD t 0:Nat):Int)) b7.out br.out.size b5.out b6.out L bD bl h2 (by omega) (fun i hi=>by have h:=qk (F:=fy l) (n:=lo) (r:=i) (by rw[<-al.out];exact hi);have h2:=bB.out _ (by rw[<-HN.out];exact h.2.1);show(l.getD ((Vc (fy l) lo).getD i 0) 0).toNat<=_;omega)))
     |(go_at_call 169;refine bM.out.mono ?_;rintro e w4 ⟨A4,c4,rfl,bN,bO⟩;have bP:=fa bN;have b8:=fa bO;clear bN bO))
    have hT:(2*(n:Int)-2)=((2*n-2:Nat):Int):=by omega
    rw[hT];have b9:=br.out.size;have cm:=bP.out.size;have cn:(w2.alloc (ao (aK #[ae .u8 0] lo) 5)).heap.size=w2.heap.size+1:=by simp
    have b4:aS (w2.alloc (ao (aK #[ae .u8 0] lo) 5)).heap.size (w2.alloc (ao (aK #[ae .u8 0] lo) 5)) w4:=br.out.trans (bP.out.mono b9);have a5:jx w4 w2.heap.size lo (mK (fy l) lo (fun _=>0)):=(bH.out.below b4 (by omega)).ext (fun s _=>by unfold mK;split<;>rfl);have bg:=Ri w4 w2.heap.size lo lo (fy l) a5 (w2.alloc (ao (aK #[ae .u8 0] lo) 5)).heap.size A4 c4 n L al.out h2 bD bl b2.out (by omega) (by omega) b8.out (2*n-2) rfl;have bQ:=fa bg;clear bg a5 hT;refine bQ.out.mono ?_;rintro e w5 ⟨rfl,bR,bS⟩;have ca:=fa bR;have cb:=fa bS
    clear bR bS;go_wp2;go_ret2;have hr:=cb.out.ext (f':=ol) (fun j _=>(bq.out j).symm);exact⟨_,_,rfl,(a7.out.trans (b4.mono a7.out.size)).trans (ca.out.mono aU),hr.rd (fun j=>by rw[aT.out];exact uJ l _ j),Nat.le_refl _,by omega,(fun h=>by cases h),(fun _ _ e=>by injection e with e;injection e with e1;omega)⟩
   ·have al:=fa (show n=nI (fy l) lo by rw[HN.out];exact bA.out);by_cases h1:n=1
    ·have H1:=fa h1;have bG:((n:Int)==1)=true:=by simp;omega
     have a4:¬(1:Int)<(n:Int):=by omega
     have bf:decide ((1:Int)<(n:Int))=false:=decide_eq_false a4;have bT:0<n:=by omega
     have bU:=qk (F:=fy l) (n:=lo) (r:=0) (by have:=al.out;omega);obtain⟨s,hs⟩:=fb ((Vc (fy l) lo).getD 0 0);have cf:s<lo:=by rw[hs];exact bU.2.1
     have HS:=fa hs;clear hs bU h2 h1;go_enter func124,ntmps124
     go_wp2_with (first
      |(go_at_call 166;refine av.out.mono ?_;rintro e w1 ⟨rfl,rfl⟩)
      |(go_at_call 167;refine a6.out.mono ?_;rintro e w2 ⟨A1,c1,rfl,ad,ah⟩;have bV:=ah;obtain⟨b,o,rfl,cp,bW⟩:=bV.at (k:=0) (by have h:=al.out;rw[oS,oy,<-h];exact bT);have c0:=bW 0 (by have h:=al.out;rw[oS,oy,<-h];exact bT);rw[wK,<-HS.out,Nat.add_zero]at c0;have a3:=fa ad;have aU:=ad.size;have cg:=(wM w2 lo).cell cf;have cq:=(wM w2 lo).frozen s;clear bV bW ad ah))
     go_ret2;have hr:=(Ku w2 lo s).ext (f':=ol) (fun j hj=>by rw[bq.out j,HS.out];exact(Kt (al.out.symm.trans H1.out) hj).symm);exact⟨_,_,rfl,a3.out.alloc aU _,hr.rd (fun j=>by rw[aT.out];exact uJ l _ j),Nat.le_refl _,by omega,(fun h=>by cases h),(fun _ _ e=>by injection e with e;injection e with e1;omega)⟩
    ·have h0:n=0:=by omega
     have H0:=fa h0;have bG:((n:Int)==1)=false:=by simp;omega
     have a4:¬(1:Int)<(n:Int):=by omega
     have bf:decide ((1:Int)<(n:Int))=false:=decide_eq_false a4;clear h0 h1 h2;go_enter func124,ntmps124
     go_wp2_with (first
      |(go_at_call 166;refine av.out.mono ?_;rintro e w1 ⟨rfl,rfl⟩)
      |(go_at_call 167;refine a6.out.mono ?_;rintro e w2 ⟨A1,c1,rfl,ad,ah⟩;have a3:=fa ad;have aU:=ad.size;clear ad ah))
     go_ret2;have hr:=(wM w2 lo).ext (f':=ol) (fun j hj=>by rw[bq.out j];exact(Ks (al.out.symm.trans H0.out) hj).symm);exact⟨_,_,rfl,a3.out.alloc aU _,hr.rd (fun j=>by rw[aT.out];exact uJ l _ j),Nat.le_refl _,by omega,(fun h=>by cases h),(fun _ _ e=>by injection e with e;injection e with e1;omega)⟩
 ·have bt:=av.out;have bu:=Rk hz;have bx:mM l fh≠0:=by rw[bu];exact hz
  obtain⟨N,hN⟩:=fb (l.length);obtain⟨E,hE⟩:=fb (mM l fh);rw[<-bu,<-hE,<-hN]at bt;have aW:pF l fh=0:=by unfold pF;rw[if_neg bx]
  rw[aW,<-hE,<-hN];have aT:=fa (uJ l fh);obtain⟨ol,aV⟩:=fb (ng l fh);rw[<-aV]at aT⊢;have bX:E≠0:=by rw[hE];exact bx
  have cr:(E==0)=false:=by simpa using bX
  have HC:=fa bt;clear bt hr hb hz hE hN aV bu bx aW av HR b0 _hc hn bX;go_enter func124,ntmps124
  go_wp2_with (go_at_call 166;refine HC.out.mono ?_;rintro e w1 ⟨rfl,rfl⟩)
  go_ret2;exact⟨none,0,rfl,Below.refl _ _,⟨aT.out,fun h=>absurd h (by omega)⟩,by omega,by omega,fun _=>rfl,fun _ _ e=>by cases e⟩
open Go.ChangeShapes Go.WideShapes Go.ChangeAt Go.Joins
theorem ID(f:Nat->Nat)(least:Nat):∀n,n<=least->Vj f least n=least
 |0,_=>rfl
 |k+1,h=>by simp only[Vj];rw[if_neg (by omega)];exact ID f least k (by omega)
theorem BW(w:au)(A:Option aw)(n c:Nat)(f:Nat->Nat)(least:Nat)(hr:fB w w.heap.size A n f)(aU:n<=c)(hn:n<=1000)(hl:least<=n):
  ax prog 125 #[af A n c,ae ak (least:Int)] w fun e w'=>e=aq (af A (Vj f least n) c)/\w=w':=by
 have HR:=fa hr
 obtain⟨C,hC⟩:=fb (Vj f least n)
 rw[<-hC]
 have HC:=fa hC
 clear hr hC
 go_enter func125,ntmps125
 go_wp2_with fail
 go_loopw [5] (fun nv wr=>∃k:Nat,least<=k/\k<=n/\nv=ae ak (k:Int)/\aR (C=Vj f least k)/\w=wr) (fun nv _=>(aQ nv).toNat)
 case atStart=>exact⟨n,hl,Nat.le_refl _,rfl,HC,rfl⟩
 case round=>
  obtain⟨k,aV,aW,rfl,HK,rfl⟩:=hrel;by_cases h1:least<k
  ·have al:(least:Int)<(k:Int):=by omega
   obtain⟨b,o,rfl,hb,hc⟩:=HR.out.2 (by omega);obtain⟨j,rfl⟩:∃j,k=j+1:=⟨k-1,by omega⟩;have c1:=hc j (by omega);have hj:((j+1:Nat):Int)-1=(j:Int):=by omega
   have aX:(j:Int)<(n:Int):=by omega
   obtain⟨x,hx⟩:=fb (f j);have aY:x<256:=by rw[hx];exact HR.out.1 j
   rw[<-hx]at c1;have HX:=fa hx;clear hc hx;by_cases h2:x=0
   ·subst h2;have ad:C=Vj f least j:=by
     rw[HK.out];simp only[Vj];rw[if_neg (by rw[<-HX.out];omega)]
    have av:=fa ad;clear ad;go_wp2;go_roundw
    case rel=>exact⟨j,by omega,by omega,by go_num,av,trivial⟩
    case measure=>simp[aQ]
   ·have aZ:((x:Int)==0)=false:=by rw[beq_eq_false_iff_ne];omega
    have ad:C=j+1:=by
     rw[HK.out];simp only[Vj];rw[if_pos ⟨by omega,by rw[<-HX.out];exact h2⟩]
    subst ad;have aT:((j+1:Nat):Int)<=(c:Int):=by omega
    have ah:j+1<=c:=by omega
    go_wp2;go_ret;exact⟨rfl,rfl⟩
  ·obtain rfl:k=least:=by omega
   have al:¬(k:Int)<(k:Int):=by omega
   have ad:C=k:=by rw[HK.out];exact ID f k k fe
   subst ad;have aT:(C:Int)<=(c:Int):=by omega
   have ah:C<=c:=by omega
   go_wp2;go_ret;exact⟨rfl,rfl⟩
def Vb(T f:Nat->Nat):Nat->Nat
 |0=>0
 |i+1=>Vb T f i+T i*f i
theorem yq{T f:Nat->Nat}{M:Nat}(hT:∀i,T i<=M)(hf:∀i,f i<=256):∀n,Vb T f n<=n*(M*256)
 |0=>Nat.zero_le _
 |n+1=>by
  have h1:=yq hT hf n;have h2:=Nat.mul_le_mul (hT n) (hf n);show Vb T f n+T n*f n<=_
  rw[Nat.add_mul,Nat.one_mul];omega
def BX(w:au)(b o n:Nat)(T:Nat->Nat):Prop:=∀i,i<n->w.cell? ⟨b,o+i,none⟩=some (ae ak ((T i:Nat):Int))
theorem IE(w:au)(b o n c:Nat)(T:Nat->Nat)(A2:Option aw)(m c2:Nat)(f:Nat->Nat)(hT:BX w b o n T)(hb:b<w.heap.size)(al:∀i,T i<=1000001)(hn:n<=1000)(hr:fB w w.heap.size A2 m f)(k:Nat)(hk:k=min m n):
  ax prog 191 #[af (some ⟨b,o,none⟩) n c,af A2 m c2] w fun e w'=>e=aq (ae ak ((Vb T f k:Nat):Int))/\aS w.heap.size w w':=by
 have HT:=fa hT;have HR:=fa hr;have av:=fa al
 clear hT hr al
 rcases Nat.lt_or_ge m n with aY|aY
 case' inl=>(have ad:k=m:=by omega);clear hk;obtain rfl:=ad
 case' inr=>(have ad:k=n:=by omega);clear hk;obtain rfl:=ad
 all_goals(
  go_enter func191,ntmps191
  go_wp2_with fail
  go_loopw [5,12] (fun sv iv wr=>∃i:Nat,i<=k/\iv=ae ak (i:Int)/\sv=ae ak ((Vb T f i:Nat):Int)/\aR (aS w.heap.size w wr)) (fun _ iv _=>k-(aQ iv).toNat)
  case atStart=>exact⟨0,Nat.zero_le _,rfl,rfl,fa fz⟩
  case round=>
   obtain⟨i,hi,rfl,rfl,HB⟩:=hrel;by_cases a4:i<k
   ·have aT:(i:Int)<(k:Int):=by omega
    first|(have a2:(i:Int)<(n:Int):=by omega)|skip
    first|(have a3:(i:Int)<(m:Int):=by omega)|skip
    obtain⟨b2,o2,rfl,aZ,aU⟩:=HR.out.2 (by omega);have k1:wr.cell? ⟨b,o+i,none⟩=some (ae ak ((T i:Nat):Int)):=(HB.out.cell (p:=⟨b,o+i,none⟩) hb).trans (HT.out i (by omega));have k2:wr.cell? ⟨b2,o2+i,none⟩=some (ae .u8 ((f i:Nat):Int)):=(HB.out.cell (p:=⟨b2,o2+i,none⟩) aZ).trans (aU i (by omega));have aV:=yq av.out (fun j=>Nat.le_of_lt (HR.out.1 j)) i;have aW:=av.out i;have aX:=HR.out.1 i;have hp:=Nat.mul_le_mul aW (Nat.le_of_lt aX);have hS:Vb T f (i+1)=Vb T f i+T i*f i:=rfl;obtain⟨S,ah⟩:=fb (Vb T f i);obtain⟨x,hx⟩:=fb (T i);obtain⟨y,hy⟩:=fb (f i);rw[<-ah,<-hx,<-hy]at hS;rw[<-ah]at aV⊢;rw[<-hx]at k1 aW hp;rw[<-hy]at k2 aX hp;obtain⟨z,hz⟩:=fb (x*y);have a1:(x:Int)*(y:Int)=(z:Int):=by rw[hz,Int.natCast_mul]
    rw[<-hz]at hS hp;have a5:S<=256001000000:=by
     have:=Nat.mul_le_mul (show i<=1000 by omega) (Nat.le_refl (1000001*256));omega
    have HS:=fa hS;have a6:IntKind.i64.wrap ((x:Int)*(y:Int))=(z:Int):=by rw[a1,IntWalk.i64_in _ ⟨by omega,by omega⟩]
    clear hS aV ah hx hy hz aU;go_wp2;go_region;go_wp2;go_roundw
    case rel=>exact⟨i+1,by omega,by go_num,by rw[HS.out];go_num,fa HB.out.drew⟩
    case measure=>simp[aQ];omega
   ·obtain rfl:i=k:=by omega
    have aT:¬(i:Int)<(i:Int):=by omega
    go_wp2;go_ret;exact⟨rfl,HB.out⟩)
theorem Rm(T:Nat->Int){k:Nat}(hk:k<19)(w:au):(Instr.index 213 (ai (jk T 19)) (ae ak (k:Int))).run prog w=.ok (ae ak (T k)) w:=by
 have ad:prog.cellsOf 3=1:=by kernel_rfl
 have hg:=sb T 19 k hk;simp[Instr.index,run_underlying underlying213,asIntOf,go_sem];rw[if_pos hk,hg];rfl
theorem IF:(prog.info? 212).map (fun i=>(i.zero,i.size))=some (some (ai (ft 19 (fun _=>0)).toArray),19):=by kernel_rfl
theorem Rn(w:au)(A:Option aw)(c:Nat)(f:Nat->Nat)(hr:fB w w.heap.size A 19 f):
  ax prog 128 #[af A 19 c] w fun e w'=>e=aq (af (some ⟨w.heap.size,0,none⟩) (Vj (fun i=>f (gU i)) 4 19) 19)/\jO w' w.heap.size 19 (fun i=>f (gU i))/\aS w.heap.size w w':=by
 obtain⟨C,hC⟩:=fb (Vj (fun i=>f (gU i)) 4 19)
 rw[<-hC]
 have HC:=fa hC
 clear hC
 have hz:=(zero_of_info IF).1
 obtain⟨Z,hZ⟩:=fb ((ft 19 (fun _=>0)).toArray)
 rw[<-hZ]at hz
 obtain⟨h,hh⟩:=fb (w.heap.size)
 obtain⟨W1,al⟩:=fb (w.alloc (ao Z 212))
 have aV:aS h w W1:=by rw[al,hh];exact fz.alloc fe _
 have aW:jO W1 h 19 (fun _=>0):=⟨Z,212,by rw[al,hh];exact aH w _,fun j hj=>by rw[hZ,List.getElem?_toArray,lK,if_pos hj]⟩
 rw[<-hh]at hr⊢
 obtain⟨T,hT⟩:∃T:Nat->Int,T=fun i=>(gU i:Int):=⟨_,rfl⟩
 have ah:=Hp W1
 rw[<-hT]at ah
 have aX:=fa ah;have HR:=fa hr;have a6:=fa aV;have aY:=fa aW;have a7:=fa al;have HH:=fa hh;have HT:=fa hT
 clear ah hr aV aW al hh hT hZ
 go_enter func128,ntmps128
 go_wp2_with (first|rw[<-a7.out,<-HH.out]|fail)
 refine aX.out.mono ?_
 rintro e w2 ⟨rfl,aT⟩
 have av:=aY.out.lt
 have a8:=fa (a6.out.trans (aT.mono (by omega)));have a9:=fa (aY.out.below aT av)
 clear aT av
 go_wp2_with fail
 go_loopw [7] (fun iv wr=>∃i:Nat,i<=19/\iv=ae ak (i:Int)/\aR (jO wr h 19 (fun j=>if j<i then f (gU j)else 0))/\aR (aS h w wr)) (fun iv _=>19-(aQ iv).toNat)
 case atStart=>exact⟨0,by omega,rfl,fa (by simpa using a9.out),a8⟩
 case round=>
  obtain⟨i,hi,rfl,ad,HB⟩:=hrel;by_cases aZ:i<19
  ·have a1:(i:Int)<19:=by omega
   have a2:=fun u=>Rm T aZ u
   have a3:T i=((gU i:Nat):Int):=by rw[HT.out]
   rw[a3]at a2;have a4:=Ec i;obtain⟨q,hq⟩:=fb (gU i);rw[<-hq]at a2 a4;obtain⟨b,o,rfl,hb,hc⟩:=HR.out.2 (by omega);have k1:=(HB.out.cell (p:=⟨b,o+q,none⟩) hb).trans (hc q a4);have bf:=HR.out.1 q;obtain⟨x,hx⟩:=fb (f q);rw[<-hx]at k1 bf;have z1:=ad.out.frozen i;have c1:=ad.out.cell aZ;have bl:(q:Int)<19:=by omega
   have hs:=ad.out.set i x;have e:fK (fun j=>if j<i then f (gU j)else 0) i x=fun j=>if j<i+1 then f (gU j)else 0:=by
    funext j;unfold fK;by_cases h1:j=i
    ·rw[if_pos h1,if_pos (by omega),h1,hx,hq]
    ·rw[if_neg h1];show(if j<i then f (gU j)else 0)=_
     by_cases h2:j<i
     ·rw[if_pos h2,if_pos (by omega)]
     ·rw[if_neg h2,if_neg (by omega)]
   rw[e]at hs;have HS:=fa hs;have bn:h<wr.heap.size:=ad.out.lt;have hle:w.heap.size<=h:=by rw[HH.out];exact Nat.le_refl _
   clear hs e hx hq a3 hc;go_wp2;go_roundw
   case rel=>exact⟨i+1,by omega,by go_num,HS,fa (HB.out.setCell fe _)⟩
   case measure=>simp[aQ];omega
  ·obtain rfl:i=19:=by omega
   have a1:¬((19:Nat):Int)<19:=by omega
   have a5:fB wr wr.heap.size (some ⟨h,0,none⟩) 19 (fun i=>f (gU i)):=⟨fun j=>HR.out.1 _,fun _=>⟨h,0,rfl,ad.out.lt,fun j hj=>by rw[Nat.zero_add,ad.out.cell hj,if_pos hj]⟩⟩;have aU:=BW wr (some ⟨h,0,none⟩) 19 19 (fun i=>f (gU i)) 4 a5 fe (by omega) (by omega);rw[<-HC.out]at aU;have bg:=fa aU;have bj:aR (jO wr h 19 (fun i=>f (gU i))):=by
    obtain⟨cur,t,h1,h2⟩:=ad.out;exact fa ⟨cur,t,h1,fun j hj=>by rw[h2 j hj];show some (Value.int .u8 (((if j<19 then f (gU j)else 0:Nat)):Int))=_;rw[if_pos hj]⟩
   clear aU a5;go_wp2_with fail
   refine bg.out.mono ?_;rintro e w3 ⟨rfl,rfl⟩;go_wp2;go_ret;exact⟨rfl,bj.out,HB.out⟩
theorem IG(g:Nat->Nat)(L:Nat)(s:Rz):∀i j,ky g L s i j<256
 |0,_=>by unfold ky jE;omega
 |i+1,j=>by
  unfold ky fK;split
  ·have:=mF g L 3 (shS L s i);have e:(2:Nat)^3=8:=rfl;omega
  ·exact IG g L s i j
theorem II:(prog.info? 213).map (fun i=>(i.zero,i.size))=some (some (ai (jk (fun _=>0) 19)),19):=by kernel_rfl
theorem Ro{Y:Array ay}(h:Y.size=19):(prog.info? 213).map (·.size)=some Y.size:=by rw[h];exact(zero_of_info II).2
def Rp(a b:Nat):Nat->Prop:=fun k=>k=a\/k=b
theorem BZ(w:au)(p:Nat)(A:Option aw)(l c:Nat)(g:Nat->Nat)(s:Rz)(h:fx w p A l c s)(S:Nat->Prop)(hS:S p)(bq:∀j,S j->j<w.heap.size)(hg:jN S w A l g)(hl:l<=1000000)(hs:s.1<=8*l)(n:Nat)(hn:n<=19):
  ax prog 97 #[ag (some ⟨p,0,none⟩),ae ak (n:Int)] w fun e w'=>∃u,e=aq (ai (fJ (ib (ky g l s n) 19 7) u))/\
   fx w' p A l c (ig (hH (ky g l s n) 19 7 (shS l s n)) (decide (2<=(((gZ (ky g l s n) 19 7).length:Nat):Int))) 132)/\iz w' w.heap.size u (gZ (ky g l s n) 19 7)/\Fr (At p) w w':=by
 have hp:=h.lt
 obtain⟨k,hk⟩:=fb (w.heap.size)
 obtain⟨Z,hZ⟩:=fb (fJ (fun _=>0) (af none 0 0))
 obtain⟨Z2,a3⟩:=fb ((ft 19 (fun _=>0)).toArray)
 obtain⟨Z3,a4⟩:=fb (jk (fun _=>0) 19)
 obtain⟨W1,av⟩:=fb ((w.alloc (ao Z 26)).alloc (ao Z2 212))
 have a5:aS k w W1:=by rw[av,hk];exact(fz.alloc fe _).alloc (by simp) _
 have br:W1.heap.size=k+2:=by rw[av,hk];simp
 have z1:fg W1 k Z 26:=by rw[av,hk];exact(fg.new w _ _).old _
 have y1:fg W1 (k+1) Z2 212:=by rw[av,hk];have:=fg.new (w.alloc (ao Z 26)) Z2 212;rwa[World.size_alloc]at this
 have bt:jO W1 (k+1) 19 (ky g l s 0):=⟨Z2,212,y1,fun j hj=>by rw[a3,List.getElem?_toArray,lK,if_pos hj];rfl⟩
 have h1:fx W1 p A l c s:=fg.below h a5 (by omega)
 have fW:∀T:Nat->Prop,Fr T w W1:=fun T=>Fr.of (hk▸a5)
 have cw:∀u:au,(zeroValue 26).run prog u=.ok (ai Z) u:=by rw[hZ];exact(zero_of_info xZ).1
 have cx:∀u:au,(zeroValue 212).run prog u=.ok (ai Z2) u:=by rw[a3];exact(zero_of_info IF).1
 have cy:∀u:au,(zeroValue 213).run prog u=.ok (ai Z3) u:=by rw[a4];exact(zero_of_info II).1
 have bu:aR (Z.size=17):=fa (by rw[hZ,jl])
 have bx:aR (Z3.size=19):=fa (by rw[a4,pL])
 obtain⟨T,hT⟩:∃T:Nat->Int,T=fun i=>(gU i:Int):=⟨_,rfl⟩
 have al:=Hp W1
 rw[<-hT]at al
 obtain⟨Y,hY⟩:=fb (jk T 19)
 rw[<-hY]at al
 have bz:aR (Y.size=19):=fa (by rw[hY,pL])
 have b2:aR (Y.all (·.oneCell')=true):=fa (by rw[hY];exact all_oneCell_toArray fun x hx=>by unfold tz at hx;obtain⟨i,_,rfl⟩:=List.mem_map.1 hx;rfl)
 have b3:aR (∀i,i<19->Y[i]?=some (ae ak ((gU i:Nat):Int))):=fa fun i hi=>by rw[hY,sb T 19 i hi,hT]
 have bA:=fa al;have b4:=fa av;have HK:=fa hk;have b5:=fa br;have a6:=fa z1;have a7:=fa bt;have a8:=fa h1;have b6:=fa hg;have bB:=fa (fW (At p))
 have HP:aR (p<k):=fa (by omega)
 have bC:aR (S p/\∀j,S j->j<k):=fa ⟨hS,by rw[hk];exact bq⟩
 clear h hg hZ a3 a4 av hk a5 br z1 y1 bt h1 fW hT al hY hp hS bq
 go_enter func97,ntmps97
 go_wp2_with (first|(rw[<-b4.out,<-HK.out])|fail)
 refine bA.out.mono ?_
 rintro e w2 ⟨rfl,aV⟩
 obtain⟨o,ho⟩:=fb (w2.heap.size)
 obtain⟨W3,aW⟩:=fb (gi w2 Z3 Y 213)
 have bD:aS w2.heap.size w2 W3:=by rw[aW];exact km _ _ _ _
 have y3:fg W3 o Y 213:=by rw[aW,ho];exact kO w2 Z3 Y _
 have bE:k+2<=o:=by have:=aV.size;rw[b5.out]at this;rw[ho];exact this
 have ad:aS W1.heap.size W1 W3:=aV.trans (bD.mono aV.size)
 have b7:=fa (fg.below a8.out ad a8.out.lt:fx W3 p A l c s)
 have b8:=fa (a7.out.below ad a7.out.lt)
 have b9:=fa (a6.out.below ad a6.out.lt)
 have bF:=fa (bB.out.on ad)
 have ca:aR (o<W3.heap.size):=fa y3.lt
 have cb:=fa aW;have HO:=fa ho;have cf:=fa y3;have bG:=fa bE
 clear aV aW ho bD y3 bE ad a8 a7 a6 bB
 have cz:(n:Int)<=19:=by omega
 go_wp2_with (first
  |(refine aD rfl _ _ _ rfl rfl w2.heap.size Y rfl rfl 213 Z3 (aH w2 _) (Ro bz.out) (by rw[bx.out,bz.out]) b2.out ?_;change wpList _ _ _ _ _ (gi w2 Z3 Y 213);rw[<-cb.out,<-HO.out])
  |fail)
 go_loopw [14] (fun iv wr=>∃i:Nat,i<=n/\iv=ae ak (i:Int)/\aR (jO wr (k+1) 19 (ky g l s i))/\aR (fx wr p A l c (shS l s i))/\aR (Fr (Rp p (k+1)) W3 wr)) (fun iv _=>n-(aQ iv).toNat)
 case atStart=>exact⟨0,by omega,rfl,b8,b7,fa (Fr.refl _ _)⟩
 case round=>
  obtain⟨i,hi,rfl,aX,a9,ah⟩:=hrel;have bH:=fa (cf.out.fr ah.out (by have:=bG.out;have:=HP.out;show¬(o=p\/o=k+1);omega));by_cases cA:i<n
  ·have bI:(i:Int)<(n:Int):=by omega
   have k1:=bH.out.cell (i:=i);rw[b3.out i (by omega)]at k1;have bJ:=Ec i;have aY:ky g l s (i+1)=fK (ky g l s i) (gU i) (fT g l 3 (shS l s i)):=rfl;have bK:shS l s (i+1)=fR l 3 (shS l s i):=rfl;obtain⟨q,hq⟩:=fb (gU i);rw[<-hq]at k1 bJ aY;obtain⟨x,hx⟩:=fb (fT g l 3 (shS l s i));rw[<-hx]at aY;have cB:x<8:=by rw[hx];exact mF _ _ _ _
   have bL:=(b6.out.fr ((bF.out.mono fun j (e:j=p)=>e▸bC.out.1).from ah.out fun j e=>by rcases e with e|e;exact .inl (e▸bC.out.1);exact .inr (by rw[<-HK.out];omega))).1;have HT:=fa (qw wr p A l c g _ a9.out bL hl (An hs i) 3 3 rfl (by omega));rw[<-hx,<-bK]at HT;have cC:(q:Int)<19:=by omega
   have cg:=fa aY;clear bL hx hq bK aY;go_wp2_with fail
   refine HT.out.mono ?_;rintro e w5 ⟨rfl,r5,f5⟩;have bM:¬At p (k+1):=by have:=HP.out;show¬k+1=p;omega
   have aZ:jO w5 (k+1) 19 (ky g l s i):=by obtain⟨cur,t,e,hc⟩:=aX.out;exact⟨cur,t,(f5.block _ aX.out.lt bM).trans e,hc⟩
   have z1:=aZ.frozen q;have c1:=aZ.cell bJ;have bf:=aZ.set q x;rw[<-cg.out]at bf;have ch:=fa bf;have cj:=fa r5;have ck:=fa (ah.out.trans (f5.mono fun j e=>.inl e));clear bf r5 f5 aZ bM HT;go_wp2;go_roundw
   case rel=>exact⟨i+1,by omega,by go_num,ch,fa (fg.other cj.out (by have:=HP.out;show p≠k+1;omega) _),fa (ck.out.trans ((Fr.cell _ _ _ _).mono fun j e=>.inr e))⟩
   case measure=>simp[aQ];omega
  ·obtain rfl:i=n:=by omega
   have bI:¬(i:Int)<(i:Int):=by omega
   have bg:=qA wr p A l c _ a9.out (some ⟨k+1,0,none⟩) 19 19 (ky g l s i) (aX.out.rd (IG g l s i)) (by omega) 7;obtain⟨F,hF⟩:=fb (ky g l s i);obtain⟨q,hq⟩:=fb (shS l s i);rw[<-hF,<-hq]at bg;have bN:=fa bg;have bj:=fa hF;have HQ:=fa hq
   have bl:=fa (b9.out.fr ah.out (by have:=HP.out;show¬(k=p\/k=k+1);omega));have bO:=fa (bF.out.from ah.out fun j e=>by rcases e with e|e;exact .inl e;exact .inr (by rw[<-HK.out];omega):Fr (At p) w wr);have bP:aR (k+2<=wr.heap.size):=fa (by have:=ah.out.size;have:=bG.out;have:=ca.out;omega);clear bg hF hq aX a9 ah bH;go_wp2_with fail
   refine bN.out.mono ?_;rintro e w5 ⟨u,rfl,r5,o5,f5⟩;obtain⟨X,hX⟩:=fb (fJ (ib F 19 7) u);rw[<-hX];have aT:aR (X.size=17):=fa (by rw[hX,jl]);have bQ:aR (X.all (·.oneCell')=true):=fa (by rw[hX];exact l7 _ _ o5.one);obtain⟨A2,cap,hu,_,_,bR,cl⟩:=o5.rd;obtain⟨m,hm⟩:=fb ((gZ F 19 7).length);rw[<-hm]at hu bR;have a2:X[16]?=some (af A2 m cap):=by rw[hX,hu];rfl
   obtain⟨t,ht⟩:=fb (w5.heap.size);obtain⟨W6,a1⟩:=fb (gi w5 Z X 26);have aU:aS w5.heap.size w5 W6:=by rw[a1];exact km _ _ _ _
   have x6:fg W6 t X 26:=by rw[a1,ht];exact kO w5 Z X _
   have bn:=x6.cell (i:=16);rw[a2]at bn;have bS:k+2<=t:=by have:=f5.size;have:=bP.out;omega
   have bT:=fa (fg.below r5 aU r5.lt:fx W6 p A l c (hH F 19 7 q));have bU:aR (iz W6 wr.heap.size u (gZ F 19 7)):=fa (mS o5 aU);have bV:=fa ((bl.out.fr f5 (by have:=HP.out;show¬k=p;omega)).below aU (by omega));have bW:=fa ((bO.out.trans f5).on aU);have bX:=fa (nE W6 p A l c _ bT.out (decide (2<=(m:Int))) 132);have cm:=fa a1;have cn:=fa ht;have bY:=fa x6;have cp:=fa hX;have cq:=fa bS;have HM:=fa hm
   clear r5 o5 f5 hX hu a2 ht a1 aU x6 bS bN bO bP bR cl hm;go_wp2_with (first
    |(refine aD rfl _ _ _ rfl rfl w5.heap.size X rfl rfl 26 Z (aH w5 _) (jT aT.out) (by rw[bu.out,aT.out]) bQ.out ?_;change wpList _ _ _ _ _ (gi w5 Z X 26);rw[<-cm.out,<-cn.out])
    |fail)
   refine bX.out.mono ?_;rintro e w7 ⟨rfl,r7,f7⟩;have cr:=fa (bY.out.fr f7 (by have:=HP.out;have:=cq.out;show¬t=p;omega));have bZ:=fa (bV.out.fr f7 (by have:=HP.out;show¬k=p;omega));have b0:k+1<=wr.heap.size:=by have:=bl.out.lt;omega
   have b1:=fa (bU.out.fr f7 (fun j (e:j=p)=>by have:=HP.out;omega));have ct:=fa r7;have cu:=fa (bW.out.trans f7)
   clear r7 f7 bX bT bW bU bY bV b0;go_wp2_with (first
    |(refine aF rfl _ _ rfl t rfl _ X (0,0) _ cr.out underlying26 rfl (jT aT.out) ?_)
    |(refine aD rfl _ _ _ rfl rfl k X rfl rfl 26 Z bZ.out (jT aT.out) (by rw[bu.out,aT.out]) bQ.out ?_)
    |fail)
   have cv:p≠k:=by have:=HP.out;omega
   have b0:k+1<=wr.heap.size:=by have:=bl.out.lt;omega
   refine bodyPost_ret (v:=ai X) (results_cell_row rfl _ _ k _ _ (0,0) _ rfl (setRow_heap _ _ _ _ _ _ bZ.out) underlying26 rfl (jT aT.out)) rfl ⟨u,by rw[cp.out,bj.out],?_,?_,?_⟩
   ·rw[<-bj.out,<-HQ.out,<-HM.out];exact fg.gV ct.out cv _
   ·rw[<-HK.out,<-bj.out];exact lZ (iB b1.out fun j hj=>setRow_other _ _ _ _ (by have:=(gP b1.out j hj).1;omega)) (by omega)
   ·exact cu.out.from (Fr.row w7 k X) fun j hj=>.inr (by rw[<-HK.out];exact Nat.le_of_eq hj.symm)
theorem rF{F g:Nat->Nat}{L n:Nat}:∀{k made:Nat} {l:List (Int×Int)} {s:Rz},¬(made<n/\s.2=0)->lnS F g L n k made l s=(l,s)
 |0,_,_,_,_=>rfl
 |k+1,_,_,_,h=>by unfold lnS;rw[if_neg h]
theorem Ca{F g:Nat->Nat}{L n k made:Nat}{l:List (Int×Int)}{s:Rz}(h:made<n/\s.2=0):lnS F g L n (k+1) made l s=lnS F g L n k (made+pR F g L s) (l++[((iV F g L s:Int),(mY F g L s:Int))]) (mZ F g L n made s):=by
 rw[lnS,if_pos h]
theorem Cb{y x:Nat}(hx:x<128):1<=gM (y:Int) (x:Int)/\gM (y:Int) (x:Int)<=138:=by
 unfold gM;split
 ·omega
 ·split<;>omega
theorem IJ(F g:Nat->Nat)(L:Nat)(s:Rz):mY F g L s<128:=by
 have h:=mF g L (fI (iV F g L s:Int)) (mX F g L s);have h2:(2:Nat)^(fI (iV F g L s:Int))<=2^7:=Nat.pow_le_pow_right (by omega) (xS _);have h3:(2:Nat)^7=128:=rfl;have h4:mY F g L s=fT g L (fI (iV F g L s:Int)) (mX F g L s):=rfl;omega
theorem Rq{F g:Nat->Nat}{L:Nat}{s:Rz}(h:s.1<=8*L):(o8 F g L s).1<=8*L:=ld (rr h)
theorem Cc{F g:Nat->Nat}{L n made:Nat}{s:Rz}(h:s.1<=8*L):(mZ F g L n made s).1<=8*L:=by unfold mZ;rw[nX,nX];exact Rq h
def Cd(p B:Nat):Nat->Prop:=fun j=>j=p\/B<=j
theorem pz{S:Nat->Prop}{w w':au}{base sz n:Nat}{e:aC}{v:ay}{xs:List ay}(h:w.ownsRow base e sz v n xs)(k:Fr S w w')(hS:∀j,S j->j<base):w'.ownsRow base e sz v n xs:=
 iB h fun j hj=>k.block j (gP h j hj).2 fun hs=>by have:=hS j hs;have:=(gP h j hj).1;omega
theorem Fr.up{w w':au}{p B:Nat}(h:aS B w w'):Fr (Cd p B) w w':=⟨h.os,h.tape,h.output,h.size,fun k _ hk=>h.block k (by rcases Nat.lt_or_ge k B with x|x;exact x;exact absurd (.inr x) hk)⟩
theorem VM(w:au)(p:Nat)(A:Option aw)(l c:Nat)(g:Nat->Nat)(s:Rz)(h:fx w p A l c s)(S:Nat->Prop)(hS:S p)(cm:∀j,S j->j<w.heap.size)(hg:jN S w A l g)(hl:l<=1000000)(hs:s.1<=8*l)(F:Nat->Nat)(ct:Nat->Int)(u:ay)(hu:u.oneCell'=true)(ht:s.2=0->pd S w F ct u)(n:Nat)(hn:n<=400):
  ax prog 96 #[ag (some ⟨p,0,none⟩),ai (fJ ct u),ae ak (n:Int)] w fun e w'=>∃A' n' c',e=aq (af A' n' c')/\n'=(nh (lnS F g l n n 0 [] s).1 (n:Int)).2.length/\
   fq w' w'.heap.size A' n' c' (fc (nh (lnS F g l n n 0 [] s).1 (n:Int)).2)/\iT w' w.heap.size A' n'/\fx w' p A l c (lnS F g l n n 0 [] s).2/\Fr (At p) w w':=by
 have hp:=h.lt
 obtain⟨k,hk⟩:=fb (w.heap.size)
 obtain⟨T,hT⟩:=fb (fJ ct u)
 rw[<-hT]
 obtain⟨R,hR⟩:=fb (lnS F g l n n 0 [] s)
 rw[<-hR]
 obtain⟨W1,br⟩:=fb (w.alloc (ao T 26))
 have bR:aS k w W1:=by rw[br,hk];exact fz.alloc fe _
 have cn:W1.heap.size=k+1:=by rw[br,hk];simp
 have t1:fg W1 k T 26:=by rw[br,hk];exact fg.new w _ _
 have fW:∀T:Nat->Prop,Fr T w W1:=fun T=>Fr.of (hk▸bR)
 have h1:fx W1 p A l c s:=fg.below h bR (by omega)
 have cA:aR (T.size=17):=fa (by rw[hT,jl])
 have HR:=fa hR.symm;have cB:=fa br;have HK:=fa hk;have bE:=fa cn;have cC:=fa t1;have cD:=fa h1;have cE:=fa hg;have cH:=fa ht;have cI:=fa (fW (At p));have cJ:=fa hT
 have HP:aR (p<k):=fa (by omega)
 have bS:aR (S p/\∀j,S j->j<k):=fa ⟨hS,by rw[hk];exact cm⟩
 have cK:=fa hs;have HU:=fa hu
 clear h hg hT hR br hk bR cn t1 h1 fW hp hS cm hs ht hu
 go_enter func96,ntmps96
 go_wp2_with (first|(rw[<-cB.out,<-HK.out])|fail)
 go_loopw [7,8] (fun lv mv wr=>∃(made m:Nat) (Al:Option aw) (cl:Nat) (pre:List (Int×Int)) (q:Rz) (fu:Nat),made<=n+200/\m<=made/\lv=af Al m cl/\mv=ae ak (made:Int)/\aR (lnS F g l n fu made pre q=R/\n<=fu+made)/\
  aR (wr.ownsRow (k+1) 208 2 (af Al m cl) m (Vk pre))/\aR (fx wr p A l c q)/\aR (q.1<=8*l/\(q.2=0->s.2=0))/\aR (Fr (Cd p (k+1)) W1 wr)) (fun _ mv wr=>match wr.cell? ⟨p,2,none⟩with|some (ae ak e)=>if e=0 then(n+300)-(aQ mv).toNat else 0|_=>0)
 case atStart=>exact⟨0,0,none,0,[],s,n,by omega,by omega,rfl,rfl,fa ⟨HR.out,by omega⟩,fa (World.ownsRow_nil _ _ _ 2),cD,fa ⟨cK.out,id⟩,fa (Fr.refl _ _)⟩
 case round=>
  obtain⟨made,m,Al,cl,pre,q,fu,cL,cR,rfl,rfl,HL,HO,HD,HQ,HF⟩:=hrel;have k2:=HD.out.e;have bt:=fun(hx:¬(made<n/\q.2=0))=>(rF (F:=F) (g:=g) (L:=l) (k:=fu) (l:=pre) hx).symm.trans HL.out.1
  have bT:aR (Fr (At p) w wr):=fa (cI.out.from HF.out fun j e=>by rcases e with e|e;exact .inl e;exact .inr (by rw[<-HK.out];omega));by_cases bu:made<n/\q.2=0
  ·obtain⟨qa,qe⟩:=q;obtain⟨bU,rfl⟩:made<n/\qe=0:=bu;have bP:(made:Int)<(n:Int):=by omega
   obtain⟨bF,rfl⟩:∃f,fu=f+1:=⟨fu-1,by have:=HL.out.2;omega⟩;have bG:=(Ca (F:=F) (g:=g) (L:=l) (k:=bF) (l:=pre) (s:=(qa,0)) ⟨bU,rfl⟩).symm.trans HL.out.1;have bV:=HQ.out.2 rfl;have cp:=fa (cE.out.fr (bT.out.mono fun j (e:j=p)=>e▸bS.out.1));have bH:=PN wr p A l c g (qa,0) HD.out S bS.out.1 cp.out hl HQ.out.1 F ct u HU.out (fun _=>(cH.out bV).fr (bT.out.mono fun j (e:j=p)=>e▸bS.out.1));rw[<-cJ.out]at bH;have bW:=IJ F g l (qa,0);have cM:iV F g l (qa,0)<320:=MO HQ.out.1 (by omega);have bI:mZ F g l n made (qa,0)=ig (ig (o8 F g l (qa,0)) (decide (0<made\/iV F g l (qa,0)≠16)) 132) (decide (made+pR F g l (qa,0)<=n)) 132:=rfl;have bX:(mZ F g l n made (qa,0)).1<=8*l:=Cc HQ.out.1;have bJ:pR F g l (qa,0)=gM (iV F g l (qa,0):Int) (mY F g l (qa,0):Int):=rfl;obtain⟨y,hy⟩:=fb (iV F g l (qa,0));obtain⟨x,hx⟩:=fb (mY F g l (qa,0));obtain⟨q2,bY⟩:=fb (o8 F g l (qa,0));obtain⟨q3,bK⟩:=fb (mZ F g l n made (qa,0));obtain⟨tt,bL⟩:=fb (pR F g l (qa,0));rw[<-hy,<-hx,<-bY]at bH;rw[<-hy,<-bL,<-bY,<-bK]at bI;rw[<-hx]at bW;rw[<-hy]at cM;rw[<-bL,<-hy,<-hx]at bJ;rw[<-hy,<-hx,<-bK,<-bL]at bG;rw[<-bK]at bX;have bZ:=Cb (y:=y) bW;rw[<-bJ]at bZ;obtain⟨md,b0⟩:=fb (made+tt);have cQ:(made:Int)+(tt:Int)=(md:Int):=by omega
   rw[<-b0]at bG bI;have b1:=fun V=>PJ V y x (by omega) (by omega)
   rw[<-bJ]at b1;have cq:=fa bH;have b2:=fa bG;have b3:=fa bI;have bj:=fa b1;have b4:=fa bX;have cr:=fa bZ;have cu:=fa b0;have b5:=fa bV
   have cN:aR ((0<made/\decide (0<made\/y≠16)=true)\/(made=0/\y=16/\decide (0<made\/y≠16)=false)\/(made=0/\¬y=16/\decide (0<made\/y≠16)=true)):=fa (by
    rcases Nat.eq_zero_or_pos made with z|z
    ·by_cases y6:y=16
     ·exact .inr (.inl ⟨z,y6,decide_eq_false (by omega)⟩)
     ·exact .inr (.inr ⟨z,y6,decide_eq_true (.inr y6)⟩)
    ·exact .inl ⟨z,decide_eq_true (.inl z)⟩)
   have b6:=fa HL.out.2;have b7:=fa k2
   clear bH bW bI bG bX bJ bZ b0 b1 hy hx bY bK bL bt HQ HL bV cp;have bx:md<=n+200:=by have:=cr.out;have:=cu.out;omega
   have cz:made<md:=by have:=cr.out;have:=cu.out;omega
   go_wp2_with (first
    |(refine aF rfl _ _ rfl k rfl _ T (0,0) _ (cC.out.fr HF.out (by have:=HP.out;show¬(k=p\/k+1<=k);omega)) underlying26 rfl (jT cA.out) ?_)
    |fail)
   refine cq.out.mono ?_;rintro e w2 ⟨rfl,r2,f2⟩;obtain⟨Y,hY⟩:∃Y:Array ay,Y=#[ae ak (y:Int),ae ak (x:Int)]:=⟨_,rfl⟩;have aV:aR (Y.size=2):=fa (by rw[hY];rfl);have b8:aR (Y.all (·.oneCell')=true):=fa (by rw[hY];simp[Value.oneCell']);obtain⟨t,ht⟩:=fb (w2.heap.size);obtain⟨W3,bM⟩:=fb (gi w2 #[ae ak 0,ae ak 0] Y 208);have bN:aS w2.heap.size w2 W3:=by rw[bM];exact km _ _ _ _
   have y3:fg W3 t Y 208:=by rw[bM,ht];exact kO w2 _ Y _
   have c3:W3.cell? ⟨t,0,none⟩=some (ae ak (y:Int)):=by rw[y3.cell,hY];rfl
   have cO:k+1<=wr.heap.size:=by have:=HF.out.size;rw[bE.out]at this;exact this
   have cv:k+1<=t:=by have:=f2.size;omega
   have cP:=fa (fg.below r2 bN r2.lt:fx W3 p A l c q2);have b9:=fa (HF.out.trans ((f2.mono fun j e=>.inl e).on bN):Fr (Cd p (k+1)) W1 W3);have ca:aR (W3.ownsRow (k+1) 208 2 (af Al m cl) m (Vk pre)):=fa (uV (pz HO.out f2 (fun j (e:j=p)=>by have:=HP.out;omega)) bN);have cS:aR (∀cs:Array ay,W3.heap[t]?=some (ao cs 208 (0,0))->(Value.slice Al m cl).ownBlock≠some t):=fa fun cs _ e=>by have:=(gP (pz HO.out f2 (fun j (e:j=p)=>by have:=HP.out;omega)) t e).2;omega
   have cb:=fa bM;have HT:=fa ht;have cf:=fa y3;have cg:=fa hY;have bl:=fa cv
   have bn:=fa fun b=>nE W3 p A l c q2 cP.out b 132
   clear r2 f2 hY ht bM bN y3 cO cv cq HO HF HD k2;rcases cN.out with⟨z,bz⟩|⟨z,z6,bz⟩|⟨z,z6,bz⟩
   ·have d1:decide ((0:Int)<(made:Int))=true:=kP (by omega);have cw:decide (0<made)=true:=kc z;have aW:=cg;clear z;go_wp2_with (first
     |(rw[<-aW.out];refine aD rfl _ _ _ rfl rfl w2.heap.size Y rfl rfl 208 #[ae ak 0,ae ak 0] (aH w2 _) (pv aV.out) (by rw[aV.out];rfl) b8.out ?_;change wpList _ _ _ _ _ (gi w2 #[ae ak 0,ae ak 0] Y 208);rw[<-cb.out,<-HT.out])
     |fail)
    refine(bn.out _).mono ?_;rintro e w4 ⟨rfl,r4,f4⟩;rw[<-bz]at r4;have aX:=fa r4;have a1:=fa (b9.out.trans (f4.mono fun j e=>.inl e))
    have a2:aR (w4.ownsRow (k+1) 208 2 (af Al m cl) m (Vk pre)):=fa (pz ca.out f4 (fun j (e:j=p)=>by have:=HP.out;omega));have ah:=fa (cf.out.fr f4 (by have:=HP.out;have:=bl.out;show¬t=p;omega));have al:=fa (bj.out w4);clear r4 f4 bn bj;go_wp2_with (first
     |(refine aF rfl _ _ rfl t rfl _ Y (0,0) _ ah.out underlying208 rfl (pv aV.out) ?_;rw[aW.out])
     |fail)
    refine al.out.mono ?_;rintro e w5 ⟨rfl,ad⟩;have a3:=fa (fg.below aX.out ad aX.out.lt:fx w5 p A l c _);have a4:=fa (a1.out.on ad);have a5:aR (w5.ownsRow (k+1) 208 2 (af Al m cl) m (Vk pre)):=fa (uV a2.out ad);have a6:=fa (ah.out.below ad ah.out.lt);have aY:=fa (nE w5 p A l c _ a3.out (decide (md<=n)) 132);rw[<-b3.out]at aY;clear ad al aX a1 a2 ah;go_wp2_with fail
    refine aY.out.mono ?_;rintro e w6 ⟨rfl,r6,f6⟩;have a7:=fa r6;have a8:=fa (a4.out.trans (f6.mono fun j e=>.inl e))
    have bA:aR (w6.ownsRow (k+1) 208 2 (af Al m cl) m (Vk pre)):=fa (pz a5.out f6 (fun j (e:j=p)=>by have:=HP.out;omega));have bB:=fa (a6.out.fr f6 (by have:=HP.out;have:=bl.out;show¬t=p;omega));have av:k+1<=w6.heap.size:=by have:=a8.out.size;rw[bE.out]at this;exact this
    obtain⟨A',c',w7,aT,aU,a9⟩:=xe w6 (k+1) Al m cl pre bA.out ((y:Int),(x:Int)) (by omega) av;have bf:=fa aT;have bg:=fa aU;have aZ:=fa a9
    clear r6 f6 aY aT aU a9 av a5 a6 a3 a4;go_wp2_with (first
     |(refine aF rfl _ _ rfl t rfl _ Y (0,0) _ bB.out underlying208 rfl (pv aV.out) ?_;rw[aW.out])
     |(at_builtin;refine wpList_append_run rfl (.tmp 43) (.tmp 45) 195 rfl (af Al m cl) (af (some ⟨w6.heap.size,0,none⟩) 1 1) (af A' (m+1) c') w7 rfl rfl bf.out ?_))
    have h2:w7.cell? ⟨p,2,none⟩=some (ae ak q3.2):=fx.e (fg.below a7.out aZ.out (by have:=HP.out;omega):fx w7 p A l c q3);go_roundw
    case rel=>exact⟨md,m+1,A',c',pre++[((y:Int),(x:Int))],q3,bF,bx,by omega,rfl,by go_num,fa ⟨b2.out,by have:=b6.out;omega⟩,bg,fa (fg.below a7.out aZ.out (by have:=HP.out;omega)),fa ⟨b4.out,fun _=>b5.out⟩,fa (a8.out.trans (Fr.up aZ.out))⟩
    case measure=>
     rw[h2,b7.out];show(if q3.2=0 then n+300-(md:Int).toNat else 0)<(if(0:Int)=0 then n+300-(made:Int).toNat else 0)
     rw[if_pos rfl];split<;>omega
   ·have d1:decide ((0:Int)<(made:Int))=false:=lq (by omega);have cw:decide (0<made)=false:=jd (by omega);have d2:((y:Int)==16)=true:=by rw[z6];rfl
    have d3:((y:Int) !=16)=false:=by simp[bne,d2]
    have aW:=cg;clear z6 z;go_wp2_with (first
     |(rw[<-aW.out];refine aD rfl _ _ _ rfl rfl w2.heap.size Y rfl rfl 208 #[ae ak 0,ae ak 0] (aH w2 _) (pv aV.out) (by rw[aV.out];rfl) b8.out ?_;change wpList _ _ _ _ _ (gi w2 #[ae ak 0,ae ak 0] Y 208);rw[<-cb.out,<-HT.out])
     |fail)
    refine(bn.out _).mono ?_;rintro e w4 ⟨rfl,r4,f4⟩;rw[<-bz]at r4;have aX:=fa r4;have a1:=fa (b9.out.trans (f4.mono fun j e=>.inl e))
    have a2:aR (w4.ownsRow (k+1) 208 2 (af Al m cl) m (Vk pre)):=fa (pz ca.out f4 (fun j (e:j=p)=>by have:=HP.out;omega));have ah:=fa (cf.out.fr f4 (by have:=HP.out;have:=bl.out;show¬t=p;omega));have al:=fa (bj.out w4);clear r4 f4 bn bj;go_wp2_with (first
     |(refine aF rfl _ _ rfl t rfl _ Y (0,0) _ ah.out underlying208 rfl (pv aV.out) ?_;rw[aW.out])
     |fail)
    refine al.out.mono ?_;rintro e w5 ⟨rfl,ad⟩;have a3:=fa (fg.below aX.out ad aX.out.lt:fx w5 p A l c _);have a4:=fa (a1.out.on ad);have a5:aR (w5.ownsRow (k+1) 208 2 (af Al m cl) m (Vk pre)):=fa (uV a2.out ad);have a6:=fa (ah.out.below ad ah.out.lt);have aY:=fa (nE w5 p A l c _ a3.out (decide (md<=n)) 132);rw[<-b3.out]at aY;clear ad al aX a1 a2 ah;go_wp2_with fail
    refine aY.out.mono ?_;rintro e w6 ⟨rfl,r6,f6⟩;have a7:=fa r6;have a8:=fa (a4.out.trans (f6.mono fun j e=>.inl e))
    have bA:aR (w6.ownsRow (k+1) 208 2 (af Al m cl) m (Vk pre)):=fa (pz a5.out f6 (fun j (e:j=p)=>by have:=HP.out;omega));have bB:=fa (a6.out.fr f6 (by have:=HP.out;have:=bl.out;show¬t=p;omega));have av:k+1<=w6.heap.size:=by have:=a8.out.size;rw[bE.out]at this;exact this
    obtain⟨A',c',w7,aT,aU,a9⟩:=xe w6 (k+1) Al m cl pre bA.out ((y:Int),(x:Int)) (by omega) av;have bf:=fa aT;have bg:=fa aU;have aZ:=fa a9
    clear r6 f6 aY aT aU a9 av a5 a6 a3 a4;go_wp2_with (first
     |(refine aF rfl _ _ rfl t rfl _ Y (0,0) _ bB.out underlying208 rfl (pv aV.out) ?_;rw[aW.out])
     |(at_builtin;refine wpList_append_run rfl (.tmp 43) (.tmp 45) 195 rfl (af Al m cl) (af (some ⟨w6.heap.size,0,none⟩) 1 1) (af A' (m+1) c') w7 rfl rfl bf.out ?_))
    have h2:w7.cell? ⟨p,2,none⟩=some (ae ak q3.2):=fx.e (fg.below a7.out aZ.out (by have:=HP.out;omega):fx w7 p A l c q3);go_roundw
    case rel=>exact⟨md,m+1,A',c',pre++[((y:Int),(x:Int))],q3,bF,bx,by omega,rfl,by go_num,fa ⟨b2.out,by have:=b6.out;omega⟩,bg,fa (fg.below a7.out aZ.out (by have:=HP.out;omega)),fa ⟨b4.out,fun _=>b5.out⟩,fa (a8.out.trans (Fr.up aZ.out))⟩
    case measure=>
     rw[h2,b7.out];show(if q3.2=0 then n+300-(md:Int).toNat else 0)<(if(0:Int)=0 then n+300-(made:Int).toNat else 0)
     rw[if_pos rfl];split<;>omega
   ·have d1:decide ((0:Int)<(made:Int))=false:=lq (by omega);have cw:decide (0<made)=false:=jd (by omega);have d2:((y:Int)==16)=false:=beq_eq_false_iff_ne.2 (by omega);have d3:((y:Int) !=16)=true:=by simp[bne,d2]
    have aW:=cg;clear z6 z;go_wp2_with (first
     |(rw[<-aW.out];refine aD rfl _ _ _ rfl rfl w2.heap.size Y rfl rfl 208 #[ae ak 0,ae ak 0] (aH w2 _) (pv aV.out) (by rw[aV.out];rfl) b8.out ?_;change wpList _ _ _ _ _ (gi w2 #[ae ak 0,ae ak 0] Y 208);rw[<-cb.out,<-HT.out])
     |fail)
    refine(bn.out _).mono ?_;rintro e w4 ⟨rfl,r4,f4⟩;rw[<-bz]at r4;have aX:=fa r4;have a1:=fa (b9.out.trans (f4.mono fun j e=>.inl e))
    have a2:aR (w4.ownsRow (k+1) 208 2 (af Al m cl) m (Vk pre)):=fa (pz ca.out f4 (fun j (e:j=p)=>by have:=HP.out;omega));have ah:=fa (cf.out.fr f4 (by have:=HP.out;have:=bl.out;show¬t=p;omega));have al:=fa (bj.out w4);clear r4 f4 bn bj;go_wp2_with (first
     |(refine aF rfl _ _ rfl t rfl _ Y (0,0) _ ah.out underlying208 rfl (pv aV.out) ?_;rw[aW.out])
     |fail)
    refine al.out.mono ?_;rintro e w5 ⟨rfl,ad⟩;have a3:=fa (fg.below aX.out ad aX.out.lt:fx w5 p A l c _);have a4:=fa (a1.out.on ad);have a5:aR (w5.ownsRow (k+1) 208 2 (af Al m cl) m (Vk pre)):=fa (uV a2.out ad);have a6:=fa (ah.out.below ad ah.out.lt);have aY:=fa (nE w5 p A l c _ a3.out (decide (md<=n)) 132);rw[<-b3.out]at aY;clear ad al aX a1 a2 ah;go_wp2_with fail
    refine aY.out.mono ?_;rintro e w6 ⟨rfl,r6,f6⟩;have a7:=fa r6;have a8:=fa (a4.out.trans (f6.mono fun j e=>.inl e))
    have bA:aR (w6.ownsRow (k+1) 208 2 (af Al m cl) m (Vk pre)):=fa (pz a5.out f6 (fun j (e:j=p)=>by have:=HP.out;omega));have bB:=fa (a6.out.fr f6 (by have:=HP.out;have:=bl.out;show¬t=p;omega));have av:k+1<=w6.heap.size:=by have:=a8.out.size;rw[bE.out]at this;exact this
    obtain⟨A',c',w7,aT,aU,a9⟩:=xe w6 (k+1) Al m cl pre bA.out ((y:Int),(x:Int)) (by omega) av;have bf:=fa aT;have bg:=fa aU;have aZ:=fa a9
    clear r6 f6 aY aT aU a9 av a5 a6 a3 a4;go_wp2_with (first
     |(refine aF rfl _ _ rfl t rfl _ Y (0,0) _ bB.out underlying208 rfl (pv aV.out) ?_;rw[aW.out])
     |(at_builtin;refine wpList_append_run rfl (.tmp 43) (.tmp 45) 195 rfl (af Al m cl) (af (some ⟨w6.heap.size,0,none⟩) 1 1) (af A' (m+1) c') w7 rfl rfl bf.out ?_))
    have h2:w7.cell? ⟨p,2,none⟩=some (ae ak q3.2):=fx.e (fg.below a7.out aZ.out (by have:=HP.out;omega):fx w7 p A l c q3);go_roundw
    case rel=>exact⟨md,m+1,A',c',pre++[((y:Int),(x:Int))],q3,bF,bx,by omega,rfl,by go_num,fa ⟨b2.out,by have:=b6.out;omega⟩,bg,fa (fg.below a7.out aZ.out (by have:=HP.out;omega)),fa ⟨b4.out,fun _=>b5.out⟩,fa (a8.out.trans (Fr.up aZ.out))⟩
    case measure=>
     rw[h2,b7.out];show(if q3.2=0 then n+300-(md:Int).toNat else 0)<(if(0:Int)=0 then n+300-(made:Int).toNat else 0)
     rw[if_pos rfl];split<;>omega
  ·have hR:=bt bu;have cx:=pM.gD HO.out;have bQ:=fa (OF wr Al m cl pre (n:Int) cx (by omega) (by omega) (by omega));have bq:=fa hR;have bO:=bT;clear bt hR cx HL HO HF HQ;by_cases bU:made<n
   ·obtain⟨qa,qe⟩:=q;have cy:¬qe=0:=fun e=>bu ⟨bU,e⟩
    have d0:(qe==0)=false:=beq_eq_false_iff_ne.2 cy;have bP:(made:Int)<(n:Int):=by omega
    have cT:wr.cell? ⟨p,2,none⟩=some (ae ak qe):=k2;clear bu cy k2;go_wp2_with fail
    refine bQ.out.mono ?_;rintro e w2 ⟨A',n',c',rfl,e1,e2,bC,e3⟩;have bD:=fa bC;have ch:=fa e2;have cj:=fa e3;have ck:=fa e1
    clear bC e1 e2 e3;go_wp2;go_ret;have hle:=bO.out.size;refine⟨A',n',c',rfl,by rw[<-bq.out];exact ck.out,by rw[<-bq.out];exact ch.out,fun h0=>?_,by rw[<-bq.out];exact fg.below HD.out bD.out HD.out.lt,bO.out.on bD.out⟩;obtain⟨g0,o0,cur,q1,q2,q3⟩:=cj.out h0;exact⟨g0,o0,cur,q1,Nat.le_trans hle q2,q3⟩
   ·have bP:¬(made:Int)<(n:Int):=by omega
    clear bu;go_wp2_with fail
    refine bQ.out.mono ?_;rintro e w2 ⟨A',n',c',rfl,e1,e2,bC,e3⟩;have bD:=fa bC;have ch:=fa e2;have cj:=fa e3;have ck:=fa e1
    clear bC e1 e2 e3;go_wp2;go_ret;have hle:=bO.out.size;refine⟨A',n',c',rfl,by rw[<-bq.out];exact ck.out,by rw[<-bq.out];exact ch.out,fun h0=>?_,by rw[<-bq.out];exact fg.below HD.out bD.out HD.out.lt,bO.out.on bD.out⟩;obtain⟨g0,o0,cur,q1,q2,q3⟩:=cj.out h0;exact⟨g0,o0,cur,q1,Nat.le_trans hle q2,q3⟩
def Up(T:ay->au->Prop)(v:ay)(w:au):Prop:=∀W,aS w.heap.size w W->T v W
theorem Up.here{T:ay->au->Prop}{v:ay}{w:au}(h:Up T v w):T v w:=h w fz
theorem Up.on{T:ay->au->Prop}{v:ay}{w w':au}(h:Up T v w)(hb:aS w.heap.size w w'):Up T v w':=fun W hW=>h W (hb.trans (hW.mono hb.size))
def U0:List (Option Tmp)->(Tmp->ay)->Act->Act
 |[],_,a=>a
 |none::r,vals,a=>U0 r vals a
 |some d::r,vals,a=>U0 r vals (a.put (some d) (vals d))
theorem IK:∀(l:List (Option Tmp)) (vals:Tmp->ay) (a:Act),(U0 l vals a).tmps.size=a.tmps.size
 |[],_,_=>rfl
 |none::r,vals,a=>IK r vals a
 |some d::r,vals,a=>by rw[U0,IK r vals];simp[Act.put]
theorem sN:∀(l:List (Option Tmp)) (vals:Tmp->ay) (a:Act),(U0 l vals a).defers=a.defers
 |[],_,_=>rfl
 |none::r,vals,a=>sN r vals a
 |some d::r,vals,a=>by rw[U0,sN r vals];rfl
theorem sO:∀(l:List (Option Tmp)) (vals:Tmp->ay) (a:Act) (s:Tmp),(some s∈l\/a.tmps[s]?=some (vals s))->s<a.tmps.size->(U0 l vals a).tmps[s]?=some (vals s)
 |[],vals,a,s,h,_=>by
  rcases h with h|h
  ·cases h
  ·exact h
 |none::r,vals,a,s,h,hs=>sO r vals a s (h.imp (fun h=>by simpa using h) id) hs
 |some d::r,vals,a,s,h,hs=>by
  refine sO r vals _ s ?_ (by simpa[Act.put]using hs);by_cases e:d=s
  ·right;subst e;simp[Act.put,hs]
  ·rcases h with h|h
   ·left;rcases List.mem_cons.1 h with h|h
    ·exact absurd (Option.some.inj h).symm e
    ·exact h
   ·right;simpa[Act.put,Array.getElem?_setIfInBounds_ne e]using h
theorem sP:∀(l:List (Option Tmp)) (vals:Tmp->ay) (a:Act) (s:Tmp),some s∉l->(U0 l vals a).tmps[s]?=a.tmps[s]?
 |[],_,_,_,_=>rfl
 |none::r,vals,a,s,h=>sP r vals a s (fun g=>h (List.mem_cons_of_mem _ g))
 |some d::r,vals,a,s,h=>by
  rw[U0,sP r vals _ s (fun g=>h (List.mem_cons_of_mem _ g))];have e:d≠s:=fun e=>h (by rw[e];exact List.mem_cons_self ..)
  simp[Act.put,Array.getElem?_setIfInBounds_ne e]
def Vs(l:List aB)(n:Nat):Bool:=decide (l.filterMap (·.dst)).Nodup&&(l.all fun o=>match o.dst with|some d=>decide (d<n)|none=>true)&&((List.range l.length).all fun i=>match l[i]? with
 |some o=>o.after.all fun e=> !Region.binds .any e||decide (e.on<i)
 |none=>true)
def nG(l:List aB)(s:Tmp):Bool:=l.all fun o=>o.dst !=some s
def uh(P:aA)(l:List aB)(T:Nat->ay->au->Prop)(a0:Act)(U:au)(k:Nat)(o:aB):Prop:=
 ∀(a:Act) (w:au),aS U.heap.size U w->(∀s,nG l s=true->a.eval (.tmp s)=a0.eval (.tmp s))->(∀j d,Region.waitsFor .any l.toArray k j=true->(l[j]?).bind (·.dst)=some d->Up (T j) (a.eval (.tmp d)) w)->
  ∀(K:Act->au->Prop) (Q:Exit->Act->au->Prop),(∀v w',aS w.heap.size w w'->Up (T k) v w'->K (a.put o.dst v) w')->if Region.wanted o (aN l.toArray a.tmps)=true then Oper.wp P o a w K Q else K (a.put o.dst undef) w
def fk(P:aA)(l:List aB)(T:Nat->ay->au->Prop)(a0:Act)(U:au):Nat->List aB->Prop
 |_,[]=>True
 |k,o::r=>uh P l T a0 U k o/\fk P l T a0 U (k+1) r
theorem fk.get{P:aA}{l:List aB}{T:Nat->ay->au->Prop}{a0:Act}{U:au}:∀{r:List aB} {k:Nat},fk P l T a0 U k r->∀{j:Nat} {o:aB},r[j]?=some o->uh P l T a0 U (k+j) o
 |[],_,_,_,_,h=>by cases h
 |_::_,k,hA,0,_,h=>by cases h;exact hA.1
 |_::r,k,hA,j+1,o,h=>by
  have:=fk.get (r:=r) hA.2 (j:=j) (by simpa using h);rw[show k+1+j=k+(j+1) by omega]at this;exact this
structure rG (l:List aB) (T:Nat->ay->au->Prop) (a0:Act) (U:au) (fj:Array Bool) (a:Act) (w:au):Prop where
 size:fj.size=l.length
 tmps:a.tmps.size=a0.tmps.size
 defers:a.defers=a0.defers
 below:aS U.heap.size U w
 off:∀s,(∀j d,fj.getD j false=true->(l[j]?).bind (·.dst)=some d->d≠s)->a.tmps[s]?=a0.tmps[s]?
 told:∀j d,fj.getD j false=true->(l[j]?).bind (·.dst)=some d->Up (T j) (a.eval (.tmp d)) w
theorem sQ{l:List aB}{s:Tmp}(h:nG l s=true){j:Nat}{d:Tmp}(hd:(l[j]?).bind (·.dst)=some d):d≠s:=fun e=>by
 cases hj:l[j]? with
 |none=>rw[hj]at hd;cases hd
 |some y=>
  rw[hj]at hd;have h1:=List.all_eq_true.1 h y (List.mem_of_getElem? hj);have h2:y.dst=some d:=by simpa using hd
  rw[h2,e]at h1;simp at h1
theorem sR{l:List aB}(h:(l.filterMap (·.dst)).Nodup){i j:Nat}{x y:aB}{d:Tmp}(hi:l[i]?=some x)(hj:l[j]?=some y)(hx:x.dst=some d)(hy:y.dst=some d):i=j:=by
 induction l generalizing i j with
 |nil=>cases hi
 |cons z r ih=>
  have hr:(r.filterMap (·.dst)).Nodup:=by
   rw[List.filterMap_cons]at h;split at h
   ·exact h
   ·exact(List.nodup_cons.1 h).2
  have hz:∀(q:Nat) (u:aB),r[q]?=some u->u.dst=some d->z.dst≠some d:=fun q u hq hu ad=>by
   rw[List.filterMap_cons,ad]at h;exact(List.nodup_cons.1 h).1 (List.mem_filterMap.2 ⟨u,List.mem_of_getElem? hq,hu⟩)
  rcases i with _|i<;>rcases j with _|j
  ·rfl
  ·cases hi;exact absurd hx (hz j y (by simpa using hj) hy)
  ·cases hj;exact absurd hy (hz i x (by simpa using hi) hx)
  ·exact congrArg (·+1) (ih hr (by simpa using hi) (by simpa using hj))
theorem Rr{P:aA}{Q:Exit->Act->au->Prop}{a0:Act}{U:au}{l:List aB}{T:Nat->ay->au->Prop}(hB:Vs l a0.tmps.size=true)(aV:fk P l T a0 U 0 l)
  (aU:∀fj a w,rG l T a0 U fj a w->(∀i,i<l.length->fj.getD i false=true)->Q .normal a w):
  ∀(f:Nat) (fj:Array Bool) (a:Act) (w:au),((List.range l.length).filter fun i=> !fj.getD i false).length=f->rG l T a0 U fj a w->wpAny P .any l.toArray Q f fj a w:=by
 have aY:=hB
 simp only[Vs,Bool.and_eq_true,decide_eq_true_eq]at aY
 obtain⟨⟨a6,a7⟩,aZ⟩:=aY
 have a1:∀(fj:Array Bool),fj.size=l.length->Region.ready .any l.toArray fj=[]->∀i,i<l.length->fj.getD i false=true:=fun fj bj hr i=>by
  induction i using Nat.strongRecOn with
  |_ i ih=>
   intro hi;cases hu:fj.getD i false with
   |true=>rfl
   |false=>
    exfalso;have h1:=List.all_eq_true.1 aZ i (List.mem_range.2 hi);have a8:l[i]?=some l[i]:=List.getElem?_eq_getElem hi;simp only[a8]at h1;have:i∈Region.ready .any l.toArray fj:=mem_ready.2 ⟨getD_in (by omega) hu,l[i],by simp[hi],fun e he hb=>by
     have h2:=Array.all_eq_true_iff_forall_mem.1 h1 e he;simp only[hb,Bool.not_true,Bool.false_or,decide_eq_true_eq]at h2;exact ih e.on h2 (by omega)⟩
    rw[hr]at this;cases this
 intro f
 induction f with
 |zero=>
  intro fj a w hf inv;have a2:∀i,i<l.length->fj.getD i false=true:=fun i hi=>by
   have h0:=List.length_eq_zero_iff.1 hf;have h1:=List.filter_eq_nil_iff.1 h0 i (List.mem_range.2 hi);simpa using h1
  refine⟨?_,aU fj a w inv a2⟩;apply List.eq_nil_iff_forall_not_mem.2;intro i hi;obtain⟨h0,o,ho,_⟩:=mem_ready.1 hi;have ah:i<l.length:=by have:=(Array.getElem?_eq_some_iff.1 ho).1;simpa using this
  have h1:=a2 i ah;rw[getD_both h0]at h1;cases h1
 |succ f ih=>
  intro fj a w hf inv;refine⟨fun h0=>aU fj a w inv (a1 fj inv.size h0),fun k hk=>?_⟩;obtain⟨h0,o,ho,al⟩:=mem_ready.1 hk;have ad:l[k]?=some o:=by simpa using ho
  have ah:k<l.length:=(List.getElem?_eq_some_iff.1 ad).1;have a9:uh P l T a0 U k o:=by have:=aV.get ad;rwa[Nat.zero_add]at this
  have aW:∀s,nG l s=true->a.eval (.tmp s)=a0.eval (.tmp s):=fun s hs=>by
   show a.tmps.getD s undef=a0.tmps.getD s undef
   rw[Array.getD_eq_getD_getElem?,Array.getD_eq_getD_getElem?,inv.off s (fun _ _ _ hd=>sQ hs hd)]
  have av:∀j d,Region.waitsFor .any l.toArray k j=true->(l[j]?).bind (·.dst)=some d->Up (T j) (a.eval (.tmp d)) w:=fun j d hw hd=>by
   obtain⟨ok,a3,e,he,hb,bf⟩:=Region.waitsFor_spec hw;rw[ho]at a3;cases a3;exact inv.told j d (by have:=al e he hb;rwa[bf]at this) hd
  have a4:∀d,o.dst=some d->d<a.tmps.size:=fun d hd=>by
   have h1:=List.all_eq_true.1 a7 o (List.mem_of_getElem? ad);simp only[hd,decide_eq_true_eq]at h1;rw[inv.tmps];exact h1
  have aX:=a9 a w inv.below aW av (wpAny P .any l.toArray Q f (fj.setIfInBounds k true)) Q (fun v w' hb hv=>by
   refine ih _ _ _ ?_ ⟨by simp[inv.size],?_,?_,inv.below.trans (hb.mono inv.below.size),fun s hs=>?_,fun j d hl hd=>?_⟩
   ·have bg:((List.range l.length).filter fun i=> !(fj.setIfInBounds k true).getD i false)=((List.range l.length).filter fun i=> !fj.getD i false).erase k:=by
     rw[List.Nodup.erase_eq_filter (List.nodup_range.filter _),List.filter_filter];apply List.filter_congr;intro x hx;by_cases e:x=k
     ·subst e;have:x<fj.size:=by rw[inv.size];exact ah
      simp[this]
     ·rw[getD_set_ne false (Ne.symm e)];simp[e]
    rw[bg,List.length_erase_of_mem (List.mem_filter.2 ⟨List.mem_range.2 ah,by rw[getD_both h0];rfl⟩),hf];rfl
   ·unfold Act.put;cases o.dst<;>simp[inv.tmps]
   ·unfold Act.put;cases o.dst<;>exact inv.defers
   ·rw[<-inv.off s (fun j d hl hd=>hs j d (getD_set_true hl) hd)];unfold Act.put;cases hd:o.dst with
    |none=>rfl
    |some d=>
     have e:d≠s:=hs k d (by have:k<fj.size:=(by rw[inv.size];exact ah);simp[this]) (by rw[ad];simpa using hd);simp[Array.getElem?_setIfInBounds_ne e]
   ·by_cases e:j=k
    ·subst e;rw[ad]at hd;have aT:o.dst=some d:=by simpa using hd
     have a5:=a4 d aT;have he:(a.put o.dst v).eval (.tmp d)=v:=by rw[aT];simp[Act.put,Act.eval,a5]
     rw[he];exact hv
    ·rw[getD_set_ne false (Ne.symm e)]at hl;have h1:=inv.told j d hl hd;have he:(a.put o.dst v).eval (.tmp d)=a.eval (.tmp d):=Act.eval_put fun d' aT hx=>by
      cases hx
      cases hj:l[j]? with
      |none=>rw[hj]at hd;cases hd
      |some y=>
       rw[hj]at hd;exact e (sR a6 hj ad (by simpa using hd) aT)
     rw[he];exact h1.on hb)
  unfold wpOp;simp only[ho];split at aX
  ·rename_i hw;rw[if_pos hw];exact .inl aX
  ·rename_i hw;rw[if_neg hw];exact aX
theorem v5{P:aA}{id:Nat}{Q:Exit->Act->au->Prop}{a0:Act}{w0:au}{l:List aB}(T:Nat->ay->au->Prop)(U:au)(hU:aS U.heap.size U w0)(hm:P.follows .mixedOrders=true)(hB:Vs l a0.tmps.size=true)
  (ad:fk P l T a0 U 0 l)
  (ah:∀(vals:Tmp->ay) (w:au),aS U.heap.size U w->(∀j d,(l[j]?).bind (·.dst)=some d->Up (T j) (vals d) w)->Q .normal (U0 (l.map (·.dst)) vals a0) w):(Code.region id l.toArray true).wp P Q a0 w0:=by
 refine wp_region_any hm ?_
 have al:∀i,(Array.replicate l.toArray.size false).getD i false=false:=fun i=>getD_replicate_false _ _
 refine Rr (T:=T) hB ad (fun fj a w inv aT=>?_) l.toArray.size _ _ _ ?_ ⟨by simp,rfl,rfl,hU.drew,fun _ _=>rfl,fun j d h _=>by rw[al]at h;cases h⟩
 ·have ha:a=U0 (l.map (·.dst)) (fun d=>a.eval (.tmp d)) a0:=by
   have ht:a.tmps=(U0 (l.map (·.dst)) (fun d=>a.eval (.tmp d)) a0).tmps:=by
    apply Array.ext_getElem?;intro s;by_cases hs:some s∈l.map (·.dst)
    ·obtain⟨o,ho,hd⟩:=List.mem_map.1 hs;simp only[Vs,Bool.and_eq_true,decide_eq_true_eq]at hB;have h1:=List.all_eq_true.1 hB.1.2 o ho;simp only[hd,decide_eq_true_eq]at h1;rw[sO _ _ _ s (.inl hs) h1];have h2:s<a.tmps.size:=by rw[inv.tmps];exact h1
     simp[Act.eval,h2]
    ·rw[sP _ _ _ s hs];refine inv.off s (fun j d _ hd e=>hs ?_);cases hj:l[j]? with
     |none=>rw[hj]at hd;cases hd
     |some y=>
      rw[hj]at hd;exact List.mem_map.2 ⟨y,List.mem_of_getElem? hj,by rw[<-e];simpa using hd⟩
   have av:a.defers=(U0 (l.map (·.dst)) (fun d=>a.eval (.tmp d)) a0).defers:=by rw[sN];exact inv.defers
   cases a with
   |mk t df=>
    generalize hp:U0 (l.map (·.dst)) (fun d=>(Act.mk t df).eval (.tmp d)) a0=p at*;cases p with
    |mk t2 aU=>simp only at ht av;rw[ht,av]
  rw[ha];refine ah _ w inv.below fun j d hd=>?_
  refine inv.told j d (aT j ?_) hd;cases hj:l[j]? with
  |none=>rw[hj]at hd;cases hd
  |some _=>exact(List.getElem?_eq_some_iff.1 hj).1
 ·rw[List.filter_eq_self.2 (fun i _=>by rw[al];rfl)];simp
theorem fm{l:List aB}{o:aB}{a:Act}(hg:o.guard=none):Region.wanted o (aN l.toArray a.tmps)=true:=by simp[Region.wanted,hg]
theorem oL{P:aA}{l:List aB}{o:aB}{a:Act}{w:au}{T:ay->au->Prop}{K:Act->au->Prop}{Q:Exit->Act->au->Prop}{E:Prop}(hw:Region.wanted o (aN l.toArray a.tmps)=true)(v:ay)
  (hr:(execOp a.eval o).run P w=.ok (.value v) w) (hT:Up T v w) (hK:∀v w',aS w.heap.size w w'->Up T v w'->K (a.put o.dst v) w'):if Region.wanted o (aN l.toArray a.tmps)=true then Oper.wp P o a w K Q else E:=by
 rw[if_pos hw]
 unfold Oper.wp
 rw[hr]
 exact hK v w fz hT
theorem iL{P:aA}{l:List aB}{o:aB}{a:Act}{w:au}{T:ay->au->Prop}{K:Act->au->Prop}{Q:Exit->Act->au->Prop}{E:Prop}(hw:Region.wanted o (aN l.toArray a.tmps)=true)(x:Operand)(ho:o.op=.move x)
  (hT:Up T (a.eval x) w) (hK:∀v w',aS w.heap.size w w'->Up T v w'->K (a.put o.dst v) w'):if Region.wanted o (aN l.toArray a.tmps)=true then Oper.wp P o a w K Q else E:=
 oL hw (a.eval x) (by simp[execOp,ho]) hT hK
theorem v7{P:aA}{l:List aB}{o:aB}{a:Act}{w:au}{T:ay->au->Prop}{K:Act->au->Prop}{Q:Exit->Act->au->Prop}{E:Prop}(hw:Region.wanted o (aN l.toArray a.tmps)=true)(x:Operand)(ho:o.op=.assign x)
  (hT:Up T (a.eval x) w) (hK:∀v w',aS w.heap.size w w'->Up T v w'->K (a.put o.dst v) w'):if Region.wanted o (aN l.toArray a.tmps)=true then Oper.wp P o a w K Q else E:=
 oL hw (a.eval x) (by simp[execOp,ho]) hT hK
theorem we{P:aA}{l:List aB}{o:aB}{a:Act}{w:au}{T:ay->au->Prop}{K:Act->au->Prop}{Q:Exit->Act->au->Prop}{E:Prop}(hw:Region.wanted o (aN l.toArray a.tmps)=true)(b:BinOp)(t t':aC)(x y:Operand)(ho:o.op=.binOp b t x y t')(u z v:ay)(hx:a.eval x=u)(hy:a.eval y=z)
  (hg:(eqGuard b t x y u z).run P w=.ok () w) (hr:(binOp b t u z).run P w=.ok v w)
  (hT:Up T v w) (hK:∀v w',aS w.heap.size w w'->Up T v w'->K (a.put o.dst v) w'):if Region.wanted o (aN l.toArray a.tmps)=true then Oper.wp P o a w K Q else E:=
 oL hw v (by simp only[execOp,ho,hx,hy,Sem.run_bind,hg,hr,Result.andThen_ok];rfl) hT hK
theorem yr{l:List aB}{o:aB}{a:Act}{w:au}{T:ay->au->Prop}{K:Act->au->Prop}{Q:Exit->Act->au->Prop}{E:Prop}(hw:Region.wanted o (aN l.toArray a.tmps)=true)(f:FuncId)(xs:Array Operand)(ts:Array aC)
  (ho:o.op=.call {callee:=.value (.func f),args:=xs,argTypes:=ts}) (eg:∀args w,(callFunc f args).run prog w=.ok (.enter f args) w) (args:Array ay) (hx:xs.map a.eval=args) {R:Ending->au->Prop} (hc:ax prog f args w R)
  (h:∀e w',R e w'->∃v,e=aq v/\aS w.heap.size w w'/\Up T v w') (hK:∀v w',aS w.heap.size w w'->Up T v w'->K (a.put o.dst v) w'):
  if Region.wanted o (aN l.toArray a.tmps)=true then Oper.wp prog o a w K Q else E:=
 Ln hw f xs ts ho eg args hx hc fun e w' hr=>by
  obtain⟨v,he,hb,hv⟩:=h e w' hr;exact⟨v,he,hK v w' hb hv⟩
theorem fk.nil{P:aA}{l:List aB}{T:Nat->ay->au->Prop}{a0:Act}{U:au}{k:Nat}:fk P l T a0 U k []:=trivial
theorem fk.cons {P:aA} {l:List aB} {T:Nat->ay->au->Prop} {a0:Act} {U:au} {k:Nat} {o:aB} {r:List aB} (h:∀(a:Act) (w:au),aS U.heap.size U w->(∀s,nG l s=true->a.eval (.tmp s)=a0.eval (.tmp s))->(∀j d,Region.waitsFor .any l.toArray k j=true->(l[j]?).bind (·.dst)=some d->Up (T j) (a.eval (.tmp d)) w)->
  ∀(K:Act->au->Prop) (Q:Exit->Act->au->Prop),(∀v w',aS w.heap.size w w'->Up (T k) v w'->K (a.put o.dst v) w')->if Region.wanted o (aN l.toArray a.tmps)=true then Oper.wp P o a w K Q else K (a.put o.dst undef) w) (hr:fk P l T a0 U (k+1) r):fk P l T a0 U k (o::r):=⟨h,hr⟩
def rH(L:List (ay->au->Prop))(k:Nat):ay->au->Prop:=(L[k]?).getD fun _ _=>True
theorem fw{v x:ay}{w:au}(h:v=x):Up (fun u _=>u=x) v w:=fun _ _=>h
theorem Rt{P:aA}{Q:Exit->Act->au->Prop}{a0:Act}{U:au}{l:List aB}{T:Nat->ay->au->Prop}{n:Nat}(hn:n<l.length)(hs:uT l 0 n=true)(hc:Region.chainB .any l.toArray n=true)
  (aZ:Region.seqB .any l.toArray (l.length-n) n (jW n (l.length-n))=true) (hB:Vs l a0.tmps.size=true) (aV:fk P l T a0 U 0 (l.take n))
  (a1:∀fj a w,rG l T a0 U fj a w->(∀i,i<n->fj.getD i false=true)->(∀i,n<=i->i<l.length->fj.getD i true=false)->wpList P l.toArray Q (l.drop n) a w):
  ∀(f:Nat) (fj:Array Bool) (a:Act) (w:au),((List.range n).filter fun i=> !fj.getD i false).length=f->rG l T a0 U fj a w->HeadInv .any l.toArray n fj->wpAny P .any l.toArray Q (f+(l.length-n)) fj a w:=by
 have a2:=hB
 simp only[Vs,Bool.and_eq_true,decide_eq_true_eq]at a2
 obtain⟨⟨bg,bj⟩,a3⟩:=a2
 intro f
 induction f with
 |zero=>
  intro fj a w hf inv hi;have a4:∀i,i<n->fj.getD i false=true:=fun i hi=>by
   have h0:=List.length_eq_zero_iff.1 hf;have h1:=List.filter_eq_nil_iff.1 h0 i (List.mem_range.2 hi);simpa using h1
  have hk:=a1 fj a w inv a4 (fun i h1 h2=>hi.tail i h1 (by simpa using h2));have he:=xc (n:=n) (g:=l.length-n) (fj:=fj) (by rw[inv.size];omega) (fun i h=>by
   have h1:=a4 i h;cases h2:fj.getD i true with
   |true=>rfl
   |false=>rw[getD_both h2]at h1;cases h1) (fun t ht bz=>hi.tail t ht (by simp;omega))
  subst he;have h3:=wpAny_of_seq (P:=P) (md:=.any) (Q':=Q) (l.drop n) n (jW n (l.length-n)) a w (fun j=>by simp[List.getElem?_drop]) (by rw[List.length_drop];exact aZ) hk;rw[List.length_drop]at h3;rw[Nat.zero_add];exact h3
 |succ f ih=>
  intro fj a w hf inv hi;rw[show f+1+(l.length-n)=(f+(l.length-n))+1 by omega];obtain⟨x,bl,a5⟩:∃x,x<n/\fj.getD x false=false:=by
   have:0<((List.range n).filter fun i=> !fj.getD i false).length:=by omega
   obtain⟨x,hx⟩:=List.exists_mem_of_length_pos this;obtain⟨h1,h2⟩:=List.mem_filter.1 hx;exact⟨x,List.mem_range.1 h1,by simpa using h2⟩
  have bn:fj.getD x true=false:=getD_in (by rw[inv.size];omega) a5;have ah:∀i,i∈Region.ready .any l.toArray fj->i<n:=fun i hr=>by
   rcases Nat.lt_or_ge i n with g|g
   ·exact g
   ·exact absurd hr (DY hs hc hn hi (fun i h=>absurd h (Nat.not_lt_zero i)) bl bn i g)
  refine⟨fun h0=>?_,fun k hk=>?_⟩
  ·exfalso;have a6:∀i,i<l.length->fj.getD i false=true:=fun i=>by
    induction i using Nat.strongRecOn with
    |_ i bq=>
     intro al;cases hu:fj.getD i false with
     |true=>rfl
     |false=>
      exfalso;have h1:=List.all_eq_true.1 a3 i (List.mem_range.2 al);have br:l[i]?=some l[i]:=List.getElem?_eq_getElem al;simp only[br]at h1;have:i∈Region.ready .any l.toArray fj:=mem_ready.2 ⟨getD_in (by rw[inv.size];exact al) hu,l[i],by simp[al],fun e he hb=>by
       have h2:=Array.all_eq_true_iff_forall_mem.1 h1 e he;simp only[hb,Bool.not_true,Bool.false_or,decide_eq_true_eq]at h2;exact bq e.on h2 (by omega)⟩
      rw[h0]at this;cases this
   have:=a6 x (by omega);rw[a5]at this;cases this
  ·have aW:=ah k hk;obtain⟨h0,o,ho,av⟩:=mem_ready.1 hk;have ad:l[k]?=some o:=by simpa using ho
   have a7:k<l.length:=(List.getElem?_eq_some_iff.1 ad).1;have bt:uh P l T a0 U k o:=by
    have:=aV.get (j:=k) (o:=o) (by rw[List.getElem?_take_of_lt aW];exact ad);rwa[Nat.zero_add]at this
   have aX:∀s,nG l s=true->a.eval (.tmp s)=a0.eval (.tmp s):=fun s hs=>by
    show a.tmps.getD s undef=a0.tmps.getD s undef
    rw[Array.getD_eq_getD_getElem?,Array.getD_eq_getD_getElem?,inv.off s (fun _ _ _ hd=>sQ hs hd)]
   have aT:∀j d,Region.waitsFor .any l.toArray k j=true->(l[j]?).bind (·.dst)=some d->Up (T j) (a.eval (.tmp d)) w:=fun j d hw hd=>by
    obtain⟨ok,a8,e,he,hb,bu⟩:=Region.waitsFor_spec hw;rw[ho]at a8;cases a8;exact inv.told j d (by have:=av e he hb;rwa[bu]at this) hd
   have a9:∀d,o.dst=some d->d<a.tmps.size:=fun d hd=>by
    have h1:=List.all_eq_true.1 bj o (List.mem_of_getElem? ad);simp only[hd,decide_eq_true_eq]at h1;rw[inv.tmps];exact h1
   have aY:=bt a w inv.below aX aT (wpAny P .any l.toArray Q (f+(l.length-n)) (fj.setIfInBounds k true)) Q (fun v w' hb hv=>by
    refine ih _ _ _ ?_ ⟨by simp[inv.size],?_,?_,inv.below.trans (hb.mono inv.below.size),fun s hs=>?_,fun j d hl hd=>?_⟩ (hi.set hk aW)
    ·have bx:((List.range n).filter fun i=> !(fj.setIfInBounds k true).getD i false)=((List.range n).filter fun i=> !fj.getD i false).erase k:=by
      rw[List.Nodup.erase_eq_filter (List.nodup_range.filter _),List.filter_filter];apply List.filter_congr;intro x hx;by_cases e:x=k
      ·subst e;have:x<fj.size:=by rw[inv.size];exact a7
       simp[this]
      ·rw[getD_set_ne false (Ne.symm e)];simp[e]
     rw[bx,List.length_erase_of_mem (List.mem_filter.2 ⟨List.mem_range.2 aW,by rw[getD_both h0];rfl⟩),hf];rfl
    ·unfold Act.put;cases o.dst<;>simp[inv.tmps]
    ·unfold Act.put;cases o.dst<;>exact inv.defers
    ·rw[<-inv.off s (fun j d hl hd=>hs j d (getD_set_true hl) hd)];unfold Act.put;cases hd:o.dst with
     |none=>rfl
     |some d=>
      have e:d≠s:=hs k d (by have:k<fj.size:=(by rw[inv.size];exact a7);simp[this]) (by rw[ad];simpa using hd);simp[Array.getElem?_setIfInBounds_ne e]
    ·by_cases e:j=k
     ·subst e;rw[ad]at hd;have aU:o.dst=some d:=by simpa using hd
      have bf:=a9 d aU;have he:(a.put o.dst v).eval (.tmp d)=v:=by rw[aU];simp[Act.put,Act.eval,bf]
      rw[he];exact hv
     ·rw[getD_set_ne false (Ne.symm e)]at hl;have h1:=inv.told j d hl hd;have he:(a.put o.dst v).eval (.tmp d)=a.eval (.tmp d):=Act.eval_put fun d' aU hx=>by
       cases hx
       cases hj:l[j]? with
       |none=>rw[hj]at hd;cases hd
       |some y=>
        rw[hj]at hd;exact e (sR bg hj ad (by simpa using hd) aU)
      rw[he];exact h1.on hb)
   unfold wpOp;simp only[ho];split at aY
   ·rename_i hw;rw[if_pos hw];exact .inl aY
   ·rename_i hw;rw[if_neg hw];exact aY
def IL(l:List aB)(n m:Nat):Bool:=decide (n<l.length)&&uT l 0 n&&Region.chainB .any l.toArray n&&Region.seqB .any l.toArray (l.length-n) n (jW n (l.length-n))&&Vs l m
theorem Ru{P:aA}{id:Nat}{Q:Exit->Act->au->Prop}{a0:Act}{w0:au}{l:List aB}(n:Nat)(T:Nat->ay->au->Prop)(U:au)(hU:aS U.heap.size U w0)(hm:P.follows .mixedOrders=true)(hB:IL l n a0.tmps.size=true)
  (ad:fk P l T a0 U 0 (l.take n))
  (al:∀(vals:Tmp->ay) (w:au),aS U.heap.size U w->(∀j d,((l.take n)[j]?).bind (·.dst)=some d->Up (T j) (vals d) w)->wpList P l.toArray Q (l.drop n) (U0 ((l.take n).map (·.dst)) vals a0) w):(Code.region id l.toArray true).wp P Q a0 w0:=by
 simp only[IL,Bool.and_eq_true,decide_eq_true_eq]at hB
 obtain⟨⟨⟨⟨hn,hs⟩,hc⟩,av⟩,hB⟩:=hB
 refine wp_region_any hm ?_
 have ah:∀i,(Array.replicate l.toArray.size false).getD i false=false:=fun i=>getD_replicate_false _ _
 have hinv:HeadInv .any l.toArray n (Array.replicate l.toArray.size false):=⟨by simp,(fun j oj _ hl=>by rw[ah]at hl;cases hl),(fun t _ ht=>by simp at ht;simp[ht])⟩
 have key:=Rt (P:=P) (Q:=Q) (T:=T) (U:=U) hn hs hc av hB ad (fun fj a w inv aV aW=>by
  have ha:a=U0 ((l.take n).map (·.dst)) (fun d=>a.eval (.tmp d)) a0:=by
   have aT:=hB;simp only[Vs,Bool.and_eq_true,decide_eq_true_eq]at aT;have ht:a.tmps=(U0 ((l.take n).map (·.dst)) (fun d=>a.eval (.tmp d)) a0).tmps:=by
    apply Array.ext_getElem?;intro s;by_cases hs:some s∈(l.take n).map (·.dst)
    ·obtain⟨o,ho,hd⟩:=List.mem_map.1 hs;have h1:=List.all_eq_true.1 aT.1.2 o (List.mem_of_mem_take ho);simp only[hd,decide_eq_true_eq]at h1;rw[sO _ _ _ s (.inl hs) h1];have h2:s<a.tmps.size:=by rw[inv.tmps];exact h1
     simp[Act.eval,h2]
    ·rw[sP _ _ _ s hs];refine inv.off s (fun j d hl hd e=>hs ?_);cases hj:l[j]? with
     |none=>rw[hj]at hd;cases hd
     |some y=>
      have aX:j<l.length:=(List.getElem?_eq_some_iff.1 hj).1;have aY:j<n:=by
       rcases Nat.lt_or_ge j n with g|g
       ·exact g
       ·have:=getD_both (aW j g aX);rw[hl]at this;cases this
      rw[hj]at hd;exact List.mem_map.2 ⟨y,List.mem_of_getElem? (i:=j) (by rw[List.getElem?_take_of_lt aY];exact hj),by rw[<-e];simpa using hd⟩
   have aU:a.defers=(U0 ((l.take n).map (·.dst)) (fun d=>a.eval (.tmp d)) a0).defers:=by rw[sN];exact inv.defers
   cases a with
   |mk t df=>
    generalize hp:U0 ((l.take n).map (·.dst)) (fun d=>(Act.mk t df).eval (.tmp d)) a0=p at*;cases p with
    |mk t2 aZ=>simp only at ht aU;rw[ht,aU]
  rw[ha];refine al _ w inv.below fun j d hd=>?_
  rcases Nat.lt_or_ge j n with g|g
  ·rw[List.getElem?_take_of_lt g]at hd;exact inv.told j d (aV j g) hd
  ·rw[List.getElem?_eq_none (by rw[List.length_take];omega)]at hd;cases hd) n (Array.replicate l.toArray.size false) a0 w0.drew (by rw[List.filter_eq_self.2 (fun i _=>by rw[ah];rfl)];simp) ⟨by simp,rfl,rfl,hU.drew,fun _ _=>rfl,fun j d h _=>by rw[ah]at h;cases h⟩ hinv
 rw[show n+(l.length-n)=l.toArray.size by simp;omega]at key
 exact key
theorem IM{l:List aB}{o:aB}{a:Act}{w:au}{T:ay->au->Prop}{K:Act->au->Prop}{Q:Exit->Act->au->Prop}{E:Prop}(hw:Region.wanted o (aN l.toArray a.tmps)=true)(ty:aC)(x:Operand)(ho:o.op=.load ty x)(b k:Nat)(hx:a.eval x=ag (some ⟨b,k,none⟩))(cs:List ay)(d:TypeDesc)
  (hS:w.rangeAt b k cs) (hu:prog.underlying ty=some d) (hd:d.isRow=true) (hi:(prog.info? ty).map (·.size)=some cs.length)
  (hT:Up T (ai cs.toArray) w) (hK:∀v w',aS w.heap.size w w'->Up T v w'->K (a.put o.dst v) w'):if Region.wanted o (aN l.toArray a.tmps)=true then Oper.wp prog o a w K Q else E:=
 oL hw _ (by
  unfold execOp;simp only[ho,hx,Instr.loadAt,Instr.sureAddr,Sem.run_bind,Sem.run_pure,Result.andThen_ok,run_loadVar_mid w b k ty cs d hS hu hd hi]) hT hK
theorem nH{l:List aB}{o:aB}{a:Act}{w:au}{T:ay->au->Prop}{K:Act->au->Prop}{Q:Exit->Act->au->Prop}{E:Prop}(hw:Region.wanted o (aN l.toArray a.tmps)=true)(ty:aC)(x:Operand)(ho:o.op=.load ty x)(u v:ay)(hx:a.eval x=u)
  (hr:(Instr.loadAt ty u).run prog w=.ok v w)
  (hT:Up T v w) (hK:∀v w',aS w.heap.size w w'->Up T v w'->K (a.put o.dst v) w'):if Region.wanted o (aN l.toArray a.tmps)=true then Oper.wp prog o a w K Q else E:=
 oL hw v (by unfold execOp;simp only[ho,hx,Sem.run_bind,hr,Result.andThen_ok];rfl) hT hK
theorem gW{l:List aB}{o:aB}{a:Act}{w:au}{T:ay->au->Prop}{K:Act->au->Prop}{Q:Exit->Act->au->Prop}{E:Prop}(hw:Region.wanted o (aN l.toArray a.tmps)=true)(ty:aC)(x:Operand)(f:Nat)(ho:o.op=.fieldAddr ty x f)(u v:ay)(hx:a.eval x=u)
  (hr:(Instr.fieldAt ty u f).run prog w=.ok v w)
  (hT:Up T v w) (hK:∀v w',aS w.heap.size w w'->Up T v w'->K (a.put o.dst v) w'):if Region.wanted o (aN l.toArray a.tmps)=true then Oper.wp prog o a w K Q else E:=
 oL hw v (by unfold execOp;simp only[ho,hx,Sem.run_bind,hr,Result.andThen_ok];rfl) hT hK
theorem wh(P:aA)(b:BinOp)(t:aC)(x y:Operand)(u v:ay)(hb:b≠.eql)(ad:b≠.neq)(w:au):(eqGuard b t x y u v).run P w=.ok () w:=by
 unfold eqGuard;cases b<;>first|exact absurd rfl hb|exact absurd rfl ad|simp[go_sem]
theorem ui{P:aA}{l:List aB}{o:aB}{a:Act}{w:au}{T:ay->au->Prop}{K:Act->au->Prop}{Q:Exit->Act->au->Prop}{E:Prop}(hw:Region.wanted o (aN l.toArray a.tmps)=true)(x:Operand)(i:Nat)(ho:o.op=.extract x i)(u v:ay)(hx:a.eval x=u)(hr:(Instr.extract u i).run P w=.ok v w)
  (hT:Up T v w) (hK:∀v w',aS w.heap.size w w'->Up T v w'->K (a.put o.dst v) w'):if Region.wanted o (aN l.toArray a.tmps)=true then Oper.wp P o a w K Q else E:=
 oL hw v (by unfold execOp;simp only[ho,hx,Sem.run_bind,hr,Result.andThen_ok];rfl) hT hK
theorem Rw(P:aA)(t:aC)(k:IntKind)(x y:Nat)(hy:0<y)(w:au):(binOp .rem t (ae k (x:Int)) (ae k (y:Int))).run P w=.ok (ae k ((x%y:Nat):Int)) w:=by
 have h0:¬(y:Int)=0:=by omega
 have e:(x:Int).tmod (y:Int)=((x%y:Nat):Int):=by rw[Int.tmod_eq_emod_of_nonneg (by omega)];simp
 unfold binOp;simp only[ne_eq,not_true_eq_false,if_false,Op.intDiv,if_neg h0,e];rfl
theorem uj{P:aA}{l:List aB}{o:aB}{a:Act}{w:au}{T:ay->au->Prop}{K:Act->au->Prop}{Q:Exit->Act->au->Prop}{E:Prop}(hw:Region.wanted o (aN l.toArray a.tmps)=true)(t:aC)(x:Operand)(lo hi mx:Option Operand)(ho:o.op=.slice t x lo hi mx)(u v:ay)(ad ah al:Option ay)(hx:a.eval x=u)(h1:lo.map a.eval=ad)(h2:hi.map a.eval=ah)(h3:mx.map a.eval=al)
  (hr:(Instr.sliceAt t u ad ah al).run P w=.ok v w)
  (hT:Up T v w) (hK:∀v w',aS w.heap.size w w'->Up T v w'->K (a.put o.dst v) w'):if Region.wanted o (aN l.toArray a.tmps)=true then Oper.wp P o a w K Q else E:=
 oL hw v (by unfold execOp;simp only[ho,hx,h1,h2,h3,Sem.run_bind,hr,Result.andThen_ok];rfl) hT hK
theorem Rx{P:aA}{l:List aB}{o:aB}{a:Act}{w:au}{T:ay->au->Prop}{K:Act->au->Prop}{Q:Exit->Act->au->Prop}{E:Prop}(hw:Region.wanted o (aN l.toArray a.tmps)=true)(t:aC)(parts:Array (Nat×Operand))(ho:o.op=.build t parts)(cells:Array ay)(hf:P.built t (parts.map fun(i,x)=>(i,a.eval x)).toList=some cells)
  (hT:Up T (ai cells) w) (hK:∀v w',aS w.heap.size w w'->Up T v w'->K (a.put o.dst v) w'):if Region.wanted o (aN l.toArray a.tmps)=true then Oper.wp P o a w K Q else E:=
 oL hw (ai cells) (by unfold execOp;simp only[ho,Sem.run_bind,run_build w t _ cells hf,Result.andThen_ok];rfl) hT hK
theorem wrap_i64(q:Nat)(h:q<=9223372036854775807):IntKind.i64.wrap (q:Int)=(q:Int):=by
 show(let m:=(q:Int)%(2^64:Int);if(true&&decide (m≥(2^63:Int)))=true then m-(2^64:Int)else m)=_
 have h1:(2:Int)^64=18446744073709551616:=rfl;have h2:(2:Int)^63=9223372036854775808:=rfl;have e1:(q:Int)%(2^64:Int)=(q:Int):=Int.emod_eq_of_lt (by omega) (by omega);simp only[e1];rw[if_neg (by simp;omega)]
theorem um(A A2:Option aw)(L c k:Nat)(hk:k<=L)(hA:(if c=k then A else A.map (·.add k))=A2)(w:au):(Instr.sliceAt 22 (af A L c) (some (ae ak (k:Int))) none none).run prog w=.ok (af A2 (L-k) (c-k)) w:=by
 obtain⟨i0,hi,ah,ad,al⟩:=info_parts ox;have hs:(sizeOf 5).run prog w=.ok 1 w:=by simp[sizeOf,typeInfo,hi,ad,go_sem]
 rw[run_sliceAt_slice (h:=underlying22),run_slice_l (ht:=underlying22) (h0:=by omega) (h1:=by omega)];have he:prog.elem 22=5:=by kernel_rfl
 rw[he,hs];simp[sliced,<-hA,Result.andThen]
theorem uo(A:Option aw)(L c k:Nat)(hk:k<=c)(w:au):(Instr.sliceAt 22 (af A L c) none (some (ae ak (k:Int))) none).run prog w=.ok (af A k c) w:=by
 obtain⟨i0,hi,ah,ad,al⟩:=info_parts ox;have hs:(sizeOf 5).run prog w=.ok 1 w:=by simp[sizeOf,typeInfo,hi,ad,go_sem]
 rw[run_sliceAt_slice (h:=underlying22),run_slice_h (ht:=underlying22) (h0:=by omega) (h2:=by omega)];have he:prog.elem 22=5:=by kernel_rfl
 rw[he,hs];have h0:(if c=0 then A else A.map fun x=>x.add 0)=A:=by
  split
  ·rfl
  ·cases A with
   |none=>rfl
   |some a=>simp[Addr.add]
 simp[sliced,Result.andThen,h0]
end Go.Proofs.YtgokdgcmkcmjeaaGreat
