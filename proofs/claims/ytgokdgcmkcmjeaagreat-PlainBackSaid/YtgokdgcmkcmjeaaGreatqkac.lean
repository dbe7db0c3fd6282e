/-
  Words and walks.
-/
import Derived.IntWalk
import Derived.Deep.RegionHeld3
import Derived.Test.YtgokdgcmkcmjeaaGreatqkaa
import Derived.Test.YtgokdgcmkcmjeaaGreatqkab
set_option maxRecDepth 100000
set_option maxHeartbeats 16000000
namespace Go.Proofs.YtgokdgcmkcmjeaaGreat
open Value renaming int → ae, slice → af, pointer → ag, agg → ai, bool → aj
open IntKind renaming i64 → ak
open Obj renaming cells → ao
open Ending renaming returned → aq
open Go renaming World → au, Addr → aw, Calls → ax, Value → ay, TypeId → aC, heap_alloc_new → aH, setRow_other → aM, heap_setCell_same → aO, frozen_of_row → aP
open Go.RowKit renaming intOf → aQ, Below → aS
open _root_.Go.Proofs.Tryz
open Go.RowKit
theorem MD{f g:Nat->Nat}{n:Nat}(fh:Int)(h:∀j,j<n->f j=g j):fD f n fh=fD g n fh:=by
 have ad:∀k,k<=n->UY f k=UY g k/\gy f k=gy g k:=by
  intro k;induction k with
  |zero=>intro _;exact⟨rfl,rfl⟩
  |succ k ih=>
   intro hk;have:=ih (by omega);simp only[UY,gy,h k (by omega),this.1,this.2];exact⟨trivial,trivial⟩
 have hb:mm f n fh=mm g n fh:=by
  unfold mm;rw[decide_eq_decide];constructor
  ·rintro⟨j,hj,hl⟩;exact⟨j,hj,by rw[<-h j hj];exact hl⟩
  ·rintro⟨j,hj,hl⟩;exact⟨j,hj,by rw[h j hj];exact hl⟩
 unfold fD;rw[hb,(ad n fe).1,(ad n fe).2]
theorem ET{f g:Nat->Nat}(m:Nat):∀n,(∀j,j<n->f j=g j)->tcN f m n=tcN g m n
 |0,_=>rfl
 |n+1,h=>by simp only[tcN];rw[ET m n (fun j hj=>h j (by omega)),h n (by omega)]
theorem EU{f g:Nat->Nat}(m:Nat):∀n,(∀j,j<n->f j=g j)->US f m n=US g m n
 |0,_=>rfl
 |n+1,h=>by simp only[US];rw[EU m n (fun j hj=>h j (by omega)),h n (by omega)]
theorem EV{f g:Nat->Nat}(n:Nat)(h:∀j,j<n->f j=g j):∀M,fZ f n M=fZ g n M
 |0=>rfl
 |M+1=>by simp only[fZ];rw[EV n h M,EU (M+1) n h]
def tH(u:Nat->Nat)(j:Nat):Nat:=if j<320 then u j else 0
theorem ME{u:Nat->Nat}{j:Nat}(h:j<320):tH u j=u j:=by unfold tH;rw[if_pos h]
theorem MF{c:Nat->Int}{s:List Int}{u:Nat->Nat}(h1:fD u 320 15=0)(h2:zV (fun m=>(tcN u m 320:Int)) c (gg (fZ u 320 15)) s=true):lC c s (tH u):=by
 have he:∀j,j<320->u j=tH u j:=fun j hj=>(ME hj).symm
 unfold zV at h2;rw[Bool.and_eq_true,EO]at h2;refine⟨by rw[<-MD 15 he];exact h1,fun j hj=>by unfold tH;rw[if_neg (by omega)],fun m hm=>?_,?_⟩
 ·rw[<-h2.1 m hm,ET m 320 he]
 ·rw[<-EV 320 he];exact(of_decide_eq_true h2.2).symm
def bvN(g:Nat->Nat)(at_:Nat):Nat->Nat
 |0=>0
 |n+1=>2*bvN g at_ n+iO g (at_+n)
theorem EW(g:Nat->Nat)(at_:Nat):∀n,bvN g at_ n<2^n
 |0=>by simp[bvN]
 |n+1=>by
  have h1:=EW g at_ n;have h2:=th g (at_+n);simp only[bvN,Nat.pow_succ];omega
def oC(f:Nat->Nat)(N v n i:Nat):Bool:=decide (0<n/\f i=n/\gG f N i=v)
def si(f:Nat->Nat)(N v n i:Nat):Bool:=decide (n<f i/\gG f N i/2^(f i-n)=v)
def Vl(f:Nat->Nat)(N v n:Nat):Nat->Option Nat
 |0=>none
 |k+1=>match Vl f N v n k with
  |some i=>some i
  |none=>if oC f N v n k=true then some k else none
def kp(f:Nat->Nat)(N v n:Nat):Nat->Bool
 |0=>false
 |k+1=>kp f N v n k||si f N v n k
theorem vn{f:Nat->Nat}{N v n i:Nat}:∀{k},Vl f N v n k=some i->i<k/\oC f N v n i=true
 |0,h=>by cases h
 |k+1,h=>by
  simp only[Vl]at h;cases hk:Vl f N v n k with
  |some j=>rw[hk]at h;injection h with h;subst h;have:=vn hk;exact⟨by omega,this.2⟩
  |none=>
   rw[hk]at h;by_cases hb:oC f N v n k=true
   ·simp only[hb,if_true]at h;injection h with h;subst h;exact⟨by omega,hb⟩
   ·simp only[if_neg hb]at h;cases h
theorem vo{f:Nat->Nat}{N v n:Nat}:∀{k},Vl f N v n k=none↔∀i,i<k->oC f N v n i=false
 |0=>⟨fun _ i hi=>absurd hi (by omega),fun _=>rfl⟩
 |k+1=>by
  simp only[Vl];constructor
  ·intro h;cases hk:Vl f N v n k with
   |some j=>rw[hk]at h;cases h
   |none=>
    rw[hk]at h;intro i hi;rcases Nat.eq_or_lt_of_le (Nat.le_of_lt_succ hi)with e|e
    ·subst e;cases hb:oC f N v n i with
     |false=>rfl
     |true=>simp[hb]at h
    ·exact vo.1 hk i e
  ·intro h;rw[vo.2 (fun i hi=>h i (by omega))];simp[h k (by omega)]
theorem zX{f:Nat->Nat}{N v n:Nat}:∀{k},kp f N v n k=true↔∃i,i<k/\si f N v n i=true
 |0=>⟨fun h=>by simp[kp]at h,fun⟨_,h,_⟩=>absurd h (by omega)⟩
 |k+1=>by
  simp only[kp,Bool.or_eq_true];rw[zX];constructor
  ·rintro(⟨i,hi,h⟩|h)
   ·exact⟨i,by omega,h⟩
   ·exact⟨k,by omega,h⟩
  ·rintro⟨i,hi,h⟩;rcases Nat.eq_or_lt_of_le (Nat.le_of_lt_succ hi)with e|e
   ·subst e;exact .inr h
   ·exact .inl ⟨i,e,h⟩
def UT(f:Nat->Nat)(N:Nat)(g:Nat->Nat)(l at_:Nat):Nat->Nat->Nat×Nat×Int
 |0,_=>(0,0,50)
 |fuel+1,n=>match Vl f N (bvN g at_ n) n N with
  |some i=>(i,at_+n,0)
  |none=>if kp f N (bvN g at_ n) n N=false then(0,0,50)else if 8*l<=at_+n then(0,0,10)else UT f N g l at_ fuel (n+1)
def vq(p:Nat×Nat×Int):ay:=.tuple #[ae ak (p.1:Int),ae ak (p.2.1:Int),ae ak p.2.2]
def zY(c:Nat->Int)(s:List Int)(e:Ending):Prop:=((∃f,lC c s f)/\e=aq (ae ak 0))\/((∀f,¬lC c s f)/\e=aq (ae ak 8))
def tI(f:Nat->Nat)(g:Nat->Nat)(l:Nat)(a:Int):Nat×Nat×Int:=if a<0 then(0,0,2)else UT f 320 g l a.toNat 17 0
def MG(c:Nat->Int)(s:List Int)(g:Nat->Nat)(l:Nat)(a:Int)(e:Ending):Prop:=
 (∃f,lC c s f/\e=aq (vq (tI f g l a)))\/((∀f,¬lC c s f)/\e=aq (vq (0,0,8)))
theorem EX(w:au)(c:Nat->Int)(v:ay):gJ (w.alloc (ao (fJ c v) 26)) w.heap.size c v:=aH w _
def fG(n:Nat)(f:Nat->Nat)(j:Nat):Nat:=if j<n then f j else 0
theorem vt{n j:Nat}(f:Nat->Nat)(h:j<n):fG n f j=f j:=by unfold fG;rw[if_pos h]
theorem tJ{n j:Nat}(f:Nat->Nat)(h:n<=j):fG n f j=0:=by unfold fG;rw[if_neg (by omega)]
theorem MH{n:Nat}(f:Nat->Nat):∀k,n<=k->UY (fG n f) k=UY f n/\gy (fG n f) k=gy f n:=by
 have h0:∀k,k<=n->UY (fG n f) k=UY f k/\gy (fG n f) k=gy f k:=by
  intro k;induction k with
  |zero=>intro _;exact⟨rfl,rfl⟩
  |succ k ih=>intro hk;have:=ih (by omega);simp only[UY,gy,vt f (show k<n by omega),this.1,this.2];exact⟨trivial,trivial⟩
 intro k;induction k with
 |zero=>intro hk;rw[show n=0 by omega];exact⟨rfl,rfl⟩
 |succ k ih=>
  intro hk;rcases Nat.eq_or_lt_of_le hk with e|e
  ·rw[<-e];exact h0 n fe
  ·have:=ih (by omega);simp only[UY,gy,tJ f (show n<=k by omega)];exact⟨by simpa using this.1,by simpa using this.2⟩
theorem zZ{n m:Nat}(f:Nat->Nat)(hm:0<m):∀k,n<=k->tcN (fG n f) m k=tcN f m n/\US (fG n f) m k=US f m n/\iW (fG n f) m k=iW f m n:=by
 have h0:∀k,k<=n->tcN (fG n f) m k=tcN f m k/\US (fG n f) m k=US f m k/\iW (fG n f) m k=iW f m k:=by
  intro k;induction k with
  |zero=>intro _;exact⟨rfl,rfl,rfl⟩
  |succ k ih=>intro hk;have:=ih (by omega);simp only[tcN,US,iW,vt f (show k<n by omega),this.1,this.2.1,this.2.2];exact⟨trivial,trivial,trivial⟩
 intro k;induction k with
 |zero=>intro hk;rw[show n=0 by omega];exact⟨rfl,rfl,rfl⟩
 |succ k ih=>
  intro hk;rcases Nat.eq_or_lt_of_le hk with e|e
  ·rw[<-e];exact h0 n fe
  ·have:=ih (by omega);simp only[tcN,US,iW,tJ f (show n<=k by omega)];rw[if_neg (by omega),if_neg (by omega),if_neg (by omega)];exact⟨this.1,by simpa using this.2.1,this.2.2⟩
theorem EY{n:Nat}(f:Nat->Nat){k:Nat}(hk:n<=k):∀M,ia (fG n f) k M=ia f n M
 |0=>rfl
 |M+1=>by simp only[ia];rw[EY f hk M,(zZ f (by omega) k hk).2.2]
theorem EZ{n:Nat}(f:Nat->Nat){k:Nat}(hk:n<=k):∀M,fZ (fG n f) k M=fZ f n M
 |0=>rfl
 |M+1=>by simp only[fZ];rw[EZ f hk M,(zZ f (by omega) k hk).2.1]
theorem E0{f g:Nat->Nat}(m:Nat):∀i,(∀j,j<i->f j=g j)->iW f m i=iW g m i
 |0,_=>rfl
 |i+1,h=>by simp only[iW];rw[E0 m i (fun j hj=>h j (by omega)),h i (by omega)]
theorem z8{n:Nat}(f:Nat->Nat){k:Nat}(hk:n<=k){i:Nat}(hi:i<n):gG (fG n f) k i=gG f n i:=by
 unfold gG kV;rw[vt f hi,EY f hk,E0 (f i) i (fun j hj=>vt f (by omega))]
theorem MI{f:Nat->Nat}{n:Nat}{fh:Int}(h:fD f n fh=0):fD (fG n f) 320 15=0:=by
 obtain⟨h1,ad,hn,hb,ha,ho⟩:=lk h;obtain⟨e1,e2⟩:=MH f 320 hn;unfold fD;rw[if_neg (by omega),if_neg (by omega)];have:mm (fG n f) 320 15=false:=zl fun j _=>by
  unfold fG;split
  ·rename_i hj;have:=hb j hj;omega
  ·omega
 rw[this,if_neg (by decide),e1,e2];unfold oT;rw[if_neg (by omega),if_pos ho]
theorem vu{f:Nat->Nat}{n:Nat}{fh:Int}(h:fD f n fh=0):lC (ib f n fh) (gZ f n fh) (fG n f):=by
 have hn:=(lk h).2.2.1;refine⟨MI h,fun j hj=>tJ f (by omega),fun m hm=>?_,?_⟩
 ·unfold ib;rw[if_pos h];rcases Nat.eq_zero_or_pos m with e|e
  ·subst e;rw[qv,qv]
  ·rw[(zZ f e 320 hn).1]
 ·unfold gZ;rw[if_pos h,EZ f hn]
theorem MJ{f:Nat->Nat}{n v k:Nat}(hn:n<=320):∀i,i<n->oC (fG n f) 320 v k i=oC f n v k i/\si (fG n f) 320 v k i=si f n v k i:=fun i hi=>by
 unfold oC si;rw[vt f hi,z8 f hn hi];exact⟨rfl,rfl⟩
theorem E4{f:Nat->Nat}{n v k:Nat}(hn:n<=320):Vl (fG n f) 320 v k 320=Vl f n v k n/\kp (fG n f) 320 v k 320=kp f n v k n:=by
 have h0:∀j,j<=n->Vl (fG n f) 320 v k j=Vl f n v k j/\kp (fG n f) 320 v k j=kp f n v k j:=by
  intro j;induction j with
  |zero=>intro _;exact⟨rfl,rfl⟩
  |succ j ih=>
   intro hj;have h:=ih (by omega);have he:=MJ (f:=f) (v:=v) (k:=k) hn j (by omega);simp only[Vl,kp];rw[h.1,h.2,he.1,he.2];exact⟨rfl,rfl⟩
 have h1:∀j,n<=j->Vl (fG n f) 320 v k j=Vl f n v k n/\kp (fG n f) 320 v k j=kp f n v k n:=by
  intro j;induction j with
  |zero=>
   intro hj;obtain rfl:n=0:=by omega
   exact⟨rfl,rfl⟩
  |succ j ih=>
   intro hj;rcases Nat.eq_or_lt_of_le hj with e|e
   ·rw[<-e];exact h0 n fe
   ·have h:=ih (by omega);have hi:oC (fG n f) 320 v k j=false:=decide_eq_false (by rw[tJ f (by omega)];omega);have ho:si (fG n f) 320 v k j=false:=decide_eq_false (by rw[tJ f (by omega)];omega);simp only[Vl,kp];rw[h.1,h.2,ho,Bool.or_false];refine⟨?_,rfl⟩;cases Vl f n v k n with
    |some _=>rfl
    |none=>simp[hi]
 exact h1 320 hn
theorem tK{f:Nat->Nat}{n:Nat}(hn:n<=320)(g:Nat->Nat)(l a:Nat):∀fuel k,UT (fG n f) 320 g l a fuel k=UT f n g l a fuel k
 |0,_=>rfl
 |fuel+1,k=>by
  simp only[UT];rw[(E4 (f:=f) (v:=bvN g a k) (k:=k) hn).1,(E4 (f:=f) (v:=bvN g a k) (k:=k) hn).2,tK hn g l a fuel (k+1)]
theorem xt(g:Nat->Nat)(a k:Nat):∀d,bvN g a (k+d)/2^d=bvN g a k
 |0=>by simp
 |d+1=>by
  have h:=th g (a+(k+d));have e:bvN g a (k+(d+1))/2=bvN g a (k+d):=by
   show(2*bvN g a (k+d)+iO g (a+(k+d)))/2=_
   omega
  rw[Nat.pow_succ,Nat.mul_comm,<-Nat.div_div_eq_div_mul,e];exact xt g a k d
theorem xu{f:Nat->Nat}{N:Nat}{g:Nat->Nat}{l a:Nat}:∀fuel k,(UT f N g l a fuel k).2.2=0->
  ∃k',(UT f N g l a fuel k).2.1=a+k'/\(UT f N g l a fuel k).1<N/\oC f N (bvN g a k') k' (UT f N g l a fuel k).1=true
 |0,_,h=>by simp[UT]at h
 |fuel+1,k,h=>by
  simp only[UT]at h⊢;cases hf:Vl f N (bvN g a k) k N with
  |some i=>exact⟨k,rfl,(vn hf).1,(vn hf).2⟩
  |none=>
   rw[hf]at h;simp only[]at h⊢;by_cases h1:kp f N (bvN g a k) k N=false
   ·rw[if_pos h1]at h;simp at h
   ·rw[if_neg h1]at h⊢;by_cases h2:8*l<=a+k
    ·rw[if_pos h2]at h;simp at h
    ·rw[if_neg h2]at h⊢;exact xu fuel (k+1) h
theorem MK{f:Nat->Nat}{N:Nat}{g:Nat->Nat}{l a i:Nat}(hi:i<N)(ad:f i<=15)(h0:0<f i)(hc:gG f N i=bvN g a (f i))(hl:a+f i<=8*l):∀d k,k+d=f i->(UT f N g l a (17-k) k).2.2=0:=by
 intro d;induction d with
 |zero=>
  intro k hk;rw[show 17-k=(16-k)+1 by omega];simp only[UT];cases hf:Vl f N (bvN g a k) k N with
  |some j=>rfl
  |none=>
   have:=vo.1 hf i hi;have h2:oC f N (bvN g a k) k i=true:=decide_eq_true ⟨by omega,by omega,by rw[hc,show k=f i by omega]⟩;rw[this]at h2;cases h2
 |succ d ih=>
  intro k hk;rw[show 17-k=(16-k)+1 by omega];simp only[UT];cases hf:Vl f N (bvN g a k) k N with
  |some j=>rfl
  |none=>
   have hm:kp f N (bvN g a k) k N=true:=zX.2 ⟨i,hi,decide_eq_true ⟨by omega,by
    rw[hc,show f i-k=d+1 by omega,show f i=k+(d+1) by omega];exact xt g a k (d+1)⟩⟩
   simp only[];rw[if_neg (by rw[hm];decide),if_neg (by omega)];have:=ih (k+1) (by omega);rw[show 17-(k+1)=16-k by omega]at this;exact this
open Go.ChangeShapes Go.WideShapes Go.ChangeAt Go.Joins
theorem mW{w w':au}{base sz n:Nat}{e:aC}{v:ay}{xs:List ay}(h:w.ownsRow base e sz v n xs)(hb:aS w.heap.size w w'):w'.ownsRow base e sz v n xs:=by
 obtain⟨h1,h2⟩:=h;refine⟨h1,?_⟩;rcases h2 with h2|⟨g,cap,cur,hv,hg,hh,r⟩
 ·exact .inl h2
 ·exact .inr ⟨g,cap,cur,hv,hg,(hb.block g (Array.getElem?_eq_some_iff.1 hh).1).trans hh,r⟩
def fc(L:List Nat)(j:Nat):Nat:=L.getD j 0
theorem jz{L:List Nat}(h:∀x∈L,x<256)(j:Nat):fc L j<256:=by
 unfold fc;rcases Nat.lt_or_ge j L.length with g|g
 ·rw[List.getD_eq_getElem?_getD,List.getElem?_eq_getElem g];exact h _ (List.getElem_mem g)
 ·rw[List.getD_eq_getElem?_getD,List.getElem?_eq_none g];show 0<256;omega
theorem E5(L:List Nat)(x:Nat):ft L.length (fc L)=ft L.length (fc (L++[x]))/\fc (L++[x]) L.length=x:=by
 refine⟨rf fun j hj=>?_,?_⟩
 ·unfold fc;rw[List.getD_eq_getElem?_getD,List.getD_eq_getElem?_getD,List.getElem?_append_left hj]
 ·unfold fc;simp
def iT(w:au)(base:Nat)(A:Option aw)(n:Nat):Prop:=0<n->∃(g o:Nat) (cur:Array ay),A=some ⟨g,o,none⟩/\base<=g/\w.heap[g]?=some (ao cur 5 (0,0))
theorem iT.nil(w:au)(base:Nat)(A:Option aw):iT w base A 0:=fun h=>absurd h (by omega)
theorem iT.gD{w:au}{base q c n:Nat}{ad:aw}{A3:Option aw}{xs:List ay}(h:w.ownsRow base 5 1 (af (some ad) q c) q xs)(ah:q<=c)(al:n<=q)(hA:(if c=n then(some ad:Option aw)else some (ad.add n))=A3):iT w base A3 (q-n):=fun h0=>by
 rcases h.2 with⟨hv,_⟩|⟨g,cap,cur,hv,hg,hh,_⟩
 ·injection hv with h1;cases h1
 ·injection hv with h1 h2 h3
  injection h1 with h1
  subst h1;rw[if_neg (by omega)]at hA;have e:(⟨g,0,none⟩:aw).add n=⟨g,0+n,none⟩:=by unfold Addr.add;split<;>simp_all
  rw[e]at hA;exact⟨g,0+n,cur,hA.symm,hg,hh⟩
structure fP where
 kind:Nat
 last:Bool
 left:Nat
 F:Nat->Nat
 n:Nat
 G:Nat->Nat
 m:Nat
def jE(_:Nat):Nat:=0
def pP:fP:=⟨0,false,0,jE,0,jE,0⟩
def nW:fi:=⟨0,0,0⟩
def shR(g:Nat->Nat)(a:Nat):Nat->(Nat->Nat)
 |0=>jE
 |k+1=>fK (shR g a k) (gU k) (UR g (a+3*k) 3)
def vv(g:Nat->Nat)(L n:Nat)(go:Nat->List Nat->List Nat×Nat×Int)(out:List Nat)(r:Nat×Nat×Int):List Nat×Nat×Int:=
 if r.2.2≠0 then([],0,r.2.2)else if 8*L<r.2.1+fI (r.1:Int)then([],0,10)else
 if((r.1:Int)=16/\out=[])\/n<out.length+gM (r.1:Int) ((UR g r.2.1 (fI (r.1:Int)):Nat):Int)then([],0,132)
 else go (r.2.1+fI (r.1:Int)) (out++List.replicate (gM (r.1:Int) ((UR g r.2.1 (fI (r.1:Int)):Nat):Int)) (nS (r.1:Int) out))
def mB(F:Nat->Nat)(g:Nat->Nat)(L n:Nat):Nat->Nat->List Nat->List Nat×Nat×Int
 |0,a,out=>(out,a,0)
 |k+1,a,out=>if n<=out.length then(out,a,0)else vv g L n (fun a out=>mB F g L n k a out) out (UT F 19 g L a 17 0)
theorem xv(F g:Nat->Nat)(L n k a:Nat)(out:List Nat):mB F g L n (k+1) a out=if n<=out.length then(out,a,0)else vv g L n (fun a out=>mB F g L n k a out) out (UT F 19 g L a 17 0):=rfl
def xw(last:Bool)(l:List Nat)(b x y:Nat):fP×Nat×Int:=
 if fc l 256=0\/fD (fc l) x 15≠0\/fD (fc (l.drop x)) y 15≠0 then(pP,0,132)else(⟨2,last,0,fc l,x,fc (l.drop x),y⟩,b,0)
def xx(last:Bool)(r:List Nat×Nat×Int)(x y:Nat):fP×Nat×Int:=if r.2.2≠0 then(pP,0,r.2.2)else xw last r.1 r.2.1 x y
def xA(last:Bool)(F:Nat->Nat)(g:Nat->Nat)(L a x y:Nat):fP×Nat×Int:=
 if fD F 19 7≠0\/UY F 19≠32768 then(pP,0,132)else xx last (mB F g L (x+y) (x+y) a []) x y
def xB(last:Bool)(v:Nat)(g:Nat->Nat)(L a:Nat):fP×Nat×Int:=
 if 286<v%32+257\/30<v/32%32+1 then(pP,0,132)else if 8*L<a+3*(v/1024+4)then(pP,0,10)else
 xA last (shR g a (v/1024+4)) g L (a+3*(v/1024+4)) (v%32+257) (v/32%32+1)
def kq(last:Bool)(g:Nat->Nat)(L a:Nat):fP×Nat×Int:=if 8*L<a+14 then(pP,0,10)else xB last (UR g a 14) g L (a+14)
def tL(last:Bool)(x a:Nat):fP×Nat×Int:=if x%65536+x/65536≠65535 then(pP,0,131)else(⟨0,last,x%65536,jE,0,jE,0⟩,a,0)
def nx(last:Bool)(g:Nat->Nat)(L a:Nat):fP×Nat×Int:=if 8*L<a+32 then(pP,0,10)else tL last (UR g a 32) (a+32)
def sj(v:Nat)(g:Nat->Nat)(L a:Nat):fP×Nat×Int:=
 if v/2=3 then(pP,0,130)else if v/2=2 then kq (decide (v%2=1)) g L a else
 if v/2=1 then(⟨1,decide (v%2=1),0,iH,288,iZ,32⟩,a,0)else nx (decide (v%2=1)) g L ((a+7)/8*8)
def fS(g:Nat->Nat)(L a:Nat):fP×Nat×Int:=if 8*L<a+3 then(pP,0,10)else sj (UR g a 3) g L (a+3)
def mC(fL:Bool)(s:Nat):Int:=if fL then oV (s:Int)else oU (s:Int)
def kx(fL:Bool)(s:Nat):Nat:=if fL then(mO (s:Int)).toNat else(mN (s:Int)).toNat
def pQ(fL:Bool)(s x:Nat):Int:=if fL then lp (s:Int) (x:Int)else kK (s:Int) (x:Int)
def oD(fL:Bool)(s x:Nat):Int:=if fL then kM (s:Int) (x:Int)else kL (s:Int) (x:Int)
def jF(fL:Bool)(s:Nat)(g:Nat->Nat)(L a:Nat):Int×Nat×Int:=
 if mC fL s≠0 then(0,0,mC fL s)else if 8*L<a+kx fL s then(0,0,10)else
 (oD fL s (UR g a (kx fL s)),a+kx fL s,pQ fL s (UR g a (kx fL s)))
def vw(n:Int)(y:Int×Nat×Int):fi×Bool×Nat×Int:=if y.2.2≠0 then(nW,false,0,y.2.2)else(⟨0,y.1,n⟩,false,y.2.1,0)
def vy(n:Int)(r:Nat×Nat×Int)(g:Nat->Nat)(L:Nat):fi×Bool×Nat×Int:=if r.2.2≠0 then(nW,false,0,r.2.2)else vw n (jF true r.1 g L r.2.1)
def vz(k:fP)(x:Int×Nat×Int)(g:Nat->Nat)(L:Nat):fi×Bool×Nat×Int:=if x.2.2≠0 then(nW,false,0,x.2.2)else vy x.1 (UT k.G k.m g L x.2.1 17 0) g L
def sk(k:fP)(r:Nat×Nat×Int)(g:Nat->Nat)(L:Nat):fi×Bool×Nat×Int:=
 if r.2.2≠0 then(nW,false,0,r.2.2)else if r.1<256 then(⟨r.1,0,0⟩,false,r.2.1,0)else if r.1=256 then(nW,true,r.2.1,0)else vz k (jF false r.1 g L r.2.1) g L
def tM(left:Nat)(g:Nat->Nat)(L a:Nat):fi×Bool×Nat×Int:=if left=0 then(nW,true,a,0)else if 8*L<a+8 then(nW,false,0,10)else(⟨UR g a 8,0,0⟩,false,a+8,0)
def fO(k:fP)(g:Nat->Nat)(L a:Nat):fi×Bool×Nat×Int:=if k.kind=0 then tM k.left g L a else sk k (UT k.F k.n g L a 17 0) g L
def rq(k:fP):fP:={k with left:=k.left-1}
def told(g:Nat->Nat)(L ff:Nat):Nat->Option fP->List Nat->Nat->List Nat×Nat×Int
 |0,_,out,a=>(out,a,10)
 |f+1,none,out,a=>if(fS g L a).2.2≠0 then(out,a,(fS g L a).2.2)else told g L ff f (some (fS g L a).1) out (fS g L a).2.1
 |f+1,some k,out,a=>if(fO k g L a).2.2.2≠0 then(out,a,(fO k g L a).2.2.2)else
  if(fO k g L a).2.1=true then(if k.last=true then(out,(fO k g L a).2.2.1,0)else told g L ff f none out (fO k g L a).2.2.1)else
  if(out.length:Int)<(fO k g L a).1.d then(out,(fO k g L a).2.2.1,60)else
  if ff<out.length+il (fO k g L a).1 then(out,(fO k g L a).2.2.1,140)else
  told g L ff f (some (rq k)) (fV out (fO k g L a).1) (fO k g L a).2.2.1
def Ad(L:Nat):Nat:=16*L+3
def l8(L:Nat)(a:Int):Int:=if 131072<L then 4 else if a<0\/8*(L:Int)<a then 2 else 0
def mD(ff:Int):Int:=if ff<0\/131072<ff then 2 else 0
def Ae(r:List Nat×Nat×Int):List Nat×Nat×Int:=if r.2.2≠0 then([],0,r.2.2)else(r.1,r.2.1,0)
def ny(g:Nat->Nat)(L:Nat)(a ff:Int):List Nat×Nat×Int:=
 if l8 L a≠0 then([],0,l8 L a)else if mD ff≠0 then([],0,mD ff)else Ae (told g L ff.toNat (Ad L) none [] a.toNat)
theorem E6{F:Nat->Nat}{N:Nat}{g:Nat->Nat}{L a:Nat}:∀fuel k,(k=0\/a+k<=8*L)->a<=8*L->(UT F N g L a fuel k).2.2=0->(UT F N g L a fuel k).2.1<=8*L
 |0,_,_,_,h=>by simp[UT]at h
 |fuel+1,k,hk,ha,h=>by
  simp only[UT]at h⊢;cases hf:Vl F N (bvN g a k) k N with
  |some i=>
   show a+k<=8*L
   omega
  |none=>
   rw[hf]at h;simp only[]at h⊢;by_cases h1:kp F N (bvN g a k) k N=false
   ·rw[if_pos h1]at h;simp at h
   ·rw[if_neg h1]at h⊢;by_cases h2:8*L<=a+k
    ·rw[if_pos h2]at h;simp at h
    ·rw[if_neg h2]at h⊢;exact E6 fuel (k+1) (.inr (by omega)) ha h
theorem tN{F:Nat->Nat}{N:Nat}{g:Nat->Nat}{L a:Nat}(ha:a<=8*L)(h:(UT F N g L a 17 0).2.2=0):a+1<=(UT F N g L a 17 0).2.1/\(UT F N g L a 17 0).2.1<=8*L/\(UT F N g L a 17 0).1<N:=by
 obtain⟨k,e1,e2,e3⟩:=xu 17 0 h;have:=(of_decide_eq_true e3).1;exact⟨by omega,E6 17 0 (.inl rfl) ha h,e2⟩
theorem E7{F:Nat->Nat}{g:Nat->Nat}{L n:Nat}:∀k a out,a<=8*L->(mB F g L n k a out).2.2=0->a<=(mB F g L n k a out).2.1/\(mB F g L n k a out).2.1<=8*L
 |0,a,out,ha,_=>⟨Nat.le_refl _,ha⟩
 |k+1,a,out,ha,h=>by
  rw[xv]at h⊢;by_cases h0:n<=out.length
  ·rw[if_pos h0];exact⟨Nat.le_refl _,ha⟩
  ·rw[if_neg h0]at h⊢;have hr:=tN (F:=F) (N:=19) (g:=g) ha;generalize UT F 19 g L a 17 0=R at h hr⊢;unfold vv at h⊢;by_cases h1:R.2.2≠0
   ·rw[if_pos h1]at h;exact absurd h h1
   ·rw[if_neg h1]at h⊢;obtain⟨r1,r2,_⟩:=hr (by omega);by_cases h2:8*L<R.2.1+fI (R.1:Int)
    ·rw[if_pos h2]at h;simp at h
    ·rw[if_neg h2]at h⊢;split at h
     ·simp at h
     ·rename_i h3;rw[if_neg h3];have:=E7 k _ _ (by omega) h;exact⟨Nat.le_trans (show a<=R.2.1+fI (R.1:Int) by omega) this.1,this.2⟩
theorem xC{g:Nat->Nat}{L a:Nat}(h:(fS g L a).2.2=0):a+3<=(fS g L a).2.1/\(fS g L a).2.1<=8*L:=by
 unfold fS at h⊢;by_cases h0:8*L<a+3
 ·rw[if_pos h0]at h;simp at h
 ·rw[if_neg h0]at h⊢;unfold sj at h⊢;by_cases h1:UR g a 3/2=3
  ·rw[if_pos h1]at h;simp at h
  ·rw[if_neg h1]at h⊢;by_cases h2:UR g a 3/2=2
   ·rw[if_pos h2]at h⊢;unfold kq at h⊢;by_cases h3:8*L<a+3+14
    ·rw[if_pos h3]at h;simp at h
    ·rw[if_neg h3]at h⊢;generalize UR g (a+3) 14=v at h⊢;unfold xB at h⊢;by_cases h4:286<v%32+257\/30<v/32%32+1
     ·rw[if_pos h4]at h;simp at h
     ·rw[if_neg h4]at h⊢;by_cases h5:8*L<a+3+14+3*(v/1024+4)
      ·rw[if_pos h5]at h;simp at h
      ·rw[if_neg h5]at h⊢;unfold xA at h⊢;split at h
       ·simp at h
       ·rename_i h6;rw[if_neg h6];unfold xx at h⊢;split at h
        ·rename_i h7;exact absurd h h7
        ·rename_i h7;rw[if_neg h7];have hl:=E7 (F:=shR g (a+3+14) (v/1024+4)) (g:=g) (L:=L) (n:=v%32+257+(v/32%32+1)) (v%32+257+(v/32%32+1)) (a+3+14+3*(v/1024+4)) [] (by omega) (by omega);unfold xw at h⊢;split at h
         ·simp at h
         ·rename_i h8;rw[if_neg h8];exact⟨Nat.le_trans (show a+3<=a+3+14+3*(v/1024+4) by omega) hl.1,hl.2⟩
   ·rw[if_neg h2]at h⊢;by_cases h3:UR g a 3/2=1
    ·rw[if_pos h3];exact⟨Nat.le_refl _,by show a+3<=8*L;omega⟩
    ·rw[if_neg h3]at h⊢;unfold nx at h⊢;split at h
     ·simp at h
     ·rename_i h4;rw[if_neg h4];unfold tL at h⊢;split at h
      ·simp at h
      ·rename_i h5;rw[if_neg h5];show a+3<=(a+3+7)/8*8+32/\(a+3+7)/8*8+32<=8*L
       omega
theorem E8{fL:Bool}{s:Nat}{g:Nat->Nat}{L a:Nat}(h:(jF fL s g L a).2.2=0):a<=(jF fL s g L a).2.1/\(jF fL s g L a).2.1<=8*L:=by
 unfold jF at h⊢;split at h
 ·rename_i h1;exact absurd h h1
 ·rename_i h1;rw[if_neg h1];split at h
  ·simp at h
  ·rename_i h2;rw[if_neg h2];show a<=a+kx fL s/\a+kx fL s<=8*L
   omega
theorem xD{k:fP}{g:Nat->Nat}{L a:Nat}(ha:a<=8*L)(h:(fO k g L a).2.2.2=0):a<=(fO k g L a).2.2.1/\(fO k g L a).2.2.1<=8*L/\((fO k g L a).2.1=false->a+1<=(fO k g L a).2.2.1):=by
 unfold fO at h⊢;by_cases h0:k.kind=0
 ·rw[if_pos h0]at h⊢;unfold tM at h⊢;by_cases h1:k.left=0
  ·rw[if_pos h1];exact⟨Nat.le_refl _,ha,fun e=>by cases e⟩
  ·rw[if_neg h1]at h⊢;by_cases h2:8*L<a+8
   ·rw[if_pos h2]at h;simp at h
   ·rw[if_neg h2];show a<=a+8/\a+8<=8*L/\(_->a+1<=a+8)
    exact⟨by omega,by omega,fun _=>by omega⟩
 ·rw[if_neg h0]at h⊢;have hr:=tN (F:=k.F) (N:=k.n) (g:=g) ha;generalize UT k.F k.n g L a 17 0=r at h hr⊢;unfold sk at h⊢;split at h
  ·rename_i h1;exact absurd h h1
  ·rename_i h1;rw[if_neg h1];obtain⟨r1,r2,_⟩:=hr (by omega);by_cases h2:r.1<256
   ·rw[if_pos h2];show a<=r.2.1/\r.2.1<=8*L/\(_->a+1<=r.2.1)
    exact⟨by omega,r2,fun _=>r1⟩
   ·rw[if_neg h2]at h⊢;by_cases h3:r.1=256
    ·rw[if_pos h3];show a<=r.2.1/\r.2.1<=8*L/\(_->a+1<=r.2.1)
     exact⟨by omega,r2,fun _=>r1⟩
    ·rw[if_neg h3]at h⊢;have hx:=E8 (fL:=false) (s:=r.1) (g:=g) (L:=L) (a:=r.2.1);generalize jF false r.1 g L r.2.1=x at h hx⊢;unfold vz at h⊢;split at h
     ·rename_i h4;exact absurd h h4
     ·rename_i h4;rw[if_neg h4];obtain⟨x1,x2⟩:=hx (by omega);have hq:=tN (F:=k.G) (N:=k.m) (g:=g) x2;generalize UT k.G k.m g L x.2.1 17 0=q at h hq⊢;unfold vy at h⊢;split at h
      ·rename_i h5;exact absurd h h5
      ·rename_i h5;rw[if_neg h5];obtain⟨q1,q2,_⟩:=hq (by omega);have hy:=E8 (fL:=true) (s:=q.1) (g:=g) (L:=L) (a:=q.2.1);generalize jF true q.1 g L q.2.1=y at h hy⊢;unfold vw at h⊢;split at h
       ·rename_i h6;exact absurd h h6
       ·rename_i h6;rw[if_neg h6];obtain⟨y1,y2⟩:=hy (by omega);show a<=y.2.1/\y.2.1<=8*L/\(_->a+1<=y.2.1)
        exact⟨by omega,y2,fun _=>by omega⟩
def muT(L a:Nat):Option fP->Nat
 |none=>2*(8*L-a)
 |some _=>2*(8*L-a)+1
theorem xE{g:Nat->Nat}{L ff:Nat}:∀f f' st out a,a<=8*L->muT L a st<f->muT L a st<f'->told g L ff f st out a=told g L ff f' st out a
 |0,_,_,_,_,_,h,_=>absurd h (by omega)
 |_+1,0,_,_,_,_,_,h=>absurd h (by omega)
 |f+1,f'+1,none,out,a,ha,h,h'=>by
  simp only[told];by_cases h1:(fS g L a).2.2≠0
  ·rw[if_pos h1,if_pos h1]
  ·rw[if_neg h1,if_neg h1];obtain⟨b1,b2⟩:=xC (g:=g) (L:=L) (a:=a) (by omega);simp only[muT]at h h';refine xE f f' _ _ _ b2 ?_ ?_<;>(simp only[muT];omega)
 |f+1,f'+1,some k,out,a,ha,h,h'=>by
  simp only[told];by_cases h1:(fO k g L a).2.2.2≠0
  ·rw[if_pos h1,if_pos h1]
  ·rw[if_neg h1,if_neg h1];obtain⟨b1,b2,b3⟩:=xD (k:=k) (g:=g) ha (by omega);simp only[muT]at h h';by_cases h2:(fO k g L a).2.1=true
   ·rw[if_pos h2,if_pos h2];by_cases h3:k.last=true
    ·rw[if_pos h3,if_pos h3]
    ·rw[if_neg h3,if_neg h3];refine xE f f' _ _ _ b2 ?_ ?_<;>(simp only[muT];omega)
   ·rw[if_neg h2,if_neg h2];have b4:=b3 (by simpa using h2);split
    ·rfl
    ·split
     ·rfl
     ·refine xE f f' _ _ _ b2 ?_ ?_<;>(simp only[muT];omega)
theorem E9(g:Nat->Nat)(L ff f:Nat)(out:List Nat)(a:Nat):told g L ff (f+1) none out a=if(fS g L a).2.2≠0 then(out,a,(fS g L a).2.2)else told g L ff f (some (fS g L a).1) out (fS g L a).2.1:=rfl
theorem Fa(g:Nat->Nat)(L ff f:Nat)(k:fP)(out:List Nat)(a:Nat):told g L ff (f+1) (some k) out a=if(fO k g L a).2.2.2≠0 then(out,a,(fO k g L a).2.2.2)else
  if(fO k g L a).2.1=true then(if k.last=true then(out,(fO k g L a).2.2.1,0)else told g L ff f none out (fO k g L a).2.2.1)else
  if(out.length:Int)<(fO k g L a).1.d then(out,(fO k g L a).2.2.1,60)else
  if ff<out.length+il (fO k g L a).1 then(out,(fO k g L a).2.2.1,140)else
  told g L ff f (some (rq k)) (fV out (fO k g L a).1) (fO k g L a).2.2.1:=rfl
def iU(g:Nat->Nat)(L ff:Nat)(st:Option fP)(out:List Nat)(a:Nat):List Nat×Nat×Int:=told g L ff (muT L a st+1) st out a
theorem sm{g:Nat->Nat}{L ff f:Nat}{st:Option fP}{out:List Nat}{a:Nat}(ha:a<=8*L)(h:muT L a st<f):told g L ff f st out a=iU g L ff st out a:=
 xE _ _ _ _ _ ha h (by omega)
theorem Fb(L a:Nat)(st:Option fP):muT L a st<Ad L:=by unfold Ad;cases st<;>simp only[muT]<;>omega
theorem Fc{g:Nat->Nat}{L ff:Nat}{out:List Nat}{a:Nat}(ha:a<=8*L):
  iU g L ff none out a=if(fS g L a).2.2≠0 then(out,a,(fS g L a).2.2)else iU g L ff (some (fS g L a).1) out (fS g L a).2.1:=by
 rw[<-sm ha (f:=muT L a none+1+1) (by omega),E9]
 by_cases h1:(fS g L a).2.2≠0
 ·rw[if_pos h1,if_pos h1]
 ·rw[if_neg h1,if_neg h1];obtain⟨b1,b2⟩:=xC (g:=g) (L:=L) (a:=a) (by omega);refine sm b2 ?_;simp only[muT];omega
theorem Af{g:Nat->Nat}{L ff:Nat}{k:fP}{out:List Nat}{a:Nat}(ha:a<=8*L):
  iU g L ff (some k) out a=if(fO k g L a).2.2.2≠0 then(out,a,(fO k g L a).2.2.2)else
  if(fO k g L a).2.1=true then(if k.last=true then(out,(fO k g L a).2.2.1,0)else iU g L ff none out (fO k g L a).2.2.1)else
  if(out.length:Int)<(fO k g L a).1.d then(out,(fO k g L a).2.2.1,60)else
  if ff<out.length+il (fO k g L a).1 then(out,(fO k g L a).2.2.1,140)else
  iU g L ff (some (rq k)) (fV out (fO k g L a).1) (fO k g L a).2.2.1:=by
 rw[<-sm ha (f:=muT L a (some k)+1+1) (by omega),Fa]
 by_cases h1:(fO k g L a).2.2.2≠0
 ·rw[if_pos h1,if_pos h1]
 ·rw[if_neg h1,if_neg h1];obtain⟨b1,b2,b3⟩:=xD (k:=k) (g:=g) ha (by omega);by_cases h2:(fO k g L a).2.1=true
  ·rw[if_pos h2,if_pos h2];by_cases h3:k.last=true
   ·rw[if_pos h3,if_pos h3]
   ·rw[if_neg h3,if_neg h3];refine sm b2 ?_;simp only[muT];omega
  ·rw[if_neg h2,if_neg h2];have b4:=b3 (by simpa using h2);split
   ·rfl
   ·split
    ·rfl
    ·refine sm b2 ?_;simp only[muT];omega
abbrev Rz:=Nat×Int
def jv(s:Rz)(x:Int):Rz:=if s.2=0 then(s.1,x)else s
def ig(s:Rz)(b:Bool)(x:Int):Rz:=if b=true then s else jv s x
def fT(g:Nat->Nat)(L n:Nat)(s:Rz):Nat:=if s.2≠0 then 0 else if 8*L<s.1+n then 0 else UR g s.1 n
def fR(L n:Nat)(s:Rz):Rz:=if s.2≠0 then s else if 8*L<s.1+n then(s.1,10)else(s.1+n,0)
def jM(r:Nat×Nat×Int)(s:Rz):Nat:=if s.2≠0 then 0 else if r.2.2≠0 then 0 else r.1
def jf(r:Nat×Nat×Int)(s:Rz):Rz:=if s.2≠0 then s else if r.2.2≠0 then(s.1,r.2.2)else(r.2.1,0)
def mE(fL:Bool)(y:Nat)(s:Rz):Rz:=jv s (mC fL y)
def Ag(fL:Bool)(y:Nat)(g:Nat->Nat)(L:Nat)(s:Rz):Nat:=fT g L (kx fL y) (mE fL y s)
def oE(fL:Bool)(y:Nat)(g:Nat->Nat)(L:Nat)(s:Rz):Int:=oD fL y (Ag fL y g L s)
def kZ(fL:Bool)(y:Nat)(g:Nat->Nat)(L:Nat)(s:Rz):Rz:=jv (fR L (kx fL y) (mE fL y s)) (pQ fL y (Ag fL y g L s))
def sn(s:Rz):Rz:=((s.1+7)/8*8,s.2)
def o7(g:Nat->Nat)(L:Nat)(s:Rz):Nat:=fT g L 16 (sn s)
def oF(g:Nat->Nat)(L:Nat)(s:Rz):Rz:=ig (fR L 16 (fR L 16 (sn s))) (decide ((fT g L 16 (fR L 16 (sn s)):Int)=65535-(o7 g L s:Int))) 131
def hH(F:Nat->Nat)(n:Nat)(fh:Int)(s:Rz):Rz:=ig s (decide (fD F n fh=0)) 132
def shS(L:Nat)(s:Rz):Nat->Rz
 |0=>s
 |k+1=>fR L 3 (shS L s k)
def ky(g:Nat->Nat)(L:Nat)(s:Rz):Nat->(Nat->Nat)
 |0=>jE
 |k+1=>fK (ky g L s k) (gU k) (fT g L 3 (shS L s k))
def iV(F:Nat->Nat)(g:Nat->Nat)(L:Nat)(s:Rz):Nat:=jM (UT F 320 g L s.1 17 0) s
def mX(F:Nat->Nat)(g:Nat->Nat)(L:Nat)(s:Rz):Rz:=jf (UT F 320 g L s.1 17 0) s
def mY(F:Nat->Nat)(g:Nat->Nat)(L:Nat)(s:Rz):Nat:=fT g L (fI (iV F g L s:Int)) (mX F g L s)
def o8(F:Nat->Nat)(g:Nat->Nat)(L:Nat)(s:Rz):Rz:=fR L (fI (iV F g L s:Int)) (mX F g L s)
def pR(F:Nat->Nat)(g:Nat->Nat)(L:Nat)(s:Rz):Nat:=gM (iV F g L s:Int) (mY F g L s:Int)
def mZ(F:Nat->Nat)(g:Nat->Nat)(L n made:Nat)(s:Rz):Rz:=ig (ig (o8 F g L s) (decide (0<made\/iV F g L s≠16)) 132) (decide (made+pR F g L s<=n)) 132
def lnS(F:Nat->Nat)(g:Nat->Nat)(L n:Nat):Nat->Nat->List (Int×Int)->Rz->List (Int×Int)×Rz
 |0,_,l,s=>(l,s)
 |k+1,made,l,s=>if made<n/\s.2=0 then lnS F g L n k (made+pR F g L s) (l++[((iV F g L s:Int),(mY F g L s:Int))]) (mZ F g L n made s)else(l,s)
def gC(k:fP)(g:Nat->Nat)(L:Nat)(s:Rz):fi×Bool×Rz:=
 if k.kind=0 then(if k.left=0 then(nW,true,s)else(⟨fT g L 8 s,0,0⟩,false,fR L 8 s))else
 let r:=UT k.F k.n g L s.1 17 0
 let y:=jM r s
 let s1:=jf r s
 if y<256 then(⟨y,0,0⟩,false,s1)else if y=256 then(nW,true,s1)else
 let s2:=kZ false y g L s1
 let r2:=UT k.G k.m g L s2.1 17 0
 let z:=jM r2 s2
 let s3:=jf r2 s2
 (⟨0,oE true z g L s3,oE false y g L s1⟩,false,kZ true z g L s3)
theorem tO{s:Rz}(h:s.2≠0)(x:Int):jv s x=s:=by unfold jv;rw[if_neg h]
theorem pa{s:Rz}(h:s.2≠0)(b:Bool)(x:Int):ig s b x=s:=by unfold ig;rw[tO h];split<;>rfl
theorem nz{L n:Nat}{s:Rz}(h:s.2≠0):fR L n s=s:=by unfold fR;rw[if_pos h]
theorem Fe{g:Nat->Nat}{L n:Nat}{s:Rz}(h:s.2≠0):fT g L n s=0:=by unfold fT;rw[if_pos h]
theorem xF{r:Nat×Nat×Int}{s:Rz}(h:s.2≠0):jf r s=s:=by unfold jf;rw[if_pos h]
theorem Ff{r:Nat×Nat×Int}{s:Rz}(h:s.2≠0):jM r s=0:=by unfold jM;rw[if_pos h]
theorem Aj{fL:Bool}{y:Nat}{g:Nat->Nat}{L:Nat}{s:Rz}(h:s.2≠0):kZ fL y g L s=s:=by
 have h1:mE fL y s=s:=tO h _;unfold kZ;rw[h1,nz h,tO h]
theorem ML{k:fP}{g:Nat->Nat}{L:Nat}{s:Rz}(h:s.2≠0):(gC k g L s).2.2=s:=by
 unfold gC;split
 ·split
  ·rfl
  ·exact nz h
 ·simp only[Ff h,xF h];rw[if_pos (by omega)]
theorem ld{L n:Nat}{s:Rz}(h:s.1<=8*L):(fR L n s).1<=8*L:=by
 unfold fR;split
 ·exact h
 ·split
  ·exact h
  ·show s.1+n<=8*L;omega
theorem tP{s:Rz}{x:Int}:(jv s x).1=s.1:=by unfold jv;split<;>rfl
theorem nX{s:Rz}{b:Bool}{x:Int}:(ig s b x).1=s.1:=by unfold ig;split;rfl;exact tP
theorem rr{F:Nat->Nat}{N:Nat}{g:Nat->Nat}{L:Nat}{s:Rz}(h:s.1<=8*L):(jf (UT F N g L s.1 17 0) s).1<=8*L:=by
 unfold jf;split
 ·exact h
 ·split
  ·exact h
  ·rename_i h2;exact(tN (F:=F) (N:=N) (g:=g) h (by omega)).2.1
theorem Ak{fL:Bool}{y:Nat}{g:Nat->Nat}{L:Nat}{s:Rz}(h:s.1<=8*L):(kZ fL y g L s).1<=8*L:=by
 unfold kZ;rw[tP];exact ld (by unfold mE;rw[tP];exact h)
theorem MN{L:Nat}{s:Rz}(h:s.1<=8*L):(sn s).1<=8*L:=by unfold sn;show(s.1+7)/8*8<=8*L;omega
theorem mF(g:Nat->Nat)(L n:Nat)(s:Rz):fT g L n s<2^n:=by
 unfold fT;split
 ·exact Nat.two_pow_pos n
 ·split
  ·exact Nat.two_pow_pos n
  ·exact nj g s.1 n
theorem MO{F:Nat->Nat}{N:Nat}{g:Nat->Nat}{L:Nat}{s:Rz}(h:s.1<=8*L)(hN:0<N):jM (UT F N g L s.1 17 0) s<N:=by
 unfold jM;split
 ·exact hN
 ·split
  ·exact hN
  ·rename_i h2;exact(tN (F:=F) (N:=N) (g:=g) h (by omega)).2.2
theorem An{L:Nat}{s:Rz}(h:s.1<=8*L):∀k,(shS L s k).1<=8*L
 |0=>h
 |k+1=>ld (An h k)
theorem lf{L n a:Nat}:fR L n (a,0)=if 8*L<a+n then(a,10)else(a+n,0):=rfl
theorem nY{g:Nat->Nat}{L n a:Nat}:fT g L n (a,0)=if 8*L<a+n then 0 else UR g a n:=rfl
theorem Fg{fL:Bool}{y:Nat}{g:Nat->Nat}{L a:Nat}:
  ((jF fL y g L a).2.2=0->kZ fL y g L (a,0)=((jF fL y g L a).2.1,0)/\oE fL y g L (a,0)=(jF fL y g L a).1)/\((jF fL y g L a).2.2≠0->(kZ fL y g L (a,0)).2=(jF fL y g L a).2.2):=by
 have h1:mE fL y (a,0)=(a,mC fL y):=by unfold mE jv;rw[if_pos rfl]
 unfold kZ oE Ag
 rw[h1]
 unfold jF
 by_cases e0:mC fL y≠0
 ·rw[if_pos e0];refine⟨fun h=>absurd h e0,fun _=>?_⟩;rw[nz (s:=(a,mC fL y)) e0,tO (s:=(a,mC fL y)) e0]
 ·rw[if_neg e0];have e1:mC fL y=0:=by omega
  rw[e1,lf,nY];by_cases h2:8*L<a+kx fL y
  ·rw[if_pos h2,if_pos h2,if_pos h2];exact⟨fun h=>absurd h (by decide),fun _=>by rw[tO (s:=(a,10)) (show(10:Int)≠0 by decide)]⟩
  ·rw[if_neg h2,if_neg h2,if_neg h2];unfold jv;rw[if_pos rfl];exact⟨fun h=>⟨Prod.ext rfl h,rfl⟩,fun _=>rfl⟩
theorem Fh{k:fP}{g:Nat->Nat}{L a:Nat}:
  ((fO k g L a).2.2.2=0->gC k g L (a,0)=((fO k g L a).1,(fO k g L a).2.1,((fO k g L a).2.2.1,0)))/\((fO k g L a).2.2.2≠0->(gC k g L (a,0)).2.2.2=(fO k g L a).2.2.2):=by
 unfold gC fO
 by_cases h0:k.kind=0
 ·rw[if_pos h0,if_pos h0];unfold tM;by_cases h1:k.left=0
  ·rw[if_pos h1,if_pos h1];exact⟨fun _=>rfl,fun h=>absurd rfl h⟩
  ·rw[if_neg h1,if_neg h1,lf,nY];by_cases h2:8*L<a+8
   ·rw[if_pos h2,if_pos h2,if_pos h2];exact⟨fun h=>absurd h (by decide),fun _=>rfl⟩
   ·rw[if_neg h2,if_neg h2,if_neg h2];exact⟨fun _=>rfl,fun h=>absurd rfl h⟩
 ·rw[if_neg h0,if_neg h0];show(_->(let r:=UT k.F k.n g L a 17 0;_)=_)/\_
  generalize UT k.F k.n g L a 17 0=r;unfold sk;by_cases h1:r.2.2≠0
  ·have e1:jM r (a,0)=0:=by unfold jM;rw[if_neg (fun h=>h rfl),if_pos h1]
   have e2:jf r (a,0)=(a,r.2.2):=by unfold jf;rw[if_neg (fun h=>h rfl),if_pos h1]
   rw[if_pos h1];refine⟨fun h=>absurd h h1,fun _=>?_⟩;simp only[e1,e2];rw[if_pos (by omega)]
  ·have e1:jM r (a,0)=r.1:=by unfold jM;rw[if_neg (fun h=>h rfl),if_neg h1]
   have e2:jf r (a,0)=(r.2.1,0):=by unfold jf;rw[if_neg (fun h=>h rfl),if_neg h1]
   rw[if_neg h1];simp only[e1,e2];by_cases h2:r.1<256
   ·rw[if_pos h2,if_pos h2];exact⟨fun _=>rfl,fun h=>absurd rfl h⟩
   ·rw[if_neg h2,if_neg h2];by_cases h3:r.1=256
    ·rw[if_pos h3,if_pos h3];exact⟨fun _=>rfl,fun h=>absurd rfl h⟩
    ·rw[if_neg h3,if_neg h3];obtain⟨n1,n2⟩:=Fg (fL:=false) (y:=r.1) (g:=g) (L:=L) (a:=r.2.1);generalize jF false r.1 g L r.2.1=x at n1 n2⊢;unfold vz;by_cases h4:x.2.2≠0
     ·rw[if_pos h4];refine⟨fun h=>absurd h h4,fun _=>?_⟩;have e3:=n2 h4;have e4:(kZ false r.1 g L (r.2.1,0)).2≠0:=by rw[e3];exact h4
      show(kZ true _ g L (jf _ _)).2=_
      rw[xF e4,Aj e4,e3]
     ·rw[if_neg h4];obtain⟨e3,e4⟩:=n1 (by omega);rw[e3,e4];generalize UT k.G k.m g L x.2.1 17 0=q;unfold vy;by_cases h5:q.2.2≠0
      ·rw[if_pos h5];refine⟨fun h=>absurd h h5,fun _=>?_⟩;have e5:jf q (x.2.1,0)=(x.2.1,q.2.2):=by unfold jf;rw[if_neg (fun h=>h rfl),if_pos h5]
       show(kZ true _ g L (jf _ _)).2=_
       rw[e5,Aj (s:=(x.2.1,q.2.2)) h5]
      ·rw[if_neg h5];have e5:jf q (x.2.1,0)=(q.2.1,0):=by unfold jf;rw[if_neg (fun h=>h rfl),if_neg h5]
       have e6:jM q (x.2.1,0)=q.1:=by unfold jM;rw[if_neg (fun h=>h rfl),if_neg h5]
       rw[e5,e6];obtain⟨m1,m2⟩:=Fg (fL:=true) (y:=q.1) (g:=g) (L:=L) (a:=q.2.1);generalize jF true q.1 g L q.2.1=y at m1 m2⊢;unfold vw;by_cases h6:y.2.2≠0
       ·rw[if_pos h6];exact⟨fun h=>absurd h h6,fun _=>m2 h6⟩
       ·rw[if_neg h6];obtain⟨e7,e8⟩:=m1 (by omega);rw[e7,e8];exact⟨fun _=>rfl,fun h=>absurd rfl h⟩
theorem MP{g:Nat->Nat}{l a n:Nat}(hn:n<=32):rX l (a:Int) (n:Int)=(if 8*l<a+n then 10 else 0)/\(¬8*l<a+n->q9 g l (a:Int) (n:Int)=UR g a n):=by
 have h1:¬((a:Int)<0\/(n:Int)<0\/32<(n:Int)):=by omega
 unfold rX q9;rw[if_neg h1,if_neg h1];by_cases h:8*l<a+n
 ·rw[if_pos h,if_pos (by omega)];exact⟨rfl,fun h2=>absurd h h2⟩
 ·rw[if_neg h,if_neg (by omega),if_neg (by omega),Int.toNat_natCast,Int.toNat_natCast];exact⟨rfl,fun _=>rfl⟩
theorem MQ(s:Int):(oU s=0->mN s=(((mN s).toNat:Nat):Int)/\(mN s).toNat<=5)/\0<=mN s/\mN s<=5:=by
 unfold oU mN;by_cases h:257<=s/\s<=285
 ·rw[if_pos h,if_pos h];have:=DJ (s-257).toNat;exact⟨fun _=>⟨by omega,by omega⟩,by omega,by omega⟩
 ·rw[if_neg h,if_neg h];exact⟨fun g=>by omega,by omega,by omega⟩
theorem MR(s:Int):(oV s=0->mO s=(((mO s).toNat:Nat):Int)/\(mO s).toNat<=13)/\0<=mO s/\mO s<=13:=by
 unfold oV mO;by_cases h:0<=s/\s<=29
 ·rw[if_pos h,if_pos h];have:=DK s.toNat;exact⟨fun _=>⟨by omega,by omega⟩,by omega,by omega⟩
 ·rw[if_neg h,if_neg h];exact⟨fun g=>by omega,by omega,by omega⟩
theorem oG(a b:List Nat)(i:Nat):fc (a++b) i=cat (fc a) a.length (fc b) i:=by
 unfold cat;show(a++b).getD i 0=if i<a.length then a.getD i 0 else b.getD (i-a.length) 0
 rw[List.getD_eq_getElem?_getD,List.getD_eq_getElem?_getD,List.getD_eq_getElem?_getD,List.getElem?_append];split<;>rfl
theorem tQ{l:List Nat}{i:Nat}(h:l.length<=i):fc l i=0:=by
 unfold fc;rw[List.getD_eq_getElem?_getD,List.getElem?_eq_none h];rfl
theorem Fi(l:List Nat):ie l.length (fc l)=fc l:=by
 funext j;unfold ie;split
 ·rfl
 ·rw[tQ (by omega)]
theorem Ar(f:Nat->Nat)(a:Nat):fc (iF f a)=ie a f:=by
 funext j;unfold ie;by_cases h:j<a
 ·rw[if_pos h];exact wU f h
 ·rw[if_neg h];exact tQ (by rw[qp];omega)
theorem Av(l:List Nat):iF (fc l) l.length=l:=by
 apply List.ext_getElem?;intro i;unfold iF;rw[List.getElem?_map];rcases Nat.lt_or_ge i l.length with h|h
 ·rw[List.getElem?_range h];show some (fc l i)=l[i]?
  unfold fc;rw[List.getD_eq_getElem?_getD,List.getElem?_eq_getElem h];rfl
 ·rw[List.getElem?_eq_none (by simpa using h),List.getElem?_eq_none h];rfl
theorem vA(l:List Nat)(n j:Nat):fc (l.drop n) j=fc l (j+n):=by
 unfold fc;rw[List.getD_eq_getElem?_getD,List.getD_eq_getElem?_getD,List.getElem?_drop,Nat.add_comm]
theorem xG(l:List Nat){n j:Nat}(h:j<n):fc (l.take n) j=fc l j:=by
 unfold fc;rw[List.getD_eq_getElem?_getD,List.getD_eq_getElem?_getD,List.getElem?_take_of_lt h]
structure fF where
 s:Int
 h:Int
 m:Int
 z:Bool
 hist:List Nat
 wait:List Nat
 fp:List Nat
 k:Int
 jg:Bool
def Fj(p:fF):Bool:=iI p.s p.h p.m&&decide ((p.hist.length:Int)<=p.s)&&decide ((p.wait.length:Int)<p.m)&&oA (fc p.fp) p.fp.length p.k&&decide (p.k<=7)&&(!p.jg||decide (p.wait.length=0/\p.k=0))
def gO(s h m:Int)(z:Bool):fF:=⟨s,h,m,z,[],[],[],0,false⟩
def lT(S:Nat)(l:List Nat):List Nat:=l.drop (l.length-S)
def gA(p:fF)(raw:List Nat):List fi:=lu (fc (p.hist++raw)) (p.hist++raw).length p.s.toNat p.h.toNat p.z p.hist.length
def jw(fp:List Nat)(k kind:Nat)(raw:List Nat)(l:List fi)(last:Bool):List Nat×Nat:=
 (iF (fE (fc fp) k (gp (k%8) kind raw.length (fc raw) l last)) ((k+UQ (gp (k%8) kind raw.length (fc raw) l last)+7)/8),k+UQ (gp (k%8) kind raw.length (fc raw) l last))
def sr(p:fF)(q:List Nat×Nat)(raw:List Nat):fF×List Nat:=({p with hist:=lT p.s.toNat (p.hist++raw),fp:=q.1.drop (q.2/8),k:=((q.2%8:Nat):Int)},q.1.take (q.2/8))
def jm(p:fF)(raw:List Nat):Nat:=uZ p.k.toNat raw.length (fc raw) (gA p raw)
def iJ(p:fF)(raw:List Nat):fF×List Nat:=sr p (jw p.fp p.k.toNat (jm p raw) raw (gA p raw) false) raw
def Va:Nat->fF->List Nat->fF×List Nat
 |0,p,w=>({p with wait:=w},[])
 |n+1,p,w=>if p.m.toNat<=w.length then((Va n (iJ p (w.take p.m.toNat)).1 (w.drop p.m.toNat)).1,(iJ p (w.take p.m.toNat)).2++(Va n (iJ p (w.take p.m.toNat)).1 (w.drop p.m.toNat)).2)else({p with wait:=w},[])
def nC(p:fF)(b:List Nat):fF×List Nat:=Va (p.wait++b).length p (p.wait++b)
def MS(q:List Nat×Nat):List Nat×Nat:=if q.2%8=0 then q else jw q.1 q.2 0 [] [] false
def Fk(a b:List Nat×Nat):List Nat×Nat:=if b.2<a.2 then b else a
def UP(p:fF):List Nat×Nat:=
 if p.wait.length=0 then if p.k=0 then(p.fp,0)else jw p.fp p.k.toNat 0 [] [] false
 else Fk (jw p.fp p.k.toNat 0 p.wait (gA p p.wait) false) (MS (Fk (jw p.fp p.k.toNat 1 p.wait (gA p p.wait) false) (jw p.fp p.k.toNat 2 p.wait (gA p p.wait) false)))
def mG(p:fF):List Nat×Nat:=((jw p.fp p.k.toNat (jm p p.wait) p.wait (gA p p.wait) true).1,8*(jw p.fp p.k.toNat (jm p p.wait) p.wait (gA p p.wait) true).1.length)
def jY(p:fF):fF×List Nat:=({(sr p (mG p) p.wait).1 with wait:=[],jg:=true},(sr p (mG p) p.wait).2)
def lg(s h m:Int)(z:Bool)(b:List Nat):List Nat:=(nC (gO s h m z) b).2++(jY (nC (gO s h m z) b).1).2
theorem kz{s h m:Int}(e:iI s h m=true):1<=s/\s<=32768/\0<=h/\h<=256/\1<=m/\m<=65535:=by unfold iI at e;exact of_decide_eq_true e
def iA(l:List Nat):Prop:=∀x∈l,x<256
structure kA (p:fF):Prop where
 jS:iI p.s p.h p.m=true
 hist:(p.hist.length:Int)<=p.s
 wait:(p.wait.length:Int)<p.m
 k0:0<=p.k
 k7:p.k<=7
 len:p.fp.length=(p.k.toNat+7)/8
 clean:Ve (fc p.fp) p.k.toNat
 jg:p.jg=false
 bh:iA p.hist
 bw:iA p.wait
theorem MT{f:Nat->Nat}{n K:Nat}(h:Ve f K)(hn:n=(K+7)/8)(hK:K<=8388608):oA f n (K:Int)=true:=by
 unfold oA;refine decide_eq_true ⟨by omega,by omega,by simpa using hn,?_⟩;rcases Nat.eq_zero_or_pos (K%8)with h0|h0
 ·left;omega
 ·right;rw[show((K:Int)%8).toNat=K%8 by omega,show n-1=K/8 by omega];exact Nat.div_eq_of_lt h.2.2
theorem Ax{p:fF}{raw:List Nat}(h:iI p.s p.h p.m=true)(bh:iA p.hist)(br:iA raw):(gA p raw).length<=raw.length/\∀t∈gA p raw,fH t=true/\t.x<256:=by
 obtain⟨s1,s2,_⟩:=kz h;have hb:iA (p.hist++raw):=fun x hx=>(List.mem_append.1 hx).elim (bh x) (br x)
 obtain⟨h1,h2⟩:=wV (f:=fc (p.hist++raw)) (L:=(p.hist++raw).length) (size:=p.s.toNat) (chain:=p.h.toNat) p.z (by omega) ((p.hist++raw).length-p.hist.length) p.hist.length (by simp);refine⟨?_,fun t ht=>⟨(h2 t ht).1,?_⟩⟩
 ·have:(p.hist++raw).length-p.hist.length=raw.length:=by simp
  unfold gA lu;rw[this]at h1⊢;exact h1
 ·have:∀k a,∀t∈Vr (fc (p.hist++raw)) (p.hist++raw).length p.s.toNat p.h.toNat p.z k a,t.x<256:=by
   intro k;induction k with
   |zero=>intro a t ht;simp[Vr]at ht
   |succ k ih=>
    intro a t ht;simp only[Vr]at ht;split at ht
    ·cases ht
    ·split at ht
     ·rcases List.mem_cons.1 ht with rfl|ht
      ·exact jz hb a
      ·exact ih _ _ ht
     ·rcases List.mem_cons.1 ht with rfl|ht
      ·show 0<256;omega
      ·exact ih _ _ ht
  exact this _ _ t ht
theorem su(fp:List Nat)(k kind:Nat)(raw:List Nat)(l:List fi)(last:Bool):(jw fp k kind raw l last).1.length=((jw fp k kind raw l last).2+7)/8:=qp _ _
theorem vB{fp:List Nat}{k:Nat}(h:Ve (fc fp) k)(kind:Nat)(raw:List Nat)(l:List fi)(last:Bool):Ve (fc (jw fp k kind raw l last).1) (jw fp k kind raw l last).2:=by
 have hc:=h.ti (gp (k%8) kind raw.length (fc raw) l last);show Ve (fc (iF _ _)) _
 rw[Ar,zM hc rfl];exact hc
theorem Ay{q:List Nat×Nat}(h:Ve (fc q.1) q.2)(hl:q.1.length=(q.2+7)/8):Ve (fc (q.1.drop (q.2/8))) (q.2%8)/\(q.1.drop (q.2/8)).length=(q.2%8+7)/8/\(q.1.take (q.2/8)).length=q.2/8:=by
 refine⟨⟨fun j=>by rw[vA];exact h.1 _,fun j hj=>?_,?_⟩,?_,?_⟩
 ·rw[vA];exact h.2.1 _ (by omega)
 ·rw[vA,show q.2%8/8+q.2/8=q.2/8 by omega,Nat.mod_mod];exact h.2.2
 ·rw[List.length_drop,hl];omega
 ·rw[List.length_take,hl];omega
theorem Fl(S:Nat)(l:List Nat):(lT S l).length<=S:=by unfold lT;rw[List.length_drop];omega
theorem MU{S:Nat}{l:List Nat}(h:iA l):iA (lT S l):=fun x hx=>h x (List.mem_of_mem_drop hx)
theorem Fm{p:fF}(g:kA p){q:List Nat×Nat}(h:Ve (fc q.1) q.2)(hl:q.1.length=(q.2+7)/8){raw w:List Nat}(br:iA raw)(bw:iA w)(hw:(w.length:Int)<p.m):kA {(sr p q raw).1 with wait:=w}:=by
 obtain⟨c1,c2,_⟩:=Ay h hl;have hs:=kz g.jS;have e:(((q.2%8:Nat):Int)).toNat=q.2%8:=Int.toNat_natCast _;refine⟨g.jS,?_,hw,?_,?_,?_,?_,g.jg,MU fun x hx=>(List.mem_append.1 hx).elim (g.bh x) (br x),bw⟩
 ·show((lT p.s.toNat (p.hist++raw)).length:Int)<=p.s
  have:=Fl p.s.toNat (p.hist++raw);omega
 ·show 0<=((q.2%8:Nat):Int);omega
 ·show((q.2%8:Nat):Int)<=7;omega
 ·show(q.1.drop (q.2/8)).length=((((q.2%8:Nat):Int)).toNat+7)/8
  rw[e];exact c2
 ·show Ve (fc (q.1.drop (q.2/8))) (((q.2%8:Nat):Int)).toNat
  rw[e];exact c1
theorem Fo{p:fF}(g:kA p){raw:List Nat}(br:iA raw):kA (iJ p raw).1:=
 Fm g (vB g.clean _ _ _ _) (su ..) br g.bw g.wait
theorem Fp{p:fF}(g:kA p){raw:List Nat}{K:Nat}(h:K<=p.k.toNat+UQ (gp p.k.toNat 0 raw.length (fc raw) (gA p raw) false)):(K+7)/8<=(p.k.toNat+7)/8+5+raw.length:=by
 have:=g.k7;have:=g.k0
 rw[Ey]at h;unfold jV at h;omega
theorem Fq(p:fF)(raw:List Nat)(j:Nat)(hj:j<=2):UQ (gp p.k.toNat (jm p raw) raw.length (fc raw) (gA p raw) false)<=UQ (gp p.k.toNat j raw.length (fc raw) (gA p raw) false):=by
 have h:=(Ej (fun i=>UQ (gp p.k.toNat i raw.length (fc raw) (gA p raw) false)) 2 j hj).1;unfold jm uZ;exact h
theorem xH(p:fF)(raw:List Nat):jm p raw<=2:=by unfold jm uZ;exact zJ _ 2
theorem k8{p:fF}(g:kA p):p.k.toNat%8=p.k.toNat:=Nat.mod_eq_of_lt (by have:=g.k7;have:=g.k0;omega)
theorem Fs(fp:List Nat)(k kind:Nat)(raw:List Nat)(l:List fi)(last:Bool):(jw fp k kind raw l last).2=k+UQ (gp (k%8) kind raw.length (fc raw) l false):=by
 show k+UQ _=_;rw[L4]
theorem Ft{p:fF}(g:kA p)(raw:List Nat):(iJ p raw).2.length+((iJ p raw).1.k.toNat+7)/8<=(p.k.toNat+7)/8+5+raw.length:=by
 obtain⟨_,_,c3⟩:=Ay (vB g.clean (jm p raw) raw (gA p raw) false) (su ..);obtain⟨K,hK⟩:=fb ((jw p.fp p.k.toNat (jm p raw) raw (gA p raw) false).2);have h1:(iJ p raw).2.length=K/8:=by rw[hK];exact c3
 have h2:(iJ p raw).1.k.toNat=K%8:=by rw[hK];exact Int.toNat_natCast _
 have h3:K<=p.k.toNat+UQ (gp p.k.toNat 0 raw.length (fc raw) (gA p raw) false):=by
  rw[hK,Fs,k8 g];exact Nat.add_le_add_left (Fq p raw 0 (by omega)) _
 have:=Fp g h3;omega
theorem xI:∀(n:Nat) (p:fF) (w:List Nat),w.length<=n->kA p->iA w->kA (Va n p w).1/\(Va n p w).1.m=p.m/\(Va n p w).1.s=p.s/\(Va n p w).1.h=p.h/\(Va n p w).1.z=p.z/\
  ∃B,B*p.m.toNat+(Va n p w).1.wait.length=w.length/\(Va n p w).2.length+((Va n p w).1.k.toNat+7)/8<=(p.k.toNat+7)/8+5*B+B*p.m.toNat
 |0,p,w,hw,g,bw=>by
  have hm:=kz g.jS;have ad:(w.length:Int)<p.m:=by omega
  exact⟨⟨g.jS,g.hist,ad,g.k0,g.k7,g.len,g.clean,g.jg,g.bh,bw⟩,rfl,rfl,rfl,rfl,0,by show 0*_+w.length=_;omega,by show 0+(p.k.toNat+7)/8<=_;omega⟩
 |n+1,p,w,hw,g,bw=>by
  have hm:=kz g.jS;simp only[Va];by_cases h:p.m.toNat<=w.length
  ·rw[if_pos h];have bt:iA (w.take p.m.toNat):=fun x hx=>bw x (List.mem_of_mem_take hx)
   have bd:iA (w.drop p.m.toNat):=fun x hx=>bw x (List.mem_of_mem_drop hx)
   have hl:(w.take p.m.toNat).length=p.m.toNat:=by rw[List.length_take];omega
   obtain⟨i1,i2,i3,i4,i5,B,i6,i7⟩:=xI n (iJ p (w.take p.m.toNat)).1 (w.drop p.m.toNat) (by rw[List.length_drop];omega) (Fo g bt) bd;have ho:=Ft g (w.take p.m.toNat);have em:(iJ p (w.take p.m.toNat)).1.m=p.m:=rfl;rw[hl]at ho;rw[em]at i2 i6 i7;rw[List.length_drop]at i6;refine⟨i1,i2,i3,i4,i5,B+1,?_,?_⟩
   ·show(B+1)*p.m.toNat+(Va n (iJ p (w.take p.m.toNat)).1 (w.drop p.m.toNat)).1.wait.length=w.length
    rw[Nat.add_mul];omega
   ·show((iJ p (w.take p.m.toNat)).2++(Va n (iJ p (w.take p.m.toNat)).1 (w.drop p.m.toNat)).2).length+((Va n (iJ p (w.take p.m.toNat)).1 (w.drop p.m.toNat)).1.k.toNat+7)/8<=(p.k.toNat+7)/8+5*(B+1)+(B+1)*p.m.toNat
    rw[Nat.add_mul,List.length_append];omega
  ·rw[if_neg h];have ad:(w.length:Int)<p.m:=by omega
   exact⟨⟨g.jS,g.hist,ad,g.k0,g.k7,g.len,g.clean,g.jg,g.bh,bw⟩,rfl,rfl,rfl,rfl,0,by show 0*_+w.length=_;omega,by show 0+(p.k.toNat+7)/8<=_;omega⟩
theorem Fu{p:fF}(g:kA p){b:List Nat}(bb:iA b):kA (nC p b).1/\(nC p b).1.m=p.m/\(nC p b).1.s=p.s/\(nC p b).1.h=p.h/\(nC p b).1.z=p.z/\
  ∃B,B*p.m.toNat+(nC p b).1.wait.length=p.wait.length+b.length/\(nC p b).2.length+((nC p b).1.k.toNat+7)/8<=(p.k.toNat+7)/8+5*B+B*p.m.toNat:=by
 have:=xI (p.wait++b).length p (p.wait++b) fe g (fun x hx=>(List.mem_append.1 hx).elim (g.bw x) (bb x))
 unfold nC
 rw[List.length_append]at this⊢
 exact this
theorem MV{p:fF}(g:kA p):(mG p).2=8*(mG p).1.length/\(mG p).1.length<=(p.k.toNat+7)/8+5+p.wait.length:=by
 refine⟨rfl,?_⟩;show(jw p.fp p.k.toNat (jm p p.wait) p.wait (gA p p.wait) true).1.length<=_
 rw[su];refine Fp g ?_;rw[Fs,k8 g];exact Nat.add_le_add_left (Fq p p.wait 0 (by omega)) _
theorem Fv{p:fF}(g:kA p):Fj (jY p).1=true/\(jY p).1.jg=true/\(jY p).2=(mG p).1/\(jY p).2.length<=(p.k.toNat+7)/8+5+p.wait.length:=by
 obtain⟨h1,h2⟩:=MV g;have hm:=kz g.jS;have e8:(mG p).2/8=(mG p).1.length:=by rw[h1];omega
 have e2:(jY p).2=(mG p).1:=by
  show(mG p).1.take ((mG p).2/8)=_
  rw[e8,List.take_length]
 have ek:(jY p).1.k=0:=by
  show(((mG p).2%8:Nat):Int)=0
  rw[h1];omega
 have ep:(jY p).1.fp=[]:=by
  show(mG p).1.drop ((mG p).2/8)=[]
  rw[e8,List.drop_length]
 have el:=Fl p.s.toNat (p.hist++p.wait);refine⟨?_,rfl,e2,by rw[e2];exact h2⟩;unfold Fj;rw[ek,ep];have a1:iI (jY p).1.s (jY p).1.h (jY p).1.m=true:=g.jS;have a2:((jY p).1.hist.length:Int)<=(jY p).1.s:=by
  show((lT p.s.toNat (p.hist++p.wait)).length:Int)<=p.s;omega
 have a3:((jY p).1.wait.length:Int)<(jY p).1.m:=by show((0:Nat):Int)<p.m;omega
 have a4:oA (fc []) ([]:List Nat).length 0=true:=by unfold oA;exact decide_eq_true ⟨by omega,by omega,rfl,.inl rfl⟩
 have a5:(jY p).1.wait.length=0:=rfl;rw[a1,decide_eq_true a2,decide_eq_true a3,a4,a5];rfl
theorem Fw:∀(n n':Nat) (p:fF) (w:List Nat),iI p.s p.h p.m=true->w.length<=n->w.length<=n'->Va n p w=Va n' p w
 |0,0,_,_,_,_,_=>rfl
 |0,n'+1,p,w,hm,h,_=>by have:=kz hm;simp only[Va];rw[if_neg (by omega)]
 |n+1,0,p,w,hm,_,h=>by have:=kz hm;simp only[Va];rw[if_neg (by omega)]
 |n+1,n'+1,p,w,hm,h1,h2=>by
  have hs:=kz hm;simp only[Va];by_cases h:p.m.toNat<=w.length
  ·rw[if_pos h,if_pos h,Fw n n' (iJ p (w.take p.m.toNat)).1 (w.drop p.m.toNat) hm (by rw[List.length_drop];omega) (by rw[List.length_drop];omega)]
  ·rw[if_neg h,if_neg h]
theorem MW(p:fF)(x raw:List Nat):iJ {p with wait:=x} raw=({(iJ p raw).1 with wait:=x},(iJ p raw).2):=rfl
theorem xJ:∀(n:Nat) (p:fF) (x w:List Nat),Va n {p with wait:=x} w=Va n p w
 |0,_,_,_=>rfl
 |n+1,p,x,w=>by
  simp only[Va];by_cases h:p.m.toNat<=w.length
  ·rw[if_pos h,if_pos h,MW];simp only[xJ n]
  ·rw[if_neg h,if_neg h]
theorem Az{s h m:Int}(z:Bool)(hm:iI s h m=true):kA (gO s h m z):=by
 have hs:=kz hm;exact⟨hm,by show((0:Nat):Int)<=s;omega,by show((0:Nat):Int)<m;omega,by show(0:Int)<=0;omega,by show(0:Int)<=7;omega,by simp[gO],⟨fun j=>jz (L:=[]) (fun x hx=>by cases hx) j,fun j _=>tQ (l:=[]) (Nat.zero_le _),(by show fc [] 0<1;exact Nat.lt_of_le_of_lt (Nat.le_of_eq (tQ (l:=[]) fe)) (by omega))⟩,rfl,(fun x hx=>by cases hx),(fun x hx=>by cases hx)⟩
def fg(w:au)(g:Nat)(cs:Array ay)(t:aC):Prop:=w.heap[g]?=some (ao cs t (0,0))
theorem fg.lt{w:au}{g:Nat}{cs:Array ay}{t:aC}(h:fg w g cs t):g<w.heap.size:=(Array.getElem?_eq_some_iff.1 h).1
theorem fg.new(w:au)(cs:Array ay)(t:aC):fg (w.alloc (ao cs t)) w.heap.size cs t:=aH w _
theorem fg.old{w:au}{g:Nat}{cs:Array ay}{t:aC}(h:fg w g cs t)(o:Obj):fg (w.alloc o) g cs t:=(Below.heap_alloc _ _ _ h.lt).trans h
theorem fg.below{w w':au}{B g:Nat}{cs:Array ay}{t:aC}(h:fg w g cs t)(hb:aS B w w')(hg:g<B):fg w' g cs t:=(hb.block g hg).trans h
theorem fg.cell{w:au}{g i:Nat}{cs:Array ay}{t:aC}(h:fg w g cs t):w.cell? ⟨g,i,none⟩=cs[i]?:=cell_of_row w g i _ _ _ h
theorem fg.free{w:au}{g i:Nat}{cs:Array ay}{t:aC}(h:fg w g cs t):w.frozen? ⟨g,i,none⟩=false:=aP w g i _ _ h
theorem fg.set{w:au}{g:Nat}{cs:Array ay}{t:aC}(h:fg w g cs t)(i:Nat)(v:ay):fg (w.setCell ⟨g,i,none⟩ v) g (cs.setIfInBounds i v) t:=aO w g i cs _ _ h
theorem fg.other{w:au}{g:Nat}{cs:Array ay}{t:aC}(h:fg w g cs t){p:aw}(hp:g≠p.block)(u:ay):fg (w.setCell p u) g cs t:=(Below.heap_setCell w p u g hp).trans h
theorem fg.row{w:au}{g:Nat}{cs:Array ay}{t:aC}(h:fg w g cs t)(ds:Array ay):fg (w.setRow g ds) g ds t:=setRow_heap _ _ _ _ _ _ h
theorem fg.gV{w:au}{g k:Nat}{cs:Array ay}{t:aC}(h:fg w g cs t)(hk:g≠k)(ds:Array ay):fg (w.setRow k ds) g cs t:=(aM _ _ _ _ hk).trans h
theorem nD{B:Nat}{a w:au}(h:aS B a w){g:Nat}(hp:B<=g)(i:Nat)(v:ay):aS B a (w.setCell ⟨g,i,none⟩ v):=h.trans ⟨rfl,rfl,rfl,by simp[World.setCell],fun k hk=>Below.heap_setCell w _ v k (by show k≠g;omega)⟩
theorem ru{B:Nat}{a w:au}(h:aS B a w){g:Nat}(hp:B<=g)(cs:Array ay):aS B a (w.setRow g cs):=
 ⟨h.os,h.tape,h.output,by rw[size_setRow];exact h.size,fun k hk=>(aM w g k cs (by omega)).trans (h.block k hk)⟩
theorem fq.same{w:au}{B n c:Nat}{A:Option aw}{f g:Nat->Nat}(h:fq w B A n c f)(hg:∀j,g j<256)(e:∀j,j<n->f j=g j):fq w B A n c g:=
 ⟨⟨hg,fun h0=>by
  obtain⟨b,o,q1,q2,q3⟩:=h.1.2 h0;exact⟨b,o,q1,q2,fun j hj=>by rw[<-e j hj];exact q3 j hj⟩⟩,h.2⟩
def l9(p:fF)(Ah:Option aw)(hc:Nat)(Aw:Option aw)(wc:Nat)(Ap:Option aw)(pc:Nat):Array ay:=
 #[ae ak p.s,ae ak p.h,ae ak p.m,aj p.z,af Ah p.hist.length hc,af Aw p.wait.length wc,af Ap p.fp.length pc,ae ak p.k,aj p.jg]
structure pS (w:au) (B:Nat) (p:fF) (Ah:Option aw) (hc:Nat) (Aw:Option aw) (wc:Nat) (Ap:Option aw) (pc:Nat):Prop where
 hist:fq w B Ah p.hist.length hc (fc p.hist)
 wait:fq w B Aw p.wait.length wc (fc p.wait)
 fp:fq w B Ap p.fp.length pc (fc p.fp)
theorem pS.below{w w':au}{B B':Nat}{p:fF}{Ah Aw Ap:Option aw}{hc wc pc:Nat}(h:pS w B p Ah hc Aw wc Ap pc)(hb:aS B' w w')(hB:B<=B'):pS w' B p Ah hc Aw wc Ap pc:=⟨h.hist.below hb hB,h.wait.below hb hB,h.fp.below hb hB⟩
theorem pS.more{w:au}{B B':Nat}{p:fF}{Ah Aw Ap:Option aw}{hc wc pc:Nat}(h:pS w B p Ah hc Aw wc Ap pc)(hB:B<=B'):pS w B' p Ah hc Aw wc Ap pc:=⟨h.hist.more hB,h.wait.more hB,h.fp.more hB⟩
theorem xK{w:au}{B n c:Nat}{A:Option aw}{L:List Nat}(h:fq w B A n c (fc L)):iA L:=fun x hx=>by
 obtain⟨i,hi,rfl⟩:=List.mem_iff_getElem.1 hx;have:=h.1.1 i;unfold fc at this;rwa[List.getD_eq_getElem?_getD,List.getElem?_eq_getElem hi]at this
theorem rv:(prog.info? 88).map (·.size)=some 9:=by kernel_rfl
theorem tR:(prog.info? 55).map (·.size)=some 4:=by kernel_rfl
theorem MY:prog.built 88 []=some (l9 (gO 0 0 0 false) none 0 none 0 none 0):=by kernel_rfl
theorem Fx:(prog.info? 88).map (fun i=>(i.zero,i.size))=some (some (ai (l9 (gO 0 0 0 false) none 0 none 0 none 0)),9):=by kernel_rfl
theorem Fy(w:au)(B:Nat)(s h m:Int)(z:Bool):pS w B (gO s h m z) none 0 none 0 none 0:=⟨fq.nil _ _ _ (fun j=>jz (L:=[]) (fun x hx=>by cases hx) j),fq.nil _ _ _ (fun j=>jz (L:=[]) (fun x hx=>by cases hx) j),fq.nil _ _ _ (fun j=>jz (L:=[]) (fun x hx=>by cases hx) j)⟩
structure Fr (S:Nat->Prop) (w w':au):Prop where
 os:w'.os=w.os
 tape:w'.tape=w.tape
 output:w'.output=w.output
 size:w.heap.size<=w'.heap.size
 block:∀k,k<w.heap.size->¬S k->w'.heap[k]?=w.heap[k]?
def At(p:Nat):Nat->Prop:=fun k=>k=p
theorem Fr.refl(S:Nat->Prop)(w:au):Fr S w w:=⟨rfl,rfl,rfl,Nat.le_refl _,fun _ _ _=>rfl⟩
theorem Fr.trans{S:Nat->Prop}{a b c:au}(h:Fr S a b)(k:Fr S b c):Fr S a c:=
 ⟨k.os.trans h.os,k.tape.trans h.tape,k.output.trans h.output,Nat.le_trans h.size k.size,fun i hi hS=>(k.block i (Nat.lt_of_lt_of_le hi h.size) hS).trans (h.block i hi hS)⟩
theorem Fr.mono{S T:Nat->Prop}{a b:au}(h:Fr S a b)(hS:∀k,S k->T k):Fr T a b:=⟨h.os,h.tape,h.output,h.size,fun i hi hT=>h.block i hi fun hs=>hT (hS i hs)⟩
theorem Fr.of{S:Nat->Prop}{a b:au}(h:aS a.heap.size a b):Fr S a b:=⟨h.os,h.tape,h.output,h.size,fun i hi _=>h.block i hi⟩
theorem Fr.on{S:Nat->Prop}{a b c:au}(h:Fr S a b)(k:aS b.heap.size b c):Fr S a c:=h.trans (.of k)
theorem Fr.below{S:Nat->Prop}{a b:au}{B:Nat}(h:Fr S a b)(hS:∀k,S k->B<=k)(hB:B<=a.heap.size):aS B a b:=⟨h.os,h.tape,h.output,h.size,fun i hi=>h.block i (by omega) fun hs=>by have:=hS i hs;omega⟩
theorem Fr.from{S T:Nat->Prop}{w a b:au}(h:Fr S w a)(k:Fr T a b)(hT:∀j,T j->S j\/w.heap.size<=j):Fr S w b:=
 ⟨k.os.trans h.os,k.tape.trans h.tape,k.output.trans h.output,Nat.le_trans h.size k.size,fun i hi hS=>(k.block i (Nat.lt_of_lt_of_le hi h.size) fun ht=>by rcases hT i ht with x|x;exact hS x;omega).trans (h.block i hi hS)⟩
theorem Fr.cell(w:au)(p i:Nat)(v:ay):Fr (At p) w (w.setCell ⟨p,i,none⟩ v):=⟨rfl,rfl,rfl,by simp[World.setCell],fun k _ hk=>Below.heap_setCell w _ v k hk⟩
theorem Fr.row(w:au)(p:Nat)(cs:Array ay):Fr (At p) w (w.setRow p cs):=⟨rfl,rfl,rfl,by rw[size_setRow];exact Nat.le_refl _,fun k _ hk=>aM w p k cs hk⟩
theorem fg.fr{S:Nat->Prop}{w w':au}{g:Nat}{cs:Array ay}{t:aC}(h:fg w g cs t)(k:Fr S w w')(hg:¬S g):fg w' g cs t:=(k.block g h.lt hg).trans h
def jN(S:Nat->Prop)(w:au)(A:Option aw)(l:Nat)(g:Nat->Nat):Prop:=fB w w.heap.size A l g/\∀b o,0<l->A=some ⟨b,o,none⟩->¬S b
theorem jN.fr{S:Nat->Prop}{w w':au}{A:Option aw}{l:Nat}{g:Nat->Nat}(h:jN S w A l g)(k:Fr S w w'):jN S w' A l g:=by
 refine⟨⟨h.1.1,fun h0=>?_⟩,h.2⟩;obtain⟨b,o,e,hb,hc⟩:=h.1.2 h0;refine⟨b,o,e,Nat.lt_of_lt_of_le hb k.size,fun j hj=>?_⟩;have h1:=hc j hj;have h2:=k.block b hb (h.2 b o h0 e);simp only[World.cell?,h2]at h1⊢;exact h1
def pb(S:Nat->Prop)(w:au)(v:ay)(s:List Int):Prop:=nV w w.heap.size v s/\∀A n c b o,v=af A n c->0<s.length->A=some ⟨b,o,none⟩->¬S b
theorem pb.fr{S:Nat->Prop}{w w':au}{v:ay}{s:List Int}(h:pb S w v s)(k:Fr S w w'):pb S w' v s:=by
 obtain⟨⟨A,cap,e,hr,h3⟩,hn⟩:=h;refine⟨⟨A,cap,e,⟨hr.1,fun h0=>?_⟩,h3⟩,hn⟩;obtain⟨b,o,e2,hb,hc⟩:=hr.2 h0;refine⟨b,o,e2,Nat.lt_of_lt_of_le hb k.size,fun j hj=>?_⟩;have h2:=k.block b hb (hn A _ cap b o e h0 e2);have h1:=hc j hj;simp only[World.cell?,h2]at h1⊢;exact h1
theorem pb.gD{S:Nat->Prop}{w:au}{base:Nat}{v:ay}{s:List Int}(h:iz w base v s)(hS:∀k,S k->k<base):pb S w v s:=by
 refine⟨h.rd,fun A n c b o e h0 e2 hs=>?_⟩;obtain⟨g,cap,hv,ad,_⟩:=World.ownsRow.form h h0;rw[e,e2]at hv;injection hv with hv _ _
 injection hv with hv
 injection hv with e1 _ _
 have:=hS b hs;omega
def xL(A:Option aw)(l c:Nat)(s:Rz):Array ay:=#[af A l c,ae ak (s.1:Int),ae ak s.2]
def fx(w:au)(p:Nat)(A:Option aw)(l c:Nat)(s:Rz):Prop:=fg w p (xL A l c s) 69
theorem fx.b{w:au}{p:Nat}{A:Option aw}{l c:Nat}{s:Rz}(h:fx w p A l c s):w.cell? ⟨p,0,none⟩=some (af A l c):=(fg.cell h).trans rfl
theorem fx.a{w:au}{p:Nat}{A:Option aw}{l c:Nat}{s:Rz}(h:fx w p A l c s):w.cell? ⟨p,1,none⟩=some (ae ak (s.1:Int)):=(fg.cell h).trans rfl
theorem fx.e{w:au}{p:Nat}{A:Option aw}{l c:Nat}{s:Rz}(h:fx w p A l c s):w.cell? ⟨p,2,none⟩=some (ae ak s.2):=(fg.cell h).trans rfl
theorem fx.free{w:au}{p:Nat}{A:Option aw}{l c:Nat}{s:Rz}(h:fx w p A l c s)(i:Nat):w.frozen? ⟨p,i,none⟩=false:=fg.free h
theorem fx.fr{S:Nat->Prop}{w w':au}{p:Nat}{A:Option aw}{l c:Nat}{s:Rz}(h:fx w p A l c s)(k:Fr S w w')(hp:¬S p):fx w' p A l c s:=fg.fr h k hp
theorem fx.AA{w:au}{p:Nat}{A:Option aw}{l c:Nat}{s:Rz}(h:fx w p A l c s)(a:Nat):fx (w.setCell ⟨p,1,none⟩ (ae ak (a:Int))) p A l c (a,s.2):=fg.set h 1 _
theorem fx.MZ{w:au}{p:Nat}{A:Option aw}{l c:Nat}{s:Rz}(h:fx w p A l c s)(e:Int):fx (w.setCell ⟨p,2,none⟩ (ae ak e)) p A l c (s.1,e):=fg.set h 2 _
theorem fx.lt{w:au}{p:Nat}{A:Option aw}{l c:Nat}{s:Rz}(h:fx w p A l c s):p<w.heap.size:=fg.lt h
theorem AB:(prog.info? 69).map (fun i=>(i.zero,i.size))=some (some (ai (xL none 0 0 (0,0))),3):=by kernel_rfl
theorem M0:(prog.info? 69).map (·.size)=some 3:=(zero_of_info AB).2
theorem ry(w:au)(p:Nat)(A:Option aw)(l c:Nat)(s:Rz)(h:fx w p A l c s)(x:Int):
  ax prog 56 #[ag (some ⟨p,0,none⟩),ae ak x] w fun e w'=>e=aq (.tuple #[])/\fx w' p A l c (jv s x)/\Fr (At p) w w':=by
 have c2:=h.e
 have f2:=h.free 2
 have HS:=fa (h.MZ x);have HH:=fa h
 obtain⟨a,e0⟩:=s
 clear h
 by_cases h0:e0=0
 ·subst h0;have hk:jv (a,0) x=(a,x):=if_pos rfl;rw[hk];clear hk;go_enter func56,ntmps56
  go_wp2;go_end0;exact⟨rfl,HS.out,Fr.cell _ _ _ _⟩
 ·have d0:(e0==0)=false:=beq_eq_false_iff_ne.2 h0;rw[tO (s:=(a,e0)) h0];clear h0;go_enter func56,ntmps56
  go_wp2;go_end0;exact⟨rfl,HH.out,Fr.refl _ _⟩
theorem nE(w:au)(p:Nat)(A:Option aw)(l c:Nat)(s:Rz)(h:fx w p A l c s)(b:Bool)(x:Int):
  ax prog 75 #[ag (some ⟨p,0,none⟩),aj b,ae ak x] w fun e w'=>e=aq (.tuple #[])/\fx w' p A l c (ig s b x)/\Fr (At p) w w':=by
 have HK:=fa (ry w p A l c s h x);have HH:=fa h
 clear h
 cases b
 ·go_enter func75,ntmps75
  go_wp2_with fail
  refine HK.out.mono ?_;rintro e w2 ⟨rfl,h2,f2⟩;have H2:=fa h2;have F2:=fa f2
  clear h2 f2;go_wp2;go_end0;exact⟨rfl,H2.out,F2.out⟩
 ·go_enter func75,ntmps75
  go_wp2;go_end0;exact⟨rfl,HH.out,Fr.refl _ _⟩
theorem xM(w:au)(p:Nat)(A:Option aw)(l c:Nat)(g:Nat->Nat)(s:Rz)(h:fx w p A l c s)(hg:fB w w.heap.size A l g)(hl:l<=1000000)(hs:s.1<=8*l)(n:Nat)(hn:n<=32):
  ax prog 52 #[ag (some ⟨p,0,none⟩),ae ak (n:Int)] w fun e w'=>e=aq (ae ak (fT g l n s:Int))/\fx w' p A l c (fR l n s)/\Fr (At p) w w':=by
 have c2:=h.e
 have HH:=fa h
 obtain⟨a,e0⟩:=s
 by_cases h0:e0=0
 ·subst h0;rw[lf,nY];have c0:∀q:kN w.heap.size w,q.w.cell? ⟨p,0,none⟩=some (af A l c):=fun q=>fx.b (fg.below h q.h h.lt)
  have c1:∀q:kN w.heap.size w,q.w.cell? ⟨p,1,none⟩=some (ae ak (a:Int)):=fun q=>fx.a (fg.below h q.h h.lt)
  have T1:=fa fun V (hV:aS w.heap.size w V)=>(K7 V V.heap.size A l c g (a:Int) (n:Int) ((hg.below hV fe).more hV.size) (by omega) (by have:a<=8*l:=hs;omega)).mono fun e w' (q:e=aq (.tuple #[ae .u32 (q9 g l a n:Nat),ae ak (rX l a n)])/\V=w')=>(⟨q.1,q.2▸hV⟩:e=aq (.tuple #[ae .u32 (q9 g l a n:Nat),ae ak (rX l a n)])/\aS w.heap.size w w')
  obtain⟨t1,t2⟩:=MP (g:=g) (l:=l) (a:=a) (n:=n) hn;rw[t1]at T1;by_cases h2:8*l<a+n
  ·rw[if_pos h2,if_pos h2];rw[if_pos h2]at T1;obtain⟨X,hX⟩:=fb (q9 g l a n);rw[<-hX]at T1;have K:=fa fun V (hV:aS w.heap.size w V)=>ry V p A l c (a,0) (fg.below h hV h.lt) 10
   clear h hg t1 t2 hX h2 hs;go_enter func52,ntmps52
   go_wp2;refine qq w.heap.size w fz (by kernel_rfl) (by kernel_rfl) ?_;repeat (go_big_quiet_step (with_reducible exact mP T1.out _))
   refine wpQuiet_nil ?_;rintro V ⟨⟨V,hV⟩,rfl⟩;have HV:=fa hV;have KV:=fa (K.out V hV);clear hV c0 c1 c2 T1 K;go_wp2_with fail
   refine KV.out.mono ?_;rintro e w2 ⟨rfl,h2,f2⟩;have H2:=fa h2;have F2:=fa f2
   clear h2 f2;go_wp2;go_ret;exact⟨rfl,H2.out,(Fr.of HV.out).trans F2.out⟩
  ·rw[if_neg h2,if_neg h2];rw[if_neg h2,t2 h2]at T1;have ah:=nj g a n;have av:(2:Nat)^n<=2^32:=Nat.pow_le_pow_right (by omega) hn;have aT:(2:Nat)^32=4294967296:=by decide
   obtain⟨X,hX⟩:=fb (UR g a n);rw[<-hX]at T1 ah⊢;have hx:X<4294967296:=by omega
   have aV:a+n<=8*l:=by omega
   have ad:((a:Int)+(n:Int))=((a+n:Nat):Int):=by omega
   have al:=fa ad;have R1:=fa fun V (hV:aS w.heap.size w V)=>(fg.below h hV h.lt:fx V p A l c (a,0))
   clear h hg t1 t2 hX h2 ah av aT hs ad;go_enter func52,ntmps52
   go_wp2;refine qq w.heap.size w fz (by kernel_rfl) (by kernel_rfl) ?_;repeat (go_big_quiet_step (with_reducible exact mP T1.out _))
   refine wpQuiet_nil ?_;rintro V ⟨⟨V,hV⟩,rfl⟩;have HV:=fa hV;have RV:fx V p A l c (a,0):=R1.out V hV;have k1:=RV.a;have k2:=RV.free 1;have aU:=fa RV;clear hV RV R1 c0 c1 c2 T1;go_wp2;go_ret;refine⟨by first|rfl|go_num,?_,(Fr.of HV.out).trans (Fr.cell _ _ _ _)⟩;rw[al.out];exact aU.out.AA (a+n)
 ·have d0:(e0==0)=false:=beq_eq_false_iff_ne.2 h0;have d1:(e0 !=0)=true:=by simp[bne,d0]
  rw[nz (s:=(a,e0)) h0,Fe (s:=(a,e0)) h0];clear h hg h0 hs;go_enter func52,ntmps52
  go_wp2;go_ret;exact⟨rfl,HH.out,Fr.refl _ _⟩
theorem qw(w:au)(p:Nat)(A:Option aw)(l c:Nat)(g:Nat->Nat)(s:Rz)(h:fx w p A l c s)(hg:fB w w.heap.size A l g)(hl:l<=1000000)(hs:s.1<=8*l)(n:Nat)(v:Int)(hv:v=(n:Int))(hn:n<=32):
  ax prog 52 #[ag (some ⟨p,0,none⟩),ae ak v] w fun e w'=>e=aq (ae ak (fT g l n s:Int))/\fx w' p A l c (fR l n s)/\Fr (At p) w w':=by
 subst hv;exact xM w p A l c g s h hg hl hs n hn
theorem Fz(f:Nat->Nat){m i:Nat}(hm:0<m)(h:f i=m):tcN f m (i+1)=tcN f m i+1:=by
 simp only[tcN];rw[if_pos ⟨by omega,h⟩]
theorem M1(f:Nat->Nat)(m:Nat){a b:Nat}(h:a<=b):tcN f m a<=tcN f m b:=by
 induction b with
 |zero=>rw[show a=0 by omega];exact Nat.le_refl _
 |succ b ih=>
  rcases Nat.eq_or_lt_of_le h with h|h
  ·subst h;exact Nat.le_refl _
  ·exact Nat.le_trans (ih (by omega)) (Nat.le_add_right _ _)
theorem xN(f:Nat->Nat){m i n:Nat}(hm:0<m)(h:f i=m)(hi:i<n):tcN f m i<tcN f m n:=by
 have h1:=M1 f m (show i+1<=n by omega);rw[Fz f hm h]at h1;omega
theorem AE(f:Nat->Nat){m i:Nat}(hm:0<m)(h:f i=m):∀n,i<n->(US f m n).getD (tcN f m i) 0=i
 |0,hi=>absurd hi (by omega)
 |n+1,hi=>by
  simp only[US];have hlen:(US f m n).length=tcN f m n:=lQ f hm n;rcases Nat.eq_or_lt_of_le (Nat.le_of_lt_succ hi)with e|e
  ·subst e;rw[if_pos h,List.getD_eq_getElem?_getD,List.getElem?_append_right (by omega),hlen,Nat.sub_self];rfl
  ·have:=xN f hm h e;rw[List.getD_eq_getElem?_getD,List.getElem?_append_left (by omega),<-List.getD_eq_getElem?_getD];exact AE f hm h n e
theorem FC(f:Nat->Nat){m x:Nat}(hm:0<m):∀n,x<tcN f m n->∃i,i<n/\f i=m/\tcN f m i=x
 |0,h=>by simp[tcN]at h
 |n+1,h=>by
  by_cases h1:x<tcN f m n
  ·obtain⟨i,a,b,c⟩:=FC f hm n h1;exact⟨i,by omega,b,c⟩
  ·simp only[tcN]at h;by_cases h2:0<f n/\f n=m
   ·rw[if_pos h2]at h;exact⟨n,by omega,h2.2,by omega⟩
   ·rw[if_neg h2]at h;omega
theorem AF{f:Nat->Nat}{N m i:Nat}(hm:0<m)(ad:m<=15)(h:f i=m):gG f N i*pt m=ia f N (m-1)+tcN f m i*pt m:=by
 have h1:=uL (n:=N) (f:=f) (i:=i) (by omega) (by omega);rw[h]at h1;rw[h1];unfold kV;rw[sg f hm]
theorem M3{f:Nat->Nat}{N n x v:Nat}(ad:n+1<=15)(hx:x*pt (n+1)+ia f N n=v*pt (n+1))(h:x<tcN f (n+1) N):Vl f N v (n+1) N=some ((US f (n+1) N).getD x 0):=by
 have hp:=qX ad;obtain⟨i,hi,hf,hr⟩:=FC f (by omega) N h;have hc:=AF (N:=N) (by omega) ad hf;rw[hr,Nat.add_sub_cancel]at hc;have hv:gG f N i=v:=Nat.eq_of_mul_eq_mul_right hp (by omega);cases hF:Vl f N v (n+1) N with
 |none=>
  have:=vo.1 hF i hi;have h2:oC f N v (n+1) i=true:=decide_eq_true ⟨by omega,hf,hv⟩;rw[this]at h2;cases h2
 |some j=>
  obtain⟨hj,hb⟩:=vn hF;obtain⟨_,ah,av⟩:=of_decide_eq_true hb;have al:=AF (N:=N) (by omega) ad ah;rw[Nat.add_sub_cancel,av]at al;have:tcN f (n+1) j=x:=Nat.eq_of_mul_eq_mul_right hp (by omega);rw[<-this,AE f (by omega) ah N hj]
theorem Na{f:Nat->Nat}{N n x v:Nat}(ad:n+1<=15)(hx:x*pt (n+1)+ia f N n=v*pt (n+1))(h:tcN f (n+1) N<=x):Vl f N v (n+1) N=none:=by
 have hp:=qX ad;cases hF:Vl f N v (n+1) N with
 |none=>rfl
 |some j=>
  exfalso;obtain⟨hj,hb⟩:=vn hF;obtain⟨_,ah,av⟩:=of_decide_eq_true hb;have al:=AF (N:=N) (by omega) ad ah;rw[Nat.add_sub_cancel,av]at al;have:tcN f (n+1) j=x:=Nat.eq_of_mul_eq_mul_right hp (by omega);have:=xN f (by omega) ah hj;omega
theorem Nb{f:Nat->Nat}{N n a v b:Nat}(ad:n+1<=15)(h:a*pt n+ia f N n=v*pt n):(2*a+b)*pt (n+1)+ia f N n=(2*v+b)*pt (n+1):=by
 have hp:=pG (show n<=n+1 by omega) ad;rw[show n+1-n=1 by omega,Nat.pow_one]at hp;rw[hp]at h;have e1:a*(pt (n+1)*2)=2*a*pt (n+1):=by rw[Nat.mul_comm 2 a,Nat.mul_assoc,Nat.mul_comm 2]
 have e2:v*(pt (n+1)*2)=2*v*pt (n+1):=by rw[Nat.mul_comm 2 v,Nat.mul_assoc,Nat.mul_comm 2]
 rw[Nat.add_mul,Nat.add_mul];omega
theorem Nc{f:Nat->Nat}{N n x v:Nat}(hx:x*pt (n+1)+ia f N n=v*pt (n+1))(h:tcN f (n+1) N<=x):(x-tcN f (n+1) N)*pt (n+1)+ia f N (n+1)=v*pt (n+1):=by
 have e:ia f N (n+1)=ia f N n+iW f (n+1) N:=rfl;rw[e,sg f (by omega),<-hx];have:x*pt (n+1)=(x-tcN f (n+1) N)*pt (n+1)+tcN f (n+1) N*pt (n+1):=by rw[<-Nat.add_mul,Nat.sub_add_cancel h]
 omega
theorem FD{f:Nat->Nat}{n:Nat}(hn:n<=15):∀N,(∀i,i<N->f i<=n)->fM f N 15=fM f N n
 |0,_=>by rw[xj,xj]
 |N+1,h=>by
  rw[tE,tE,FD hn N (fun i hi=>h i (by omega))];have:=h N (by omega);by_cases h0:0<f N
  ·rw[if_pos ⟨h0,by omega⟩,if_pos ⟨h0,this⟩]
  ·rw[if_neg (fun g=>h0 g.1),if_neg (fun g=>h0 g.1)]
theorem FE{f:Nat->Nat}{n i:Nat}(hn:n<f i)(ad:f i<=15):∀N,i<N->fM f N n<fM f N 15
 |0,h=>absurd h (by omega)
 |N+1,h=>by
  rw[tE,tE];rcases Nat.eq_or_lt_of_le (Nat.le_of_lt_succ h)with e|e
  ·subst e;have:=zQ f i (show n<=15 by omega);rw[if_neg (by omega),if_pos ⟨by omega,ad⟩];omega
  ·have:=FE hn ad N e;by_cases h0:0<f N/\f N<=n
   ·rw[if_pos h0,if_pos ⟨h0.1,by omega⟩];omega
   ·rw[if_neg h0];omega
theorem Nd{f:Nat->Nat}{N n v:Nat}(ah:∀j,j<N->f j<=15)(ha:UY f N<=32768)(ho:UY f N=32768\/gy f N=0\/(gy f N=1/\UY f N=16384))(hn:n<=15)(hv:v<2^n)(hs:ia f N n<=v*pt n):
  kp f N v n N=decide (fM f N n<fM f N 15):=by
 rw[Bool.eq_iff_iff,decide_eq_true_eq,zX]
 constructor
 ·rintro⟨i,hi,hb⟩;obtain⟨h1,_⟩:=of_decide_eq_true hb;exact FE h1 (ah i hi) N hi
 ·intro aX;have hex:∃i,i<N/\n<f i:=by
   rcases Classical.em (∃i,i<N/\n<f i)with h|h
   ·exact h
   ·have:=FD hn N (fun i hi=>Nat.le_of_not_lt fun g=>h ⟨i,hi,g⟩);omega
  obtain⟨i,hi,av⟩:=hex;have ad:UY f N=32768->∃i,i<N/\si f N v n i=true:=by
   intro ad;have aT:=qX hn;have aW:v*pt n<32768:=by
    have h1:pt n*2^n=32768:=by
     rw[pG hn (Nat.le_refl 15),show pt 15=1 from rfl,Nat.one_mul,<-Nat.pow_add,show 15-n+n=15 by omega]
    have:=Nat.mul_lt_mul_of_pos_right hv aT;rw[Nat.mul_comm (2^n)]at this;omega
   rw[uK f N ah]at ad;obtain⟨k,hk,h0,al,g1,g2⟩:=Du f N 15 (v*pt n) (by omega);have aU:n<f k:=by
    rcases Nat.lt_or_ge n (f k)with h|h
    ·exact h
    ·have e1:=zh hk rfl h0;have e2:=zg f N h;omega
   refine⟨k,hk,decide_eq_true ⟨aU,?_⟩⟩;have hc:=uL (n:=N) h0 al;have hp:=pG (show n<=f k by omega) al;rw[<-hc]at g1 g2;have aV:=qX al;have e3:v*pt n=v*2^(f k-n)*pt (f k):=by rw[hp,Nat.mul_assoc,Nat.mul_comm (pt (f k))]
   rw[e3]at g1 g2;have e4:gG f N k<=v*2^(f k-n):=Nat.le_of_mul_le_mul_right g1 aV;have e5:v*2^(f k-n)<gG f N k+1:=Nat.lt_of_mul_lt_mul_right (a:=pt (f k)) (by rw[Nat.add_mul,Nat.one_mul];exact g2);have e6:gG f N k=v*2^(f k-n):=by omega
   rw[e6,Nat.mul_div_cancel _ (Nat.two_pow_pos _)]
  rcases ho with ho|ho|ho
  ·exact ad ho
  ·have:=Dx N ho i hi;omega
  ·rcases Nat.eq_zero_or_pos n with e|e
   ·subst e;refine⟨i,hi,decide_eq_true ⟨av,?_⟩⟩;have:=wO hi ah ha;rw[Nat.sub_zero,Nat.div_eq_of_lt this];simp at hv;omega
   ·exfalso;have h1:=(EE ah).2 ho (f i) (by have:=ah i hi;omega);have h2:=xN f (m:=f i) (by omega) rfl hi;have h3:oB (f i)=0:=by unfold oB;rw[if_neg (by omega)]
    omega
def jO(w:au)(g n:Nat)(f:Nat->Nat):Prop:=∃(cur:Array ay) (t:aC),w.heap[g]?=some (ao cur t (0,0))/\∀j,j<n->cur[j]?=some (ae .u8 (f j:Int))
theorem jO.lt{w:au}{g n:Nat}{f:Nat->Nat}(h:jO w g n f):g<w.heap.size:=by
 obtain⟨cur,t,h,_⟩:=h;exact(Array.getElem?_eq_some_iff.1 h).1
theorem jO.cell{w:au}{g n:Nat}{f:Nat->Nat}(h:jO w g n f){j:Nat}(hj:j<n):w.cell? ⟨g,j,none⟩=some (ae .u8 (f j:Int)):=by
 obtain⟨cur,t,h,hc⟩:=h;rw[cell_of_row w g j _ _ (0,0) h];exact hc j hj
theorem jO.frozen{w:au}{g n:Nat}{f:Nat->Nat}(h:jO w g n f)(j:Nat):w.frozen? ⟨g,j,none⟩=false:=by
 obtain⟨cur,t,h,_⟩:=h;exact aP w g j _ _ h
theorem jO.set{w:au}{g n:Nat}{f:Nat->Nat}(h:jO w g n f)(i x:Nat):jO (w.setCell ⟨g,i,none⟩ (ae .u8 (x:Int))) g n (fK f i x):=by
 obtain⟨cur,t,h,hc⟩:=h;refine⟨cur.setIfInBounds i (ae .u8 (x:Int)),t,aO w g i _ _ _ h,fun j hj=>?_⟩;have h1:=hc j hj;have hs:j<cur.size:=(Array.getElem?_eq_some_iff.1 h1).1;rw[Array.getElem?_setIfInBounds];unfold fK;by_cases e:j=i
 ·subst e;rw[if_pos rfl,if_pos hs,if_pos rfl]
 ·rw[if_neg (fun g=>e g.symm),if_neg e];exact h1
theorem jO.below{w w':au}{g n B:Nat}{f:Nat->Nat}(h:jO w g n f)(hb:aS B w w')(hg:g<B):jO w' g n f:=by
 obtain⟨cur,t,h,hc⟩:=h;exact⟨cur,t,(hb.block g hg).trans h,hc⟩
theorem jO.rd{w:au}{g n:Nat}{f:Nat->Nat}(h:jO w g n f)(hf:∀j,f j<256):fB w w.heap.size (some ⟨g,0,none⟩) n f:=
 ⟨hf,fun _=>⟨g,0,rfl,h.lt,fun j hj=>by rw[Nat.zero_add];exact h.cell hj⟩⟩
def mkG(u:Nat->Nat)(k:Nat)(last:Int):List Int->Option (Nat->Nat)
 |[]=>some u
 |x::xs=>if x<=last\/320<=x\/u x.toNat≠0 then none else mkG (fK u x.toNat k) k x xs
def AG(g:Nat)(w:au)(o:Option (Nat->Nat))(e:Ending)(w':au):Prop:=
 e=aq (aj o.isSome)/\(∀G,o=some G->jO w' g 320 G/\∀j,G j<256)/\aS g w w'
theorem rz{g:Nat}{w w':au}{o:Option (Nat->Nat)}(h:o=none)(hb:aS g w w'):AG g w o (aq (aj false)) w':=by
 subst h;exact⟨rfl,(fun _ h=>by cases h),hb⟩
def FG(g:Nat)(w w':au):Prop:=∀b,b≠g->w'.heap[b]?=w.heap[b]?
theorem Nf(s:List Int){j:Nat}(h:j<s.length):s.drop j=s.getD j 0::s.drop (j+1):=by
 rw[List.drop_eq_getElem_cons h,List.getD_eq_getElem?_getD,List.getElem?_eq_getElem h];rfl
theorem Ng(w:au)(g:Nat)(u:Nat->Nat)(A:Option aw)(cap:Nat)(s:List Int)(k:Nat)(hk:k<16)(ad:jO w g 320 u)(hu:∀j,u j<256)(hs:iM w g A s)(hlen:s.length<=1000000):
  ax prog 157 #[af (some ⟨g,0,none⟩) 320 320,af A s.length cap,ae .u8 (k:Int)] w fun e w'=>AG g w (mkG u k (-1) s) e w'/\FG g w w':=by
 obtain⟨n,hn⟩:=fb (s.length)
 rw[<-hn]at hlen⊢
 have HN:=fa hn;have aX:=fa ad;have HU:=fa hu;have HS:=fa hs
 clear hn ad hu hs
 go_enter func157,ntmps157
 go_wp2
 go_loopw [7,12] (fun l i wr=>∃(j:Nat) (la:Int) (v:Nat->Nat),j<=n/\i=ae ak j/\l=ae ak la/\-1<=la/\la<320/\jO wr g 320 v/\(∀j,v j<256)/\Hid (mkG u k (-1) s=mkG v k la (s.drop j))/\aS g w wr/\FG g w wr) (fun _ i _=>n-(aQ i).toNat)
 case atStart=>exact⟨0,-1,u,Nat.zero_le _,rfl,rfl,by omega,by omega,aX.out,HU.out,fa rfl,Below.refl _ _,fun _ _=>rfl⟩
 case round=>
  obtain⟨j,la,v,hj,rfl,rfl,a3,a4,ad,hv,hm,hb,ho⟩:=hrel;by_cases aU:j<n
  ·have aV:=Nf s (j:=j) (by rw[<-HN.out];exact aU);obtain⟨b,o,rfl,_,hc⟩:=(HS.out.below hb fe).at (k:=j) (by rw[<-HN.out];exact aU);have e1:=hc j (by rw[<-HN.out];exact aU);obtain⟨x,hx⟩:=fb (s.getD j 0);rw[<-hx]at e1 aV;have HM:=fa (by rw[hm.out,aV]:mkG u k (-1) s=mkG v k la (x::s.drop (j+1)));have HR:=fa ad;have HV:=fa hv;have HB:=fa hb;have HO:=fa ho
   clear ad hv hm hb ho aV hc hx;by_cases h1:x<=la
   ·have ah:mkG u k (-1) s=none:=by rw[HM.out];simp only[mkG];rw[if_pos (.inl h1)]
    have hd:decide (x<=la)=true:=by simpa using h1
    have al:=fa ah;clear HM ah;go_wp2;go_ret;exact⟨rz al.out HB.out,HO.out⟩
   ·have hd:decide (x<=la)=false:=by simpa using h1
    obtain⟨X,rfl⟩:=Int.eq_ofNat_of_zero_le (show 0<=x by omega);by_cases h2:320<=X
    ·have ah:mkG u k (-1) s=none:=by rw[HM.out];simp only[mkG];rw[if_pos (.inr (.inl (by omega)))]
     have aZ:decide ((320:Int)<=(X:Int))=true:=by simp;omega
     have a1:decide (320<=X)=true:=by simpa using h2
     have al:=fa ah;clear HM ah;go_wp2;go_ret;exact⟨rz al.out HB.out,HO.out⟩
    ·have hX:X<320:=by omega
     have aZ:decide ((320:Int)<=(X:Int))=false:=by simp;omega
     have a1:decide (320<=X)=false:=by simpa using hX
     have r1:=HR.out.cell hX;have r2:=HR.out.frozen X;have aY:=HV.out X;obtain⟨z,hz⟩:=fb (v X);rw[<-hz]at r1 aY;have HZ:=fa hz;clear hz;by_cases aW:z=0
     ·have av:mkG u k (-1) s=mkG (fK v X k) k (X:Int) (s.drop (j+1)):=by
       rw[HM.out];simp only[mkG];rw[if_neg (by rw[Int.toNat_natCast,<-HZ.out];omega),Int.toNat_natCast]
      have aT:=fa av;subst aW;clear HM av;go_wp2;go_roundw
      case rel=>
       refine⟨j+1,X,fK v X k,by omega,by go_num,rfl,by omega,by omega,HR.out.set X k,fun i=>?_,aT,HB.out.setCell (by simp) _,fun b hb=>(Below.heap_setCell wr _ _ b hb).trans (HO.out b hb)⟩;unfold fK;split
       ·omega
       ·exact HV.out i
      case measure=>simp[aQ];omega
     ·have ah:mkG u k (-1) s=none:=by rw[HM.out];simp only[mkG];rw[if_pos (.inr (.inr (by rw[Int.toNat_natCast,<-HZ.out];exact aW)))]
      have a5:((z:Int) !=0)=true:=by simp;omega
      have a2:(z !=0)=true:=by simpa using aW
      have al:=fa ah;clear HM ah;go_wp2;go_ret;exact⟨rz al.out HB.out,HO.out⟩
  ·obtain rfl:j=n:=by omega
   have av:mkG u k (-1) s=some v:=by rw[hm.out,HN.out,List.drop_length];rfl
   have HR:=fa ad;have HV:=fa hv;have HB:=fa hb;have HO:=fa ho
   have aT:=fa av;clear ad hv hb hm ho av;go_wp2;go_ret;refine⟨⟨?_,fun G h=>?_,HB.out⟩,HO.out⟩
   ·rw[aT.out];rfl
   ·rw[aT.out]at h;cases h;exact⟨HR.out,HV.out⟩
def lyG(c:Nat->Int):Nat->Nat->(Nat->Nat)->List Int->Option ((Nat->Nat)×List Int)
 |0,_,u,l=>some (u,l)
 |d+1,k,u,l=>if c k<0\/(l.length:Int)<c k then none else match mkG u k (-1) (l.take (c k).toNat)with
  |none=>none
  |some G=>lyG c d (k+1) G (l.drop (c k).toNat)
def pT(c:Nat->Int)(s:List Int):Option (Nat->Nat):=match lyG c 16 0 (fun _=>0) s with
 |none=>none
 |some (G,l)=>if c 0=0/\l=[]then some G else none
theorem FH{c:Nat->Int}{s:List Int}(h:lyG c 16 0 (fun _=>0) s=none):pT c s=none:=by unfold pT;rw[h]
theorem FI{c:Nat->Int}{s:List Int}{G:Nat->Nat}{l:List Int}(h:lyG c 16 0 (fun _=>0) s=some (G,l)):pT c s=if c 0=0/\l=[]then some G else none:=by unfold pT;rw[h]
theorem Nh{c:Nat->Int}{d k:Nat}{u:Nat->Nat}{l:List Int}(h:c k<0\/(l.length:Int)<c k):lyG c (d+1) k u l=none:=by simp only[lyG];rw[if_pos h]
theorem AH{c:Nat->Int}{d k m:Nat}{u:Nat->Nat}{l:List Int}(h:c k=(m:Int))(hm:m<=l.length):lyG c (d+1) k u l=match mkG u k (-1) (l.take m)with
  |none=>none
  |some G=>lyG c d (k+1) G (l.drop m):=by
 simp only[lyG]
 rw[h,if_neg (by omega),Int.toNat_natCast]
theorem Ni{w:au}{B:Nat}{A:Option aw}{l:List Int}(h:iM w B A l)(m:Nat):iM w B A (l.take m):=by
 have hl:=h.1;refine⟨by simp[jj],fun hn=>?_⟩;rw[List.length_take]at hn;obtain⟨b,o,rfl,hb,hc⟩:=h.2 (by omega);refine⟨b,o,rfl,hb,fun j u hu=>hc j u ?_⟩;rw[rS,List.getElem?_take]at hu;split at hu
 ·rw[rS];exact hu
 ·cases hu
theorem FJ{w:au}{B:Nat}{a:aw}{A2:Option aw}{l:List Int}(h:iM w B (some a) l)(m c:Nat)(hc:l.length<=c)(hA:(if c=m then some a else some (a.add m))=A2):iM w B A2 (l.drop m):=by
 refine⟨by simp[jj],fun hn=>?_⟩;rw[List.length_drop]at hn;obtain⟨b,o,e,hb,ad⟩:=h.2 (by omega);cases e
 rw[if_neg (by omega)]at hA;have e:(⟨b,o,none⟩:aw).add m=⟨b,o+m,none⟩:=by unfold Addr.add;split<;>simp_all
 rw[e]at hA;refine⟨b,o+m,hA.symm,hb,fun j u hu=>?_⟩;rw[rS,List.getElem?_drop]at hu;rw[Nat.add_assoc];exact ad _ u (by rw[rS];exact hu)
theorem Nj(c:Nat->Int){k:Nat}(hk:k<16)(w:au):(Instr.index 23 (ai (lS c).toArray) (ae ak (k:Int))).run prog w=.ok (ae ak (c k)) w:=by
 have ad:prog.cellsOf 3=1:=by kernel_rfl
 have hg:=xp c k;rw[if_pos hk]at hg;simp[Instr.index,run_underlying underlying23,asIntOf,go_sem];rw[if_pos hk,hg];rfl
theorem Nk(w:au)(g:Nat)(c:Nat->Int)(v:ay)(s:List Int)(hv:nV w g v s)(hs:s.length<=1000000)(aV:jO w g 320 (fun _=>0)):
  ax prog 113 #[af (some ⟨g,0,none⟩) 320 320,ai (fJ c v)] w (AG g w (pT c s)):=by
 have bI:=aV.lt
 have ht:gJ (w.alloc (ao (fJ c v) 26)) w.heap.size c v:=aH w _
 have hb:=(Below.refl w.heap.size w).alloc fe (ao (fJ c v) 26)
 have bg:=aV.below hb bI
 obtain⟨AT,ca,rfl,bj,bl⟩:=hv
 obtain⟨n,hn⟩:=fb (s.length)
 have k1:=ht.syms
 have HT:=fa ht;have bn:=fa bg;have bJ:=fa bj;have HB:=fa (hb.mono (by omega:g<=w.heap.size));have a6:=fa bl
 rw[<-hn]at k1 HT hs HB bn⊢
 have HN:=fa hn
 clear ht hb bg bj bl hn aV
 go_enter func113,ntmps113
 go_wp2_with (refine wpList_load_mid rfl _ _ rfl w.heap.size 0 rfl (lS c) _ HT.out.range underlying23 rfl (by rw[xo];exact EN) ?_)
 go_loopw [5,12] (fun l i wr=>∃(k m:Nat) (A:Option aw) (l2:List Int) (c2:Nat) (u:Nat->Nat),k<=16/\i=ae ak k/\l=af A m c2/\Hid (m=l2.length)/\Hid (iM wr g A l2)/\m<=1000000/\m<=c2/\c2<=maxLen/\Hid (A=none->c2=0)/\Hid (jO wr g 320 u)/\Hid (∀j,u j<256)/\Hid (gJ wr w.heap.size c (af AT n ca))/\Hid (lyG c 16 0 (fun _=>0) s=lyG c (16-k) k u l2)/\Hid (aS g w wr)) (fun _ i _=>16-(aQ i).toNat)
 case atStart=>
  exact⟨0,n,AT,s,ca,fun _=>0,by omega,rfl,rfl,HN,fa (bJ.out.below HB.out fe),hs,by rw[HN.out];exact a6.out.2.1,a6.out.2.2,fa a6.out.1,bn,fa (fun _=>by show 0<256;omega),HT,fa rfl,HB⟩
 case round=>
  obtain⟨k,m,A,l2,c2,u,hk,rfl,rfl,HM,bq,bU,br,bK,bL,a7,HU,bt,HE,av⟩:=hrel;unfold maxLen at bK;by_cases bu:k<16
  ·obtain⟨d,hd⟩:∃d,16-k=d+1:=⟨15-k,by omega⟩;have hE:=HE.out;rw[hd]at hE;have bM:=Nj c bu;have ah:=fa (fun(h:c k<0\/(l2.length:Int)<c k)=>FH (hE.trans (Nh h)));have ad:=fa (fun(q:Nat) (h:c k=(q:Int)) (hq:q<=l2.length)=>hE.trans (AH h hq));obtain⟨x,hx⟩:=fb (c k);rw[<-hx]at bM ah ad;rw[<-HM.out]at ah ad;clear hx hE;by_cases a8:x<0
   ·have aW:=ah.out (.inl a8);have bx:decide (x<0)=true:=by simpa using a8
    have aX:=fa aW;clear ah ad aW;go_wp2;go_ret;exact rz aX.out av.out
   ·obtain⟨q,rfl⟩:=Int.eq_ofNat_of_zero_le (show 0<=x by omega);have bx:decide ((q:Int)<0)=false:=by simp
    by_cases bz:m<q
    ·have aW:=ah.out (.inr (by omega));have hg:decide ((m:Int)<(q:Int))=true:=by simp;omega
     have bA:decide (m<q)=true:=by simpa using bz
     have aX:=fa aW;clear ah ad aW;go_wp2;go_ret;exact rz aX.out av.out
    ·have bB:q<=m:=by omega
     have hg:decide ((m:Int)<(q:Int))=false:=by simp;omega
     have bA:decide (m<q)=false:=by simp;omega
     have a9:=ad.out q rfl bB;have a2:(l2.take q).length=q:=by rw[List.length_take,<-HM.out];omega
     have aZ:=Ng wr g u A c2 (l2.take q) k bu a7.out HU.out (Ni bq.out q) (by omega);rw[a2]at aZ;obtain⟨o,ho⟩:=fb (mkG u k (-1) (l2.take q));rw[<-ho]at a9 aZ;have bC:=fa a9;have bD:=fa aZ;have HD:=fa hd;have bV:=fa HE.out
     have bN:q<=c2:=by omega
     have bO:(k:Int)%256=k:=by omega
     clear ah ad a9 aZ a2 ho hd HE;go_wp2_with fail
     refine bD.out.mono ?_;rintro e w1 ⟨⟨rfl,h1,aY⟩,hO⟩;rcases o with _|G
     ·have aX:=fa (FH bC.out);have a1:=fa (av.out.trans aY);clear h1 aY hO;go_wp2;go_ret;exact rz aX.out a1.out
     ·obtain⟨h2,h3⟩:=h1 G rfl;have hh:=bC.out;simp only at hh;have H2:=fa h2;have H3:=fa h3;have a1:=fa (av.out.trans aY);have HH:=fa hh
      have a3:=fa (bq.out.below aY fe);have bE:=fa (show gJ w1 w.heap.size c (af AT n ca)from(hO w.heap.size (by omega)).trans bt.out);clear h1 h2 h3 aY hO hh av HU a7 bD;have bF:(l2.drop q).length=m-q:=by rw[List.length_drop,<-HM.out]
      have bP:=fa bF;have a4:16-(k+1)=d:=by have:=HD.out;omega
      have a5:=fa a4;clear bF a4;rcases A with _|a
      ·have bQ:c2=0:=bL.out rfl;obtain rfl:q=0:=by omega
       obtain rfl:m=0:=by omega
       subst bQ;clear bB bN bz a8 bx hg bA br;go_wp2;go_roundw
       case rel=>exact⟨k+1,0,none,l2.drop 0,0,G,by omega,by go_num,rfl,HM,fa (by rw[List.drop_zero];exact a3.out),by omega,by omega,by unfold maxLen;omega,fa (fun _=>rfl),H2,H3,bE,fa (by rw[a5.out];exact HH.out),a1⟩
       case measure=>simp[aQ];omega
      ·obtain⟨A2,hA2⟩:∃A2,(if c2=q then(some a:Option aw)else some (a.add q))=A2:=⟨_,rfl⟩;have bR:=fa (FJ a3.out q c2 (by rw[<-HM.out];exact br) hA2);have bG:=fa (show A2=none->c2-q=0 from fun h=>by
        rw[h]at hA2;split at hA2
        ·exact absurd hA2 (by simp)
        ·exact absurd hA2 (by simp))
       go_wp2;go_roundw
       case rel=>exact⟨k+1,m-q,A2,l2.drop q,c2-q,G,by omega,by go_num,rfl,fa bP.out.symm,bR,by omega,by omega,by unfold maxLen;omega,bG,H2,H3,bE,fa (by rw[a5.out];exact HH.out),a1⟩
       case measure=>simp[aQ];omega
  ·obtain rfl:k=16:=by omega
   have aT:=HE.out;rw[Nat.sub_self]at aT;have al:=FI aT;have k0:=bt.out.kR (show 0<16 by omega);obtain⟨x,hx⟩:=fb (c 0);rw[<-hx]at k0 al;by_cases h0:x=0
   ·subst h0;by_cases bf:m=0
    ·subst bf;have bH:l2=[]:=List.length_eq_zero_iff.1 HM.out.symm;rw[if_pos ⟨rfl,bH⟩]at al;have aU:=fa al;clear aT al hx bH HE;go_wp2;go_ret;exact⟨by rw[aU.out];rfl,(fun G h=>by rw[aU.out]at h;cases h;exact⟨a7.out,HU.out⟩),av.out⟩
    ·have bS:((m:Int)==0)=false:=by simp;omega
     have bT:(m==0)=false:=by simpa using bf
     rw[if_neg (fun h=>bf (by rw[HM.out,h.2];rfl))]at al;have aU:=fa al;clear aT al hx HE;go_wp2;go_ret;exact rz aU.out av.out
   ·have bS:(x==0)=false:=by simpa using h0
    rw[if_neg (fun h=>h0 h.1)]at al;have aU:=fa al;clear aT al hx HE;go_wp2;go_ret;exact rz aU.out av.out
theorem FK(u:Nat->Nat){x k m:Nat}(hx:u x=0)(hk:m≠k)(hm:0<m):∀n,US (fK u x k) m n=US u m n
 |0=>rfl
 |n+1=>by
  simp only[US];rw[FK u hx hk hm n];congr 1;unfold fK;by_cases e:n=x
  ·subst e;rw[if_pos rfl,if_neg (fun h=>hk h.symm),if_neg (by omega)]
  ·rw[if_neg e]
theorem FL(u:Nat->Nat){x k:Nat}(hl:∀j,u j=k->j<x):∀n,US (fK u x k) k n=US u k n++if x<n then[x]else[]
 |0=>by simp[US]
 |n+1=>by
  simp only[US];rw[FL u hl n];have e2:fK u x k n=if n=x then k else u n:=rfl
  rw[e2];by_cases e:n=x
  ·subst e;have ad:u n≠k:=fun h=>by have:=hl n h;omega
   simp[ad]
  ·rw[if_neg e];by_cases h:u n=k
   ·have:=hl n h;rw[if_pos h,if_neg (by omega),if_neg (by omega)];simp
   ·rw[if_neg h];by_cases h2:x<n
    ·rw[if_pos h2,if_pos (by omega)];simp
    ·rw[if_neg h2,if_neg (by omega)]
theorem Nl{u:Nat->Nat}{k x:Nat}{last:Int}{xs:List Int}(h1:last<(x:Int))(h2:x<320)(h3:u x=0):mkG u k last ((x:Int)::xs)=mkG (fK u x k) k (x:Int) xs:=by
 simp only[mkG];rw[if_neg (by rw[Int.toNat_natCast];omega),Int.toNat_natCast]
theorem FM{k:Nat}(hk:0<k):∀(l:List Int) (u G:Nat->Nat) (last:Int),(∀j,u j=k->(j:Int)<=last)->(∀j,u j<=k)->-1<=last->mkG u k last l=some G->
  (∀m,m≠k->0<m->US G m 320=US u m 320)/\gg (US G k 320)=gg (US u k 320)++l/\∀j,G j<=k
 |[],u,G,last,_,hu,_,h=>by
  simp only[mkG,Option.some.injEq]at h;subst h;exact⟨fun _ _ _=>rfl,by simp,hu⟩
 |x::xs,u,G,last,hl,hu,h0,h=>by
  simp only[mkG]at h;by_cases hc:x<=last\/320<=x\/u x.toNat≠0
  ·rw[if_pos hc]at h;cases h
  ·rw[if_neg hc]at h;obtain⟨X,rfl⟩:=Int.eq_ofNat_of_zero_le (show 0<=x by omega);rw[Int.toNat_natCast]at h hc;have al:u X=0:=by omega
   have ad:∀j,u j=k->j<X:=fun j hj=>by have:=hl j hj;omega
   obtain⟨h1,h2,h3⟩:=FM hk xs (fK u X k) G (X:Int) (fun j hj=>by
    unfold fK at hj;by_cases e:j=X
    ·omega
    ·rw[if_neg e]at hj;have:=ad j hj;omega) (fun j=>by
    unfold fK;split
    ·omega
    ·exact hu j) (by omega) h
   refine⟨fun m hm ah=>by rw[h1 m hm ah,FK u al hm ah],?_,h3⟩;rw[h2,FL u ad,if_pos (by omega),<-zW];simp[gg]
theorem Nm{u:Nat->Nat}{k:Nat}(h:∀j,u j<k)(n:Nat):US u k n=[]:=by
 induction n with
 |zero=>rfl
 |succ n ih=>simp only[US];rw[ih,if_neg (by have:=h n;omega)];rfl
theorem FN{u G:Nat->Nat}{n:Nat}:∀M,(∀m,0<m->m<=M->US G m n=US u m n)->fZ G n M=fZ u n M
 |0,_=>rfl
 |M+1,h=>by simp only[fZ];rw[FN M (fun m h0 h1=>h m h0 (by omega)),h (M+1) (by omega) (by omega)]
theorem FO{c:Nat->Int}{s:List Int}:∀(d k:Nat) (u G:Nat->Nat) (l l':List Int),k+d=16->1<=k->(∀j,u j<k)->s=gg (fZ u 320 (k-1))++l->(∀m,0<m->m<k->c m=(tcN u m 320:Int))->
  lyG c d k u l=some (G,l')->s=gg (fZ G 320 15)++l'/\∀m,0<m->m<16->c m=(tcN G m 320:Int)
 |0,k,u,G,l,l',hd,_,_,hs,hc,h=>by
  simp only[lyG,Option.some.injEq,Prod.mk.injEq]at h;obtain⟨rfl,rfl⟩:=h;obtain rfl:k=16:=by omega
  exact⟨hs,hc⟩
 |d+1,k,u,G,l,l',hd,hk,hu,hs,hc,h=>by
  simp only[lyG]at h;by_cases hb:c k<0\/(l.length:Int)<c k
  ·rw[if_pos hb]at h;cases h
  ·rw[if_neg hb]at h;obtain⟨q,hq⟩:=Int.eq_ofNat_of_zero_le (show 0<=c k by omega);rw[hq,Int.toNat_natCast]at h;cases hm:mkG u k (-1) (l.take q)with
   |none=>rw[hm]at h;cases h
   |some F=>
    rw[hm]at h;simp only at h;obtain⟨h1,h2,h3⟩:=FM (by omega) _ u F (-1) (fun j hj=>by have:=hu j;omega) (fun j=>by have:=hu j;omega) (by omega) hm;rw[Nm hu]at h2;simp only[gg,List.map_nil,List.nil_append]at h2;have ah:gg (US F k 320)=l.take q:=h2;have hlen:tcN F k 320=q:=by
     rw[<-lQ F (by omega),<-oS,ah,List.length_take];omega
    refine FO d (k+1) F G (l.drop q) l' (by omega) (by omega) (fun j=>by have:=h3 j;omega) ?_ (fun m ad al=>?_) h
    ·obtain⟨K,rfl⟩:∃K,k=K+1:=⟨k-1,by omega⟩;rw[Nat.add_sub_cancel];show s=gg (fZ F 320 K++US F (K+1) 320)++_
     rw[<-zW,ah,List.append_assoc,List.take_append_drop,FN K (fun m h0 hm=>h1 m (by omega) h0)];rw[Nat.add_sub_cancel]at hs;exact hs
    ·by_cases e:m=k
     ·subst e;rw[hlen];exact hq
     ·rw[hc m ad (by omega),<-lQ F ad,h1 m e ad,lQ u ad]
theorem Nn{c:Nat->Int}{s:List Int}{G:Nat->Nat}(h:pT c s=some G)(hc:fD G 320 15=0):lC c s (tH G):=by
 unfold pT at h;cases hl:lyG c 16 0 (fun _=>0) s with
 |none=>rw[hl]at h;cases h
 |some p=>
  obtain⟨F,l⟩:=p;rw[hl]at h;simp only at h;by_cases h0:c 0=0/\l=[]
  ·rw[if_pos h0]at h;cases h
   simp only[lyG]at hl;rw[h0.1]at hl;simp only[Int.lt_irrefl,false_or,show¬((s.length:Int)<0) by omega,if_false,Int.toNat_zero,List.take_zero,mkG,List.drop_zero]at hl;obtain⟨h1,h2⟩:=FO (c:=c) (s:=s) 15 1 (fun _=>0) G s l (by omega) fe (fun _=>by omega) (by simp[fZ,gg]) (fun m h0 h1=>by omega) hl;rw[h0.2,List.append_nil]at h1;refine MF hc ?_;unfold zV;rw[Bool.and_eq_true,EO];refine⟨fun m hm=>?_,decide_eq_true h1.symm⟩;by_cases e:m=0
   ·subst e;rw[qv,h0.1];rfl
   ·exact(h2 m (by omega) hm).symm
  ·rw[if_neg h0]at h;cases h
theorem FQ(f:Nat->Nat)(m:Nat):∀n,(US f m n).Pairwise (·< ·)
 |0=>List.Pairwise.nil
 |n+1=>by
  simp only[US];rw[List.pairwise_append];refine⟨FQ f m n,by split<;>simp,fun a ha b hb=>?_⟩;have:=((nt f m a n).1 ha).1;split at hb
  ·simp at hb;omega
  ·simp at hb
theorem No{f:Nat->Nat}{k T:Nat}(hT:T=tcN f k 320)(h0:0<k):∀(d i:Nat) (last:Int),i+d=T->(∀x∈(US f k 320).drop i,last<((x:Nat):Int))->mkG (kY f k i) k last (gg ((US f k 320).drop i))=some (kY f k T):=by
 have hlen:(US f k 320).length=T:=by rw[hT];exact lQ f h0 320
 have ad:∀i,i<T->kY f k i ((US f k 320).getD i 0)=0/\fK (kY f k i) ((US f k 320).getD i 0) k=kY f k (i+1):=fun i hi=>by
  rw[hT]at hi;exact⟨Mn h0 hi,Mp h0 hi⟩
 have aU:∀x∈US f k 320,x<320:=fun x hx=>((nt f k x 320).1 hx).1
 have aV:=FQ f k 320;obtain⟨R,hR⟩:=fb (US f k 320);rw[<-hR]at hlen ad aU aV⊢;clear hT hR;intro d;induction d with
 |zero=>
  intro i last h _;rw[List.drop_eq_nil_of_le (by omega)];show some (kY f k i)=_
  rw[show i=T by omega]
 |succ d ih=>
  intro i last h hl;have hx:i<R.length:=by omega
  have e:R.getD i 0=R[i]:=by rw[List.getD_eq_getElem?_getD,List.getElem?_eq_getElem hx];rfl
  have aW:=aU (R.getD i 0) (by rw[e];exact List.getElem_mem _);obtain⟨ah,al⟩:=ad i (by omega);have hd:R.drop i=R.getD i 0::R.drop (i+1):=by rw[List.drop_eq_getElem_cons hx,e]
  have av:=hl (R.getD i 0) (by rw[hd];exact List.mem_cons_self);have aX:(R.drop i).Pairwise (·< ·):=aV.sublist (List.drop_sublist _ _);rw[hd]at aX⊢;have aT:=(List.pairwise_cons.1 aX).1;have aY:=ih (i+1) ((R.getD i 0:Nat):Int) (by omega) (fun x hx=>by have:=aT x hx;omega);show mkG _ k last (((R.getD i 0:Nat):Int)::gg (R.drop (i+1)))=_
  rw[Nl av aW ah,al];exact aY
def tlR(f:Nat->Nat):Nat->Nat->List Nat
 |_,0=>[]
 |k,d+1=>US f k 320++tlR f (k+1) d
theorem FT(f:Nat->Nat):∀d k,1<=k->fZ f 320 (k-1)++tlR f k d=fZ f 320 (k-1+d)
 |0,k,_=>by simp[tlR]
 |d+1,k,h=>by
  have ih:=FT f d (k+1) (by omega);obtain⟨K,rfl⟩:∃K,k=K+1:=⟨k-1,by omega⟩;simp only[tlR];rw[Nat.add_sub_cancel]at ih⊢;rw[<-List.append_assoc,show K+(d+1)=K+1+d by omega,<-ih];rfl
theorem Np{c:Nat->Int}{s:List Int}{f:Nat->Nat}(hf:lC c s f):∀(d k:Nat),k+d=16->1<=k->lyG c d k (kY f k 0) (gg (tlR f k d))=some (kY f 16 0,[]):=by
 intro d;induction d with
 |zero=>
  intro k h _;obtain rfl:k=16:=by omega
  rfl
 |succ d ih=>
  intro k h hk;have hc:=hf.2.2.1 k (by omega);have hlen:(US f k 320).length=tcN f k 320:=lQ f (by omega) 320;have hm:=No (f:=f) (k:=k) rfl (by omega) (tcN f k 320) 0 (-1) (by omega) (fun x _=>by omega);have hn:=Mq (f:=f) (k:=k) (by omega) hf.2.1;have ad:=ih (k+1) (by omega) (by omega);obtain⟨T,hT⟩:=fb (tcN f k 320);have e0:tlR f k (d+1)=US f k 320++tlR f (k+1) d:=rfl;rw[<-hT]at hc hlen hm hn;obtain⟨R,hR⟩:=fb (US f k 320);rw[<-hR]at hlen hm e0;rw[List.drop_zero]at hm;have hl:(gg (R++tlR f (k+1) d)).length=T+(tlR f (k+1) d).length:=by
   rw[oS,List.length_append,hlen]
  have e1:(gg (R++tlR f (k+1) d)).take T=gg R:=by
   unfold gg;rw[List.map_append,List.take_append_of_le_length (by simp[hlen]),List.take_of_length_le (by simp[hlen])]
  have e2:(gg (R++tlR f (k+1) d)).drop T=gg (tlR f (k+1) d):=by
   unfold gg;rw[List.map_append,List.drop_append_of_le_length (by simp[hlen]),List.drop_of_length_le (by simp[hlen]),List.nil_append]
  rw[e0,AH hc (by omega),e1,e2,hm];simp only;rw[hn];exact ad
theorem Nq{c:Nat->Int}{s:List Int}{f:Nat->Nat}(hf:lC c s f):pT c s=some f:=by
 have h0:c 0=0:=by have:=hf.2.2.1 0 (by omega);rw[qv]at this;exact this
 have hs:gg (tlR f 1 15)=s:=by
  have h1:=FT f 15 1 fe;rw[show(1:Nat)-1+15=15 from rfl,show(1:Nat)-1=0 from rfl,show fZ f 320 0=[]from rfl,List.nil_append]at h1;rw[h1];exact hf.2.2.2.symm
 have h1:=Np hf 15 1 (by omega) fe;rw[hs,Mr]at h1;have ad:∀j,f j<=15:=fun j=>by
  rcases Nat.lt_or_ge j 320 with g|g
  ·exact vh hf j g
  ·rw[hf.2.1 j g];omega
 rw[Ms ad]at h1;have h2:lyG c 16 0 (fun _=>0) s=some (f,[]):=by
  rw[AH (d:=15) (m:=0) h0 (Nat.zero_le _),List.take_zero,List.drop_zero];exact h1
 rw[FI h2,if_pos ⟨h0,rfl⟩]
theorem AI(w:au)(A:Option aw)(n c:Nat)(f:Nat->Nat)(fh:Int)(hr:fB w w.heap.size A n f)(hn:n<=1000000):
  ax prog 114 #[af A n c,ae ak fh] w fun e w'=>e=aq (ae ak (fD f n fh))/\aS w.heap.size w w':=by
 unfold fD
 by_cases h1:fh<1\/15<fh
 ·rw[if_pos h1];exact(My w A n c fh h1).mono fun _ _ ⟨he,hw⟩=>⟨he,hw▸Below.refl _ _⟩
 ·rw[if_neg h1];by_cases h2:320<n
  ·rw[if_pos h2];exact(Mz w A n c fh (by omega) (by omega) h2).mono fun _ _ ⟨he,hw⟩=>⟨he,hw▸Below.refl _ _⟩
  ·rw[if_neg h2];exact MA w A n c f fh hr (by omega) (by omega) (by omega)
theorem Nr:(prog.info? 180).map (fun i=>(i.zero,i.size))=some (some (ai (Array.replicate 320 (ae .u8 0))),320):=by kernel_rfl
theorem gJ.each{U:au}{g:Nat}{c:Nat->Int}{v:ay}(h:gJ U g c v):U.cell? ⟨g,0,none⟩=some (ae ak (c 0))/\U.cell? ⟨g,1,none⟩=some (ae ak (c 1))/\U.cell? ⟨g,2,none⟩=some (ae ak (c 2))/\U.cell? ⟨g,3,none⟩=some (ae ak (c 3))/\U.cell? ⟨g,4,none⟩=some (ae ak (c 4))/\U.cell? ⟨g,5,none⟩=some (ae ak (c 5))/\U.cell? ⟨g,6,none⟩=some (ae ak (c 6))/\U.cell? ⟨g,7,none⟩=some (ae ak (c 7))/\U.cell? ⟨g,8,none⟩=some (ae ak (c 8))/\U.cell? ⟨g,9,none⟩=some (ae ak (c 9))/\U.cell? ⟨g,10,none⟩=some (ae ak (c 10))/\U.cell? ⟨g,11,none⟩=some (ae ak (c 11))/\U.cell? ⟨g,12,none⟩=some (ae ak (c 12))/\U.cell? ⟨g,13,none⟩=some (ae ak (c 13))/\U.cell? ⟨g,14,none⟩=some (ae ak (c 14))/\U.cell? ⟨g,15,none⟩=some (ae ak (c 15))/\U.cell? ⟨g,16,none⟩=some v:=
 ⟨h.kR (by omega),h.kR (by omega),h.kR (by omega),h.kR (by omega),h.kR (by omega),h.kR (by omega),h.kR (by omega),h.kR (by omega),h.kR (by omega),h.kR (by omega),h.kR (by omega),h.kR (by omega),h.kR (by omega),h.kR (by omega),h.kR (by omega),h.kR (by omega),h.syms⟩
theorem Ns{c:Nat->Int}{s:List Int}{o:Option (Nat->Nat)}(ho:o=pT c s):
  (∀G,o=some G->fD G 320 15=0->zY c s (aq (ae ak 0)))/\((∀G,o=some G->fD G 320 15≠0)->zY c s (aq (ae ak 8))):=by
 refine⟨fun G h hc=>.inl ⟨⟨_,Nn (ho.symm.trans h) hc⟩,rfl⟩,fun h=>.inr ⟨fun f hf=>?_,rfl⟩⟩
 exact h f (ho.trans (Nq hf)) hf.1
theorem Nt(w:au)(c:Nat->Int)(v:ay)(s:List Int)(hv:nV w w.heap.size v s)(hs:s.length<=1000000):
  ax prog 74 #[ai (fJ c v)] w fun e w'=>zY c s e/\aS w.heap.size w w':=by
 have hz:=(zero_of_info Nr).1
 obtain⟨Z,hZ⟩:∃Z:Array ay,Z=Array.replicate 320 (ae .u8 0):=⟨_,rfl⟩
 rw[<-hZ]at hz
 obtain⟨U,hU⟩:=fb ((w.alloc (ao (fJ c v) 26)).alloc (ao Z 180))
 have ht:gJ U w.heap.size c v:=by rw[hU];exact heap_alloc2_old w _ _
 have ad:jO U (w.heap.size+1) 320 (fun _=>0):=by rw[hU,hZ];exact⟨_,_,heap_alloc2_new w _ _,fun j hj=>by simp[hj]⟩
 have hb:aS w.heap.size w U:=by rw[hU];exact((Below.refl w.heap.size w).alloc fe _).alloc (by simp) _
 obtain⟨o,ho⟩:=fb (pT c s)
 have ah:=Nk U.drew (w.heap.size+1) c v s (((hv.below hb fe).below fz.drew fe).more (by omega)) hs ad
 rw[<-ho]at ah
 obtain⟨aV,aW⟩:=Ns ho
 have aX:aS w.heap.size w U.drew:=hb.trans fz.drew
 have HT:=fa ht;have HB:=fa aX;have HL:=fa ah;have a1:=fa aV;have aY:=fa aW
 clear ht ad hb aX ah aV aW ho hZ
 go_enter func74,ntmps74
 go_wp2_with fail
 rw[<-hU]
 clear hU
 obtain⟨k0,k1,k2,k3,k4,k5,k6,k7,k8,k9,a2,a3,a4,a5,a6,a7,a8⟩:=HT.out.each
 refine wp_region_still_tail 2 (by kernel_rfl) (by kernel_rfl) ?_
 simp only[List.take_succ_cons,List.take_zero,List.drop_succ_cons,List.drop_zero]
 change wpStill _ _ (World.drew _) (fun a'=>wpList _ _ _ _ a' (World.drew _)) _ _
 repeat still_step
 refine wpStill_nil ?_
 clear k0 k1 k2 k3 k4 k5 k6 k7 k8 k9 a2 a3 a4 a5 a6 a7 a8 hz
 rcases o with _|G
 ·go_wp2_with (go_at_call 113;refine HL.out.mono ?_;rintro e w1 ⟨rfl,_,al⟩)
  go_ret;exact⟨aY.out (fun G h=>by cases h),HB.out.trans (al.mono (by omega))⟩
 ·obtain⟨E,hE⟩:=fb (fD G 320 15);go_wp2_with fail
  refine HL.out.mono ?_;rintro e w1 ⟨rfl,h1,al⟩;obtain⟨ad,hG⟩:=h1 G rfl;have aT:=AI w1 _ 320 320 G 15 (ad.rd hG) (by omega);rw[<-hE]at aT;have aZ:=fa aT;have av:=fa (HB.out.trans (al.mono (by omega)))
  have HE:=fa hE;clear h1 al ad hG aT hE;by_cases h0:E=0
  ·subst h0;go_wp2_with (go_at_call 114;refine aZ.out.mono ?_;rintro e w2 ⟨rfl,aU⟩)
   go_ret;exact⟨a1.out G rfl HE.out.symm,av.out.trans (aU.mono av.out.size)⟩
  ·have a9:(E !=0)=true:=by simpa using h0
   go_wp2_with (go_at_call 114;refine aZ.out.mono ?_;rintro e w2 ⟨rfl,aU⟩)
   go_ret;exact⟨aY.out (fun G' h=>by cases h;rw[<-HE.out];exact h0),av.out.trans (aU.mono av.out.size)⟩
end Go.Proofs.YtgokdgcmkcmjeaaGreat
