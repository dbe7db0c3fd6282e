/-
  Words and walks.
-/
import Derived.BigQuiet
import Derived.OneCell
import Derived.Test.YtcmpmighjglnpaaGreattaaa
import Derived.Test.YtcmpmighjglnpaaGreattaab
import Derived.Test.YtcmpmighjglnpaaGreattaac
import Derived.Test.YtcmpmighjglnpaaGreattaad
import Derived.Test.YtcmpmighjglnpaaGreattaag
set_option maxRecDepth 100000
set_option maxHeartbeats 16000000
namespace Go.Proofs.YtcmpmighjglnpaaGreat
def bvN(g:Nat→Nat)(at_:Nat):Nat→Nat
 |0=>0
 |n+1=>2*bvN g at_ n+bitAt g (at_+n)
theorem bvN_lt(g:Nat→Nat)(at_:Nat):∀n,bvN g at_ n<2^n
 |0=>by simp[bvN]
 |n+1=>by
  have h1:=bvN_lt g at_ n
  have h2:=bitAt_lt g (at_+n)
  simp only[bvN,Nat.pow_succ];omega
def isB(f:Nat→Nat)(N v n i:Nat):Bool:=decide (0<n∧f i=n∧codeB f N i=v)
def onB(f:Nat→Nat)(N v n i:Nat):Bool:=decide (n<f i∧codeB f N i/2^(f i-n)=v)
def fndN(f:Nat→Nat)(N v n:Nat):Nat→Option Nat
 |0=>none
 |k+1=>match fndN f N v n k with
  |some i=>some i
  |none=>if isB f N v n k=true then some k else none
def morN(f:Nat→Nat)(N v n:Nat):Nat→Bool
 |0=>false
 |k+1=>morN f N v n k||onB f N v n k
theorem fndN_some{f:Nat→Nat}{N v n i:Nat}:∀{k},fndN f N v n k=some i→i<k∧isB f N v n i=true
 |0,h=>by cases h
 |k+1,h=>by
  simp only[fndN]at h
  cases hk:fndN f N v n k with
  |some j=>rw[hk]at h;injection h with h;subst h;have:=fndN_some hk;exact⟨by omega,this.2⟩
  |none=>
   rw[hk]at h
   by_cases hb:isB f N v n k=true
   ·simp only[hb,if_true]at h;injection h with h;subst h;exact⟨by omega,hb⟩
   ·simp only[if_neg hb]at h;cases h
theorem fndN_none{f:Nat→Nat}{N v n:Nat}:∀{k},fndN f N v n k=none↔∀i,i<k→isB f N v n i=false
 |0=>⟨fun _ i hi=>absurd hi (by omega),fun _=>rfl⟩
 |k+1=>by
  simp only[fndN]
  constructor
  ·intro h
   cases hk:fndN f N v n k with
   |some j=>rw[hk]at h;cases h
   |none=>
    rw[hk]at h
    intro i hi
    rcases Nat.eq_or_lt_of_le (Nat.le_of_lt_succ hi)with e|e
    ·subst e
     cases hb:isB f N v n i with
     |false=>rfl
     |true=>simp[hb]at h
    ·exact fndN_none.1 hk i e
  ·intro h
   rw[fndN_none.2 (fun i hi=>h i (by omega))]
   simp[h k (by omega)]
theorem morN_true{f:Nat→Nat}{N v n:Nat}:∀{k},morN f N v n k=true↔∃i,i<k∧onB f N v n i=true
 |0=>⟨fun h=>by simp[morN]at h,fun⟨_,h,_⟩=>absurd h (by omega)⟩
 |k+1=>by
  simp only[morN,Bool.or_eq_true]
  rw[morN_true]
  constructor
  ·rintro(⟨i,hi,h⟩|h)
   ·exact⟨i,by omega,h⟩
   ·exact⟨k,by omega,h⟩
  ·rintro⟨i,hi,h⟩
   rcases Nat.eq_or_lt_of_le (Nat.le_of_lt_succ hi)with e|e
   ·subst e;exact .inr h
   ·exact .inl ⟨i,e,h⟩
def readR(f:Nat→Nat)(N:Nat)(g:Nat→Nat)(l at_:Nat):Nat→Nat→Nat×Nat×Int
 |0,_=>(0,0,50)
 |fuel+1,n=>match fndN f N (bvN g at_ n) n N with
  |some i=>(i,at_+n,0)
  |none=>if morN f N (bvN g at_ n) n N=false then(0,0,50)else if 8*l≤at_+n then(0,0,10)else readR f N g l at_ fuel (n+1)
end Go.Proofs.YtcmpmighjglnpaaGreat
namespace Go.Proofs.YtcmpmighjglnpaaGreat
open Go.RowKit
def RdOut(p:Nat×Nat×Int):Value:=.tuple #[.int .i64 (p.1:Int),.int .i64 (p.2.1:Int),.int .i64 p.2.2]
end Go.Proofs.YtcmpmighjglnpaaGreat
namespace Go.Proofs.YtcmpmighjglnpaaGreat
open Go.RowKit
def ChkOut(c:Nat→Int)(s:List Int)(e:Ending):Prop:=((∃f,IsTree c s f)∧e=.returned (.int .i64 0))∨((∀f,¬IsTree c s f)∧e=.returned (.int .i64 8))
def nxtP(f:Nat→Nat)(g:Nat→Nat)(l:Nat)(a:Int):Nat×Nat×Int:=if a<0 then(0,0,2)else readR f 320 g l a.toNat 17 0
def NxtOut(c:Nat→Int)(s:List Int)(g:Nat→Nat)(l:Nat)(a:Int)(e:Ending):Prop:=
 (∃f,IsTree c s f∧e=.returned (RdOut (nxtP f g l a)))∨((∀f,¬IsTree c s f)∧e=.returned (RdOut (0,0,8)))
theorem box_tree(w:World)(c:Nat→Int)(v:Value):TreA (w.alloc (.cells (trA c v) 26)) w.heap.size c v:=heap_alloc_new w _
end Go.Proofs.YtcmpmighjglnpaaGreat
namespace Go.Proofs.YtcmpmighjglnpaaGreat
def extF(n:Nat)(f:Nat→Nat)(j:Nat):Nat:=if j<n then f j else 0
theorem extF_in{n j:Nat}(f:Nat→Nat)(h:j<n):extF n f j=f j:=by unfold extF;rw[if_pos h]
theorem extF_out{n j:Nat}(f:Nat→Nat)(h:n≤j):extF n f j=0:=by unfold extF;rw[if_neg (by omega)]
theorem ext_sums{n:Nat}(f:Nat→Nat):∀k,n≤k→allN (extF n f) k=allN f n∧usedN (extF n f) k=usedN f n:=by
 have h0:∀k,k≤n→allN (extF n f) k=allN f k∧usedN (extF n f) k=usedN f k:=by
  intro k
  induction k with
  |zero=>intro _;exact⟨rfl,rfl⟩
  |succ k ih=>intro hk;have:=ih (by omega);simp only[allN,usedN,extF_in f (show k<n by omega),this.1,this.2];exact⟨trivial,trivial⟩
 intro k
 induction k with
 |zero=>intro hk;rw[show n=0 by omega];exact⟨rfl,rfl⟩
 |succ k ih=>
  intro hk
  rcases Nat.eq_or_lt_of_le hk with e|e
  ·rw[←e];exact h0 n (Nat.le_refl _)
  ·have:=ih (by omega)
   simp only[allN,usedN,extF_out f (show n≤k by omega)]
   exact⟨by simpa using this.1,by simpa using this.2⟩
theorem ext_rows{n m:Nat}(f:Nat→Nat)(hm:0<m):∀k,n≤k→tcN (extF n f) m k=tcN f m n∧rowM (extF n f) m k=rowM f m n∧inN (extF n f) m k=inN f m n:=by
 have h0:∀k,k≤n→tcN (extF n f) m k=tcN f m k∧rowM (extF n f) m k=rowM f m k∧inN (extF n f) m k=inN f m k:=by
  intro k
  induction k with
  |zero=>intro _;exact⟨rfl,rfl,rfl⟩
  |succ k ih=>intro hk;have:=ih (by omega);simp only[tcN,rowM,inN,extF_in f (show k<n by omega),this.1,this.2.1,this.2.2];exact⟨trivial,trivial,trivial⟩
 intro k
 induction k with
 |zero=>intro hk;rw[show n=0 by omega];exact⟨rfl,rfl,rfl⟩
 |succ k ih=>
  intro hk
  rcases Nat.eq_or_lt_of_le hk with e|e
  ·rw[←e];exact h0 n (Nat.le_refl _)
  ·have:=ih (by omega)
   simp only[tcN,rowM,inN,extF_out f (show n≤k by omega)]
   rw[if_neg (by omega),if_neg (by omega),if_neg (by omega)]
   exact⟨this.1,by simpa using this.2.1,this.2.2⟩
theorem ext_sumTo{n:Nat}(f:Nat→Nat){k:Nat}(hk:n≤k):∀M,sumTo (extF n f) k M=sumTo f n M
 |0=>rfl
 |M+1=>by simp only[sumTo];rw[ext_sumTo f hk M,(ext_rows f (by omega) k hk).2.2]
theorem ext_symL{n:Nat}(f:Nat→Nat){k:Nat}(hk:n≤k):∀M,symL (extF n f) k M=symL f n M
 |0=>rfl
 |M+1=>by simp only[symL];rw[ext_symL f hk M,(ext_rows f (by omega) k hk).2.1]
theorem inN_pre{f g:Nat→Nat}(m:Nat):∀i,(∀j,j<i→f j=g j)→inN f m i=inN g m i
 |0,_=>rfl
 |i+1,h=>by simp only[inN];rw[inN_pre m i (fun j hj=>h j (by omega)),h i (by omega)]
theorem ext_code{n:Nat}(f:Nat→Nat){k:Nat}(hk:n≤k){i:Nat}(hi:i<n):codeB (extF n f) k i=codeB f n i:=by
 unfold codeB stN
 rw[extF_in f hi,ext_sumTo f hk,inN_pre (f i) i (fun j hj=>extF_in f (by omega))]
theorem ext_check{f:Nat→Nat}{n:Nat}{most:Int}(h:checkE f n most=0):checkE (extF n f) 320 15=0:=by
 obtain⟨h1,h15,hn,hb,ha,ho⟩:=check_ok h
 obtain⟨e1,e2⟩:=ext_sums f 320 hn
 unfold checkE
 rw[if_neg (by omega),if_neg (by omega)]
 have:bigB (extF n f) 320 15=false:=bigB_mk fun j _=>by
  unfold extF;split
  ·rename_i hj;have:=hb j hj;omega
  ·omega
 rw[this,if_neg (by decide),e1,e2]
 unfold endE
 rw[if_neg (by omega),if_pos ho]
theorem grown_tree{f:Nat→Nat}{n:Nat}{most:Int}(h:checkE f n most=0):IsTree (grC f n most) (grS f n most) (extF n f):=by
 have hn:=(check_ok h).2.2.1
 refine⟨ext_check h,fun j hj=>extF_out f (by omega),fun m hm=>?_,?_⟩
 ·unfold grC
  rw[if_pos h]
  rcases Nat.eq_zero_or_pos m with e|e
  ·subst e;rw[cntN_zero,cntN_zero]
  ·rw[(ext_rows f e 320 hn).1]
 ·unfold grS
  rw[if_pos h,ext_symL f hn]
theorem ext_is{f:Nat→Nat}{n v k:Nat}(hn:n≤320):∀i,i<n→isB (extF n f) 320 v k i=isB f n v k i∧onB (extF n f) 320 v k i=onB f n v k i:=fun i hi=>by
 unfold isB onB
 rw[extF_in f hi,ext_code f hn hi]
 exact⟨rfl,rfl⟩
theorem ext_fnd{f:Nat→Nat}{n v k:Nat}(hn:n≤320):fndN (extF n f) 320 v k 320=fndN f n v k n∧morN (extF n f) 320 v k 320=morN f n v k n:=by
 have h0:∀j,j≤n→fndN (extF n f) 320 v k j=fndN f n v k j∧morN (extF n f) 320 v k j=morN f n v k j:=by
  intro j
  induction j with
  |zero=>intro _;exact⟨rfl,rfl⟩
  |succ j ih=>
   intro hj
   have h:=ih (by omega)
   have he:=ext_is (f:=f) (v:=v) (k:=k) hn j (by omega)
   simp only[fndN,morN]
   rw[h.1,h.2,he.1,he.2]
   exact⟨rfl,rfl⟩
 have h1:∀j,n≤j→fndN (extF n f) 320 v k j=fndN f n v k n∧morN (extF n f) 320 v k j=morN f n v k n:=by
  intro j
  induction j with
  |zero=>
   intro hj;obtain rfl:n=0:=by omega
   exact⟨rfl,rfl⟩
  |succ j ih=>
   intro hj
   rcases Nat.eq_or_lt_of_le hj with e|e
   ·rw[←e];exact h0 n (Nat.le_refl _)
   ·have h:=ih (by omega)
    have hi:isB (extF n f) 320 v k j=false:=decide_eq_false (by rw[extF_out f (by omega)];omega)
    have ho:onB (extF n f) 320 v k j=false:=decide_eq_false (by rw[extF_out f (by omega)];omega)
    simp only[fndN,morN]
    rw[h.1,h.2,ho,Bool.or_false]
    refine⟨?_,rfl⟩
    cases fndN f n v k n with
    |some _=>rfl
    |none=>simp[hi]
 exact h1 320 hn
theorem ext_read{f:Nat→Nat}{n:Nat}(hn:n≤320)(g:Nat→Nat)(l a:Nat):∀fuel k,readR (extF n f) 320 g l a fuel k=readR f n g l a fuel k
 |0,_=>rfl
 |fuel+1,k=>by
  simp only[readR]
  rw[(ext_fnd (f:=f) (v:=bvN g a k) (k:=k) hn).1,(ext_fnd (f:=f) (v:=bvN g a k) (k:=k) hn).2,ext_read hn g l a fuel (k+1)]
end Go.Proofs.YtcmpmighjglnpaaGreat
namespace Go.Proofs.YtcmpmighjglnpaaGreat
theorem read_found{f:Nat→Nat}{N:Nat}{g:Nat→Nat}{l a:Nat}:∀fuel k,(readR f N g l a fuel k).2.2=0→
  ∃k',(readR f N g l a fuel k).2.1=a+k'∧(readR f N g l a fuel k).1<N∧isB f N (bvN g a k') k' (readR f N g l a fuel k).1=true
 |0,_,h=>by simp[readR]at h
 |fuel+1,k,h=>by
  simp only[readR]at h⊢
  cases hf:fndN f N (bvN g a k) k N with
  |some i=>exact⟨k,rfl,(fndN_some hf).1,(fndN_some hf).2⟩
  |none=>
   rw[hf]at h
   simp only[]at h⊢
   by_cases h1:morN f N (bvN g a k) k N=false
   ·rw[if_pos h1]at h;simp at h
   ·rw[if_neg h1]at h⊢
    by_cases h2:8*l≤a+k
    ·rw[if_pos h2]at h;simp at h
    ·rw[if_neg h2]at h⊢
     exact read_found fuel (k+1) h
theorem bv_congr{g h:Nat→Nat}{a:Nat}:∀n,(∀j,j<n→bitAt g (a+j)=bitAt h (a+j))→bvN g a n=bvN h a n
 |0,_=>rfl
 |n+1,e=>by simp only[bvN];rw[bv_congr n (fun j hj=>e j (by omega)),e n (by omega)]
theorem read_alone{f:Nat→Nat}{N:Nat}{g h:Nat→Nat}{l m a:Nat}(hm:l≤m)(hb:∀j,j<8*l→bitAt g j=bitAt h j):∀fuel k,(k=0∨a+k≤8*l)→
  readR f N g l a fuel k=readR f N h m a fuel k∨(readR f N g l a fuel k=(0,0,10)∧((readR f N h m a fuel k).2.2=0∨(readR f N h m a fuel k).2.2=10∨(readR f N h m a fuel k).2.2=50))
 |0,_,_=>.inl rfl
 |fuel+1,k,hk=>by
  have e:bvN g a k=bvN h a k:=by
   rcases hk with rfl|hk
   ·rfl
   ·exact bv_congr k (fun j hj=>hb _ (by omega))
  simp only[readR]
  rw[←e]
  cases hf:fndN f N (bvN g a k) k N with
  |some i=>exact .inl rfl
  |none=>
   simp only[]
   by_cases h1:morN f N (bvN g a k) k N=false
   ·rw[if_pos h1,if_pos h1];exact .inl rfl
   ·rw[if_neg h1,if_neg h1]
    by_cases h2:8*l≤a+k
    ·rw[if_pos h2]
     refine .inr ⟨rfl,?_⟩
     by_cases h3:8*m≤a+k
     ·rw[if_pos h3];exact .inr (.inl rfl)
     ·rw[if_neg h3]
      have key:∀fuel k,(readR f N h m a fuel k).2.2=0∨(readR f N h m a fuel k).2.2=10∨(readR f N h m a fuel k).2.2=50:=by
       intro fuel
       induction fuel with
       |zero=>intro k;exact .inr (.inr rfl)
       |succ fuel ih=>
        intro k
        simp only[readR]
        cases fndN f N (bvN h a k) k N with
        |some i=>exact .inl rfl
        |none=>
         simp only[]
         split
         ·exact .inr (.inr rfl)
         ·split
          ·exact .inr (.inl rfl)
          ·exact ih (k+1)
      exact key fuel (k+1)
    ·rw[if_neg h2,if_neg (by omega)]
     exact read_alone hm hb fuel (k+1) (.inr (by omega))
end Go.Proofs.YtcmpmighjglnpaaGreat
namespace Go.Proofs.YtcmpmighjglnpaaGreat
structure Blk13 where
 kind:Nat
 last:Bool
 left:Nat
 F:Nat→Nat
 n:Nat
 G:Nat→Nat
 m:Nat
def nof13(_:Nat):Nat:=0
def blk0:Blk13:=⟨0,false,0,nof13,0,nof13,0⟩
def tokZ:Tok:=⟨0,0,0⟩
def shR(g:Nat→Nat)(a:Nat):Nat→(Nat→Nat)
 |0=>nof13
 |k+1=>upd (shR g a k) (ordN k) (numN g (a+3*k) 3)
def lenG(g:Nat→Nat)(L n:Nat)(go:Nat→List Nat→List Nat×Nat×Int)(out:List Nat)(r:Nat×Nat×Int):List Nat×Nat×Int:=
 if r.2.2≠0 then([],0,r.2.2)else if 8*L<r.2.1+bitsR (r.1:Int)then([],0,10)else
 if((r.1:Int)=16∧out=[])∨n<out.length+timesR (r.1:Int) ((numN g r.2.1 (bitsR (r.1:Int)):Nat):Int)then([],0,132)
 else go (r.2.1+bitsR (r.1:Int)) (out++List.replicate (timesR (r.1:Int) ((numN g r.2.1 (bitsR (r.1:Int)):Nat):Int)) (valR (r.1:Int) out))
def lenR(F:Nat→Nat)(g:Nat→Nat)(L n:Nat):Nat→Nat→List Nat→List Nat×Nat×Int
 |0,a,out=>(out,a,0)
 |k+1,a,out=>if n≤out.length then(out,a,0)else lenG g L n (fun a out=>lenR F g L n k a out) out (readR F 19 g L a 17 0)
theorem lenR_s(F g:Nat→Nat)(L n k a:Nat)(out:List Nat):lenR F g L n (k+1) a out=if n≤out.length then(out,a,0)else lenG g L n (fun a out=>lenR F g L n k a out) out (readR F 19 g L a 17 0):=rfl
def dynQ(last:Bool)(l:List Nat)(b x y:Nat):Blk13×Nat×Int:=
 if lst l 256=0∨checkE (lst l) x 15≠0∨checkE (lst (l.drop x)) y 15≠0 then(blk0,0,132)else(⟨2,last,0,lst l,x,lst (l.drop x),y⟩,b,0)
def dynL(last:Bool)(r:List Nat×Nat×Int)(x y:Nat):Blk13×Nat×Int:=if r.2.2≠0 then(blk0,0,r.2.2)else dynQ last r.1 r.2.1 x y
def dynS(last:Bool)(F:Nat→Nat)(g:Nat→Nat)(L a x y:Nat):Blk13×Nat×Int:=
 if checkE F 19 7≠0∨allN F 19≠32768 then(blk0,0,132)else dynL last (lenR F g L (x+y) (x+y) a []) x y
def dynV(last:Bool)(v:Nat)(g:Nat→Nat)(L a:Nat):Blk13×Nat×Int:=
 if 286<v%32+257∨30<v/32%32+1 then(blk0,0,132)else if 8*L<a+3*(v/1024+4)then(blk0,0,10)else
 dynS last (shR g a (v/1024+4)) g L (a+3*(v/1024+4)) (v%32+257) (v/32%32+1)
def dynR(last:Bool)(g:Nat→Nat)(L a:Nat):Blk13×Nat×Int:=if 8*L<a+14 then(blk0,0,10)else dynV last (numN g a 14) g L (a+14)
def stoV(last:Bool)(x a:Nat):Blk13×Nat×Int:=if x%65536+x/65536≠65535 then(blk0,0,131)else(⟨0,last,x%65536,nof13,0,nof13,0⟩,a,0)
def stoR(last:Bool)(g:Nat→Nat)(L a:Nat):Blk13×Nat×Int:=if 8*L<a+32 then(blk0,0,10)else stoV last (numN g a 32) (a+32)
def begW(v:Nat)(g:Nat→Nat)(L a:Nat):Blk13×Nat×Int:=
 if v/2=3 then(blk0,0,130)else if v/2=2 then dynR (decide (v%2=1)) g L a else
 if v/2=1 then(⟨1,decide (v%2=1),0,fixA,288,fixB,32⟩,a,0)else stoR (decide (v%2=1)) g L ((a+7)/8*8)
def begR(g:Nat→Nat)(L a:Nat):Blk13×Nat×Int:=if 8*L<a+3 then(blk0,0,10)else begW (numN g a 3) g L (a+3)
def extE(far:Bool)(s:Nat):Int:=if far then fbE (s:Int)else lbE (s:Int)
def extB(far:Bool)(s:Nat):Nat:=if far then(fbV (s:Int)).toNat else(lbV (s:Int)).toNat
def ofE(far:Bool)(s x:Nat):Int:=if far then foE (s:Int) (x:Int)else loE (s:Int) (x:Int)
def ofV(far:Bool)(s x:Nat):Int:=if far then foV (s:Int) (x:Int)else loV (s:Int) (x:Int)
def extR(far:Bool)(s:Nat)(g:Nat→Nat)(L a:Nat):Int×Nat×Int:=
 if extE far s≠0 then(0,0,extE far s)else if 8*L<a+extB far s then(0,0,10)else
 (ofV far s (numN g a (extB far s)),a+extB far s,ofE far s (numN g a (extB far s)))
def nxtD(n:Int)(y:Int×Nat×Int):Tok×Bool×Nat×Int:=if y.2.2≠0 then(tokZ,false,0,y.2.2)else(⟨0,y.1,n⟩,false,y.2.1,0)
def nxtC(n:Int)(r:Nat×Nat×Int)(g:Nat→Nat)(L:Nat):Tok×Bool×Nat×Int:=if r.2.2≠0 then(tokZ,false,0,r.2.2)else nxtD n (extR true r.1 g L r.2.1)
def nxtB(k:Blk13)(x:Int×Nat×Int)(g:Nat→Nat)(L:Nat):Tok×Bool×Nat×Int:=if x.2.2≠0 then(tokZ,false,0,x.2.2)else nxtC x.1 (readR k.G k.m g L x.2.1 17 0) g L
def nxtA(k:Blk13)(r:Nat×Nat×Int)(g:Nat→Nat)(L:Nat):Tok×Bool×Nat×Int:=
 if r.2.2≠0 then(tokZ,false,0,r.2.2)else if r.1<256 then(⟨r.1,0,0⟩,false,r.2.1,0)else if r.1=256 then(tokZ,true,r.2.1,0)else nxtB k (extR false r.1 g L r.2.1) g L
def nxtS(left:Nat)(g:Nat→Nat)(L a:Nat):Tok×Bool×Nat×Int:=if left=0 then(tokZ,true,a,0)else if 8*L<a+8 then(tokZ,false,0,10)else(⟨numN g a 8,0,0⟩,false,a+8,0)
def nextR(k:Blk13)(g:Nat→Nat)(L a:Nat):Tok×Bool×Nat×Int:=if k.kind=0 then nxtS k.left g L a else nxtA k (readR k.F k.n g L a 17 0) g L
def lessK(k:Blk13):Blk13:={k with left:=k.left-1}
def told(g:Nat→Nat)(L lim:Nat):Nat→Option Blk13→List Nat→Nat→List Nat×Nat×Int
 |0,_,out,a=>(out,a,10)
 |f+1,none,out,a=>if(begR g L a).2.2≠0 then(out,a,(begR g L a).2.2)else told g L lim f (some (begR g L a).1) out (begR g L a).2.1
 |f+1,some k,out,a=>if(nextR k g L a).2.2.2≠0 then(out,a,(nextR k g L a).2.2.2)else
  if(nextR k g L a).2.1=true then(if k.last=true then(out,(nextR k g L a).2.2.1,0)else told g L lim f none out (nextR k g L a).2.2.1)else
  if(out.length:Int)<(nextR k g L a).1.d then(out,(nextR k g L a).2.2.1,60)else
  if lim<out.length+lenT (nextR k g L a).1 then(out,(nextR k g L a).2.2.1,140)else
  told g L lim f (some (lessK k)) (stpT out (nextR k g L a).1) (nextR k g L a).2.2.1
def fuel13(L:Nat):Nat:=16*L+3
def asked13(L:Nat)(a:Int):Int:=if 131072<L then 4 else if a<0∨8*(L:Int)<a then 2 else 0
def limE(lim:Int):Int:=if lim<0∨131072<lim then 2 else 0
def inflT(r:List Nat×Nat×Int):List Nat×Nat×Int:=if r.2.2≠0 then([],0,r.2.2)else(r.1,r.2.1,0)
def inflR(g:Nat→Nat)(L:Nat)(a lim:Int):List Nat×Nat×Int:=
 if asked13 L a≠0 then([],0,asked13 L a)else if limE lim≠0 then([],0,limE lim)else inflT (told g L lim.toNat (fuel13 L) none [] a.toNat)
def prefT(r:List Nat×Nat×Int):List Nat×Int:=if r.2.2≠0∧r.2.2≠10 then([],r.2.2)else(r.1,0)
def prefR(g:Nat→Nat)(L:Nat)(lim:Int):List Nat×Int:=
 if asked13 L 0≠0 then([],asked13 L 0)else if limE lim≠0 then([],limE lim)else prefT (told g L lim.toNat (fuel13 L) none [] 0)
theorem read_fwd{F:Nat→Nat}{N:Nat}{g:Nat→Nat}{L a:Nat}:∀fuel k,(k=0∨a+k≤8*L)→a≤8*L→(readR F N g L a fuel k).2.2=0→(readR F N g L a fuel k).2.1≤8*L
 |0,_,_,_,h=>by simp[readR]at h
 |fuel+1,k,hk,ha,h=>by
  simp only[readR]at h⊢
  cases hf:fndN F N (bvN g a k) k N with
  |some i=>
   show a+k≤8*L
   omega
  |none=>
   rw[hf]at h
   simp only[]at h⊢
   by_cases h1:morN F N (bvN g a k) k N=false
   ·rw[if_pos h1]at h;simp at h
   ·rw[if_neg h1]at h⊢
    by_cases h2:8*L≤a+k
    ·rw[if_pos h2]at h;simp at h
    ·rw[if_neg h2]at h⊢
     exact read_fwd fuel (k+1) (.inr (by omega)) ha h
theorem read_in{F:Nat→Nat}{N:Nat}{g:Nat→Nat}{L a:Nat}(ha:a≤8*L)(h:(readR F N g L a 17 0).2.2=0):a+1≤(readR F N g L a 17 0).2.1∧(readR F N g L a 17 0).2.1≤8*L∧(readR F N g L a 17 0).1<N:=by
 obtain⟨k,e1,e2,e3⟩:=read_found 17 0 h
 have:=(of_decide_eq_true e3).1
 exact⟨by omega,read_fwd 17 0 (.inl rfl) ha h,e2⟩
theorem len_fwd{F:Nat→Nat}{g:Nat→Nat}{L n:Nat}:∀k a out,a≤8*L→(lenR F g L n k a out).2.2=0→a≤(lenR F g L n k a out).2.1∧(lenR F g L n k a out).2.1≤8*L
 |0,a,out,ha,_=>⟨Nat.le_refl _,ha⟩
 |k+1,a,out,ha,h=>by
  rw[lenR_s]at h⊢
  by_cases h0:n≤out.length
  ·rw[if_pos h0];exact⟨Nat.le_refl _,ha⟩
  ·rw[if_neg h0]at h⊢
   have hr:=read_in (F:=F) (N:=19) (g:=g) ha
   generalize readR F 19 g L a 17 0=R at h hr⊢
   unfold lenG at h⊢
   by_cases h1:R.2.2≠0
   ·rw[if_pos h1]at h;exact absurd h h1
   ·rw[if_neg h1]at h⊢
    obtain⟨r1,r2,_⟩:=hr (by omega)
    by_cases h2:8*L<R.2.1+bitsR (R.1:Int)
    ·rw[if_pos h2]at h;simp at h
    ·rw[if_neg h2]at h⊢
     split at h
     ·simp at h
     ·rename_i h3
      rw[if_neg h3]
      have:=len_fwd k _ _ (by omega) h
      exact⟨Nat.le_trans (show a≤R.2.1+bitsR (R.1:Int) by omega) this.1,this.2⟩
theorem beg_fwd{g:Nat→Nat}{L a:Nat}(h:(begR g L a).2.2=0):a+3≤(begR g L a).2.1∧(begR g L a).2.1≤8*L:=by
 unfold begR at h⊢
 by_cases h0:8*L<a+3
 ·rw[if_pos h0]at h;simp at h
 ·rw[if_neg h0]at h⊢
  unfold begW at h⊢
  by_cases h1:numN g a 3/2=3
  ·rw[if_pos h1]at h;simp at h
  ·rw[if_neg h1]at h⊢
   by_cases h2:numN g a 3/2=2
   ·rw[if_pos h2]at h⊢
    unfold dynR at h⊢
    by_cases h3:8*L<a+3+14
    ·rw[if_pos h3]at h;simp at h
    ·rw[if_neg h3]at h⊢
     generalize numN g (a+3) 14=v at h⊢
     unfold dynV at h⊢
     by_cases h4:286<v%32+257∨30<v/32%32+1
     ·rw[if_pos h4]at h;simp at h
     ·rw[if_neg h4]at h⊢
      by_cases h5:8*L<a+3+14+3*(v/1024+4)
      ·rw[if_pos h5]at h;simp at h
      ·rw[if_neg h5]at h⊢
       unfold dynS at h⊢
       split at h
       ·simp at h
       ·rename_i h6
        rw[if_neg h6]
        unfold dynL at h⊢
        split at h
        ·rename_i h7;exact absurd h h7
        ·rename_i h7
         rw[if_neg h7]
         have hl:=len_fwd (F:=shR g (a+3+14) (v/1024+4)) (g:=g) (L:=L) (n:=v%32+257+(v/32%32+1)) (v%32+257+(v/32%32+1)) (a+3+14+3*(v/1024+4)) [] (by omega) (by omega)
         unfold dynQ at h⊢
         split at h
         ·simp at h
         ·rename_i h8
          rw[if_neg h8]
          exact⟨Nat.le_trans (show a+3≤a+3+14+3*(v/1024+4) by omega) hl.1,hl.2⟩
   ·rw[if_neg h2]at h⊢
    by_cases h3:numN g a 3/2=1
    ·rw[if_pos h3];exact⟨Nat.le_refl _,by show a+3≤8*L;omega⟩
    ·rw[if_neg h3]at h⊢
     unfold stoR at h⊢
     split at h
     ·simp at h
     ·rename_i h4
      rw[if_neg h4]
      unfold stoV at h⊢
      split at h
      ·simp at h
      ·rename_i h5
       rw[if_neg h5]
       show a+3≤(a+3+7)/8*8+32∧(a+3+7)/8*8+32≤8*L
       omega
theorem ext_fwd{far:Bool}{s:Nat}{g:Nat→Nat}{L a:Nat}(h:(extR far s g L a).2.2=0):a≤(extR far s g L a).2.1∧(extR far s g L a).2.1≤8*L:=by
 unfold extR at h⊢
 split at h
 ·rename_i h1;exact absurd h h1
 ·rename_i h1
  rw[if_neg h1]
  split at h
  ·simp at h
  ·rename_i h2
   rw[if_neg h2]
   show a≤a+extB far s∧a+extB far s≤8*L
   omega
theorem next_fwd{k:Blk13}{g:Nat→Nat}{L a:Nat}(ha:a≤8*L)(h:(nextR k g L a).2.2.2=0):a≤(nextR k g L a).2.2.1∧(nextR k g L a).2.2.1≤8*L∧((nextR k g L a).2.1=false→a+1≤(nextR k g L a).2.2.1):=by
 unfold nextR at h⊢
 by_cases h0:k.kind=0
 ·rw[if_pos h0]at h⊢
  unfold nxtS at h⊢
  by_cases h1:k.left=0
  ·rw[if_pos h1];exact⟨Nat.le_refl _,ha,fun e=>by cases e⟩
  ·rw[if_neg h1]at h⊢
   by_cases h2:8*L<a+8
   ·rw[if_pos h2]at h;simp at h
   ·rw[if_neg h2]
    show a≤a+8∧a+8≤8*L∧(_→a+1≤a+8)
    exact⟨by omega,by omega,fun _=>by omega⟩
 ·rw[if_neg h0]at h⊢
  have hr:=read_in (F:=k.F) (N:=k.n) (g:=g) ha
  generalize readR k.F k.n g L a 17 0=r at h hr⊢
  unfold nxtA at h⊢
  split at h
  ·rename_i h1;exact absurd h h1
  ·rename_i h1
   rw[if_neg h1]
   obtain⟨r1,r2,_⟩:=hr (by omega)
   by_cases h2:r.1<256
   ·rw[if_pos h2]
    show a≤r.2.1∧r.2.1≤8*L∧(_→a+1≤r.2.1)
    exact⟨by omega,r2,fun _=>r1⟩
   ·rw[if_neg h2]at h⊢
    by_cases h3:r.1=256
    ·rw[if_pos h3]
     show a≤r.2.1∧r.2.1≤8*L∧(_→a+1≤r.2.1)
     exact⟨by omega,r2,fun _=>r1⟩
    ·rw[if_neg h3]at h⊢
     have hx:=ext_fwd (far:=false) (s:=r.1) (g:=g) (L:=L) (a:=r.2.1)
     generalize extR false r.1 g L r.2.1=x at h hx⊢
     unfold nxtB at h⊢
     split at h
     ·rename_i h4;exact absurd h h4
     ·rename_i h4
      rw[if_neg h4]
      obtain⟨x1,x2⟩:=hx (by omega)
      have hq:=read_in (F:=k.G) (N:=k.m) (g:=g) x2
      generalize readR k.G k.m g L x.2.1 17 0=q at h hq⊢
      unfold nxtC at h⊢
      split at h
      ·rename_i h5;exact absurd h h5
      ·rename_i h5
       rw[if_neg h5]
       obtain⟨q1,q2,_⟩:=hq (by omega)
       have hy:=ext_fwd (far:=true) (s:=q.1) (g:=g) (L:=L) (a:=q.2.1)
       generalize extR true q.1 g L q.2.1=y at h hy⊢
       unfold nxtD at h⊢
       split at h
       ·rename_i h6;exact absurd h h6
       ·rename_i h6
        rw[if_neg h6]
        obtain⟨y1,y2⟩:=hy (by omega)
        show a≤y.2.1∧y.2.1≤8*L∧(_→a+1≤y.2.1)
        exact⟨by omega,y2,fun _=>by omega⟩
def muT(L a:Nat):Option Blk13→Nat
 |none=>2*(8*L-a)
 |some _=>2*(8*L-a)+1
theorem told_fuel{g:Nat→Nat}{L lim:Nat}:∀f f' st out a,a≤8*L→muT L a st<f→muT L a st<f'→told g L lim f st out a=told g L lim f' st out a
 |0,_,_,_,_,_,h,_=>absurd h (by omega)
 |_+1,0,_,_,_,_,_,h=>absurd h (by omega)
 |f+1,f'+1,none,out,a,ha,h,h'=>by
  simp only[told]
  by_cases h1:(begR g L a).2.2≠0
  ·rw[if_pos h1,if_pos h1]
  ·rw[if_neg h1,if_neg h1]
   obtain⟨b1,b2⟩:=beg_fwd (g:=g) (L:=L) (a:=a) (by omega)
   simp only[muT]at h h'
   refine told_fuel f f' _ _ _ b2 ?_ ?_<;>(simp only[muT];omega)
 |f+1,f'+1,some k,out,a,ha,h,h'=>by
  simp only[told]
  by_cases h1:(nextR k g L a).2.2.2≠0
  ·rw[if_pos h1,if_pos h1]
  ·rw[if_neg h1,if_neg h1]
   obtain⟨b1,b2,b3⟩:=next_fwd (k:=k) (g:=g) ha (by omega)
   simp only[muT]at h h'
   by_cases h2:(nextR k g L a).2.1=true
   ·rw[if_pos h2,if_pos h2]
    by_cases h3:k.last=true
    ·rw[if_pos h3,if_pos h3]
    ·rw[if_neg h3,if_neg h3]
     refine told_fuel f f' _ _ _ b2 ?_ ?_<;>(simp only[muT];omega)
   ·rw[if_neg h2,if_neg h2]
    have b4:=b3 (by simpa using h2)
    split
    ·rfl
    ·split
     ·rfl
     ·refine told_fuel f f' _ _ _ b2 ?_ ?_<;>(simp only[muT];omega)
theorem told_n(g:Nat→Nat)(L lim f:Nat)(out:List Nat)(a:Nat):told g L lim (f+1) none out a=if(begR g L a).2.2≠0 then(out,a,(begR g L a).2.2)else told g L lim f (some (begR g L a).1) out (begR g L a).2.1:=rfl
theorem told_s(g:Nat→Nat)(L lim f:Nat)(k:Blk13)(out:List Nat)(a:Nat):told g L lim (f+1) (some k) out a=if(nextR k g L a).2.2.2≠0 then(out,a,(nextR k g L a).2.2.2)else
  if(nextR k g L a).2.1=true then(if k.last=true then(out,(nextR k g L a).2.2.1,0)else told g L lim f none out (nextR k g L a).2.2.1)else
  if(out.length:Int)<(nextR k g L a).1.d then(out,(nextR k g L a).2.2.1,60)else
  if lim<out.length+lenT (nextR k g L a).1 then(out,(nextR k g L a).2.2.1,140)else
  told g L lim f (some (lessK k)) (stpT out (nextR k g L a).1) (nextR k g L a).2.2.1:=rfl
def toldA(g:Nat→Nat)(L lim:Nat)(st:Option Blk13)(out:List Nat)(a:Nat):List Nat×Nat×Int:=told g L lim (muT L a st+1) st out a
theorem told_A{g:Nat→Nat}{L lim f:Nat}{st:Option Blk13}{out:List Nat}{a:Nat}(ha:a≤8*L)(h:muT L a st<f):told g L lim f st out a=toldA g L lim st out a:=
 told_fuel _ _ _ _ _ ha h (by omega)
theorem mu_le(L a:Nat)(st:Option Blk13):muT L a st<fuel13 L:=by unfold fuel13;cases st<;>simp only[muT]<;>omega
theorem told_head{g:Nat→Nat}{L lim:Nat}{out:List Nat}{a:Nat}(ha:a≤8*L):
  toldA g L lim none out a=if(begR g L a).2.2≠0 then(out,a,(begR g L a).2.2)else toldA g L lim (some (begR g L a).1) out (begR g L a).2.1:=by
 rw[←told_A ha (f:=muT L a none+1+1) (by omega),told_n]
 by_cases h1:(begR g L a).2.2≠0
 ·rw[if_pos h1,if_pos h1]
 ·rw[if_neg h1,if_neg h1]
  obtain⟨b1,b2⟩:=beg_fwd (g:=g) (L:=L) (a:=a) (by omega)
  refine told_A b2 ?_;simp only[muT];omega
theorem told_step{g:Nat→Nat}{L lim:Nat}{k:Blk13}{out:List Nat}{a:Nat}(ha:a≤8*L):
  toldA g L lim (some k) out a=if(nextR k g L a).2.2.2≠0 then(out,a,(nextR k g L a).2.2.2)else
  if(nextR k g L a).2.1=true then(if k.last=true then(out,(nextR k g L a).2.2.1,0)else toldA g L lim none out (nextR k g L a).2.2.1)else
  if(out.length:Int)<(nextR k g L a).1.d then(out,(nextR k g L a).2.2.1,60)else
  if lim<out.length+lenT (nextR k g L a).1 then(out,(nextR k g L a).2.2.1,140)else
  toldA g L lim (some (lessK k)) (stpT out (nextR k g L a).1) (nextR k g L a).2.2.1:=by
 rw[←told_A ha (f:=muT L a (some k)+1+1) (by omega),told_s]
 by_cases h1:(nextR k g L a).2.2.2≠0
 ·rw[if_pos h1,if_pos h1]
 ·rw[if_neg h1,if_neg h1]
  obtain⟨b1,b2,b3⟩:=next_fwd (k:=k) (g:=g) ha (by omega)
  by_cases h2:(nextR k g L a).2.1=true
  ·rw[if_pos h2,if_pos h2]
   by_cases h3:k.last=true
   ·rw[if_pos h3,if_pos h3]
   ·rw[if_neg h3,if_neg h3]
    refine told_A b2 ?_;simp only[muT];omega
  ·rw[if_neg h2,if_neg h2]
   have b4:=b3 (by simpa using h2)
   split
   ·rfl
   ·split
    ·rfl
    ·refine told_A b2 ?_;simp only[muT];omega
end Go.Proofs.YtcmpmighjglnpaaGreat
namespace Go.Proofs.YtcmpmighjglnpaaGreat
abbrev Rz:=Nat×Int
def keepS(s:Rz)(x:Int):Rz:=if s.2=0 then(s.1,x)else s
def wantS(s:Rz)(b:Bool)(x:Int):Rz:=if b=true then s else keepS s x
def tkV(g:Nat→Nat)(L n:Nat)(s:Rz):Nat:=if s.2≠0 then 0 else if 8*L<s.1+n then 0 else numN g s.1 n
def tkS(L n:Nat)(s:Rz):Rz:=if s.2≠0 then s else if 8*L<s.1+n then(s.1,10)else(s.1+n,0)
def syV(r:Nat×Nat×Int)(s:Rz):Nat:=if s.2≠0 then 0 else if r.2.2≠0 then 0 else r.1
def syS(r:Nat×Nat×Int)(s:Rz):Rz:=if s.2≠0 then s else if r.2.2≠0 then(s.1,r.2.2)else(r.2.1,0)
def nu1(far:Bool)(y:Nat)(s:Rz):Rz:=keepS s (extE far y)
def nuX(far:Bool)(y:Nat)(g:Nat→Nat)(L:Nat)(s:Rz):Nat:=tkV g L (extB far y) (nu1 far y s)
def nuV(far:Bool)(y:Nat)(g:Nat→Nat)(L:Nat)(s:Rz):Int:=ofV far y (nuX far y g L s)
def nuS(far:Bool)(y:Nat)(g:Nat→Nat)(L:Nat)(s:Rz):Rz:=keepS (tkS L (extB far y) (nu1 far y s)) (ofE far y (nuX far y g L s))
def alS(s:Rz):Rz:=((s.1+7)/8*8,s.2)
def sizV(g:Nat→Nat)(L:Nat)(s:Rz):Nat:=tkV g L 16 (alS s)
def sizS(g:Nat→Nat)(L:Nat)(s:Rz):Rz:=wantS (tkS L 16 (tkS L 16 (alS s))) (decide ((tkV g L 16 (tkS L 16 (alS s)):Int)=65535-(sizV g L s:Int))) 131
def gwS(F:Nat→Nat)(n:Nat)(most:Int)(s:Rz):Rz:=wantS s (decide (checkE F n most=0)) 132
def shS(L:Nat)(s:Rz):Nat→Rz
 |0=>s
 |k+1=>tkS L 3 (shS L s k)
def shG(g:Nat→Nat)(L:Nat)(s:Rz):Nat→(Nat→Nat)
 |0=>nof13
 |k+1=>upd (shG g L s k) (ordN k) (tkV g L 3 (shS L s k))
def ruY(F:Nat→Nat)(g:Nat→Nat)(L:Nat)(s:Rz):Nat:=syV (readR F 320 g L s.1 17 0) s
def ruS1(F:Nat→Nat)(g:Nat→Nat)(L:Nat)(s:Rz):Rz:=syS (readR F 320 g L s.1 17 0) s
def ruX(F:Nat→Nat)(g:Nat→Nat)(L:Nat)(s:Rz):Nat:=tkV g L (bitsR (ruY F g L s:Int)) (ruS1 F g L s)
def ruS(F:Nat→Nat)(g:Nat→Nat)(L:Nat)(s:Rz):Rz:=tkS L (bitsR (ruY F g L s:Int)) (ruS1 F g L s)
def ruT(F:Nat→Nat)(g:Nat→Nat)(L:Nat)(s:Rz):Nat:=timesR (ruY F g L s:Int) (ruX F g L s:Int)
def ruE(F:Nat→Nat)(g:Nat→Nat)(L n made:Nat)(s:Rz):Rz:=wantS (wantS (ruS F g L s) (decide (0<made∨ruY F g L s≠16)) 132) (decide (made+ruT F g L s≤n)) 132
def lnS(F:Nat→Nat)(g:Nat→Nat)(L n:Nat):Nat→Nat→List (Int×Int)→Rz→List (Int×Int)×Rz
 |0,_,l,s=>(l,s)
 |k+1,made,l,s=>if made<n∧s.2=0 then lnS F g L n k (made+ruT F g L s) (l++[((ruY F g L s:Int),(ruX F g L s:Int))]) (ruE F g L n made s)else(l,s)
def stT(k:Blk13)(g:Nat→Nat)(L:Nat)(s:Rz):Tok×Bool×Rz:=
 if k.kind=0 then(if k.left=0 then(tokZ,true,s)else(⟨tkV g L 8 s,0,0⟩,false,tkS L 8 s))else
 let r:=readR k.F k.n g L s.1 17 0
 let y:=syV r s
 let s1:=syS r s
 if y<256 then(⟨y,0,0⟩,false,s1)else if y=256 then(tokZ,true,s1)else
 let s2:=nuS false y g L s1
 let r2:=readR k.G k.m g L s2.1 17 0
 let z:=syV r2 s2
 let s3:=syS r2 s2
 (⟨0,nuV true z g L s3,nuV false y g L s1⟩,false,nuS true z g L s3)
theorem keepS_err{s:Rz}(h:s.2≠0)(x:Int):keepS s x=s:=by unfold keepS;rw[if_neg h]
theorem wantS_err{s:Rz}(h:s.2≠0)(b:Bool)(x:Int):wantS s b x=s:=by unfold wantS;rw[keepS_err h];split<;>rfl
theorem tkS_err{L n:Nat}{s:Rz}(h:s.2≠0):tkS L n s=s:=by unfold tkS;rw[if_pos h]
theorem tkV_err{g:Nat→Nat}{L n:Nat}{s:Rz}(h:s.2≠0):tkV g L n s=0:=by unfold tkV;rw[if_pos h]
theorem syS_err{r:Nat×Nat×Int}{s:Rz}(h:s.2≠0):syS r s=s:=by unfold syS;rw[if_pos h]
theorem syV_err{r:Nat×Nat×Int}{s:Rz}(h:s.2≠0):syV r s=0:=by unfold syV;rw[if_pos h]
theorem nuS_err{far:Bool}{y:Nat}{g:Nat→Nat}{L:Nat}{s:Rz}(h:s.2≠0):nuS far y g L s=s:=by
 have h1:nu1 far y s=s:=keepS_err h _
 unfold nuS;rw[h1,tkS_err h,keepS_err h]
theorem stT_err{k:Blk13}{g:Nat→Nat}{L:Nat}{s:Rz}(h:s.2≠0):(stT k g L s).2.2=s:=by
 unfold stT
 split
 ·split
  ·rfl
  ·exact tkS_err h
 ·simp only[syV_err h,syS_err h]
  rw[if_pos (by omega)]
theorem tkS_in{L n:Nat}{s:Rz}(h:s.1≤8*L):(tkS L n s).1≤8*L:=by
 unfold tkS;split
 ·exact h
 ·split
  ·exact h
  ·show s.1+n≤8*L;omega
theorem keepS_in{s:Rz}{x:Int}:(keepS s x).1=s.1:=by unfold keepS;split<;>rfl
theorem wantS_in{s:Rz}{b:Bool}{x:Int}:(wantS s b x).1=s.1:=by unfold wantS;split;rfl;exact keepS_in
theorem syS_in{F:Nat→Nat}{N:Nat}{g:Nat→Nat}{L:Nat}{s:Rz}(h:s.1≤8*L):(syS (readR F N g L s.1 17 0) s).1≤8*L:=by
 unfold syS;split
 ·exact h
 ·split
  ·exact h
  ·rename_i h2
   exact(read_in (F:=F) (N:=N) (g:=g) h (by omega)).2.1
theorem nuS_in{far:Bool}{y:Nat}{g:Nat→Nat}{L:Nat}{s:Rz}(h:s.1≤8*L):(nuS far y g L s).1≤8*L:=by
 unfold nuS;rw[keepS_in]
 exact tkS_in (by unfold nu1;rw[keepS_in];exact h)
theorem alS_in{L:Nat}{s:Rz}(h:s.1≤8*L):(alS s).1≤8*L:=by unfold alS;show(s.1+7)/8*8≤8*L;omega
theorem tkV_lt(g:Nat→Nat)(L n:Nat)(s:Rz):tkV g L n s<2^n:=by
 unfold tkV;split
 ·exact Nat.two_pow_pos n
 ·split
  ·exact Nat.two_pow_pos n
  ·exact numN_lt g s.1 n
theorem syV_lt{F:Nat→Nat}{N:Nat}{g:Nat→Nat}{L:Nat}{s:Rz}(h:s.1≤8*L)(hN:0<N):syV (readR F N g L s.1 17 0) s<N:=by
 unfold syV;split
 ·exact hN
 ·split
  ·exact hN
  ·rename_i h2
   exact(read_in (F:=F) (N:=N) (g:=g) h (by omega)).2.2
theorem shS_in{L:Nat}{s:Rz}(h:s.1≤8*L):∀k,(shS L s k).1≤8*L
 |0=>h
 |k+1=>tkS_in (shS_in h k)
theorem tkS_ok{L n a:Nat}:tkS L n (a,0)=if 8*L<a+n then(a,10)else(a+n,0):=rfl
theorem tkV_ok{g:Nat→Nat}{L n a:Nat}:tkV g L n (a,0)=if 8*L<a+n then 0 else numN g a n:=rfl
theorem nuS_is{far:Bool}{y:Nat}{g:Nat→Nat}{L a:Nat}:
  ((extR far y g L a).2.2=0→nuS far y g L (a,0)=((extR far y g L a).2.1,0)∧nuV far y g L (a,0)=(extR far y g L a).1)∧((extR far y g L a).2.2≠0→(nuS far y g L (a,0)).2=(extR far y g L a).2.2):=by
 have h1:nu1 far y (a,0)=(a,extE far y):=by unfold nu1 keepS;rw[if_pos rfl]
 unfold nuS nuV nuX
 rw[h1]
 unfold extR
 by_cases e0:extE far y≠0
 ·rw[if_pos e0]
  refine⟨fun h=>absurd h e0,fun _=>?_⟩
  rw[tkS_err (s:=(a,extE far y)) e0,keepS_err (s:=(a,extE far y)) e0]
 ·rw[if_neg e0]
  have e1:extE far y=0:=by omega
  rw[e1,tkS_ok,tkV_ok]
  by_cases h2:8*L<a+extB far y
  ·rw[if_pos h2,if_pos h2,if_pos h2]
   exact⟨fun h=>absurd h (by decide),fun _=>by rw[keepS_err (s:=(a,10)) (show(10:Int)≠0 by decide)]⟩
  ·rw[if_neg h2,if_neg h2,if_neg h2]
   unfold keepS
   rw[if_pos rfl]
   exact⟨fun h=>⟨Prod.ext rfl h,rfl⟩,fun _=>rfl⟩
theorem stT_is{k:Blk13}{g:Nat→Nat}{L a:Nat}:
  ((nextR k g L a).2.2.2=0→stT k g L (a,0)=((nextR k g L a).1,(nextR k g L a).2.1,((nextR k g L a).2.2.1,0)))∧((nextR k g L a).2.2.2≠0→(stT k g L (a,0)).2.2.2=(nextR k g L a).2.2.2):=by
 unfold stT nextR
 by_cases h0:k.kind=0
 ·rw[if_pos h0,if_pos h0]
  unfold nxtS
  by_cases h1:k.left=0
  ·rw[if_pos h1,if_pos h1];exact⟨fun _=>rfl,fun h=>absurd rfl h⟩
  ·rw[if_neg h1,if_neg h1,tkS_ok,tkV_ok]
   by_cases h2:8*L<a+8
   ·rw[if_pos h2,if_pos h2,if_pos h2];exact⟨fun h=>absurd h (by decide),fun _=>rfl⟩
   ·rw[if_neg h2,if_neg h2,if_neg h2];exact⟨fun _=>rfl,fun h=>absurd rfl h⟩
 ·rw[if_neg h0,if_neg h0]
  show(_→(let r:=readR k.F k.n g L a 17 0;_)=_)∧_
  generalize readR k.F k.n g L a 17 0=r
  unfold nxtA
  by_cases h1:r.2.2≠0
  ·have e1:syV r (a,0)=0:=by unfold syV;rw[if_neg (fun h=>h rfl),if_pos h1]
   have e2:syS r (a,0)=(a,r.2.2):=by unfold syS;rw[if_neg (fun h=>h rfl),if_pos h1]
   rw[if_pos h1]
   refine⟨fun h=>absurd h h1,fun _=>?_⟩
   simp only[e1,e2]
   rw[if_pos (by omega)]
  ·have e1:syV r (a,0)=r.1:=by unfold syV;rw[if_neg (fun h=>h rfl),if_neg h1]
   have e2:syS r (a,0)=(r.2.1,0):=by unfold syS;rw[if_neg (fun h=>h rfl),if_neg h1]
   rw[if_neg h1]
   simp only[e1,e2]
   by_cases h2:r.1<256
   ·rw[if_pos h2,if_pos h2];exact⟨fun _=>rfl,fun h=>absurd rfl h⟩
   ·rw[if_neg h2,if_neg h2]
    by_cases h3:r.1=256
    ·rw[if_pos h3,if_pos h3];exact⟨fun _=>rfl,fun h=>absurd rfl h⟩
    ·rw[if_neg h3,if_neg h3]
     obtain⟨n1,n2⟩:=nuS_is (far:=false) (y:=r.1) (g:=g) (L:=L) (a:=r.2.1)
     generalize extR false r.1 g L r.2.1=x at n1 n2⊢
     unfold nxtB
     by_cases h4:x.2.2≠0
     ·rw[if_pos h4]
      refine⟨fun h=>absurd h h4,fun _=>?_⟩
      have e3:=n2 h4
      have e4:(nuS false r.1 g L (r.2.1,0)).2≠0:=by rw[e3];exact h4
      show(nuS true _ g L (syS _ _)).2=_
      rw[syS_err e4,nuS_err e4,e3]
     ·rw[if_neg h4]
      obtain⟨e3,e4⟩:=n1 (by omega)
      rw[e3,e4]
      generalize readR k.G k.m g L x.2.1 17 0=q
      unfold nxtC
      by_cases h5:q.2.2≠0
      ·rw[if_pos h5]
       refine⟨fun h=>absurd h h5,fun _=>?_⟩
       have e5:syS q (x.2.1,0)=(x.2.1,q.2.2):=by unfold syS;rw[if_neg (fun h=>h rfl),if_pos h5]
       show(nuS true _ g L (syS _ _)).2=_
       rw[e5,nuS_err (s:=(x.2.1,q.2.2)) h5]
      ·rw[if_neg h5]
       have e5:syS q (x.2.1,0)=(q.2.1,0):=by unfold syS;rw[if_neg (fun h=>h rfl),if_neg h5]
       have e6:syV q (x.2.1,0)=q.1:=by unfold syV;rw[if_neg (fun h=>h rfl),if_neg h5]
       rw[e5,e6]
       obtain⟨m1,m2⟩:=nuS_is (far:=true) (y:=q.1) (g:=g) (L:=L) (a:=q.2.1)
       generalize extR true q.1 g L q.2.1=y at m1 m2⊢
       unfold nxtD
       by_cases h6:y.2.2≠0
       ·rw[if_pos h6]
        exact⟨fun h=>absurd h h6,fun _=>m2 h6⟩
       ·rw[if_neg h6]
        obtain⟨e7,e8⟩:=m1 (by omega)
        rw[e7,e8]
        exact⟨fun _=>rfl,fun h=>absurd rfl h⟩
end Go.Proofs.YtcmpmighjglnpaaGreat
namespace Go.Proofs.YtcmpmighjglnpaaGreat
open Go.RowKit
theorem take13{g:Nat→Nat}{l a n:Nat}(hn:n≤32):takeE l (a:Int) (n:Int)=(if 8*l<a+n then 10 else 0)∧(¬8*l<a+n→takeV g l (a:Int) (n:Int)=numN g a n):=by
 have h1:¬((a:Int)<0∨(n:Int)<0∨32<(n:Int)):=by omega
 unfold takeE takeV
 rw[if_neg h1,if_neg h1]
 by_cases h:8*l<a+n
 ·rw[if_pos h,if_pos (by omega)];exact⟨rfl,fun h2=>absurd h h2⟩
 ·rw[if_neg h,if_neg (by omega),if_neg (by omega),Int.toNat_natCast,Int.toNat_natCast];exact⟨rfl,fun _=>rfl⟩
theorem lb_is(s:Int):(lbE s=0→lbV s=(((lbV s).toNat:Nat):Int)∧(lbV s).toNat≤5)∧0≤lbV s∧lbV s≤5:=by
 unfold lbE lbV
 by_cases h:257≤s∧s≤285
 ·rw[if_pos h,if_pos h];have:=longX_le (s-257).toNat;exact⟨fun _=>⟨by omega,by omega⟩,by omega,by omega⟩
 ·rw[if_neg h,if_neg h];exact⟨fun g=>by omega,by omega,by omega⟩
theorem fb_is(s:Int):(fbE s=0→fbV s=(((fbV s).toNat:Nat):Int)∧(fbV s).toNat≤13)∧0≤fbV s∧fbV s≤13:=by
 unfold fbE fbV
 by_cases h:0≤s∧s≤29
 ·rw[if_pos h,if_pos h];have:=farX_le s.toNat;exact⟨fun _=>⟨by omega,by omega⟩,by omega,by omega⟩
 ·rw[if_neg h,if_neg h];exact⟨fun g=>by omega,by omega,by omega⟩
end Go.Proofs.YtcmpmighjglnpaaGreat
namespace Go.Proofs.YtcmpmighjglnpaaGreat
theorem lst_app(a b:List Nat)(i:Nat):lst (a++b) i=cat (lst a) a.length (lst b) i:=by
 unfold cat
 show(a++b).getD i 0=if i<a.length then a.getD i 0 else b.getD (i-a.length) 0
 rw[List.getD_eq_getElem?_getD,List.getD_eq_getElem?_getD,List.getD_eq_getElem?_getD,List.getElem?_append]
 split<;>rfl
theorem lst_drop(l:List Nat)(n j:Nat):lst (l.drop n) j=lst l (j+n):=by
 unfold lst;rw[List.getD_eq_getElem?_getD,List.getD_eq_getElem?_getD,List.getElem?_drop,Nat.add_comm]
structure Prs where
 s:Int
 h:Int
 m:Int
 z:Bool
 hist:List Nat
 wait:List Nat
 pen:List Nat
 k:Int
 over:Bool
def lastN(S:Nat)(l:List Nat):List Nat:=l.drop (l.length-S)
def BytesP(l:List Nat):Prop:=∀x∈l,x<256
structure GoodP (p:Prs):Prop where
 sty:mayS p.s p.h p.m=true
 hist:(p.hist.length:Int)≤p.s
 wait:(p.wait.length:Int)<p.m
 k0:0≤p.k
 k7:p.k≤7
 len:p.pen.length=(p.k.toNat+7)/8
 clean:Clean (lst p.pen) p.k.toNat
 over:p.over=false
 bh:BytesP p.hist
 bw:BytesP p.wait
theorem lastN_le(S:Nat)(l:List Nat):(lastN S l).length≤S:=by unfold lastN;rw[List.length_drop];omega
theorem lastN_mem{S:Nat}{l:List Nat}(h:BytesP l):BytesP (lastN S l):=fun x hx=>h x (List.mem_of_mem_drop hx)
theorem k8{p:Prs}(g:GoodP p):p.k.toNat%8=p.k.toNat:=Nat.mod_eq_of_lt (by have:=g.k7;have:=g.k0;omega)
end Go.Proofs.YtcmpmighjglnpaaGreat
namespace Go.Proofs.YtcmpmighjglnpaaGreat
open Go.RowKit
def BoxC(w:World)(g:Nat)(cs:Array Value)(t:TypeId):Prop:=w.heap[g]?=some (.cells cs t (0,0))
theorem BoxC.lt{w:World}{g:Nat}{cs:Array Value}{t:TypeId}(h:BoxC w g cs t):g<w.heap.size:=(Array.getElem?_eq_some_iff.1 h).1
theorem BoxC.new(w:World)(cs:Array Value)(t:TypeId):BoxC (w.alloc (.cells cs t)) w.heap.size cs t:=heap_alloc_new w _
theorem BoxC.old{w:World}{g:Nat}{cs:Array Value}{t:TypeId}(h:BoxC w g cs t)(o:Obj):BoxC (w.alloc o) g cs t:=(Below.heap_alloc _ _ _ h.lt).trans h
theorem BoxC.below{w w':World}{B g:Nat}{cs:Array Value}{t:TypeId}(h:BoxC w g cs t)(hb:Below B w w')(hg:g<B):BoxC w' g cs t:=(hb.block g hg).trans h
theorem BoxC.cell{w:World}{g i:Nat}{cs:Array Value}{t:TypeId}(h:BoxC w g cs t):w.cell? ⟨g,i,none⟩=cs[i]?:=cell_of_row w g i _ _ _ h
theorem BoxC.free{w:World}{g i:Nat}{cs:Array Value}{t:TypeId}(h:BoxC w g cs t):w.frozen? ⟨g,i,none⟩=false:=frozen_of_row w g i _ _ h
theorem BoxC.set{w:World}{g:Nat}{cs:Array Value}{t:TypeId}(h:BoxC w g cs t)(i:Nat)(v:Value):BoxC (w.setCell ⟨g,i,none⟩ v) g (cs.setIfInBounds i v) t:=heap_setCell_same w g i cs _ _ h
theorem BoxC.other{w:World}{g:Nat}{cs:Array Value}{t:TypeId}(h:BoxC w g cs t){p:Addr}(hp:g≠p.block)(u:Value):BoxC (w.setCell p u) g cs t:=(Below.heap_setCell w p u g hp).trans h
theorem BoxC.row{w:World}{g:Nat}{cs:Array Value}{t:TypeId}(h:BoxC w g cs t)(ds:Array Value):BoxC (w.setRow g ds) g ds t:=setRow_heap _ _ _ _ _ _ h
theorem BoxC.rowO{w:World}{g k:Nat}{cs:Array Value}{t:TypeId}(h:BoxC w g cs t)(hk:g≠k)(ds:Array Value):BoxC (w.setRow k ds) g cs t:=(setRow_other _ _ _ _ hk).trans h
theorem below_rowC{B:Nat}{a w:World}(h:Below B a w){g:Nat}(hp:B≤g)(cs:Array Value):Below B a (w.setRow g cs):=
 ⟨h.os,h.tape,h.output,by rw[size_setRow];exact h.size,fun k hk=>(setRow_other w g k cs (by omega)).trans (h.block k hk)⟩
theorem ByR.same{w:World}{B n c:Nat}{A:Option Addr}{f g:Nat→Nat}(h:ByR w B A n c f)(hg:∀j,g j<256)(e:∀j,j<n→f j=g j):ByR w B A n c g:=
 ⟨⟨hg,fun h0=>by
  obtain⟨b,o,q1,q2,q3⟩:=h.1.2 h0
  exact⟨b,o,q1,q2,fun j hj=>by rw[←e j hj];exact q3 j hj⟩⟩,h.2⟩
theorem bytes_of{w:World}{B n c:Nat}{A:Option Addr}{L:List Nat}(h:ByR w B A n c (lst L)):BytesP L:=fun x hx=>by
 obtain⟨i,hi,rfl⟩:=List.mem_iff_getElem.1 hx
 have:=h.1.1 i
 unfold lst at this
 rwa[List.getD_eq_getElem?_getD,List.getElem?_eq_getElem hi]at this
end Go.Proofs.YtcmpmighjglnpaaGreat
namespace Go.Proofs.YtcmpmighjglnpaaGreat
open Go.RowKit
structure Fr (S:Nat→Prop) (w w':World):Prop where
 os:w'.os=w.os
 tape:w'.tape=w.tape
 output:w'.output=w.output
 size:w.heap.size≤w'.heap.size
 block:∀k,k<w.heap.size→¬S k→w'.heap[k]?=w.heap[k]?
def At(p:Nat):Nat→Prop:=fun k=>k=p
theorem Fr.refl(S:Nat→Prop)(w:World):Fr S w w:=⟨rfl,rfl,rfl,Nat.le_refl _,fun _ _ _=>rfl⟩
theorem Fr.trans{S:Nat→Prop}{a b c:World}(h:Fr S a b)(k:Fr S b c):Fr S a c:=
 ⟨k.os.trans h.os,k.tape.trans h.tape,k.output.trans h.output,Nat.le_trans h.size k.size,fun i hi hS=>(k.block i (Nat.lt_of_lt_of_le hi h.size) hS).trans (h.block i hi hS)⟩
theorem Fr.mono{S T:Nat→Prop}{a b:World}(h:Fr S a b)(hS:∀k,S k→T k):Fr T a b:=⟨h.os,h.tape,h.output,h.size,fun i hi hT=>h.block i hi fun hs=>hT (hS i hs)⟩
theorem Fr.of{S:Nat→Prop}{a b:World}(h:Below a.heap.size a b):Fr S a b:=⟨h.os,h.tape,h.output,h.size,fun i hi _=>h.block i hi⟩
theorem Fr.on{S:Nat→Prop}{a b c:World}(h:Fr S a b)(k:Below b.heap.size b c):Fr S a c:=h.trans (.of k)
theorem Fr.below{S:Nat→Prop}{a b:World}{B:Nat}(h:Fr S a b)(hS:∀k,S k→B≤k)(hB:B≤a.heap.size):Below B a b:=⟨h.os,h.tape,h.output,h.size,fun i hi=>h.block i (by omega) fun hs=>by have:=hS i hs;omega⟩
theorem Fr.from{S T:Nat→Prop}{w a b:World}(h:Fr S w a)(k:Fr T a b)(hT:∀j,T j→S j∨w.heap.size≤j):Fr S w b:=
 ⟨k.os.trans h.os,k.tape.trans h.tape,k.output.trans h.output,Nat.le_trans h.size k.size,fun i hi hS=>(k.block i (Nat.lt_of_lt_of_le hi h.size) fun ht=>by rcases hT i ht with x|x;exact hS x;omega).trans (h.block i hi hS)⟩
theorem Fr.cell(w:World)(p i:Nat)(v:Value):Fr (At p) w (w.setCell ⟨p,i,none⟩ v):=⟨rfl,rfl,rfl,by simp[World.setCell],fun k _ hk=>Below.heap_setCell w _ v k hk⟩
theorem Fr.row(w:World)(p:Nat)(cs:Array Value):Fr (At p) w (w.setRow p cs):=⟨rfl,rfl,rfl,by rw[size_setRow];exact Nat.le_refl _,fun k _ hk=>setRow_other w p k cs hk⟩
theorem BoxC.fr{S:Nat→Prop}{w w':World}{g:Nat}{cs:Array Value}{t:TypeId}(h:BoxC w g cs t)(k:Fr S w w')(hg:¬S g):BoxC w' g cs t:=(k.block g h.lt hg).trans h
def RdF(S:Nat→Prop)(w:World)(A:Option Addr)(l:Nat)(g:Nat→Nat):Prop:=RdB w w.heap.size A l g∧∀b o,0<l→A=some ⟨b,o,none⟩→¬S b
theorem RdF.fr{S:Nat→Prop}{w w':World}{A:Option Addr}{l:Nat}{g:Nat→Nat}(h:RdF S w A l g)(k:Fr S w w'):RdF S w' A l g:=by
 refine⟨⟨h.1.1,fun h0=>?_⟩,h.2⟩
 obtain⟨b,o,e,hb,hc⟩:=h.1.2 h0
 refine⟨b,o,e,Nat.lt_of_lt_of_le hb k.size,fun j hj=>?_⟩
 have h1:=hc j hj
 have h2:=k.block b hb (h.2 b o h0 e)
 simp only[World.cell?,h2]at h1⊢
 exact h1
def RiF(S:Nat→Prop)(w:World)(v:Value)(s:List Int):Prop:=RdS w w.heap.size v s∧∀A n c b o,v=.slice A n c→0<s.length→A=some ⟨b,o,none⟩→¬S b
theorem RiF.fr{S:Nat→Prop}{w w':World}{v:Value}{s:List Int}(h:RiF S w v s)(k:Fr S w w'):RiF S w' v s:=by
 obtain⟨⟨A,cap,e,hr,h3⟩,hn⟩:=h
 refine⟨⟨A,cap,e,⟨hr.1,fun h0=>?_⟩,h3⟩,hn⟩
 obtain⟨b,o,e2,hb,hc⟩:=hr.2 h0
 refine⟨b,o,e2,Nat.lt_of_lt_of_le hb k.size,fun j hj=>?_⟩
 have h2:=k.block b hb (hn A _ cap b o e h0 e2)
 have h1:=hc j hj
 simp only[World.cell?,h2]at h1⊢
 exact h1
theorem RiF.of_own{S:Nat→Prop}{w:World}{base:Nat}{v:Value}{s:List Int}(h:OwnS w base v s)(hS:∀k,S k→k<base):RiF S w v s:=by
 refine⟨h.rd,fun A n c b o e h0 e2 hs=>?_⟩
 obtain⟨g,cap,hv,hge,_⟩:=World.ownsRow.form h h0
 rw[e,e2]at hv
 injection hv with hv _ _
 injection hv with hv
 injection hv with e1 _ _
 have:=hS b hs
 omega
def rdrA(A:Option Addr)(l c:Nat)(s:Rz):Array Value:=#[.slice A l c,.int .i64 (s.1:Int),.int .i64 s.2]
def Rdr(w:World)(p:Nat)(A:Option Addr)(l c:Nat)(s:Rz):Prop:=BoxC w p (rdrA A l c s) 70
theorem Rdr.b{w:World}{p:Nat}{A:Option Addr}{l c:Nat}{s:Rz}(h:Rdr w p A l c s):w.cell? ⟨p,0,none⟩=some (.slice A l c):=(BoxC.cell h).trans rfl
theorem Rdr.a{w:World}{p:Nat}{A:Option Addr}{l c:Nat}{s:Rz}(h:Rdr w p A l c s):w.cell? ⟨p,1,none⟩=some (.int .i64 (s.1:Int)):=(BoxC.cell h).trans rfl
theorem Rdr.e{w:World}{p:Nat}{A:Option Addr}{l c:Nat}{s:Rz}(h:Rdr w p A l c s):w.cell? ⟨p,2,none⟩=some (.int .i64 s.2):=(BoxC.cell h).trans rfl
theorem Rdr.free{w:World}{p:Nat}{A:Option Addr}{l c:Nat}{s:Rz}(h:Rdr w p A l c s)(i:Nat):w.frozen? ⟨p,i,none⟩=false:=BoxC.free h
theorem Rdr.fr{S:Nat→Prop}{w w':World}{p:Nat}{A:Option Addr}{l c:Nat}{s:Rz}(h:Rdr w p A l c s)(k:Fr S w w')(hp:¬S p):Rdr w' p A l c s:=BoxC.fr h k hp
theorem Rdr.setA{w:World}{p:Nat}{A:Option Addr}{l c:Nat}{s:Rz}(h:Rdr w p A l c s)(a:Nat):Rdr (w.setCell ⟨p,1,none⟩ (.int .i64 (a:Int))) p A l c (a,s.2):=BoxC.set h 1 _
theorem Rdr.setE{w:World}{p:Nat}{A:Option Addr}{l c:Nat}{s:Rz}(h:Rdr w p A l c s)(e:Int):Rdr (w.setCell ⟨p,2,none⟩ (.int .i64 e)) p A l c (s.1,e):=BoxC.set h 2 _
theorem Rdr.lt{w:World}{p:Nat}{A:Option Addr}{l c:Nat}{s:Rz}(h:Rdr w p A l c s):p<w.heap.size:=BoxC.lt h
theorem infoRdr:(Tryz.prog.info? 70).map (fun i=>(i.zero,i.size))=some (some (.agg (rdrA none 0 0 (0,0))),3):=by kernel_rfl
theorem szRdr:(Tryz.prog.info? 70).map (·.size)=some 3:=(zero_of_info infoRdr).2
theorem pkeep_any(w:World)(p:Nat)(A:Option Addr)(l c:Nat)(s:Rz)(h:Rdr w p A l c s)(x:Int):
  Calls Tryz.prog 77 #[.pointer (some ⟨p,0,none⟩),.int .i64 x] w fun e w'=>e=.returned (.tuple #[])∧Rdr w' p A l c (keepS s x)∧Fr (At p) w w':=by
 have c2:=h.e
 have f2:=h.free 2
 have HS:=Lib.hid (h.setE x);have HH:=Lib.hid h
 obtain⟨a,e0⟩:=s
 clear h
 by_cases h0:e0=0
 ·subst h0
  have hk:keepS (a,0) x=(a,x):=if_pos rfl
  rw[hk]
  clear hk
  go_enter Tryz.func77,Tryz.ntmps77
  go_wp2
  go_end0
  exact⟨rfl,HS.out,Fr.cell _ _ _ _⟩
 ·have d0:(e0==0)=false:=beq_eq_false_iff_ne.2 h0
  rw[keepS_err (s:=(a,e0)) h0]
  clear h0
  go_enter Tryz.func77,Tryz.ntmps77
  go_wp2
  go_end0
  exact⟨rfl,HH.out,Fr.refl _ _⟩
theorem pwant_any(w:World)(p:Nat)(A:Option Addr)(l c:Nat)(s:Rz)(h:Rdr w p A l c s)(b:Bool)(x:Int):
  Calls Tryz.prog 54 #[.pointer (some ⟨p,0,none⟩),.bool b,.int .i64 x] w fun e w'=>e=.returned (.tuple #[])∧Rdr w' p A l c (wantS s b x)∧Fr (At p) w w':=by
 have HK:=Lib.hid (pkeep_any w p A l c s h x);have HH:=Lib.hid h
 clear h
 cases b
 ·go_enter Tryz.func54,Tryz.ntmps54
  go_wp2_with fail
  refine HK.out.mono ?_
  rintro e w2 ⟨rfl,h2,f2⟩
  have H2:=Lib.hid h2;have F2:=Lib.hid f2
  clear h2 f2
  go_wp2
  go_end0
  exact⟨rfl,H2.out,F2.out⟩
 ·go_enter Tryz.func54,Tryz.ntmps54
  go_wp2
  go_end0
  exact⟨rfl,HH.out,Fr.refl _ _⟩
theorem ptake_any(w:World)(p:Nat)(A:Option Addr)(l c:Nat)(g:Nat→Nat)(s:Rz)(h:Rdr w p A l c s)(hg:RdB w w.heap.size A l g)(hl:l≤1000000)(hs:s.1≤8*l)(n:Nat)(hn:n≤32):
  Calls Tryz.prog 98 #[.pointer (some ⟨p,0,none⟩),.int .i64 (n:Int)] w fun e w'=>e=.returned (.int .i64 (tkV g l n s:Int))∧Rdr w' p A l c (tkS l n s)∧Fr (At p) w w':=by
 have c2:=h.e
 have HH:=Lib.hid h
 obtain⟨a,e0⟩:=s
 by_cases h0:e0=0
 ·subst h0
  rw[tkS_ok,tkV_ok]
  have c0:∀q:After w.heap.size w,q.w.cell? ⟨p,0,none⟩=some (.slice A l c):=fun q=>Rdr.b (BoxC.below h q.h h.lt)
  have c1:∀q:After w.heap.size w,q.w.cell? ⟨p,1,none⟩=some (.int .i64 (a:Int)):=fun q=>Rdr.a (BoxC.below h q.h h.lt)
  have T1:=Lib.hid fun V (hV:Below w.heap.size w V)=>(take_any V V.heap.size A l c g (a:Int) (n:Int) ((hg.below hV (Nat.le_refl _)).more hV.size) (by omega) (by have:a≤8*l:=hs;omega)).mono fun e w' (q:e=.returned (.tuple #[.int .u32 (takeV g l a n:Nat),.int .i64 (takeE l a n)])∧V=w')=>(⟨q.1,q.2▸hV⟩:e=.returned (.tuple #[.int .u32 (takeV g l a n:Nat),.int .i64 (takeE l a n)])∧Below w.heap.size w w')
  obtain⟨t1,t2⟩:=take13 (g:=g) (l:=l) (a:=a) (n:=n) hn
  rw[t1]at T1
  by_cases h2:8*l<a+n
  ·rw[if_pos h2,if_pos h2]
   rw[if_pos h2]at T1
   obtain⟨X,hX⟩:∃X,X=takeV g l a n:=⟨_,rfl⟩
   rw[←hX]at T1
   have K:=Lib.hid fun V (hV:Below w.heap.size w V)=>pkeep_any V p A l c (a,0) (BoxC.below h hV h.lt) 10
   clear h hg t1 t2 hX h2 hs
   go_enter Tryz.func98,Tryz.ntmps98
   go_wp2
   refine wp_region_after w.heap.size w (Below.refl _ _) (by kernel_rfl) (by kernel_rfl) ?_
   repeat (go_big_quiet_step (with_reducible exact call_after T1.out _))
   refine wpQuiet_nil ?_
   rintro V ⟨⟨V,hV⟩,rfl⟩
   have HV:=Lib.hid hV
   have KV:=Lib.hid (K.out V hV)
   clear hV c0 c1 c2 T1 K
   go_wp2_with fail
   refine KV.out.mono ?_
   rintro e w2 ⟨rfl,h2,f2⟩
   have H2:=Lib.hid h2;have F2:=Lib.hid f2
   clear h2 f2
   go_wp2
   go_ret
   exact⟨rfl,H2.out,(Fr.of HV.out).trans F2.out⟩
  ·rw[if_neg h2,if_neg h2]
   rw[if_neg h2,t2 h2]at T1
   have hlt:=numN_lt g a n
   have h32:(2:Nat)^n≤2^32:=Nat.pow_le_pow_right (by omega) hn
   have h33:(2:Nat)^32=4294967296:=by decide
   obtain⟨X,hX⟩:∃X,X=numN g a n:=⟨_,rfl⟩
   rw[←hX]at T1 hlt⊢
   have hx:X<4294967296:=by omega
   have han:a+n≤8*l:=by omega
   have hsum:((a:Int)+(n:Int))=((a+n:Nat):Int):=by omega
   have HSUM:=Lib.hid hsum
   have R1:=Lib.hid fun V (hV:Below w.heap.size w V)=>(BoxC.below h hV h.lt:Rdr V p A l c (a,0))
   clear h hg t1 t2 hX h2 hlt h32 h33 hs hsum
   go_enter Tryz.func98,Tryz.ntmps98
   go_wp2
   refine wp_region_after w.heap.size w (Below.refl _ _) (by kernel_rfl) (by kernel_rfl) ?_
   repeat (go_big_quiet_step (with_reducible exact call_after T1.out _))
   refine wpQuiet_nil ?_
   rintro V ⟨⟨V,hV⟩,rfl⟩
   have HV:=Lib.hid hV
   have RV:Rdr V p A l c (a,0):=R1.out V hV
   have k1:=RV.a
   have k2:=RV.free 1
   have HRV:=Lib.hid RV
   clear hV RV R1 c0 c1 c2 T1
   go_wp2
   go_ret
   refine⟨by first|rfl|go_num,?_,(Fr.of HV.out).trans (Fr.cell _ _ _ _)⟩
   rw[HSUM.out]
   exact HRV.out.setA (a+n)
 ·have d0:(e0==0)=false:=beq_eq_false_iff_ne.2 h0
  have d1:(e0 !=0)=true:=by simp[bne,d0]
  rw[tkS_err (s:=(a,e0)) h0,tkV_err (s:=(a,e0)) h0]
  clear h hg h0 hs
  go_enter Tryz.func98,Tryz.ntmps98
  go_wp2
  go_ret
  exact⟨rfl,HH.out,Fr.refl _ _⟩
theorem ptake_lit(w:World)(p:Nat)(A:Option Addr)(l c:Nat)(g:Nat→Nat)(s:Rz)(h:Rdr w p A l c s)(hg:RdB w w.heap.size A l g)(hl:l≤1000000)(hs:s.1≤8*l)(n:Nat)(v:Int)(hv:v=(n:Int))(hn:n≤32):
  Calls Tryz.prog 98 #[.pointer (some ⟨p,0,none⟩),.int .i64 v] w fun e w'=>e=.returned (.int .i64 (tkV g l n s:Int))∧Rdr w' p A l c (tkS l n s)∧Fr (At p) w w':=by
 subst hv;exact ptake_any w p A l c g s h hg hl hs n hn
end Go.Proofs.YtcmpmighjglnpaaGreat
