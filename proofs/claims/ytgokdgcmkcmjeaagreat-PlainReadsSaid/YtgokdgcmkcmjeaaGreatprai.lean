/-
  Words and walks.
-/
import Derived.BigQuiet
import Derived.Lib.SmallJoins
import Derived.Test.YtgokdgcmkcmjeaaGreatpraa
import Derived.Test.YtgokdgcmkcmjeaaGreatprab
import Derived.Test.YtgokdgcmkcmjeaaGreatprad
import Derived.Test.YtgokdgcmkcmjeaaGreatprae
import Derived.Test.YtgokdgcmkcmjeaaGreatprah
set_option maxRecDepth 100000
set_option maxHeartbeats 16000000
namespace Go.Proofs.YtgokdgcmkcmjeaaGreat
def bvN(g:Nat→Nat)(at_:Nat):Nat→Nat
 |0=>0
 |n+1=>2*bvN g at_ n+bitAt g (at_+n)
theorem bvN_lt(g:Nat→Nat)(at_:Nat):∀n,bvN g at_ n<2^n
 |0=>by simp[bvN]
 |n+1=>by
  have h1:=bvN_lt g at_ n
  have h2:=bitAt_lt g (at_+n)
  simp only[bvN,Nat.pow_succ];omega
def isB(f:Nat→Nat)(N v n i:Nat):Bool:=decide (0<n∧f i=n∧codeB f N i=v)
def onB(f:Nat→Nat)(N v n i:Nat):Bool:=decide (n<f i∧codeB f N i/2^(f i-n)=v)
def fndN(f:Nat→Nat)(N v n:Nat):Nat→Option Nat
 |0=>none
 |k+1=>match fndN f N v n k with
  |some i=>some i
  |none=>if isB f N v n k=true then some k else none
def morN(f:Nat→Nat)(N v n:Nat):Nat→Bool
 |0=>false
 |k+1=>morN f N v n k||onB f N v n k
theorem fndN_some{f:Nat→Nat}{N v n i:Nat}:∀{k},fndN f N v n k=some i→i<k∧isB f N v n i=true
 |0,h=>by cases h
 |k+1,h=>by
  simp only[fndN]at h
  cases hk:fndN f N v n k with
  |some j=>rw[hk]at h;injection h with h;subst h;have:=fndN_some hk;exact⟨by omega,this.2⟩
  |none=>
   rw[hk]at h
   by_cases hb:isB f N v n k=true
   ·simp only[hb,if_true]at h;injection h with h;subst h;exact⟨by omega,hb⟩
   ·simp only[if_neg hb]at h;cases h
theorem fndN_none{f:Nat→Nat}{N v n:Nat}:∀{k},fndN f N v n k=none↔∀i,i<k→isB f N v n i=false
 |0=>⟨fun _ i hi=>absurd hi (by omega),fun _=>rfl⟩
 |k+1=>by
  simp only[fndN]
  constructor
  ·intro h
   cases hk:fndN f N v n k with
   |some j=>rw[hk]at h;cases h
   |none=>
    rw[hk]at h
    intro i hi
    rcases Nat.eq_or_lt_of_le (Nat.le_of_lt_succ hi)with e|e
    ·subst e
     cases hb:isB f N v n i with
     |false=>rfl
     |true=>simp[hb]at h
    ·exact fndN_none.1 hk i e
  ·intro h
   rw[fndN_none.2 (fun i hi=>h i (by omega))]
   simp[h k (by omega)]
theorem morN_true{f:Nat→Nat}{N v n:Nat}:∀{k},morN f N v n k=true↔∃i,i<k∧onB f N v n i=true
 |0=>⟨fun h=>by simp[morN]at h,fun⟨_,h,_⟩=>absurd h (by omega)⟩
 |k+1=>by
  simp only[morN,Bool.or_eq_true]
  rw[morN_true]
  constructor
  ·rintro(⟨i,hi,h⟩|h)
   ·exact⟨i,by omega,h⟩
   ·exact⟨k,by omega,h⟩
  ·rintro⟨i,hi,h⟩
   rcases Nat.eq_or_lt_of_le (Nat.le_of_lt_succ hi)with e|e
   ·subst e;exact .inr h
   ·exact .inl ⟨i,e,h⟩
theorem fndN_keep{f:Nat→Nat}{N v n j:Nat}(h:fndN f N v n j=none)(hb:isB f N v n j=true):∀k,j<k→fndN f N v n k=some j
 |0,hk=>absurd hk (by omega)
 |k+1,hk=>by
  simp only[fndN]
  rcases Nat.eq_or_lt_of_le (Nat.le_of_lt_succ hk)with e|e
  ·subst e;rw[h];simp[hb]
  ·rw[fndN_keep h hb k e]
theorem fndN_more{f:Nat→Nat}{N v n j:Nat}(h:fndN f N v n j=none)(hb:isB f N v n j=false):fndN f N v n (j+1)=none:=by
 simp only[fndN];rw[h];simp[hb]
def readR(f:Nat→Nat)(N:Nat)(g:Nat→Nat)(l at_:Nat):Nat→Nat→Nat×Nat×Int
 |0,_=>(0,0,50)
 |fuel+1,n=>match fndN f N (bvN g at_ n) n N with
  |some i=>(i,at_+n,0)
  |none=>if morN f N (bvN g at_ n) n N=false then(0,0,50)else if 8*l≤at_+n then(0,0,10)else readR f N g l at_ fuel (n+1)
theorem mor_last{f:Nat→Nat}{N v n:Nat}(h:∀i,i<N→f i≤15)(hn:15≤n):morN f N v n N=false:=by
 cases hm:morN f N v n N with
 |false=>rfl
 |true=>
  obtain⟨i,hi,hb⟩:=morN_true.1 hm
  have:=(of_decide_eq_true hb).1
  have:=h i hi
  omega
end Go.Proofs.YtgokdgcmkcmjeaaGreat
namespace Go.Proofs.YtgokdgcmkcmjeaaGreat
open Go.RowKit
theorem shr_u32(x d:Nat):((x:Int)/2^d:Int)=((x/2^d:Nat):Int):=by rw[Int.natCast_ediv,Int.natCast_pow];rfl
def RdOut(p:Nat×Nat×Int):Value:=.tuple #[.int .i64 (p.1:Int),.int .i64 (p.2.1:Int),.int .i64 p.2.2]
theorem rread_any(w:World)(A:Option Addr)(N c:Nat)(f:Nat→Nat)(hr:RdC w w.heap.size A N (codeB f N) f)(h15:∀i,i<N→f i≤15)(hN:N≤1000)(Ab:Option Addr)(l cb:Nat)(g:Nat→Nat)(hg:RdB w w.heap.size Ab l g)(hl:l≤1000000)(at_:Nat)(hat:at_≤9223372036854775807):
  Calls Tryz.prog 69 #[.slice A N c,.slice Ab l cb,.int .i64 (at_:Int)] w fun e w'=>e=.returned (RdOut (readR f N g l at_ 17 0))∧Below w.heap.size w w':=by
 have HR:=Lib.hid hr;have H15:=Lib.hid h15;have HG:=Lib.hid hg
 clear hr h15 hg
 obtain⟨P,hP⟩:∃P,P=readR f N g l at_ 17 0:=⟨_,rfl⟩
 rw[←hP]
 have HP:=Lib.hid hP
 clear hP
 go_enter Tryz.func69,Tryz.ntmps69
 go_wp2
 go_loopw [2,9,10,11,12,13,14,15] (fun a v n _ _ _ _ _ wr=>∃k:Nat,k≤15∧n=.int .i64 k∧a=.int .i64 ((at_+k:Nat):Int)∧v=.int .u32 (bvN g at_ k:Nat)∧(0<k→at_+k≤8*l)∧P=readR f N g l at_ (17-k) k∧Below w.heap.size w wr) (fun _ _ n _ _ _ _ _ _=>16-(intOf n).toNat)
 case atStart=>exact⟨0,by omega,rfl,rfl,rfl,by omega,HP.out,Below.refl _ _⟩
 case round=>
  obtain⟨k,hk,rfl,rfl,rfl,hin,hp,hb⟩:=hrel
  obtain⟨wo,rfl⟩:∃wo:World,wo=wr:=⟨_,rfl⟩
  have hv:=bvN_lt g at_ k
  have hpw:(2:Nat)^k≤2^15:=Nat.pow_le_pow_right (by omega) hk
  have h215:(2:Nat)^15=32768:=rfl
  have hbs:=Lib.hid (show bvN g at_ (k+1)=2*bvN g at_ k+bitAt g (at_+k)from rfl)
  have hrs:readR f N g l at_ (17-k) k=match fndN f N (bvN g at_ k) k N with
   |some i=>(i,at_+k,0)
   |none=>if morN f N (bvN g at_ k) k N=false then(0,0,50)else if 8*l≤at_+k then(0,0,10)else readR f N g l at_ (17-(k+1)) (k+1):=by
   rw[show 17-k=(17-(k+1))+1 by omega];rfl
  obtain⟨v,hvv⟩:∃v,v=bvN g at_ k:=⟨_,rfl⟩
  rw[←hvv]at hv hbs hrs⊢
  have HVV:=Lib.hid hvv
  have hv2:v<32768:=by omega
  have HPP:=Lib.hid (hp.trans hrs);have HB:=Lib.hid hb
  clear hvv hv hpw h215 hrs hp hb
  go_wp2
  go_loopw [11,12,13] (fun mo i _ wi=>∃j:Nat,j≤N∧i=.int .i64 j∧mo=.bool (morN f N v k j)∧fndN f N v k j=none∧Below w.heap.size w wi) (fun _ i _ _=>N-(intOf i).toNat)
  case atStart=>exact⟨0,Nat.zero_le _,rfl,rfl,rfl,HB.out⟩
  case round=>
   obtain⟨j,hj,rfl,rfl,hfn,hb⟩:=hrel
   by_cases hlt:j<N
   ·obtain⟨b,o,rfl,hbl,hc⟩:=(HR.out.below hb (Nat.le_refl _)).at (by omega)
    obtain⟨c1,c2⟩:=hc j hlt
    have hm15:=H15.out j hlt
    have hx32:=HR.out.1.1 j
    have hmr:=Lib.hid (show morN f N v k (j+1)=(morN f N v k j||onB f N v k j)from rfl)
    have hkeep:=Lib.hid (fun hb=>fndN_keep hfn (hb:isB f N v k j=true) N hlt)
    have hmore:=Lib.hid (fun hb=>fndN_more hfn (hb:isB f N v k j=false))
    have his:isB f N v k j=decide (0<k∧f j=k∧codeB f N j=v):=rfl
    have hon:onB f N v k j=decide (k<f j∧codeB f N j/2^(f j-k)=v):=rfl
    obtain⟨M,hM⟩:∃M,M=morN f N v k j:=⟨_,rfl⟩
    rw[←hM]at hmr⊢
    obtain⟨x,hx⟩:∃x,x=codeB f N j:=⟨_,rfl⟩
    obtain⟨m,hm⟩:∃m,m=f j:=⟨_,rfl⟩
    rw[←hx]at c1 hx32 his hon
    rw[←hm]at c2 hm15 his hon
    have HBW:=Lib.hid hb
    have hblt:b<wr.heap.size:=Nat.lt_of_lt_of_le hbl hb.size
    clear hfn hb hc hM hx hm
    by_cases hm0:m=0
    ·have hI:=Lib.hid (his.trans (decide_eq_false (by omega)))
     have hO:=Lib.hid (hon.trans (decide_eq_false (by omega)))
     subst hm0
     clear his hon
     go_wp2
     go_roundw
     case rel=>exact⟨j+1,by omega,by go_num,by rw[hmr.out,hO.out,Bool.or_false],hmore.out hI.out,HBW.out.alloc HBW.out.size _⟩
     case measure=>simp[intOf];omega
    ·have hmz:((m:Int)==0)=false:=by simp;omega
     have hmz2:(m==0)=false:=by simpa using hm0
     by_cases hmk:m<k
     ·have hI:=Lib.hid (his.trans (decide_eq_false (by omega)))
      have hO:=Lib.hid (hon.trans (decide_eq_false (by omega)))
      have hd1:decide ((m:Int)<(k:Int))=true:=by simp;omega
      have hd2:decide (m<k)=true:=by simpa using hmk
      clear his hon
      go_wp2
      go_roundw
      case rel=>exact⟨j+1,by omega,by go_num,by rw[hmr.out,hO.out,Bool.or_false],hmore.out hI.out,HBW.out.alloc HBW.out.size _⟩
      case measure=>simp[intOf];omega
     ·have hd1:decide ((m:Int)<(k:Int))=false:=by simp;omega
      have hd2:decide (m<k)=false:=by simpa using hmk
      by_cases hme:m=k
      ·subst hme
       have hO:=Lib.hid (hon.trans (decide_eq_false (by omega)))
       have hmm:((m:Int)==(m:Int))=true:=by simp
       have hmm2:(m==m)=true:=by simp
       have hgt:decide ((m:Int)<(m:Int))=false:=by simp
       have h0m:decide (0<(m:Int))=true:=by simp;omega
       have h0m2:decide (0<m)=true:=by simp;omega
       by_cases hxv:x=v
       ·subst hxv
        have hI:=(his.trans (decide_eq_true ⟨by omega,rfl,rfl⟩))
        have hPf:P=(j,at_+m,0):=by rw[HPP.out,hkeep.out hI]
        have hxx:((x:Int)==(x:Int))=true:=by simp
        have hxx2:(x==x)=true:=by simp
        have HPF:=Lib.hid hPf
        clear his hon hI hPf
        go_wp2
        go_ret3
        exact⟨by rw[HPF.out];rfl,HBW.out.alloc HBW.out.size _⟩
       ·have hI:=Lib.hid (his.trans (decide_eq_false (by omega)))
        have hxx:((x:Int)==(v:Int))=false:=by simp;omega
        have hxx2:(x==v)=false:=by simpa using hxv
        clear his hon
        cases M
        all_goals
         go_wp2
         go_roundw
         case rel=>exact⟨j+1,by omega,by go_num,by rw[hmr.out,hO.out];rfl,hmore.out hI.out,HBW.out.alloc HBW.out.size _⟩
         case measure=>simp[intOf];omega
      ·have hI:=Lib.hid (his.trans (decide_eq_false (by omega)))
       have hme1:((m:Int)==(k:Int))=false:=by simp;omega
       have hme2:(m==k)=false:=by simpa using hme
       have hgt:decide ((k:Int)<(m:Int))=true:=by simp;omega
       have hgt2:decide (k<m)=true:=by simp;omega
       have hdd:(m:Int)-(k:Int)=((m-k:Nat):Int):=by omega
       have hO:=Lib.hid (hon.trans (by rw[decide_eq_decide];exact⟨fun h=>h.2,fun h=>⟨by omega,h⟩⟩:_=decide (x/2^(m-k)=v)))
       clear his hon
       cases M
       ·have hval:=Lib.hid (show((x:Int)/2^(m-k)==(v:Int))=morN f N v k (j+1) by
         rw[hmr.out,hO.out,Bool.false_or,shr_u32]
         generalize x/2^(m-k)=y
         rw[Bool.eq_iff_iff];simp;omega)
        go_wp2
        go_roundw
        case rel=>exact⟨j+1,by omega,by go_num,by rw[hval.out],hmore.out hI.out,HBW.out.alloc HBW.out.size _⟩
        case measure=>simp[intOf];omega
       ·go_wp2
        go_roundw
        case rel=>exact⟨j+1,by omega,by go_num,by rw[hmr.out];rfl,hmore.out hI.out,HBW.out.alloc HBW.out.size _⟩
        case measure=>simp[intOf];omega
   ·obtain rfl:j=N:=by omega
    have hPn:P=if morN f j v k j=false then(0,0,50)else if 8*l≤at_+k then(0,0,10)else readR f j g l at_ (17-(k+1)) (k+1):=by rw[HPP.out,hfn]
    have HBW:=Lib.hid hb
    clear hfn hb hlt hj
    cases hM:morN f j v k j with
    |false=>
     rw[hM]at hPn
     have hPf:P=(0,0,50):=by rw[hPn];rfl
     have HPF:=Lib.hid hPf
     clear hPn hPf hM
     go_wp2
     go_ret3
     exact⟨by rw[HPF.out];rfl,HBW.out⟩
    |true=>
     have hk15:k<15:=by
      rcases Nat.lt_or_ge k 15 with h|h
      ·exact h
      ·rw[mor_last H15.out h]at hM;cases hM
     rw[hM,if_neg (by decide)]at hPn
     have htk:=rtake_any wr w.heap.size Ab l cb g ((at_+k:Nat):Int) 1 (HG.out.below HBW.out (Nat.le_refl _)) (by omega)
     by_cases hend:8*l≤at_+k
     ·have hPf:P=(0,0,10):=by rw[hPn,if_pos hend]
      have hbig:((at_+k:Nat):Int)≤9223372036854775807:=by
       rcases Nat.eq_zero_or_pos k with h|h
       ·omega
       ·have:=hin h;omega
      have htk:=htk hbig
      have e1:takeE l ((at_+k:Nat):Int) 1=10:=by unfold takeE;rw[if_neg (by omega),if_pos (by omega)]
      have e2:takeV g l ((at_+k:Nat):Int) 1=0:=by unfold takeV;rw[if_neg (by omega),if_pos (by omega)]
      rw[e1,e2]at htk
      have HTK:=Lib.hid htk
      have HPF:=Lib.hid hPf
      clear hPn hPf hM htk e1 e2 hend hin
      go_wp2_with fail
      refine HTK.out.mono ?_
      rintro e w' ⟨rfl,rfl⟩
      go_wp2
      go_ret3
      exact⟨by rw[HPF.out];rfl,HBW.out⟩
     ·have hPf:P=readR f j g l at_ (17-(k+1)) (k+1):=by rw[hPn,if_neg hend]
      have htk:=htk (by omega)
      have e1:takeE l ((at_+k:Nat):Int) 1=0:=by unfold takeE;rw[if_neg (by omega),if_neg (by omega)]
      have e2:takeV g l ((at_+k:Nat):Int) 1=bitAt g (at_+k):=by
       unfold takeV;rw[if_neg (by omega),if_neg (by omega),Int.toNat_natCast]
       show numN g (at_+k) 1=_
       simp[numN]
      rw[e1,e2]at htk
      have hbl:=bitAt_lt g (at_+k)
      obtain⟨t,ht⟩:∃t,t=bitAt g (at_+k):=⟨_,rfl⟩
      rw[←ht]at htk hbl hbs
      have HTK:=Lib.hid htk
      have HPF:=Lib.hid hPf
      have hcast:((at_+k:Nat):Int)+1=((at_+(k+1):Nat):Int):=by omega
      have hin2:at_+k<8*l:=by omega
      have HC:=Lib.hid hcast
      clear hPn hPf hM htk e1 e2 ht hend hin hcast
      go_wp2_with fail
      refine HTK.out.mono ?_
      rintro e w' ⟨rfl,rfl⟩
      go_wp2
      go_roundw
      case rel=>exact⟨k+1,by omega,by go_num,val_int (by omega),val_int (by rw[hbs.out];omega),fun _=>by omega,HPF.out,HBW.out⟩
      case measure=>simp[intOf];omega
end Go.Proofs.YtgokdgcmkcmjeaaGreat
namespace Go.Proofs.YtgokdgcmkcmjeaaGreat
open Go.RowKit
def ChkOut(c:Nat→Int)(s:List Int)(e:Ending):Prop:=((∃f,IsTree c s f)∧e=.returned (.int .i64 0))∨((∀f,¬IsTree c s f)∧e=.returned (.int .i64 8))
def nxtP(f:Nat→Nat)(g:Nat→Nat)(l:Nat)(a:Int):Nat×Nat×Int:=if a<0 then(0,0,2)else readR f 320 g l a.toNat 17 0
def NxtOut(c:Nat→Int)(s:List Int)(g:Nat→Nat)(l:Nat)(a:Int)(e:Ending):Prop:=
 (∃f,IsTree c s f∧e=.returned (RdOut (nxtP f g l a)))∨((∀f,¬IsTree c s f)∧e=.returned (RdOut (0,0,8)))
theorem box_tree(w:World)(c:Nat→Int)(v:Value):TreA (w.alloc (.cells (trA c v) 26)) w.heap.size c v:=heap_alloc_new w _
theorem rchk5_any(w:World)(c:Nat→Int)(v:Value)(s:List Int)(hv:RdS w w.heap.size v s)(hs:s.length≤1000000000):
  Calls Tryz.prog 34 #[.agg (trA c v)] w fun e w'=>ChkOut c s e∧Below w.heap.size w w':=by
 have hb:=(Below.refl w.heap.size w).alloc (Nat.le_refl _) (.cells (trA c v) 26)
 have hcl:=rlens_any (w.alloc (.cells (trA c v) 26)) c v s ((hv.below hb (Nat.le_refl _)).more hb.size) hs
 have HCL:=Lib.hid hcl;have HB:=Lib.hid hb;have HT:=Lib.hid (box_tree w c v)
 clear hcl hb
 go_enter Tryz.func34,Tryz.ntmps34
 go_wp2_with (refine wpList_load_row rfl _ _ rfl w.heap.size rfl _ (trA c v) (0,0) _ HT.out Tryz.underlying26 rfl (by rw[trA_size];exact szTree) ?_)
 refine HCL.out.mono ?_
 rintro e w2 ⟨hout,hb2⟩
 have HB2:=Lib.hid (HB.out.trans (hb2.mono HB.out.size))
 clear hb2
 rcases hout with⟨g,f,hf,_,rfl,_⟩|⟨hno,rfl⟩
 ·have HF:=Lib.hid hf
  clear hf
  go_wp2
  go_ret
  exact⟨.inl ⟨⟨f,HF.out⟩,rfl⟩,HB2.out⟩
 ·have HF:=Lib.hid hno
  clear hno
  go_wp2
  go_ret
  exact⟨.inr ⟨HF.out,rfl⟩,HB2.out⟩
end Go.Proofs.YtgokdgcmkcmjeaaGreat
namespace Go.Proofs.YtgokdgcmkcmjeaaGreat
def extF(n:Nat)(f:Nat→Nat)(j:Nat):Nat:=if j<n then f j else 0
theorem extF_in{n j:Nat}(f:Nat→Nat)(h:j<n):extF n f j=f j:=by unfold extF;rw[if_pos h]
theorem extF_out{n j:Nat}(f:Nat→Nat)(h:n≤j):extF n f j=0:=by unfold extF;rw[if_neg (by omega)]
theorem ext_sums{n:Nat}(f:Nat→Nat):∀k,n≤k→allN (extF n f) k=allN f n∧usedN (extF n f) k=usedN f n:=by
 have h0:∀k,k≤n→allN (extF n f) k=allN f k∧usedN (extF n f) k=usedN f k:=by
  intro k
  induction k with
  |zero=>intro _;exact⟨rfl,rfl⟩
  |succ k ih=>intro hk;have:=ih (by omega);simp only[allN,usedN,extF_in f (show k<n by omega),this.1,this.2];exact⟨trivial,trivial⟩
 intro k
 induction k with
 |zero=>intro hk;rw[show n=0 by omega];exact⟨rfl,rfl⟩
 |succ k ih=>
  intro hk
  rcases Nat.eq_or_lt_of_le hk with e|e
  ·rw[←e];exact h0 n (Nat.le_refl _)
  ·have:=ih (by omega)
   simp only[allN,usedN,extF_out f (show n≤k by omega)]
   exact⟨by simpa using this.1,by simpa using this.2⟩
theorem ext_rows{n m:Nat}(f:Nat→Nat)(hm:0<m):∀k,n≤k→tcN (extF n f) m k=tcN f m n∧rowM (extF n f) m k=rowM f m n∧inN (extF n f) m k=inN f m n:=by
 have h0:∀k,k≤n→tcN (extF n f) m k=tcN f m k∧rowM (extF n f) m k=rowM f m k∧inN (extF n f) m k=inN f m k:=by
  intro k
  induction k with
  |zero=>intro _;exact⟨rfl,rfl,rfl⟩
  |succ k ih=>intro hk;have:=ih (by omega);simp only[tcN,rowM,inN,extF_in f (show k<n by omega),this.1,this.2.1,this.2.2];exact⟨trivial,trivial,trivial⟩
 intro k
 induction k with
 |zero=>intro hk;rw[show n=0 by omega];exact⟨rfl,rfl,rfl⟩
 |succ k ih=>
  intro hk
  rcases Nat.eq_or_lt_of_le hk with e|e
  ·rw[←e];exact h0 n (Nat.le_refl _)
  ·have:=ih (by omega)
   simp only[tcN,rowM,inN,extF_out f (show n≤k by omega)]
   rw[if_neg (by omega),if_neg (by omega),if_neg (by omega)]
   exact⟨this.1,by simpa using this.2.1,this.2.2⟩
theorem ext_sumTo{n:Nat}(f:Nat→Nat){k:Nat}(hk:n≤k):∀M,sumTo (extF n f) k M=sumTo f n M
 |0=>rfl
 |M+1=>by simp only[sumTo];rw[ext_sumTo f hk M,(ext_rows f (by omega) k hk).2.2]
theorem ext_symL{n:Nat}(f:Nat→Nat){k:Nat}(hk:n≤k):∀M,symL (extF n f) k M=symL f n M
 |0=>rfl
 |M+1=>by simp only[symL];rw[ext_symL f hk M,(ext_rows f (by omega) k hk).2.1]
theorem inN_pre{f g:Nat→Nat}(m:Nat):∀i,(∀j,j<i→f j=g j)→inN f m i=inN g m i
 |0,_=>rfl
 |i+1,h=>by simp only[inN];rw[inN_pre m i (fun j hj=>h j (by omega)),h i (by omega)]
theorem ext_code{n:Nat}(f:Nat→Nat){k:Nat}(hk:n≤k){i:Nat}(hi:i<n):codeB (extF n f) k i=codeB f n i:=by
 unfold codeB stN
 rw[extF_in f hi,ext_sumTo f hk,inN_pre (f i) i (fun j hj=>extF_in f (by omega))]
theorem ext_check{f:Nat→Nat}{n:Nat}{most:Int}(h:checkE f n most=0):checkE (extF n f) 320 15=0:=by
 obtain⟨h1,h15,hn,hb,ha,ho⟩:=check_ok h
 obtain⟨e1,e2⟩:=ext_sums f 320 hn
 unfold checkE
 rw[if_neg (by omega),if_neg (by omega)]
 have:bigB (extF n f) 320 15=false:=bigB_mk fun j _=>by
  unfold extF;split
  ·rename_i hj;have:=hb j hj;omega
  ·omega
 rw[this,if_neg (by decide),e1,e2]
 unfold endE
 rw[if_neg (by omega),if_pos ho]
theorem grown_tree{f:Nat→Nat}{n:Nat}{most:Int}(h:checkE f n most=0):IsTree (grC f n most) (grS f n most) (extF n f):=by
 have hn:=(check_ok h).2.2.1
 refine⟨ext_check h,fun j hj=>extF_out f (by omega),fun m hm=>?_,?_⟩
 ·unfold grC
  rw[if_pos h]
  rcases Nat.eq_zero_or_pos m with e|e
  ·subst e;rw[cntN_zero,cntN_zero]
  ·rw[(ext_rows f e 320 hn).1]
 ·unfold grS
  rw[if_pos h,ext_symL f hn]
theorem ext_is{f:Nat→Nat}{n v k:Nat}(hn:n≤320):∀i,i<n→isB (extF n f) 320 v k i=isB f n v k i∧onB (extF n f) 320 v k i=onB f n v k i:=fun i hi=>by
 unfold isB onB
 rw[extF_in f hi,ext_code f hn hi]
 exact⟨rfl,rfl⟩
theorem ext_fnd{f:Nat→Nat}{n v k:Nat}(hn:n≤320):fndN (extF n f) 320 v k 320=fndN f n v k n∧morN (extF n f) 320 v k 320=morN f n v k n:=by
 have h0:∀j,j≤n→fndN (extF n f) 320 v k j=fndN f n v k j∧morN (extF n f) 320 v k j=morN f n v k j:=by
  intro j
  induction j with
  |zero=>intro _;exact⟨rfl,rfl⟩
  |succ j ih=>
   intro hj
   have h:=ih (by omega)
   have he:=ext_is (f:=f) (v:=v) (k:=k) hn j (by omega)
   simp only[fndN,morN]
   rw[h.1,h.2,he.1,he.2]
   exact⟨rfl,rfl⟩
 have h1:∀j,n≤j→fndN (extF n f) 320 v k j=fndN f n v k n∧morN (extF n f) 320 v k j=morN f n v k n:=by
  intro j
  induction j with
  |zero=>
   intro hj;obtain rfl:n=0:=by omega
   exact⟨rfl,rfl⟩
  |succ j ih=>
   intro hj
   rcases Nat.eq_or_lt_of_le hj with e|e
   ·rw[←e];exact h0 n (Nat.le_refl _)
   ·have h:=ih (by omega)
    have hi:isB (extF n f) 320 v k j=false:=decide_eq_false (by rw[extF_out f (by omega)];omega)
    have ho:onB (extF n f) 320 v k j=false:=decide_eq_false (by rw[extF_out f (by omega)];omega)
    simp only[fndN,morN]
    rw[h.1,h.2,ho,Bool.or_false]
    refine⟨?_,rfl⟩
    cases fndN f n v k n with
    |some _=>rfl
    |none=>simp[hi]
 exact h1 320 hn
theorem ext_read{f:Nat→Nat}{n:Nat}(hn:n≤320)(g:Nat→Nat)(l a:Nat):∀fuel k,readR (extF n f) 320 g l a fuel k=readR f n g l a fuel k
 |0,_=>rfl
 |fuel+1,k=>by
  simp only[readR]
  rw[(ext_fnd (f:=f) (v:=bvN g a k) (k:=k) hn).1,(ext_fnd (f:=f) (v:=bvN g a k) (k:=k) hn).2,ext_read hn g l a fuel (k+1)]
end Go.Proofs.YtgokdgcmkcmjeaaGreat
namespace Go.Proofs.YtgokdgcmkcmjeaaGreat
theorem read_found{f:Nat→Nat}{N:Nat}{g:Nat→Nat}{l a:Nat}:∀fuel k,(readR f N g l a fuel k).2.2=0→
  ∃k',(readR f N g l a fuel k).2.1=a+k'∧(readR f N g l a fuel k).1<N∧isB f N (bvN g a k') k' (readR f N g l a fuel k).1=true
 |0,_,h=>by simp[readR]at h
 |fuel+1,k,h=>by
  simp only[readR]at h⊢
  cases hf:fndN f N (bvN g a k) k N with
  |some i=>exact⟨k,rfl,(fndN_some hf).1,(fndN_some hf).2⟩
  |none=>
   rw[hf]at h
   simp only[]at h⊢
   by_cases h1:morN f N (bvN g a k) k N=false
   ·rw[if_pos h1]at h;simp at h
   ·rw[if_neg h1]at h⊢
    by_cases h2:8*l≤a+k
    ·rw[if_pos h2]at h;simp at h
    ·rw[if_neg h2]at h⊢
     exact read_found fuel (k+1) h
end Go.Proofs.YtgokdgcmkcmjeaaGreat
namespace Go.Proofs.YtgokdgcmkcmjeaaGreat
open Go.RowKit Go.ChangeShapes Go.WideShapes Go.ChangeAt Go.Joins
theorem own_keep{w w':World}{base sz n:Nat}{e:TypeId}{v:Value}{xs:List Value}(h:w.ownsRow base e sz v n xs)(hb:Below w.heap.size w w'):w'.ownsRow base e sz v n xs:=by
 obtain⟨h1,h2⟩:=h
 refine⟨h1,?_⟩
 rcases h2 with h2|⟨g,cap,cur,hv,hg,hh,r⟩
 ·exact .inl h2
 ·exact .inr ⟨g,cap,cur,hv,hg,(hb.block g (Array.getElem?_eq_some_iff.1 hh).1).trans hh,r⟩
def lst(L:List Nat)(j:Nat):Nat:=L.getD j 0
theorem lst_lt{L:List Nat}(h:∀x∈L,x<256)(j:Nat):lst L j<256:=by
 unfold lst
 rcases Nat.lt_or_ge j L.length with g|g
 ·rw[List.getD_eq_getElem?_getD,List.getElem?_eq_getElem g];exact h _ (List.getElem_mem g)
 ·rw[List.getD_eq_getElem?_getD,List.getElem?_eq_none g];show 0<256;omega
theorem lst_one(L:List Nat)(x:Nat):bytesL L.length (lst L)=bytesL L.length (lst (L++[x]))∧lst (L++[x]) L.length=x:=by
 refine⟨bytesL_ext fun j hj=>?_,?_⟩
 ·unfold lst;rw[List.getD_eq_getElem?_getD,List.getD_eq_getElem?_getD,List.getElem?_append_left hj]
 ·unfold lst;simp
def NewB(w:World)(base:Nat)(A:Option Addr)(n:Nat):Prop:=0<n→∃(g o:Nat) (cur:Array Value),A=some ⟨g,o,none⟩∧base≤g∧w.heap[g]?=some (.cells cur 5 (0,0))
theorem NewB.nil(w:World)(base:Nat)(A:Option Addr):NewB w base A 0:=fun h=>absurd h (by omega)
end Go.Proofs.YtgokdgcmkcmjeaaGreat
namespace Go.Proofs.YtgokdgcmkcmjeaaGreat
structure Blk13 where
 kind:Nat
 last:Bool
 left:Nat
 F:Nat→Nat
 n:Nat
 G:Nat→Nat
 m:Nat
def nof13(_:Nat):Nat:=0
def blk0:Blk13:=⟨0,false,0,nof13,0,nof13,0⟩
def tokZ:Tok:=⟨0,0,0⟩
def shR(g:Nat→Nat)(a:Nat):Nat→(Nat→Nat)
 |0=>nof13
 |k+1=>upd (shR g a k) (ordN k) (numN g (a+3*k) 3)
def lenG(g:Nat→Nat)(L n:Nat)(go:Nat→List Nat→List Nat×Nat×Int)(out:List Nat)(r:Nat×Nat×Int):List Nat×Nat×Int:=
 if r.2.2≠0 then([],0,r.2.2)else if 8*L<r.2.1+bitsR (r.1:Int)then([],0,10)else
 if((r.1:Int)=16∧out=[])∨n<out.length+timesR (r.1:Int) ((numN g r.2.1 (bitsR (r.1:Int)):Nat):Int)then([],0,132)
 else go (r.2.1+bitsR (r.1:Int)) (out++List.replicate (timesR (r.1:Int) ((numN g r.2.1 (bitsR (r.1:Int)):Nat):Int)) (valR (r.1:Int) out))
def lenR(F:Nat→Nat)(g:Nat→Nat)(L n:Nat):Nat→Nat→List Nat→List Nat×Nat×Int
 |0,a,out=>(out,a,0)
 |k+1,a,out=>if n≤out.length then(out,a,0)else lenG g L n (fun a out=>lenR F g L n k a out) out (readR F 19 g L a 17 0)
theorem lenR_s(F g:Nat→Nat)(L n k a:Nat)(out:List Nat):lenR F g L n (k+1) a out=if n≤out.length then(out,a,0)else lenG g L n (fun a out=>lenR F g L n k a out) out (readR F 19 g L a 17 0):=rfl
def dynQ(last:Bool)(l:List Nat)(b x y:Nat):Blk13×Nat×Int:=
 if lst l 256=0∨checkE (lst l) x 15≠0∨checkE (lst (l.drop x)) y 15≠0 then(blk0,0,132)else(⟨2,last,0,lst l,x,lst (l.drop x),y⟩,b,0)
def dynL(last:Bool)(r:List Nat×Nat×Int)(x y:Nat):Blk13×Nat×Int:=if r.2.2≠0 then(blk0,0,r.2.2)else dynQ last r.1 r.2.1 x y
def dynS(last:Bool)(F:Nat→Nat)(g:Nat→Nat)(L a x y:Nat):Blk13×Nat×Int:=
 if checkE F 19 7≠0∨allN F 19≠32768 then(blk0,0,132)else dynL last (lenR F g L (x+y) (x+y) a []) x y
def dynV(last:Bool)(v:Nat)(g:Nat→Nat)(L a:Nat):Blk13×Nat×Int:=
 if 286<v%32+257∨30<v/32%32+1 then(blk0,0,132)else if 8*L<a+3*(v/1024+4)then(blk0,0,10)else
 dynS last (shR g a (v/1024+4)) g L (a+3*(v/1024+4)) (v%32+257) (v/32%32+1)
def dynR(last:Bool)(g:Nat→Nat)(L a:Nat):Blk13×Nat×Int:=if 8*L<a+14 then(blk0,0,10)else dynV last (numN g a 14) g L (a+14)
def stoV(last:Bool)(x a:Nat):Blk13×Nat×Int:=if x%65536+x/65536≠65535 then(blk0,0,131)else(⟨0,last,x%65536,nof13,0,nof13,0⟩,a,0)
def stoR(last:Bool)(g:Nat→Nat)(L a:Nat):Blk13×Nat×Int:=if 8*L<a+32 then(blk0,0,10)else stoV last (numN g a 32) (a+32)
def begW(v:Nat)(g:Nat→Nat)(L a:Nat):Blk13×Nat×Int:=
 if v/2=3 then(blk0,0,130)else if v/2=2 then dynR (decide (v%2=1)) g L a else
 if v/2=1 then(⟨1,decide (v%2=1),0,fixA,288,fixB,32⟩,a,0)else stoR (decide (v%2=1)) g L ((a+7)/8*8)
def begR(g:Nat→Nat)(L a:Nat):Blk13×Nat×Int:=if 8*L<a+3 then(blk0,0,10)else begW (numN g a 3) g L (a+3)
def extE(far:Bool)(s:Nat):Int:=if far then fbE (s:Int)else lbE (s:Int)
def extB(far:Bool)(s:Nat):Nat:=if far then(fbV (s:Int)).toNat else(lbV (s:Int)).toNat
def ofE(far:Bool)(s x:Nat):Int:=if far then foE (s:Int) (x:Int)else loE (s:Int) (x:Int)
def ofV(far:Bool)(s x:Nat):Int:=if far then foV (s:Int) (x:Int)else loV (s:Int) (x:Int)
def extR(far:Bool)(s:Nat)(g:Nat→Nat)(L a:Nat):Int×Nat×Int:=
 if extE far s≠0 then(0,0,extE far s)else if 8*L<a+extB far s then(0,0,10)else
 (ofV far s (numN g a (extB far s)),a+extB far s,ofE far s (numN g a (extB far s)))
def nxtD(n:Int)(y:Int×Nat×Int):Tok×Bool×Nat×Int:=if y.2.2≠0 then(tokZ,false,0,y.2.2)else(⟨0,y.1,n⟩,false,y.2.1,0)
def nxtC(n:Int)(r:Nat×Nat×Int)(g:Nat→Nat)(L:Nat):Tok×Bool×Nat×Int:=if r.2.2≠0 then(tokZ,false,0,r.2.2)else nxtD n (extR true r.1 g L r.2.1)
def nxtB(k:Blk13)(x:Int×Nat×Int)(g:Nat→Nat)(L:Nat):Tok×Bool×Nat×Int:=if x.2.2≠0 then(tokZ,false,0,x.2.2)else nxtC x.1 (readR k.G k.m g L x.2.1 17 0) g L
def nxtA(k:Blk13)(r:Nat×Nat×Int)(g:Nat→Nat)(L:Nat):Tok×Bool×Nat×Int:=
 if r.2.2≠0 then(tokZ,false,0,r.2.2)else if r.1<256 then(⟨r.1,0,0⟩,false,r.2.1,0)else if r.1=256 then(tokZ,true,r.2.1,0)else nxtB k (extR false r.1 g L r.2.1) g L
def nxtS(left:Nat)(g:Nat→Nat)(L a:Nat):Tok×Bool×Nat×Int:=if left=0 then(tokZ,true,a,0)else if 8*L<a+8 then(tokZ,false,0,10)else(⟨numN g a 8,0,0⟩,false,a+8,0)
def nextR(k:Blk13)(g:Nat→Nat)(L a:Nat):Tok×Bool×Nat×Int:=if k.kind=0 then nxtS k.left g L a else nxtA k (readR k.F k.n g L a 17 0) g L
def lessK(k:Blk13):Blk13:={k with left:=k.left-1}
def told(g:Nat→Nat)(L lim:Nat):Nat→Option Blk13→List Nat→Nat→List Nat×Nat×Int
 |0,_,out,a=>(out,a,10)
 |f+1,none,out,a=>if(begR g L a).2.2≠0 then(out,a,(begR g L a).2.2)else told g L lim f (some (begR g L a).1) out (begR g L a).2.1
 |f+1,some k,out,a=>if(nextR k g L a).2.2.2≠0 then(out,a,(nextR k g L a).2.2.2)else
  if(nextR k g L a).2.1=true then(if k.last=true then(out,(nextR k g L a).2.2.1,0)else told g L lim f none out (nextR k g L a).2.2.1)else
  if(out.length:Int)<(nextR k g L a).1.d then(out,(nextR k g L a).2.2.1,60)else
  if lim<out.length+lenT (nextR k g L a).1 then(out,(nextR k g L a).2.2.1,140)else
  told g L lim f (some (lessK k)) (stpT out (nextR k g L a).1) (nextR k g L a).2.2.1
def asked13(L:Nat)(a:Int):Int:=if 131072<L then 4 else if a<0∨8*(L:Int)<a then 2 else 0
theorem read_fwd{F:Nat→Nat}{N:Nat}{g:Nat→Nat}{L a:Nat}:∀fuel k,(k=0∨a+k≤8*L)→a≤8*L→(readR F N g L a fuel k).2.2=0→(readR F N g L a fuel k).2.1≤8*L
 |0,_,_,_,h=>by simp[readR]at h
 |fuel+1,k,hk,ha,h=>by
  simp only[readR]at h⊢
  cases hf:fndN F N (bvN g a k) k N with
  |some i=>
   show a+k≤8*L
   omega
  |none=>
   rw[hf]at h
   simp only[]at h⊢
   by_cases h1:morN F N (bvN g a k) k N=false
   ·rw[if_pos h1]at h;simp at h
   ·rw[if_neg h1]at h⊢
    by_cases h2:8*L≤a+k
    ·rw[if_pos h2]at h;simp at h
    ·rw[if_neg h2]at h⊢
     exact read_fwd fuel (k+1) (.inr (by omega)) ha h
theorem read_in{F:Nat→Nat}{N:Nat}{g:Nat→Nat}{L a:Nat}(ha:a≤8*L)(h:(readR F N g L a 17 0).2.2=0):a+1≤(readR F N g L a 17 0).2.1∧(readR F N g L a 17 0).2.1≤8*L∧(readR F N g L a 17 0).1<N:=by
 obtain⟨k,e1,e2,e3⟩:=read_found 17 0 h
 have:=(of_decide_eq_true e3).1
 exact⟨by omega,read_fwd 17 0 (.inl rfl) ha h,e2⟩
theorem ext_fwd{far:Bool}{s:Nat}{g:Nat→Nat}{L a:Nat}(h:(extR far s g L a).2.2=0):a≤(extR far s g L a).2.1∧(extR far s g L a).2.1≤8*L:=by
 unfold extR at h⊢
 split at h
 ·rename_i h1;exact absurd h h1
 ·rename_i h1
  rw[if_neg h1]
  split at h
  ·simp at h
  ·rename_i h2
   rw[if_neg h2]
   show a≤a+extB far s∧a+extB far s≤8*L
   omega
end Go.Proofs.YtgokdgcmkcmjeaaGreat
namespace Go.Proofs.YtgokdgcmkcmjeaaGreat
abbrev Rz:=Nat×Int
def keepS(s:Rz)(x:Int):Rz:=if s.2=0 then(s.1,x)else s
def wantS(s:Rz)(b:Bool)(x:Int):Rz:=if b=true then s else keepS s x
def tkV(g:Nat→Nat)(L n:Nat)(s:Rz):Nat:=if s.2≠0 then 0 else if 8*L<s.1+n then 0 else numN g s.1 n
def tkS(L n:Nat)(s:Rz):Rz:=if s.2≠0 then s else if 8*L<s.1+n then(s.1,10)else(s.1+n,0)
def syV(r:Nat×Nat×Int)(s:Rz):Nat:=if s.2≠0 then 0 else if r.2.2≠0 then 0 else r.1
def syS(r:Nat×Nat×Int)(s:Rz):Rz:=if s.2≠0 then s else if r.2.2≠0 then(s.1,r.2.2)else(r.2.1,0)
def nu1(far:Bool)(y:Nat)(s:Rz):Rz:=keepS s (extE far y)
def nuX(far:Bool)(y:Nat)(g:Nat→Nat)(L:Nat)(s:Rz):Nat:=tkV g L (extB far y) (nu1 far y s)
def nuV(far:Bool)(y:Nat)(g:Nat→Nat)(L:Nat)(s:Rz):Int:=ofV far y (nuX far y g L s)
def nuS(far:Bool)(y:Nat)(g:Nat→Nat)(L:Nat)(s:Rz):Rz:=keepS (tkS L (extB far y) (nu1 far y s)) (ofE far y (nuX far y g L s))
def alS(s:Rz):Rz:=((s.1+7)/8*8,s.2)
def sizV(g:Nat→Nat)(L:Nat)(s:Rz):Nat:=tkV g L 16 (alS s)
def sizS(g:Nat→Nat)(L:Nat)(s:Rz):Rz:=wantS (tkS L 16 (tkS L 16 (alS s))) (decide ((tkV g L 16 (tkS L 16 (alS s)):Int)=65535-(sizV g L s:Int))) 131
def gwS(F:Nat→Nat)(n:Nat)(most:Int)(s:Rz):Rz:=wantS s (decide (checkE F n most=0)) 132
def shS(L:Nat)(s:Rz):Nat→Rz
 |0=>s
 |k+1=>tkS L 3 (shS L s k)
def shG(g:Nat→Nat)(L:Nat)(s:Rz):Nat→(Nat→Nat)
 |0=>nof13
 |k+1=>upd (shG g L s k) (ordN k) (tkV g L 3 (shS L s k))
def ruY(F:Nat→Nat)(g:Nat→Nat)(L:Nat)(s:Rz):Nat:=syV (readR F 320 g L s.1 17 0) s
def ruS1(F:Nat→Nat)(g:Nat→Nat)(L:Nat)(s:Rz):Rz:=syS (readR F 320 g L s.1 17 0) s
def ruX(F:Nat→Nat)(g:Nat→Nat)(L:Nat)(s:Rz):Nat:=tkV g L (bitsR (ruY F g L s:Int)) (ruS1 F g L s)
def ruS(F:Nat→Nat)(g:Nat→Nat)(L:Nat)(s:Rz):Rz:=tkS L (bitsR (ruY F g L s:Int)) (ruS1 F g L s)
def ruT(F:Nat→Nat)(g:Nat→Nat)(L:Nat)(s:Rz):Nat:=timesR (ruY F g L s:Int) (ruX F g L s:Int)
def ruE(F:Nat→Nat)(g:Nat→Nat)(L n made:Nat)(s:Rz):Rz:=wantS (wantS (ruS F g L s) (decide (0<made∨ruY F g L s≠16)) 132) (decide (made+ruT F g L s≤n)) 132
def lnS(F:Nat→Nat)(g:Nat→Nat)(L n:Nat):Nat→Nat→List (Int×Int)→Rz→List (Int×Int)×Rz
 |0,_,l,s=>(l,s)
 |k+1,made,l,s=>if made<n∧s.2=0 then lnS F g L n k (made+ruT F g L s) (l++[((ruY F g L s:Int),(ruX F g L s:Int))]) (ruE F g L n made s)else(l,s)
def stT(k:Blk13)(g:Nat→Nat)(L:Nat)(s:Rz):Tok×Bool×Rz:=
 if k.kind=0 then(if k.left=0 then(tokZ,true,s)else(⟨tkV g L 8 s,0,0⟩,false,tkS L 8 s))else
 let r:=readR k.F k.n g L s.1 17 0
 let y:=syV r s
 let s1:=syS r s
 if y<256 then(⟨y,0,0⟩,false,s1)else if y=256 then(tokZ,true,s1)else
 let s2:=nuS false y g L s1
 let r2:=readR k.G k.m g L s2.1 17 0
 let z:=syV r2 s2
 let s3:=syS r2 s2
 (⟨0,nuV true z g L s3,nuV false y g L s1⟩,false,nuS true z g L s3)
theorem keepS_err{s:Rz}(h:s.2≠0)(x:Int):keepS s x=s:=by unfold keepS;rw[if_neg h]
theorem wantS_err{s:Rz}(h:s.2≠0)(b:Bool)(x:Int):wantS s b x=s:=by unfold wantS;rw[keepS_err h];split<;>rfl
theorem tkS_err{L n:Nat}{s:Rz}(h:s.2≠0):tkS L n s=s:=by unfold tkS;rw[if_pos h]
theorem tkV_err{g:Nat→Nat}{L n:Nat}{s:Rz}(h:s.2≠0):tkV g L n s=0:=by unfold tkV;rw[if_pos h]
theorem syS_err{r:Nat×Nat×Int}{s:Rz}(h:s.2≠0):syS r s=s:=by unfold syS;rw[if_pos h]
theorem syV_err{r:Nat×Nat×Int}{s:Rz}(h:s.2≠0):syV r s=0:=by unfold syV;rw[if_pos h]
theorem nuS_err{far:Bool}{y:Nat}{g:Nat→Nat}{L:Nat}{s:Rz}(h:s.2≠0):nuS far y g L s=s:=by
 have h1:nu1 far y s=s:=keepS_err h _
 unfold nuS;rw[h1,tkS_err h,keepS_err h]
theorem tkS_in{L n:Nat}{s:Rz}(h:s.1≤8*L):(tkS L n s).1≤8*L:=by
 unfold tkS;split
 ·exact h
 ·split
  ·exact h
  ·show s.1+n≤8*L;omega
theorem keepS_in{s:Rz}{x:Int}:(keepS s x).1=s.1:=by unfold keepS;split<;>rfl
theorem wantS_in{s:Rz}{b:Bool}{x:Int}:(wantS s b x).1=s.1:=by unfold wantS;split;rfl;exact keepS_in
theorem syS_in{F:Nat→Nat}{N:Nat}{g:Nat→Nat}{L:Nat}{s:Rz}(h:s.1≤8*L):(syS (readR F N g L s.1 17 0) s).1≤8*L:=by
 unfold syS;split
 ·exact h
 ·split
  ·exact h
  ·rename_i h2
   exact(read_in (F:=F) (N:=N) (g:=g) h (by omega)).2.1
theorem nuS_in{far:Bool}{y:Nat}{g:Nat→Nat}{L:Nat}{s:Rz}(h:s.1≤8*L):(nuS far y g L s).1≤8*L:=by
 unfold nuS;rw[keepS_in]
 exact tkS_in (by unfold nu1;rw[keepS_in];exact h)
theorem tkV_lt(g:Nat→Nat)(L n:Nat)(s:Rz):tkV g L n s<2^n:=by
 unfold tkV;split
 ·exact Nat.two_pow_pos n
 ·split
  ·exact Nat.two_pow_pos n
  ·exact numN_lt g s.1 n
theorem syV_lt{F:Nat→Nat}{N:Nat}{g:Nat→Nat}{L:Nat}{s:Rz}(h:s.1≤8*L)(hN:0<N):syV (readR F N g L s.1 17 0) s<N:=by
 unfold syV;split
 ·exact hN
 ·split
  ·exact hN
  ·rename_i h2
   exact(read_in (F:=F) (N:=N) (g:=g) h (by omega)).2.2
theorem shS_in{L:Nat}{s:Rz}(h:s.1≤8*L):∀k,(shS L s k).1≤8*L
 |0=>h
 |k+1=>tkS_in (shS_in h k)
theorem tkS_ok{L n a:Nat}:tkS L n (a,0)=if 8*L<a+n then(a,10)else(a+n,0):=rfl
theorem tkV_ok{g:Nat→Nat}{L n a:Nat}:tkV g L n (a,0)=if 8*L<a+n then 0 else numN g a n:=rfl
theorem nuS_is{far:Bool}{y:Nat}{g:Nat→Nat}{L a:Nat}:
  ((extR far y g L a).2.2=0→nuS far y g L (a,0)=((extR far y g L a).2.1,0)∧nuV far y g L (a,0)=(extR far y g L a).1)∧((extR far y g L a).2.2≠0→(nuS far y g L (a,0)).2=(extR far y g L a).2.2):=by
 have h1:nu1 far y (a,0)=(a,extE far y):=by unfold nu1 keepS;rw[if_pos rfl]
 unfold nuS nuV nuX
 rw[h1]
 unfold extR
 by_cases e0:extE far y≠0
 ·rw[if_pos e0]
  refine⟨fun h=>absurd h e0,fun _=>?_⟩
  rw[tkS_err (s:=(a,extE far y)) e0,keepS_err (s:=(a,extE far y)) e0]
 ·rw[if_neg e0]
  have e1:extE far y=0:=by omega
  rw[e1,tkS_ok,tkV_ok]
  by_cases h2:8*L<a+extB far y
  ·rw[if_pos h2,if_pos h2,if_pos h2]
   exact⟨fun h=>absurd h (by decide),fun _=>by rw[keepS_err (s:=(a,10)) (show(10:Int)≠0 by decide)]⟩
  ·rw[if_neg h2,if_neg h2,if_neg h2]
   unfold keepS
   rw[if_pos rfl]
   exact⟨fun h=>⟨Prod.ext rfl h,rfl⟩,fun _=>rfl⟩
theorem stT_is{k:Blk13}{g:Nat→Nat}{L a:Nat}:
  ((nextR k g L a).2.2.2=0→stT k g L (a,0)=((nextR k g L a).1,(nextR k g L a).2.1,((nextR k g L a).2.2.1,0)))∧((nextR k g L a).2.2.2≠0→(stT k g L (a,0)).2.2.2=(nextR k g L a).2.2.2):=by
 unfold stT nextR
 by_cases h0:k.kind=0
 ·rw[if_pos h0,if_pos h0]
  unfold nxtS
  by_cases h1:k.left=0
  ·rw[if_pos h1,if_pos h1];exact⟨fun _=>rfl,fun h=>absurd rfl h⟩
  ·rw[if_neg h1,if_neg h1,tkS_ok,tkV_ok]
   by_cases h2:8*L<a+8
   ·rw[if_pos h2,if_pos h2,if_pos h2];exact⟨fun h=>absurd h (by decide),fun _=>rfl⟩
   ·rw[if_neg h2,if_neg h2,if_neg h2];exact⟨fun _=>rfl,fun h=>absurd rfl h⟩
 ·rw[if_neg h0,if_neg h0]
  show(_→(let r:=readR k.F k.n g L a 17 0;_)=_)∧_
  generalize readR k.F k.n g L a 17 0=r
  unfold nxtA
  by_cases h1:r.2.2≠0
  ·have e1:syV r (a,0)=0:=by unfold syV;rw[if_neg (fun h=>h rfl),if_pos h1]
   have e2:syS r (a,0)=(a,r.2.2):=by unfold syS;rw[if_neg (fun h=>h rfl),if_pos h1]
   rw[if_pos h1]
   refine⟨fun h=>absurd h h1,fun _=>?_⟩
   simp only[e1,e2]
   rw[if_pos (by omega)]
  ·have e1:syV r (a,0)=r.1:=by unfold syV;rw[if_neg (fun h=>h rfl),if_neg h1]
   have e2:syS r (a,0)=(r.2.1,0):=by unfold syS;rw[if_neg (fun h=>h rfl),if_neg h1]
   rw[if_neg h1]
   simp only[e1,e2]
   by_cases h2:r.1<256
   ·rw[if_pos h2,if_pos h2];exact⟨fun _=>rfl,fun h=>absurd rfl h⟩
   ·rw[if_neg h2,if_neg h2]
    by_cases h3:r.1=256
    ·rw[if_pos h3,if_pos h3];exact⟨fun _=>rfl,fun h=>absurd rfl h⟩
    ·rw[if_neg h3,if_neg h3]
     obtain⟨n1,n2⟩:=nuS_is (far:=false) (y:=r.1) (g:=g) (L:=L) (a:=r.2.1)
     generalize extR false r.1 g L r.2.1=x at n1 n2⊢
     unfold nxtB
     by_cases h4:x.2.2≠0
     ·rw[if_pos h4]
      refine⟨fun h=>absurd h h4,fun _=>?_⟩
      have e3:=n2 h4
      have e4:(nuS false r.1 g L (r.2.1,0)).2≠0:=by rw[e3];exact h4
      show(nuS true _ g L (syS _ _)).2=_
      rw[syS_err e4,nuS_err e4,e3]
     ·rw[if_neg h4]
      obtain⟨e3,e4⟩:=n1 (by omega)
      rw[e3,e4]
      generalize readR k.G k.m g L x.2.1 17 0=q
      unfold nxtC
      by_cases h5:q.2.2≠0
      ·rw[if_pos h5]
       refine⟨fun h=>absurd h h5,fun _=>?_⟩
       have e5:syS q (x.2.1,0)=(x.2.1,q.2.2):=by unfold syS;rw[if_neg (fun h=>h rfl),if_pos h5]
       show(nuS true _ g L (syS _ _)).2=_
       rw[e5,nuS_err (s:=(x.2.1,q.2.2)) h5]
      ·rw[if_neg h5]
       have e5:syS q (x.2.1,0)=(q.2.1,0):=by unfold syS;rw[if_neg (fun h=>h rfl),if_neg h5]
       have e6:syV q (x.2.1,0)=q.1:=by unfold syV;rw[if_neg (fun h=>h rfl),if_neg h5]
       rw[e5,e6]
       obtain⟨m1,m2⟩:=nuS_is (far:=true) (y:=q.1) (g:=g) (L:=L) (a:=q.2.1)
       generalize extR true q.1 g L q.2.1=y at m1 m2⊢
       unfold nxtD
       by_cases h6:y.2.2≠0
       ·rw[if_pos h6]
        exact⟨fun h=>absurd h h6,fun _=>m2 h6⟩
       ·rw[if_neg h6]
        obtain⟨e7,e8⟩:=m1 (by omega)
        rw[e7,e8]
        exact⟨fun _=>rfl,fun h=>absurd rfl h⟩
end Go.Proofs.YtgokdgcmkcmjeaaGreat
namespace Go.Proofs.YtgokdgcmkcmjeaaGreat
open Go.RowKit
theorem rask13_any(w:World)(A:Option Addr)(l c:Nat)(a:Int):
  Calls Tryz.prog 26 #[.slice A l c,.int .i64 a] w fun e w'=>e=.returned (.int .i64 (asked13 l a))∧w=w':=by
 by_cases y0:131072<l
 ·have e1:asked13 l a=4:=if_pos y0
  have d0:decide ((131072:Int)<(l:Int))=true:=decY (by omega)
  rw[e1]
  clear e1
  go_enter Tryz.func26,Tryz.ntmps26
  go_wp2
  go_ret
  exact⟨rfl,rfl⟩
 have d0:decide ((131072:Int)<(l:Int))=false:=decN (by omega)
 by_cases y1:a<0
 ·have e1:asked13 l a=2:=(if_neg y0).trans (if_pos (.inl y1))
  have d1:decide (a<0)=true:=decY y1
  rw[e1]
  clear e1
  go_enter Tryz.func26,Tryz.ntmps26
  go_wp2
  go_ret
  exact⟨rfl,rfl⟩
 have d1:decide (a<0)=false:=decN y1
 by_cases y2:8*(l:Int)<a
 ·have e1:asked13 l a=2:=(if_neg y0).trans (if_pos (.inr y2))
  have d2:decide (8*(l:Int)<a)=true:=decY y2
  rw[e1]
  clear e1
  go_enter Tryz.func26,Tryz.ntmps26
  go_wp2
  go_ret
  exact⟨rfl,rfl⟩
 have d2:decide (8*(l:Int)<a)=false:=decN y2
 have e1:asked13 l a=0:=(if_neg y0).trans (if_neg (by omega))
 rw[e1]
 clear e1
 go_enter Tryz.func26,Tryz.ntmps26
 go_wp2
 go_ret
 exact⟨rfl,rfl⟩
theorem take13{g:Nat→Nat}{l a n:Nat}(hn:n≤32):takeE l (a:Int) (n:Int)=(if 8*l<a+n then 10 else 0)∧(¬8*l<a+n→takeV g l (a:Int) (n:Int)=numN g a n):=by
 have h1:¬((a:Int)<0∨(n:Int)<0∨32<(n:Int)):=by omega
 unfold takeE takeV
 rw[if_neg h1,if_neg h1]
 by_cases h:8*l<a+n
 ·rw[if_pos h,if_pos (by omega)];exact⟨rfl,fun h2=>absurd h h2⟩
 ·rw[if_neg h,if_neg (by omega),if_neg (by omega),Int.toNat_natCast,Int.toNat_natCast];exact⟨rfl,fun _=>rfl⟩
theorem ext_err{far:Bool}{s:Nat}{g:Nat→Nat}{L a:Nat}(h:extE far s≠0):extR far s g L a=(0,0,extE far s):=by unfold extR;rw[if_pos h]
theorem ext_end{far:Bool}{s:Nat}{g:Nat→Nat}{L a:Nat}(h:extE far s=0)(h2:8*L<a+extB far s):extR far s g L a=(0,0,10):=by unfold extR;rw[if_neg (by omega),if_pos h2]
theorem ext_ok{far:Bool}{s:Nat}{g:Nat→Nat}{L a:Nat}(h:extE far s=0)(h2:¬8*L<a+extB far s):extR far s g L a=(ofV far s (numN g a (extB far s)),a+extB far s,ofE far s (numN g a (extB far s))):=by unfold extR;rw[if_neg (by omega),if_neg h2]
theorem lb_is(s:Int):(lbE s=0→lbV s=(((lbV s).toNat:Nat):Int)∧(lbV s).toNat≤5)∧0≤lbV s∧lbV s≤5:=by
 unfold lbE lbV
 by_cases h:257≤s∧s≤285
 ·rw[if_pos h,if_pos h];have:=longX_le (s-257).toNat;exact⟨fun _=>⟨by omega,by omega⟩,by omega,by omega⟩
 ·rw[if_neg h,if_neg h];exact⟨fun g=>by omega,by omega,by omega⟩
theorem fb_is(s:Int):(fbE s=0→fbV s=(((fbV s).toNat:Nat):Int)∧(fbV s).toNat≤13)∧0≤fbV s∧fbV s≤13:=by
 unfold fbE fbV
 by_cases h:0≤s∧s≤29
 ·rw[if_pos h,if_pos h];have:=farX_le s.toNat;exact⟨fun _=>⟨by omega,by omega⟩,by omega,by omega⟩
 ·rw[if_neg h,if_neg h];exact⟨fun g=>by omega,by omega,by omega⟩
theorem rext13_long(w:World)(s:Nat)(A:Option Addr)(l c:Nat)(g:Nat→Nat)(hg:RdB w w.heap.size A l g)(hl:l≤1000000)(a:Nat)(ha:a≤100000000):
  Calls Tryz.prog 71 #[.bool false,.int .i64 (s:Int),.slice A l c,.int .i64 (a:Int)] w fun e w'=>
   e=.returned (.tuple #[.int .i64 (extR false s g l a).1,.int .i64 ((extR false s g l a).2.1:Nat),.int .i64 (extR false s g l a).2.2])∧Below w.heap.size w w':=by
 obtain⟨b1,b2,b3⟩:=lb_is (s:Int)
 obtain⟨BV,hBV⟩:∃v,v=lbV (s:Int):=⟨_,rfl⟩
 obtain⟨BE,hBE⟩:∃v,v=lbE (s:Int):=⟨_,rfl⟩
 have HL:Hid (∀V:World,Calls Tryz.prog 108 #[.int .i64 (s:Int)] V fun e w'=>e=.returned (.tuple #[.int .i64 BV,.int .i64 BE])∧Below V.heap.size V w'):=Lib.hid fun V=>by rw[hBV,hBE];exact rlbit9_any V (s:Int)
 have eE:extE false s=BE:=hBE.symm
 have HG:=Lib.hid hg
 by_cases y0:BE=0
 case neg=>
  have hn:(BE !=0)=true:=by simpa using y0
  rw[ext_err (far:=false) (s:=s) (g:=g) (L:=l) (a:=a) (by rw[eE];exact y0),eE]
  clear eE hBV hBE hg b1
  go_enter Tryz.func71,Tryz.ntmps71
  go_wp2_with fail
  refine(HL.out w).mono ?_
  rintro e w1 ⟨rfl,hb1⟩
  have HB1:=Lib.hid hb1
  clear hb1
  go_wp2
  refine bodyPost_ret (results_tmp3 rfl _ _ _) rfl ?_
  exact⟨rfl,HB1.out⟩
 have hn:(BE !=0)=false:=by simpa using y0
 have eB:extB false s=BV.toNat:=by rw[hBV];rfl
 obtain⟨B,hB⟩:∃v,v=extB false s:=⟨_,rfl⟩
 have hVB:BV=(B:Int):=by rw[hB,eB];have:=(b1 (hBE▸y0)).1;rw[←hBV]at this;exact this
 have hB13:B≤13:=by have:=b3;rw[←hBV]at this;omega
 have hTK:∀V,Below w.heap.size w V→Calls Tryz.prog 57 #[.slice A l c,.int .i64 (a:Int),.int .i64 (B:Int)] V fun e w'=>e=.returned (.tuple #[.int .u32 (takeV g l (a:Int) (B:Int):Nat),.int .i64 (takeE l (a:Int) (B:Int))])∧V=w':=fun V hV=>rtake_any V V.heap.size A l c g (a:Int) (B:Int) ((hg.below hV (Nat.le_refl _)).more hV.size) (by omega) (by omega)
 obtain⟨t1,t2⟩:=take13 (g:=g) (l:=l) (a:=a) (n:=B) (by omega)
 rw[t1]at hTK
 by_cases y1:8*l<a+B
 ·rw[if_pos y1]at hTK
  have HTK:=Lib.hid hTK
  rw[ext_end (far:=false) (s:=s) (g:=g) (L:=l) (a:=a) (eE.trans y0) (by rw[←hB];exact y1)]
  obtain⟨TV,hTV⟩:∃v,v=takeV g l (a:Int) (B:Int):=⟨_,rfl⟩
  rw[←hTV]at hTK
  have HTK:=Lib.hid hTK
  clear hBV hBE
  subst hVB
  clear eE hg b1 hTK t1 t2 hTV eB hB
  go_enter Tryz.func71,Tryz.ntmps71
  go_wp2_with fail
  refine(HL.out w).mono ?_
  rintro e w1 ⟨rfl,hb1⟩
  have HB1:=Lib.hid hb1
  clear hb1
  go_wp2_with fail
  refine(HTK.out w1 HB1.out).mono ?_
  rintro e w9 ⟨rfl,rfl⟩
  go_wp2
  refine bodyPost_ret (results_tmp3 rfl _ _ _) rfl ?_
  exact⟨rfl,HB1.out⟩
 ·rw[if_neg y1,t2 y1]at hTK
  have hx32:numN g a B<4294967296:=Nat.lt_of_lt_of_le (numN_lt g a B) (Nat.le_trans (Nat.pow_le_pow_right (by omega) hB13) (by decide))
  rw[ext_ok (far:=false) (s:=s) (g:=g) (L:=l) (a:=a) (eE.trans y0) (by rw[←hB];exact y1),←hB]
  obtain⟨x,hx⟩:∃v,v=numN g a B:=⟨_,rfl⟩
  rw[←hx]at hTK hx32⊢
  obtain⟨OV,hOV⟩:∃v,v=ofV false s x:=⟨_,rfl⟩
  obtain⟨OE,hOE⟩:∃v,v=ofE false s x:=⟨_,rfl⟩
  have HLO:Hid (∀V:World,Calls Tryz.prog 110 #[.int .i64 (s:Int),.int .i64 (x:Int)] V fun e w'=>e=.returned (.tuple #[.int .i64 (loV (s:Int) (x:Int)),.int .i64 (loE (s:Int) (x:Int))])∧Below V.heap.size V w'):=Lib.hid fun V=>rlof9_any V (s:Int) (x:Int)
  have e1:loV (s:Int) (x:Int)=OV:=hOV.symm
  have e2:loE (s:Int) (x:Int)=OE:=hOE.symm
  rw[e1,e2]at HLO
  clear e1 e2
  rw[←hOV,←hOE]
  have HTK:=Lib.hid hTK
  clear hBV hBE
  subst hVB
  clear eE hg b1 hTK t1 t2 eB hB hx hOV hOE
  go_enter Tryz.func71,Tryz.ntmps71
  go_wp2_with fail
  refine(HL.out w).mono ?_
  rintro e w1 ⟨rfl,hb1⟩
  have HB1:=Lib.hid hb1
  clear hb1
  go_wp2_with fail
  refine(HTK.out w1 HB1.out).mono ?_
  rintro e w9 ⟨rfl,rfl⟩
  go_wp2_with fail
  refine(HLO.out w1).mono ?_
  rintro e w3 ⟨rfl,hb3⟩
  have HB3:=Lib.hid (HB1.out.trans (hb3.mono HB1.out.size))
  clear hb3
  go_wp2
  refine bodyPost_ret (results_tmp3 rfl _ _ _) rfl ?_
  exact⟨rfl,HB3.out⟩
theorem rext13_far(w:World)(s:Nat)(A:Option Addr)(l c:Nat)(g:Nat→Nat)(hg:RdB w w.heap.size A l g)(hl:l≤1000000)(a:Nat)(ha:a≤100000000):
  Calls Tryz.prog 71 #[.bool true,.int .i64 (s:Int),.slice A l c,.int .i64 (a:Int)] w fun e w'=>
   e=.returned (.tuple #[.int .i64 (extR true s g l a).1,.int .i64 ((extR true s g l a).2.1:Nat),.int .i64 (extR true s g l a).2.2])∧Below w.heap.size w w':=by
 obtain⟨b1,b2,b3⟩:=lb_is (s:Int)
 obtain⟨d1,d2,d3⟩:=fb_is (s:Int)
 obtain⟨BV,hBV⟩:∃v,v=lbV (s:Int):=⟨_,rfl⟩
 obtain⟨BE,hBE⟩:∃v,v=lbE (s:Int):=⟨_,rfl⟩
 have HL:Hid (∀V:World,Calls Tryz.prog 108 #[.int .i64 (s:Int)] V fun e w'=>e=.returned (.tuple #[.int .i64 BV,.int .i64 BE])∧Below V.heap.size V w'):=Lib.hid fun V=>by rw[hBV,hBE];exact rlbit9_any V (s:Int)
 obtain⟨DV,hDV⟩:∃v,v=fbV (s:Int):=⟨_,rfl⟩
 obtain⟨DE,hDE⟩:∃v,v=fbE (s:Int):=⟨_,rfl⟩
 have HD:Hid (∀V:World,Calls Tryz.prog 109 #[.int .i64 (s:Int)] V fun e w'=>e=.returned (.tuple #[.int .i64 DV,.int .i64 DE])∧Below V.heap.size V w'):=Lib.hid fun V=>by rw[hDV,hDE];exact rfbit9_any V (s:Int)
 have eE:extE true s=DE:=hDE.symm
 have HG:=Lib.hid hg
 by_cases y0:DE=0
 case neg=>
  have hn:(DE !=0)=true:=by simpa using y0
  rw[ext_err (far:=true) (s:=s) (g:=g) (L:=l) (a:=a) (by rw[eE];exact y0),eE]
  clear eE hBV hBE hDV hDE hg b1 d1
  go_enter Tryz.func71,Tryz.ntmps71
  go_wp2_with fail
  refine(HL.out w).mono ?_
  rintro e w1 ⟨rfl,hb1⟩
  have HB1:=Lib.hid hb1
  clear hb1
  go_wp2_with fail
  refine(HD.out w1).mono ?_
  rintro e w2 ⟨rfl,hb2⟩
  have HB2:=Lib.hid (HB1.out.trans (hb2.mono HB1.out.size))
  clear hb2
  go_wp2
  refine bodyPost_ret (results_tmp3 rfl _ _ _) rfl ?_
  exact⟨rfl,HB2.out⟩
 have hn:(DE !=0)=false:=by simpa using y0
 have eB:extB true s=DV.toNat:=by rw[hDV];rfl
 obtain⟨B,hB⟩:∃v,v=extB true s:=⟨_,rfl⟩
 have hVB:DV=(B:Int):=by rw[hB,eB];have:=(d1 (hDE▸y0)).1;rw[←hDV]at this;exact this
 have hB13:B≤13:=by have:=d3;rw[←hDV]at this;omega
 have hTK:∀V,Below w.heap.size w V→Calls Tryz.prog 57 #[.slice A l c,.int .i64 (a:Int),.int .i64 (B:Int)] V fun e w'=>e=.returned (.tuple #[.int .u32 (takeV g l (a:Int) (B:Int):Nat),.int .i64 (takeE l (a:Int) (B:Int))])∧V=w':=fun V hV=>rtake_any V V.heap.size A l c g (a:Int) (B:Int) ((hg.below hV (Nat.le_refl _)).more hV.size) (by omega) (by omega)
 obtain⟨t1,t2⟩:=take13 (g:=g) (l:=l) (a:=a) (n:=B) (by omega)
 rw[t1]at hTK
 by_cases y1:8*l<a+B
 ·rw[if_pos y1]at hTK
  have HTK:=Lib.hid hTK
  rw[ext_end (far:=true) (s:=s) (g:=g) (L:=l) (a:=a) (eE.trans y0) (by rw[←hB];exact y1)]
  obtain⟨TV,hTV⟩:∃v,v=takeV g l (a:Int) (B:Int):=⟨_,rfl⟩
  rw[←hTV]at hTK
  have HTK:=Lib.hid hTK
  clear hBV hBE hDV hDE
  subst hVB
  clear eE hg b1 d1 hTK t1 t2 hTV eB hB
  go_enter Tryz.func71,Tryz.ntmps71
  go_wp2_with fail
  refine(HL.out w).mono ?_
  rintro e w1 ⟨rfl,hb1⟩
  have HB1:=Lib.hid hb1
  clear hb1
  go_wp2_with fail
  refine(HD.out w1).mono ?_
  rintro e w2 ⟨rfl,hb2⟩
  have HB2:=Lib.hid (HB1.out.trans (hb2.mono HB1.out.size))
  clear hb2
  go_wp2_with fail
  refine(HTK.out w2 HB2.out).mono ?_
  rintro e w9 ⟨rfl,rfl⟩
  go_wp2
  refine bodyPost_ret (results_tmp3 rfl _ _ _) rfl ?_
  exact⟨rfl,HB2.out⟩
 ·rw[if_neg y1,t2 y1]at hTK
  have hx32:numN g a B<4294967296:=Nat.lt_of_lt_of_le (numN_lt g a B) (Nat.le_trans (Nat.pow_le_pow_right (by omega) hB13) (by decide))
  rw[ext_ok (far:=true) (s:=s) (g:=g) (L:=l) (a:=a) (eE.trans y0) (by rw[←hB];exact y1),←hB]
  obtain⟨x,hx⟩:∃v,v=numN g a B:=⟨_,rfl⟩
  rw[←hx]at hTK hx32⊢
  obtain⟨OV,hOV⟩:∃v,v=ofV true s x:=⟨_,rfl⟩
  obtain⟨OE,hOE⟩:∃v,v=ofE true s x:=⟨_,rfl⟩
  have HLO:Hid (∀V:World,Calls Tryz.prog 110 #[.int .i64 (s:Int),.int .i64 (x:Int)] V fun e w'=>e=.returned (.tuple #[.int .i64 (loV (s:Int) (x:Int)),.int .i64 (loE (s:Int) (x:Int))])∧Below V.heap.size V w'):=Lib.hid fun V=>rlof9_any V (s:Int) (x:Int)
  have HFO:Hid (∀V:World,Calls Tryz.prog 111 #[.int .i64 (s:Int),.int .i64 (x:Int)] V fun e w'=>e=.returned (.tuple #[.int .i64 (foV (s:Int) (x:Int)),.int .i64 (foE (s:Int) (x:Int))])∧Below V.heap.size V w'):=Lib.hid fun V=>rfof9_any V (s:Int) (x:Int)
  have e1:foV (s:Int) (x:Int)=OV:=hOV.symm
  have e2:foE (s:Int) (x:Int)=OE:=hOE.symm
  rw[e1,e2]at HFO
  obtain⟨LV,hLV⟩:∃v,v=loV (s:Int) (x:Int):=⟨_,rfl⟩
  obtain⟨LE,hLE⟩:∃v,v=loE (s:Int) (x:Int):=⟨_,rfl⟩
  rw[←hLV,←hLE]at HLO
  clear hLV hLE e1 e2
  rw[←hOV,←hOE]
  have HTK:=Lib.hid hTK
  clear hBV hBE hDV hDE
  subst hVB
  clear eE hg b1 d1 hTK t1 t2 eB hB hx hOV hOE
  go_enter Tryz.func71,Tryz.ntmps71
  go_wp2_with fail
  refine(HL.out w).mono ?_
  rintro e w1 ⟨rfl,hb1⟩
  have HB1:=Lib.hid hb1
  clear hb1
  go_wp2_with fail
  refine(HD.out w1).mono ?_
  rintro e w2 ⟨rfl,hb2⟩
  have HB2:=Lib.hid (HB1.out.trans (hb2.mono HB1.out.size))
  clear hb2
  go_wp2_with fail
  refine(HTK.out w2 HB2.out).mono ?_
  rintro e w9 ⟨rfl,rfl⟩
  go_wp2_with fail
  refine(HLO.out w2).mono ?_
  rintro e w3 ⟨rfl,hb3⟩
  have HB3:=Lib.hid (HB2.out.trans (hb3.mono HB2.out.size))
  clear hb3
  go_wp2_with fail
  refine(HFO.out w3).mono ?_
  rintro e w4 ⟨rfl,hb4⟩
  have HB4:=Lib.hid (HB3.out.trans (hb4.mono HB3.out.size))
  clear hb4
  go_wp2
  refine bodyPost_ret (results_tmp3 rfl _ _ _) rfl ?_
  exact⟨rfl,HB4.out⟩
theorem rext13_any(w:World)(far:Bool)(s:Nat)(A:Option Addr)(l c:Nat)(g:Nat→Nat)(hg:RdB w w.heap.size A l g)(hl:l≤1000000)(a:Nat)(ha:a≤100000000):
  Calls Tryz.prog 71 #[.bool far,.int .i64 (s:Int),.slice A l c,.int .i64 (a:Int)] w fun e w'=>
   e=.returned (.tuple #[.int .i64 (extR far s g l a).1,.int .i64 ((extR far s g l a).2.1:Nat),.int .i64 (extR far s g l a).2.2])∧Below w.heap.size w w':=by
 cases far
 ·exact rext13_long w s A l c g hg hl a ha
 ·exact rext13_far w s A l c g hg hl a ha
end Go.Proofs.YtgokdgcmkcmjeaaGreat
namespace Go.Proofs.YtgokdgcmkcmjeaaGreat
theorem lst_drop(l:List Nat)(n j:Nat):lst (l.drop n) j=lst l (j+n):=by
 unfold lst;rw[List.getD_eq_getElem?_getD,List.getD_eq_getElem?_getD,List.getElem?_drop,Nat.add_comm]
structure Prs where
 s:Int
 h:Int
 m:Int
 z:Bool
 hist:List Nat
 wait:List Nat
 pen:List Nat
 k:Int
 over:Bool
def BytesP(l:List Nat):Prop:=∀x∈l,x<256
structure GoodP (p:Prs):Prop where
 sty:mayS p.s p.h p.m=true
 hist:(p.hist.length:Int)≤p.s
 wait:(p.wait.length:Int)<p.m
 k0:0≤p.k
 k7:p.k≤7
 len:p.pen.length=(p.k.toNat+7)/8
 clean:Clean (lst p.pen) p.k.toNat
 over:p.over=false
 bh:BytesP p.hist
 bw:BytesP p.wait
theorem k8{p:Prs}(g:GoodP p):p.k.toNat%8=p.k.toNat:=Nat.mod_eq_of_lt (by have:=g.k7;have:=g.k0;omega)
end Go.Proofs.YtgokdgcmkcmjeaaGreat
namespace Go.Proofs.YtgokdgcmkcmjeaaGreat
open Go.RowKit
def BoxC(w:World)(g:Nat)(cs:Array Value)(t:TypeId):Prop:=w.heap[g]?=some (.cells cs t (0,0))
theorem BoxC.lt{w:World}{g:Nat}{cs:Array Value}{t:TypeId}(h:BoxC w g cs t):g<w.heap.size:=(Array.getElem?_eq_some_iff.1 h).1
theorem BoxC.new(w:World)(cs:Array Value)(t:TypeId):BoxC (w.alloc (.cells cs t)) w.heap.size cs t:=heap_alloc_new w _
theorem BoxC.old{w:World}{g:Nat}{cs:Array Value}{t:TypeId}(h:BoxC w g cs t)(o:Obj):BoxC (w.alloc o) g cs t:=(Below.heap_alloc _ _ _ h.lt).trans h
theorem BoxC.below{w w':World}{B g:Nat}{cs:Array Value}{t:TypeId}(h:BoxC w g cs t)(hb:Below B w w')(hg:g<B):BoxC w' g cs t:=(hb.block g hg).trans h
theorem BoxC.cell{w:World}{g i:Nat}{cs:Array Value}{t:TypeId}(h:BoxC w g cs t):w.cell? ⟨g,i,none⟩=cs[i]?:=cell_of_row w g i _ _ _ h
theorem BoxC.free{w:World}{g i:Nat}{cs:Array Value}{t:TypeId}(h:BoxC w g cs t):w.frozen? ⟨g,i,none⟩=false:=frozen_of_row w g i _ _ h
theorem BoxC.set{w:World}{g:Nat}{cs:Array Value}{t:TypeId}(h:BoxC w g cs t)(i:Nat)(v:Value):BoxC (w.setCell ⟨g,i,none⟩ v) g (cs.setIfInBounds i v) t:=heap_setCell_same w g i cs _ _ h
theorem BoxC.other{w:World}{g:Nat}{cs:Array Value}{t:TypeId}(h:BoxC w g cs t){p:Addr}(hp:g≠p.block)(u:Value):BoxC (w.setCell p u) g cs t:=(Below.heap_setCell w p u g hp).trans h
theorem BoxC.row{w:World}{g:Nat}{cs:Array Value}{t:TypeId}(h:BoxC w g cs t)(ds:Array Value):BoxC (w.setRow g ds) g ds t:=setRow_heap _ _ _ _ _ _ h
theorem BoxC.rowO{w:World}{g k:Nat}{cs:Array Value}{t:TypeId}(h:BoxC w g cs t)(hk:g≠k)(ds:Array Value):BoxC (w.setRow k ds) g cs t:=(setRow_other _ _ _ _ hk).trans h
theorem below_cell{B:Nat}{a w:World}(h:Below B a w){g:Nat}(hp:B≤g)(i:Nat)(v:Value):Below B a (w.setCell ⟨g,i,none⟩ v):=h.trans ⟨rfl,rfl,rfl,by simp[World.setCell],fun k hk=>Below.heap_setCell w _ v k (by show k≠g;omega)⟩
theorem below_rowC{B:Nat}{a w:World}(h:Below B a w){g:Nat}(hp:B≤g)(cs:Array Value):Below B a (w.setRow g cs):=
 ⟨h.os,h.tape,h.output,by rw[size_setRow];exact h.size,fun k hk=>(setRow_other w g k cs (by omega)).trans (h.block k hk)⟩
structure NewY (w:World) (base:Nat) (A:Option Addr) (n c:Nat) (f:Nat→Nat):Prop where
 rd:ByR w w.heap.size A n c f
 new:∀g o,0<n→A=some ⟨g,o,none⟩→base≤g
theorem NewY.of_own{w:World}{base n c:Nat}{A:Option Addr}{f:Nat→Nat}(h:w.ownsRow base 5 1 (.slice A n c) n (bytesL n f))(hf:∀j,f j<256):NewY w base A n c f:=
 ⟨ByR.of_own h hf,fun g o h0 hA=>by
  obtain⟨g',cap,hv,hge,_⟩:=h.form h0
  injection hv with hv _ _
  rw[hA]at hv
  injection hv with hv
  injection hv with e1 _ _
  omega⟩
theorem NewY.mono{w:World}{base base' n c:Nat}{A:Option Addr}{f:Nat→Nat}(h:NewY w base A n c f)(hb:base'≤base):NewY w base' A n c f:=⟨h.rd,fun g o h0 hA=>Nat.le_trans hb (h.new g o h0 hA)⟩
theorem NewY.nil(w:World)(base:Nat){f:Nat→Nat}(hf:∀j,f j<256):NewY w base none 0 0 f:=⟨ByR.nil _ _ _ hf,fun _ _ h=>absurd h (by omega)⟩
end Go.Proofs.YtgokdgcmkcmjeaaGreat
