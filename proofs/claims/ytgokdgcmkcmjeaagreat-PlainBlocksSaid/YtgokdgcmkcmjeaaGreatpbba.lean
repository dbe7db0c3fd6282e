/-
  Words and walks.
-/
import Derived.Test.YtgokdgcmkcmjeaaGreatpbaa
import Derived.Test.YtgokdgcmkcmjeaaGreatpbaz
set_option maxRecDepth 100000
set_option maxHeartbeats 16000000
namespace Go.Proofs.YtgokdgcmkcmjeaaGreat
open Go.RowKit
theorem mrg_all(l:List Int)(B g N c:Nat)(hF:FrqOk l)(hN:N≤400):∀d,MrgOk l B g N c d
 |0=>fun w f a m b hd ham hmb=>by omega
 |d+1=>fun w f a m b hd ham hmb hb hr hC hM hS h1 h2=>by
  by_cases e1:m=a+1
  ·subst e1;exact mrg_first l B g N c hF hN w f a b hmb hb hr hC hM hS h2
  ·by_cases e2:b=m+1
   ·subst e2;exact mrg_last l B g N c hF hN w f a m (by omega) hb hr hC hM hS h1
   ·exact mrg_mid l B g N c d hF hN (mrg_all l B g N c hF hN d) w f a m b hd (by omega) (by omega) hb hr hC hM hS h1 h2
theorem merge_any(l:List Int)(B g N c:Nat)(hF:FrqOk l)(hN:N≤400)(w:World)(f:Nat→Nat)(a m b:Nat)(ham:a<m)(hmb:m<b)(hb:b≤N)(hr:RowZ w g N f)(hC:CmpF w B g l)(hM:∀t,t<N→f t<l.length)(hS:St (freqN l) f N)(h1:Rs (freqN l) f a m)(h2:Rs (freqN l) f m b):
  Calls Tryz.prog 199 #[.slice (some ⟨g,0,none⟩) N c,.int .i64 (a:Int),.int .i64 (m:Int),.int .i64 (b:Int),.func (.func 182) #[] #[.pointer (some ⟨B,0,none⟩)]] w fun e w'=>e=.returned (.tuple #[])∧Below g w w'∧∃f',RowZ w' g N f'∧Same f f' a b∧Rs (freqN l) f' a b:=
 mrg_all l B g N c hF hN (b-a) w f a m b (Nat.le_refl _) ham hmb hb hr hC hM hS h1 h2
theorem stab_any(w:World)(g N c:Nat)(f:Nat→Nat)(hr:RowZ w g N f)(B:Nat)(l:List Int)(hC:CmpF w B g l)(hF:FrqOk l)(hM:∀t,t<N→f t<l.length)(hS:St (freqN l) f N)(hN:N≤400):
  Calls Tryz.prog 194 #[.slice (some ⟨g,0,none⟩) N c,.int .i64 (N:Int),.func (.func 182) #[] #[.pointer (some ⟨B,0,none⟩)]] w fun e w'=>e=.returned (.tuple #[])∧Below g w w'∧∃f',RowZ w' g N f'∧Same f f' 0 N∧Rs (freqN l) f' 0 N:=by
 have HR:=Lib.hid hr;have HC:=Lib.hid hC;have HM:=Lib.hid hM;have HS:=Lib.hid hS;have HF:=Lib.hid hF
 clear hr hC hM hS hF
 go_enter Tryz.func194,Tryz.ntmps194
 go_wp2
 go_loopw [7,8] (fun va vb wr=>∃(A E:Nat) (h:Nat→Nat),A≤N∧E=A+20∧va=.int .i64 (A:Int)∧vb=.int .i64 (E:Int)∧Below g w wr∧RowZ wr g N h∧Hid (∃k,A=k*20∧Same f h 0 N∧St (freqN l) h N∧∀u,u<k→Rs (freqN l) h (u*20) (u*20+20))) (fun va _ _=>N-(intOf va).toNat)
 case atStart=>exact⟨0,20,f,Nat.zero_le _,rfl,rfl,rfl,Below.refl _ _,HR.out,Lib.hid ⟨0,rfl,Same.refl _ _ _,HS.out,fun u hu=>absurd hu (by omega)⟩⟩
 case round=>
  obtain⟨A,E,h,hAN,hE,rfl,rfl,hbl,hrow,HI⟩:=hrel
  have HB:=Lib.hid hbl;have HROW:=Lib.hid hrow;have HE:=Lib.hid hE
  clear hbl hrow
  by_cases hlt:E≤N
  ·have hlti:(E:Int)≤(N:Int):=by omega
   have hAE:A≤E:=by omega
   clear hE
   go_wp2_with (go_at_call 198;refine(inss_any _ g N c h HROW.out B l (HC.out.below HB.out) HF.out (by obtain⟨k,q1,q2,q3,q4⟩:=HI.out;exact q2.lt (Nat.le_refl _) HM.out) (by obtain⟨k,q1,q2,q3,q4⟩:=HI.out;exact q3) A E hAE hlt hN).mono ?_;rintro e w1 ⟨rfl,hb1,f1,hr1,hs1,ho1⟩;have HB1:=Lib.hid hb1;have HR1:=Lib.hid hr1;have HS1:=Lib.hid hs1;have HO1:=Lib.hid ho1;clear hb1 hr1 hs1 ho1)
   go_roundw
   case rel=>
    refine⟨E,E+20,f1,hlt,rfl,rfl,by go_num,HB.out.trans HB1.out,HR1.out,Lib.hid ?_⟩
    obtain⟨k,q1,q2,q3,q4⟩:=HI.out
    have hE:=HE.out
    refine⟨k+1,by omega,q2.trans (HS1.out.wide (Nat.zero_le _) hlt),q3.keep HS1.out HO1.out hlt,fun u hu=>?_⟩
    by_cases e:u=k
    ·subst e;rw[←q1,←hE];exact HO1.out
    ·exact(q4 u (by omega)).keep HS1.out (.inl (by omega))
   case measure=>have:=HE.out;simp[intOf];omega
  ·have hlti:¬(E:Int)≤(N:Int):=by omega
   clear hE
   go_wp2_with (go_at_call 198;refine(inss_any _ g N c h HROW.out B l (HC.out.below HB.out) HF.out (by obtain⟨k,q1,q2,q3,q4⟩:=HI.out;exact q2.lt (Nat.le_refl _) HM.out) (by obtain⟨k,q1,q2,q3,q4⟩:=HI.out;exact q3) A N hAN (Nat.le_refl _) hN).mono ?_;rintro e w1 ⟨rfl,hb1,f1,hr1,hs1,ho1⟩;have HB1:=Lib.hid hb1;have HR1:=Lib.hid hr1;have HS1:=Lib.hid hs1;have HO1:=Lib.hid ho1;clear hb1 hr1 hs1 ho1)
   have HP:Hid (Same f f1 0 N∧St (freqN l) f1 N∧Ch (freqN l) f1 20 N):=by
    obtain⟨k,q1,q2,q3,q4⟩:=HI.out
    have hE:=HE.out
    exact⟨q2.trans (HS1.out.wide (Nat.zero_le _) (Nat.le_refl _)),q3.keep HS1.out HO1.out (Nat.le_refl _),ch_pass q1 (fun u hu=>(q4 u hu).keep HS1.out (.inl (by omega))) HO1.out (by omega)⟩
   have HB2:=Lib.hid (HB.out.trans HB1.out)
   clear HB HROW HI HS1 HO1 HB1 HE hlti hlt hAN
   go_loopw [6,7,8,9] (fun vs _ _ _ wr=>∃(S:Nat) (h:Nat→Nat),0<S∧S≤800∧vs=.int .i64 (S:Int)∧Below g w wr∧RowZ wr g N h∧Hid (Same f h 0 N∧St (freqN l) h N∧Ch (freqN l) h S N)) (fun vs _ _ _ _=>N-(intOf vs).toNat)
   case atStart=>exact⟨20,f1,by omega,by omega,rfl,HB2.out,HR1.out,HP⟩
   case round=>
    clear HP HR1 HB2
    obtain⟨S,h,hS0,hS8,rfl,hbl,hrow,HI⟩:=hrel
    have HB:=Lib.hid hbl;have HROW:=Lib.hid hrow
    clear hbl hrow
    by_cases hlt:S<N
    ·have hlti:(S:Int)<(N:Int):=by omega
     obtain⟨D,hD⟩:∃D,D=2*S:=⟨_,rfl⟩
     have eD:2*(S:Int)=(D:Int):=by omega
     have eD2:(S:Int)*2=(D:Int):=by omega
     have hD8:D≤800:=by omega
     have HD:=Lib.hid hD
     clear hD
     go_wp2
     go_loopw [7,8] (fun va vb wq=>∃(A E:Nat) (k:Nat→Nat),A≤N∧E≤1600∧va=.int .i64 (A:Int)∧vb=.int .i64 (E:Int)∧Below g w wq∧RowZ wq g N k∧Hid (E=A+D∧∃n,A=n*D∧Same f k 0 N∧St (freqN l) k N∧(∀u,u<n→Rs (freqN l) k (u*D) (u*D+D))∧∀u,2*n≤u→Rs (freqN l) k (u*S) (min (u*S+S) N))) (fun va _ _=>N-(intOf va).toNat)
     case atStart=>exact⟨0,D,h,Nat.zero_le _,by omega,rfl,rfl,HB.out,HROW.out,Lib.hid ⟨by omega,0,by simp,HI.out.1,HI.out.2.1,fun u hu=>absurd hu (by omega),fun u _=>HI.out.2.2 u⟩⟩
     case round=>
      clear HI HB HROW
      obtain⟨A,E,k,hAN,hE8,rfl,rfl,hbl,hrow,HI⟩:=hrel
      have HB:=Lib.hid hbl;have HROW:=Lib.hid hrow
      clear hbl hrow
      obtain⟨M,hM⟩:∃M,M=A+S:=⟨_,rfl⟩
      have eM:(A:Int)+(S:Int)=(M:Int):=by omega
      have hAM:A<M:=by omega
      have HMM:=Lib.hid hM
      have HLO:Hid (∀n,A=n*D→∀(q:Nat→Nat),(∀u,2*n≤u→Rs (freqN l) q (u*S) (min (u*S+S) N))→Rs (freqN l) q A (min M N)∧Rs (freqN l) q M (min (M+S) N)):=fun n hn q hq=>by
       have e1:2*n*S=A:=by rw[hn,HD.out,Nat.mul_comm 2 n,Nat.mul_assoc]
       have h1:=hq (2*n) (Nat.le_refl _)
       have h2:=hq (2*n+1) (by omega)
       rw[Nat.add_mul,Nat.one_mul,e1]at h2
       rw[e1]at h1
       rw[hM]
       exact⟨h1,h2⟩
      clear hM
      by_cases hle:E≤N
      ·have hlei:(E:Int)≤(N:Int):=by omega
       have hME:M<E:=by have:=HI.out.1;have:=HMM.out;have:=HD.out;omega
       go_wp2_with (go_at_call 199;refine(merge_any l B g N c HF.out hN _ k A M E hAM hME hle HROW.out (HC.out.below HB.out) (by obtain⟨_,n,q1,q2,q3,q4,q5⟩:=HI.out;exact q2.lt (Nat.le_refl _) HM.out) (by obtain⟨_,n,q1,q2,q3,q4,q5⟩:=HI.out;exact q3)
        (by obtain⟨_,n,q1,q2,q3,q4,q5⟩:=HI.out;exact(HLO.out n q1 k q5).1.part (Nat.le_refl _) (by omega)) (by obtain⟨q0,n,q1,q2,q3,q4,q5⟩:=HI.out;exact(HLO.out n q1 k q5).2.part (Nat.le_refl _) (by have:=HMM.out;have:=HD.out;omega))).mono ?_;rintro e w1 ⟨rfl,hb1,f1,hr1,hs1,ho1⟩;have HB1:=Lib.hid hb1;have HR1:=Lib.hid hr1;have HS1:=Lib.hid hs1;have HO1:=Lib.hid ho1;clear hb1 hr1 hs1 ho1)
       go_roundw
       case rel=>
        refine⟨E,E+D,f1,hle,by omega,rfl,by go_num,HB.out.trans HB1.out,HR1.out,Lib.hid ⟨rfl,?_⟩⟩
        obtain⟨q0,n,q1,q2,q3,q4,q5⟩:=HI.out
        have hmu:(n+1)*D=n*D+D:=by rw[Nat.add_mul,Nat.one_mul]
        refine⟨n+1,by omega,q2.trans (HS1.out.wide (Nat.zero_le _) hle),q3.keep HS1.out HO1.out hle,fun u hu=>?_,fun u hu=>(q5 u (by omega)).keep HS1.out (.inr ?_)⟩
        ·by_cases e:u=n
         ·subst e;rw[←q1,←q0];exact HO1.out
         ·exact(q4 u (by omega)).keep HS1.out (.inl (by have:=mul_step (S:=D) (show u<n by omega);omega))
        ·have h1:(2*(n+1))*S≤u*S:=Nat.mul_le_mul_right _ hu
         have h2:(2*(n+1))*S=(n+1)*D:=by rw[HD.out,Nat.mul_comm 2 (n+1),Nat.mul_assoc]
         omega
       case measure=>have:=HI.out.1;simp[intOf];omega
      ·have hlei:¬(E:Int)≤(N:Int):=by omega
       by_cases hMN:M<N
       ·have hMNi:(M:Int)<(N:Int):=by omega
        go_wp2_with (go_at_call 199;refine(merge_any l B g N c HF.out hN _ k A M N hAM hMN (Nat.le_refl _) HROW.out (HC.out.below HB.out) (by obtain⟨_,n,q1,q2,q3,q4,q5⟩:=HI.out;exact q2.lt (Nat.le_refl _) HM.out) (by obtain⟨_,n,q1,q2,q3,q4,q5⟩:=HI.out;exact q3)
         (by obtain⟨_,n,q1,q2,q3,q4,q5⟩:=HI.out;exact(HLO.out n q1 k q5).1.part (Nat.le_refl _) (by omega)) (by obtain⟨q0,n,q1,q2,q3,q4,q5⟩:=HI.out;exact(HLO.out n q1 k q5).2.part (Nat.le_refl _) (by have:=HMM.out;have:=HD.out;omega))).mono ?_;rintro e w1 ⟨rfl,hb1,f1,hr1,hs1,ho1⟩;have HB1:=Lib.hid hb1;have HR1:=Lib.hid hr1;have HS1:=Lib.hid hs1;have HO1:=Lib.hid ho1;clear hb1 hr1 hs1 ho1)
        go_roundw
        case rel=>
         refine⟨D,f1,by have:=HD.out;omega,hD8,by go_num,HB.out.trans HB1.out,HR1.out,Lib.hid ?_⟩
         obtain⟨q0,n,q1,q2,q3,q4,q5⟩:=HI.out
         exact⟨q2.trans (HS1.out.wide (Nat.zero_le _) (Nat.le_refl _)),q3.keep HS1.out HO1.out (Nat.le_refl _),ch_pass q1 (fun u hu=>(q4 u hu).keep HS1.out (.inl (by have:=mul_step (S:=D) hu;omega))) HO1.out (by omega)⟩
        case measure=>have:=HD.out;simp[intOf];omega
       ·have hMNi:¬(M:Int)<(N:Int):=by omega
        go_wp2
        go_roundw
        case rel=>
         refine⟨D,k,by have:=HD.out;omega,hD8,by go_num,HB.out,HROW.out,Lib.hid ?_⟩
         obtain⟨q0,n,q1,q2,q3,q4,q5⟩:=HI.out
         exact⟨q2,q3,ch_pass q1 q4 ((HLO.out n q1 k q5).1.part (Nat.le_refl _) (by omega)) (by omega)⟩
        case measure=>have:=HD.out;simp[intOf];omega
    ·have hlti:¬(S:Int)<(N:Int):=by omega
     go_wp2
     go_end0
     exact⟨rfl,HB.out,h,HROW.out,HI.out.1,HI.out.2.2.whole (by omega)⟩
theorem sort_any(w:World)(g N c:Nat)(f:Nat→Nat)(hr:RowZ w g N f)(B:Nat)(l:List Int)(hC:CmpF w B g l)(hF:FrqOk l)(hM:∀t,t<N→f t<l.length)(hS:St (freqN l) f N)(hN:N≤400):
  Calls Tryz.prog 181 #[.slice (some ⟨g,0,none⟩) N c,.func (.func 182) #[] #[.pointer (some ⟨B,0,none⟩)]] w fun e w'=>e=.returned (.tuple #[])∧Below g w w'∧∃f',RowZ w' g N f'∧Same f f' 0 N∧Rs (freqN l) f' 0 N:=by
 have h:=stab_any w g N c f hr B l hC hF hM hS hN
 have H:=Lib.hid h
 clear h hr hC hF hM hS
 go_enter Tryz.func181,Tryz.ntmps181
 go_wp2_with (go_at_call 194;refine H.out.mono ?_;rintro e w1 ⟨rfl,h1⟩;have H1:=Lib.hid h1;clear h1)
 go_end0
 exact⟨rfl,H1.out⟩
end Go.Proofs.YtgokdgcmkcmjeaaGreat
namespace Go.Proofs.YtgokdgcmkcmjeaaGreat
open Go.RowKit
def posL(F:Nat→Nat):Nat→List Nat
 |0=>[]
 |k+1=>if 0<F k then posL F k++[k]else posL F k
theorem pos_mem(F:Nat→Nat)(x:Nat):∀k,x∈posL F k↔x<k∧0<F x
 |0=>by simp[posL]
 |k+1=>by
  simp only[posL]
  split
  ·rename_i h
   rw[List.mem_append,pos_mem F x k,List.mem_singleton]
   constructor
   ·rintro(h1|rfl)
    ·exact⟨by omega,h1.2⟩
    ·exact⟨by omega,h⟩
   ·rintro⟨h1,h2⟩
    by_cases e:x=k
    ·exact .inr e
    ·exact .inl ⟨by omega,h2⟩
  ·rename_i h
   rw[pos_mem F x k]
   constructor
   ·rintro⟨h1,h2⟩;exact⟨by omega,h2⟩
   ·rintro⟨h1,h2⟩
    refine⟨?_,h2⟩
    by_cases e:x=k
    ·subst e;exact absurd h2 h
    ·omega
theorem pos_length(F:Nat→Nat):∀k,(posL F k).length=nI F k
 |0=>rfl
 |k+1=>by
  simp only[posL,nI]
  split
  ·rw[List.length_append,pos_length F k];rfl
  ·rw[pos_length F k];rfl
theorem getD_append{l:List Nat}{x i:Nat}:(l++[x]).getD i 0=if i<l.length then l.getD i 0 else if i=l.length then x else 0:=by
 rw[List.getD_eq_getElem?_getD,List.getElem?_append]
 split
 ·rw[List.getD_eq_getElem?_getD]
 ·split
  ·rename_i h;subst h;simp
  ·rename_i h1 h2
   have:1≤i-l.length:=by omega
   rw[List.getElem?_eq_none (by simp;omega)];rfl
theorem pos_up(F:Nat→Nat):∀k,∀i j,i<j→j<(posL F k).length→(posL F k).getD i 0<(posL F k).getD j 0
 |0,i,j,_,h=>absurd h (by simp[posL])
 |k+1,i,j,hij,hj=>by
  simp only[posL]at hj⊢
  split at hj
  ·rename_i h
   rw[if_pos h,getD_append,getD_append]
   rw[List.length_append,List.length_singleton]at hj
   rw[if_pos (by omega)]
   by_cases g:j<(posL F k).length
   ·rw[if_pos g];exact pos_up F k i j hij g
   ·rw[if_neg g,if_pos (by omega)]
    have hm:(posL F k).getD i 0∈posL F k:=by
     rw[List.getD_eq_getElem?_getD,List.getElem?_eq_getElem (show i<(posL F k).length by omega)];exact List.getElem_mem _
    exact((pos_mem F _ k).1 hm).1
  ·rename_i h
   rw[if_neg h];exact pos_up F k i j hij hj
theorem sorted_items{F f:Nat→Nat}{M n:Nat}(hn:n=nI F M)(hs:Same (fun t=>(posL F M).getD t 0) f 0 n)(hr:Rs F f 0 n):(List.range n).map f=itemsL F M:=by
 refine order_items hr fun x=>?_
 rw[←pos_mem F x M]
 have hl:=pos_length F M
 constructor
 ·intro hx
  obtain⟨i,hi,rfl⟩:=List.getElem_of_mem hx
  obtain⟨t,_,h2,h3⟩:=hs.2.2 i (Nat.zero_le _) (by omega)
  refine⟨t,h2,h3.trans ?_⟩
  show(posL F M).getD i 0=_
  rw[List.getD_eq_getElem?_getD,List.getElem?_eq_getElem hi];rfl
 ·rintro⟨t,ht,rfl⟩
  obtain⟨i,_,h2,h3⟩:=hs.2.1 t (Nat.zero_le _) ht
  rw[h3]
  show(posL F M).getD i 0∈_
  rw[List.getD_eq_getElem?_getD,List.getElem?_eq_getElem (show i<(posL F M).length by omega)];exact List.getElem_mem _
theorem RowZ.rdI{w:World}{g n:Nat}{f:Nat→Nat}(h:RowZ w g n f){L:List Nat}(hL:(List.range n).map f=L):RdI w w.heap.size (some ⟨g,0,none⟩) (natsI L):=by
 subst hL
 refine⟨by simp[intsL,natsI],fun _=>⟨g,0,rfl,h.lt,fun j u hu=>?_⟩⟩
 rw[intsL_get]at hu
 by_cases hj:j<n
 ·simp[natsI,hj]at hu
  rw[Nat.zero_add,←hu]
  exact h.cell hj
 ·simp[natsI,hj]at hu
theorem RowZ.of_own{w:World}{base n c:Nat}{A:Option Addr}{L:List Nat}(h:w.ownsRow base 3 1 (.slice A n c) n (intsL (natsI L)))(hn:0<n):∃g,A=some ⟨g,0,none⟩∧base≤g∧RowZ w g n (fun t=>L.getD t 0):=by
 rcases h.2 with⟨_,h0⟩|⟨g,cap,cur,hv,hg,hh,_,_,_,ht⟩
 ·omega
 ·injection hv with hA _ _
  have hl:(intsL (natsI L)).length=n*1:=h.1
  refine⟨g,hA,hg,cur,hh,fun j hj=>?_⟩
  have hjL:j<L.length:=by simp[intsL,natsI]at hl;omega
  have h1:=intsL_get (natsI L) j
  rw[←ht,List.getElem?_take]at h1
  rw[if_pos (by omega)]at h1
  have h2:(natsI L)[j]?=some ((L.getD j 0:Nat):Int):=by
   unfold natsI
   rw[List.getElem?_map,List.getElem?_eq_getElem hjL,List.getD_eq_getElem?_getD,List.getElem?_eq_getElem hjL];rfl
  rw[h2]at h1
  simpa using h1
theorem ins_none(w:World)(A:Option Addr)(c:Nat)(fv:Value):
  Calls Tryz.prog 198 #[.slice A 0 c,.int .i64 0,.int .i64 0,fv] w fun e w'=>e=.returned (.tuple #[])∧w'=w:=by
 go_enter Tryz.func198,Tryz.ntmps198
 go_wp2
 go_loopw [8] (fun vi wr=>vi=.int .i64 1∧wr=w) (fun _ _=>0)
 case atStart=>exact⟨rfl,rfl⟩
 case round=>
  obtain⟨rfl,rfl⟩:=hrel
  go_wp2
  go_end0
  exact⟨rfl,rfl⟩
theorem stab_none(w:World)(A:Option Addr)(c:Nat)(fv:Value):
  Calls Tryz.prog 194 #[.slice A 0 c,.int .i64 0,fv] w fun e w'=>e=.returned (.tuple #[])∧w'=w:=by
 have hi:=ins_none
 go_enter Tryz.func194,Tryz.ntmps194
 go_wp2
 go_loopw [7,8] (fun va vb wr=>va=.int .i64 0∧vb=.int .i64 20∧wr=w) (fun _ _ _=>0)
 case atStart=>exact⟨rfl,rfl,rfl⟩
 case round=>
  obtain⟨rfl,rfl,rfl⟩:=hrel
  go_wp2_with (go_at_call 198;refine(ins_none _ A c fv).mono ?_;rintro e w1 ⟨rfl,rfl⟩)
  go_loopw [6] (fun va wq=>va=.int .i64 20∧wq=w1) (fun _ _=>0)
  case atStart=>exact⟨rfl,rfl⟩
  case round=>
   obtain⟨rfl,rfl⟩:=hrel
   go_wp2
   go_end0
   exact⟨rfl,rfl⟩
theorem sort_none(w:World)(A:Option Addr)(c:Nat)(fv:Value):
  Calls Tryz.prog 181 #[.slice A 0 c,fv] w fun e w'=>e=.returned (.tuple #[])∧w'=w:=by
 have h:=stab_none w A c fv
 have H:=Lib.hid h
 clear h
 go_enter Tryz.func181,Tryz.ntmps181
 go_wp2_with (go_at_call 194;refine H.out.mono ?_;rintro e w1 ⟨rfl,rfl⟩)
 go_end0
 exact⟨rfl,rfl⟩
theorem order_any(w:World)(A:Option Addr)(c:Nat)(l:List Int)(hr:RdI w w.heap.size A l)(hF:FrqOk l)(hb:∀j,j<l.length→-9223372036854775808≤l.getD j 0∧l.getD j 0≤9223372036854775807):
  Calls Tryz.prog 167 #[.slice A l.length c] w fun e w'=>∃A' c',e=.returned (.slice A' (nI (freqN l) l.length) c')∧Below w.heap.size w w'∧RdI w' w'.heap.size A' (natsI (itemsL (freqN l) l.length)):=by
 have HR:=Lib.hid hr
 have HBD:=Lib.hid hb
 have HF:=Lib.hid hF
 have hn:=hF.len
 clear hr hb hF
 obtain⟨n,hn0⟩:∃n,n=l.length:=⟨_,rfl⟩
 rw[←hn0]at hn⊢
 have HN:=Lib.hid hn0
 obtain⟨F,hFF⟩:∃F,F=freqN l:=⟨_,rfl⟩
 rw[←hFF]
 have HFF:=Lib.hid hFF
 obtain⟨m,hm⟩:∃m,m=nI F n:=⟨_,rfl⟩
 obtain⟨I,hI⟩:∃I,I=itemsL F n:=⟨_,rfl⟩
 rw[←hm,←hI]
 have HM:=Lib.hid hm
 have HI:=Lib.hid hI
 clear hm hI
 obtain⟨u,hu⟩:∃u,u=w.alloc (.cells #[.slice A n c] 24):=⟨_,rfl⟩
 have hsz:u.heap.size=w.heap.size+1:=by rw[hu];simp
 have hbox:u.cell? ⟨w.heap.size,0,none⟩=some (.slice A n c):=by rw[hu];simp
 have hbu:Below w.heap.size w u:=by rw[hu];exact(Below.refl _ w).alloc (Nat.le_refl _) _
 have HBU:=Lib.hid hbu;have HBX:=Lib.hid hbox;have HSZ:=Lib.hid hsz;have HU:=Lib.hid hu
 clear hbu hn0 hFF
 clear hbox hsz hu
 go_enter Tryz.func167,Tryz.ntmps167
 go_wp2
 rw[←HU.out]
 go_loopw [3,8] (fun o i wr=>∃(k:Nat) (Ao:Option Addr) (co:Nat),k≤n∧i=.int .i64 (k:Int)∧o=.slice Ao (posL F k).length co∧
  wr.ownsRow (w.heap.size+1) 3 1 (.slice Ao (posL F k).length co) (posL F k).length (intsL (natsI (posL F k)))∧Below (w.heap.size+1) u wr) (fun _ i _=>n-(intOf i).toNat)
 case atStart=>exact⟨0,none,0,Nat.zero_le _,rfl,rfl,World.ownsRow_nil u _ _ 1,Below.refl _ _⟩
 case round=>
  obtain⟨k,Ao,co,hk,rfl,rfl,hown,hbw⟩:=hrel
  have hbw0:Below w.heap.size w wr:=HBU.out.trans (hbw.mono (Nat.le_succ _))
  by_cases hlt:k<n
  ·have hlti:(k:Int)<(n:Int):=by omega
   obtain⟨b,o,rfl,hbl,hc⟩:=(HR.out.below hbw0 (Nat.le_refl _)).at (k:=k) (by rw[←HN.out];exact hlt)
   have hcell:=hc k (by rw[←HN.out];exact hlt)
   obtain⟨x,hx⟩:∃x,x=l.getD k 0:=⟨_,rfl⟩
   rw[←hx]at hcell
   have hxb:=HBD.out k (by rw[←HN.out];exact hlt)
   rw[←hx]at hxb
   have hfk:F k=x.toNat:=by rw[HFF.out];unfold freqN;rw[←hx]
   have hple:(posL F k).length≤n:=by rw[pos_length];exact Nat.le_trans (nI_le F k) hk
   clear hc hx hbw0
   by_cases g:0<x
   ·have HE:=Lib.hid (show posL F (k+1)=posL F k++[k] by simp only[posL];rw[if_pos (by omega)])
    obtain⟨Aa,ca,wa,r1,o1,b1⟩:=run_one wr (w.heap.size+1) Ao _ co _ hown (k:Int) (by omega) (by have h:=hbw.size;rw[HSZ.out]at h;exact h)
    have R1:=Lib.hid r1;have HB1:=Lib.hid (hbw.trans (b1.mono (Nat.le_refl _)))
    have O1:=Lib.hid o1
    clear hown hbw hfk r1 o1 b1
    obtain⟨L,hL⟩:∃L,L=posL F k:=⟨_,rfl⟩
    rw[←hL]at HE R1 O1 hple⊢
    clear hL
    go_wp2_with (at_builtin;refine wpList_append_run rfl (.tmp 15) (.tmp 17) 24 rfl (.slice Ao L.length co) (.slice (some ⟨wr.heap.size,0,none⟩) 1 1) (.slice Aa (L.length+1) ca) wa rfl rfl R1.out ?_)
    go_roundw
    case rel=>
     have e:(L++[k]).length=L.length+1:=by simp
     have e2:natsI (L++[k])=natsI L++[(k:Int)]:=by simp[natsI]
     refine⟨k+1,Aa,ca,by omega,by go_num,by rw[HE.out,e],?_,HB1.out⟩
     rw[HE.out,e,e2]
     exact O1.out
    case measure=>simp[intOf];omega
   ·have HE:=Lib.hid (show posL F (k+1)=posL F k by simp only[posL];rw[if_neg (by omega)])
    have HO:=Lib.hid hown;have HB1:=Lib.hid hbw
    clear hown hbw hfk
    go_wp2
    go_roundw
    case rel=>
     refine⟨k+1,Ao,co,by omega,by go_num,by rw[HE.out],?_,HB1.out⟩
     rw[HE.out];exact HO.out
    case measure=>simp[intOf];omega
  ·obtain rfl:k=n:=by omega
   have hlti:¬(k:Int)<(k:Int):=by omega
   have HB1:=Lib.hid hbw;have HB0:=Lib.hid hbw0
   have hpl:(posL F k).length=m:=(pos_length F k).trans HM.out.symm
   by_cases h0:m=0
   ·subst h0
    have hL0:posL F k=[]:=List.length_eq_zero_iff.1 hpl
    have hI0:I=[]:=List.length_eq_zero_iff.1 (by rw[HI.out,items_length];exact HM.out.symm)
    subst hI0
    rw[hL0]
    have hs:=sort_none wr Ao co (.func (.func 182) #[] #[.pointer (some ⟨w.heap.size,0,none⟩)])
    have HS:=Lib.hid hs
    clear hown hbw hbw0 hpl hL0 hs
    simp only[List.length_nil]
    go_wp2_with (go_at_call 181;refine HS.out.mono ?_;rintro e w1 ⟨rfl,rfl⟩)
    go_ret
    exact⟨Ao,co,rfl,HB0.out,SrcL.none_ _ _ _ _⟩
   ·rw[hpl]at hown⊢
    obtain⟨g,rfl,hg,hrow⟩:=RowZ.of_own hown (by omega)
    have hmn:m≤k:=by rw[HM.out];exact nI_le F k
    have hC:CmpF wr w.heap.size g l:=⟨by omega,A,c,by rw[hbw.cell (p:=⟨w.heap.size,0,none⟩) (Nat.lt_succ_self _),HBX.out,HN.out],((HR.out.below hbw0 (Nat.le_refl _)).more (by omega))⟩
    have hs:=sort_any wr g m co _ hrow w.heap.size l hC HF.out
     (fun t ht=>by
      have hmem:(posL F k).getD t 0∈posL F k:=by rw[List.getD_eq_getElem?_getD,List.getElem?_eq_getElem (show t<(posL F k).length by omega)];exact List.getElem_mem _
      have:=((pos_mem F _ k).1 hmem).1
      rw[←HN.out];exact this)
     (fun i j hij hj _=>pos_up F k i j hij (by omega)) (by omega)
    have HS:=Lib.hid hs;have hg2:=Lib.hid hg
    rw[←HFF.out]at HS
    clear hown hbw hbw0 hpl hs hC hrow hg
    go_wp2_with (go_at_call 181;refine HS.out.mono ?_;rintro e w1 ⟨rfl,hb1,f',hr1,hs1,ho1⟩;have HB2:=Lib.hid hb1;have HR1:=Lib.hid hr1;have HS1:=Lib.hid hs1;have HO1:=Lib.hid ho1;clear hb1 hr1 hs1 ho1)
    go_ret
    exact⟨_,co,rfl,HB0.out.trans (HB2.out.mono (Nat.le_trans (Nat.le_succ _) hg2.out)),HR1.out.rdI ((sorted_items HM.out HS1.out HO1.out).trans HI.out.symm)⟩
end Go.Proofs.YtgokdgcmkcmjeaaGreat
namespace Go.Proofs.YtgokdgcmkcmjeaaGreat
open Go.RowKit
def parN(W:Nat→Nat)(Z:Nat→Int)(j:Nat):Int:=if j%2=0 then(W (j/2):Int)else Z (j/2)
theorem parN_a(W:Nat→Nat)(Z:Nat→Int)(t:Nat):parN W Z (t*2)=(W t:Int):=by
 unfold parN;rw[if_pos (by omega),show t*2/2=t by omega]
theorem parN_b(W:Nat→Nat)(Z:Nat→Int)(t:Nat):parN W Z (t*2+1)=Z t:=by
 unfold parN;rw[if_neg (by omega),show(t*2+1)/2=t by omega]
theorem parN_ext{W W':Nat→Nat}{Z Z':Nat→Int}{m:Nat}(h:∀t,t<m→W t=W' t∧Z t=Z' t):∀j,j<m*2→parN W Z j=parN W' Z' j:=fun j hj=>by
 have:=h (j/2) (by omega)
 unfold parN;rw[this.1,this.2]
def parL(m:Nat)(W:Nat→Nat)(Z:Nat→Int):List Value:=(List.range (m*2)).map fun j=>.int .i64 (parN W Z j)
theorem parL_get(m:Nat)(W:Nat→Nat)(Z:Nat→Int)(j:Nat):(parL m W Z)[j]?=if j<m*2 then some (.int .i64 (parN W Z j))else none:=by
 unfold parL
 by_cases h:j<m*2<;>simp[h]
theorem parL_one(m:Nat)(W:Nat→Nat)(Z:Nat→Int):∀u∈parL m W Z,u.oneCell'=true:=by
 intro u hu
 simp only[parL,List.mem_map]at hu
 obtain⟨j,_,rfl⟩:=hu
 rfl
theorem parL_length(m:Nat)(W:Nat→Nat)(Z:Nat→Int):(parL m W Z).length=m*2:=by simp[parL]
def RdQ(w:World)(lo B:Nat)(A:Option Addr)(m:Nat)(W:Nat→Nat)(Z:Nat→Int):Prop:=
 0<m→∃b o,A=some ⟨b,o,none⟩∧lo≤b∧b<B∧∀j,j<m*2→w.cell? ⟨b,o+j,none⟩=some (.int .i64 (parN W Z j))
theorem RdQ.below{w w':World}{lo B B' m:Nat}{A:Option Addr}{W:Nat→Nat}{Z:Nat→Int}(h:RdQ w lo B A m W Z)(hb:Below B' w w')(hB:B≤B'):RdQ w' lo B A m W Z:=fun hm=>by
 obtain⟨b,o,h1,h2,h3,h4⟩:=h hm
 exact⟨b,o,h1,h2,h3,fun j hj=>by rw[hb.cell (p:=⟨b,o+j,none⟩) (by show b<B';omega)];exact h4 j hj⟩
theorem RdQ.more{w:World}{lo lo' B B' m:Nat}{A:Option Addr}{W:Nat→Nat}{Z:Nat→Int}(h:RdQ w lo B A m W Z)(hl:lo'≤lo)(hB:B≤B'):RdQ w lo' B' A m W Z:=fun hm=>by
 obtain⟨b,o,h1,h2,h3,h4⟩:=h hm
 exact⟨b,o,h1,by omega,by omega,h4⟩
theorem RdQ.ext{w:World}{lo B m:Nat}{A:Option Addr}{W W':Nat→Nat}{Z Z':Nat→Int}(h:RdQ w lo B A m W Z)(e:∀t,t<m→W t=W' t∧Z t=Z' t):RdQ w lo B A m W' Z':=fun hm=>by
 obtain⟨b,o,h1,h2,h3,h4⟩:=h hm
 exact⟨b,o,h1,h2,h3,fun j hj=>by rw[h4 j hj,parN_ext e j hj]⟩
theorem RdQ.src{w:World}{lo B m:Nat}{A:Option Addr}{W:Nat→Nat}{Z:Nat→Int}(h:RdQ w lo B A m W Z):SrcL w B 2 A m (parL m W Z):=by
 refine⟨parL_length m W Z,fun hm=>?_⟩
 obtain⟨b,o,h1,_,h3,h4⟩:=h hm
 refine⟨b,o,h1,h3,fun j u hu=>?_⟩
 rw[parL_get]at hu
 by_cases hj:j<m*2
 ·rw[if_pos hj]at hu;injection hu with hu;rw[←hu];exact h4 j hj
 ·rw[if_neg hj]at hu;cases hu
def RowE(e:TypeId)(w:World)(g M:Nat)(v:Nat→Int):Prop:=∃cur:Array Value,w.heap[g]?=some (.cells cur e (0,0))∧∀j,j<M→cur[j]?=some (.int .i64 (v j))
section
variable {e:TypeId} {w w':World} {g M:Nat} {v v':Nat→Int}
theorem RowE.lt(h:RowE e w g M v):g<w.heap.size:=by
 obtain⟨cur,h1,_⟩:=h;exact(Array.getElem?_eq_some_iff.1 h1).1
theorem RowE.cell(h:RowE e w g M v){j:Nat}(hj:j<M):w.cell? ⟨g,j,none⟩=some (.int .i64 (v j)):=by
 obtain⟨cur,h1,h2⟩:=h
 rw[cell_of_row w g j _ _ (0,0) h1];exact h2 j hj
theorem RowE.frozen(h:RowE e w g M v)(j:Nat):w.frozen? ⟨g,j,none⟩=false:=by
 obtain⟨cur,h1,_⟩:=h;exact frozen_of_row w g j _ _ h1
theorem RowE.set(h:RowE e w g M v)(i:Nat)(x:Int):RowE e (w.setCell ⟨g,i,none⟩ (.int .i64 x)) g M (fun j=>if j=i then x else v j):=by
 obtain⟨cur,h1,h2⟩:=h
 refine⟨cur.setIfInBounds i (.int .i64 x),heap_setCell_same w g i cur _ _ h1,fun j hj=>?_⟩
 rw[Array.getElem?_setIfInBounds]
 have hs:j<cur.size:=by
  rcases Nat.lt_or_ge j cur.size with h|h
  ·exact h
  ·have:=h2 j hj;rw[Array.getElem?_eq_none h]at this;cases this
 by_cases e:i=j
 ·subst e;simp[hs]
 ·have e':¬j=i:=fun h=>e h.symm
  simp[e,e',h2 j hj]
theorem RowE.drew(h:RowE e w g M v):RowE e w.drew g M v:=h
theorem RowE.ext(h:RowE e w g M v)(h2:∀j,j<M→v j=v' j):RowE e w g M v':=by
 obtain⟨cur,h1,h3⟩:=h;exact⟨cur,h1,fun j hj=>by rw[h3 j hj,h2 j hj]⟩
end
theorem RowE.rdQ{e:TypeId}{w:World}{g m:Nat}{W:Nat→Nat}{Z:Nat→Int}(h:RowE e w g (m*2) (parN W Z)){lo:Nat}(hlo:lo≤g):RdQ w lo w.heap.size (some ⟨g,0,none⟩) m W Z:=
 fun _=>⟨g,0,rfl,hlo,h.lt,fun j hj=>by rw[Nat.zero_add];exact h.cell hj⟩
theorem infoPrc:(Tryz.prog.info? 271).map (fun i=>(i.zero,i.size,i.bytes))=some (some (.agg #[.int .i64 0,.int .i64 0]),2,16):=by kernel_rfl
theorem make_prc(n:Nat)(h:n≤2000):∀u:World,(Instr.makeSlice 246 (.int .i64 (n:Int)) (.int .i64 (n:Int))).run Tryz.prog u=
   .ok (.slice (some ⟨u.heap.size,0,none⟩) n n) (u.alloc (.cells (madeCells #[.int .i64 0,.int .i64 0] (n*2)) 271)):=fun u=>by
 obtain⟨i0,hi,hz0,hz1,hz2⟩:=info_parts infoPrc
 have h:=run_make (P:=Tryz.prog) u 246 271 i0 _ Tryz.underlying246 hi hz0 .i64 .i64 (n:Int) (n:Int) (by omega) (Int.le_refl _) (by rw[hz2];omega) (by omega)
 rw[Int.toNat_natCast]at h
 rw[hz1]at h
 exact h
theorem rowE_made(w:World)(n:Nat):RowE 271 (w.alloc (.cells (madeCells #[.int .i64 0,.int .i64 0] (n*2)) 271)) w.heap.size (n*2) (fun _=>0):=by
 refine⟨_,heap_alloc_new w _,fun j hj=>?_⟩
 unfold madeCells
 have e1:j%2=0∨j%2=1:=by omega
 rcases e1 with e1|e1<;>simp[hj,e1]
def upto(t:Nat)(W:Nat→Nat)(Z:Nat→Int)(j:Nat):Int:=if j<t*2 then parN W Z j else 0
theorem upto_step(t:Nat)(W:Nat→Nat)(Z:Nat→Int):(fun j=>if j=t*2+1 then Z t else(fun j=>if j=t*2 then(W t:Int)else upto t W Z j) j)=upto (t+1) W Z:=by
 funext j
 show(if j=t*2+1 then Z t else if j=t*2 then(W t:Int)else upto t W Z j)=_
 unfold upto
 by_cases h1:j=t*2+1
 ·rw[if_pos h1,if_pos (by omega),h1,parN_b]
 ·rw[if_neg h1]
  by_cases h2:j=t*2
  ·rw[if_pos h2,if_pos (by omega),h2,parN_a]
  ·rw[if_neg h2]
   by_cases h3:j<t*2
   ·rw[if_pos h3,if_pos (by omega)]
   ·rw[if_neg h3,if_neg (by omega)]
theorem upto_start(W:Nat→Nat)(Z:Nat→Int):(fun _=>0)=upto 0 W Z:=by
 funext j;unfold upto;rw[if_neg (by omega)]
theorem parcels_any(w:World)(A:Option Addr)(c:Nat)(l:List Int)(hr:RdI w w.heap.size A l)(A2:Option Addr)(c2:Nat)(L:List Nat)(hr2:RdI w w.heap.size A2 (natsI L))(hL:∀j,j<L.length→L.getD j 0<l.length)(N n:Nat)(hN:N=l.length)(hn:n=L.length)(hl:n≤400)
  (hb:∀j,j<l.length→0≤l.getD j 0∧l.getD j 0≤1073741824):
  Calls Tryz.prog 170 #[.slice A N c,.slice A2 n c2] w fun e w'=>∃A' c',e=.returned (.slice A' n c')∧Below w.heap.size w w'∧n≤c'∧(A'=none→c'=0)∧RdQ w' w.heap.size w'.heap.size A' n (fun t=>freqN l (L.getD t 0)) (fun t=>((L.getD t 0:Nat):Int)):=by
 have HR:=Lib.hid hr;have HR2:=Lib.hid hr2;have HBD:=Lib.hid hb;have HLL:=Lib.hid hL;have HN:=Lib.hid hN;have HNN:=Lib.hid hn
 obtain⟨W,hW⟩:∃W:Nat→Nat,W=fun t=>freqN l (L.getD t 0):=⟨_,rfl⟩
 obtain⟨Z,hZ⟩:∃Z:Nat→Int,Z=fun t=>((L.getD t 0:Nat):Int):=⟨_,rfl⟩
 rw[←hW,←hZ]
 have HW:=Lib.hid hW;have HZ:=Lib.hid hZ
 have hmk:=make_prc n (by omega)
 have hbase:=rowE_made w n
 rw[upto_start W Z]at hbase
 have hbl:Below w.heap.size w (w.alloc (.cells (madeCells #[.int .i64 0,.int .i64 0] (n*2)) 271)):=(Below.refl _ w).alloc (Nat.le_refl _) _
 obtain⟨u,hu⟩:∃u,u=w.alloc (.cells (madeCells #[.int .i64 0,.int .i64 0] (n*2)) 271):=⟨_,rfl⟩
 rw[←hu]at hbase hbl
 have HU:=Lib.hid hu;have HB0:=Lib.hid hbl;have HBASE:=Lib.hid hbase
 clear hr hr2 hb hL hN hn hW hZ hu hbase hbl
 go_enter Tryz.func170,Tryz.ntmps170
 go_wp2
 rw[←HU.out]
 clear hmk
 go_loopw [13] (fun i wr=>∃t:Nat,t≤n∧i=.int .i64 (t:Int)∧Below w.heap.size w wr∧RowE 271 wr w.heap.size (n*2) (upto t W Z)) (fun i _=>n-(intOf i).toNat)
 case atStart=>exact⟨0,Nat.zero_le _,rfl,HB0.out,HBASE.out⟩
 case round=>
  obtain⟨t,ht,rfl,hbw,hrow⟩:=hrel
  by_cases hlt:t<n
  ·have hlti:(t:Int)<(n:Int):=by omega
   obtain⟨b2,o2,rfl,hb2,hc2⟩:=(HR2.out.below hbw (Nat.le_refl _)).at (k:=t) (by rw[natsI_length,←HNN.out];exact hlt)
   have c2':=hc2 t (by rw[natsI_length,←HNN.out];exact hlt)
   rw[natsI_get]at c2'
   have hsN:=HLL.out t (by rw[←HNN.out];exact hlt)
   obtain⟨s,hs⟩:∃s,s=L.getD t 0:=⟨_,rfl⟩
   rw[←hs]at c2' hsN
   obtain⟨b1,o1,rfl,hb1,hc1⟩:=(HR.out.below hbw (Nat.le_refl _)).at (k:=s) hsN
   have c1:=hc1 s hsN
   have hx:=HBD.out s hsN
   have hwt:l.getD s 0=(W t:Int):=by rw[HW.out];show _=(((l.getD (L.getD t 0) 0).toNat:Nat):Int);rw[←hs];omega
   have hzt:(s:Int)=Z t:=by rw[HZ.out,hs]
   obtain⟨x,hxx⟩:∃x,x=l.getD s 0:=⟨_,rfl⟩
   rw[←hxx]at c1 hx hwt
   have hsN2:s<N:=by rw[HN.out];exact hsN
   have f1:=hrow.frozen (t*2)
   have f2:=hrow.frozen (t*2+1)
   have g1:=hrow.cell (show t*2<n*2 by omega)
   have g2:=(hrow.set (t*2) x).cell (show t*2+1<n*2 by omega)
   have hset:=(hrow.set (t*2) x).set (t*2+1) (s:Int)
   have HSET:=Lib.hid hset;have HB:=Lib.hid hbw;have HWT:=Lib.hid hwt;have HZT:=Lib.hid hzt
   clear hc1 hc2 hrow hset hbw hs hwt hzt hxx hsN
   go_wp2
   go_roundw
   case rel=>
    refine⟨t+1,by omega,by go_num,(HB.out.setCell (p:=⟨w.heap.size,t*2,none⟩) (Nat.le_refl _) _).setCell (p:=⟨w.heap.size,t*2+1,none⟩) (Nat.le_refl _) _,?_⟩
    have h:=HSET.out
    rw[HWT.out,HZT.out,upto_step]at h
    rw[HWT.out,HZT.out]
    exact h
   case measure=>simp[intOf];omega
  ·obtain rfl:t=n:=by omega
   have hlti:¬(t:Int)<(t:Int):=by omega
   have HROW:=Lib.hid hrow;have HB:=Lib.hid hbw
   clear hrow hbw
   go_wp2
   go_ret
   exact⟨some ⟨w.heap.size,0,none⟩,t,rfl,HB.out,Nat.le_refl _,(fun h=>by cases h),(RowE.ext HROW.out (fun j hj=>by unfold upto;rw[if_pos hj])).rdQ (Nat.le_refl _)⟩
theorem pairUp_any(w:World)(lo:Nat)(A:Option Addr)(c m:Nat)(W:Nat→Nat)(Z:Nat→Int)(hr:RdQ w lo w.heap.size A m W Z)(hm:m≤1000)(hb:∀j,j<m→W j≤70368744177664):
  Calls Tryz.prog 186 #[.slice A m c] w fun e w'=>∃A' c',e=.returned (.slice A' (m/2) c')∧Below w.heap.size w w'∧m/2≤c'∧(A'=none→c'=0)∧RdQ w' w.heap.size w'.heap.size A' (m/2) (prs W) (fun _=> -1):=by
 have HR:=Lib.hid hr;have HBD:=Lib.hid hb
 obtain⟨n,hn⟩:∃n,n=m/2:=⟨_,rfl⟩
 have en:(m:Int)/2=(n:Int):=by omega
 have hnm:2*n≤m:=by omega
 rw[←hn]
 obtain⟨P,hP⟩:∃P:Nat→Nat,P=prs W:=⟨_,rfl⟩
 obtain⟨Y,hY⟩:∃Y:Nat→Int,Y=fun _=> -1:=⟨_,rfl⟩
 rw[←hP,←hY]
 have HP:=Lib.hid hP;have HY:=Lib.hid hY
 have hmk:=make_prc n (by omega)
 have hbase:=rowE_made w n
 rw[upto_start P Y]at hbase
 have hbl:Below w.heap.size w (w.alloc (.cells (madeCells #[.int .i64 0,.int .i64 0] (n*2)) 271)):=(Below.refl _ w).alloc (Nat.le_refl _) _
 obtain⟨u,hu⟩:∃u,u=w.alloc (.cells (madeCells #[.int .i64 0,.int .i64 0] (n*2)) 271):=⟨_,rfl⟩
 rw[←hu]at hbase hbl
 have HU:=Lib.hid hu;have HB0:=Lib.hid hbl;have HBASE:=Lib.hid hbase
 clear hr hb hP hY hu hbase hbl hn
 go_enter Tryz.func186,Tryz.ntmps186
 go_wp2
 rw[←HU.out]
 clear hmk
 go_loopw [11] (fun i wr=>∃t:Nat,t≤n∧i=.int .i64 (t:Int)∧Below w.heap.size w wr∧RowE 271 wr w.heap.size (n*2) (upto t P Y)) (fun i _=>n-(intOf i).toNat)
 case atStart=>exact⟨0,Nat.zero_le _,rfl,HB0.out,HBASE.out⟩
 case round=>
  obtain⟨t,ht,rfl,hbw,hrow⟩:=hrel
  by_cases hlt:t<n
  ·have hlti:(t:Int)<(n:Int):=by omega
   obtain⟨b1,o1,rfl,_,hb1,hc1⟩:=(HR.out.below hbw (Nat.le_refl _)) (by omega)
   obtain⟨p,hp⟩:∃p,p=2*t:=⟨_,rfl⟩
   have ep:2*(t:Int)=(p:Int):=by omega
   have c1:=hc1 (p*2) (by omega)
   have c2:=hc1 ((p+1)*2) (by omega)
   rw[parN_a]at c1 c2
   have hpm:p+1<m:=by omega
   have hx:=HBD.out p (by omega)
   have hy:=HBD.out (p+1) (by omega)
   have hs:P t=W p+W (p+1):=by rw[HP.out];unfold prs;rw[hp]
   obtain⟨x,hxx⟩:∃x,x=W p:=⟨_,rfl⟩
   obtain⟨y,hyy⟩:∃y,y=W (p+1):=⟨_,rfl⟩
   rw[←hxx]at c1 hx hs
   rw[←hyy]at c2 hy hs
   have c1':wr.cell? ⟨b1,o1+p*2,none⟩=some (.int .i64 (x:Int)):=c1
   have f1:=hrow.frozen (t*2)
   have f2:=hrow.frozen (t*2+1)
   have g1:=hrow.cell (show t*2<n*2 by omega)
   have g2:=(hrow.set (t*2) ((x:Int)+(y:Int))).cell (show t*2+1<n*2 by omega)
   have hset:=(hrow.set (t*2) ((x:Int)+(y:Int))).set (t*2+1) (-1)
   obtain⟨z1,hz1⟩:∃z1,z1=upto t P Y (t*2):=⟨_,rfl⟩
   rw[←hz1]at g1
   obtain⟨z2,hz2⟩:∃z2:Int,z2=(if t*2+1=t*2 then((x:Int)+(y:Int))else upto t P Y (t*2+1)):=⟨_,rfl⟩
   rw[←hz2]at g2
   have HSET:=Lib.hid hset;have HB:=Lib.hid hbw;have HS:=Lib.hid hs
   clear hc1 hrow hset hbw hs hxx hyy hp c1 hz1 hz2
   go_wp2
   go_region
   go_wp2
   go_roundw
   case rel=>
    refine⟨t+1,by omega,by go_num,((HB.out.setCell (p:=⟨w.heap.size,t*2,none⟩) (Nat.le_refl _) _).setCell (p:=⟨w.heap.size,t*2+1,none⟩) (Nat.le_refl _) _).drew,?_⟩
    have h:=HSET.out.drew
    have e1:(x:Int)+(y:Int)=(P t:Int):=by have:=HS.out;omega
    have e2:(-1:Int)=Y t:=by rw[HY.out]
    rw[e1,e2,upto_step]at h
    rw[e1,e2]
    exact h
   case measure=>simp[intOf];omega
  ·obtain rfl:t=n:=by omega
   have hlti:¬(t:Int)<(t:Int):=by omega
   have HROW:=Lib.hid hrow;have HB:=Lib.hid hbw
   clear hrow hbw
   go_wp2
   go_ret
   exact⟨some ⟨w.heap.size,0,none⟩,t,rfl,HB.out,Nat.le_refl _,(fun h=>by cases h),(RowE.ext HROW.out (fun j hj=>by unfold upto;rw[if_pos hj])).rdQ (Nat.le_refl _)⟩
end Go.Proofs.YtgokdgcmkcmjeaaGreat
