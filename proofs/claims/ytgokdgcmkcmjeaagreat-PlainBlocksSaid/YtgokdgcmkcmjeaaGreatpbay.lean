/-
  Words and walks.
-/
import Derived.Test.YtgokdgcmkcmjeaaGreatpbax
set_option maxRecDepth 100000
set_option maxHeartbeats 16000000
namespace Go.Proofs.YtgokdgcmkcmjeaaGreat
open Go.RowKit
def MrgOk(l:List Int)(B g N c d:Nat):Prop:=∀(w:World) (f:Nat→Nat) (a m b:Nat),b-a≤d→a<m→m<b→b≤N→RowZ w g N f→CmpF w B g l→(∀t,t<N→f t<l.length)→St (freqN l) f N→Rs (freqN l) f a m→Rs (freqN l) f m b→
 Calls Tryz.prog 199 #[.slice (some ⟨g,0,none⟩) N c,.int .i64 (a:Int),.int .i64 (m:Int),.int .i64 (b:Int),.func (.func 182) #[] #[.pointer (some ⟨B,0,none⟩)]] w fun e w'=>e=.returned (.tuple #[])∧Below g w w'∧∃f',RowZ w' g N f'∧Same f f' a b∧Rs (freqN l) f' a b
theorem rot_up(f:Nat→Nat){a k:Nat}(h:a≤k):sw (rotF f a (a+1) (k+1)) k (k+1)=rotF f a (a+1) (k+1+1):=by
 funext t
 unfold sw rotF src
 repeat' split
 all_goals first|rfl|(exfalso;omega)|(congr 1;omega)
theorem rot_down(f:Nat→Nat){k m:Nat}(h:k+1≤m):sw (rotF f (k+1) m (m+1)) (k+1) k=rotF f k m (m+1):=by
 funext t
 unfold sw rotF src
 repeat' split
 all_goals first|rfl|(exfalso;omega)|(congr 1;omega)
theorem mrg_first(l:List Int)(B g N c:Nat)(hF:FrqOk l)(hN:N≤400)(w:World)(f:Nat→Nat)(a b:Nat)(hab:a+1<b)(hb:b≤N)(hr:RowZ w g N f)(hC:CmpF w B g l)(hM:∀t,t<N→f t<l.length)(hS:St (freqN l) f N)(h2:Rs (freqN l) f (a+1) b):
  Calls Tryz.prog 199 #[.slice (some ⟨g,0,none⟩) N c,.int .i64 (a:Int),.int .i64 ((a+1:Nat):Int),.int .i64 (b:Int),.func (.func 182) #[] #[.pointer (some ⟨B,0,none⟩)]] w fun e w'=>e=.returned (.tuple #[])∧Below g w w'∧∃f',RowZ w' g N f'∧Same f f' a b∧Rs (freqN l) f' a b:=by
 obtain⟨m,hm⟩:∃m,m=a+1:=⟨_,rfl⟩
 rw[←hm]
 have hone:((m:Int)-(a:Int)==1)=true:=by simp;omega
 have HR:=Lib.hid hr;have HC:=Lib.hid hC;have HM:=Lib.hid hM;have HS:=Lib.hid hS;have HF:=Lib.hid hF;have H2:=Lib.hid h2;have HMA:=Lib.hid hm
 have hmN:m<b:=by omega
 have haN:a<N:=by omega
 clear hr hC hM hS hF h2
 clear hm
 go_enter Tryz.func199,Tryz.ntmps199
 go_wp2
 go_loopw [10,11] (fun vi vj wr=>∃(i j:Nat),m≤i∧i≤j∧j≤b∧vi=.int .i64 (i:Int)∧vj=.int .i64 (j:Int)∧Below g w wr∧RowZ wr g N f∧Hid ((i=m∨freqN l (f (i-1))<freqN l (f a))∧(j=b∨¬freqN l (f j)<freqN l (f a)))) (fun vi vj _=>(intOf vj).toNat-(intOf vi).toNat)
 case atStart=>exact⟨m,b,Nat.le_refl _,by omega,Nat.le_refl _,rfl,rfl,Below.refl _ _,HR.out,Lib.hid ⟨.inl rfl,.inl rfl⟩⟩
 case round=>
  obtain⟨i,j,hmi,hij,hjb,rfl,rfl,hbl,hrow,HI⟩:=hrel
  by_cases hlt:i<j
  ·have hlti:(i:Int)<(j:Int):=by omega
   obtain⟨h,hh⟩:∃h,h=(i+j)/2:=⟨_,rfl⟩
   have eh:((i:Int)+(j:Int))/2=(h:Int):=by omega
   have hih:i≤h:=by omega
   have hhj:h<j:=by omega
   have hhN:h<N:=by omega
   have HCL:=Lib.hid (clos_q wr B g l (HC.out.below hbl) HF.out.len (f h) (f a) (HM.out h hhN) (HM.out a haN))
   have hcmp:=HF.out.cmp (HM.out h hhN) (HM.out a haN)
   have c1:=hrow.cell hhN
   have c2:=hrow.cell haN
   have HB:=Lib.hid hbl;have HROW:=Lib.hid hrow
   obtain⟨r,hr⟩:∃r,r=cmpI (l.getD (f h) 0) (l.getD (f a) 0):=⟨_,rfl⟩
   rw[←hr]at HCL hcmp
   obtain⟨x,hx⟩:∃x,x=f h:=⟨_,rfl⟩
   obtain⟨y,hy⟩:∃y,y=f a:=⟨_,rfl⟩
   rw[←hx]at c1 HCL
   rw[←hy]at c2 HCL
   by_cases hneg:r<0
   ·have hd:decide (r<0)=true:=by simp;omega
    have HLT:=Lib.hid (hcmp.1 hneg)
    clear hbl hrow hr hcmp hh hx hy
    go_wp2_with fail
    go_quiet ((go_at_call 182;exact Calls.quiet_of (HCL.out _)))
    go_wp2_with fail
    go_roundw
    case rel=>exact⟨h+1,j,by omega,by omega,hjb,by go_num,rfl,HB.out.trans (below_drewS g wr nq),HROW.out.drewN nq,Lib.hid ⟨.inr (by rw[Nat.add_sub_cancel];exact HLT.out),HI.out.2⟩⟩
    case measure=>simp[intOf];omega
   ·have hd:decide (r<0)=false:=by simp;omega
    have HNL:=Lib.hid (fun q=>hneg (hcmp.2 q))
    clear hbl hrow hr hcmp hh hx hy
    go_wp2_with fail
    go_quiet ((go_at_call 182;exact Calls.quiet_of (HCL.out _)))
    go_wp2_with fail
    go_roundw
    case rel=>exact⟨i,h,hmi,hih,by omega,rfl,rfl,HB.out.trans (below_drewS g wr nq),HROW.out.drewN nq,Lib.hid ⟨HI.out.1,.inr HNL.out⟩⟩
    case measure=>simp[intOf];omega
  ·obtain rfl:i=j:=by omega
   have hlti:¬(i:Int)<(i:Int):=by omega
   have HB:=Lib.hid hbl;have HROW:=Lib.hid hrow
   clear hbl hrow
   go_wp2
   go_loopw [13] (fun vk wq=>∃k:Nat,a≤k∧k+1≤i∧vk=.int .i64 (k:Int)∧Below g w wq∧RowZ wq g N (rotF f a (a+1) (k+1))) (fun vk _=>i-(intOf vk).toNat)
   case atStart=>exact⟨a,Nat.le_refl _,by have:=HMA.out;omega,rfl,HB.out,by rw[rot_none f (by omega) (Nat.le_refl _) (.inr rfl)];exact HROW.out⟩
   case round=>
    obtain⟨k,hak,hki,rfl,hbl,hrow⟩:=hrel
    by_cases hlt2:k+1<i
    ·have hlti2:(k:Int)<(i:Int)-1:=by omega
     obtain⟨p,hp⟩:∃p,p=k+1:=⟨_,rfl⟩
     have e1:(k:Int)+1=(p:Int):=by omega
     have hkN:k<N:=by omega
     have hpN:p<N:=by omega
     have c1:=hrow.cell hkN
     have c2:=hrow.cell hpN
     have f1:=hrow.frozen k
     have f2:=hrow.frozen p
     have hsw:=hrow.swap k p
     obtain⟨x,hx⟩:∃x,x=rotF f a (a+1) (k+1) k:=⟨_,rfl⟩
     obtain⟨y,hy⟩:∃y,y=rotF f a (a+1) (k+1) p:=⟨_,rfl⟩
     have c3:=hrow.two k p hpN y
     obtain⟨z,hz⟩:∃z,z=upd (rotF f a (a+1) (k+1)) k y p:=⟨_,rfl⟩
     rw[←hz]at c3
     rw[←hx]at c1 hsw
     rw[←hy]at c2 hsw
     have HB2:=Lib.hid hbl;have HSW:=Lib.hid hsw;have HP:=Lib.hid hp
     clear hbl hrow hsw hz hx hy hp
     go_wp2_with fail
     go_region
     go_wp2
     go_roundw
     case rel=>
      have h:=HSW.out.drew
      rw[HP.out,rot_up f hak]at h
      exact⟨k+1,by omega,by omega,by have:=HP.out;go_num,by
       rw[HP.out];exact((HB2.out.setCell (p:=⟨g,k,none⟩) (Nat.le_refl _) _).setCell (p:=⟨g,k+1,none⟩) (Nat.le_refl _) _).drew,by rw[HP.out];exact h⟩
     case measure=>have:=HP.out;simp[intOf];omega
    ·have hlti2:¬(k:Int)<(i:Int)-1:=by omega
     have HB2:=Lib.hid hbl;have HROW2:=Lib.hid hrow
     clear hbl hrow
     go_wp2
     refine bodyPost_ret (results_none rfl _ _ _) rfl ?_
     have hk:k+1=i:=by omega
     have hm:=HMA.out
     have hfin:=merge_first HS.out hb H2.out (i:=i) (by omega) hjb (by have h:=HI.out.1;rw[hm]at h;exact h) HI.out.2
     exact⟨rfl,HB2.out,_,by have h:=HROW2.out;rw[hk]at h;exact h,hfin.2,hfin.1⟩
end Go.Proofs.YtgokdgcmkcmjeaaGreat
namespace Go.Proofs.YtgokdgcmkcmjeaaGreat
open Go.RowKit
theorem mrg_last(l:List Int)(B g N c:Nat)(hF:FrqOk l)(hN:N≤400)(w:World)(f:Nat→Nat)(a m:Nat)(ham:a+1<m)(hb:m+1≤N)(hr:RowZ w g N f)(hC:CmpF w B g l)(hM:∀t,t<N→f t<l.length)(hS:St (freqN l) f N)(h1:Rs (freqN l) f a m):
  Calls Tryz.prog 199 #[.slice (some ⟨g,0,none⟩) N c,.int .i64 (a:Int),.int .i64 (m:Int),.int .i64 ((m+1:Nat):Int),.func (.func 182) #[] #[.pointer (some ⟨B,0,none⟩)]] w fun e w'=>e=.returned (.tuple #[])∧Below g w w'∧∃f',RowZ w' g N f'∧Same f f' a (m+1)∧Rs (freqN l) f' a (m+1):=by
 obtain⟨b,hm⟩:∃b,b=m+1:=⟨_,rfl⟩
 rw[←hm]
 have hone:((m:Int)-(a:Int)==1)=false:=by simp;omega
 have hbN:b≤N:=by omega
 have htwo:((b:Int)-(m:Int)==1)=true:=by simp;omega
 have HR:=Lib.hid hr;have HC:=Lib.hid hC;have HM:=Lib.hid hM;have HS:=Lib.hid hS;have HF:=Lib.hid hF;have H1:=Lib.hid h1;have HMA:=Lib.hid hm
 have hmN:m<N:=by omega
 have hmb:m<b:=by omega
 clear hr hC hM hS hF h1
 clear hm
 go_enter Tryz.func199,Tryz.ntmps199
 go_wp2
 go_loopw [14,15] (fun vi vj wr=>∃(i j:Nat),a≤i∧i≤j∧j≤m∧vi=.int .i64 (i:Int)∧vj=.int .i64 (j:Int)∧Below g w wr∧RowZ wr g N f∧Hid ((i=a∨¬freqN l (f m)<freqN l (f (i-1)))∧(j=m∨freqN l (f m)<freqN l (f j)))) (fun vi vj _=>(intOf vj).toNat-(intOf vi).toNat)
 case atStart=>exact⟨a,m,Nat.le_refl _,by omega,Nat.le_refl _,rfl,rfl,Below.refl _ _,HR.out,Lib.hid ⟨.inl rfl,.inl rfl⟩⟩
 case round=>
  obtain⟨i,j,hai,hij,hjm,rfl,rfl,hbl,hrow,HI⟩:=hrel
  by_cases hlt:i<j
  ·have hlti:(i:Int)<(j:Int):=by omega
   obtain⟨h,hh⟩:∃h,h=(i+j)/2:=⟨_,rfl⟩
   have eh:((i:Int)+(j:Int))/2=(h:Int):=by omega
   have hih:i≤h:=by omega
   have hhj:h<j:=by omega
   have hhN:h<N:=by omega
   have HCL:=Lib.hid (clos_q wr B g l (HC.out.below hbl) HF.out.len (f m) (f h) (HM.out m hmN) (HM.out h hhN))
   have hcmp:=HF.out.cmp (HM.out m hmN) (HM.out h hhN)
   have c1:=hrow.cell hhN
   have c2:=hrow.cell hmN
   have HB:=Lib.hid hbl;have HROW:=Lib.hid hrow
   obtain⟨r,hr⟩:∃r,r=cmpI (l.getD (f m) 0) (l.getD (f h) 0):=⟨_,rfl⟩
   rw[←hr]at HCL hcmp
   obtain⟨x,hx⟩:∃x,x=f h:=⟨_,rfl⟩
   obtain⟨y,hy⟩:∃y,y=f m:=⟨_,rfl⟩
   rw[←hx]at c1 HCL
   rw[←hy]at c2 HCL
   by_cases hneg:r<0
   ·have hd:decide (r<0)=true:=by simp;omega
    have HLT:=Lib.hid (hcmp.1 hneg)
    clear hbl hrow hr hcmp hh hx hy
    go_wp2_with fail
    go_quiet ((go_at_call 182;exact Calls.quiet_of (HCL.out _)))
    go_wp2_with fail
    go_roundw
    case rel=>exact⟨i,h,hai,hih,by omega,rfl,rfl,HB.out.trans (below_drewS g wr nq),HROW.out.drewN nq,Lib.hid ⟨HI.out.1,.inr HLT.out⟩⟩
    case measure=>simp[intOf];omega
   ·have hd:decide (r<0)=false:=by simp;omega
    have HNL:=Lib.hid (fun q=>hneg (hcmp.2 q))
    clear hbl hrow hr hcmp hh hx hy
    go_wp2_with fail
    go_quiet ((go_at_call 182;exact Calls.quiet_of (HCL.out _)))
    go_wp2_with fail
    go_roundw
    case rel=>exact⟨h+1,j,by omega,by omega,hjm,by go_num,rfl,HB.out.trans (below_drewS g wr nq),HROW.out.drewN nq,Lib.hid ⟨.inr (by rw[Nat.add_sub_cancel];exact HNL.out),HI.out.2⟩⟩
    case measure=>simp[intOf];omega
  ·obtain rfl:i=j:=by omega
   have hlti:¬(i:Int)<(i:Int):=by omega
   have HB:=Lib.hid hbl;have HROW:=Lib.hid hrow
   clear hbl hrow
   go_wp2
   go_loopw [17] (fun vk wq=>∃k:Nat,i≤k∧k≤m∧vk=.int .i64 (k:Int)∧Below g w wq∧RowZ wq g N (rotF f k m (m+1))) (fun vk _=>(intOf vk).toNat)
   case atStart=>exact⟨m,hjm,Nat.le_refl _,rfl,HB.out,by rw[rot_none f (Nat.le_refl _) (by omega) (.inl rfl)];exact HROW.out⟩
   case round=>
    obtain⟨k,hik,hkm,rfl,hbl,hrow⟩:=hrel
    by_cases hlt2:i<k
    ·have hlti2:(i:Int)<(k:Int):=by omega
     obtain⟨p,hp⟩:∃p,p=k-1:=⟨_,rfl⟩
     have e1:(k:Int)-1=(p:Int):=by omega
     have hkN:k<N:=by omega
     have hpN:p<N:=by omega
     have c1:=hrow.cell hkN
     have c2:=hrow.cell hpN
     have f1:=hrow.frozen k
     have f2:=hrow.frozen p
     have hsw:=hrow.swap k p
     obtain⟨x,hx⟩:∃x,x=rotF f k m (m+1) k:=⟨_,rfl⟩
     obtain⟨y,hy⟩:∃y,y=rotF f k m (m+1) p:=⟨_,rfl⟩
     have c3:=hrow.two k p hpN y
     obtain⟨z,hz⟩:∃z,z=upd (rotF f k m (m+1)) k y p:=⟨_,rfl⟩
     rw[←hz]at c3
     rw[←hx]at c1 hsw
     rw[←hy]at c2 hsw
     have HB2:=Lib.hid hbl;have HSW:=Lib.hid hsw;have HP:=Lib.hid hp
     clear hbl hrow hsw hz hx hy hp
     go_wp2_with fail
     go_region
     go_wp2
     go_roundw
     case rel=>
      have h:=HSW.out.drew
      have hkp:k=p+1:=by have:=HP.out;omega
      rw[hkp,rot_down f (by omega)]at h
      exact⟨p,by omega,by omega,rfl,((HB2.out.setCell (p:=⟨g,k,none⟩) (Nat.le_refl _) _).setCell (p:=⟨g,p,none⟩) (Nat.le_refl _) _).drew,by rw[hkp];exact h⟩
     case measure=>have:=HP.out;simp[intOf];omega
    ·have hlti2:¬(i:Int)<(k:Int):=by omega
     have HB2:=Lib.hid hbl;have HROW2:=Lib.hid hrow
     clear hbl hrow
     go_wp2
     refine bodyPost_ret (results_none rfl _ _ _) rfl ?_
     obtain rfl:k=i:=by omega
     have hm:=HMA.out
     subst hm
     have hfin:=merge_last HS.out hb H1.out (i:=k) hai hjm HI.out.1 HI.out.2
     exact⟨rfl,HB2.out,_,HROW2.out,hfin.2,hfin.1⟩
end Go.Proofs.YtgokdgcmkcmjeaaGreat
