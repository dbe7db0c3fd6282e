/-
  Words and walks.
-/
import Derived.Deep.DeepCutAuto
import Derived.Test.YtgokdgcmkcmjeaaGreatpbay
set_option maxRecDepth 100000
set_option maxHeartbeats 16000000
namespace Go.Proofs.YtgokdgcmkcmjeaaGreat
open Go.RowKit
structure Srch (a m b n mid s0 r0:Nat):Prop where
 h1:a≤s0
 h2:s0≤r0
 h3:r0≤m
 h4:r0≤mid
 h5:n-s0≤b
 h6:s0=a∨n-s0=b
 h7:r0=m∨n-r0=m
 h8:n=mid+m
theorem mrg_mid(l:List Int)(B g N c d:Nat)(hF:FrqOk l)(hN:N≤400)(IH:MrgOk l B g N c d)(w:World)(f:Nat→Nat)(a m b:Nat)(hd:b-a≤d+1)(ham:a+2≤m)(hmb:m+2≤b)(hb:b≤N)(hr:RowZ w g N f)(hC:CmpF w B g l)(hM:∀t,t<N→f t<l.length)(hS:St (freqN l) f N)(h1:Rs (freqN l) f a m)(h2:Rs (freqN l) f m b):
  Calls Tryz.prog 199 #[.slice (some ⟨g,0,none⟩) N c,.int .i64 (a:Int),.int .i64 (m:Int),.int .i64 (b:Int),.func (.func 182) #[] #[.pointer (some ⟨B,0,none⟩)]] w fun e w'=>e=.returned (.tuple #[])∧Below g w w'∧∃f',RowZ w' g N f'∧Same f f' a b∧Rs (freqN l) f' a b:=by
 have hone:((m:Int)-(a:Int)==1)=false:=by simp;omega
 have htwo:((b:Int)-(m:Int)==1)=false:=by simp;omega
 obtain⟨mid,hmid⟩:∃mid,mid=(a+b)/2:=⟨_,rfl⟩
 have emid:((a:Int)+(b:Int))/2=(mid:Int):=by omega
 obtain⟨n,hn⟩:∃n,n=mid+m:=⟨_,rfl⟩
 have en:(mid:Int)+(m:Int)=(n:Int):=by omega
 obtain⟨p,hp⟩:∃p,p=n-1:=⟨_,rfl⟩
 have ep:(n:Int)-1=(p:Int):=by omega
 have hab2:a+1<mid:=by omega
 have hmidb:mid<b:=by omega
 have hmbN:m<b:=by omega
 have hn800:n≤800:=by omega
 have HR:=Lib.hid hr;have HC:=Lib.hid hC;have HM:=Lib.hid hM;have HS:=Lib.hid hS;have HF:=Lib.hid hF;have H1:=Lib.hid h1;have H2:=Lib.hid h2;have HIH:=Lib.hid IH
 clear hr hC hM hS hF h1 h2 IH
 obtain⟨s0,r0,hsr,HSR⟩:∃s0 r0:Nat,((mid<m∧s0=n-b∧r0=mid)∨(m≤mid∧s0=a∧r0=m))∧Hid (Srch a m b n mid s0 r0):=by
  by_cases g:mid<m
  ·exact⟨n-b,mid,.inl ⟨g,rfl,rfl⟩,Lib.hid ⟨by omega,by omega,by omega,by omega,by omega,by omega,by omega,hn⟩⟩
  ·exact⟨a,m,.inr ⟨by omega,rfl,rfl⟩,Lib.hid ⟨by omega,by omega,by omega,by omega,by omega,by omega,by omega,hn⟩⟩
 have hs0:s0≤m:=by have:=HSR.out;have h1:=this.h2;have h2:=this.h3;omega
 have hr0:r0≤m:=HSR.out.h3
 have HMID:=Lib.hid hmid;have HN:=Lib.hid hn;have HP:=Lib.hid hp
 clear hmid hn hp
 go_enter Tryz.func199,Tryz.ntmps199
 go_upto_if 140 with fail
 go_cut [20,21] (fun vs vr wx=>vs=.int .i64 (s0:Int)∧vr=.int .i64 (r0:Int)∧wx=w)
 case first=>
  as_aux_lemma=>
  rcases hsr with⟨g1,g2,g3⟩|⟨g1,g2,g3⟩
  ·have g1i:(mid:Int)<(m:Int):=by omega
   have g2i:(n:Int)-(b:Int)=(s0:Int):=by have:=HN.out;omega
   subst g3
   clear g2
   go_wp2_with fail
   go_meet
   exact⟨rfl,rfl,rfl⟩
  ·have g1i:¬(mid:Int)<(m:Int):=by omega
   subst g2
   subst g3
   go_wp2_with fail
   go_meet
   exact⟨rfl,rfl,rfl⟩
 case rest=>
  obtain⟨rfl,rfl,rfl⟩:=hcut
  obtain⟨wa,rfl⟩:∃wa:World,wa=wc:=⟨_,rfl⟩
  clear hsr
  go_wp2
  go_loopw [20,21] (fun vi vj wr=>∃(i j:Nat),s0≤i∧i≤j∧j≤r0∧vi=.int .i64 (i:Int)∧vj=.int .i64 (j:Int)∧Below g wa wr∧RowZ wr g N f∧Hid ((i=s0∨¬freqN l (f (p-(i-1)))<freqN l (f (i-1)))∧(j=r0∨freqN l (f (p-j))<freqN l (f j)))) (fun vi vj _=>(intOf vj).toNat-(intOf vi).toNat)
  case atStart=>exact⟨s0,r0,Nat.le_refl _,HSR.out.h2,Nat.le_refl _,rfl,rfl,Below.refl _ _,HR.out,Lib.hid ⟨.inl rfl,.inl rfl⟩⟩
  case round=>
   obtain⟨i,j,hsi,hij,hjr,rfl,rfl,hbl,hrow,HI⟩:=hrel
   by_cases hlt:i<j
   ·have hlti:(i:Int)<(j:Int):=by omega
    as_aux_lemma=>
    obtain⟨h,hh⟩:∃h,h=(i+j)/2:=⟨_,rfl⟩
    have eh:((i:Int)+(j:Int))/2=(h:Int):=by omega
    have hih:i≤h:=by omega
    have hhj:h<j:=by omega
    have hhN:h<N:=by omega
    obtain⟨q,hq⟩:∃q,q=p-h:=⟨_,rfl⟩
    have hqs:h≤p∧q<N:=by
     have h1:=HSR.out
     have h2:=h1.h1;have h3:=h1.h3;have h4:=h1.h4;have h5:=h1.h5;have h8:=h1.h8
     have:=HP.out
     omega
    have hqN:q<N:=hqs.2
    have eq:(p:Int)-(h:Int)=(q:Int):=by omega
    have HCL:=Lib.hid (clos_q wr B g l (HC.out.below hbl) HF.out.len (f q) (f h) (HM.out q hqN) (HM.out h hhN))
    have hcmp:=HF.out.cmp (HM.out q hqN) (HM.out h hhN)
    have c1:=hrow.cell hhN
    have c2:=hrow.cell hqN
    have HB:=Lib.hid hbl;have HROW:=Lib.hid hrow
    obtain⟨r,hr⟩:∃r,r=cmpI (l.getD (f q) 0) (l.getD (f h) 0):=⟨_,rfl⟩
    rw[←hr]at HCL hcmp
    rw[hq]at hcmp
    obtain⟨x,hx⟩:∃x,x=f h:=⟨_,rfl⟩
    obtain⟨y,hy⟩:∃y,y=f q:=⟨_,rfl⟩
    rw[←hx]at c1 HCL
    rw[←hy]at c2 HCL
    by_cases hneg:r<0
    ·have hd:decide (r<0)=true:=by simp;omega
     have HLT:=Lib.hid (hcmp.1 hneg)
     clear hbl hrow hr hcmp hh hx hy hq hqs
     go_wp2_with fail
     go_quiet ((go_at_call 182;exact Calls.quiet_of (HCL.out _)))
     go_wp2_with fail
     go_roundw
     case rel=>exact⟨i,h,hsi,hih,by omega,rfl,rfl,HB.out.trans (below_drewS g wr nq),HROW.out.drewN nq,Lib.hid ⟨HI.out.1,.inr HLT.out⟩⟩
     case measure=>simp[intOf];omega
    ·have hd:decide (r<0)=false:=by simp;omega
     have HNL:=Lib.hid (fun q=>hneg (hcmp.2 q))
     clear hbl hrow hr hcmp hh hx hy hq hqs
     go_wp2_with fail
     go_quiet ((go_at_call 182;exact Calls.quiet_of (HCL.out _)))
     go_wp2_with fail
     go_roundw
     case rel=>exact⟨h+1,j,by omega,by omega,hjr,by go_num,rfl,HB.out.trans (below_drewS g wr nq),HROW.out.drewN nq,Lib.hid ⟨.inr (by rw[Nat.add_sub_cancel];exact HNL.out),HI.out.2⟩⟩
     case measure=>simp[intOf];omega
   ·obtain rfl:i=j:=by omega
    have hlti:¬(i:Int)<(i:Int):=by omega
    obtain⟨e,he⟩:∃e,e=n-i:=⟨_,rfl⟩
    have hsr:=HSR.out
    have q1:=hsr.h1;have q2:=hsr.h2;have q3:=hsr.h3;have q4:=hsr.h4;have q5:=hsr.h5;have q6:=hsr.h6;have q7:=hsr.h7;have q8:=hsr.h8
    have hp:=HP.out
    have ee:(n:Int)-(i:Int)=(e:Int):=by omega
    have hmide:i+(e-m)=mid:=by omega
    have hme:m≤e:=by omega
    have heb:e≤b:=by omega
    have hai:a≤i:=by omega
    have him:i≤m:=by omega
    have himid:i≤mid:=by omega
    have hmde:mid≤e:=by omega
    have hx:i<m→m<e→freqN l (f (e-1))<freqN l (f i):=fun g1 g2=>by
     rcases HI.out.2 with g|g
     ·omega
     ·rw[show p-i=e-1 by omega]at g;exact g
    have hy:a<i→e<b→freqN l (f (i-1))≤freqN l (f e):=fun g1 g2=>by
     rcases HI.out.1 with g|g
     ·omega
     ·rw[show p-(i-1)=e by omega]at g;omega
    have HST:=Lib.hid (rot_st HS.out hb H1.out H2.out hai him hme heb hx)
    have HSAME:=Lib.hid (same_rot f him hme)
    have R1:=Lib.hid (rot_rs1 (e:=e) H1.out him)
    have R2:=Lib.hid (rot_rs2 H2.out him hme heb)
    have R3:=Lib.hid (rot_rs3 H1.out hai him hme)
    have R4:=Lib.hid (rot_rs4 (s:=i) H2.out hme)
    have HLO:=Lib.hid (rot_lo HS.out hb H1.out H2.out hai him hme heb hx hy)
    rw[hmide]at R2 R3 HLO
    have HB:=Lib.hid hbl;have HROW:=Lib.hid hrow
    clear hbl hrow hx hy he hsr q1 q2 q3 q4 q5 q6 q7 q8 hp
    go_upto_region 39 with fail
    go_cut [185] (fun v wx=>v=.bool (decide (i<m∧m<e))∧wx=wr)
    case first=>
     as_aux_lemma=>
     by_cases g1:i<m
     ·have g1i:decide ((i:Int)<(m:Int))=true:=by simp;omega
      have g1j:(i:Int)<(m:Int):=by omega
      by_cases g2:m<e
      ·have g2i:decide ((m:Int)<(e:Int))=true:=by simp;omega
       have g2j:(m:Int)<(e:Int):=by omega
       go_wp2_with fail
       go_meet
       exact⟨congrArg Value.bool (decide_eq_true ⟨g1,g2⟩).symm,rfl⟩
      ·have g2i:decide ((m:Int)<(e:Int))=false:=by simp;omega
       have g2j:¬(m:Int)<(e:Int):=by omega
       go_wp2_with fail
       go_meet
       exact⟨congrArg Value.bool (decide_eq_false (fun h=>g2 h.2)).symm,rfl⟩
     ·have g1i:decide ((i:Int)<(m:Int))=false:=by simp;omega
      have g1j:¬(i:Int)<(m:Int):=by omega
      go_wp2_with fail
      go_meet
      exact⟨congrArg Value.bool (decide_eq_false (fun h=>g1 h.1)).symm,rfl⟩
    case rest=>
     as_aux_lemma=>
     obtain⟨rfl,rfl⟩:=hcut
     obtain⟨wb,rfl⟩:∃wb:World,wb=wc:=⟨_,rfl⟩
     go_upto_if 185 with fail
     go_cut [] (fun wx=>Below g wa wx∧RowZ wx g N (rotF f i m e))
     case first=>
      as_aux_lemma=>
      by_cases hg:i<m∧m<e
      ·have hd:decide (i<m∧m<e)=true:=decide_eq_true hg
       go_wp2_with (go_at_call 201;refine(rotate_any _ g N c f HROW.out i m e hg.1 hg.2 (by omega) hN (.func (.func 182) #[] #[.pointer (some ⟨B,0,none⟩)])).mono ?_;rintro _ w1 ⟨rfl,hb1,hr1⟩;have HB1:=Lib.hid hb1;have HR1:=Lib.hid hr1;clear hb1 hr1)
       go_meet
       exact⟨HB.out.trans HB1.out,HR1.out⟩
      ·have hd:decide (i<m∧m<e)=false:=decide_eq_false hg
       go_wp2_with fail
       go_meet
       exact⟨HB.out,by rw[rot_none f him hme (by omega)];exact HROW.out⟩
     case rest=>
      as_aux_lemma=>
      obtain⟨hb1,hr1⟩:=hcut
      obtain⟨w1,rfl⟩:∃w1:World,w1=wc:=⟨_,rfl⟩
      have HB1:=Lib.hid hb1;have HR1:=Lib.hid hr1
      obtain⟨f1,hf1⟩:∃f1,f1=rotF f i m e:=⟨_,rfl⟩
      rw[←hf1]at HR1 HST HSAME R1 R2 R3 R4 HLO
      have HM1:=Lib.hid (HSAME.out.lt (by omega) HM.out)
      clear hb1 hr1 hf1 HB HROW
      go_upto_region 41 with fail
      go_cut [199] (fun v wx=>v=.bool (decide (a<i∧i<mid))∧wx=w1)
      case first=>
       as_aux_lemma=>
       by_cases g1:a<i
       ·have g1i:decide ((a:Int)<(i:Int))=true:=by simp;omega
        have g1j:(a:Int)<(i:Int):=by omega
        by_cases g2:i<mid
        ·have g2i:decide ((i:Int)<(mid:Int))=true:=by simp;omega
         have g2j:(i:Int)<(mid:Int):=by omega
         go_wp2_with fail
         go_meet
         exact⟨congrArg Value.bool (decide_eq_true ⟨g1,g2⟩).symm,rfl⟩
        ·have g2i:decide ((i:Int)<(mid:Int))=false:=by simp;omega
         have g2j:¬(i:Int)<(mid:Int):=by omega
         go_wp2_with fail
         go_meet
         exact⟨congrArg Value.bool (decide_eq_false (fun h=>g2 h.2)).symm,rfl⟩
       ·have g1i:decide ((a:Int)<(i:Int))=false:=by simp;omega
        have g1j:¬(a:Int)<(i:Int):=by omega
        go_wp2_with fail
        go_meet
        exact⟨congrArg Value.bool (decide_eq_false (fun h=>g1 h.1)).symm,rfl⟩
      case rest=>
       as_aux_lemma=>
       obtain⟨rfl,rfl⟩:=hcut
       obtain⟨w1,rfl⟩:∃w1:World,w1=wc:=⟨_,rfl⟩
       go_upto_if 199 with fail
       go_cut [] (fun wx=>Below g wa wx∧∃f2,RowZ wx g N f2∧Same f1 f2 a mid∧Rs (freqN l) f2 a mid)
       case first=>
        as_aux_lemma=>
        by_cases hg:a<i∧i<mid
        ·have hd:decide (a<i∧i<mid)=true:=decide_eq_true hg
         go_wp2_with (go_at_call 199;refine(HIH.out _ f1 a i mid (by omega) hg.1 hg.2 (by omega) HR1.out (HC.out.below HB1.out) HM1.out HST.out R1.out R2.out).mono ?_;rintro _ w2 ⟨rfl,hb2,f2,hr2,hs2,ho2⟩;have HB2:=Lib.hid hb2;have HR2:=Lib.hid hr2;have HS2:=Lib.hid hs2;have HO2:=Lib.hid ho2;clear hb2 hr2 hs2 ho2)
         go_meet
         exact⟨HB1.out.trans HB2.out,f2,HR2.out,HS2.out,HO2.out⟩
        ·have hd:decide (a<i∧i<mid)=false:=decide_eq_false hg
         go_wp2_with fail
         go_meet
         refine⟨HB1.out,f1,HR1.out,Same.refl _ _ _,?_⟩
         by_cases e1:a=i
         ·rw[e1];exact R2.out
         ·have e2:i=mid:=by omega
          rw[←e2];exact R1.out
       case rest=>
        as_aux_lemma=>
        obtain⟨hb2,f2,hr2,hs2,ho2⟩:=hcut
        obtain⟨w2,rfl⟩:∃w2:World,w2=wc:=⟨_,rfl⟩
        have HB2:=Lib.hid hb2;have HR2:=Lib.hid hr2;have HS2:=Lib.hid hs2;have HO2:=Lib.hid ho2
        have HM2:=Lib.hid (hs2.lt (by omega) HM1.out)
        have HST2:=Lib.hid (HST.out.keep hs2 ho2 (by omega))
        have R3b:=Lib.hid (R3.out.keep hs2 (.inr (Nat.le_refl _)))
        have R4b:=Lib.hid (R4.out.keep hs2 (.inr hmde))
        clear hb2 hr2 hs2 ho2
        go_upto_region 43 with fail
        go_cut [213] (fun v wx=>v=.bool (decide (mid<e∧e<b))∧wx=w2)
        case first=>
         as_aux_lemma=>
         by_cases g1:mid<e
         ·have g1i:decide ((mid:Int)<(e:Int))=true:=by simp;omega
          have g1j:(mid:Int)<(e:Int):=by omega
          by_cases g2:e<b
          ·have g2i:decide ((e:Int)<(b:Int))=true:=by simp;omega
           have g2j:(e:Int)<(b:Int):=by omega
           go_wp2_with fail
           go_meet
           exact⟨congrArg Value.bool (decide_eq_true ⟨g1,g2⟩).symm,rfl⟩
          ·have g2i:decide ((e:Int)<(b:Int))=false:=by simp;omega
           have g2j:¬(e:Int)<(b:Int):=by omega
           go_wp2_with fail
           go_meet
           exact⟨congrArg Value.bool (decide_eq_false (fun h=>g2 h.2)).symm,rfl⟩
         ·have g1i:decide ((mid:Int)<(e:Int))=false:=by simp;omega
          have g1j:¬(mid:Int)<(e:Int):=by omega
          go_wp2_with fail
          go_meet
          exact⟨congrArg Value.bool (decide_eq_false (fun h=>g1 h.1)).symm,rfl⟩
        case rest=>
         as_aux_lemma=>
         obtain⟨rfl,rfl⟩:=hcut
         obtain⟨w2,rfl⟩:∃w2:World,w2=wc:=⟨_,rfl⟩
         by_cases hg:mid<e∧e<b
         ·have hd:decide (mid<e∧e<b)=true:=decide_eq_true hg
          go_wp2_with (go_at_call 199;refine(HIH.out _ f2 mid e b (by omega) hg.1 hg.2 (by omega) HR2.out (HC.out.below HB2.out) HM2.out HST2.out R3b.out R4b.out).mono ?_;rintro _ w3 ⟨rfl,hb3,f3,hr3,hs3,ho3⟩;have HB3:=Lib.hid hb3;have HR3:=Lib.hid hr3;have HS3:=Lib.hid hs3;have HO3:=Lib.hid ho3;clear hb3 hr3 hs3 ho3)
          go_end0
          exact⟨rfl,HB2.out.trans HB3.out,f3,HR3.out,(((HSAME.out.wide hai heb).trans (HS2.out.wide (Nat.le_refl _) (by omega))).trans (HS3.out.wide (by omega) (Nat.le_refl _))),lo_join HS2.out HO2.out HS3.out HO3.out HLO.out⟩
         ·have hd:decide (mid<e∧e<b)=false:=decide_eq_false hg
          go_wp2_with fail
          go_end0
          refine⟨rfl,HB2.out,f2,HR2.out,((HSAME.out.wide hai heb).trans (HS2.out.wide (Nat.le_refl _) (by omega))),lo_join HS2.out HO2.out (Same.refl _ _ _) ?_ HLO.out⟩
          by_cases e1:mid=e
          ·rw[e1];exact R4b.out
          ·have e2:e=b:=by omega
           rw[←e2];exact R3b.out
end Go.Proofs.YtgokdgcmkcmjeaaGreat
