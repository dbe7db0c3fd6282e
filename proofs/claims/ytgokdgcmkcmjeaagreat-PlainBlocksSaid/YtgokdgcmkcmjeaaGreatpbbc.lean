/-
  Words and walks.
-/
import Derived.BigRegion
import Derived.StillTail
import Derived.Test.YtgokdgcmkcmjeaaGreatpbaa
import Derived.Test.YtgokdgcmkcmjeaaGreatpbab
import Derived.Test.YtgokdgcmkcmjeaaGreatpbad
import Derived.Test.YtgokdgcmkcmjeaaGreatpbaj
import Derived.Test.YtgokdgcmkcmjeaaGreatpbaw
import Derived.Test.YtgokdgcmkcmjeaaGreatpbax
import Derived.Test.YtgokdgcmkcmjeaaGreatpbbb
set_option maxRecDepth 100000
set_option maxHeartbeats 16000000
namespace Go.Proofs.YtgokdgcmkcmjeaaGreat
open Go.RowKit
def chk4(l:List Int)(most:Int):Int:=if most<1∨15<most then 2 else if 320<l.length then 4 else if badL l l.length=true then 2 else 0
theorem check4_any(w:World)(A:Option Addr)(c:Nat)(l:List Int)(most:Int)(hr:RdI w w.heap.size A l)(hn:l.length≤1000)(hm1: -9223372036854775808≤most)(hm2:most≤9223372036854775807)(hb:∀j,j<l.length→-9223372036854775808≤l.getD j 0∧l.getD j 0≤9223372036854775807):
  Calls Tryz.prog 166 #[.slice A l.length c,.int .i64 most] w fun e w'=>e=.returned (.int .i64 (chk4 l most))∧w'=w:=by
 have HR:=Lib.hid hr;have HBD:=Lib.hid hb
 clear hr hb
 obtain⟨n,hn0⟩:∃n,n=l.length:=⟨_,rfl⟩
 obtain⟨E,hE⟩:∃E,E=chk4 l most:=⟨_,rfl⟩
 rw[←hn0]at hn⊢
 rw[←hE]
 unfold chk4 at hE
 rw[←hn0]at hE
 have HN:=Lib.hid hn0
 clear hn0
 by_cases h1:most<1
 ·rw[if_pos (.inl h1)]at hE
  subst hE
  have hd:decide (most<1)=true:=by simpa using h1
  go_enter Tryz.func166,Tryz.ntmps166
  go_wp2
  go_ret
  exact⟨rfl,rfl⟩
 ·have hd:decide (most<1)=false:=by simpa using h1
  by_cases h2:15<most
  ·rw[if_pos (.inr h2)]at hE
   subst hE
   go_enter Tryz.func166,Tryz.ntmps166
   go_wp2
   go_ret
   exact⟨rfl,rfl⟩
  ·rw[if_neg (by omega)]at hE
   have hd2:decide (15<most)=false:=by simpa using h2
   by_cases h3:320<n
   ·rw[if_pos h3]at hE
    subst hE
    have hd3:decide ((320:Int)<(n:Int))=true:=by simp;omega
    have h3i:(320:Int)<(n:Int):=by omega
    go_enter Tryz.func166,Tryz.ntmps166
    go_wp2
    go_ret
    exact⟨rfl,rfl⟩
   ·rw[if_neg h3]at hE
    have hd3:decide ((320:Int)<(n:Int))=false:=by simp;omega
    have h3i:¬(320:Int)<(n:Int):=by omega
    have HE:=Lib.hid hE
    clear hE
    go_enter Tryz.func166,Tryz.ntmps166
    go_wp2
    go_loopw [18] (fun i wr=>∃k:Nat,k≤n∧i=.int .i64 (k:Int)∧wr=w∧Hid (∀j,j<k→badI (l.getD j 0)=false)) (fun i _=>n-(intOf i).toNat)
    case atStart=>exact⟨0,Nat.zero_le _,rfl,rfl,Lib.hid (fun j hj=>absurd hj (by omega))⟩
    case round=>
     obtain⟨k,hk,rfl,rfl,HALL⟩:=hrel
     by_cases hlt:k<n
     ·have hlti:(k:Int)<(n:Int):=by omega
      obtain⟨b,o,rfl,hbl,hc⟩:=HR.out.at (k:=k) (by rw[←HN.out];exact hlt)
      have c1:=hc k (by rw[←HN.out];exact hlt)
      have hxb:=HBD.out k (by rw[←HN.out];exact hlt)
      obtain⟨x,hx⟩:∃x,x=l.getD k 0:=⟨_,rfl⟩
      rw[←hx]at c1 hxb
      have HX:=Lib.hid hx
      clear hx hc
      by_cases g1:x<0
      ·have hg1:decide (x<0)=true:=by simpa using g1
       go_wp2
       go_ret
       have hbad:badL l l.length=true:=badL_yes (k:=k) (by rw[←HN.out];exact hlt) (by rw[←HX.out];exact decide_eq_true (.inl g1))
       have h:=HE.out
       rw[HN.out,if_pos hbad]at h
       exact⟨ret_int h.symm,rfl⟩
      ·have hg1:decide (x<0)=false:=by simpa using g1
       by_cases g2:1073741824<x
       ·have hg2:decide (1073741824<x)=true:=by simpa using g2
        go_wp2
        go_ret
        have hbad:badL l l.length=true:=badL_yes (k:=k) (by rw[←HN.out];exact hlt) (by rw[←HX.out];exact decide_eq_true (.inr g2))
        have h:=HE.out
        rw[HN.out,if_pos hbad]at h
        exact⟨ret_int h.symm,rfl⟩
       ·have hg2:decide (1073741824<x)=false:=by simpa using g2
        go_wp2
        go_roundw
        case rel=>exact⟨k+1,by omega,by go_num,trivial,Lib.hid (fun j hj=>by
         by_cases e:j=k
         ·rw[e,←HX.out];exact badI_no (by omega) (by omega)
         ·exact HALL.out j (by omega))⟩
        case measure=>simp[intOf];omega
     ·obtain rfl:k=n:=by omega
      have hlti:¬(k:Int)<(k:Int):=by omega
      go_wp2
      go_ret
      have hbad:badL l l.length=false:=badL_no (fun j hj=>HALL.out j (by rw[HN.out];exact hj))
      have h:=HE.out
      rw[HN.out,if_neg (by rw[hbad];exact Bool.false_ne_true)]at h
      exact⟨ret_int h.symm,rfl⟩
theorem ask_of_chk{l:List Int}{most:Int}(h:chk4 l most≠0):askE l most=chk4 l most:=by
 unfold chk4 at h⊢
 unfold askE
 split
 ·rfl
 ·rename_i h1
  rw[if_neg h1]at h
  split
  ·rfl
  ·rename_i h2
   rw[if_neg h2]at h
   split
   ·rfl
   ·rename_i h3
    rw[if_neg h3]at h
    exact absurd rfl h
theorem chk_right{l:List Int}{most:Int}(h:chk4 l most=0):1≤most∧most≤15∧l.length≤320∧(∀j,j<l.length→0≤l.getD j 0∧l.getD j 0≤1073741824)∧askE l most=if 2^most.toNat<nI (freqN l) l.length then 4 else 0:=by
 unfold chk4 at h
 unfold askE
 split at h
 ·cases h
 ·rename_i h1
  rw[if_neg h1]
  split at h
  ·cases h
  ·rename_i h2
   rw[if_neg h2]
   split at h
   ·cases h
   ·rename_i h3
    rw[if_neg h3]
    refine⟨by omega,by omega,by omega,fun j hj=>?_,rfl⟩
    have h4:¬badI (l.getD j 0)=true:=fun hb=>h3 (badL_yes hj hb)
    have h5:=of_decide_eq_false (Bool.not_eq_true _▸h4)
    omega
theorem lengths_room(w:World)(A:Option Addr)(c:Nat)(l:List Int)(most:Int)(hr:RdI w w.heap.size A l)(_hc:A=none→c=0)(hn:l.length≤1000)(hb:∀j,j<l.length→-9223372036854775808≤l.getD j 0∧l.getD j 0≤9223372036854775807)
  (hm1: -9223372036854775808≤most) (hm2:most≤9223372036854775807):
  Calls Tryz.prog 124 #[.slice A l.length c,.int .i64 most] w fun e w'=>∃A' c',e=.returned (.tuple #[.slice A' (lenO l most) c',.int .i64 (askE l most)])∧Below w.heap.size w w'∧RdB w' w'.heap.size A' (lenO l most) (outL l most)∧lenO l most≤c'∧c'≤1000∧(A'=none→c'=0)∧(∀b o,A'=some ⟨b,o,none⟩→w.heap.size≤b):=by
 have HCK:=Lib.hid (check4_any w A c l most hr hn hm1 hm2 hb)
 have HR:=Lib.hid hr;have HBD:=Lib.hid hb
 by_cases hz:chk4 l most=0
 ·obtain⟨k1,k2,k3,k4,k5⟩:=chk_right hz
  have HORD:=order_any w A c l hr ⟨by omega,fun j hj=>(k4 j hj).1⟩ hb
  obtain⟨N,hN⟩:∃N,N=l.length:=⟨_,rfl⟩
  obtain⟨n,hnn⟩:∃n,n=nI (freqN l) l.length:=⟨_,rfl⟩
  obtain⟨L,hL⟩:∃L:Nat,most=(L:Int):=⟨most.toNat,by omega⟩
  subst hL
  rw[Int.toNat_natCast,←hnn]at k5
  rw[hz]at HCK
  rw[←hnn,←hN]at HORD
  rw[←hN]at HCK k3⊢
  obtain⟨E,hE⟩:∃E,E=askE l (L:Int):=⟨_,rfl⟩
  obtain⟨lo,hlo⟩:∃lo,lo=lenO l (L:Int):=⟨_,rfl⟩
  obtain⟨ol,hol⟩:∃ol,ol=outL l (L:Int):=⟨_,rfl⟩
  rw[←hE,←hlo,←hol]
  have HEE:=Lib.hid hE;have HLO:=Lib.hid hlo;have HOL:=Lib.hid hol;have HN:=Lib.hid hN;have HNN:=Lib.hid hnn;have HK4:=Lib.hid k4;have HK5:=Lib.hid k5
  have HOR:=Lib.hid HORD
  have hL1:1≤L:=by omega
  have hL2:L≤15:=by omega
  have hnN:n≤N:=by rw[hnn,hN];exact nI_le _ _
  obtain⟨Q,hQ⟩:∃Q,Q=2^L:=⟨_,rfl⟩
  have hQ15:Q≤2^15:=by rw[hQ];exact Nat.pow_le_pow_right (by decide) hL2
  have hQ32:Q≤32768:=hQ15
  have hcast:((2:Int)^L)=(Q:Int):=by rw[hQ,Int.natCast_pow];rfl
  have hsh:wrap64 ((2:Int)^L)=(Q:Int):=by rw[hcast];unfold wrap64;omega
  have HQ:=Lib.hid hQ
  clear hr hb hz hE hlo hol hN hnn k4 k5 HORD _hc hn hQ hQ15 hcast
  by_cases hmany:Q<n
  ·have hmi:(Q:Int)<(n:Int):=by omega
   have hmd:decide ((Q:Int)<(n:Int))=true:=decide_eq_true hmi
   go_enter Tryz.func124,Tryz.ntmps124
   go_wp2_with (first
    |(go_at_call 166;refine HCK.out.mono ?_;rintro e w1 ⟨rfl,rfl⟩)
    |(go_at_call 167;refine HOR.out.mono ?_;rintro e w2 ⟨A1,c1,rfl,hb1,hr1⟩;have HB1:=Lib.hid hb1;have HR1:=Lib.hid hr1;clear hb1 hr1))
   go_ret2
   have he:E=4:=by rw[HEE.out,HK5.out,if_pos (by rw[←HQ.out];exact hmany)]
   have hl0:lo=0:=by rw[HLO.out];unfold lenO;rw[←HEE.out,he,if_neg (by decide)]
   rw[he,hl0,HOL.out]
   exact⟨none,0,rfl,HB1.out,⟨fun j=>outL_lt l _ j,fun h=>absurd h (by omega)⟩,by omega,by omega,fun _=>rfl,fun _ _ e=>by cases e⟩
  ·have hmi:¬(Q:Int)<(n:Int):=by omega
   have hmd:decide ((Q:Int)<(n:Int))=false:=decide_eq_false hmi
   have hnQ:n≤2^L:=by rw[←HQ.out];omega
   have he:E=0:=by rw[HEE.out,HK5.out,if_neg (by omega)]
   have hl0:lo=N:=by rw[HLO.out];unfold lenO;rw[←HEE.out,he,if_pos rfl,←HN.out]
   have hol0:∀j,ol j=lenB (freqN l) N L j:=fun j=>by rw[HOL.out];unfold outL;rw[←HEE.out,he,if_pos rfl,←HN.out,Int.toNat_natCast]
   have HOE:=Lib.hid hol0;have HNQ:=Lib.hid hnQ
   subst he;subst hl0
   have hmk:=make_u8 lo (by omega)
   clear hmany hol0 hnQ
   by_cases h2:2≤n
   ·have hn1:((n:Int)==1)=false:=by simp;omega
    have hn2:(1:Int)<(n:Int):=by omega
    have hn2d:decide ((1:Int)<(n:Int))=true:=decide_eq_true hn2
    have HNL:=Lib.hid (show n=nI (freqN l) lo by rw[HN.out];exact HNN.out)
    go_enter Tryz.func124,Tryz.ntmps124
    go_wp2_with (first
     |(go_at_call 166;refine HCK.out.mono ?_;rintro e w1 ⟨rfl,rfl⟩)
     |(go_at_call 167;refine HOR.out.mono ?_;rintro e w2 ⟨A1,c1,rfl,hb1,hr1⟩;have HBU:=Lib.hid (show Below w1.heap.size w1 (w2.alloc (.cells (madeCells #[.int .u8 0] lo) 5))from hb1.alloc hb1.size _);have HRU:=Lib.hid (((HR.out.below HBU.out (Nat.le_refl _)).more HBU.out.size));have HR1:=Lib.hid ((hr1.below ((Below.refl w2.heap.size w2).alloc (Nat.le_refl _) (.cells (madeCells #[.int .u8 0] lo) 5)) (Nat.le_refl _)).more (by simp:w2.heap.size≤(w2.alloc (.cells (madeCells #[.int .u8 0] lo) 5)).heap.size));have HROW:=Lib.hid (rowW_made w2 lo);have hsz1:=hb1.size;clear hb1 hr1;have HPRC:=Lib.hid (parcels_any _ A c l HRU.out A1 c1 (itemsL (freqN l) lo) HR1.out (fun j hj=>by have h:=rank_of (F:=freqN l) (n:=lo) (r:=j) (by rw[←items_length];exact hj);have h2:=h.2.1;rw[HN.out]at h2⊢;exact h2) lo n HN.out (by rw[items_length];exact HNL.out) (by omega) HK4.out))
     |(go_at_call 170;refine HPRC.out.mono ?_;rintro e w3 ⟨A3,c3,rfl,hb3,hc3,hA3,hr3⟩;have HB3:=Lib.hid hb3;have HC3:=Lib.hid hc3;have HA3:=Lib.hid hA3;have HR3:=Lib.hid hr3;clear hb3 hc3 hA3 hr3;have HRWS:=Lib.hid (rows_any w3 _ A3 c3 n (itemW (freqN l) lo) (fun t=>(((itemsL (freqN l) lo).getD t 0:Nat):Int)) HR3.out HB3.out.size HC3.out HA3.out L hL1 hL2 h2 (by omega) (fun i hi=>by have h:=rank_of (F:=freqN l) (n:=lo) (r:=i) (by rw[←HNL.out];exact hi);have h2:=HK4.out _ (by rw[←HN.out];exact h.2.1);show(l.getD ((itemsL (freqN l) lo).getD i 0) 0).toNat≤_;omega)))
     |(go_at_call 169;refine HRWS.out.mono ?_;rintro e w4 ⟨A4,c4,rfl,hb4,hr4⟩;have HB4:=Lib.hid hb4;have HR4:=Lib.hid hr4;clear hb4 hr4))
    have hT:(2*(n:Int)-2)=((2*n-2:Nat):Int):=by omega
    rw[hT]
    have hs3:=HB3.out.size
    have hs4:=HB4.out.size
    have hu1:(w2.alloc (.cells (madeCells #[.int .u8 0] lo) 5)).heap.size=w2.heap.size+1:=by simp
    have b4:Below (w2.alloc (.cells (madeCells #[.int .u8 0] lo) 5)).heap.size (w2.alloc (.cells (madeCells #[.int .u8 0] lo) 5)) w4:=HB3.out.trans (HB4.out.mono hs3)
    have hrow4:RowW w4 w2.heap.size lo (cntY (freqN l) lo (fun _=>0)):=(HROW.out.below b4 (by omega)).ext (fun s _=>by unfold cntY;split<;>rfl)
    have hcnt:=count4_any w4 w2.heap.size lo lo (freqN l) hrow4 (w2.alloc (.cells (madeCells #[.int .u8 0] lo) 5)).heap.size A4 c4 n L HNL.out h2 hL1 hL2 HNQ.out (by omega) (by omega) HR4.out (2*n-2) rfl
    have HCNT:=Lib.hid hcnt
    clear hcnt hrow4 hT
    refine HCNT.out.mono ?_
    rintro e w5 ⟨rfl,hb5,hr5⟩
    have HB5:=Lib.hid hb5;have HR5:=Lib.hid hr5
    clear hb5 hr5
    go_wp2
    go_ret2
    have hr:=HR5.out.ext (f':=ol) (fun j _=>(HOE.out j).symm)
    exact⟨_,_,rfl,(HBU.out.trans (b4.mono HBU.out.size)).trans (HB5.out.mono hsz1),hr.rd (fun j=>by rw[HOL.out];exact outL_lt l _ j),Nat.le_refl _,by omega,(fun h=>by cases h),(fun _ _ e=>by injection e with e;injection e with e1;omega)⟩
   ·have HNL:=Lib.hid (show n=nI (freqN l) lo by rw[HN.out];exact HNN.out)
    by_cases h1:n=1
    ·have H1:=Lib.hid h1
     have hn1:((n:Int)==1)=true:=by simp;omega
     have hn2:¬(1:Int)<(n:Int):=by omega
     have hn2d:decide ((1:Int)<(n:Int))=false:=decide_eq_false hn2
     have hn0:0<n:=by omega
     have hlt:=rank_of (F:=freqN l) (n:=lo) (r:=0) (by have:=HNL.out;omega)
     obtain⟨s,hs⟩:∃s,s=(itemsL (freqN l) lo).getD 0 0:=⟨_,rfl⟩
     have hsN:s<lo:=by rw[hs];exact hlt.2.1
     have HS:=Lib.hid hs
     clear hs hlt h2 h1
     go_enter Tryz.func124,Tryz.ntmps124
     go_wp2_with (first
      |(go_at_call 166;refine HCK.out.mono ?_;rintro e w1 ⟨rfl,rfl⟩)
      |(go_at_call 167;refine HOR.out.mono ?_;rintro e w2 ⟨A1,c1,rfl,hb1,hr1⟩;have hj1:=hr1;obtain⟨b,o,rfl,hbl,hcc⟩:=hj1.at (k:=0) (by have h:=HNL.out;rw[natsI_length,items_length,←h];exact hn0);have c0:=hcc 0 (by have h:=HNL.out;rw[natsI_length,items_length,←h];exact hn0);rw[natsI_get,←HS.out,Nat.add_zero]at c0;have HB1:=Lib.hid hb1;have hsz1:=hb1.size;have hmade:=(rowW_made w2 lo).cell hsN;have hfz:=(rowW_made w2 lo).frozen s;clear hj1 hcc hb1 hr1))
     go_ret2
     have hr:=(rowW_one w2 lo s).ext (f':=ol) (fun j hj=>by rw[HOE.out j,HS.out];exact(len_one (HNL.out.symm.trans H1.out) hj).symm)
     exact⟨_,_,rfl,HB1.out.alloc hsz1 _,hr.rd (fun j=>by rw[HOL.out];exact outL_lt l _ j),Nat.le_refl _,by omega,(fun h=>by cases h),(fun _ _ e=>by injection e with e;injection e with e1;omega)⟩
    ·have h0:n=0:=by omega
     have H0:=Lib.hid h0
     have hn1:((n:Int)==1)=false:=by simp;omega
     have hn2:¬(1:Int)<(n:Int):=by omega
     have hn2d:decide ((1:Int)<(n:Int))=false:=decide_eq_false hn2
     clear h0 h1 h2
     go_enter Tryz.func124,Tryz.ntmps124
     go_wp2_with (first
      |(go_at_call 166;refine HCK.out.mono ?_;rintro e w1 ⟨rfl,rfl⟩)
      |(go_at_call 167;refine HOR.out.mono ?_;rintro e w2 ⟨A1,c1,rfl,hb1,hr1⟩;have HB1:=Lib.hid hb1;have hsz1:=hb1.size;clear hb1 hr1))
     go_ret2
     have hr:=(rowW_made w2 lo).ext (f':=ol) (fun j hj=>by rw[HOE.out j];exact(len_none (HNL.out.symm.trans H0.out) hj).symm)
     exact⟨_,_,rfl,HB1.out.alloc hsz1 _,hr.rd (fun j=>by rw[HOL.out];exact outL_lt l _ j),Nat.le_refl _,by omega,(fun h=>by cases h),(fun _ _ e=>by injection e with e;injection e with e1;omega)⟩
 ·have hck:=HCK.out
  have hae:=ask_of_chk hz
  have hE0:askE l most≠0:=by rw[hae];exact hz
  obtain⟨N,hN⟩:∃N,N=l.length:=⟨_,rfl⟩
  obtain⟨E,hE⟩:∃E,E=askE l most:=⟨_,rfl⟩
  rw[←hae,←hE,←hN]at hck
  have hl0:lenO l most=0:=by unfold lenO;rw[if_neg hE0]
  rw[hl0,←hE,←hN]
  have HOL:=Lib.hid (outL_lt l most)
  obtain⟨ol,hol⟩:∃ol,ol=outL l most:=⟨_,rfl⟩
  rw[←hol]at HOL⊢
  have hEb:E≠0:=by rw[hE];exact hE0
  have hEd:(E==0)=false:=by simpa using hEb
  have HC:=Lib.hid hck
  clear hck hr hb hz hE hN hol hae hE0 hl0 HCK HR HBD _hc hn hEb
  go_enter Tryz.func124,Tryz.ntmps124
  go_wp2_with (go_at_call 166;refine HC.out.mono ?_;rintro e w1 ⟨rfl,rfl⟩)
  go_ret2
  exact⟨none,0,rfl,Below.refl _ _,⟨HOL.out,fun h=>absurd h (by omega)⟩,by omega,by omega,fun _=>rfl,fun _ _ e=>by cases e⟩
end Go.Proofs.YtgokdgcmkcmjeaaGreat
namespace Go.Proofs.YtgokdgcmkcmjeaaGreat
open Go.RowKit Go.ChangeShapes Go.WideShapes Go.ChangeAt Go.Joins
theorem cutN_least(f:Nat→Nat)(least:Nat):∀n,n≤least→cutN f least n=least
 |0,_=>rfl
 |k+1,h=>by simp only[cutN];rw[if_neg (by omega)];exact cutN_least f least k (by omega)
theorem cut11_any(w:World)(A:Option Addr)(n c:Nat)(f:Nat→Nat)(least:Nat)(hr:RdB w w.heap.size A n f)(hnc:n≤c)(hn:n≤1000)(hl:least≤n):
  Calls Tryz.prog 125 #[.slice A n c,.int .i64 (least:Int)] w fun e w'=>e=.returned (.slice A (cutN f least n) c)∧w=w':=by
 have HR:=Lib.hid hr
 obtain⟨C,hC⟩:∃C,C=cutN f least n:=⟨_,rfl⟩
 rw[←hC]
 have HC:=Lib.hid hC
 clear hr hC
 go_enter Tryz.func125,Tryz.ntmps125
 go_wp2_with fail
 go_loopw [5] (fun nv wr=>∃k:Nat,least≤k∧k≤n∧nv=.int .i64 (k:Int)∧Hid (C=cutN f least k)∧w=wr) (fun nv _=>(intOf nv).toNat)
 case atStart=>exact⟨n,hl,Nat.le_refl _,rfl,HC,rfl⟩
 case round=>
  obtain⟨k,hk1,hk2,rfl,HK,rfl⟩:=hrel
  by_cases h1:least<k
  ·have hi1:(least:Int)<(k:Int):=by omega
   obtain⟨b,o,rfl,hb,hc⟩:=HR.out.2 (by omega)
   obtain⟨j,rfl⟩:∃j,k=j+1:=⟨k-1,by omega⟩
   have c1:=hc j (by omega)
   have hj:((j+1:Nat):Int)-1=(j:Int):=by omega
   have hjn:(j:Int)<(n:Int):=by omega
   obtain⟨x,hx⟩:∃x,x=f j:=⟨_,rfl⟩
   have hxl:x<256:=by rw[hx];exact HR.out.1 j
   rw[←hx]at c1
   have HX:=Lib.hid hx
   clear hc hx
   by_cases h2:x=0
   ·subst h2
    have hcn:C=cutN f least j:=by
     rw[HK.out];simp only[cutN];rw[if_neg (by rw[←HX.out];omega)]
    have HCN:=Lib.hid hcn
    clear hcn
    go_wp2
    go_roundw
    case rel=>exact⟨j,by omega,by omega,by go_num,HCN,trivial⟩
    case measure=>simp[intOf]
   ·have hxi:((x:Int)==0)=false:=by rw[beq_eq_false_iff_ne];omega
    have hcn:C=j+1:=by
     rw[HK.out];simp only[cutN];rw[if_pos ⟨by omega,by rw[←HX.out];exact h2⟩]
    subst hcn
    have hjc:((j+1:Nat):Int)≤(c:Int):=by omega
    have hjc2:j+1≤c:=by omega
    go_wp2
    go_ret
    exact⟨rfl,rfl⟩
  ·obtain rfl:k=least:=by omega
   have hi1:¬(k:Int)<(k:Int):=by omega
   have hcn:C=k:=by rw[HK.out];exact cutN_least f k k (Nat.le_refl _)
   subst hcn
   have hjc:(C:Int)≤(c:Int):=by omega
   have hjc2:C≤c:=by omega
   go_wp2
   go_ret
   exact⟨rfl,rfl⟩
end Go.Proofs.YtgokdgcmkcmjeaaGreat
namespace Go.Proofs.YtgokdgcmkcmjeaaGreat
open Go.RowKit Go.ChangeShapes Go.WideShapes Go.ChangeAt Go.Joins
theorem index_ord(T:Nat→Int){k:Nat}(hk:k<19)(w:World):(Instr.index 213 (.agg (tblA T 19)) (.int .i64 (k:Int))).run Tryz.prog w=.ok (.int .i64 (T k)) w:=by
 have hce:Tryz.prog.cellsOf 3=1:=by kernel_rfl
 have hg:=tblA_get T 19 k hk
 simp[Instr.index,run_underlying Tryz.underlying213,asIntOf,go_sem]
 rw[if_pos hk,hg];rfl
theorem infoShort:(Tryz.prog.info? 212).map (fun i=>(i.zero,i.size))=some (some (.agg (bytesL 19 (fun _=>0)).toArray),19):=by kernel_rfl
theorem ordered_any(w:World)(A:Option Addr)(c:Nat)(f:Nat→Nat)(hr:RdB w w.heap.size A 19 f):
  Calls Tryz.prog 128 #[.slice A 19 c] w fun e w'=>e=.returned (.slice (some ⟨w.heap.size,0,none⟩) (cutN (fun i=>f (ordN i)) 4 19) 19)∧RowA w' w.heap.size 19 (fun i=>f (ordN i))∧Below w.heap.size w w':=by
 obtain⟨C,hC⟩:∃C,C=cutN (fun i=>f (ordN i)) 4 19:=⟨_,rfl⟩
 rw[←hC]
 have HC:=Lib.hid hC
 clear hC
 have hz:=(zero_of_info infoShort).1
 obtain⟨Z,hZ⟩:∃Z,Z=(bytesL 19 (fun _=>0)).toArray:=⟨_,rfl⟩
 rw[←hZ]at hz
 obtain⟨h,hh⟩:∃h,h=w.heap.size:=⟨_,rfl⟩
 obtain⟨W1,hW1⟩:∃W,W=w.alloc (.cells Z 212):=⟨_,rfl⟩
 have hb1:Below h w W1:=by rw[hW1,hh];exact(Below.refl _ _).alloc (Nat.le_refl _) _
 have hr1:RowA W1 h 19 (fun _=>0):=⟨Z,212,by rw[hW1,hh];exact heap_alloc_new w _,fun j hj=>by rw[hZ,List.getElem?_toArray,bytesL_get,if_pos hj]⟩
 rw[←hh]at hr⊢
 obtain⟨T,hT⟩:∃T:Nat→Int,T=fun i=>(ordN i:Int):=⟨_,rfl⟩
 have hord:=order_con W1
 rw[←hT]at hord
 have HORD:=Lib.hid hord;have HR:=Lib.hid hr;have HB1:=Lib.hid hb1;have HR1:=Lib.hid hr1;have HW1:=Lib.hid hW1;have HH:=Lib.hid hh;have HT:=Lib.hid hT
 clear hord hr hb1 hr1 hW1 hh hT hZ
 go_enter Tryz.func128,Tryz.ntmps128
 go_wp2_with (first|rw[←HW1.out,←HH.out]|fail)
 refine HORD.out.mono ?_
 rintro e w2 ⟨rfl,hb2⟩
 have hlt1:=HR1.out.lt
 have HB2:=Lib.hid (HB1.out.trans (hb2.mono (by omega)));have HR2:=Lib.hid (HR1.out.below hb2 hlt1)
 clear hb2 hlt1
 go_wp2_with fail
 go_loopw [7] (fun iv wr=>∃i:Nat,i≤19∧iv=.int .i64 (i:Int)∧Hid (RowA wr h 19 (fun j=>if j<i then f (ordN j)else 0))∧Hid (Below h w wr)) (fun iv _=>19-(intOf iv).toNat)
 case atStart=>exact⟨0,by omega,rfl,Lib.hid (by simpa using HR2.out),HB2⟩
 case round=>
  obtain⟨i,hi,rfl,HRW,HB⟩:=hrel
  by_cases hlt:i<19
  ·have hlti:(i:Int)<19:=by omega
   have hix:=fun u=>index_ord T hlt u
   have hTi:T i=((ordN i:Nat):Int):=by rw[HT.out]
   rw[hTi]at hix
   have hol:=ord_lt i
   obtain⟨q,hq⟩:∃q,q=ordN i:=⟨_,rfl⟩
   rw[←hq]at hix hol
   obtain⟨b,o,rfl,hb,hc⟩:=HR.out.2 (by omega)
   have k1:=(HB.out.cell (p:=⟨b,o+q,none⟩) hb).trans (hc q hol)
   have hfl:=HR.out.1 q
   obtain⟨x,hx⟩:∃x,x=f q:=⟨_,rfl⟩
   rw[←hx]at k1 hfl
   have z1:=HRW.out.frozen i
   have c1:=HRW.out.cell hlt
   have hql:(q:Int)<19:=by omega
   have hs:=HRW.out.set i x
   have e:upd (fun j=>if j<i then f (ordN j)else 0) i x=fun j=>if j<i+1 then f (ordN j)else 0:=by
    funext j;unfold upd
    by_cases h1:j=i
    ·rw[if_pos h1,if_pos (by omega),h1,hx,hq]
    ·rw[if_neg h1]
     show(if j<i then f (ordN j)else 0)=_
     by_cases h2:j<i
     ·rw[if_pos h2,if_pos (by omega)]
     ·rw[if_neg h2,if_neg (by omega)]
   rw[e]at hs
   have HS:=Lib.hid hs
   have hhl:h<wr.heap.size:=HRW.out.lt
   have hle:w.heap.size≤h:=by rw[HH.out];exact Nat.le_refl _
   clear hs e hx hq hTi hc
   go_wp2
   go_roundw
   case rel=>exact⟨i+1,by omega,by go_num,HS,Lib.hid (HB.out.setCell (Nat.le_refl _) _)⟩
   case measure=>simp[intOf];omega
  ·obtain rfl:i=19:=by omega
   have hlti:¬((19:Nat):Int)<19:=by omega
   have hrd:RdB wr wr.heap.size (some ⟨h,0,none⟩) 19 (fun i=>f (ordN i)):=⟨fun j=>HR.out.1 _,fun _=>⟨h,0,rfl,HRW.out.lt,fun j hj=>by rw[Nat.zero_add,HRW.out.cell hj,if_pos hj]⟩⟩
   have hct:=cut11_any wr (some ⟨h,0,none⟩) 19 19 (fun i=>f (ordN i)) 4 hrd (Nat.le_refl _) (by omega) (by omega)
   rw[←HC.out]at hct
   have HCT:=Lib.hid hct
   have HRF:Hid (RowA wr h 19 (fun i=>f (ordN i))):=by
    obtain⟨cur,t,h1,h2⟩:=HRW.out
    exact Lib.hid ⟨cur,t,h1,fun j hj=>by rw[h2 j hj];show some (Value.int .u8 (((if j<19 then f (ordN j)else 0:Nat)):Int))=_;rw[if_pos hj]⟩
   clear hct hrd
   go_wp2_with fail
   refine HCT.out.mono ?_
   rintro e w3 ⟨rfl,rfl⟩
   go_wp2
   go_ret
   exact⟨rfl,HRF.out,HB.out⟩
end Go.Proofs.YtgokdgcmkcmjeaaGreat
namespace Go.Proofs.YtgokdgcmkcmjeaaGreat
open Go.RowKit
theorem shG_lt(g:Nat→Nat)(L:Nat)(s:Rz):∀i j,shG g L s i j<256
 |0,_=>by unfold shG nof13;omega
 |i+1,j=>by
  unfold shG upd
  split
  ·have:=tkV_lt g L 3 (shS L s i);have e:(2:Nat)^3=8:=rfl;omega
  ·exact shG_lt g L s i j
theorem infoOrd13:(Tryz.prog.info? 213).map (fun i=>(i.zero,i.size))=some (some (.agg (tblA (fun _=>0) 19)),19):=by kernel_rfl
theorem szOrd13{Y:Array Value}(h:Y.size=19):(Tryz.prog.info? 213).map (·.size)=some Y.size:=by rw[h];exact(zero_of_info infoOrd13).2
def Two(a b:Nat):Nat→Prop:=fun k=>k=a∨k=b
theorem pshorts_any(w:World)(p:Nat)(A:Option Addr)(l c:Nat)(g:Nat→Nat)(s:Rz)(h:Rdr w p A l c s)(S:Nat→Prop)(hS:S p)(hSw:∀j,S j→j<w.heap.size)(hg:RdF S w A l g)(hl:l≤1000000)(hs:s.1≤8*l)(n:Nat)(hn:n≤19):
  Calls Tryz.prog 97 #[.pointer (some ⟨p,0,none⟩),.int .i64 (n:Int)] w fun e w'=>∃u,e=.returned (.agg (trA (grC (shG g l s n) 19 7) u))∧
   Rdr w' p A l c (wantS (gwS (shG g l s n) 19 7 (shS l s n)) (decide (2≤(((grS (shG g l s n) 19 7).length:Nat):Int))) 132)∧OwnS w' w.heap.size u (grS (shG g l s n) 19 7)∧Fr (At p) w w':=by
 have hp:=h.lt
 obtain⟨k,hk⟩:∃k,k=w.heap.size:=⟨_,rfl⟩
 obtain⟨Z,hZ⟩:∃Z,Z=trA (fun _=>0) (.slice none 0 0):=⟨_,rfl⟩
 obtain⟨Z2,hZ2⟩:∃Z,Z=(bytesL 19 (fun _=>0)).toArray:=⟨_,rfl⟩
 obtain⟨Z3,hZ3⟩:∃Z,Z=tblA (fun _=>0) 19:=⟨_,rfl⟩
 obtain⟨W1,hW1⟩:∃W1,W1=(w.alloc (.cells Z 26)).alloc (.cells Z2 212):=⟨_,rfl⟩
 have hb1:Below k w W1:=by rw[hW1,hk];exact((Below.refl _ _).alloc (Nat.le_refl _) _).alloc (by simp) _
 have hs1:W1.heap.size=k+2:=by rw[hW1,hk];simp
 have z1:BoxC W1 k Z 26:=by rw[hW1,hk];exact(BoxC.new w _ _).old _
 have y1:BoxC W1 (k+1) Z2 212:=by rw[hW1,hk];have:=BoxC.new (w.alloc (.cells Z 26)) Z2 212;rwa[World.size_alloc]at this
 have hr1:RowA W1 (k+1) 19 (shG g l s 0):=⟨Z2,212,y1,fun j hj=>by rw[hZ2,List.getElem?_toArray,bytesL_get,if_pos hj];rfl⟩
 have h1:Rdr W1 p A l c s:=BoxC.below h hb1 (by omega)
 have fW:∀T:Nat→Prop,Fr T w W1:=fun T=>Fr.of (hk▸hb1)
 have hzb:∀u:World,(zeroValue 26).run Tryz.prog u=.ok (.agg Z) u:=by rw[hZ];exact(zero_of_info infoTree13).1
 have hzc:∀u:World,(zeroValue 212).run Tryz.prog u=.ok (.agg Z2) u:=by rw[hZ2];exact(zero_of_info infoShort).1
 have hzd:∀u:World,(zeroValue 213).run Tryz.prog u=.ok (.agg Z3) u:=by rw[hZ3];exact(zero_of_info infoOrd13).1
 have HZS:Hid (Z.size=17):=Lib.hid (by rw[hZ,trA_size])
 have HZ3S:Hid (Z3.size=19):=Lib.hid (by rw[hZ3,tblA_size])
 obtain⟨T,hT⟩:∃T:Nat→Int,T=fun i=>(ordN i:Int):=⟨_,rfl⟩
 have hord:=order_con W1
 rw[←hT]at hord
 obtain⟨Y,hY⟩:∃Y,Y=tblA T 19:=⟨_,rfl⟩
 rw[←hY]at hord
 have HYS:Hid (Y.size=19):=Lib.hid (by rw[hY,tblA_size])
 have HYO:Hid (Y.all (·.oneCell')=true):=Lib.hid (by rw[hY];exact all_oneCell_toArray fun x hx=>by unfold tblL at hx;obtain⟨i,_,rfl⟩:=List.mem_map.1 hx;rfl)
 have HYG:Hid (∀i,i<19→Y[i]?=some (.int .i64 ((ordN i:Nat):Int))):=Lib.hid fun i hi=>by rw[hY,tblA_get T 19 i hi,hT]
 have HORD:=Lib.hid hord;have HW1:=Lib.hid hW1;have HK:=Lib.hid hk;have HS1:=Lib.hid hs1;have HZ1:=Lib.hid z1;have HR1:=Lib.hid hr1;have HD1:=Lib.hid h1;have HG0:=Lib.hid hg;have HF1:=Lib.hid (fW (At p))
 have HP:Hid (p<k):=Lib.hid (by omega)
 have HSP:Hid (S p∧∀j,S j→j<k):=Lib.hid ⟨hS,by rw[hk];exact hSw⟩
 clear h hg hZ hZ2 hZ3 hW1 hk hb1 hs1 z1 y1 hr1 h1 fW hT hord hY hp hS hSw
 go_enter Tryz.func97,Tryz.ntmps97
 go_wp2_with (first|(rw[←HW1.out,←HK.out])|fail)
 refine HORD.out.mono ?_
 rintro e w2 ⟨rfl,hb2⟩
 obtain⟨o,ho⟩:∃o,o=w2.heap.size:=⟨_,rfl⟩
 obtain⟨W3,hW3⟩:∃W,W=mkV w2 Z3 Y 213:=⟨_,rfl⟩
 have hb3:Below w2.heap.size w2 W3:=by rw[hW3];exact mkV_below _ _ _ _
 have y3:BoxC W3 o Y 213:=by rw[hW3,ho];exact mkV_row w2 Z3 Y _
 have hsz:k+2≤o:=by have:=hb2.size;rw[HS1.out]at this;rw[ho];exact this
 have hb13:Below W1.heap.size W1 W3:=hb2.trans (hb3.mono hb2.size)
 have HD3:=Lib.hid (BoxC.below HD1.out hb13 HD1.out.lt:Rdr W3 p A l c s)
 have HR3:=Lib.hid (HR1.out.below hb13 HR1.out.lt)
 have HZ3:=Lib.hid (HZ1.out.below hb13 HZ1.out.lt)
 have HF3:=Lib.hid (HF1.out.on hb13)
 have HS3:Hid (o<W3.heap.size):=Lib.hid y3.lt
 have HW3:=Lib.hid hW3;have HO:=Lib.hid ho;have HY3:=Lib.hid y3;have HOK:=Lib.hid hsz
 clear hb2 hW3 ho hb3 y3 hsz hb13 HD1 HR1 HZ1 HF1
 have hni:(n:Int)≤19:=by omega
 go_wp2_with (first
  |(refine wpList_store_rowTo rfl _ _ _ rfl rfl w2.heap.size Y rfl rfl 213 Z3 (heap_alloc_new w2 _) (szOrd13 HYS.out) (by rw[HZ3S.out,HYS.out]) HYO.out ?_;change wpList _ _ _ _ _ (mkV w2 Z3 Y 213);rw[←HW3.out,←HO.out])
  |fail)
 go_loopw [14] (fun iv wr=>∃i:Nat,i≤n∧iv=.int .i64 (i:Int)∧Hid (RowA wr (k+1) 19 (shG g l s i))∧Hid (Rdr wr p A l c (shS l s i))∧Hid (Fr (Two p (k+1)) W3 wr)) (fun iv _=>n-(intOf iv).toNat)
 case atStart=>exact⟨0,by omega,rfl,HR3,HD3,Lib.hid (Fr.refl _ _)⟩
 case round=>
  obtain⟨i,hi,rfl,HRW,HDW,HFW⟩:=hrel
  have HOW:=Lib.hid (HY3.out.fr HFW.out (by have:=HOK.out;have:=HP.out;show¬(o=p∨o=k+1);omega))
  by_cases hlt:i<n
  ·have hlti:(i:Int)<(n:Int):=by omega
   have k1:=HOW.out.cell (i:=i)
   rw[HYG.out i (by omega)]at k1
   have hol:=ord_lt i
   have hsi:shG g l s (i+1)=upd (shG g l s i) (ordN i) (tkV g l 3 (shS l s i)):=rfl
   have hss:shS l s (i+1)=tkS l 3 (shS l s i):=rfl
   obtain⟨q,hq⟩:∃q,q=ordN i:=⟨_,rfl⟩
   rw[←hq]at k1 hol hsi
   obtain⟨x,hx⟩:∃x,x=tkV g l 3 (shS l s i):=⟨_,rfl⟩
   rw[←hx]at hsi
   have hx8:x<8:=by rw[hx];exact tkV_lt _ _ _ _
   have hgw:=(HG0.out.fr ((HF3.out.mono fun j (e:j=p)=>e▸HSP.out.1).from HFW.out fun j e=>by rcases e with e|e;exact .inl (e▸HSP.out.1);exact .inr (by rw[←HK.out];omega))).1
   have HT:=Lib.hid (ptake_lit wr p A l c g _ HDW.out hgw hl (shS_in hs i) 3 3 rfl (by omega))
   rw[←hx,←hss]at HT
   have hql:(q:Int)<19:=by omega
   have HSI:=Lib.hid hsi
   clear hgw hx hq hss hsi
   go_wp2_with fail
   refine HT.out.mono ?_
   rintro e w5 ⟨rfl,r5,f5⟩
   have hkp:¬At p (k+1):=by have:=HP.out;show¬k+1=p;omega
   have hr5:RowA w5 (k+1) 19 (shG g l s i):=by obtain⟨cur,t,e,hc⟩:=HRW.out;exact⟨cur,t,(f5.block _ HRW.out.lt hkp).trans e,hc⟩
   have z1:=hr5.frozen q
   have c1:=hr5.cell hol
   have hs5:=hr5.set q x
   rw[←HSI.out]at hs5
   have HS5:=Lib.hid hs5
   have HD5:=Lib.hid r5
   have HF5:=Lib.hid (HFW.out.trans (f5.mono fun j e=>.inl e))
   clear hs5 r5 f5 hr5 hkp HT
   go_wp2
   go_roundw
   case rel=>exact⟨i+1,by omega,by go_num,HS5,Lib.hid (BoxC.other HD5.out (by have:=HP.out;show p≠k+1;omega) _),Lib.hid (HF5.out.trans ((Fr.cell _ _ _ _).mono fun j e=>.inr e))⟩
   case measure=>simp[intOf];omega
  ·obtain rfl:i=n:=by omega
   have hlti:¬(i:Int)<(i:Int):=by omega
   have hgr:=pgrow_any wr p A l c _ HDW.out (some ⟨k+1,0,none⟩) 19 19 (shG g l s i) (HRW.out.rd (shG_lt g l s i)) (by omega) 7
   obtain⟨F,hF⟩:∃F,F=shG g l s i:=⟨_,rfl⟩
   obtain⟨q,hq⟩:∃q,q=shS l s i:=⟨_,rfl⟩
   rw[←hF,←hq]at hgr
   have HGR:=Lib.hid hgr;have HFE:=Lib.hid hF;have HQ:=Lib.hid hq
   have HZW:=Lib.hid (HZ3.out.fr HFW.out (by have:=HP.out;show¬(k=p∨k=k+1);omega))
   have HFF:=Lib.hid (HF3.out.from HFW.out fun j e=>by rcases e with e|e;exact .inl e;exact .inr (by rw[←HK.out];omega):Fr (At p) w wr)
   have HKW:Hid (k+2≤wr.heap.size):=Lib.hid (by have:=HFW.out.size;have:=HOK.out;have:=HS3.out;omega)
   clear hgr hF hq HRW HDW HFW HOW
   go_wp2_with fail
   refine HGR.out.mono ?_
   rintro e w5 ⟨u,rfl,r5,o5,f5⟩
   obtain⟨X,hX⟩:∃X,X=trA (grC F 19 7) u:=⟨_,rfl⟩
   rw[←hX]
   have HXS:Hid (X.size=17):=Lib.hid (by rw[hX,trA_size])
   have HXO:Hid (X.all (·.oneCell')=true):=Lib.hid (by rw[hX];exact trA_one _ _ o5.one)
   obtain⟨A2,cap,hu,_,_,hmc,hcl⟩:=o5.rd
   obtain⟨m,hm⟩:∃m,m=(grS F 19 7).length:=⟨_,rfl⟩
   rw[←hm]at hu hmc
   have hX16:X[16]?=some (.slice A2 m cap):=by rw[hX,hu];rfl
   obtain⟨t,ht⟩:∃t,t=w5.heap.size:=⟨_,rfl⟩
   obtain⟨W6,hW6⟩:∃W,W=mkV w5 Z X 26:=⟨_,rfl⟩
   have hb6:Below w5.heap.size w5 W6:=by rw[hW6];exact mkV_below _ _ _ _
   have x6:BoxC W6 t X 26:=by rw[hW6,ht];exact mkV_row w5 Z X _
   have hcell:=x6.cell (i:=16)
   rw[hX16]at hcell
   have hkt:k+2≤t:=by have:=f5.size;have:=HKW.out;omega
   have HR6:=Lib.hid (BoxC.below r5 hb6 r5.lt:Rdr W6 p A l c (gwS F 19 7 q))
   have HO6:Hid (OwnS W6 wr.heap.size u (grS F 19 7)):=Lib.hid (own_keepG o5 hb6)
   have HZ6:=Lib.hid ((HZW.out.fr f5 (by have:=HP.out;show¬k=p;omega)).below hb6 (by omega))
   have HF6:=Lib.hid ((HFF.out.trans f5).on hb6)
   have HWA:=Lib.hid (pwant_any W6 p A l c _ HR6.out (decide (2≤(m:Int))) 132)
   have HW6:=Lib.hid hW6;have HT6:=Lib.hid ht;have HX6:=Lib.hid x6;have HXE:=Lib.hid hX;have HKT:=Lib.hid hkt;have HM:=Lib.hid hm
   clear r5 o5 f5 hX hu hX16 ht hW6 hb6 x6 hkt HGR HFF HKW hmc hcl hm
   go_wp2_with (first
    |(refine wpList_store_rowTo rfl _ _ _ rfl rfl w5.heap.size X rfl rfl 26 Z (heap_alloc_new w5 _) (szTree17 HXS.out) (by rw[HZS.out,HXS.out]) HXO.out ?_;change wpList _ _ _ _ _ (mkV w5 Z X 26);rw[←HW6.out,←HT6.out])
    |fail)
   refine HWA.out.mono ?_
   rintro e w7 ⟨rfl,r7,f7⟩
   have HX7:=Lib.hid (HX6.out.fr f7 (by have:=HP.out;have:=HKT.out;show¬t=p;omega))
   have HZ7:=Lib.hid (HZ6.out.fr f7 (by have:=HP.out;show¬k=p;omega))
   have hwk:k+1≤wr.heap.size:=by have:=HZW.out.lt;omega
   have HO7:=Lib.hid (HO6.out.fr f7 (fun j (e:j=p)=>by have:=HP.out;omega))
   have HR7:=Lib.hid r7;have HF7:=Lib.hid (HF6.out.trans f7)
   clear r7 f7 HWA HR6 HF6 HO6 HX6 HZ6 hwk
   go_wp2_with (first
    |(refine wpList_load_row rfl _ _ rfl t rfl _ X (0,0) _ HX7.out Tryz.underlying26 rfl (szTree17 HXS.out) ?_)
    |(refine wpList_store_rowTo rfl _ _ _ rfl rfl k X rfl rfl 26 Z HZ7.out (szTree17 HXS.out) (by rw[HZS.out,HXS.out]) HXO.out ?_)
    |fail)
   have hpk:p≠k:=by have:=HP.out;omega
   have hwk:k+1≤wr.heap.size:=by have:=HZW.out.lt;omega
   refine bodyPost_ret (v:=.agg X) (results_cell_row rfl _ _ k _ _ (0,0) _ rfl (setRow_heap _ _ _ _ _ _ HZ7.out) Tryz.underlying26 rfl (szTree17 HXS.out)) rfl ⟨u,by rw[HXE.out,HFE.out],?_,?_,?_⟩
   ·rw[←HFE.out,←HQ.out,←HM.out];exact BoxC.rowO HR7.out hpk _
   ·rw[←HK.out,←HFE.out];exact ownsRow_lower (own_blk HO7.out fun j hj=>setRow_other _ _ _ _ (by have:=(own_blk_lt HO7.out j hj).1;omega)) (by omega)
   ·exact HF7.out.from (Fr.row w7 k X) fun j hj=>.inr (by rw[←HK.out];exact Nat.le_of_eq hj.symm)
end Go.Proofs.YtgokdgcmkcmjeaaGreat
namespace Go.Proofs.YtgokdgcmkcmjeaaGreat
open Go.RowKit Go.ChangeShapes Go.WideShapes Go.ChangeAt Go.Joins
theorem lnS_end{F g:Nat→Nat}{L n:Nat}:∀{k made:Nat} {l:List (Int×Int)} {s:Rz},¬(made<n∧s.2=0)→lnS F g L n k made l s=(l,s)
 |0,_,_,_,_=>rfl
 |k+1,_,_,_,h=>by unfold lnS;rw[if_neg h]
theorem lnS_on{F g:Nat→Nat}{L n k made:Nat}{l:List (Int×Int)}{s:Rz}(h:made<n∧s.2=0):lnS F g L n (k+1) made l s=lnS F g L n k (made+ruT F g L s) (l++[((ruY F g L s:Int),(ruX F g L s:Int))]) (ruE F g L n made s):=by
 rw[lnS,if_pos h]
theorem timesR_in{y x:Nat}(hx:x<128):1≤timesR (y:Int) (x:Int)∧timesR (y:Int) (x:Int)≤138:=by
 unfold timesR;split
 ·omega
 ·split<;>omega
theorem ruX_lt(F g:Nat→Nat)(L:Nat)(s:Rz):ruX F g L s<128:=by
 have h:=tkV_lt g L (bitsR (ruY F g L s:Int)) (ruS1 F g L s)
 have h2:(2:Nat)^(bitsR (ruY F g L s:Int))≤2^7:=Nat.pow_le_pow_right (by omega) (bitsR_le _)
 have h3:(2:Nat)^7=128:=rfl
 have h4:ruX F g L s=tkV g L (bitsR (ruY F g L s:Int)) (ruS1 F g L s):=rfl
 omega
theorem ruS_in{F g:Nat→Nat}{L:Nat}{s:Rz}(h:s.1≤8*L):(ruS F g L s).1≤8*L:=tkS_in (syS_in h)
theorem ruE_in{F g:Nat→Nat}{L n made:Nat}{s:Rz}(h:s.1≤8*L):(ruE F g L n made s).1≤8*L:=by unfold ruE;rw[wantS_in,wantS_in];exact ruS_in h
def UpB(p B:Nat):Nat→Prop:=fun j=>j=p∨B≤j
theorem own_fr{S:Nat→Prop}{w w':World}{base sz n:Nat}{e:TypeId}{v:Value}{xs:List Value}(h:w.ownsRow base e sz v n xs)(k:Fr S w w')(hS:∀j,S j→j<base):w'.ownsRow base e sz v n xs:=
 own_blk h fun j hj=>k.block j (own_blk_lt h j hj).2 fun hs=>by have:=hS j hs;have:=(own_blk_lt h j hj).1;omega
theorem Fr.up{w w':World}{p B:Nat}(h:Below B w w'):Fr (UpB p B) w w':=⟨h.os,h.tape,h.output,h.size,fun k _ hk=>h.block k (by rcases Nat.lt_or_ge k B with x|x;exact x;exact absurd (.inr x) hk)⟩
theorem plengths_any(w:World)(p:Nat)(A:Option Addr)(l c:Nat)(g:Nat→Nat)(s:Rz)(h:Rdr w p A l c s)(S:Nat→Prop)(hS:S p)(hSw:∀j,S j→j<w.heap.size)(hg:RdF S w A l g)(hl:l≤1000000)(hs:s.1≤8*l)(F:Nat→Nat)(ct:Nat→Int)(u:Value)(hu:u.oneCell'=true)(ht:s.2=0→TrF S w F ct u)(n:Nat)(hn:n≤400):
  Calls Tryz.prog 96 #[.pointer (some ⟨p,0,none⟩),.agg (trA ct u),.int .i64 (n:Int)] w fun e w'=>∃A' n' c',e=.returned (.slice A' n' c')∧n'=(strO (lnS F g l n n 0 [] s).1 (n:Int)).2.length∧
   ByR w' w'.heap.size A' n' c' (lst (strO (lnS F g l n n 0 [] s).1 (n:Int)).2)∧NewB w' w.heap.size A' n'∧Rdr w' p A l c (lnS F g l n n 0 [] s).2∧Fr (At p) w w':=by
 have hp:=h.lt
 obtain⟨k,hk⟩:∃k,k=w.heap.size:=⟨_,rfl⟩
 obtain⟨T,hT⟩:∃T,T=trA ct u:=⟨_,rfl⟩
 rw[←hT]
 obtain⟨R,hR⟩:∃R,R=lnS F g l n n 0 [] s:=⟨_,rfl⟩
 rw[←hR]
 obtain⟨W1,hW1⟩:∃W1,W1=w.alloc (.cells T 26):=⟨_,rfl⟩
 have hb1:Below k w W1:=by rw[hW1,hk];exact(Below.refl _ _).alloc (Nat.le_refl _) _
 have hs1:W1.heap.size=k+1:=by rw[hW1,hk];simp
 have t1:BoxC W1 k T 26:=by rw[hW1,hk];exact BoxC.new w _ _
 have fW:∀T:Nat→Prop,Fr T w W1:=fun T=>Fr.of (hk▸hb1)
 have h1:Rdr W1 p A l c s:=BoxC.below h hb1 (by omega)
 have hTS:Hid (T.size=17):=Lib.hid (by rw[hT,trA_size])
 have HR:=Lib.hid hR.symm;have HW1:=Lib.hid hW1;have HK:=Lib.hid hk;have HS1:=Lib.hid hs1;have HT1:=Lib.hid t1;have HD1:=Lib.hid h1;have HG0:=Lib.hid hg;have HT0:=Lib.hid ht;have HF1:=Lib.hid (fW (At p));have HTE:=Lib.hid hT
 have HP:Hid (p<k):=Lib.hid (by omega)
 have HSP:Hid (S p∧∀j,S j→j<k):=Lib.hid ⟨hS,by rw[hk];exact hSw⟩
 have HSZ:=Lib.hid hs;have HU:=Lib.hid hu
 clear h hg hT hR hW1 hk hb1 hs1 t1 h1 fW hp hS hSw hs ht hu
 go_enter Tryz.func96,Tryz.ntmps96
 go_wp2_with (first|(rw[←HW1.out,←HK.out])|fail)
 go_loopw [7,8] (fun lv mv wr=>∃(made m:Nat) (Al:Option Addr) (cl:Nat) (pre:List (Int×Int)) (q:Rz) (fu:Nat),made≤n+200∧m≤made∧lv=.slice Al m cl∧mv=.int .i64 (made:Int)∧Hid (lnS F g l n fu made pre q=R∧n≤fu+made)∧
  Hid (wr.ownsRow (k+1) 208 2 (.slice Al m cl) m (runsL pre))∧Hid (Rdr wr p A l c q)∧Hid (q.1≤8*l∧(q.2=0→s.2=0))∧Hid (Fr (UpB p (k+1)) W1 wr)) (fun _ mv wr=>match wr.cell? ⟨p,2,none⟩with|some (.int .i64 e)=>if e=0 then(n+300)-(intOf mv).toNat else 0|_=>0)
 case atStart=>exact⟨0,0,none,0,[],s,n,by omega,by omega,rfl,rfl,Lib.hid ⟨HR.out,by omega⟩,Lib.hid (World.ownsRow_nil _ _ _ 2),HD1,Lib.hid ⟨HSZ.out,id⟩,Lib.hid (Fr.refl _ _)⟩
 case round=>
  obtain⟨made,m,Al,cl,pre,q,fu,hmade,hmm,rfl,rfl,HL,HO,HD,HQ,HF⟩:=hrel
  have k2:=HD.out.e
  have hend:=fun(hx:¬(made<n∧q.2=0))=>(lnS_end (F:=F) (g:=g) (L:=l) (k:=fu) (l:=pre) hx).symm.trans HL.out.1
  have HFW:Hid (Fr (At p) w wr):=Lib.hid (HF1.out.from HF.out fun j e=>by rcases e with e|e;exact .inl e;exact .inr (by rw[←HK.out];omega))
  by_cases hlt:made<n∧q.2=0
  ·obtain⟨qa,qe⟩:=q
   obtain⟨hm1,rfl⟩:made<n∧qe=0:=hlt
   have hlti:(made:Int)<(n:Int):=by omega
   obtain⟨fu',rfl⟩:∃f,fu=f+1:=⟨fu-1,by have:=HL.out.2;omega⟩
   have hon:=(lnS_on (F:=F) (g:=g) (L:=l) (k:=fu') (l:=pre) (s:=(qa,0)) ⟨hm1,rfl⟩).symm.trans HL.out.1
   have hs0:=HQ.out.2 rfl
   have HGW:=Lib.hid (HG0.out.fr (HFW.out.mono fun j (e:j=p)=>e▸HSP.out.1))
   have hru:=prun_any wr p A l c g (qa,0) HD.out S HSP.out.1 HGW.out hl HQ.out.1 F ct u HU.out (fun _=>(HT0.out hs0).fr (HFW.out.mono fun j (e:j=p)=>e▸HSP.out.1))
   rw[←HTE.out]at hru
   have hx7:=ruX_lt F g l (qa,0)
   have hy9:ruY F g l (qa,0)<320:=syV_lt HQ.out.1 (by omega)
   have hEE:ruE F g l n made (qa,0)=wantS (wantS (ruS F g l (qa,0)) (decide (0<made∨ruY F g l (qa,0)≠16)) 132) (decide (made+ruT F g l (qa,0)≤n)) 132:=rfl
   have hEI:(ruE F g l n made (qa,0)).1≤8*l:=ruE_in HQ.out.1
   have hTT:ruT F g l (qa,0)=timesR (ruY F g l (qa,0):Int) (ruX F g l (qa,0):Int):=rfl
   obtain⟨y,hy⟩:∃y,y=ruY F g l (qa,0):=⟨_,rfl⟩
   obtain⟨x,hx⟩:∃x,x=ruX F g l (qa,0):=⟨_,rfl⟩
   obtain⟨q2,hq2⟩:∃x,x=ruS F g l (qa,0):=⟨_,rfl⟩
   obtain⟨q3,hq3⟩:∃x,x=ruE F g l n made (qa,0):=⟨_,rfl⟩
   obtain⟨tt,htt⟩:∃x,x=ruT F g l (qa,0):=⟨_,rfl⟩
   rw[←hy,←hx,←hq2]at hru
   rw[←hy,←htt,←hq2,←hq3]at hEE
   rw[←hx]at hx7
   rw[←hy]at hy9
   rw[←htt,←hy,←hx]at hTT
   rw[←hy,←hx,←hq3,←htt]at hon
   rw[←hq3]at hEI
   have hti:=timesR_in (y:=y) hx7
   rw[←hTT]at hti
   obtain⟨md,hmd⟩:∃x,x=made+tt:=⟨_,rfl⟩
   have hmdi:(made:Int)+(tt:Int)=(md:Int):=by omega
   rw[←hmd]at hon hEE
   have htm:=fun V=>ptimes_any V y x (by omega) (by omega)
   rw[←hTT]at htm
   have HRU:=Lib.hid hru;have HON:=Lib.hid hon;have HEE:=Lib.hid hEE;have HTM:=Lib.hid htm;have HEI:=Lib.hid hEI;have HTI:=Lib.hid hti;have HMD:=Lib.hid hmd;have HS0:=Lib.hid hs0
   have HBB:Hid ((0<made∧decide (0<made∨y≠16)=true)∨(made=0∧y=16∧decide (0<made∨y≠16)=false)∨(made=0∧¬y=16∧decide (0<made∨y≠16)=true)):=Lib.hid (by
    rcases Nat.eq_zero_or_pos made with z|z
    ·by_cases y6:y=16
     ·exact .inr (.inl ⟨z,y6,decide_eq_false (by omega)⟩)
     ·exact .inr (.inr ⟨z,y6,decide_eq_true (.inr y6)⟩)
    ·exact .inl ⟨z,decide_eq_true (.inl z)⟩)
   have HL2:=Lib.hid HL.out.2;have HK2:=Lib.hid k2
   clear hru hx7 hEE hon hEI hTT hti hmd htm hy hx hq2 hq3 htt hend HQ HL hs0 HGW
   have hmd2:md≤n+200:=by have:=HTI.out;have:=HMD.out;omega
   have hmade2:made<md:=by have:=HTI.out;have:=HMD.out;omega
   go_wp2_with (first
    |(refine wpList_load_row rfl _ _ rfl k rfl _ T (0,0) _ (HT1.out.fr HF.out (by have:=HP.out;show¬(k=p∨k+1≤k);omega)) Tryz.underlying26 rfl (szTree17 hTS.out) ?_)
    |fail)
   refine HRU.out.mono ?_
   rintro e w2 ⟨rfl,r2,f2⟩
   obtain⟨Y,hY⟩:∃Y:Array Value,Y=#[.int .i64 (y:Int),.int .i64 (x:Int)]:=⟨_,rfl⟩
   have HYS:Hid (Y.size=2):=Lib.hid (by rw[hY];rfl)
   have HYO:Hid (Y.all (·.oneCell')=true):=Lib.hid (by rw[hY];simp[Value.oneCell'])
   obtain⟨t,ht⟩:∃t,t=w2.heap.size:=⟨_,rfl⟩
   obtain⟨W3,hW3⟩:∃W,W=mkV w2 #[.int .i64 0,.int .i64 0] Y 208:=⟨_,rfl⟩
   have hb3:Below w2.heap.size w2 W3:=by rw[hW3];exact mkV_below _ _ _ _
   have y3:BoxC W3 t Y 208:=by rw[hW3,ht];exact mkV_row w2 _ Y _
   have c3:W3.cell? ⟨t,0,none⟩=some (.int .i64 (y:Int)):=by rw[y3.cell,hY];rfl
   have hkw:k+1≤wr.heap.size:=by have:=HF.out.size;rw[HS1.out]at this;exact this
   have htk:k+1≤t:=by have:=f2.size;omega
   have HD3:=Lib.hid (BoxC.below r2 hb3 r2.lt:Rdr W3 p A l c q2)
   have HF3:=Lib.hid (HF.out.trans ((f2.mono fun j e=>.inl e).on hb3):Fr (UpB p (k+1)) W1 W3)
   have HO3:Hid (W3.ownsRow (k+1) 208 2 (.slice Al m cl) m (runsL pre)):=Lib.hid (own_keepU (own_fr HO.out f2 (fun j (e:j=p)=>by have:=HP.out;omega)) hb3)
   have HTW:Hid (∀cs:Array Value,W3.heap[t]?=some (.cells cs 208 (0,0))→(Value.slice Al m cl).ownBlock≠some t):=Lib.hid fun cs _ e=>by have:=(own_blk_lt (own_fr HO.out f2 (fun j (e:j=p)=>by have:=HP.out;omega)) t e).2;omega
   have HW3:=Lib.hid hW3;have HT:=Lib.hid ht;have HY3:=Lib.hid y3;have HYE:=Lib.hid hY;have HTK:=Lib.hid htk
   have HWA:=Lib.hid fun b=>pwant_any W3 p A l c q2 HD3.out b 132
   clear r2 f2 hY ht hW3 hb3 y3 hkw htk HRU HO HF HD k2
   rcases HBB.out with⟨z,hbt⟩|⟨z,z6,hbt⟩|⟨z,z6,hbt⟩
   ·have d1:decide ((0:Int)<(made:Int))=true:=decY (by omega)
    have d1':decide (0<made)=true:=decY0 z
    have hY2:=HYE
    clear z
    go_wp2_with (first
     |(rw[←hY2.out];refine wpList_store_rowTo rfl _ _ _ rfl rfl w2.heap.size Y rfl rfl 208 #[.int .i64 0,.int .i64 0] (heap_alloc_new w2 _) (szRun13 HYS.out) (by rw[HYS.out];rfl) HYO.out ?_;change wpList _ _ _ _ _ (mkV w2 #[.int .i64 0,.int .i64 0] Y 208);rw[←HW3.out,←HT.out])
     |fail)
    refine(HWA.out _).mono ?_
    rintro e w4 ⟨rfl,r4,f4⟩
    rw[←hbt]at r4
    have HD4:=Lib.hid r4;have HF4:=Lib.hid (HF3.out.trans (f4.mono fun j e=>.inl e))
    have HO4:Hid (w4.ownsRow (k+1) 208 2 (.slice Al m cl) m (runsL pre)):=Lib.hid (own_fr HO3.out f4 (fun j (e:j=p)=>by have:=HP.out;omega))
    have HY4:=Lib.hid (HY3.out.fr f4 (by have:=HP.out;have:=HTK.out;show¬t=p;omega))
    have HTMX:=Lib.hid (HTM.out w4)
    clear r4 f4 HWA HTM
    go_wp2_with (first
     |(refine wpList_load_row rfl _ _ rfl t rfl _ Y (0,0) _ HY4.out Tryz.underlying208 rfl (szRun13 HYS.out) ?_;rw[hY2.out])
     |fail)
    refine HTMX.out.mono ?_
    rintro e w5 ⟨rfl,hb5⟩
    have HD5:=Lib.hid (BoxC.below HD4.out hb5 HD4.out.lt:Rdr w5 p A l c _)
    have HF5:=Lib.hid (HF4.out.on hb5)
    have HO5:Hid (w5.ownsRow (k+1) 208 2 (.slice Al m cl) m (runsL pre)):=Lib.hid (own_keepU HO4.out hb5)
    have HY5:=Lib.hid (HY4.out.below hb5 HY4.out.lt)
    have HWB:=Lib.hid (pwant_any w5 p A l c _ HD5.out (decide (md≤n)) 132)
    rw[←HEE.out]at HWB
    clear hb5 HTMX HD4 HF4 HO4 HY4
    go_wp2_with fail
    refine HWB.out.mono ?_
    rintro e w6 ⟨rfl,r6,f6⟩
    have HD6:=Lib.hid r6;have HF6:=Lib.hid (HF5.out.trans (f6.mono fun j e=>.inl e))
    have HO6:Hid (w6.ownsRow (k+1) 208 2 (.slice Al m cl) m (runsL pre)):=Lib.hid (own_fr HO5.out f6 (fun j (e:j=p)=>by have:=HP.out;omega))
    have HY6:=Lib.hid (HY5.out.fr f6 (by have:=HP.out;have:=HTK.out;show¬t=p;omega))
    have hsz6:k+1≤w6.heap.size:=by have:=HF6.out.size;rw[HS1.out]at this;exact this
    obtain⟨A',c',w7,hrun,hown,hb7⟩:=run_oneU w6 (k+1) Al m cl pre HO6.out ((y:Int),(x:Int)) (by omega) hsz6
    have HRUN:=Lib.hid hrun;have HOWN:=Lib.hid hown;have HB7:=Lib.hid hb7
    clear r6 f6 HWB hrun hown hb7 hsz6 HO5 HY5 HD5 HF5
    go_wp2_with (first
     |(refine wpList_load_row rfl _ _ rfl t rfl _ Y (0,0) _ HY6.out Tryz.underlying208 rfl (szRun13 HYS.out) ?_;rw[hY2.out])
     |(at_builtin;refine wpList_append_run rfl (.tmp 43) (.tmp 45) 195 rfl (.slice Al m cl) (.slice (some ⟨w6.heap.size,0,none⟩) 1 1) (.slice A' (m+1) c') w7 rfl rfl HRUN.out ?_))
    have h2:w7.cell? ⟨p,2,none⟩=some (.int .i64 q3.2):=Rdr.e (BoxC.below HD6.out HB7.out (by have:=HP.out;omega):Rdr w7 p A l c q3)
    go_roundw
    case rel=>exact⟨md,m+1,A',c',pre++[((y:Int),(x:Int))],q3,fu',hmd2,by omega,rfl,by go_num,Lib.hid ⟨HON.out,by have:=HL2.out;omega⟩,HOWN,Lib.hid (BoxC.below HD6.out HB7.out (by have:=HP.out;omega)),Lib.hid ⟨HEI.out,fun _=>HS0.out⟩,Lib.hid (HF6.out.trans (Fr.up HB7.out))⟩
    case measure=>
     rw[h2,HK2.out]
     show(if q3.2=0 then n+300-(md:Int).toNat else 0)<(if(0:Int)=0 then n+300-(made:Int).toNat else 0)
     rw[if_pos rfl]
     split<;>omega
   ·have d1:decide ((0:Int)<(made:Int))=false:=decN (by omega)
    have d1':decide (0<made)=false:=decN0 (by omega)
    have d2:((y:Int)==16)=true:=by rw[z6];rfl
    have d3:((y:Int) !=16)=false:=by simp[bne,d2]
    have hY2:=HYE
    clear z6 z
    go_wp2_with (first
     |(rw[←hY2.out];refine wpList_store_rowTo rfl _ _ _ rfl rfl w2.heap.size Y rfl rfl 208 #[.int .i64 0,.int .i64 0] (heap_alloc_new w2 _) (szRun13 HYS.out) (by rw[HYS.out];rfl) HYO.out ?_;change wpList _ _ _ _ _ (mkV w2 #[.int .i64 0,.int .i64 0] Y 208);rw[←HW3.out,←HT.out])
     |fail)
    refine(HWA.out _).mono ?_
    rintro e w4 ⟨rfl,r4,f4⟩
    rw[←hbt]at r4
    have HD4:=Lib.hid r4;have HF4:=Lib.hid (HF3.out.trans (f4.mono fun j e=>.inl e))
    have HO4:Hid (w4.ownsRow (k+1) 208 2 (.slice Al m cl) m (runsL pre)):=Lib.hid (own_fr HO3.out f4 (fun j (e:j=p)=>by have:=HP.out;omega))
    have HY4:=Lib.hid (HY3.out.fr f4 (by have:=HP.out;have:=HTK.out;show¬t=p;omega))
    have HTMX:=Lib.hid (HTM.out w4)
    clear r4 f4 HWA HTM
    go_wp2_with (first
     |(refine wpList_load_row rfl _ _ rfl t rfl _ Y (0,0) _ HY4.out Tryz.underlying208 rfl (szRun13 HYS.out) ?_;rw[hY2.out])
     |fail)
    refine HTMX.out.mono ?_
    rintro e w5 ⟨rfl,hb5⟩
    have HD5:=Lib.hid (BoxC.below HD4.out hb5 HD4.out.lt:Rdr w5 p A l c _)
    have HF5:=Lib.hid (HF4.out.on hb5)
    have HO5:Hid (w5.ownsRow (k+1) 208 2 (.slice Al m cl) m (runsL pre)):=Lib.hid (own_keepU HO4.out hb5)
    have HY5:=Lib.hid (HY4.out.below hb5 HY4.out.lt)
    have HWB:=Lib.hid (pwant_any w5 p A l c _ HD5.out (decide (md≤n)) 132)
    rw[←HEE.out]at HWB
    clear hb5 HTMX HD4 HF4 HO4 HY4
    go_wp2_with fail
    refine HWB.out.mono ?_
    rintro e w6 ⟨rfl,r6,f6⟩
    have HD6:=Lib.hid r6;have HF6:=Lib.hid (HF5.out.trans (f6.mono fun j e=>.inl e))
    have HO6:Hid (w6.ownsRow (k+1) 208 2 (.slice Al m cl) m (runsL pre)):=Lib.hid (own_fr HO5.out f6 (fun j (e:j=p)=>by have:=HP.out;omega))
    have HY6:=Lib.hid (HY5.out.fr f6 (by have:=HP.out;have:=HTK.out;show¬t=p;omega))
    have hsz6:k+1≤w6.heap.size:=by have:=HF6.out.size;rw[HS1.out]at this;exact this
    obtain⟨A',c',w7,hrun,hown,hb7⟩:=run_oneU w6 (k+1) Al m cl pre HO6.out ((y:Int),(x:Int)) (by omega) hsz6
    have HRUN:=Lib.hid hrun;have HOWN:=Lib.hid hown;have HB7:=Lib.hid hb7
    clear r6 f6 HWB hrun hown hb7 hsz6 HO5 HY5 HD5 HF5
    go_wp2_with (first
     |(refine wpList_load_row rfl _ _ rfl t rfl _ Y (0,0) _ HY6.out Tryz.underlying208 rfl (szRun13 HYS.out) ?_;rw[hY2.out])
     |(at_builtin;refine wpList_append_run rfl (.tmp 43) (.tmp 45) 195 rfl (.slice Al m cl) (.slice (some ⟨w6.heap.size,0,none⟩) 1 1) (.slice A' (m+1) c') w7 rfl rfl HRUN.out ?_))
    have h2:w7.cell? ⟨p,2,none⟩=some (.int .i64 q3.2):=Rdr.e (BoxC.below HD6.out HB7.out (by have:=HP.out;omega):Rdr w7 p A l c q3)
    go_roundw
    case rel=>exact⟨md,m+1,A',c',pre++[((y:Int),(x:Int))],q3,fu',hmd2,by omega,rfl,by go_num,Lib.hid ⟨HON.out,by have:=HL2.out;omega⟩,HOWN,Lib.hid (BoxC.below HD6.out HB7.out (by have:=HP.out;omega)),Lib.hid ⟨HEI.out,fun _=>HS0.out⟩,Lib.hid (HF6.out.trans (Fr.up HB7.out))⟩
    case measure=>
     rw[h2,HK2.out]
     show(if q3.2=0 then n+300-(md:Int).toNat else 0)<(if(0:Int)=0 then n+300-(made:Int).toNat else 0)
     rw[if_pos rfl]
     split<;>omega
   ·have d1:decide ((0:Int)<(made:Int))=false:=decN (by omega)
    have d1':decide (0<made)=false:=decN0 (by omega)
    have d2:((y:Int)==16)=false:=beq_eq_false_iff_ne.2 (by omega)
    have d3:((y:Int) !=16)=true:=by simp[bne,d2]
    have hY2:=HYE
    clear z6 z
    go_wp2_with (first
     |(rw[←hY2.out];refine wpList_store_rowTo rfl _ _ _ rfl rfl w2.heap.size Y rfl rfl 208 #[.int .i64 0,.int .i64 0] (heap_alloc_new w2 _) (szRun13 HYS.out) (by rw[HYS.out];rfl) HYO.out ?_;change wpList _ _ _ _ _ (mkV w2 #[.int .i64 0,.int .i64 0] Y 208);rw[←HW3.out,←HT.out])
     |fail)
    refine(HWA.out _).mono ?_
    rintro e w4 ⟨rfl,r4,f4⟩
    rw[←hbt]at r4
    have HD4:=Lib.hid r4;have HF4:=Lib.hid (HF3.out.trans (f4.mono fun j e=>.inl e))
    have HO4:Hid (w4.ownsRow (k+1) 208 2 (.slice Al m cl) m (runsL pre)):=Lib.hid (own_fr HO3.out f4 (fun j (e:j=p)=>by have:=HP.out;omega))
    have HY4:=Lib.hid (HY3.out.fr f4 (by have:=HP.out;have:=HTK.out;show¬t=p;omega))
    have HTMX:=Lib.hid (HTM.out w4)
    clear r4 f4 HWA HTM
    go_wp2_with (first
     |(refine wpList_load_row rfl _ _ rfl t rfl _ Y (0,0) _ HY4.out Tryz.underlying208 rfl (szRun13 HYS.out) ?_;rw[hY2.out])
     |fail)
    refine HTMX.out.mono ?_
    rintro e w5 ⟨rfl,hb5⟩
    have HD5:=Lib.hid (BoxC.below HD4.out hb5 HD4.out.lt:Rdr w5 p A l c _)
    have HF5:=Lib.hid (HF4.out.on hb5)
    have HO5:Hid (w5.ownsRow (k+1) 208 2 (.slice Al m cl) m (runsL pre)):=Lib.hid (own_keepU HO4.out hb5)
    have HY5:=Lib.hid (HY4.out.below hb5 HY4.out.lt)
    have HWB:=Lib.hid (pwant_any w5 p A l c _ HD5.out (decide (md≤n)) 132)
    rw[←HEE.out]at HWB
    clear hb5 HTMX HD4 HF4 HO4 HY4
    go_wp2_with fail
    refine HWB.out.mono ?_
    rintro e w6 ⟨rfl,r6,f6⟩
    have HD6:=Lib.hid r6;have HF6:=Lib.hid (HF5.out.trans (f6.mono fun j e=>.inl e))
    have HO6:Hid (w6.ownsRow (k+1) 208 2 (.slice Al m cl) m (runsL pre)):=Lib.hid (own_fr HO5.out f6 (fun j (e:j=p)=>by have:=HP.out;omega))
    have HY6:=Lib.hid (HY5.out.fr f6 (by have:=HP.out;have:=HTK.out;show¬t=p;omega))
    have hsz6:k+1≤w6.heap.size:=by have:=HF6.out.size;rw[HS1.out]at this;exact this
    obtain⟨A',c',w7,hrun,hown,hb7⟩:=run_oneU w6 (k+1) Al m cl pre HO6.out ((y:Int),(x:Int)) (by omega) hsz6
    have HRUN:=Lib.hid hrun;have HOWN:=Lib.hid hown;have HB7:=Lib.hid hb7
    clear r6 f6 HWB hrun hown hb7 hsz6 HO5 HY5 HD5 HF5
    go_wp2_with (first
     |(refine wpList_load_row rfl _ _ rfl t rfl _ Y (0,0) _ HY6.out Tryz.underlying208 rfl (szRun13 HYS.out) ?_;rw[hY2.out])
     |(at_builtin;refine wpList_append_run rfl (.tmp 43) (.tmp 45) 195 rfl (.slice Al m cl) (.slice (some ⟨w6.heap.size,0,none⟩) 1 1) (.slice A' (m+1) c') w7 rfl rfl HRUN.out ?_))
    have h2:w7.cell? ⟨p,2,none⟩=some (.int .i64 q3.2):=Rdr.e (BoxC.below HD6.out HB7.out (by have:=HP.out;omega):Rdr w7 p A l c q3)
    go_roundw
    case rel=>exact⟨md,m+1,A',c',pre++[((y:Int),(x:Int))],q3,fu',hmd2,by omega,rfl,by go_num,Lib.hid ⟨HON.out,by have:=HL2.out;omega⟩,HOWN,Lib.hid (BoxC.below HD6.out HB7.out (by have:=HP.out;omega)),Lib.hid ⟨HEI.out,fun _=>HS0.out⟩,Lib.hid (HF6.out.trans (Fr.up HB7.out))⟩
    case measure=>
     rw[h2,HK2.out]
     show(if q3.2=0 then n+300-(md:Int).toNat else 0)<(if(0:Int)=0 then n+300-(made:Int).toNat else 0)
     rw[if_pos rfl]
     split<;>omega
  ·have hR:=hend hlt
   have hst:=RuR.of_own HO.out
   have HSTR:=Lib.hid (str10_any wr Al m cl pre (n:Int) hst (by omega) (by omega) (by omega))
   have HRE:=Lib.hid hR
   have HFF:=HFW
   clear hend hR hst HL HO HF HQ
   by_cases hm1:made<n
   ·obtain⟨qa,qe⟩:=q
    have hq0:¬qe=0:=fun e=>hlt ⟨hm1,e⟩
    have d0:(qe==0)=false:=beq_eq_false_iff_ne.2 hq0
    have hlti:(made:Int)<(n:Int):=by omega
    have k2':wr.cell? ⟨p,2,none⟩=some (.int .i64 qe):=k2
    clear hlt hq0 k2
    go_wp2_with fail
    refine HSTR.out.mono ?_
    rintro e w2 ⟨A',n',c',rfl,e1,e2,hb2,e3⟩
    have HB2:=Lib.hid hb2;have HE2:=Lib.hid e2;have HE3:=Lib.hid e3;have HE1:=Lib.hid e1
    clear hb2 e1 e2 e3
    go_wp2
    go_ret
    have hle:=HFF.out.size
    refine⟨A',n',c',rfl,by rw[←HRE.out];exact HE1.out,by rw[←HRE.out];exact HE2.out,fun h0=>?_,by rw[←HRE.out];exact BoxC.below HD.out HB2.out HD.out.lt,HFF.out.on HB2.out⟩
    obtain⟨g0,o0,cur,q1,q2,q3⟩:=HE3.out h0
    exact⟨g0,o0,cur,q1,Nat.le_trans hle q2,q3⟩
   ·have hlti:¬(made:Int)<(n:Int):=by omega
    clear hlt
    go_wp2_with fail
    refine HSTR.out.mono ?_
    rintro e w2 ⟨A',n',c',rfl,e1,e2,hb2,e3⟩
    have HB2:=Lib.hid hb2;have HE2:=Lib.hid e2;have HE3:=Lib.hid e3;have HE1:=Lib.hid e1
    clear hb2 e1 e2 e3
    go_wp2
    go_ret
    have hle:=HFF.out.size
    refine⟨A',n',c',rfl,by rw[←HRE.out];exact HE1.out,by rw[←HRE.out];exact HE2.out,fun h0=>?_,by rw[←HRE.out];exact BoxC.below HD.out HB2.out HD.out.lt,HFF.out.on HB2.out⟩
    obtain⟨g0,o0,cur,q1,q2,q3⟩:=HE3.out h0
    exact⟨g0,o0,cur,q1,Nat.le_trans hle q2,q3⟩
end Go.Proofs.YtgokdgcmkcmjeaaGreat
namespace Go.Proofs.YtgokdgcmkcmjeaaGreat
open Go.RowKit
def putL:List (Option Tmp)→(Tmp→Value)→Act→Act
 |[],_,a=>a
 |none::r,vals,a=>putL r vals a
 |some d::r,vals,a=>putL r vals (a.put (some d) (vals d))
theorem putL_size:∀(l:List (Option Tmp)) (vals:Tmp→Value) (a:Act),(putL l vals a).tmps.size=a.tmps.size
 |[],_,_=>rfl
 |none::r,vals,a=>putL_size r vals a
 |some d::r,vals,a=>by rw[putL,putL_size r vals];simp[Act.put]
theorem putL_defers:∀(l:List (Option Tmp)) (vals:Tmp→Value) (a:Act),(putL l vals a).defers=a.defers
 |[],_,_=>rfl
 |none::r,vals,a=>putL_defers r vals a
 |some d::r,vals,a=>by rw[putL,putL_defers r vals];rfl
theorem putL_in:∀(l:List (Option Tmp)) (vals:Tmp→Value) (a:Act) (s:Tmp),(some s∈l∨a.tmps[s]?=some (vals s))→s<a.tmps.size→(putL l vals a).tmps[s]?=some (vals s)
 |[],vals,a,s,h,_=>by
  rcases h with h|h
  ·cases h
  ·exact h
 |none::r,vals,a,s,h,hs=>putL_in r vals a s (h.imp (fun h=>by simpa using h) id) hs
 |some d::r,vals,a,s,h,hs=>by
  refine putL_in r vals _ s ?_ (by simpa[Act.put]using hs)
  by_cases e:d=s
  ·right;subst e;simp[Act.put,hs]
  ·rcases h with h|h
   ·left
    rcases List.mem_cons.1 h with h|h
    ·exact absurd (Option.some.inj h).symm e
    ·exact h
   ·right;simpa[Act.put,Array.getElem?_setIfInBounds_ne e]using h
theorem putL_out:∀(l:List (Option Tmp)) (vals:Tmp→Value) (a:Act) (s:Tmp),some s∉l→(putL l vals a).tmps[s]?=a.tmps[s]?
 |[],_,_,_,_=>rfl
 |none::r,vals,a,s,h=>putL_out r vals a s (fun g=>h (List.mem_cons_of_mem _ g))
 |some d::r,vals,a,s,h=>by
  rw[putL,putL_out r vals _ s (fun g=>h (List.mem_cons_of_mem _ g))]
  have e:d≠s:=fun e=>h (by rw[e];exact List.mem_cons_self ..)
  simp[Act.put,Array.getElem?_setIfInBounds_ne e]
def tabB(l:List Oper)(n:Nat):Bool:=decide (l.filterMap (·.dst)).Nodup&&(l.all fun o=>match o.dst with|some d=>decide (d<n)|none=>true)&&((List.range l.length).all fun i=>match l[i]? with
 |some o=>o.after.all fun e=> !Region.binds .any e||decide (e.on<i)
 |none=>true)
def offB(l:List Oper)(s:Tmp):Bool:=l.all fun o=>o.dst !=some s
theorem offB_is{l:List Oper}{s:Tmp}(h:offB l s=true){j:Nat}{d:Tmp}(hd:(l[j]?).bind (·.dst)=some d):d≠s:=fun e=>by
 cases hj:l[j]? with
 |none=>rw[hj]at hd;cases hd
 |some y=>
  rw[hj]at hd
  have h1:=List.all_eq_true.1 h y (List.mem_of_getElem? hj)
  have h2:y.dst=some d:=by simpa using hd
  rw[h2,e]at h1;simp at h1
theorem tab_dst{l:List Oper}(h:(l.filterMap (·.dst)).Nodup){i j:Nat}{x y:Oper}{d:Tmp}(hi:l[i]?=some x)(hj:l[j]?=some y)(hx:x.dst=some d)(hy:y.dst=some d):i=j:=by
 induction l generalizing i j with
 |nil=>cases hi
 |cons z r ih=>
  have hr:(r.filterMap (·.dst)).Nodup:=by
   rw[List.filterMap_cons]at h
   split at h
   ·exact h
   ·exact(List.nodup_cons.1 h).2
  have hz:∀(q:Nat) (u:Oper),r[q]?=some u→u.dst=some d→z.dst≠some d:=fun q u hq hu hzd=>by
   rw[List.filterMap_cons,hzd]at h
   exact(List.nodup_cons.1 h).1 (List.mem_filterMap.2 ⟨u,List.mem_of_getElem? hq,hu⟩)
  rcases i with _|i<;>rcases j with _|j
  ·rfl
  ·cases hi;exact absurd hx (hz j y (by simpa using hj) hy)
  ·cases hj;exact absurd hy (hz i x (by simpa using hi) hx)
  ·exact congrArg (·+1) (ih hr (by simpa using hi) (by simpa using hj))
theorem tab_free{l:List Oper}{o:Oper}{a:Act}(hg:o.guard=none):Region.wanted o (yielded l.toArray a.tmps)=true:=by simp[Region.wanted,hg]
end Go.Proofs.YtgokdgcmkcmjeaaGreat
namespace Go.Proofs.YtgokdgcmkcmjeaaGreat
open Go.RowKit
theorem wrap_i64(q:Nat)(h:q≤9223372036854775807):IntKind.i64.wrap (q:Int)=(q:Int):=by
 show(let m:=(q:Int)%(2^64:Int);if(true&&decide (m≥(2^63:Int)))=true then m-(2^64:Int)else m)=_
 have h1:(2:Int)^64=18446744073709551616:=rfl
 have h2:(2:Int)^63=9223372036854775808:=rfl
 have e1:(q:Int)%(2^64:Int)=(q:Int):=Int.emod_eq_of_lt (by omega) (by omega)
 simp only[e1]
 rw[if_neg (by simp;omega)]
theorem run_from(A A2:Option Addr)(L c k:Nat)(hk:k≤L)(hA:(if c=k then A else A.map (·.add k))=A2)(w:World):(Instr.sliceAt 22 (.slice A L c) (some (.int .i64 (k:Int))) none none).run Tryz.prog w=.ok (.slice A2 (L-k) (c-k)) w:=by
 obtain⟨i0,hi,hz0,hz1,hz2⟩:=info_parts infoU8
 have hs:(sizeOf 5).run Tryz.prog w=.ok 1 w:=by simp[sizeOf,typeInfo,hi,hz1,go_sem]
 rw[run_sliceAt_slice (h:=Tryz.underlying22),run_slice_l (ht:=Tryz.underlying22) (h0:=by omega) (h1:=by omega)]
 have he:Tryz.prog.elem 22=5:=by kernel_rfl
 rw[he,hs]
 simp[sliced,←hA,Result.andThen]
theorem run_to(A:Option Addr)(L c k:Nat)(hk:k≤c)(w:World):(Instr.sliceAt 22 (.slice A L c) none (some (.int .i64 (k:Int))) none).run Tryz.prog w=.ok (.slice A k c) w:=by
 obtain⟨i0,hi,hz0,hz1,hz2⟩:=info_parts infoU8
 have hs:(sizeOf 5).run Tryz.prog w=.ok 1 w:=by simp[sizeOf,typeInfo,hi,hz1,go_sem]
 rw[run_sliceAt_slice (h:=Tryz.underlying22),run_slice_h (ht:=Tryz.underlying22) (h0:=by omega) (h2:=by omega)]
 have he:Tryz.prog.elem 22=5:=by kernel_rfl
 rw[he,hs]
 have h0:(if c=0 then A else A.map fun x=>x.add 0)=A:=by
  split
  ·rfl
  ·cases A with
   |none=>rfl
   |some a=>simp[Addr.add]
 simp[sliced,Result.andThen,h0]
end Go.Proofs.YtgokdgcmkcmjeaaGreat
namespace Go.Proofs.YtgokdgcmkcmjeaaGreat
open Go.RowKit
def floatB(l:List Oper)(i0:Nat):Bool:=(List.range l.length).all fun j=>j==i0||Region.waitsFor .any l.toArray i0 j||Region.waitsFor .any l.toArray j i0||match l[i0]?,l[j]? with
 |some x,some y=>x.apart l.toArray y
 |_,_=>false
end Go.Proofs.YtgokdgcmkcmjeaaGreat
namespace Go.Proofs.YtgokdgcmkcmjeaaGreat
open Go.RowKit
theorem any_float{P:Program}{Q:Exit→Act→World→Prop}{l:List Oper}(i:Nat){o:Oper}(v:Value)(hsel:Region.noSelect l.toArray=true)(hfl:floatB l i=true)(ho:l[i]?=some o)(hg:o.guard=none)(d:Tmp)(hd:o.dst=some d){fuel:Nat}{listed:Array Bool}{a:Act}{w:World}
  (hQ:∀c a w,Q (.panic c) (a.put (some d) v) w→Q (.panic c) a w) (hr:(Region.ready .any l.toArray listed).contains i=true) (hv:∀w',(execOp a.eval o).run P w'=.ok (.value v) w')
  (h:wpAny P .any l.toArray Q fuel (listed.setIfInBounds i true) (a.put (some d) v) w):wpAny P .any l.toArray Q (fuel+1) listed a w:=by
 rw[←hd]at h hQ
 have hr':i∈Region.ready .any l.toArray listed:=by simpa using hr
 obtain⟨hu0,oi,hoi,hafter⟩:=mem_ready.1 hr'
 have ho':l.toArray[i]?=some o:=by simpa using ho
 rw[ho']at hoi;cases hoi
 refine wpAny_first (oi:=o) (v:=v) ho' (Region.noSelect_spec hsel) hQ fuel listed a w (fun j oj hj hne hun hno=>?_) hr' (.inl ⟨by simp[Region.wanted,hg],hv⟩) h
 have hjl:j<l.length:=by have:=(Array.getElem?_eq_some_iff.1 hj).1;simpa using this
 have h1:=List.all_eq_true.1 hfl j (List.mem_range.2 hjl)
 have hj2:l[j]?=some oj:=by simpa using hj
 simp only[ho,hj2,Bool.or_eq_true,beq_iff_eq]at h1
 rcases h1 with((h1|h1)|h1)|h1
 ·exact absurd h1 hne
 ·obtain⟨ok,hok,e,he,hb,hon⟩:=Region.waitsFor_spec h1
  rw[ho']at hok;cases hok
  have h2:=hafter e he hb
  rw[hon,getD_both hun]at h2;cases h2
 ·obtain⟨ok,hok,e,he,hb,hon⟩:=Region.waitsFor_spec h1
  rw[hj]at hok;cases hok
  exact absurd hon (hno e he hb)
 ·exact h1
end Go.Proofs.YtgokdgcmkcmjeaaGreat
namespace Go.Proofs.YtgokdgcmkcmjeaaGreat
open Go.RowKit
theorem pfixed_gen(w:World)(p:Nat)(A:Option Addr)(l c:Nat)(s:Rz)(h:Rdr w p A l c s)(F1 F2:Nat→Nat)(h1:∀j,F1 j<256)(h2:∀j,F2 j<256)
  (hfx:∀w:World,Calls Tryz.prog 87 #[] w fun e w'=>∃A1 c1 A2 c2,e=.returned (.tuple #[.slice A1 288 c1,.slice A2 32 c2])∧
   w'.ownsRow w.heap.size 5 1 (.slice A1 288 c1) 288 (bytesL 288 F1)∧w'.ownsRow w.heap.size 5 1 (.slice A2 32 c2) 32 (bytesL 32 F2)∧Below w.heap.size w w'):
  Calls Tryz.prog 54 #[.pointer (some ⟨p,0,none⟩)] w fun e w'=>∃u1 u2,e=.returned (.tuple #[.agg (trA (grC F1 288 15) u1),.agg (trA (grC F2 32 15) u2)])∧
   Rdr w' p A l c (gwS F2 32 15 (gwS F1 288 15 s))∧OwnS w' w.heap.size u1 (grS F1 288 15)∧OwnS w' w.heap.size u2 (grS F2 32 15)∧Fr (At p) w w':=by
 have hp:=h.lt
 obtain⟨k,hk⟩:∃k,k=w.heap.size:=⟨_,rfl⟩
 obtain⟨Z,hZ⟩:∃Z,Z=trA (fun _=>0) (.slice none 0 0):=⟨_,rfl⟩
 obtain⟨W1,hW1⟩:∃W1,W1=(w.alloc (.cells Z 26)).alloc (.cells Z 26):=⟨_,rfl⟩
 have hb1:Below k w W1:=by rw[hW1,hk];exact((Below.refl _ _).alloc (Nat.le_refl _) _).alloc (by simp) _
 have hs1:W1.heap.size=k+2:=by rw[hW1,hk];simp
 have z1:BoxC W1 k Z 26:=by rw[hW1,hk];exact(BoxC.new w _ _).old _
 have y1:BoxC W1 (k+1) Z 26:=by rw[hW1,hk];have:=BoxC.new (w.alloc (.cells Z 26)) Z 26;rwa[World.size_alloc]at this
 have HD1:=Lib.hid (BoxC.below h hb1 (by omega):Rdr W1 p A l c s)
 have HF1:=Lib.hid (Fr.of (S:=At p) (hk▸hb1))
 have hzb:∀u:World,(zeroValue 26).run Tryz.prog u=.ok (.agg Z) u:=by rw[hZ];exact(zero_of_info infoTree13).1
 have HZS:Hid (Z.size=17):=Lib.hid (by rw[hZ,trA_size])
 have HFX:=Lib.hid (hfx W1)
 have HW1:=Lib.hid hW1;have HK:=Lib.hid hk;have HS1:=Lib.hid hs1;have HZ1:=Lib.hid z1;have HY1:=Lib.hid y1
 have HP:Hid (p<k):=Lib.hid (by omega)
 have H1:=Lib.hid h1;have H2:=Lib.hid h2
 clear h hZ hW1 hk hb1 hs1 z1 y1 hfx hp h1 h2
 go_enter Tryz.func54,Tryz.ntmps54
 go_wp2_with (first|(rw[←HW1.out,←HK.out])|fail)
 refine HFX.out.mono ?_
 rintro e w2 ⟨A1,c1,A2,c2,rfl,o1,o2,hb2⟩
 have HD2:=Lib.hid (BoxC.below HD1.out hb2 HD1.out.lt:Rdr w2 p A l c s)
 have hr1:=(ByR.of_own o1 H1.out).1
 have hr2:=(ByR.of_own o2 H2.out).1
 have hn2:∀b o,0<32→A2=some ⟨b,o,none⟩→¬At p b:=fun b o h0 e (hb:b=p)=>by
  obtain⟨g',cap,hv,hge,_⟩:=o2.form h0
  injection hv with hv _ _
  rw[e]at hv
  injection hv with hv
  injection hv with e1 _ _
  have:=HP.out;have:=HS1.out;omega
 have HR2:Hid (RdF (At p) w2 A2 32 F2):=Lib.hid ⟨hr2,hn2⟩
 have HG1:=Lib.hid (pgrow_any w2 p A l c s HD2.out A1 288 c1 F1 hr1 (by omega) 15)
 have HF2:=Lib.hid (HF1.out.on hb2)
 have HZ2:=Lib.hid (HZ1.out.below hb2 HZ1.out.lt);have HY2:=Lib.hid (HY1.out.below hb2 HY1.out.lt)
 have HK2:Hid (k+2≤w2.heap.size):=Lib.hid (by have:=hb2.size;rw[HS1.out]at this;exact this)
 clear o1 o2 hb2 hr1 hr2 hn2 HFX
 go_wp2_with fail
 refine HG1.out.mono ?_
 rintro e w3 ⟨u1,rfl,r3,o3,f3⟩
 have HR3:=Lib.hid (HR2.out.fr f3)
 have HO3:=Lib.hid o3
 have HF3:=Lib.hid (HF2.out.trans f3)
 have HG2:=Lib.hid (pgrow_any w3 p A l c _ r3 A2 32 c2 F2 HR3.out.1 (by omega) 15)
 have hpk:¬At p k∧¬At p (k+1):=by have:=HP.out;exact⟨by show¬k=p;omega,by show¬k+1=p;omega⟩
 have HZ3:=Lib.hid (HZ2.out.fr f3 hpk.1);have HY3:=Lib.hid (HY2.out.fr f3 hpk.2)
 have HK3:Hid (k+2≤w3.heap.size):=Lib.hid (Nat.le_trans HK2.out f3.size)
 obtain⟨X,hX⟩:∃X,X=trA (grC F1 288 15) u1:=⟨_,rfl⟩
 rw[←hX]
 have HXS:Hid (X.size=17):=Lib.hid (by rw[hX,trA_size])
 have HXO:Hid (X.all (·.oneCell')=true):=Lib.hid (by rw[hX];exact trA_one _ _ o3.one)
 have HXE:=Lib.hid hX
 clear r3 o3 f3 hX HG1 HR2 HD2
 go_wp2_with fail
 refine HG2.out.mono ?_
 rintro e w4 ⟨u2,rfl,r4,o4,f4⟩
 obtain⟨Y,hY⟩:∃X,X=trA (grC F2 32 15) u2:=⟨_,rfl⟩
 rw[←hY]
 have HYS:Hid (Y.size=17):=Lib.hid (by rw[hY,trA_size])
 have HYO:Hid (Y.all (·.oneCell')=true):=Lib.hid (by rw[hY];exact trA_one _ _ o4.one)
 have HYE:=Lib.hid hY
 have HZ4:=Lib.hid (HZ3.out.fr f4 hpk.1)
 have HY4:Hid (BoxC (w4.setRow k X) (k+1) Z 26):=Lib.hid ((HY3.out.fr f4 hpk.2).rowO (by omega) _)
 have HO1:=Lib.hid (HO3.out.fr f4 (fun j (e:j=p)=>by have:=HP.out;have:=HK2.out;omega))
 have HO2:=Lib.hid o4;have HR4:=Lib.hid r4;have HF4:=Lib.hid (HF3.out.trans f4)
 clear r4 o4 f4 hY HG2 HZ3 HY3 HO3 HF3 hpk
 go_wp2_with (first
  |(refine wpList_store_rowTo rfl _ _ _ rfl rfl k X rfl rfl 26 Z HZ4.out (szTree17 HXS.out) (by rw[HZS.out,HXS.out]) HXO.out ?_)
  |(refine wpList_store_rowTo rfl _ _ _ rfl rfl (k+1) Y rfl rfl 26 Z HY4.out (szTree17 HYS.out) (by rw[HZS.out,HYS.out]) HYO.out ?_)
  |fail)
 have hkk:=HK2.out;have hkk3:=HK3.out;have hpp:=HP.out
 refine bodyPost_ret (v:=.tuple #[.agg X,.agg Y]) (cell_twoT rfl _ _ k (k+1) X Y HXS.out HYS.out rfl rfl (BoxC.rowO (show BoxC (w4.setRow k X) k X 26 from setRow_heap _ _ _ _ _ _ HZ4.out) (by omega) _) (setRow_heap _ _ _ _ _ _ HY4.out)) rfl ⟨u1,u2,by rw[HXE.out,HYE.out],?_,?_,?_,?_⟩
 ·exact BoxC.rowO (BoxC.rowO HR4.out (by omega) _) (by omega) _
 ·rw[←HK.out];exact ownsRow_lower (own_blk HO1.out fun j hj=>(setRow_other _ _ _ _ (by have:=(own_blk_lt HO1.out j hj).1;omega)).trans (setRow_other _ _ _ _ (by have:=(own_blk_lt HO1.out j hj).1;omega))) (by omega)
 ·rw[←HK.out];exact ownsRow_lower (own_blk HO2.out fun j hj=>(setRow_other _ _ _ _ (by have:=(own_blk_lt HO2.out j hj).1;omega)).trans (setRow_other _ _ _ _ (by have:=(own_blk_lt HO2.out j hj).1;omega))) (by omega)
 ·exact(HF4.out.from (Fr.row w4 k X) fun j hj=>.inr (by rw[←HK.out];exact Nat.le_of_eq hj.symm)).from (Fr.row _ (k+1) Y) fun j hj=>.inr (by rw[←HK.out];have:j=k+1:=hj;omega)
def dyL(g:Nat→Nat)(L:Nat)(s:Rz):Nat:=tkV g L 5 s+257
def dyS1(L:Nat)(s:Rz):Rz:=tkS L 5 s
def dyF(g:Nat→Nat)(L:Nat)(s:Rz):Nat:=tkV g L 5 (dyS1 L s)+1
def dyS2(L:Nat)(s:Rz):Rz:=tkS L 5 (dyS1 L s)
def dyC(g:Nat→Nat)(L:Nat)(s:Rz):Nat:=tkV g L 4 (dyS2 L s)+4
def dyS4(g:Nat→Nat)(L:Nat)(s:Rz):Rz:=wantS (tkS L 4 (dyS2 L s)) (decide (dyL g L s≤286∧dyF g L s≤30)) 132
def dyH(g:Nat→Nat)(L:Nat)(s:Rz):Nat→Nat:=shG g L (dyS4 g L s) (dyC g L s)
def dyS5(g:Nat→Nat)(L:Nat)(s:Rz):Rz:=wantS (gwS (dyH g L s) 19 7 (shS L (dyS4 g L s) (dyC g L s))) (decide (2≤(((grS (dyH g L s) 19 7).length:Nat):Int))) 132
def dyR(g:Nat→Nat)(L:Nat)(s:Rz):List (Int×Int)×Rz:=lnS (extF 19 (dyH g L s)) g L (dyL g L s+dyF g L s) (dyL g L s+dyF g L s) 0 [] (dyS5 g L s)
def dyO(g:Nat→Nat)(L:Nat)(s:Rz):List Nat:=(strO (dyR g L s).1 ((dyL g L s+dyF g L s:Nat):Int)).2
def dyS9(g:Nat→Nat)(L:Nat)(s:Rz):Rz:=if(dyR g L s).2.2≠0 then(dyR g L s).2 else gwS (lst ((dyO g L s).drop (dyL g L s))) (dyF g L s) 15 (gwS (lst (dyO g L s)) (dyL g L s) 15 (wantS (dyR g L s).2 (decide (0<lst (dyO g L s) 256)) 132))
def dyG1(g:Nat→Nat)(L:Nat)(s:Rz):Nat→Int:=if(dyR g L s).2.2≠0 then fun _=>0 else grC (lst (dyO g L s)) (dyL g L s) 15
def dyG2(g:Nat→Nat)(L:Nat)(s:Rz):Nat→Int:=if(dyR g L s).2.2≠0 then fun _=>0 else grC (lst ((dyO g L s).drop (dyL g L s))) (dyF g L s) 15
def dyY1(g:Nat→Nat)(L:Nat)(s:Rz):List Int:=if(dyR g L s).2.2≠0 then[]else grS (lst (dyO g L s)) (dyL g L s) 15
def dyY2(g:Nat→Nat)(L:Nat)(s:Rz):List Int:=if(dyR g L s).2.2≠0 then[]else grS (lst ((dyO g L s).drop (dyL g L s))) (dyF g L s) 15
theorem dyS4_in{g:Nat→Nat}{L:Nat}{s:Rz}(h:s.1≤8*L):(dyS4 g L s).1≤8*L:=by unfold dyS4;rw[wantS_in];exact tkS_in (tkS_in (tkS_in h))
theorem dyS5_in{g:Nat→Nat}{L:Nat}{s:Rz}(h:s.1≤8*L):(dyS5 g L s).1≤8*L:=by unfold dyS5 gwS;rw[wantS_in,wantS_in];exact shS_in (dyS4_in h) _
theorem wantS_ok{s:Rz}{b:Bool}{x:Int}(hx:x≠0)(h:(wantS s b x).2=0):s.2=0∧b=true:=by
 unfold wantS keepS at h
 cases b
 ·exfalso
  rw[if_neg (by decide)]at h
  split at h
  ·exact hx h
  ·rename_i h2;exact h2 h
 ·rw[if_pos rfl]at h;exact⟨h,rfl⟩
theorem dyS5_ok{g:Nat→Nat}{L:Nat}{s:Rz}(h:(dyS5 g L s).2=0):checkE (dyH g L s) 19 7=0:=of_decide_eq_true (wantS_ok (by decide) (wantS_ok (by decide) h).1).2
theorem exec_slice{P:Program}{o:Oper}{a:Act}(t:TypeId)(x:Operand)(lo hi:Option Operand)(ho:o.op=.slice t x lo hi none)(u v:Value)(lo' hi':Option Value)(hx:a.eval x=u)(h1:lo.map a.eval=lo')(h2:hi.map a.eval=hi')(hr:∀w,(Instr.sliceAt t u lo' hi' none).run P w=.ok v w)(w:World):(execOp a.eval o).run P w=.ok (.value v) w:=by
 unfold execOp;simp only[ho,hx,h1,h2,Option.map_none,Sem.run_bind,hr,Result.andThen_ok];rfl
theorem exec_move{P:Program}{o:Oper}{a:Act}(x:Operand)(ho:o.op=.move x)(u:Value)(hx:a.eval x=u)(w:World):(execOp a.eval o).run P w=.ok (.value u) w:=by
 unfold execOp;simp only[ho,hx];rfl
theorem drop_rd{w:World}{B:Nat}{b o n:Nat}{O:List Nat}{k:Nat}(h:RdB w B (some ⟨b,o,none⟩) n (lst O))(hk:k≤n):RdB w B (some ⟨b,o+k,none⟩) (n-k) (lst (O.drop k)):=by
 refine⟨fun j=>?_,fun h0=>?_⟩
 ·have:=h.1 (k+j);unfold lst at this⊢;rwa[List.getD_eq_getElem?_getD,List.getElem?_drop,←List.getD_eq_getElem?_getD]
 ·obtain⟨b',o',e,hb,hc⟩:=h.2 (by omega)
  cases e
  refine⟨b,o+k,rfl,hb,fun j hj=>?_⟩
  have:=hc (k+j) (by omega)
  rw[←Nat.add_assoc]at this
  rw[this];unfold lst
  rw[List.getD_eq_getElem?_getD,List.getD_eq_getElem?_getD,List.getElem?_drop]
end Go.Proofs.YtgokdgcmkcmjeaaGreat
