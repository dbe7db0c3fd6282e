/-
  Words and walks.
-/
import Derived.BigRegion
import Derived.Deep.RegionLaw
import Derived.Deep.QuietTactic
import Derived.BigQuiet
import Derived.ShutString
import Derived.ChangeOld
import Derived.Test.YtcmpmighjglnpaaGreattaaa
import Derived.Test.YtcmpmighjglnpaaGreattaab
import Derived.Test.YtcmpmighjglnpaaGreattaac
import Derived.Test.YtcmpmighjglnpaaGreattaad
import Derived.Test.YtcmpmighjglnpaaGreattaah
import Derived.Test.YtcmpmighjglnpaaGreattaaj
import Derived.Test.YtcmpmighjglnpaaGreattaak
set_option maxRecDepth 100000
set_option maxHeartbeats 16000000
namespace Go.Proofs.YtcmpmighjglnpaaGreat
open Go.RowKit Go.ChangeShapes Go.WideShapes Go.ChangeAt Go.Joins
theorem bits10_any(w:World)(s:Int):Calls Tryz.prog 152 #[.int .i64 s] w fun e w'=>e=.returned (.tuple #[.int .i64 (bitV s),.int .i64 (bitE s)])∧Below w.heap.size w w':=
 (lbits10_any w s).mono fun _ _ ⟨a,b⟩=>⟨a,b▸Below.refl _ _⟩
theorem valR_valD(s:Int)(L:List Nat):valR s L=valD s (L.getLast?.getD 0):=rfl
theorem str10_any(w:World)(A:Option Addr)(m c:Nat)(l:List (Int×Int))(n:Int)(hr:RuR w w.heap.size A m c l)(hm:m≤1000000)(_: -9223372036854775808≤n)(_:n≤9223372036854775807):
  Calls Tryz.prog 142 #[.slice A m c,.int .i64 n] w fun e w'=>∃A' n' c',e=.returned (.tuple #[.slice A' n' c',.int .i64 (strO l n).1])∧n'=(strO l n).2.length∧ByR w' w'.heap.size A' n' c' (lst (strO l n).2)∧Below w.heap.size w w'∧NewB w' w.heap.size A' n':=by
 obtain⟨hml,hrd,_⟩:=hr
 obtain⟨O,hO⟩:∃O,O=strO l n:=⟨_,rfl⟩
 rw[←hO]
 unfold strO at hO
 have HT:=Lib.hid hrd;have HM:=Lib.hid hml;have HO:=Lib.hid hO
 have hnl:∀j,lst [] j<256:=fun j=>by unfold lst;simp
 have HNL:=Lib.hid hnl
 have HB:=Lib.hid (Below.refl w.heap.size w)
 clear hrd hO hml hnl
 by_cases y0:n<0
 ·have d0:decide (n<0)=true:=decY0 y0
  obtain rfl:O=(2,[]):=by rw[HO.out,if_pos (.inl y0)]
  go_enter Tryz.func142,Tryz.ntmps142
  go_wp2
  go_ret2
  exact⟨none,0,0,rfl,rfl,ByR.nil _ _ _ HNL.out,HB.out,NewB.nil _ _ _⟩
 have d0:decide (n<0)=false:=decN0 y0
 by_cases y1:320<n
 ·have d1:decide (320<n)=true:=decY0 y1
  obtain rfl:O=(2,[]):=by rw[HO.out,if_pos (.inr y1)]
  go_enter Tryz.func142,Tryz.ntmps142
  go_wp2
  go_ret2
  exact⟨none,0,0,rfl,rfl,ByR.nil _ _ _ HNL.out,HB.out,NewB.nil _ _ _⟩
 have d1:decide (320<n)=false:=decN0 y1
 obtain⟨N,rfl⟩:=Int.eq_ofNat_of_zero_le (show 0≤n by omega)
 have hO2:O=strR N l []:=by rw[HO.out,if_neg (by omega),Int.toNat_natCast]
 have HO2:=Lib.hid hO2
 have hN:N≤320:=by omega
 have hmk:=make_cap8 N (by omega)
 obtain⟨W1,hW1⟩:∃W1,W1=w.alloc (.cells (madeCells #[.int .u8 0] N) 5):=⟨_,rfl⟩
 have hb1:Below w.heap.size w W1:=by rw[hW1];exact(Below.refl _ _).alloc (Nat.le_refl _) _
 have ho1:W1.ownsRow w.heap.size 5 1 (.slice (some ⟨w.heap.size,0,none⟩) 0 N) 0 (bytesL 0 (lst [])):=by rw[hW1];exact own_madeB w N (by omega) _
 have HB1:=Lib.hid hb1;have HO1:=Lib.hid ho1;have HW1:=Lib.hid hW1
 clear hO2 HO HB hb1 ho1 hW1 y0 y1
 go_enter Tryz.func142,Tryz.ntmps142
 go_wp2_with (rw[←HW1.out])
 clear hmk
 go_loopw [6,22] (fun ov iv wr=>∃(i q:Nat) (At:Option Addr) (ct:Nat) (L:List Nat),i≤m∧q≤N∧ov=.slice At q ct∧iv=.int .i64 (i:Int)∧Hid (q=L.length)∧Hid (strR N (l.drop i) L=O)∧Hid (∀x∈L,x<256)∧Hid (wr.ownsRow w.heap.size 5 1 (.slice At q ct) q (bytesL q (lst L)))∧Hid (Below w.heap.size w wr)) (fun _ iv _=>m-(intOf iv).toNat)
 case atStart=>exact⟨0,0,some ⟨w.heap.size,0,none⟩,N,[],Nat.zero_le _,Nat.zero_le _,rfl,rfl,Lib.hid rfl,Lib.hid HO2.out.symm,Lib.hid (fun x hx=>by cases hx),HO1,HB1⟩
 case round=>
  obtain⟨i,q,At,ct,L,hi,hqN,rfl,rfl,HQ,HP,HL,HW,HB⟩:=hrel
  by_cases hlt:i<m
  ·have hlti:(i:Int)<(m:Int):=by omega
   have hil:i<l.length:=by rw[←HM.out];exact hlt
   have htw:=HT.out.below HB.out (Nat.le_refl _)
   obtain⟨b,o,rfl,hbl,hc⟩:=htw.at hil
   have hrg:=htw.range rfl hil
   have hstep:=strR_step (N:=N) hil L
   rw[HP.out]at hstep
   obtain⟨t,ht⟩:∃t,t=l.getD i run0:=⟨_,rfl⟩
   rw[←ht]at hrg hstep
   obtain⟨s,x⟩:=t
   dsimp only at hstep
   have HRG:=Lib.hid (show wr.rangeAt b (o+i*2) [.int .i64 s,.int .i64 x]from hrg);have HSTEP:=Lib.hid hstep
   obtain⟨M,hMe⟩:∃M,M=decide (mayU s x):=⟨_,rfl⟩
   have HMY:Hid (∀V:World,Calls Tryz.prog 153 #[.agg #[.int .i64 s,.int .i64 x]] V fun e w'=>e=.returned (.bool M)∧Below V.heap.size V w'):=Lib.hid fun V=>by rw[hMe];exact may10_any V s x
   obtain⟨W3,hW3⟩:∃W3,W3=wr.alloc (.cells #[.int .i64 s,.int .i64 x] 166):=⟨_,rfl⟩
   have hb3:Below wr.heap.size wr W3:=by rw[hW3];exact(Below.refl _ _).alloc (Nat.le_refl _) _
   have hbx:BoxW W3 wr.heap.size (.int .i64 s) (.int .i64 x):=by rw[hW3];exact BoxW.new wr _ _ _
   have hrow:W3.heap[wr.heap.size]?=some (.cells #[.int .i64 s,.int .i64 x] 166 (0,0)):=by rw[hW3];exact heap_alloc_new wr _
   have HW3:=Lib.hid hW3;have HB3:=Lib.hid (HB.out.trans (hb3.mono HB.out.size));have HBX:=Lib.hid hbx;have HROW:=Lib.hid hrow
   have HOW3:Hid (W3.ownsRow w.heap.size 5 1 (.slice At q ct) q (bytesL q (lst L))):=Lib.hid (own_keep HW.out hb3)
   clear hc htw hrg hstep ht hil hW3 hb3 hbx hrow
   by_cases hmay:mayU s x
   ·skip
    obtain rfl:M=true:=by rw[hMe];exact decY0 hmay
    have hst:=HSTEP.out
    unfold mayU at hmay
    rw[if_neg hmay]at hst
    have hkl:=p2U_le (bitsR_le s)
    have hpk:(2^bitsR s:Nat)=p2U (bitsR s):=rfl
    obtain⟨p2,hp2⟩:∃p2,p2=p2U (bitsR s):=⟨_,rfl⟩
    rw[hpk,←hp2]at hmay
    rw[←hp2]at hkl
    have hsr:0≤s∧s≤18:=by omega
    obtain⟨X,rfl⟩:=Int.eq_ofNat_of_zero_le (show 0≤x by omega)
    have hXl:X≤1000:=by omega
    have htl:timesR s (X:Int)≤139:=timesR_le (by omega)
    obtain⟨T,hT⟩:∃T,T=timesR s (X:Int):=⟨_,rfl⟩
    obtain⟨V,hV⟩:∃V,V=valR s L:=⟨_,rfl⟩
    have hV8:V<256:=by rw[hV];exact valR_lt HL.out
    rw[←hT]at htl
    rw[←hT,←hV]at hst
    have hq0:(L=[])↔q=0:=by rw[HQ.out];exact List.length_eq_zero_iff.symm
    have hlr:∀j,∀x∈L++List.replicate j V,x<256:=fun j y hy=>by
     rcases List.mem_append.1 hy with hy|hy
     ·exact HL.out y hy
     ·rw[List.mem_replicate]at hy;rw[hy.2];exact hV8
    have HLR:=Lib.hid hlr;have HST:=Lib.hid hst;have HQ0:=Lib.hid hq0
    have HDO:Hid (∀(Y:World) (v:Nat),v=L.getLast?.getD 0→Calls Tryz.prog 154 #[.agg #[.int .i64 s,.int .i64 (X:Int)],.int .u8 (v:Int)] Y fun e w'=>e=.returned (.tuple #[.int .u8 (V:Int),.int .i64 (T:Int)])∧Below Y.heap.size Y w'):=
     Lib.hid fun Y v hv=>by
      have h:=does10_any Y s X v hXl hsr
      rw[←hT,hv,←valR_valD,←hV]at h
      rw[hv];exact h
    clear hst hlr hq0 hmay hkl hpk hp2 hMe hT hV HSTEP
    by_cases hq:q=0
    ·have HQZ:=Lib.hid hq
     have dq:decide (0<(q:Int))=false:=by simp;omega
     have dq':decide (0<q)=false:=by simp;omega
     by_cases hs16:s=16
     ·have e16:(s==16)=true:=by simp[hs16]
      have hst:=HST.out
      rw[if_pos (.inl ⟨hs16,HQ0.out.2 hq⟩)]at hst
      subst hst
      clear HST hs16 hq HQ0 hsr
      go_wp2_with (first
       |(refine wpList_load_mid rfl _ _ rfl b (o+i*2) rfl [.int .i64 s,.int .i64 (X:Int)] _ HRG.out Tryz.underlying166 rfl szRun ?_)
       |(rw[←HW3.out];refine wpList_load_row rfl _ _ rfl wr.heap.size rfl _ #[.int .i64 s,.int .i64 (X:Int)] (0,0) _ HROW.out Tryz.underlying166 rfl szRun ?_))
      refine(HMY.out _).mono ?_
      rintro e w2 ⟨rfl,hb2⟩
      have HB2:=Lib.hid (HB3.out.trans (hb2.mono HB3.out.size))
      have HOW2:Hid (w2.ownsRow w.heap.size 5 1 (.slice At q ct) q (bytesL q (lst L))):=Lib.hid (own_keep HOW3.out hb2)
      have hx2:=HBX.out.below hb2 HBX.out.lt
      have z0:=hx2.c0
      have HRX:Hid (w2.rangeAt wr.heap.size 0 [.int .i64 s,.int .i64 (X:Int)]):=Lib.hid (show w2.rangeAt wr.heap.size 0 (runC (s,(X:Int)))from runRange hx2.c0 hx2.c1)
      clear hb2 hx2
      go_wp2
      go_ret2
      exact⟨none,0,0,rfl,rfl,ByR.nil _ _ _ HNL.out,HB2.out,NewB.nil _ _ _⟩
     have e16:(s==16)=false:=by simp[hs16]
     have HNO:Hid (¬s=16):=Lib.hid hs16
     clear hs16 hq hsr
     by_cases hro:N<q+T
     ·skip
      have hst:=HST.out
      rw[if_pos (.inr (by rw[←HQ.out];exact hro))]at hst
      subst hst
      obtain⟨qt,hqt⟩:∃qt,qt=q+T:=⟨_,rfl⟩
      have eqt:(q:Int)+(T:Int)=(qt:Int):=by omega
      rw[←hqt]at hro
      have dr:(N:Int)<(qt:Int):=by omega
      clear HST hqt hro
      go_wp2_with (first
       |(refine wpList_load_mid rfl _ _ rfl b (o+i*2) rfl [.int .i64 s,.int .i64 (X:Int)] _ HRG.out Tryz.underlying166 rfl szRun ?_)
       |(rw[←HW3.out];refine wpList_load_row rfl _ _ rfl wr.heap.size rfl _ #[.int .i64 s,.int .i64 (X:Int)] (0,0) _ HROW.out Tryz.underlying166 rfl szRun ?_))
      refine(HMY.out _).mono ?_
      rintro e w2 ⟨rfl,hb2⟩
      have HB2:=Lib.hid (HB3.out.trans (hb2.mono HB3.out.size))
      have HOW2:Hid (w2.ownsRow w.heap.size 5 1 (.slice At q ct) q (bytesL q (lst L))):=Lib.hid (own_keep HOW3.out hb2)
      have hx2:=HBX.out.below hb2 HBX.out.lt
      have z0:=hx2.c0
      have HRX:Hid (w2.rangeAt wr.heap.size 0 [.int .i64 s,.int .i64 (X:Int)]):=Lib.hid (show w2.rangeAt wr.heap.size 0 (runC (s,(X:Int)))from runRange hx2.c0 hx2.c1)
      clear hb2 hx2
      skip
      go_wp2_with (refine wpList_load_mid rfl _ _ rfl wr.heap.size 0 rfl [.int .i64 s,.int .i64 (X:Int)] _ HRX.out Tryz.underlying166 rfl szRun ?_)
      refine(show Calls Tryz.prog 154 #[.agg #[.int .i64 s,.int .i64 (X:Int)],.int .u8 0] w2 _ from HDO.out _ 0 (by rw[HQ0.out.2 HQZ.out];rfl)).mono ?_
      rintro e w3 ⟨rfl,hb3⟩
      have HB3b:=Lib.hid (HB2.out.trans (hb3.mono HB2.out.size))
      have HOW4:Hid (w3.ownsRow w.heap.size 5 1 (.slice At q ct) q (bytesL q (lst L))):=Lib.hid (own_keep HOW2.out hb3)
      clear hb3
      go_wp2
      go_ret2
      exact⟨none,0,0,rfl,rfl,ByR.nil _ _ _ HNL.out,HB3b.out,NewB.nil _ _ _⟩
     have hst:=HST.out
     rw[if_neg (by rintro(⟨g,h⟩|g);exact HNO.out g;rw[←HQ.out]at g;exact hro g)]at hst
     have HNX:=Lib.hid hst.symm
     obtain⟨qt,hqt⟩:∃qt,qt=q+T:=⟨_,rfl⟩
     have eqt:(q:Int)+(T:Int)=(qt:Int):=by omega
     have dr:¬(N:Int)<(qt:Int):=by omega
     have dr2:decide (N<qt)=false:=decN0 (by omega)
     have hqtl:q+T≤N:=by omega
     clear HST hst hqt hro
     go_wp2_with (first
      |(refine wpList_load_mid rfl _ _ rfl b (o+i*2) rfl [.int .i64 s,.int .i64 (X:Int)] _ HRG.out Tryz.underlying166 rfl szRun ?_)
      |(rw[←HW3.out];refine wpList_load_row rfl _ _ rfl wr.heap.size rfl _ #[.int .i64 s,.int .i64 (X:Int)] (0,0) _ HROW.out Tryz.underlying166 rfl szRun ?_))
     refine(HMY.out _).mono ?_
     rintro e w2 ⟨rfl,hb2⟩
     have HB2:=Lib.hid (HB3.out.trans (hb2.mono HB3.out.size))
     have HOW2:Hid (w2.ownsRow w.heap.size 5 1 (.slice At q ct) q (bytesL q (lst L))):=Lib.hid (own_keep HOW3.out hb2)
     have hx2:=HBX.out.below hb2 HBX.out.lt
     have z0:=hx2.c0
     have HRX:Hid (w2.rangeAt wr.heap.size 0 [.int .i64 s,.int .i64 (X:Int)]):=Lib.hid (show w2.rangeAt wr.heap.size 0 (runC (s,(X:Int)))from runRange hx2.c0 hx2.c1)
     clear hb2 hx2
     skip
     go_wp2_with (refine wpList_load_mid rfl _ _ rfl wr.heap.size 0 rfl [.int .i64 s,.int .i64 (X:Int)] _ HRX.out Tryz.underlying166 rfl szRun ?_)
     refine(show Calls Tryz.prog 154 #[.agg #[.int .i64 s,.int .i64 (X:Int)],.int .u8 0] w2 _ from HDO.out _ 0 (by rw[HQ0.out.2 HQZ.out];rfl)).mono ?_
     rintro e w3 ⟨rfl,hb3⟩
     have HB3b:=Lib.hid (HB2.out.trans (hb3.mono HB2.out.size))
     have HOW4:Hid (w3.ownsRow w.heap.size 5 1 (.slice At q ct) q (bytesL q (lst L))):=Lib.hid (own_keep HOW2.out hb3)
     clear hb3
     clear z0
     obtain⟨wo,rfl⟩:∃wo:World,wo=wr:=⟨_,rfl⟩
     go_wp2
     go_loopw [6,54] (fun ov kv wr=>∃(j p:Nat) (Ai:Option Addr) (ci:Nat),j≤T∧p=q+j∧ov=.slice Ai p ci∧kv=.int .i64 (j:Int)∧Hid (wr.ownsRow w.heap.size 5 1 (.slice Ai p ci) p (bytesL p (lst (L++List.replicate j V))))∧Hid (Below w.heap.size w wr)) (fun _ kv _=>T-(intOf kv).toNat)
     case atStart=>exact⟨0,q,At,ct,Nat.zero_le _,rfl,rfl,rfl,Lib.hid (by rw[List.replicate_zero,List.append_nil];exact HOW4.out),HB3b⟩
     case round=>
      obtain⟨j,p,Ai,ci,hj,hpj,rfl,rfl,HWI,HBI⟩:=hrel
      by_cases hjl:j<T
      ·have hjli:(j:Int)<(T:Int):=by omega
       obtain⟨r1,r2⟩:=rep_one L j V
       rw[←HQ.out,←hpj]at r1 r2
       obtain⟨A',c',w',hr2,ho2,hb2⟩:=run_oneB wr w.heap.size Ai p ci (lst (L++List.replicate (j+1) V)) (lst_lt (HLR.out _)) (by rw[←r1];exact HWI.out) V r2.symm (by omega) HBI.out.size
       have HR2:=Lib.hid hr2;have HO2':=Lib.hid ho2;have HB2':=Lib.hid (HBI.out.trans hb2)
       have hpj2:p+1=q+(j+1):=by omega
       have HPJ:=Lib.hid hpj2
       have hpb:p≤1000:=by omega
       clear hr2 ho2 hb2 r1 r2 hpj hpj2
       go_wp2_with (at_builtin;refine wpList_append_run rfl (.tmp 56) (.tmp 58) 22 rfl (.slice Ai p ci) (.slice (some ⟨wr.heap.size,0,none⟩) 1 1) (.slice A' (p+1) c') w' rfl rfl HR2.out ?_)
       go_roundw
       case rel=>
        exact⟨j+1,p+1,A',c',by omega,HPJ.out,rfl,by go_num,HO2',HB2'⟩
       case measure=>simp[intOf];omega
      ·obtain rfl:j=T:=by omega
       have hjli:¬(j:Int)<(j:Int):=by omega
       have hqq:p=(L++List.replicate j V).length:=by rw[List.length_append,List.length_replicate,←HQ.out];exact hpj
       have HQQ:=Lib.hid hqq
       have hpN:p≤N:=by omega
       clear hqq
       go_wp2
       go_roundw
       case rel=>exact⟨i+1,p,Ai,ci,L++List.replicate j V,by omega,hpN,rfl,by go_num,HQQ,HNX,HLR.out j|>Lib.hid,HWI,HBI⟩
       case measure=>simp[intOf];omega
    have dq:decide (0<(q:Int))=true:=by simp;omega
    have dq':decide (0<q)=true:=by simp;omega
    have HNO:Hid (q=0→False):=Lib.hid hq
    obtain⟨z,hz⟩:∃z,z=q-1:=⟨_,rfl⟩
    have ez:(q:Int)-1=(z:Int):=by omega
    have hzq:(z:Int)<(q:Int):=by omega
    have hz0:(0:Int)≤(z:Int):=by omega
    have HZ:=Lib.hid hz
    clear hz hsr hq
    by_cases hro:N<q+T
    ·skip
     have hst:=HST.out
     rw[if_pos (.inr (by rw[←HQ.out];exact hro))]at hst
     subst hst
     obtain⟨qt,hqt⟩:∃qt,qt=q+T:=⟨_,rfl⟩
     have eqt:(q:Int)+(T:Int)=(qt:Int):=by omega
     rw[←hqt]at hro
     have dr:(N:Int)<(qt:Int):=by omega
     clear HST hqt hro
     go_wp2_with (first
      |(refine wpList_load_mid rfl _ _ rfl b (o+i*2) rfl [.int .i64 s,.int .i64 (X:Int)] _ HRG.out Tryz.underlying166 rfl szRun ?_)
      |(rw[←HW3.out];refine wpList_load_row rfl _ _ rfl wr.heap.size rfl _ #[.int .i64 s,.int .i64 (X:Int)] (0,0) _ HROW.out Tryz.underlying166 rfl szRun ?_))
     refine(HMY.out _).mono ?_
     rintro e w2 ⟨rfl,hb2⟩
     have HB2:=Lib.hid (HB3.out.trans (hb2.mono HB3.out.size))
     have HOW2:Hid (w2.ownsRow w.heap.size 5 1 (.slice At q ct) q (bytesL q (lst L))):=Lib.hid (own_keep HOW3.out hb2)
     have hx2:=HBX.out.below hb2 HBX.out.lt
     have z0:=hx2.c0
     have HRX:Hid (w2.rangeAt wr.heap.size 0 [.int .i64 s,.int .i64 (X:Int)]):=Lib.hid (show w2.rangeAt wr.heap.size 0 (runC (s,(X:Int)))from runRange hx2.c0 hx2.c1)
     clear hb2 hx2
     obtain⟨b2,o2,rfl,_,hcc⟩:=(ByR.of_own HOW2.out (lst_lt HL.out)).1.2 (by omega)
     have z9:=hcc z (by omega)
     clear hcc
     go_wp2_with (refine wpList_load_mid rfl _ _ rfl wr.heap.size 0 rfl [.int .i64 s,.int .i64 (X:Int)] _ HRX.out Tryz.underlying166 rfl szRun ?_)
     refine(HDO.out _ (lst L z) (by rw[last_lst,←HQ.out,HZ.out])).mono ?_
     rintro e w3 ⟨rfl,hb3⟩
     have HB3b:=Lib.hid (HB2.out.trans (hb3.mono HB2.out.size))
     have HOW4:Hid (w3.ownsRow w.heap.size 5 1 (.slice (some ⟨b2,o2,none⟩) q ct) q (bytesL q (lst L))):=Lib.hid (own_keep HOW2.out hb3)
     clear hb3
     go_wp2
     go_ret2
     exact⟨none,0,0,rfl,rfl,ByR.nil _ _ _ HNL.out,HB3b.out,NewB.nil _ _ _⟩
    have hst:=HST.out
    rw[if_neg (by rintro(⟨g,h⟩|g);exact HNO.out (HQ0.out.1 h);rw[←HQ.out]at g;exact hro g)]at hst
    have HNX:=Lib.hid hst.symm
    obtain⟨qt,hqt⟩:∃qt,qt=q+T:=⟨_,rfl⟩
    have eqt:(q:Int)+(T:Int)=(qt:Int):=by omega
    have dr:¬(N:Int)<(qt:Int):=by omega
    have dr2:decide (N<qt)=false:=decN0 (by omega)
    have hqtl:q+T≤N:=by omega
    clear HST hst hqt hro
    go_wp2_with (first
     |(refine wpList_load_mid rfl _ _ rfl b (o+i*2) rfl [.int .i64 s,.int .i64 (X:Int)] _ HRG.out Tryz.underlying166 rfl szRun ?_)
     |(rw[←HW3.out];refine wpList_load_row rfl _ _ rfl wr.heap.size rfl _ #[.int .i64 s,.int .i64 (X:Int)] (0,0) _ HROW.out Tryz.underlying166 rfl szRun ?_))
    refine(HMY.out _).mono ?_
    rintro e w2 ⟨rfl,hb2⟩
    have HB2:=Lib.hid (HB3.out.trans (hb2.mono HB3.out.size))
    have HOW2:Hid (w2.ownsRow w.heap.size 5 1 (.slice At q ct) q (bytesL q (lst L))):=Lib.hid (own_keep HOW3.out hb2)
    have hx2:=HBX.out.below hb2 HBX.out.lt
    have z0:=hx2.c0
    have HRX:Hid (w2.rangeAt wr.heap.size 0 [.int .i64 s,.int .i64 (X:Int)]):=Lib.hid (show w2.rangeAt wr.heap.size 0 (runC (s,(X:Int)))from runRange hx2.c0 hx2.c1)
    clear hb2 hx2
    obtain⟨b2,o2,rfl,_,hcc⟩:=(ByR.of_own HOW2.out (lst_lt HL.out)).1.2 (by omega)
    have z9:=hcc z (by omega)
    clear hcc
    go_wp2_with (refine wpList_load_mid rfl _ _ rfl wr.heap.size 0 rfl [.int .i64 s,.int .i64 (X:Int)] _ HRX.out Tryz.underlying166 rfl szRun ?_)
    refine(HDO.out _ (lst L z) (by rw[last_lst,←HQ.out,HZ.out])).mono ?_
    rintro e w3 ⟨rfl,hb3⟩
    have HB3b:=Lib.hid (HB2.out.trans (hb3.mono HB2.out.size))
    have HOW4:Hid (w3.ownsRow w.heap.size 5 1 (.slice (some ⟨b2,o2,none⟩) q ct) q (bytesL q (lst L))):=Lib.hid (own_keep HOW2.out hb3)
    clear hb3
    clear z0 z9
    obtain⟨wo,rfl⟩:∃wo:World,wo=wr:=⟨_,rfl⟩
    go_wp2
    go_loopw [6,54] (fun ov kv wr=>∃(j p:Nat) (Ai:Option Addr) (ci:Nat),j≤T∧p=q+j∧ov=.slice Ai p ci∧kv=.int .i64 (j:Int)∧Hid (wr.ownsRow w.heap.size 5 1 (.slice Ai p ci) p (bytesL p (lst (L++List.replicate j V))))∧Hid (Below w.heap.size w wr)) (fun _ kv _=>T-(intOf kv).toNat)
    case atStart=>exact⟨0,q,(some ⟨b2,o2,none⟩),ct,Nat.zero_le _,rfl,rfl,rfl,Lib.hid (by rw[List.replicate_zero,List.append_nil];exact HOW4.out),HB3b⟩
    case round=>
     obtain⟨j,p,Ai,ci,hj,hpj,rfl,rfl,HWI,HBI⟩:=hrel
     by_cases hjl:j<T
     ·have hjli:(j:Int)<(T:Int):=by omega
      obtain⟨r1,r2⟩:=rep_one L j V
      rw[←HQ.out,←hpj]at r1 r2
      obtain⟨A',c',w',hr2,ho2,hb2⟩:=run_oneB wr w.heap.size Ai p ci (lst (L++List.replicate (j+1) V)) (lst_lt (HLR.out _)) (by rw[←r1];exact HWI.out) V r2.symm (by omega) HBI.out.size
      have HR2:=Lib.hid hr2;have HO2':=Lib.hid ho2;have HB2':=Lib.hid (HBI.out.trans hb2)
      have hpj2:p+1=q+(j+1):=by omega
      have HPJ:=Lib.hid hpj2
      have hpb:p≤1000:=by omega
      clear hr2 ho2 hb2 r1 r2 hpj hpj2
      go_wp2_with (at_builtin;refine wpList_append_run rfl (.tmp 56) (.tmp 58) 22 rfl (.slice Ai p ci) (.slice (some ⟨wr.heap.size,0,none⟩) 1 1) (.slice A' (p+1) c') w' rfl rfl HR2.out ?_)
      go_roundw
      case rel=>
       exact⟨j+1,p+1,A',c',by omega,HPJ.out,rfl,by go_num,HO2',HB2'⟩
      case measure=>simp[intOf];omega
     ·obtain rfl:j=T:=by omega
      have hjli:¬(j:Int)<(j:Int):=by omega
      have hqq:p=(L++List.replicate j V).length:=by rw[List.length_append,List.length_replicate,←HQ.out];exact hpj
      have HQQ:=Lib.hid hqq
      have hpN:p≤N:=by omega
      clear hqq
      go_wp2
      go_roundw
      case rel=>exact⟨i+1,p,Ai,ci,L++List.replicate j V,by omega,hpN,rfl,by go_num,HQQ,HNX,HLR.out j|>Lib.hid,HWI,HBI⟩
      case measure=>simp[intOf];omega
   ·obtain rfl:M=false:=by rw[hMe];exact decN0 hmay
    have hst:=HSTEP.out
    unfold mayU at hmay
    rw[if_pos (Classical.not_not.1 hmay)]at hst
    subst hst
    clear HSTEP hmay hMe
    go_wp2_with (first
     |(refine wpList_load_mid rfl _ _ rfl b (o+i*2) rfl [.int .i64 s,.int .i64 x] _ HRG.out Tryz.underlying166 rfl szRun ?_)
     |(rw[←HW3.out];refine wpList_load_row rfl _ _ rfl wr.heap.size rfl _ #[.int .i64 s,.int .i64 x] (0,0) _ HROW.out Tryz.underlying166 rfl szRun ?_))
    refine(HMY.out _).mono ?_
    rintro e w2 ⟨rfl,hb2⟩
    have HB2:=Lib.hid (HB3.out.trans (hb2.mono HB3.out.size))
    clear hb2
    go_wp2
    go_ret2
    exact⟨none,0,0,rfl,rfl,ByR.nil _ _ _ HNL.out,HB2.out,NewB.nil _ _ _⟩
  ·obtain rfl:i=m:=by omega
   have hlti:¬(i:Int)<(i:Int):=by omega
   have hfin:=HP.out
   have hdr:l.drop i=[]:=List.drop_eq_nil_of_le (by rw[←HM.out];exact Nat.le_refl _)
   rw[hdr]at hfin
   simp only[strR]at hfin
   rw[←HQ.out]at hfin
   by_cases hqn:q=N
   ·rw[if_pos hqn]at hfin
    subst hfin
    have dq:((q:Int) !=(N:Int))=false:=by simp;omega
    have hby:=ByR.of_own HW.out (lst_lt HL.out)
    have HBY:=Lib.hid hby
    have hnew:NewB wr w.heap.size At q:=fun h0=>by
     obtain⟨g,cap,hv,hge,hlt⟩:=HW.out.form h0
     rcases HW.out.2 with⟨hv2,_⟩|⟨g2,cap2,cur,hv2,hg2,hh2,_⟩
     ·rw[hv2]at hv;cases hv
     ·injection hv2 with h1 _ _
      exact⟨g2,0,cur,h1,hg2,hh2⟩
    have HNEW:=Lib.hid hnew
    clear hby hnew hqn hdr
    go_wp2
    go_ret2
    exact⟨At,q,ct,rfl,HQ.out,HBY.out,HB.out,HNEW.out⟩
   ·rw[if_neg hqn]at hfin
    subst hfin
    have dq:((q:Int) !=(N:Int))=true:=by simp;omega
    clear hqn hdr
    go_wp2
    go_ret2
    exact⟨none,0,0,rfl,rfl,ByR.nil _ _ _ HNL.out,HB.out,NewB.nil _ _ _⟩
end Go.Proofs.YtcmpmighjglnpaaGreat
namespace Go.Proofs.YtcmpmighjglnpaaGreat
open Go.RowKit
theorem run_app_s{T E:TypeId}{z:Value}{sz by_:Nat}(hT:Tryz.prog.underlying T=some (.slice E))(hI:(Tryz.prog.info? E).map (fun i=>(i.zero,i.size,i.bytes))=some (some z,sz,by_))(hz:z.cells.size=sz)(hsz:0<sz)
  (w:World) (base B:Nat) (v0:Value) (n:Nat) (xs:List Value) (hown:w.ownsRow base E sz v0 n xs) (A:Option Addr) (m c:Nat) (ys:List Value) (hr:SrcL w B sz A m ys) (h1:∀u∈ys,u.oneCell'=true)
  (hnm:n+m≤maxLen) (hby:(n+m)*by_≤140737488355328) (ty:TypeId) (hA:A=none→c=0) (hbase:base≤w.heap.size):
  ∃A' c' w',(Builtin.append_ #[T,T] ty #[v0,.slice A m c]).run Tryz.prog w=.ok (.slice A' (n+m) c') w'∧w'.ownsRow base E sz (.slice A' (n+m) c') (n+m) (xs++ys)∧w.grownBy w' v0.ownBlock∧((Value.slice A' (n+m) c').ownBlock=v0.ownBlock∨(Value.slice A' (n+m) c').ownBlock=some w.heap.size):=by
 obtain⟨i0,hi,hz0,hz1,hz2⟩:=info_parts hI
 have key:∃v' w',(Builtin.append_ #[T,T] ty #[v0,.slice A m c]).run Tryz.prog w=.ok v' w'∧w'.ownsRow base E sz v' (n+m) (xs++ys)∧w.grownBy w' v0.ownBlock∧(v'.ownBlock=v0.ownBlock∨v'.ownBlock=some w.heap.size):=by
  rcases A with _|ad
  ·have h0:m=0:=by
    rcases Nat.eq_zero_or_pos m with h|h
    ·exact h
    ·obtain⟨b,o,h,_⟩:=hr.2 h;cases h
   subst h0
   obtain rfl:=hA rfl
   have hy:ys=[]:=List.length_eq_zero_iff.1 (by have:=hr.1;omega)
   subst hy
   refine⟨v0,w,run_append_owned_none (P:=Tryz.prog) (w:=w) base T ty E i0 sz hT hi v0 n _ hown,?_,World.grownBy.refl _ _,.inl rfl⟩
   simpa using hown
  ·have hcells:∀j u,ys[j]?=some u→w.cell? (ad.add j)=some u:=by
    intro j u hu
    have hm:0<m:=by
     rcases Nat.eq_zero_or_pos m with h|h
     ·have hy:ys=[]:=List.length_eq_zero_iff.1 (by have:=hr.1;rw[h]at this;omega)
      rw[hy]at hu;cases hu
     ·exact h
    obtain⟨b,o,h,_,hc⟩:=hr.2 hm
    injection h with h
    subst h
    have e:(⟨b,o,none⟩:Addr).add j=⟨b,o+j,none⟩:=by unfold Addr.add;split<;>simp_all
    rw[e];exact hc j u hu
   obtain⟨v',w',h1,h2,h3,_,h5⟩:=run_append_own_at (P:=Tryz.prog) w base T ty E i0 z sz by_ hT hi hz0 hz1 hz2 hz hsz v0 n xs hown ad m c ys hr.1 hcells h1 hnm hby hbase
   exact⟨v',w',h1,h2,h3,h5⟩
 obtain⟨v',w',h1,h2,h3,h5⟩:=key
 have hv:∃A' c',v'=.slice A' (n+m) c':=by
  rcases h2.2 with⟨rfl,h⟩|⟨g,cap,cur,rfl,_⟩
  ·exact⟨none,0,by rw[h]⟩
  ·exact⟨_,_,rfl⟩
 obtain⟨A',c',rfl⟩:=hv
 exact⟨A',c',w',h1,h2,h3,h5⟩
theorem run_oneB_s(w:World)(base:Nat)(A:Option Addr)(n c:Nat)(F:Nat→Nat)(hown:w.ownsRow base 5 1 (.slice A n c) n (bytesL n F))(x:Nat)(hx:x=F n)(hn:n≤1000000000)(hbase:base≤w.heap.size):
  ∃A' c' w',(Builtin.append_ #[22,22] 22 #[.slice A n c,.slice (some ⟨w.heap.size,0,none⟩) 1 1]).run Tryz.prog (w.alloc (.cells #[.int .u8 (x:Int)] 5))=.ok (.slice A' (n+1) c') w'∧
   w'.ownsRow base 5 1 (.slice A' (n+1) c') (n+1) (bytesL (n+1) F)∧Below base w w'∧(∀k,k<w.heap.size→(Value.slice A n c).ownBlock≠some k→w'.heap[k]?=w.heap[k]?)∧(∀j,(Value.slice A' (n+1) c').ownBlock=some j→(Value.slice A n c).ownBlock=some j∨w.heap.size≤j):=by
 subst hx
 have hb1:Below base w (w.alloc (.cells #[.int .u8 (F n:Int)] 5)):=(Below.refl base w).alloc hbase _
 have ho1:=hown.alloc (.cells #[.int .u8 (F n:Int)] 5)
 obtain⟨A',c',w',h2,o2,b2,h5⟩:=run_app_s (z:=.int .u8 0) (by_:=1) Tryz.underlying22 infoU8 rfl (by decide) (w.alloc (.cells #[.int .u8 (F n:Int)] 5)) base _ (.slice A n c) n _ ho1 _ 1 1 _
  (SrcL.new w 1 1 #[.int .u8 (F n:Int)] 5 rfl) (fun u hu=>by simp at hu;subst hu;rfl) (by unfold maxLen;omega) (by omega) 22 (fun h=>by cases h) (Nat.le_trans hbase hb1.size)
 refine⟨A',c',w',h2,?_,hb1.trans ((Below.refl base _).grown b2 (Nat.le_trans hbase hb1.size) (own_geS ho1)),fun k hk hne=>?_,fun j hj=>?_⟩
 ·have e:bytesL n F++(#[Value.int .u8 (F n:Int)]:Array Value).toList=bytesL (n+1) F:=by
   unfold bytesL;rw[List.range_succ,List.map_append];rfl
  rw[e]at o2
  exact o2
 ·refine(b2.block k (by simp;omega) (fun e=>hne e.symm)).trans ?_
  exact(Below.refl w.heap.size w).alloc (Nat.le_refl _) (.cells #[.int .u8 (F n:Int)] 5)|>.block k hk
 ·rcases h5 with h5|h5
  ·exact .inl (h5▸hj)
  ·rw[h5]at hj
   injection hj with hj
   simp at hj
   exact .inr (by omega)
theorem run_catB_s(w:World)(base:Nat)(A:Option Addr)(n c:Nat)(F:Nat→Nat)(hown:w.ownsRow base 5 1 (.slice A n c) n (bytesL n F))(A2:Option Addr)(m c2:Nat)(r G:Nat→Nat)(hr:ByR w w.heap.size A2 m c2 r)(hG:∀j,j<n→G j=F j)(hG2:∀j,j<m→G (n+j)=r j)(hn:n+m≤1000000000)(hbase:base≤w.heap.size):
  ∃A' c' w',(Builtin.append_ #[22,22] 22 #[.slice A n c,.slice A2 m c2]).run Tryz.prog w=.ok (.slice A' (n+m) c') w'∧
   w'.ownsRow base 5 1 (.slice A' (n+m) c') (n+m) (bytesL (n+m) G)∧Below base w w'∧(∀k,k<w.heap.size→(Value.slice A n c).ownBlock≠some k→w'.heap[k]?=w.heap[k]?)∧(∀j,(Value.slice A' (n+m) c').ownBlock=some j→(Value.slice A n c).ownBlock=some j∨w.heap.size≤j):=by
 have hsrc:SrcL w w.heap.size 1 A2 m (bytesL m r):=by
  refine⟨by simp[bytesL],fun h0=>?_⟩
  obtain⟨b,o,h1,h2,h3⟩:=hr.1.2 h0
  refine⟨b,o,h1,h2,fun j u hu=>?_⟩
  have hj:j<m:=by
   rcases Nat.lt_or_ge j m with g|g
   ·exact g
   ·rw[List.getElem?_eq_none (by simpa[bytesL]using g)]at hu;cases hu
  rw[h3 j hj,←hu]
  simp[bytesL,hj]
 obtain⟨A',c',w',h2,o2,b2,h5⟩:=run_app_s (z:=.int .u8 0) (by_:=1) Tryz.underlying22 infoU8 rfl (by decide) w base _ (.slice A n c) n _ hown A2 m c2 _
  hsrc (fun u hu=>by simp[bytesL]at hu;obtain⟨_,_,rfl⟩:=hu;rfl) (by unfold maxLen;omega) (by omega) 22 hr.2.1 hbase
 refine⟨A',c',w',h2,?_,(Below.refl base _).grown b2 hbase (own_geS hown),fun k hk hne=>b2.block k hk (fun e=>hne e.symm),fun j hj=>?_⟩
 ·have e:bytesL n F++bytesL m r=bytesL (n+m) G:=by
   unfold bytesL
   rw[List.range_add,List.map_append,List.map_map]
   congr 1
   ·refine List.map_congr_left fun j hj=>?_
    rw[hG j (List.mem_range.1 hj)]
   ·refine List.map_congr_left fun j hj=>?_
    simp only[Function.comp]
    rw[hG2 j (List.mem_range.1 hj)]
  rw[e]at o2
  exact o2
 ·rcases h5 with h5|h5
  ·exact .inl (h5▸hj)
  ·rw[h5]at hj
   injection hj with hj
   exact .inr (by omega)
end Go.Proofs.YtcmpmighjglnpaaGreat
namespace Go.Proofs.YtcmpmighjglnpaaGreat
open Go.RowKit Go.ChangeShapes Go.WideShapes Go.ChangeAt Go.Joins
theorem own_blk{w w':World}{base sz n:Nat}{e:TypeId}{v:Value}{xs:List Value}(h:w.ownsRow base e sz v n xs)(hk:∀j,v.ownBlock=some j→w'.heap[j]?=w.heap[j]?):w'.ownsRow base e sz v n xs:=by
 obtain⟨h1,h2⟩:=h
 refine⟨h1,?_⟩
 rcases h2 with h2|⟨g,cap,cur,hv,hg,hh,r⟩
 ·exact .inl h2
 ·exact .inr ⟨g,cap,cur,hv,hg,(hk g (by rw[hv];rfl)).trans hh,r⟩
theorem own_blk_lt{w:World}{base sz n:Nat}{e:TypeId}{v:Value}{xs:List Value}(h:w.ownsRow base e sz v n xs):∀j,v.ownBlock=some j→base≤j∧j<w.heap.size:=by
 intro j hj
 rcases h.2 with⟨rfl,_⟩|⟨g,cap,cur,rfl,hg,hh,_⟩
 ·simp[Value.ownBlock]at hj
 ·simp[Value.ownBlock]at hj
  subst hj
  exact⟨hg,(Array.getElem?_eq_some_iff.1 hh).1⟩
end Go.Proofs.YtcmpmighjglnpaaGreat
namespace Go.Proofs.YtcmpmighjglnpaaGreat
structure Ahead (g:Nat→Nat) (l:Nat) (h:Nat→Nat) (m:Nat):Prop where
 le:l≤m
 bits:∀j,j<8*l→bitAt g j=bitAt h j
section
variable {g h:Nat→Nat} {l m:Nat}
theorem Ahead.num(H:Ahead g l h m){a n:Nat}(hl:a+n≤8*l):numN h a n=numN g a n:=numN_congr n fun j hj=>(H.bits _ (by omega)).symm
theorem Ahead.read(H:Ahead g l h m){F:Nat→Nat}{N a:Nat}(e:(readR F N g l a 17 0).2.2≠10):readR F N h m a 17 0=readR F N g l a 17 0:=by
 rcases read_alone (f:=F) (N:=N) (a:=a) H.le H.bits 17 0 (.inl rfl)with r|⟨r,_⟩
 ·exact r.symm
 ·exact absurd (congrArg (fun x=>x.2.2) r) e
theorem Ahead.sh(H:Ahead g l h m){a:Nat}:∀{k},a+3*k≤8*l→shR h a k=shR g a k
 |0,_=>rfl
 |k+1,e=>by
  simp only[shR]
  rw[H.sh (by omega),H.num (by omega)]
theorem Ahead.len(H:Ahead g l h m){F:Nat→Nat}{n:Nat}:∀k a out,a≤8*l→(lenR F g l n k a out).2.2≠10→lenR F h m n k a out=lenR F g l n k a out
 |0,_,_,_,_=>rfl
 |k+1,a,out,ha,e=>by
  rw[lenR_s]at e
  rw[lenR_s,lenR_s]
  by_cases h0:n≤out.length
  ·rw[if_pos h0,if_pos h0]
  ·rw[if_neg h0]at e
   rw[if_neg h0,if_neg h0]
   have hr:=H.read (F:=F) (N:=19) (a:=a)
   have hin:=read_in (F:=F) (N:=19) (g:=g) ha
   generalize readR F 19 g l a 17 0=R at e hr hin⊢
   by_cases h1:R.2.2≠0
   ·have e2:R.2.2≠10:=by
     unfold lenG at e;rw[if_pos h1]at e;exact e
    rw[hr e2]
    unfold lenG
    rw[if_pos h1,if_pos h1]
   ·rw[hr (by omega)]
    obtain⟨r1,r2,_⟩:=hin (by omega)
    unfold lenG at e⊢
    rw[if_neg h1]at e
    rw[if_neg h1,if_neg h1]
    by_cases h2:8*l<R.2.1+bitsR (R.1:Int)
    ·rw[if_pos h2]at e;exact absurd rfl e
    ·have hm:=H.le
     rw[if_neg h2]at e
     rw[if_neg (show¬8*m<R.2.1+bitsR (R.1:Int) by omega),if_neg h2,H.num (by omega)]
     split at e
     ·rename_i h3
      rw[if_pos h3,if_pos h3]
     ·rename_i h3
      rw[if_neg h3,if_neg h3]
      exact H.len k _ _ (by omega) e
theorem Ahead.beg(H:Ahead g l h m){a:Nat}(e:(begR g l a).2.2≠10):begR h m a=begR g l a:=by
 have hm:=H.le
 unfold begR at e⊢
 by_cases h0:8*l<a+3
 ·rw[if_pos h0]at e;exact absurd rfl e
 ·rw[if_neg h0]at e
  rw[if_neg h0,if_neg (by omega),H.num (by omega)]
  generalize numN g a 3=v at e⊢
  unfold begW at e⊢
  by_cases h1:v/2=3
  ·rw[if_pos h1,if_pos h1]
  ·rw[if_neg h1]at e
   rw[if_neg h1,if_neg h1]
   by_cases h2:v/2=2
   ·rw[if_pos h2]at e
    rw[if_pos h2,if_pos h2]
    generalize decide (v%2=1)=la at e⊢
    unfold dynR at e⊢
    by_cases h3:8*l<a+3+14
    ·rw[if_pos h3]at e;exact absurd rfl e
    ·rw[if_neg h3]at e
     rw[if_neg h3,if_neg (by omega),H.num (by omega)]
     generalize numN g (a+3) 14=u at e⊢
     unfold dynV at e⊢
     by_cases h4:286<u%32+257∨30<u/32%32+1
     ·rw[if_pos h4,if_pos h4]
     ·rw[if_neg h4]at e
      rw[if_neg h4,if_neg h4]
      by_cases h5:8*l<a+3+14+3*(u/1024+4)
      ·rw[if_pos h5]at e;exact absurd rfl e
      ·rw[if_neg h5]at e
       rw[if_neg h5,if_neg (by omega),H.sh (by omega)]
       unfold dynS at e⊢
       split at e
       ·rename_i h6
        rw[if_pos h6,if_pos h6]
       ·rename_i h6
        rw[if_neg h6,if_neg h6]
        have hl:=H.len (F:=shR g (a+3+14) (u/1024+4)) (n:=u%32+257+(u/32%32+1)) (u%32+257+(u/32%32+1)) (a+3+14+3*(u/1024+4)) [] (by omega)
        generalize lenR (shR g (a+3+14) (u/1024+4)) g l (u%32+257+(u/32%32+1)) (u%32+257+(u/32%32+1)) (a+3+14+3*(u/1024+4)) []=R at e hl⊢
        have e2:R.2.2≠10:=by
         by_cases h7:R.2.2≠0
         ·unfold dynL at e;rw[if_pos h7]at e;exact e
         ·omega
        rw[hl e2]
   ·rw[if_neg h2]at e
    rw[if_neg h2,if_neg h2]
    by_cases h3:v/2=1
    ·rw[if_pos h3,if_pos h3]
    ·rw[if_neg h3]at e
     rw[if_neg h3,if_neg h3]
     unfold stoR at e⊢
     by_cases h4:8*l<(a+3+7)/8*8+32
     ·rw[if_pos h4]at e;exact absurd rfl e
     ·rw[if_neg h4,if_neg (by omega),H.num (by omega)]
theorem Ahead.ext(H:Ahead g l h m){far:Bool}{s a:Nat}(e:(extR far s g l a).2.2≠10):extR far s h m a=extR far s g l a:=by
 have hm:=H.le
 unfold extR at e⊢
 split at e
 ·rename_i h1
  rw[if_pos h1,if_pos h1]
 ·rename_i h1
  rw[if_neg h1,if_neg h1]
  by_cases h2:8*l<a+extB far s
  ·rw[if_pos h2]at e;exact absurd rfl e
  ·rw[if_neg h2,if_neg (by omega),H.num (by omega)]
theorem Ahead.next(H:Ahead g l h m){k:Blk13}{a:Nat}(e:(nextR k g l a).2.2.2≠10):nextR k h m a=nextR k g l a:=by
 have hm:=H.le
 unfold nextR at e⊢
 by_cases h0:k.kind=0
 ·rw[if_pos h0]at e
  rw[if_pos h0,if_pos h0]
  unfold nxtS at e⊢
  by_cases h1:k.left=0
  ·rw[if_pos h1,if_pos h1]
  ·rw[if_neg h1]at e
   rw[if_neg h1,if_neg h1]
   by_cases h2:8*l<a+8
   ·rw[if_pos h2]at e;exact absurd rfl e
   ·rw[if_neg h2,if_neg (by omega),H.num (by omega)]
 ·rw[if_neg h0]at e
  rw[if_neg h0,if_neg h0]
  have hr:=H.read (F:=k.F) (N:=k.n) (a:=a)
  generalize readR k.F k.n g l a 17 0=r at e hr⊢
  by_cases h1:r.2.2≠0
  ·have e2:r.2.2≠10:=by unfold nxtA at e;rw[if_pos h1]at e;exact e
   rw[hr e2]
   unfold nxtA
   rw[if_pos h1,if_pos h1]
  ·rw[hr (by omega)]
   unfold nxtA at e⊢
   rw[if_neg h1]at e
   rw[if_neg h1,if_neg h1]
   by_cases h2:r.1<256
   ·rw[if_pos h2,if_pos h2]
   ·rw[if_neg h2]at e
    rw[if_neg h2,if_neg h2]
    by_cases h3:r.1=256
    ·rw[if_pos h3,if_pos h3]
    ·rw[if_neg h3]at e
     rw[if_neg h3,if_neg h3]
     have hx:=H.ext (far:=false) (s:=r.1) (a:=r.2.1)
     generalize extR false r.1 g l r.2.1=x at e hx⊢
     by_cases h4:x.2.2≠0
     ·have e2:x.2.2≠10:=by unfold nxtB at e;rw[if_pos h4]at e;exact e
      rw[hx e2]
      unfold nxtB
      rw[if_pos h4,if_pos h4]
     ·rw[hx (by omega)]
      unfold nxtB at e⊢
      rw[if_neg h4]at e
      rw[if_neg h4,if_neg h4]
      have hq:=H.read (F:=k.G) (N:=k.m) (a:=x.2.1)
      generalize readR k.G k.m g l x.2.1 17 0=q at e hq⊢
      by_cases h5:q.2.2≠0
      ·have e2:q.2.2≠10:=by unfold nxtC at e;rw[if_pos h5]at e;exact e
       rw[hq e2]
       unfold nxtC
       rw[if_pos h5,if_pos h5]
      ·rw[hq (by omega)]
       unfold nxtC at e⊢
       rw[if_neg h5]at e
       rw[if_neg h5,if_neg h5]
       have hy:=H.ext (far:=true) (s:=q.1) (a:=q.2.1)
       generalize extR true q.1 g l q.2.1=y at e hy⊢
       have e2:y.2.2≠10:=by
        by_cases h6:y.2.2≠0
        ·unfold nxtD at e;rw[if_pos h6]at e;exact e
        ·omega
       rw[hy e2]
end
theorem stp_pre(out:List Nat)(t:Tok):out<+:stpT out t:=by
 unfold stpT;split
 ·exact⟨_,rfl⟩
 ·exact⟨_,rfl⟩
theorem asked_ok{L:Nat}{a:Int}(h:asked13 L a=0):L≤131072∧0≤a∧a.toNat≤8*L:=by
 unfold asked13 at h
 split at h
 ·omega
 ·split at h
  ·omega
  ·omega
end Go.Proofs.YtcmpmighjglnpaaGreat
namespace Go.Proofs.YtcmpmighjglnpaaGreat
structure Codes (k:Blk13) (F:Nat→Nat) (n:Nat) (G:Nat→Nat) (m:Nat):Prop where
 kind:k.kind≠0
 left:k.left=0
 hn:k.n=n
 hm:k.m=m
 cF:checkE F n 15=0
 cG:checkE G m 15=0
 eF:∀j,j<n→k.F j=F j
 eG:∀j,j<m→k.G j=G j
def Plays:List Nat→List Tok→Prop
 |_,[]=>True
 |out,t::l=>t.d≤(out.length:Int)∧Plays (stpT out t) l
end Go.Proofs.YtcmpmighjglnpaaGreat
namespace Go.Proofs.YtcmpmighjglnpaaGreat
open Go.RowKit
theorem OwnS.fr{S:Nat→Prop}{w w':World}{base:Nat}{v:Value}{s:List Int}(h:OwnS w base v s)(k:Fr S w w')(hS:∀j,S j→j<base):OwnS w' base v s:=
 own_blk h fun j hj=>k.block j (own_blk_lt h j hj).2 fun hs=>by have:=hS j hs;have:=(own_blk_lt h j hj).1;omega
theorem infoTree13:(Tryz.prog.info? 26).map (fun i=>(i.zero,i.size))=some (some (.agg (trA (fun _=>0) (.slice none 0 0))),17):=by kernel_rfl
theorem szTree17{Y:Array Value}(h:Y.size=17):(Tryz.prog.info? 26).map (·.size)=some Y.size:=by rw[h];exact szTree
theorem pgrow_any(w:World)(p:Nat)(A:Option Addr)(l c:Nat)(s:Rz)(h:Rdr w p A l c s)(B:Option Addr)(n cB:Nat)(f:Nat→Nat)(hB:RdB w w.heap.size B n f)(hn:n≤1000000)(most:Int):
  Calls Tryz.prog 126 #[.pointer (some ⟨p,0,none⟩),.slice B n cB,.int .i64 most] w fun e w'=>∃u,e=.returned (.agg (trA (grC f n most) u))∧Rdr w' p A l c (gwS f n most s)∧OwnS w' w.heap.size u (grS f n most)∧Fr (At p) w w':=by
 have hp:=h.lt
 obtain⟨Z,hZ⟩:∃Z,Z=trA (fun _=>0) (.slice none 0 0):=⟨_,rfl⟩
 obtain⟨k,hk⟩:∃k,k=w.heap.size:=⟨_,rfl⟩
 obtain⟨W1,hW1⟩:∃W1,W1=w.alloc (.cells Z 26):=⟨_,rfl⟩
 have hb1:Below k w W1:=by rw[hW1,hk];exact(Below.refl _ _).alloc (Nat.le_refl _) _
 have hs1:W1.heap.size=k+1:=by rw[hW1,hk];simp
 have z1:BoxC W1 k Z 26:=by rw[hW1,hk];exact BoxC.new w _ _
 have h1:Rdr W1 p A l c s:=BoxC.below h hb1 (by omega)
 have HC:=Lib.hid (tgrow_own W1 B n cB f most ((hB.below (hk▸hb1) (Nat.le_refl _)).more (by omega)) hn)
 have HZS:Hid (Z.size=17):=Lib.hid (by rw[hZ,trA_size])
 have hzb:∀u:World,(zeroValue 26).run Tryz.prog u=.ok (.agg Z) u:=by rw[hZ];exact(zero_of_info infoTree13).1
 have HG:Hid (gwS f n most s=wantS s (checkE f n most==0) 132):=Lib.hid rfl
 obtain⟨E,hE⟩:∃E,E=checkE f n most:=⟨_,rfl⟩
 rw[←hE]at HC HG
 have HW1:=Lib.hid hW1;have HK:=Lib.hid hk;have HB1:=Lib.hid hb1;have HS1:=Lib.hid hs1;have HZ1:=Lib.hid z1;have HR1:=Lib.hid h1;have HP:=Lib.hid hp
 clear h hB hZ hW1 hk hb1 hs1 z1 h1 hp hE
 go_enter Tryz.func126,Tryz.ntmps126
 go_wp2_with (first|(rw[←HW1.out,←HK.out])|fail)
 refine HC.out.mono ?_
 rintro e w2 ⟨u,rfl,o2,hb2⟩
 obtain⟨Y,hY⟩:∃Y,Y=trA (grC f n most) u:=⟨_,rfl⟩
 rw[←hY]
 have one:=o2.one
 have HYS:Hid (Y.size=17):=Lib.hid (by rw[hY,trA_size])
 have HYO:Hid (Y.all (·.oneCell')=true):=Lib.hid (by rw[hY];exact trA_one _ _ one)
 obtain⟨s2,hs2⟩:∃s,s=w2.heap.size:=⟨_,rfl⟩
 obtain⟨W3,hW3⟩:∃W,W=mkV w2 Z Y 26:=⟨_,rfl⟩
 have hb3:Below w2.heap.size w2 W3:=by rw[hW3];exact mkV_below _ _ _ _
 have y3:BoxC W3 s2 Y 26:=by rw[hW3,hs2];exact mkV_row w2 Z Y _
 have hsz:k+1≤w2.heap.size:=by have:=hb2.size;rw[HS1.out]at this;exact this
 have hb23:Below W1.heap.size W1 W3:=hb2.trans (hb3.mono hb2.size)
 have hr3:Rdr W3 p A l c s:=BoxC.below HR1.out hb23 (by rw[HS1.out];have:=HP.out;rw[←HK.out]at this;omega)
 have HZ3:Hid (BoxC W3 k Z 26):=Lib.hid (BoxC.below HZ1.out hb23 (by rw[HS1.out];omega))
 have HO3:Hid (OwnS W3 (k+1) u (grS f n most)):=Lib.hid (by rw[HS1.out]at o2;exact own_keepG o2 hb3)
 have HF3:Hid (Fr (At p) w W3):=Lib.hid ((Fr.of (HK.out▸HB1.out)).trans (Fr.of hb23))
 have HWA:=Lib.hid (pwant_any W3 p A l c s hr3 (E==0) 132)
 have HW3:=Lib.hid hW3;have HS2:=Lib.hid hs2;have HY3:=Lib.hid y3;have HYE:=Lib.hid hY;have HSZ:=Lib.hid hsz
 clear hY hs2 hW3 hb3 y3 hsz hb23 hr3 o2 hb2 one
 go_wp2_with (first
  |(refine wpList_store_rowTo rfl _ _ _ rfl rfl w2.heap.size Y rfl rfl 26 Z (heap_alloc_new w2 _) (szTree17 HYS.out) (by rw[HZS.out,HYS.out]) HYO.out ?_;change wpList _ _ _ _ _ (mkV w2 Z Y 26);rw[←HW3.out,←HS2.out])
  |fail)
 refine HWA.out.mono ?_
 rintro e w4 ⟨rfl,r4,f4⟩
 have hps:¬At p s2:=by show¬s2=p;have:=HSZ.out;have:=HS2.out;have:=HP.out;rw[←HK.out]at this;omega
 have hpk:¬At p k:=by show¬k=p;have:=HP.out;rw[←HK.out]at this;omega
 have HY4:=Lib.hid (HY3.out.fr f4 hps)
 have HZ4:=Lib.hid (HZ3.out.fr f4 hpk)
 have HO4:=Lib.hid (HO3.out.fr f4 (fun j (hj:j=p)=>by have:=HP.out;rw[←HK.out]at this;omega))
 have HR4:=Lib.hid r4;have HF4:=Lib.hid (HF3.out.trans f4)
 clear r4 f4 hps hpk
 go_wp2_with (first
  |(refine wpList_load_row rfl _ _ rfl s2 rfl _ Y (0,0) _ HY4.out Tryz.underlying26 rfl (szTree17 HYS.out) ?_)
  |(refine wpList_store_rowTo rfl _ _ _ rfl rfl k Y rfl rfl 26 Z HZ4.out (szTree17 HYS.out) (by rw[HZS.out,HYS.out]) HYO.out ?_)
  |fail)
 have hpk:p≠k:=by have:=HP.out;rw[←HK.out]at this;omega
 refine bodyPost_ret (v:=.agg Y) (results_cell_row rfl _ _ k _ _ (0,0) _ rfl (setRow_heap _ _ _ _ _ _ HZ4.out) Tryz.underlying26 rfl (szTree17 HYS.out)) rfl ⟨u,by rw[HYE.out],?_,?_,?_⟩
 ·rw[HG.out];exact BoxC.rowO HR4.out hpk _
 ·rw[←HK.out];exact ownsRow_lower (own_blk HO4.out fun j hj=>setRow_other _ _ _ _ (by have:=(own_blk_lt HO4.out j hj).1;omega)) (by omega)
 ·exact HF4.out.from (Fr.row w4 k Y) fun j hj=>.inr (by rw[←HK.out];exact Nat.le_of_eq hj.symm)
theorem infoRun13:(Tryz.prog.info? 166).map (fun i=>(i.zero,i.size))=some (some (.agg #[.int .i64 0,.int .i64 0]),2):=by kernel_rfl
theorem ptimes_any(w:World)(y x:Nat)(hy:y≤320)(hx:x≤1000):
  Calls Tryz.prog 141 #[.agg #[.int .i64 (y:Int),.int .i64 (x:Int)]] w fun e w'=>e=.returned (.int .i64 (timesR (y:Int) (x:Int):Int))∧Below w.heap.size w w':=by
 obtain⟨T,hT⟩:∃T:Nat,T=timesR (y:Int) (x:Int):=⟨_,rfl⟩
 rw[←hT]
 unfold timesR at hT
 by_cases e16:y=16
 ·subst e16
  rw[if_pos (.inl rfl)]at hT
  have e1:(3:Int)+(x:Int)=(T:Int):=by omega
  clear hT
  go_enter Tryz.func141,Tryz.ntmps141
  go_wp2
  go_ret
  exact⟨by first|rfl|go_num,(Below.refl _ _).alloc (Nat.le_refl _) _⟩
 by_cases e17:y=17
 ·subst e17
  rw[if_pos (.inr rfl)]at hT
  have e1:(3:Int)+(x:Int)=(T:Int):=by omega
  clear hT e16
  go_enter Tryz.func141,Tryz.ntmps141
  go_wp2
  go_ret
  exact⟨by first|rfl|go_num,(Below.refl _ _).alloc (Nat.le_refl _) _⟩
 rw[if_neg (by omega)]at hT
 by_cases e18:y=18
 ·subst e18
  rw[if_pos (show((18:Nat):Int)=18 from rfl)]at hT
  have e1:(11:Int)+(x:Int)=(T:Int):=by omega
  clear hT e16 e17
  go_enter Tryz.func141,Tryz.ntmps141
  go_wp2
  go_ret
  exact⟨by first|rfl|go_num,(Below.refl _ _).alloc (Nat.le_refl _) _⟩
 rw[if_neg (by omega)]at hT
 subst hT
 have q1:((y:Int)==16)=false:=beq_eq_false_iff_ne.2 (by omega)
 have q2:((y:Int)==17)=false:=beq_eq_false_iff_ne.2 (by omega)
 have q3:((y:Int)==18)=false:=beq_eq_false_iff_ne.2 (by omega)
 clear e16 e17 e18
 go_enter Tryz.func141,Tryz.ntmps141
 go_wp2
 go_ret
 exact⟨by first|rfl|go_num,(Below.refl _ _).alloc (Nat.le_refl _) _⟩
end Go.Proofs.YtcmpmighjglnpaaGreat
namespace Go.Proofs.YtcmpmighjglnpaaGreat
open Go.RowKit
theorem bitV_nat(y:Nat):bitV (y:Int)=((bitsR (y:Int):Nat):Int):=by
 unfold bitV
 split
 ·rfl
 ·unfold bitsR
  rw[if_neg (by omega),if_neg (by omega),if_neg (by omega)];rfl
theorem built_run13(y x:Int):Tryz.prog.built 166 [(0,.int .i64 y),(1,.int .i64 x)]=some #[.int .i64 y,.int .i64 x]:=by kernel_rfl
theorem szRun13{Y:Array Value}(h:Y.size=2):(Tryz.prog.info? 166).map (·.size)=some Y.size:=by rw[h];exact(zero_of_info infoRun13).2
theorem prun_any(w:World)(p:Nat)(A:Option Addr)(l c:Nat)(g:Nat→Nat)(s:Rz)(h:Rdr w p A l c s)(S:Nat→Prop)(hS:S p)(hg:RdF S w A l g)(hl:l≤1000000)(hs:s.1≤8*l)(F:Nat→Nat)(ct:Nat→Int)(u:Value)(hu:u.oneCell'=true)(ht:s.2=0→TrF S w F ct u):
  Calls Tryz.prog 140 #[.pointer (some ⟨p,0,none⟩),.agg (trA ct u)] w fun e w'=>e=.returned (.agg #[.int .i64 (ruY F g l s:Int),.int .i64 (ruX F g l s:Int)])∧Rdr w' p A l c (ruS F g l s)∧Fr (At p) w w':=by
 have hp:=h.lt
 obtain⟨k,hk⟩:∃k,k=w.heap.size:=⟨_,rfl⟩
 obtain⟨T,hT⟩:∃T,T=trA ct u:=⟨_,rfl⟩
 rw[←hT]
 obtain⟨W1,hW1⟩:∃W1,W1=(w.alloc (.cells T 26)).alloc (.cells #[.int .i64 0,.int .i64 0] 166):=⟨_,rfl⟩
 have hb1:Below k w W1:=by rw[hW1,hk];exact((Below.refl _ _).alloc (Nat.le_refl _) _).alloc (by simp) _
 have hs1:W1.heap.size=k+2:=by rw[hW1,hk];simp
 have t1:BoxC W1 k T 26:=by rw[hW1,hk];exact(BoxC.new w _ _).old _
 have z1:BoxC W1 (k+1) #[.int .i64 0,.int .i64 0] 166:=by rw[hW1,hk];have:=BoxC.new (w.alloc (.cells T 26)) #[.int .i64 0,.int .i64 0] 166;rwa[World.size_alloc]at this
 have fW:Fr S w W1:=Fr.of (hk▸hb1)
 have hTS:Hid (T.size=17):=Lib.hid (by rw[hT,trA_size])
 have HC:=psym_any W1 p A l c g s (BoxC.below h hb1 (by omega)) (hg.fr fW).1 hl hs S F ct u hu (fun e=>(ht e).fr fW)
 rw[←hT]at HC
 have hpk:¬At p k:=by show¬k=p;omega
 have hpk1:¬At p (k+1):=by show¬k+1=p;omega
 have hy:syV (readR F 320 g l s.1 17 0) s=ruY F g l s:=rfl
 have hss:syS (readR F 320 g l s.1 17 0) s=ruS1 F g l s:=rfl
 rw[hy,hss]at HC
 have hx:ruX F g l s=tkV g l (bitsR (ruY F g l s:Int)) (ruS1 F g l s):=rfl
 have hxs:ruS F g l s=tkS l (bitsR (ruY F g l s:Int)) (ruS1 F g l s):=rfl
 have hin:(ruS1 F g l s).1≤8*l:=syS_in hs
 have h7:=bitsR_le (ruY F g l s:Int)
 have HBV:bitV (ruY F g l s:Int)=_:=bitV_nat _
 obtain⟨y,hy2⟩:∃y,y=ruY F g l s:=⟨_,rfl⟩
 obtain⟨s1,hs12⟩:∃y,y=ruS1 F g l s:=⟨_,rfl⟩
 rw[←hy2,←hs12]at HC hx hxs
 rw[←hy2]at HBV h7⊢
 rw[←hs12]at hin
 rw[hx,hxs]
 obtain⟨n,hn⟩:∃n,n=bitsR (y:Int):=⟨_,rfl⟩
 rw[←hn]at HBV h7⊢
 have HB10:=Lib.hid fun V=>bits10_any V (y:Int)
 rw[HBV]at HB10
 obtain⟨bE,hbE⟩:∃b,b=bitE (y:Int):=⟨_,rfl⟩
 rw[←hbE]at HB10
 have HCC:=Lib.hid HC;have HW1:=Lib.hid hW1;have HK:=Lib.hid hk;have HT1:=Lib.hid t1;have HZ1:=Lib.hid z1;have HFW:=Lib.hid (Fr.of (S:=At p) (hk▸hb1));have HGF:=Lib.hid (hg.fr fW);have HS1:=Lib.hid hs1
 have HNA:Hid (¬At p k∧¬At p (k+1)):=Lib.hid ⟨hpk,hpk1⟩
 have HSP:Hid (∀j,At p j→S j):=Lib.hid fun j (e:j=p)=>e▸hS
 clear h hg hT hW1 hk hb1 hs1 t1 z1 fW HC hpk hpk1 hy hss hx hxs hy2 hs12 hn HBV hbE hp hu ht hS
 go_enter Tryz.func140,Tryz.ntmps140
 go_wp2_with (first
  |(rw[←HW1.out,←HK.out])
  |(refine wpList_load_row rfl _ _ rfl k rfl _ T (0,0) _ HT1.out Tryz.underlying26 rfl (szTree17 hTS.out) ?_)
  |fail)
 refine HCC.out.mono ?_
 rintro e w2 ⟨rfl,r2,f2⟩
 have HR2:=Lib.hid r2;have HF2:=Lib.hid (HFW.out.trans f2);have HZ2:=Lib.hid (HZ1.out.fr f2 HNA.out.2);have HG2:=Lib.hid (HGF.out.fr (f2.mono HSP.out));have HX2:=Lib.hid f2.size
 clear r2 f2
 go_wp2_with fail
 refine(HB10.out w2).mono ?_
 rintro e w3 ⟨rfl,hb3⟩
 have HR3:=Lib.hid (BoxC.below HR2.out hb3 HR2.out.lt:Rdr w3 p A l c s1);have HF3:=Lib.hid (HF2.out.on hb3);have HZ3:=Lib.hid (HZ2.out.below hb3 HZ2.out.lt);have HG3:=Lib.hid (HG2.out.fr (Fr.of hb3))
 have HTK:=Lib.hid (ptake_any w3 p A l c g s1 HR3.out HG3.out.1 hl hin n (by omega))
 clear hb3 HB10 HCC HR2 HG2 HZ2
 go_wp2_with fail
 refine HTK.out.mono ?_
 rintro e w4 ⟨rfl,r4,f4⟩
 obtain⟨x,hx⟩:∃x,x=tkV g l n s1:=⟨_,rfl⟩
 rw[←hx]
 have HR4:=Lib.hid r4;have HF4:=Lib.hid (HF3.out.trans f4);have HZ4:=Lib.hid (HZ3.out.fr f4 HNA.out.2)
 have HBU:Hid (Tryz.prog.built 166 [(0,.int .i64 (y:Int)),(1,.int .i64 (x:Int))]=some #[.int .i64 (y:Int),.int .i64 (x:Int)]):=Lib.hid (built_run13 _ _)
 obtain⟨Y,hY⟩:∃Y:Array Value,Y=#[.int .i64 (y:Int),.int .i64 (x:Int)]:=⟨_,rfl⟩
 rw[←hY]at HBU
 have HYE:=Lib.hid hY;have HXE:=Lib.hid hx
 have HYS:Hid (Y.size=2):=Lib.hid (by rw[hY];rfl)
 have HYO:Hid (Y.all (·.oneCell')=true):=Lib.hid (by rw[hY];simp[Value.oneCell'])
 clear r4 f4 HTK hx hY HZ3 HR3 HG3
 go_wp2_with (first
  |(refine wpList_buildTo rfl 166 #[(0,.tmp 16),(1,.tmp 19)] rfl (some 20) rfl Y ?_ ?_;focus(simpa[Act.eval]using HBU.out))
  |(refine wpList_store_rowTo rfl _ _ _ rfl rfl (k+1) Y rfl rfl 166 #[.int .i64 0,.int .i64 0] HZ4.out (szRun13 HYS.out) (by rw[HYS.out];rfl) HYO.out ?_)
  |fail)
 refine bodyPost_ret (v:=.agg Y) (results_cell_row rfl _ _ (k+1) _ _ (0,0) _ rfl (setRow_heap _ _ _ _ _ _ HZ4.out) Tryz.underlying166 rfl (szRun13 HYS.out)) rfl ⟨by rw[HYE.out,HXE.out],?_,?_⟩
 ·exact BoxC.rowO HR4.out (fun e=>HNA.out.2 e.symm) _
 ·exact HF4.out.from (Fr.row w4 (k+1) Y) fun j hj=>.inr (by rw[←HK.out];have:j=k+1:=hj;omega)
theorem al_int(a:Nat):((a:Int)+7)/8*8=(((a+7)/8*8:Nat):Int):=by omega
theorem psize_any(w:World)(p:Nat)(A:Option Addr)(l c:Nat)(g:Nat→Nat)(s:Rz)(h:Rdr w p A l c s)(S:Nat→Prop)(hS:S p)(hg:RdF S w A l g)(hl:l≤1000000)(hs:s.1≤8*l):
  Calls Tryz.prog 99 #[.pointer (some ⟨p,0,none⟩)] w fun e w'=>e=.returned (.int .i64 (sizV g l s:Int))∧Rdr w' p A l c (sizS g l s)∧Fr (At p) w w':=by
 have c1:=h.a
 have f1:=h.free 1
 have HSP:Hid (∀j,At p j→S j):=Lib.hid fun j (e:j=p)=>e▸hS
 have ha:=al_int s.1
 have hal:alS s=((s.1+7)/8*8,s.2):=rfl
 obtain⟨b,hb⟩:∃b,b=(s.1+7)/8*8:=⟨_,rfl⟩
 rw[←hb]at ha hal
 have hb8:b≤8*l:=by omega
 have hs8:s.1≤8000000:=by omega
 obtain⟨W1,hW1⟩:∃W,W=w.setCell ⟨p,1,none⟩ (.int .i64 (b:Int)):=⟨_,rfl⟩
 have r1:Rdr W1 p A l c (b,s.2):=by rw[hW1];exact h.setA b
 have HF1:Hid (Fr (At p) w W1):=Lib.hid (by rw[hW1];exact Fr.cell _ _ _ _)
 have HG1:=Lib.hid (hg.fr (HF1.out.mono HSP.out))
 have HT1:=Lib.hid (ptake_lit W1 p A l c g (b,s.2) r1 HG1.out.1 hl hb8 16 16 rfl (by omega))
 have hV:sizV g l s=tkV g l 16 (b,s.2):=by unfold sizV;rw[hal]
 have hSS:sizS g l s=wantS (tkS l 16 (tkS l 16 (b,s.2))) (decide ((tkV g l 16 (tkS l 16 (b,s.2)):Int)=65535-(tkV g l 16 (b,s.2):Int))) 131:=by unfold sizS;rw[hV,hal]
 rw[hV,hSS]
 obtain⟨x,hx⟩:∃x,x=tkV g l 16 (b,s.2):=⟨_,rfl⟩
 obtain⟨s2,hs2⟩:∃x,x=tkS l 16 (b,s.2):=⟨_,rfl⟩
 rw[←hx,←hs2]at HT1⊢
 have h2:s2.1≤8*l:=by rw[hs2];exact tkS_in hb8
 have hx2:x<65536:=by rw[hx];exact tkV_lt _ _ _ _
 obtain⟨y,hy⟩:∃x,x=tkV g l 16 s2:=⟨_,rfl⟩
 have hy2:y<65536:=by rw[hy];exact tkV_lt _ _ _ _
 rw[←hy]
 have HY:=Lib.hid hy;have HW1:=Lib.hid hW1
 obtain⟨a,e⟩:=s
 have c1':w.cell? ⟨p,1,none⟩=some (.int .i64 (a:Int)):=c1
 have ha':((a:Int)+7)/8*8=(b:Int):=ha
 have hs8':a≤8000000:=hs8
 clear h hg c1 ha hal hb hb8 hs8 r1 hV hSS hx hs2 hy hW1 hs hS
 go_enter Tryz.func99,Tryz.ntmps99
 go_wp2_with fail
 rw[←HW1.out]
 refine HT1.out.mono ?_
 rintro e w2 ⟨rfl,r2,f2⟩
 have HR2:=Lib.hid r2;have HF2:=Lib.hid (HF1.out.trans f2);have HG2:=Lib.hid (HG1.out.fr (f2.mono HSP.out))
 have HT2:=Lib.hid (ptake_lit w2 p A l c g s2 HR2.out HG2.out.1 hl h2 16 16 rfl (by omega))
 rw[←HY.out]at HT2
 clear r2 f2 HT1 HG1 HF1
 go_wp2_with fail
 refine HT2.out.mono ?_
 rintro e w3 ⟨rfl,r3,f3⟩
 have HW:=Lib.hid (pwant_any w3 p A l c _ r3 (decide ((y:Int)=65535-(x:Int))) 131)
 have HF3:=Lib.hid (HF2.out.trans f3)
 clear r3 f3 HT2 HG2 HF2 HR2
 go_wp2_with fail
 refine HW.out.mono ?_
 rintro e w4 ⟨rfl,r4,f4⟩
 have HR4:=Lib.hid r4;have HF4:=Lib.hid (HF3.out.trans f4)
 clear r4 f4 HW HF3
 go_wp2
 go_ret
 exact⟨rfl,HR4.out,HF4.out⟩
theorem cell_twoT{fn:Func}{p q:Tmp}(h:fn.results=#[.cell p 26,.cell q 26])(tmps:Array Value)(w:World)(g g2:Nat)(X Y:Array Value)(hX:X.size=17)(hY:Y.size=17)(hp:tmps.getD p undef=.pointer (some ⟨g,0,none⟩))(hq:tmps.getD q undef=.pointer (some ⟨g2,0,none⟩))
  (ht:BoxC w g X 26) (ht2:BoxC w g2 Y 26):
  (results fn tmps).run Tryz.prog w=.ok (.tuple #[.agg X,.agg Y]) w:=by
 have hp':tmps[p]?.getD undef=.pointer (some ⟨g,0,none⟩):=by simpa using hp
 have hq':tmps[q]?.getD undef=.pointer (some ⟨g2,0,none⟩):=by simpa using hq
 have hl:=run_loadVar_row (P:=Tryz.prog) w g 26 26 _ (0,0) _ ht Tryz.underlying26 rfl (szTree17 hX)
 have hl2:=run_loadVar_row (P:=Tryz.prog) w g2 26 26 _ (0,0) _ ht2 Tryz.underlying26 rfl (szTree17 hY)
 simp[results,h,hp',hq',asAddr,hl,hl2]
end Go.Proofs.YtcmpmighjglnpaaGreat
