/-
  Words and walks.
-/
import Derived.Test.YtgokdgcmkcmjeaaGreatpram
import Derived.Test.YtgokdgcmkcmjeaaGreatprao
set_option maxRecDepth 100000
set_option maxHeartbeats 16000000
namespace Go.Proofs.YtgokdgcmkcmjeaaGreat
open Go.RowKit Go.ChangeShapes Go.WideShapes Go.ChangeAt Go.Joins
theorem bits10_any(w:World)(s:Int):Calls Tryz.prog 173 #[.int .i64 s] w fun e w'=>e=.returned (.tuple #[.int .i64 (bitV s),.int .i64 (bitE s)])∧Below w.heap.size w w':=
 (lbits10_any w s).mono fun _ _ ⟨a,b⟩=>⟨a,b▸Below.refl _ _⟩
theorem valR_valD(s:Int)(L:List Nat):valR s L=valD s (L.getLast?.getD 0):=rfl
theorem str10_any(w:World)(A:Option Addr)(m c:Nat)(l:List (Int×Int))(n:Int)(hr:RuR w w.heap.size A m c l)(hm:m≤1000000)(_: -9223372036854775808≤n)(_:n≤9223372036854775807):
  Calls Tryz.prog 139 #[.slice A m c,.int .i64 n] w fun e w'=>∃A' n' c',e=.returned (.tuple #[.slice A' n' c',.int .i64 (strO l n).1])∧n'=(strO l n).2.length∧ByR w' w'.heap.size A' n' c' (lst (strO l n).2)∧Below w.heap.size w w'∧NewB w' w.heap.size A' n':=by
 obtain⟨hml,hrd,_⟩:=hr
 obtain⟨O,hO⟩:∃O,O=strO l n:=⟨_,rfl⟩
 rw[←hO]
 unfold strO at hO
 have HT:=Lib.hid hrd;have HM:=Lib.hid hml;have HO:=Lib.hid hO
 have hnl:∀j,lst [] j<256:=fun j=>by unfold lst;simp
 have HNL:=Lib.hid hnl
 have HB:=Lib.hid (Below.refl w.heap.size w)
 clear hrd hO hml hnl
 by_cases y0:n<0
 ·have d0:decide (n<0)=true:=decY0 y0
  obtain rfl:O=(2,[]):=by rw[HO.out,if_pos (.inl y0)]
  go_enter Tryz.func139,Tryz.ntmps139
  go_wp2
  go_ret2
  exact⟨none,0,0,rfl,rfl,ByR.nil _ _ _ HNL.out,HB.out,NewB.nil _ _ _⟩
 have d0:decide (n<0)=false:=decN0 y0
 by_cases y1:320<n
 ·have d1:decide (320<n)=true:=decY0 y1
  obtain rfl:O=(2,[]):=by rw[HO.out,if_pos (.inr y1)]
  go_enter Tryz.func139,Tryz.ntmps139
  go_wp2
  go_ret2
  exact⟨none,0,0,rfl,rfl,ByR.nil _ _ _ HNL.out,HB.out,NewB.nil _ _ _⟩
 have d1:decide (320<n)=false:=decN0 y1
 obtain⟨N,rfl⟩:=Int.eq_ofNat_of_zero_le (show 0≤n by omega)
 have hO2:O=strR N l []:=by rw[HO.out,if_neg (by omega),Int.toNat_natCast]
 have HO2:=Lib.hid hO2
 have hN:N≤320:=by omega
 have hmk:=make_cap8 N (by omega)
 obtain⟨W1,hW1⟩:∃W1,W1=w.alloc (.cells (madeCells #[.int .u8 0] N) 5):=⟨_,rfl⟩
 have hb1:Below w.heap.size w W1:=by rw[hW1];exact(Below.refl _ _).alloc (Nat.le_refl _) _
 have ho1:W1.ownsRow w.heap.size 5 1 (.slice (some ⟨w.heap.size,0,none⟩) 0 N) 0 (bytesL 0 (lst [])):=by rw[hW1];exact own_madeB w N (by omega) _
 have HB1:=Lib.hid hb1;have HO1:=Lib.hid ho1;have HW1:=Lib.hid hW1
 clear hO2 HO HB hb1 ho1 hW1 y0 y1
 go_enter Tryz.func139,Tryz.ntmps139
 go_wp2_with (rw[←HW1.out])
 clear hmk
 go_loopw [6,22] (fun ov iv wr=>∃(i q:Nat) (At:Option Addr) (ct:Nat) (L:List Nat),i≤m∧q≤N∧ov=.slice At q ct∧iv=.int .i64 (i:Int)∧Hid (q=L.length)∧Hid (strR N (l.drop i) L=O)∧Hid (∀x∈L,x<256)∧Hid (wr.ownsRow w.heap.size 5 1 (.slice At q ct) q (bytesL q (lst L)))∧Hid (Below w.heap.size w wr)) (fun _ iv _=>m-(intOf iv).toNat)
 case atStart=>exact⟨0,0,some ⟨w.heap.size,0,none⟩,N,[],Nat.zero_le _,Nat.zero_le _,rfl,rfl,Lib.hid rfl,Lib.hid HO2.out.symm,Lib.hid (fun x hx=>by cases hx),HO1,HB1⟩
 case round=>
  obtain⟨i,q,At,ct,L,hi,hqN,rfl,rfl,HQ,HP,HL,HW,HB⟩:=hrel
  by_cases hlt:i<m
  ·have hlti:(i:Int)<(m:Int):=by omega
   have hil:i<l.length:=by rw[←HM.out];exact hlt
   have htw:=HT.out.below HB.out (Nat.le_refl _)
   obtain⟨b,o,rfl,hbl,hc⟩:=htw.at hil
   have hrg:=htw.range rfl hil
   have hstep:=strR_step (N:=N) hil L
   rw[HP.out]at hstep
   obtain⟨t,ht⟩:∃t,t=l.getD i run0:=⟨_,rfl⟩
   rw[←ht]at hrg hstep
   obtain⟨s,x⟩:=t
   dsimp only at hstep
   have HRG:=Lib.hid (show wr.rangeAt b (o+i*2) [.int .i64 s,.int .i64 x]from hrg);have HSTEP:=Lib.hid hstep
   obtain⟨M,hMe⟩:∃M,M=decide (mayU s x):=⟨_,rfl⟩
   have HMY:Hid (∀V:World,Calls Tryz.prog 175 #[.agg #[.int .i64 s,.int .i64 x]] V fun e w'=>e=.returned (.bool M)∧Below V.heap.size V w'):=Lib.hid fun V=>by rw[hMe];exact may10_any V s x
   obtain⟨W3,hW3⟩:∃W3,W3=wr.alloc (.cells #[.int .i64 s,.int .i64 x] 208):=⟨_,rfl⟩
   have hb3:Below wr.heap.size wr W3:=by rw[hW3];exact(Below.refl _ _).alloc (Nat.le_refl _) _
   have hbx:BoxW W3 wr.heap.size (.int .i64 s) (.int .i64 x):=by rw[hW3];exact BoxW.new wr _ _ _
   have hrow:W3.heap[wr.heap.size]?=some (.cells #[.int .i64 s,.int .i64 x] 208 (0,0)):=by rw[hW3];exact heap_alloc_new wr _
   have HW3:=Lib.hid hW3;have HB3:=Lib.hid (HB.out.trans (hb3.mono HB.out.size));have HBX:=Lib.hid hbx;have HROW:=Lib.hid hrow
   have HOW3:Hid (W3.ownsRow w.heap.size 5 1 (.slice At q ct) q (bytesL q (lst L))):=Lib.hid (own_keep HW.out hb3)
   clear hc htw hrg hstep ht hil hW3 hb3 hbx hrow
   by_cases hmay:mayU s x
   ·skip
    obtain rfl:M=true:=by rw[hMe];exact decY0 hmay
    have hst:=HSTEP.out
    unfold mayU at hmay
    rw[if_neg hmay]at hst
    have hkl:=p2U_le (bitsR_le s)
    have hpk:(2^bitsR s:Nat)=p2U (bitsR s):=rfl
    obtain⟨p2,hp2⟩:∃p2,p2=p2U (bitsR s):=⟨_,rfl⟩
    rw[hpk,←hp2]at hmay
    rw[←hp2]at hkl
    have hsr:0≤s∧s≤18:=by omega
    obtain⟨X,rfl⟩:=Int.eq_ofNat_of_zero_le (show 0≤x by omega)
    have hXl:X≤1000:=by omega
    have htl:timesR s (X:Int)≤139:=timesR_le (by omega)
    obtain⟨T,hT⟩:∃T,T=timesR s (X:Int):=⟨_,rfl⟩
    obtain⟨V,hV⟩:∃V,V=valR s L:=⟨_,rfl⟩
    have hV8:V<256:=by rw[hV];exact valR_lt HL.out
    rw[←hT]at htl
    rw[←hT,←hV]at hst
    have hq0:(L=[])↔q=0:=by rw[HQ.out];exact List.length_eq_zero_iff.symm
    have hlr:∀j,∀x∈L++List.replicate j V,x<256:=fun j y hy=>by
     rcases List.mem_append.1 hy with hy|hy
     ·exact HL.out y hy
     ·rw[List.mem_replicate]at hy;rw[hy.2];exact hV8
    have HLR:=Lib.hid hlr;have HST:=Lib.hid hst;have HQ0:=Lib.hid hq0
    have HDO:Hid (∀(Y:World) (v:Nat),v=L.getLast?.getD 0→Calls Tryz.prog 176 #[.agg #[.int .i64 s,.int .i64 (X:Int)],.int .u8 (v:Int)] Y fun e w'=>e=.returned (.tuple #[.int .u8 (V:Int),.int .i64 (T:Int)])∧Below Y.heap.size Y w'):=
     Lib.hid fun Y v hv=>by
      have h:=does10_any Y s X v hXl hsr
      rw[←hT,hv,←valR_valD,←hV]at h
      rw[hv];exact h
    clear hst hlr hq0 hmay hkl hpk hp2 hMe hT hV HSTEP
    by_cases hq:q=0
    ·have HQZ:=Lib.hid hq
     have dq:decide (0<(q:Int))=false:=by simp;omega
     have dq':decide (0<q)=false:=by simp;omega
     by_cases hs16:s=16
     ·have e16:(s==16)=true:=by simp[hs16]
      have hst:=HST.out
      rw[if_pos (.inl ⟨hs16,HQ0.out.2 hq⟩)]at hst
      subst hst
      clear HST hs16 hq HQ0 hsr
      go_wp2_with (first
       |(refine wpList_load_mid rfl _ _ rfl b (o+i*2) rfl [.int .i64 s,.int .i64 (X:Int)] _ HRG.out Tryz.underlying208 rfl szRun ?_)
       |(rw[←HW3.out];refine wpList_load_row rfl _ _ rfl wr.heap.size rfl _ #[.int .i64 s,.int .i64 (X:Int)] (0,0) _ HROW.out Tryz.underlying208 rfl szRun ?_))
      refine(HMY.out _).mono ?_
      rintro e w2 ⟨rfl,hb2⟩
      have HB2:=Lib.hid (HB3.out.trans (hb2.mono HB3.out.size))
      have HOW2:Hid (w2.ownsRow w.heap.size 5 1 (.slice At q ct) q (bytesL q (lst L))):=Lib.hid (own_keep HOW3.out hb2)
      have hx2:=HBX.out.below hb2 HBX.out.lt
      have z0:=hx2.c0
      have HRX:Hid (w2.rangeAt wr.heap.size 0 [.int .i64 s,.int .i64 (X:Int)]):=Lib.hid (show w2.rangeAt wr.heap.size 0 (runC (s,(X:Int)))from runRange hx2.c0 hx2.c1)
      clear hb2 hx2
      go_wp2
      go_ret2
      exact⟨none,0,0,rfl,rfl,ByR.nil _ _ _ HNL.out,HB2.out,NewB.nil _ _ _⟩
     have e16:(s==16)=false:=by simp[hs16]
     have HNO:Hid (¬s=16):=Lib.hid hs16
     clear hs16 hq hsr
     by_cases hro:N<q+T
     ·skip
      have hst:=HST.out
      rw[if_pos (.inr (by rw[←HQ.out];exact hro))]at hst
      subst hst
      obtain⟨qt,hqt⟩:∃qt,qt=q+T:=⟨_,rfl⟩
      have eqt:(q:Int)+(T:Int)=(qt:Int):=by omega
      rw[←hqt]at hro
      have dr:(N:Int)<(qt:Int):=by omega
      clear HST hqt hro
      go_wp2_with (first
       |(refine wpList_load_mid rfl _ _ rfl b (o+i*2) rfl [.int .i64 s,.int .i64 (X:Int)] _ HRG.out Tryz.underlying208 rfl szRun ?_)
       |(rw[←HW3.out];refine wpList_load_row rfl _ _ rfl wr.heap.size rfl _ #[.int .i64 s,.int .i64 (X:Int)] (0,0) _ HROW.out Tryz.underlying208 rfl szRun ?_))
      refine(HMY.out _).mono ?_
      rintro e w2 ⟨rfl,hb2⟩
      have HB2:=Lib.hid (HB3.out.trans (hb2.mono HB3.out.size))
      have HOW2:Hid (w2.ownsRow w.heap.size 5 1 (.slice At q ct) q (bytesL q (lst L))):=Lib.hid (own_keep HOW3.out hb2)
      have hx2:=HBX.out.below hb2 HBX.out.lt
      have z0:=hx2.c0
      have HRX:Hid (w2.rangeAt wr.heap.size 0 [.int .i64 s,.int .i64 (X:Int)]):=Lib.hid (show w2.rangeAt wr.heap.size 0 (runC (s,(X:Int)))from runRange hx2.c0 hx2.c1)
      clear hb2 hx2
      skip
      go_wp2_with (refine wpList_load_mid rfl _ _ rfl wr.heap.size 0 rfl [.int .i64 s,.int .i64 (X:Int)] _ HRX.out Tryz.underlying208 rfl szRun ?_)
      refine(show Calls Tryz.prog 176 #[.agg #[.int .i64 s,.int .i64 (X:Int)],.int .u8 0] w2 _ from HDO.out _ 0 (by rw[HQ0.out.2 HQZ.out];rfl)).mono ?_
      rintro e w3 ⟨rfl,hb3⟩
      have HB3b:=Lib.hid (HB2.out.trans (hb3.mono HB2.out.size))
      have HOW4:Hid (w3.ownsRow w.heap.size 5 1 (.slice At q ct) q (bytesL q (lst L))):=Lib.hid (own_keep HOW2.out hb3)
      clear hb3
      go_wp2
      go_ret2
      exact⟨none,0,0,rfl,rfl,ByR.nil _ _ _ HNL.out,HB3b.out,NewB.nil _ _ _⟩
     have hst:=HST.out
     rw[if_neg (by rintro(⟨g,h⟩|g);exact HNO.out g;rw[←HQ.out]at g;exact hro g)]at hst
     have HNX:=Lib.hid hst.symm
     obtain⟨qt,hqt⟩:∃qt,qt=q+T:=⟨_,rfl⟩
     have eqt:(q:Int)+(T:Int)=(qt:Int):=by omega
     have dr:¬(N:Int)<(qt:Int):=by omega
     have dr2:decide (N<qt)=false:=decN0 (by omega)
     have hqtl:q+T≤N:=by omega
     clear HST hst hqt hro
     go_wp2_with (first
      |(refine wpList_load_mid rfl _ _ rfl b (o+i*2) rfl [.int .i64 s,.int .i64 (X:Int)] _ HRG.out Tryz.underlying208 rfl szRun ?_)
      |(rw[←HW3.out];refine wpList_load_row rfl _ _ rfl wr.heap.size rfl _ #[.int .i64 s,.int .i64 (X:Int)] (0,0) _ HROW.out Tryz.underlying208 rfl szRun ?_))
     refine(HMY.out _).mono ?_
     rintro e w2 ⟨rfl,hb2⟩
     have HB2:=Lib.hid (HB3.out.trans (hb2.mono HB3.out.size))
     have HOW2:Hid (w2.ownsRow w.heap.size 5 1 (.slice At q ct) q (bytesL q (lst L))):=Lib.hid (own_keep HOW3.out hb2)
     have hx2:=HBX.out.below hb2 HBX.out.lt
     have z0:=hx2.c0
     have HRX:Hid (w2.rangeAt wr.heap.size 0 [.int .i64 s,.int .i64 (X:Int)]):=Lib.hid (show w2.rangeAt wr.heap.size 0 (runC (s,(X:Int)))from runRange hx2.c0 hx2.c1)
     clear hb2 hx2
     skip
     go_wp2_with (refine wpList_load_mid rfl _ _ rfl wr.heap.size 0 rfl [.int .i64 s,.int .i64 (X:Int)] _ HRX.out Tryz.underlying208 rfl szRun ?_)
     refine(show Calls Tryz.prog 176 #[.agg #[.int .i64 s,.int .i64 (X:Int)],.int .u8 0] w2 _ from HDO.out _ 0 (by rw[HQ0.out.2 HQZ.out];rfl)).mono ?_
     rintro e w3 ⟨rfl,hb3⟩
     have HB3b:=Lib.hid (HB2.out.trans (hb3.mono HB2.out.size))
     have HOW4:Hid (w3.ownsRow w.heap.size 5 1 (.slice At q ct) q (bytesL q (lst L))):=Lib.hid (own_keep HOW2.out hb3)
     clear hb3
     clear z0
     obtain⟨wo,rfl⟩:∃wo:World,wo=wr:=⟨_,rfl⟩
     go_wp2
     go_loopw [6,54] (fun ov kv wr=>∃(j p:Nat) (Ai:Option Addr) (ci:Nat),j≤T∧p=q+j∧ov=.slice Ai p ci∧kv=.int .i64 (j:Int)∧Hid (wr.ownsRow w.heap.size 5 1 (.slice Ai p ci) p (bytesL p (lst (L++List.replicate j V))))∧Hid (Below w.heap.size w wr)) (fun _ kv _=>T-(intOf kv).toNat)
     case atStart=>exact⟨0,q,At,ct,Nat.zero_le _,rfl,rfl,rfl,Lib.hid (by rw[List.replicate_zero,List.append_nil];exact HOW4.out),HB3b⟩
     case round=>
      obtain⟨j,p,Ai,ci,hj,hpj,rfl,rfl,HWI,HBI⟩:=hrel
      by_cases hjl:j<T
      ·have hjli:(j:Int)<(T:Int):=by omega
       obtain⟨r1,r2⟩:=rep_one L j V
       rw[←HQ.out,←hpj]at r1 r2
       obtain⟨A',c',w',hr2,ho2,hb2⟩:=run_oneB wr w.heap.size Ai p ci (lst (L++List.replicate (j+1) V)) (lst_lt (HLR.out _)) (by rw[←r1];exact HWI.out) V r2.symm (by omega) HBI.out.size
       have HR2:=Lib.hid hr2;have HO2':=Lib.hid ho2;have HB2':=Lib.hid (HBI.out.trans hb2)
       have hpj2:p+1=q+(j+1):=by omega
       have HPJ:=Lib.hid hpj2
       have hpb:p≤1000:=by omega
       clear hr2 ho2 hb2 r1 r2 hpj hpj2
       go_wp2_with (at_builtin;refine wpList_append_run rfl (.tmp 56) (.tmp 58) 22 rfl (.slice Ai p ci) (.slice (some ⟨wr.heap.size,0,none⟩) 1 1) (.slice A' (p+1) c') w' rfl rfl HR2.out ?_)
       go_roundw
       case rel=>
        exact⟨j+1,p+1,A',c',by omega,HPJ.out,rfl,by go_num,HO2',HB2'⟩
       case measure=>simp[intOf];omega
      ·obtain rfl:j=T:=by omega
       have hjli:¬(j:Int)<(j:Int):=by omega
       have hqq:p=(L++List.replicate j V).length:=by rw[List.length_append,List.length_replicate,←HQ.out];exact hpj
       have HQQ:=Lib.hid hqq
       have hpN:p≤N:=by omega
       clear hqq
       go_wp2
       go_roundw
       case rel=>exact⟨i+1,p,Ai,ci,L++List.replicate j V,by omega,hpN,rfl,by go_num,HQQ,HNX,HLR.out j|>Lib.hid,HWI,HBI⟩
       case measure=>simp[intOf];omega
    have dq:decide (0<(q:Int))=true:=by simp;omega
    have dq':decide (0<q)=true:=by simp;omega
    have HNO:Hid (q=0→False):=Lib.hid hq
    obtain⟨z,hz⟩:∃z,z=q-1:=⟨_,rfl⟩
    have ez:(q:Int)-1=(z:Int):=by omega
    have hzq:(z:Int)<(q:Int):=by omega
    have hz0:(0:Int)≤(z:Int):=by omega
    have HZ:=Lib.hid hz
    clear hz hsr hq
    by_cases hro:N<q+T
    ·skip
     have hst:=HST.out
     rw[if_pos (.inr (by rw[←HQ.out];exact hro))]at hst
     subst hst
     obtain⟨qt,hqt⟩:∃qt,qt=q+T:=⟨_,rfl⟩
     have eqt:(q:Int)+(T:Int)=(qt:Int):=by omega
     rw[←hqt]at hro
     have dr:(N:Int)<(qt:Int):=by omega
     clear HST hqt hro
     go_wp2_with (first
      |(refine wpList_load_mid rfl _ _ rfl b (o+i*2) rfl [.int .i64 s,.int .i64 (X:Int)] _ HRG.out Tryz.underlying208 rfl szRun ?_)
      |(rw[←HW3.out];refine wpList_load_row rfl _ _ rfl wr.heap.size rfl _ #[.int .i64 s,.int .i64 (X:Int)] (0,0) _ HROW.out Tryz.underlying208 rfl szRun ?_))
     refine(HMY.out _).mono ?_
     rintro e w2 ⟨rfl,hb2⟩
     have HB2:=Lib.hid (HB3.out.trans (hb2.mono HB3.out.size))
     have HOW2:Hid (w2.ownsRow w.heap.size 5 1 (.slice At q ct) q (bytesL q (lst L))):=Lib.hid (own_keep HOW3.out hb2)
     have hx2:=HBX.out.below hb2 HBX.out.lt
     have z0:=hx2.c0
     have HRX:Hid (w2.rangeAt wr.heap.size 0 [.int .i64 s,.int .i64 (X:Int)]):=Lib.hid (show w2.rangeAt wr.heap.size 0 (runC (s,(X:Int)))from runRange hx2.c0 hx2.c1)
     clear hb2 hx2
     obtain⟨b2,o2,rfl,_,hcc⟩:=(ByR.of_own HOW2.out (lst_lt HL.out)).1.2 (by omega)
     have z9:=hcc z (by omega)
     clear hcc
     go_wp2_with (refine wpList_load_mid rfl _ _ rfl wr.heap.size 0 rfl [.int .i64 s,.int .i64 (X:Int)] _ HRX.out Tryz.underlying208 rfl szRun ?_)
     refine(HDO.out _ (lst L z) (by rw[last_lst,←HQ.out,HZ.out])).mono ?_
     rintro e w3 ⟨rfl,hb3⟩
     have HB3b:=Lib.hid (HB2.out.trans (hb3.mono HB2.out.size))
     have HOW4:Hid (w3.ownsRow w.heap.size 5 1 (.slice (some ⟨b2,o2,none⟩) q ct) q (bytesL q (lst L))):=Lib.hid (own_keep HOW2.out hb3)
     clear hb3
     go_wp2
     go_ret2
     exact⟨none,0,0,rfl,rfl,ByR.nil _ _ _ HNL.out,HB3b.out,NewB.nil _ _ _⟩
    have hst:=HST.out
    rw[if_neg (by rintro(⟨g,h⟩|g);exact HNO.out (HQ0.out.1 h);rw[←HQ.out]at g;exact hro g)]at hst
    have HNX:=Lib.hid hst.symm
    obtain⟨qt,hqt⟩:∃qt,qt=q+T:=⟨_,rfl⟩
    have eqt:(q:Int)+(T:Int)=(qt:Int):=by omega
    have dr:¬(N:Int)<(qt:Int):=by omega
    have dr2:decide (N<qt)=false:=decN0 (by omega)
    have hqtl:q+T≤N:=by omega
    clear HST hst hqt hro
    go_wp2_with (first
     |(refine wpList_load_mid rfl _ _ rfl b (o+i*2) rfl [.int .i64 s,.int .i64 (X:Int)] _ HRG.out Tryz.underlying208 rfl szRun ?_)
     |(rw[←HW3.out];refine wpList_load_row rfl _ _ rfl wr.heap.size rfl _ #[.int .i64 s,.int .i64 (X:Int)] (0,0) _ HROW.out Tryz.underlying208 rfl szRun ?_))
    refine(HMY.out _).mono ?_
    rintro e w2 ⟨rfl,hb2⟩
    have HB2:=Lib.hid (HB3.out.trans (hb2.mono HB3.out.size))
    have HOW2:Hid (w2.ownsRow w.heap.size 5 1 (.slice At q ct) q (bytesL q (lst L))):=Lib.hid (own_keep HOW3.out hb2)
    have hx2:=HBX.out.below hb2 HBX.out.lt
    have z0:=hx2.c0
    have HRX:Hid (w2.rangeAt wr.heap.size 0 [.int .i64 s,.int .i64 (X:Int)]):=Lib.hid (show w2.rangeAt wr.heap.size 0 (runC (s,(X:Int)))from runRange hx2.c0 hx2.c1)
    clear hb2 hx2
    obtain⟨b2,o2,rfl,_,hcc⟩:=(ByR.of_own HOW2.out (lst_lt HL.out)).1.2 (by omega)
    have z9:=hcc z (by omega)
    clear hcc
    go_wp2_with (refine wpList_load_mid rfl _ _ rfl wr.heap.size 0 rfl [.int .i64 s,.int .i64 (X:Int)] _ HRX.out Tryz.underlying208 rfl szRun ?_)
    refine(HDO.out _ (lst L z) (by rw[last_lst,←HQ.out,HZ.out])).mono ?_
    rintro e w3 ⟨rfl,hb3⟩
    have HB3b:=Lib.hid (HB2.out.trans (hb3.mono HB2.out.size))
    have HOW4:Hid (w3.ownsRow w.heap.size 5 1 (.slice (some ⟨b2,o2,none⟩) q ct) q (bytesL q (lst L))):=Lib.hid (own_keep HOW2.out hb3)
    clear hb3
    clear z0 z9
    obtain⟨wo,rfl⟩:∃wo:World,wo=wr:=⟨_,rfl⟩
    go_wp2
    go_loopw [6,54] (fun ov kv wr=>∃(j p:Nat) (Ai:Option Addr) (ci:Nat),j≤T∧p=q+j∧ov=.slice Ai p ci∧kv=.int .i64 (j:Int)∧Hid (wr.ownsRow w.heap.size 5 1 (.slice Ai p ci) p (bytesL p (lst (L++List.replicate j V))))∧Hid (Below w.heap.size w wr)) (fun _ kv _=>T-(intOf kv).toNat)
    case atStart=>exact⟨0,q,(some ⟨b2,o2,none⟩),ct,Nat.zero_le _,rfl,rfl,rfl,Lib.hid (by rw[List.replicate_zero,List.append_nil];exact HOW4.out),HB3b⟩
    case round=>
     obtain⟨j,p,Ai,ci,hj,hpj,rfl,rfl,HWI,HBI⟩:=hrel
     by_cases hjl:j<T
     ·have hjli:(j:Int)<(T:Int):=by omega
      obtain⟨r1,r2⟩:=rep_one L j V
      rw[←HQ.out,←hpj]at r1 r2
      obtain⟨A',c',w',hr2,ho2,hb2⟩:=run_oneB wr w.heap.size Ai p ci (lst (L++List.replicate (j+1) V)) (lst_lt (HLR.out _)) (by rw[←r1];exact HWI.out) V r2.symm (by omega) HBI.out.size
      have HR2:=Lib.hid hr2;have HO2':=Lib.hid ho2;have HB2':=Lib.hid (HBI.out.trans hb2)
      have hpj2:p+1=q+(j+1):=by omega
      have HPJ:=Lib.hid hpj2
      have hpb:p≤1000:=by omega
      clear hr2 ho2 hb2 r1 r2 hpj hpj2
      go_wp2_with (at_builtin;refine wpList_append_run rfl (.tmp 56) (.tmp 58) 22 rfl (.slice Ai p ci) (.slice (some ⟨wr.heap.size,0,none⟩) 1 1) (.slice A' (p+1) c') w' rfl rfl HR2.out ?_)
      go_roundw
      case rel=>
       exact⟨j+1,p+1,A',c',by omega,HPJ.out,rfl,by go_num,HO2',HB2'⟩
      case measure=>simp[intOf];omega
     ·obtain rfl:j=T:=by omega
      have hjli:¬(j:Int)<(j:Int):=by omega
      have hqq:p=(L++List.replicate j V).length:=by rw[List.length_append,List.length_replicate,←HQ.out];exact hpj
      have HQQ:=Lib.hid hqq
      have hpN:p≤N:=by omega
      clear hqq
      go_wp2
      go_roundw
      case rel=>exact⟨i+1,p,Ai,ci,L++List.replicate j V,by omega,hpN,rfl,by go_num,HQQ,HNX,HLR.out j|>Lib.hid,HWI,HBI⟩
      case measure=>simp[intOf];omega
   ·obtain rfl:M=false:=by rw[hMe];exact decN0 hmay
    have hst:=HSTEP.out
    unfold mayU at hmay
    rw[if_pos (Classical.not_not.1 hmay)]at hst
    subst hst
    clear HSTEP hmay hMe
    go_wp2_with (first
     |(refine wpList_load_mid rfl _ _ rfl b (o+i*2) rfl [.int .i64 s,.int .i64 x] _ HRG.out Tryz.underlying208 rfl szRun ?_)
     |(rw[←HW3.out];refine wpList_load_row rfl _ _ rfl wr.heap.size rfl _ #[.int .i64 s,.int .i64 x] (0,0) _ HROW.out Tryz.underlying208 rfl szRun ?_))
    refine(HMY.out _).mono ?_
    rintro e w2 ⟨rfl,hb2⟩
    have HB2:=Lib.hid (HB3.out.trans (hb2.mono HB3.out.size))
    clear hb2
    go_wp2
    go_ret2
    exact⟨none,0,0,rfl,rfl,ByR.nil _ _ _ HNL.out,HB2.out,NewB.nil _ _ _⟩
  ·obtain rfl:i=m:=by omega
   have hlti:¬(i:Int)<(i:Int):=by omega
   have hfin:=HP.out
   have hdr:l.drop i=[]:=List.drop_eq_nil_of_le (by rw[←HM.out];exact Nat.le_refl _)
   rw[hdr]at hfin
   simp only[strR]at hfin
   rw[←HQ.out]at hfin
   by_cases hqn:q=N
   ·rw[if_pos hqn]at hfin
    subst hfin
    have dq:((q:Int) !=(N:Int))=false:=by simp;omega
    have hby:=ByR.of_own HW.out (lst_lt HL.out)
    have HBY:=Lib.hid hby
    have hnew:NewB wr w.heap.size At q:=fun h0=>by
     obtain⟨g,cap,hv,hge,hlt⟩:=HW.out.form h0
     rcases HW.out.2 with⟨hv2,_⟩|⟨g2,cap2,cur,hv2,hg2,hh2,_⟩
     ·rw[hv2]at hv;cases hv
     ·injection hv2 with h1 _ _
      exact⟨g2,0,cur,h1,hg2,hh2⟩
    have HNEW:=Lib.hid hnew
    clear hby hnew hqn hdr
    go_wp2
    go_ret2
    exact⟨At,q,ct,rfl,HQ.out,HBY.out,HB.out,HNEW.out⟩
   ·rw[if_neg hqn]at hfin
    subst hfin
    have dq:((q:Int) !=(N:Int))=true:=by simp;omega
    clear hqn hdr
    go_wp2
    go_ret2
    exact⟨none,0,0,rfl,rfl,ByR.nil _ _ _ HNL.out,HB.out,NewB.nil _ _ _⟩
end Go.Proofs.YtgokdgcmkcmjeaaGreat
