/-
  Words and walks.
-/
import Derived.Test.YtcmpmighjglnpaaGreattaao
set_option maxRecDepth 100000
set_option maxHeartbeats 16000000
namespace Go.Proofs.YtcmpmighjglnpaaGreat
open Go.RowKit
theorem zeroT_one:(trA (fun _=>0) (.slice none 0 0)).all (·.oneCell')=true:=trA_one _ _ rfl
theorem built_tree0:Tryz.prog.built 26 []=some (trA (fun _=>0) (.slice none 0 0)):=by kernel_rfl
theorem pdynamic_any(w:World)(p:Nat)(A:Option Addr)(l c:Nat)(g:Nat→Nat)(s:Rz)(h:Rdr w p A l c s)(S:Nat→Prop)(hS:S p)(hSw:∀j,S j→j<w.heap.size)(hg:RdF S w A l g)(hl:l≤1000000)(hs:s.1≤8*l)(hlen:(dyR g l s).2.2=0→(dyO g l s).length=dyL g l s+dyF g l s):
  Calls Tryz.prog 101 #[.pointer (some ⟨p,0,none⟩)] w fun e w'=>∃u1 u2,e=.returned (.tuple #[.agg (trA (dyG1 g l s) u1),.agg (trA (dyG2 g l s) u2)])∧
   Rdr w' p A l c (dyS9 g l s)∧OwnS w' w.heap.size u1 (dyY1 g l s)∧OwnS w' w.heap.size u2 (dyY2 g l s)∧Fr (At p) w w':=by
 have hp:=h.lt
 obtain⟨k,hk⟩:∃k,k=w.heap.size:=⟨_,rfl⟩
 obtain⟨Z,hZ⟩:∃Z,Z=trA (fun _=>0) (.slice none 0 0):=⟨_,rfl⟩
 obtain⟨W1,hW1⟩:∃W1,W1=(w.alloc (.cells Z 26)).alloc (.cells Z 26):=⟨_,rfl⟩
 have hb1:Below k w W1:=by rw[hW1,hk];exact((Below.refl _ _).alloc (Nat.le_refl _) _).alloc (by simp) _
 have hs1:W1.heap.size=k+2:=by rw[hW1,hk];simp
 have z1:BoxC W1 k Z 26:=by rw[hW1,hk];exact(BoxC.new w _ _).old _
 have y1:BoxC W1 (k+1) Z 26:=by rw[hW1,hk];have:=BoxC.new (w.alloc (.cells Z 26)) Z 26;rwa[World.size_alloc]at this
 have HD1:=Lib.hid (BoxC.below h hb1 (by omega):Rdr W1 p A l c s)
 have HF1:=Lib.hid (Fr.of (S:=At p) (hk▸hb1))
 have hzb:∀u:World,(zeroValue 26).run Tryz.prog u=.ok (.agg Z) u:=by rw[hZ];exact(zero_of_info infoTree13).1
 have HZS:Hid (Z.size=17):=Lib.hid (by rw[hZ,trA_size])
 have HZO:Hid (Z.all (·.oneCell')=true):=Lib.hid (by rw[hZ];exact zeroT_one)
 have HZB:Hid (Tryz.prog.built 26 []=some Z):=Lib.hid (by rw[hZ];exact built_tree0)
 have HZE:=Lib.hid hZ
 have HW1:=Lib.hid hW1;have HK:=Lib.hid hk;have HS1:=Lib.hid hs1;have HZ1:=Lib.hid z1;have HY1:=Lib.hid y1;have HG0:=Lib.hid hg
 have HP:Hid (p<k):=Lib.hid (by omega)
 have HSP:Hid (S p∧∀j,S j→j<k):=Lib.hid ⟨hS,by rw[hk];exact hSw⟩
 have HPS:Hid (∀j,At p j→S j):=Lib.hid fun j (e:j=p)=>e▸hS
 have HNA:Hid (¬At p k∧¬At p (k+1)):=Lib.hid ⟨by show¬k=p;omega,by show¬k+1=p;omega⟩
 have n1:dyL g l s=tkV g l 5 s+257:=rfl
 have n2:dyS1 l s=tkS l 5 s:=rfl
 have n3:dyF g l s=tkV g l 5 (dyS1 l s)+1:=rfl
 have n4:dyS2 l s=tkS l 5 (dyS1 l s):=rfl
 have n5:dyC g l s=tkV g l 4 (dyS2 l s)+4:=rfl
 have n6:dyS4 g l s=wantS (tkS l 4 (dyS2 l s)) (decide (dyL g l s≤286∧dyF g l s≤30)) 132:=rfl
 have i4:=dyS4_in (g:=g) (s:=s) hs
 have i5:=dyS5_in (g:=g) (s:=s) hs
 have i1:(dyS1 l s).1≤8*l:=tkS_in hs
 have i2:(dyS2 l s).1≤8*l:=tkS_in (tkS_in hs)
 have i3:(tkS l 4 (dyS2 l s)).1≤8*l:=tkS_in i2
 have b1:tkV g l 5 s<32:=tkV_lt g l 5 s
 have b2:tkV g l 5 (dyS1 l s)<32:=tkV_lt g l 5 _
 have b3:tkV g l 4 (dyS2 l s)<16:=tkV_lt g l 4 _
 have n7:dyS5 g l s=wantS (gwS (shG g l (dyS4 g l s) (dyC g l s)) 19 7 (shS l (dyS4 g l s) (dyC g l s))) (decide (2≤(((grS (shG g l (dyS4 g l s) (dyC g l s)) 19 7).length:Nat):Int))) 132:=rfl
 have n8:dyH g l s=shG g l (dyS4 g l s) (dyC g l s):=rfl
 have n9:dyR g l s=lnS (extF 19 (dyH g l s)) g l (dyL g l s+dyF g l s) (dyL g l s+dyF g l s) 0 [] (dyS5 g l s):=rfl
 have n10:dyO g l s=(strO (dyR g l s).1 ((dyL g l s+dyF g l s:Nat):Int)).2:=rfl
 have n11:dyS9 g l s=if(dyR g l s).2.2≠0 then(dyR g l s).2 else gwS (lst ((dyO g l s).drop (dyL g l s))) (dyF g l s) 15 (gwS (lst (dyO g l s)) (dyL g l s) 15 (wantS (dyR g l s).2 (decide (0<lst (dyO g l s) 256)) 132)):=rfl
 have n12:dyG1 g l s=if(dyR g l s).2.2≠0 then fun _=>0 else grC (lst (dyO g l s)) (dyL g l s) 15:=rfl
 have n13:dyG2 g l s=if(dyR g l s).2.2≠0 then fun _=>0 else grC (lst ((dyO g l s).drop (dyL g l s))) (dyF g l s) 15:=rfl
 have n14:dyY1 g l s=if(dyR g l s).2.2≠0 then[]else grS (lst (dyO g l s)) (dyL g l s) 15:=rfl
 have n15:dyY2 g l s=if(dyR g l s).2.2≠0 then[]else grS (lst ((dyO g l s).drop (dyL g l s))) (dyF g l s) 15:=rfl
 have hok:(dyS5 g l s).2=0→checkE (dyH g l s) 19 7=0:=dyS5_ok
 obtain⟨G1,hG1⟩:∃x,x=dyG1 g l s:=⟨_,rfl⟩
 obtain⟨G2,hG2⟩:∃x,x=dyG2 g l s:=⟨_,rfl⟩
 obtain⟨Y1,hY1⟩:∃x,x=dyY1 g l s:=⟨_,rfl⟩
 obtain⟨Y2,hY2⟩:∃x,x=dyY2 g l s:=⟨_,rfl⟩
 obtain⟨S9,hS9⟩:∃x,x=dyS9 g l s:=⟨_,rfl⟩
 rw[←hG1,←hG2,←hY1,←hY2,←hS9]
 rw[←hG1]at n12;rw[←hG2]at n13;rw[←hY1]at n14;rw[←hY2]at n15;rw[←hS9]at n11
 obtain⟨O,hO⟩:∃x,x=dyO g l s:=⟨_,rfl⟩
 rw[←hO]at n10 n11 n12 n13 n14 n15 hlen
 obtain⟨R,hR⟩:∃x,x=dyR g l s:=⟨_,rfl⟩
 rw[←hR]at n9 n10 n11 n12 n13 n14 n15 hlen
 obtain⟨HH,hHH⟩:∃x,x=dyH g l s:=⟨_,rfl⟩
 rw[←hHH]at n8 n9 hok
 rw[←n8]at n7
 obtain⟨s5,hs5⟩:∃x,x=dyS5 g l s:=⟨_,rfl⟩
 rw[←hs5]at n7 n9 hok i5
 obtain⟨s4,hs4⟩:∃x,x=dyS4 g l s:=⟨_,rfl⟩
 rw[←hs4]at n6 n7 n8 i4
 obtain⟨c0,hc0⟩:∃x,x=dyC g l s:=⟨_,rfl⟩
 rw[←hc0]at n5 n7 n8
 obtain⟨s2,hs2⟩:∃x,x=dyS2 l s:=⟨_,rfl⟩
 rw[←hs2]at n4 n5 n6 i2 i3 b3
 obtain⟨f0,hf0⟩:∃x,x=dyF g l s:=⟨_,rfl⟩
 rw[←hf0]at n3 n6 n9 n10 n11 n13 n15 hlen
 obtain⟨q1,hq1⟩:∃x,x=dyS1 l s:=⟨_,rfl⟩
 rw[←hq1]at n2 n3 n4 i1 b2
 obtain⟨l0,hl0⟩:∃x,x=dyL g l s:=⟨_,rfl⟩
 rw[←hl0]at n1 n6 n9 n10 n11 n12 n13 n14 n15 hlen
 clear hG1 hG2 hY1 hY2 hS9 hO hR hHH hs5 hs4 hc0 hs2 hf0 hq1 hl0
 obtain⟨x1,hx1⟩:∃x,x=tkV g l 5 s:=⟨_,rfl⟩
 obtain⟨x2,hx2⟩:∃x,x=tkV g l 5 q1:=⟨_,rfl⟩
 obtain⟨x3,hx3⟩:∃x,x=tkV g l 4 s2:=⟨_,rfl⟩
 rw[←hx1]at n1 b1;rw[←hx2]at n3 b2;rw[←hx3]at n5 b3
 obtain⟨q3,hq3⟩:∃x,x=tkS l 4 s2:=⟨_,rfl⟩
 rw[←hq3]at n6 i3
 have e1:(257:Int)+(x1:Int)=(l0:Int):=by omega
 have e2:(1:Int)+(x2:Int)=(f0:Int):=by omega
 have e3:(4:Int)+(x3:Int)=(c0:Int):=by omega
 obtain⟨m,hm⟩:∃m,m=l0+f0:=⟨_,rfl⟩
 rw[←hm]at n9 n10 hlen
 have e4:(l0:Int)+(f0:Int)=(m:Int):=by omega
 have hc19:c0≤19:=by omega
 have hm400:m≤400:=by omega
 have hl257:257≤l0:=by omega
 have hf1:1≤f0:=by omega
 have hl288:l0≤288:=by omega
 have hf32:f0≤32:=by omega
 have N6:=Lib.hid n6;have N7:=Lib.hid n7.symm;have N8:=Lib.hid n8;have N9:=Lib.hid n9.symm;have N10:=Lib.hid n10.symm;have N11:=Lib.hid n11;have N12:=Lib.hid n12;have N13:=Lib.hid n13;have N14:=Lib.hid n14;have N15:=Lib.hid n15;have HLEN:=Lib.hid hlen;have HOK:=Lib.hid hok;have HM:=Lib.hid hm
 have HT1:=Lib.hid (ptake_lit W1 p A l c g s HD1.out (hg.fr (Fr.of (hk▸hb1))).1 hl hs 5 5 rfl (by omega))
 rw[←hx1,←n2]at HT1
 have HT2:=Lib.hid fun V (r:Rdr V p A l c q1) (q:RdF S V A l g)=>ptake_lit V p A l c g q1 r q.1 hl i1 5 5 rfl (by omega)
 rw[←hx2,←n4]at HT2
 have HT3:=Lib.hid fun V (r:Rdr V p A l c s2) (q:RdF S V A l g)=>ptake_lit V p A l c g s2 r q.1 hl i2 4 4 rfl (by omega)
 rw[←hx3,←hq3]at HT3
 have HG1:=Lib.hid (hg.fr (Fr.of (hk▸hb1)))
 clear h hg hZ hW1 hk hb1 hs1 z1 y1 hp hS hSw n1 n2 n3 n4 n5 n6 n7 n8 n9 n10 n11 n12 n13 n14 n15 hlen hok hx1 hx2 hx3 hq3 b1 b2 b3 hm hs i1 i2
 go_enter Tryz.func101,Tryz.ntmps101
 go_wp2_with (first|(rw[←HW1.out,←HK.out])|fail)
 refine HT1.out.mono ?_
 rintro e w2 ⟨rfl,r2,f2⟩
 have HF2:=Lib.hid (HF1.out.trans f2);have HG2:=Lib.hid (HG1.out.fr (f2.mono HPS.out));have HZ2:=Lib.hid (HZ1.out.fr f2 HNA.out.1);have HY2:=Lib.hid (HY1.out.fr f2 HNA.out.2)
 have HTB:=Lib.hid (HT2.out w2 r2 HG2.out)
 clear r2 f2 HT1 HT2 HG1 HZ1 HY1 HF1 HD1
 go_wp2_with fail
 refine HTB.out.mono ?_
 rintro e w3 ⟨rfl,r3,f3⟩
 have HF3:=Lib.hid (HF2.out.trans f3);have HG3:=Lib.hid (HG2.out.fr (f3.mono HPS.out));have HZ3:=Lib.hid (HZ2.out.fr f3 HNA.out.1);have HY3:=Lib.hid (HY2.out.fr f3 HNA.out.2)
 have HTC:=Lib.hid (HT3.out w3 r3 HG3.out)
 clear r3 f3 HTB HT3 HG2 HZ2 HY2 HF2
 go_wp2_with fail
 refine HTC.out.mono ?_
 rintro e w4 ⟨rfl,r4,f4⟩
 have HF4:=Lib.hid (HF3.out.trans f4);have HG4:=Lib.hid (HG3.out.fr (f4.mono HPS.out));have HZ4:=Lib.hid (HZ3.out.fr f4 HNA.out.1);have HY4:=Lib.hid (HY3.out.fr f4 HNA.out.2)
 have HWA:=Lib.hid fun b=>pwant_any w4 p A l c q3 r4 b 132
 clear r4 f4 HTC HG3 HZ3 HY3 HF3
 have HCS:Hid ((l0≤286∧f0≤30∧decide (l0≤286∧f0≤30)=true)∨(l0≤286∧¬f0≤30∧decide (l0≤286∧f0≤30)=false)∨(¬l0≤286∧decide (l0≤286∧f0≤30)=false)):=Lib.hid (by
  by_cases a1:l0≤286
  ·by_cases a2:f0≤30
   ·exact .inl ⟨a1,a2,decide_eq_true ⟨a1,a2⟩⟩
   ·exact .inr (.inl ⟨a1,a2,decide_eq_false fun h=>a2 h.2⟩)
  ·exact .inr (.inr ⟨a1,decide_eq_false fun h=>a1 h.1⟩))
 rcases HCS.out with⟨a1,a2,hbt⟩|⟨a1,a2,hbt⟩|⟨a1,hbt⟩
 ·have d1:decide ((l0:Int)≤286)=true:=decY (by omega)
  have d1':decide (l0≤286)=true:=decY0 a1
  have d2:decide ((f0:Int)≤30)=true:=decY (by omega)
  have d2':decide (f0≤30)=true:=decY0 a2
  clear a1 a2
  go_wp2_with fail
  refine(HWA.out _).mono ?_
  rintro e w5 ⟨rfl,r5,f5⟩
  rw[←hbt,←N6.out]at r5
  have HF5:=Lib.hid (HF4.out.trans f5);have HG5:=Lib.hid (HG4.out.fr (f5.mono HPS.out));have HZ5:=Lib.hid (HZ4.out.fr f5 HNA.out.1);have HY5:=Lib.hid (HY4.out.fr f5 HNA.out.2)
  have hkw5:k+2≤w5.heap.size:=HY5.out.lt
  have HSH:=Lib.hid (pshorts_any w5 p A l c g s4 r5 S HSP.out.1 (fun j hj=>by have:=HSP.out.2 j hj;omega) HG5.out hl i4 c0 hc19)
  rw[←N8.out,N7.out]at HSH
  clear r5 f5 HWA hkw5 HCS hbt
  go_wp2_with fail
  refine HSH.out.mono ?_
  rintro e w6 ⟨u,rfl,r6,o6,f6⟩
  have HF6:=Lib.hid (HF5.out.trans f6);have HG6:=Lib.hid (HG5.out.fr (f6.mono HPS.out));have HZ6:=Lib.hid (HZ5.out.fr f6 HNA.out.1);have HY6:=Lib.hid (HY5.out.fr f6 HNA.out.2)
  have hkw5:k+2≤w5.heap.size:=HY5.out.lt
  have hkw6:k+2≤w6.heap.size:=HY6.out.lt
  have HLN:=Lib.hid (plengths_any w6 p A l c g s5 r6 S HSP.out.1 (fun j hj=>by have:=HSP.out.2 j hj;omega) HG6.out hl i5 (extF 19 HH) (grC HH 19 7) u o6.one (fun e=>⟨grS HH 19 7,RiF.of_own o6 (fun j hj=>by have:=HSP.out.2 j hj;omega),grown_tree (HOK.out e)⟩) m hm400)
  rw[N9.out,N10.out]at HLN
  clear r6 o6 f6 HSH hkw5 hkw6 HG5 HZ5 HY5 HF5
  go_wp2_with fail
  refine HLN.out.mono ?_
  rintro e w7 ⟨A',n',c',rfl,hn',hby,hnb,r7,f7⟩
  have HF7:=Lib.hid (HF6.out.trans f7);have HZ7:=Lib.hid (HZ6.out.fr f7 HNA.out.1);have HY7:=Lib.hid (HY6.out.fr f7 HNA.out.2)
  have hkw6:k+2≤w6.heap.size:=HY6.out.lt
  obtain⟨ss,hss⟩:∃x,x=R.2:=⟨_,rfl⟩
  obtain⟨sa,se⟩:=ss
  rw[←hss]at r7
  have k2:w7.cell? ⟨p,2,none⟩=some (.int .i64 se):=Rdr.e r7
  by_cases he:se=0
  ·have hR0:R.2.2=0:=by rw[←hss];exact he
   have hR1:¬R.2.2≠0:=fun h=>h hR0
   have M11:=Lib.hid (N11.out.trans (if_neg hR1));have M12:=Lib.hid (N12.out.trans (if_neg hR1));have M13:=Lib.hid (N13.out.trans (if_neg hR1));have M14:=Lib.hid (N14.out.trans (if_neg hR1));have M15:=Lib.hid (N15.out.trans (if_neg hR1))
   rw[←hss]at M11
   have hlen:=HLEN.out hR0
   obtain rfl:n'=m:=hn'.trans hlen
   have hmm:=HM.out
   obtain⟨b0,o0,cur,hA',hge,hcur⟩:=hnb (by omega)
   subst hA'
   obtain⟨b0',o0',e0,hb0,hc0⟩:=hby.1.2 (by omega)
   cases e0
   have k256:=hc0 256 (by omega)
   have hcap:=hby.2.2.1
   have hcm:=hby.2.2.2
   have hx8:=hby.1.1 256
   obtain⟨x,hx⟩:∃x,x=lst O 256:=⟨_,rfl⟩
   rw[←hx]at k256 hx8 M11
   have h256:(256:Int)<(n':Int):=by omega
   have hne:(se==0)=true:=by rw[he];rfl
   have hne2:(se !=0)=false:=by simp[bne,hne]
   have HWB:=Lib.hid fun b=>pwant_any w7 p A l c (sa,se) r7 b 132
   have HBY:Hid (RdF (At p) w7 (some ⟨b0,o0,none⟩) n' (lst O)):=Lib.hid ⟨hby.1,fun b o _ e (hb:b=p)=>by
    injection e with e;injection e with q1 _ _
    have:=HP.out;omega⟩
   have HCAP:=Lib.hid hcap;have HCM:=Lib.hid hcm
   subst he
   clear hR0 hR1 hlen hn' hby hnb r7 f7 hss HLN hge hb0 hc0 hcap hcm hx hcur cur hkw6 hmm HG6 HZ6 HY6 HF6
   go_wp2_with fail
   refine(HWB.out _).mono ?_
   rintro e w8 ⟨rfl,r8,f8⟩
   have r8':Rdr w8 p A l c (wantS (sa,0) (decide (0<x)) 132):=by simpa using r8
   have HF8:=Lib.hid (HF7.out.trans f8);have HZ8:=Lib.hid (HZ7.out.fr f8 HNA.out.1);have HY8:=Lib.hid (HY7.out.fr f8 HNA.out.2);have HB8:=Lib.hid (HBY.out.fr f8)
   have HD8:=Lib.hid r8'
   clear r8 r8' f8 HWB HF7 HZ7 HY7 HBY k2 k256
   go_wp2_with fail
   obtain⟨V,hV⟩:∃V,V=w8.drew:=⟨_,rfl⟩
   have hVB:Below w8.heap.size w8 V:=by rw[hV];exact(Below.refl _ w8).drew
   have HFV:=Lib.hid (HF8.out.on hVB);have HZV:=Lib.hid (HZ8.out.below hVB HZ8.out.lt);have HYV:=Lib.hid (HY8.out.below hVB HY8.out.lt);have HBV:=Lib.hid (HB8.out.fr (Fr.of hVB))
   have HDV:=Lib.hid (BoxC.below HD8.out hVB HD8.out.lt:Rdr V p A l c (wantS (sa,0) (decide (0<x)) 132))
   have HGA:=Lib.hid (pgrow_any V p A l c _ HDV.out (some ⟨b0,o0,none⟩) l0 c' (lst O) ⟨HBV.out.1.1,fun h0=>by obtain⟨b,o,e,hb,hc⟩:=HBV.out.1.2 (by omega);exact⟨b,o,e,hb,fun j hj=>hc j (by have:=HM.out;omega)⟩⟩ (by omega) 15)
   have hl0c:l0≤c':=by have:=HCAP.out;have:=HM.out;omega
   have hl0n:l0≤n':=by have:=HM.out;omega
   obtain⟨A2,hA2⟩:∃A2,(if c'=l0 then(some ⟨b0,o0,none⟩:Option Addr)else(some (⟨b0,o0,none⟩:Addr)).map (·.add l0))=A2:=⟨_,rfl⟩
   have hA2v:A2=some ⟨b0,o0+l0,none⟩:=by rw[←hA2,if_neg (by have:=HCAP.out;have:=HM.out;omega)];show some (Addr.add ⟨b0,o0,none⟩ l0)=_;unfold Addr.add;rw[if_neg (by omega)]
   subst hA2v
   have hf0n:n'-l0=f0:=by have:=HM.out;omega
   refine wp_region_any (by kernel_rfl) ?_
   change wpAny _ _ _ _ _ _ _ (World.drew _)
   rw[←hV]
   have HA2:=Lib.hid hA2;have HF0:=Lib.hid hf0n;have HLC:=Lib.hid hl0c;have HLN:=Lib.hid hl0n
   clear hV hVB HD8 HF8 HZ8 HY8 HB8 hA2 hf0n hl0c hl0n
   refine any_float 0 (.pointer (some ⟨p,0,none⟩)) (by kernel_rfl) (by kernel_rfl) rfl rfl 46 rfl (fun _ _ _ h=>h) (by kernel_rfl) (exec_move _ rfl _ rfl) ?_
   simp only[Act.put,List.setIfInBounds_toArray,List.set_cons_zero,List.set_cons_succ]
   refine any_float 1 (.slice (some ⟨b0,o0,none⟩) n' c') (by kernel_rfl) (by kernel_rfl) rfl rfl 47 rfl (fun _ _ _ h=>h) (by kernel_rfl) (exec_move _ rfl _ rfl) ?_
   simp only[Act.put,List.setIfInBounds_toArray,List.set_cons_zero,List.set_cons_succ]
   refine any_float 2 (.int .i64 (l0:Int)) (by kernel_rfl) (by kernel_rfl) rfl rfl 48 rfl (fun _ _ _ h=>h) (by kernel_rfl) (exec_move _ rfl _ rfl) ?_
   simp only[Act.put,List.setIfInBounds_toArray,List.set_cons_zero,List.set_cons_succ]
   refine any_float 3 (.slice (some ⟨b0,o0,none⟩) l0 c') (by kernel_rfl) (by kernel_rfl) rfl rfl 49 rfl (fun _ _ _ h=>h) (by kernel_rfl) (exec_slice _ _ none (some _) rfl _ _ none (some (.int .i64 (l0:Int))) rfl rfl rfl (run_to _ _ _ _ HLC.out)) ?_
   simp only[Act.put,List.setIfInBounds_toArray,List.set_cons_zero,List.set_cons_succ]
   refine any_float 5 (.pointer (some ⟨p,0,none⟩)) (by kernel_rfl) (by kernel_rfl) rfl rfl 51 rfl (fun _ _ _ h=>h) (by kernel_rfl) (exec_move _ rfl _ rfl) ?_
   simp only[Act.put,List.setIfInBounds_toArray,List.set_cons_zero,List.set_cons_succ]
   refine any_float 6 (.slice (some ⟨b0,o0,none⟩) n' c') (by kernel_rfl) (by kernel_rfl) rfl rfl 52 rfl (fun _ _ _ h=>h) (by kernel_rfl) (exec_move _ rfl _ rfl) ?_
   simp only[Act.put,List.setIfInBounds_toArray,List.set_cons_zero,List.set_cons_succ]
   refine any_float 7 (.int .i64 (l0:Int)) (by kernel_rfl) (by kernel_rfl) rfl rfl 53 rfl (fun _ _ _ h=>h) (by kernel_rfl) (exec_move _ rfl _ rfl) ?_
   simp only[Act.put,List.setIfInBounds_toArray,List.set_cons_zero,List.set_cons_succ]
   refine any_float 8 (.slice (some ⟨b0,o0+l0,none⟩) (n'-l0) (c'-l0)) (by kernel_rfl) (by kernel_rfl) rfl rfl 54 rfl (fun _ _ _ h=>h) (by kernel_rfl) (exec_slice _ _ (some _) none rfl _ _ (some (.int .i64 (l0:Int))) none rfl rfl rfl (run_from _ _ _ _ _ HLN.out HA2.out)) ?_
   simp only[Act.put,List.setIfInBounds_toArray,List.set_cons_zero,List.set_cons_succ]
   refine wpAny_ready (rs:=[4]) (by kernel_rfl) (by simp) ?_
   refine AllReady.cons rfl (fun K hK=>?_) AllReady.nil
   refine step_call rfl 126 _ _ rfl (enters_of Tryz.func126 (by kernel_rfl) rfl) #[.pointer (some ⟨p,0,none⟩),.slice (some ⟨b0,o0,none⟩) l0 c',.int .i64 15] (by simp[Act.eval]) HGA.out ?_
   rintro e w9 ⟨u1,rfl,r9,o9,f9⟩
   refine⟨_,rfl,hK _ _ ?_⟩
   clear hK K
   have HF9:=Lib.hid (HFV.out.trans f9);have HZ9:=Lib.hid (HZV.out.fr f9 HNA.out.1);have HY9:=Lib.hid (HYV.out.fr f9 HNA.out.2)
   have HGB:=Lib.hid (pgrow_any w9 p A l c _ r9 (some ⟨b0,o0+l0,none⟩) (n'-l0) (c'-l0) (lst (O.drop l0)) (drop_rd (HBV.out.fr f9).1 HLN.out) (by omega) 15)
   have hkV:k+2≤V.heap.size:=HYV.out.lt
   obtain⟨X,hX⟩:∃X,X=trA (grC (lst O) l0 15) u1:=⟨_,rfl⟩
   rw[←hX]
   have HXS:Hid (X.size=17):=Lib.hid (by rw[hX,trA_size])
   have HXO:Hid (X.all (·.oneCell')=true):=Lib.hid (by rw[hX];exact trA_one _ _ o9.one)
   have HXE:=Lib.hid hX;have HO9:=Lib.hid o9;have HKV:=Lib.hid hkV
   clear r9 o9 f9 hX HGA HBV HFV HZV HYV hkV HDV
   simp only[Act.put,List.setIfInBounds_toArray]
   refine wpAny_ready (rs:=[9]) (by kernel_rfl) (by simp) ?_
   refine AllReady.cons rfl (fun K hK=>?_) AllReady.nil
   refine step_call rfl 126 _ _ rfl (enters_of Tryz.func126 (by kernel_rfl) rfl) #[.pointer (some ⟨p,0,none⟩),.slice (some ⟨b0,o0+l0,none⟩) (n'-l0) (c'-l0),.int .i64 15] (by simp[Act.eval]) HGB.out ?_
   rintro e w10 ⟨u2,rfl,r10,o10,f10⟩
   refine⟨_,rfl,hK _ _ ?_⟩
   clear hK K
   have hkV:=HKV.out;have hpp:=HP.out
   rw[HF0.out]at r10 o10
   obtain⟨Y,hY⟩:∃X,X=trA (grC (lst (O.drop l0)) (n'-l0) 15) u2:=⟨_,rfl⟩
   rw[←hY]
   rw[HF0.out]at hY
   have HYS:Hid (Y.size=17):=Lib.hid (by rw[hY,trA_size])
   have HYO:Hid (Y.all (·.oneCell')=true):=Lib.hid (by rw[hY];exact trA_one _ _ o10.one)
   have hkw9:k+2≤w9.heap.size:=HY9.out.lt
   have HYE:=Lib.hid hY
   have HZ10:=Lib.hid (HZ9.out.fr f10 HNA.out.1)
   have HY10:Hid (BoxC (w10.setRow k X) (k+1) Z 26):=Lib.hid ((HY9.out.fr f10 HNA.out.2).rowO (by omega) _)
   have HO1:=Lib.hid (HO9.out.fr f10 (fun j (e:j=p)=>by omega))
   have HO2:=Lib.hid o10;have HR10:=Lib.hid r10;have HF10:=Lib.hid (HF9.out.trans f10)
   clear r10 o10 f10 hY HGB HZ9 HY9 HO9 HF9
   simp only[Act.put]
   refine wpAny_ready (rs:=[10]) (by kernel_rfl) (by simp) ?_
   refine AllReady.cons rfl (fun K hK=>?_) AllReady.nil
   refine step_store_row rfl 26 _ _ rfl rfl k X rfl rfl 26 Z HZ10.out (szTree17 HXS.out) (by rw[HZS.out,HXS.out]) HXO.out ?_
   refine hK _ _ ?_
   clear hK K
   refine wpAny_ready (rs:=[11]) (by kernel_rfl) (by simp) ?_
   refine AllReady.cons rfl (fun K hK=>?_) AllReady.nil
   refine step_store_row rfl 26 _ _ rfl rfl (k+1) Y rfl rfl 26 Z HY10.out (szTree17 HYS.out) (by rw[HZS.out,HYS.out]) HYO.out ?_
   refine hK _ _ ?_
   clear hK K
   refine wpAny_done (by kernel_rfl) ?_ _
   simp only[List.getElem_toArray,List.getElem_cons_zero,List.getElem_cons_succ,List.setIfInBounds_toArray,List.set_cons_zero,List.set_cons_succ]
   go_wp2
   refine bodyPost_ret (v:=.tuple #[.agg X,.agg Y]) (cell_twoT rfl _ _ k (k+1) X Y HXS.out HYS.out rfl rfl (BoxC.rowO (show BoxC (w10.setRow k X) k X 26 from setRow_heap _ _ _ _ _ _ HZ10.out) (by omega) _) (setRow_heap _ _ _ _ _ _ HY10.out)) rfl ⟨u1,u2,by rw[HXE.out,HYE.out,M12.out,M13.out],?_,?_,?_,?_⟩
   ·rw[M11.out];exact BoxC.rowO (BoxC.rowO HR10.out (by omega) _) (by omega) _
   ·rw[←HK.out,M14.out];exact ownsRow_lower (own_blk HO1.out fun j hj=>(setRow_other _ _ _ _ (by have:=(own_blk_lt HO1.out j hj).1;omega)).trans (setRow_other _ _ _ _ (by have:=(own_blk_lt HO1.out j hj).1;omega))) (by omega)
   ·rw[←HK.out,M15.out];exact ownsRow_lower (own_blk HO2.out fun j hj=>(setRow_other _ _ _ _ (by have:=(own_blk_lt HO2.out j hj).1;omega)).trans (setRow_other _ _ _ _ (by have:=(own_blk_lt HO2.out j hj).1;omega))) (by omega)
   ·exact(HF10.out.from (Fr.row w10 k X) fun j hj=>.inr (by rw[←HK.out];exact Nat.le_of_eq hj.symm)).from (Fr.row _ (k+1) Y) fun j hj=>.inr (by rw[←HK.out];have:j=k+1:=hj;omega)
  ·have hR1:R.2.2≠0:=by rw[←hss];exact he
   have M11:=Lib.hid (N11.out.trans (if_pos hR1));have M12:=Lib.hid (N12.out.trans (if_pos hR1));have M13:=Lib.hid (N13.out.trans (if_pos hR1));have M14:=Lib.hid (N14.out.trans (if_pos hR1));have M15:=Lib.hid (N15.out.trans (if_pos hR1))
   rw[←hss]at M11
   have hne:(se==0)=false:=beq_eq_false_iff_ne.2 he
   have hne2:(se !=0)=true:=by simp[bne,hne]
   have HD7:=Lib.hid r7
   have HY7b:Hid (BoxC (w7.setRow k Z) (k+1) Z 26):=Lib.hid (HY7.out.rowO (by omega) _)
   clear hR1 hn' hby hnb r7 f7 hss HLN hkw6 he HG6 HZ6 HY6 HF6
   go_wp2_with (first
    |(refine wpList_buildTo rfl 26 #[] rfl (some 38) rfl Z ?_ ?_;focus(simpa[Act.eval]using HZB.out))
    |(refine wpList_buildTo rfl 26 #[] rfl (some 39) rfl Z ?_ ?_;focus(simpa[Act.eval]using HZB.out))
    |(refine wpList_store_rowTo rfl _ _ _ rfl rfl k Z rfl rfl 26 Z HZ7.out (szTree17 HZS.out) rfl HZO.out ?_)
    |(refine wpList_store_rowTo rfl _ _ _ rfl rfl (k+1) Z rfl rfl 26 Z HY7b.out (szTree17 HZS.out) rfl HZO.out ?_)
    |fail)
   have hpp:=HP.out
   refine bodyPost_ret (v:=.tuple #[.agg Z,.agg Z]) (cell_twoT rfl _ _ k (k+1) Z Z HZS.out HZS.out rfl rfl (BoxC.rowO (show BoxC (w7.setRow k Z) k Z 26 from setRow_heap _ _ _ _ _ _ HZ7.out) (by omega) _) (setRow_heap _ _ _ _ _ _ HY7b.out)) rfl ⟨.slice none 0 0,.slice none 0 0,by rw[M12.out,M13.out,HZE.out],?_,?_,?_,?_⟩
   ·rw[M11.out];exact BoxC.rowO (BoxC.rowO HD7.out (by omega) _) (by omega) _
   ·rw[M14.out];exact World.ownsRow_nil ..
   ·rw[M15.out];exact World.ownsRow_nil ..
   ·exact(HF7.out.from (Fr.row w7 k Z) fun j hj=>.inr (by rw[←HK.out];exact Nat.le_of_eq hj.symm)).from (Fr.row _ (k+1) Z) fun j hj=>.inr (by rw[←HK.out];have:j=k+1:=hj;omega)
 ·have d1:decide ((l0:Int)≤286)=true:=decY (by omega)
  have d1':decide (l0≤286)=true:=decY0 a1
  have d2:decide ((f0:Int)≤30)=false:=decN (by omega)
  have d2':decide (f0≤30)=false:=decN0 a2
  clear a1 a2
  go_wp2_with fail
  refine(HWA.out _).mono ?_
  rintro e w5 ⟨rfl,r5,f5⟩
  rw[←hbt,←N6.out]at r5
  have HF5:=Lib.hid (HF4.out.trans f5);have HG5:=Lib.hid (HG4.out.fr (f5.mono HPS.out));have HZ5:=Lib.hid (HZ4.out.fr f5 HNA.out.1);have HY5:=Lib.hid (HY4.out.fr f5 HNA.out.2)
  have hkw5:k+2≤w5.heap.size:=HY5.out.lt
  have HSH:=Lib.hid (pshorts_any w5 p A l c g s4 r5 S HSP.out.1 (fun j hj=>by have:=HSP.out.2 j hj;omega) HG5.out hl i4 c0 hc19)
  rw[←N8.out,N7.out]at HSH
  clear r5 f5 HWA hkw5 HCS hbt
  go_wp2_with fail
  refine HSH.out.mono ?_
  rintro e w6 ⟨u,rfl,r6,o6,f6⟩
  have HF6:=Lib.hid (HF5.out.trans f6);have HG6:=Lib.hid (HG5.out.fr (f6.mono HPS.out));have HZ6:=Lib.hid (HZ5.out.fr f6 HNA.out.1);have HY6:=Lib.hid (HY5.out.fr f6 HNA.out.2)
  have hkw5:k+2≤w5.heap.size:=HY5.out.lt
  have hkw6:k+2≤w6.heap.size:=HY6.out.lt
  have HLN:=Lib.hid (plengths_any w6 p A l c g s5 r6 S HSP.out.1 (fun j hj=>by have:=HSP.out.2 j hj;omega) HG6.out hl i5 (extF 19 HH) (grC HH 19 7) u o6.one (fun e=>⟨grS HH 19 7,RiF.of_own o6 (fun j hj=>by have:=HSP.out.2 j hj;omega),grown_tree (HOK.out e)⟩) m hm400)
  rw[N9.out,N10.out]at HLN
  clear r6 o6 f6 HSH hkw5 hkw6 HG5 HZ5 HY5 HF5
  go_wp2_with fail
  refine HLN.out.mono ?_
  rintro e w7 ⟨A',n',c',rfl,hn',hby,hnb,r7,f7⟩
  have HF7:=Lib.hid (HF6.out.trans f7);have HZ7:=Lib.hid (HZ6.out.fr f7 HNA.out.1);have HY7:=Lib.hid (HY6.out.fr f7 HNA.out.2)
  have hkw6:k+2≤w6.heap.size:=HY6.out.lt
  obtain⟨ss,hss⟩:∃x,x=R.2:=⟨_,rfl⟩
  obtain⟨sa,se⟩:=ss
  rw[←hss]at r7
  have k2:w7.cell? ⟨p,2,none⟩=some (.int .i64 se):=Rdr.e r7
  by_cases he:se=0
  ·have hR0:R.2.2=0:=by rw[←hss];exact he
   have hR1:¬R.2.2≠0:=fun h=>h hR0
   have M11:=Lib.hid (N11.out.trans (if_neg hR1));have M12:=Lib.hid (N12.out.trans (if_neg hR1));have M13:=Lib.hid (N13.out.trans (if_neg hR1));have M14:=Lib.hid (N14.out.trans (if_neg hR1));have M15:=Lib.hid (N15.out.trans (if_neg hR1))
   rw[←hss]at M11
   have hlen:=HLEN.out hR0
   obtain rfl:n'=m:=hn'.trans hlen
   have hmm:=HM.out
   obtain⟨b0,o0,cur,hA',hge,hcur⟩:=hnb (by omega)
   subst hA'
   obtain⟨b0',o0',e0,hb0,hc0⟩:=hby.1.2 (by omega)
   cases e0
   have k256:=hc0 256 (by omega)
   have hcap:=hby.2.2.1
   have hcm:=hby.2.2.2
   have hx8:=hby.1.1 256
   obtain⟨x,hx⟩:∃x,x=lst O 256:=⟨_,rfl⟩
   rw[←hx]at k256 hx8 M11
   have h256:(256:Int)<(n':Int):=by omega
   have hne:(se==0)=true:=by rw[he];rfl
   have hne2:(se !=0)=false:=by simp[bne,hne]
   have HWB:=Lib.hid fun b=>pwant_any w7 p A l c (sa,se) r7 b 132
   have HBY:Hid (RdF (At p) w7 (some ⟨b0,o0,none⟩) n' (lst O)):=Lib.hid ⟨hby.1,fun b o _ e (hb:b=p)=>by
    injection e with e;injection e with q1 _ _
    have:=HP.out;omega⟩
   have HCAP:=Lib.hid hcap;have HCM:=Lib.hid hcm
   subst he
   clear hR0 hR1 hlen hn' hby hnb r7 f7 hss HLN hge hb0 hc0 hcap hcm hx hcur cur hkw6 hmm HG6 HZ6 HY6 HF6
   go_wp2_with fail
   refine(HWB.out _).mono ?_
   rintro e w8 ⟨rfl,r8,f8⟩
   have r8':Rdr w8 p A l c (wantS (sa,0) (decide (0<x)) 132):=by simpa using r8
   have HF8:=Lib.hid (HF7.out.trans f8);have HZ8:=Lib.hid (HZ7.out.fr f8 HNA.out.1);have HY8:=Lib.hid (HY7.out.fr f8 HNA.out.2);have HB8:=Lib.hid (HBY.out.fr f8)
   have HD8:=Lib.hid r8'
   clear r8 r8' f8 HWB HF7 HZ7 HY7 HBY k2 k256
   go_wp2_with fail
   obtain⟨V,hV⟩:∃V,V=w8.drew:=⟨_,rfl⟩
   have hVB:Below w8.heap.size w8 V:=by rw[hV];exact(Below.refl _ w8).drew
   have HFV:=Lib.hid (HF8.out.on hVB);have HZV:=Lib.hid (HZ8.out.below hVB HZ8.out.lt);have HYV:=Lib.hid (HY8.out.below hVB HY8.out.lt);have HBV:=Lib.hid (HB8.out.fr (Fr.of hVB))
   have HDV:=Lib.hid (BoxC.below HD8.out hVB HD8.out.lt:Rdr V p A l c (wantS (sa,0) (decide (0<x)) 132))
   have HGA:=Lib.hid (pgrow_any V p A l c _ HDV.out (some ⟨b0,o0,none⟩) l0 c' (lst O) ⟨HBV.out.1.1,fun h0=>by obtain⟨b,o,e,hb,hc⟩:=HBV.out.1.2 (by omega);exact⟨b,o,e,hb,fun j hj=>hc j (by have:=HM.out;omega)⟩⟩ (by omega) 15)
   have hl0c:l0≤c':=by have:=HCAP.out;have:=HM.out;omega
   have hl0n:l0≤n':=by have:=HM.out;omega
   obtain⟨A2,hA2⟩:∃A2,(if c'=l0 then(some ⟨b0,o0,none⟩:Option Addr)else(some (⟨b0,o0,none⟩:Addr)).map (·.add l0))=A2:=⟨_,rfl⟩
   have hA2v:A2=some ⟨b0,o0+l0,none⟩:=by rw[←hA2,if_neg (by have:=HCAP.out;have:=HM.out;omega)];show some (Addr.add ⟨b0,o0,none⟩ l0)=_;unfold Addr.add;rw[if_neg (by omega)]
   subst hA2v
   have hf0n:n'-l0=f0:=by have:=HM.out;omega
   refine wp_region_any (by kernel_rfl) ?_
   change wpAny _ _ _ _ _ _ _ (World.drew _)
   rw[←hV]
   have HA2:=Lib.hid hA2;have HF0:=Lib.hid hf0n;have HLC:=Lib.hid hl0c;have HLN:=Lib.hid hl0n
   clear hV hVB HD8 HF8 HZ8 HY8 HB8 hA2 hf0n hl0c hl0n
   refine any_float 0 (.pointer (some ⟨p,0,none⟩)) (by kernel_rfl) (by kernel_rfl) rfl rfl 46 rfl (fun _ _ _ h=>h) (by kernel_rfl) (exec_move _ rfl _ rfl) ?_
   simp only[Act.put,List.setIfInBounds_toArray,List.set_cons_zero,List.set_cons_succ]
   refine any_float 1 (.slice (some ⟨b0,o0,none⟩) n' c') (by kernel_rfl) (by kernel_rfl) rfl rfl 47 rfl (fun _ _ _ h=>h) (by kernel_rfl) (exec_move _ rfl _ rfl) ?_
   simp only[Act.put,List.setIfInBounds_toArray,List.set_cons_zero,List.set_cons_succ]
   refine any_float 2 (.int .i64 (l0:Int)) (by kernel_rfl) (by kernel_rfl) rfl rfl 48 rfl (fun _ _ _ h=>h) (by kernel_rfl) (exec_move _ rfl _ rfl) ?_
   simp only[Act.put,List.setIfInBounds_toArray,List.set_cons_zero,List.set_cons_succ]
   refine any_float 3 (.slice (some ⟨b0,o0,none⟩) l0 c') (by kernel_rfl) (by kernel_rfl) rfl rfl 49 rfl (fun _ _ _ h=>h) (by kernel_rfl) (exec_slice _ _ none (some _) rfl _ _ none (some (.int .i64 (l0:Int))) rfl rfl rfl (run_to _ _ _ _ HLC.out)) ?_
   simp only[Act.put,List.setIfInBounds_toArray,List.set_cons_zero,List.set_cons_succ]
   refine any_float 5 (.pointer (some ⟨p,0,none⟩)) (by kernel_rfl) (by kernel_rfl) rfl rfl 51 rfl (fun _ _ _ h=>h) (by kernel_rfl) (exec_move _ rfl _ rfl) ?_
   simp only[Act.put,List.setIfInBounds_toArray,List.set_cons_zero,List.set_cons_succ]
   refine any_float 6 (.slice (some ⟨b0,o0,none⟩) n' c') (by kernel_rfl) (by kernel_rfl) rfl rfl 52 rfl (fun _ _ _ h=>h) (by kernel_rfl) (exec_move _ rfl _ rfl) ?_
   simp only[Act.put,List.setIfInBounds_toArray,List.set_cons_zero,List.set_cons_succ]
   refine any_float 7 (.int .i64 (l0:Int)) (by kernel_rfl) (by kernel_rfl) rfl rfl 53 rfl (fun _ _ _ h=>h) (by kernel_rfl) (exec_move _ rfl _ rfl) ?_
   simp only[Act.put,List.setIfInBounds_toArray,List.set_cons_zero,List.set_cons_succ]
   refine any_float 8 (.slice (some ⟨b0,o0+l0,none⟩) (n'-l0) (c'-l0)) (by kernel_rfl) (by kernel_rfl) rfl rfl 54 rfl (fun _ _ _ h=>h) (by kernel_rfl) (exec_slice _ _ (some _) none rfl _ _ (some (.int .i64 (l0:Int))) none rfl rfl rfl (run_from _ _ _ _ _ HLN.out HA2.out)) ?_
   simp only[Act.put,List.setIfInBounds_toArray,List.set_cons_zero,List.set_cons_succ]
   refine wpAny_ready (rs:=[4]) (by kernel_rfl) (by simp) ?_
   refine AllReady.cons rfl (fun K hK=>?_) AllReady.nil
   refine step_call rfl 126 _ _ rfl (enters_of Tryz.func126 (by kernel_rfl) rfl) #[.pointer (some ⟨p,0,none⟩),.slice (some ⟨b0,o0,none⟩) l0 c',.int .i64 15] (by simp[Act.eval]) HGA.out ?_
   rintro e w9 ⟨u1,rfl,r9,o9,f9⟩
   refine⟨_,rfl,hK _ _ ?_⟩
   clear hK K
   have HF9:=Lib.hid (HFV.out.trans f9);have HZ9:=Lib.hid (HZV.out.fr f9 HNA.out.1);have HY9:=Lib.hid (HYV.out.fr f9 HNA.out.2)
   have HGB:=Lib.hid (pgrow_any w9 p A l c _ r9 (some ⟨b0,o0+l0,none⟩) (n'-l0) (c'-l0) (lst (O.drop l0)) (drop_rd (HBV.out.fr f9).1 HLN.out) (by omega) 15)
   have hkV:k+2≤V.heap.size:=HYV.out.lt
   obtain⟨X,hX⟩:∃X,X=trA (grC (lst O) l0 15) u1:=⟨_,rfl⟩
   rw[←hX]
   have HXS:Hid (X.size=17):=Lib.hid (by rw[hX,trA_size])
   have HXO:Hid (X.all (·.oneCell')=true):=Lib.hid (by rw[hX];exact trA_one _ _ o9.one)
   have HXE:=Lib.hid hX;have HO9:=Lib.hid o9;have HKV:=Lib.hid hkV
   clear r9 o9 f9 hX HGA HBV HFV HZV HYV hkV HDV
   simp only[Act.put,List.setIfInBounds_toArray]
   refine wpAny_ready (rs:=[9]) (by kernel_rfl) (by simp) ?_
   refine AllReady.cons rfl (fun K hK=>?_) AllReady.nil
   refine step_call rfl 126 _ _ rfl (enters_of Tryz.func126 (by kernel_rfl) rfl) #[.pointer (some ⟨p,0,none⟩),.slice (some ⟨b0,o0+l0,none⟩) (n'-l0) (c'-l0),.int .i64 15] (by simp[Act.eval]) HGB.out ?_
   rintro e w10 ⟨u2,rfl,r10,o10,f10⟩
   refine⟨_,rfl,hK _ _ ?_⟩
   clear hK K
   have hkV:=HKV.out;have hpp:=HP.out
   rw[HF0.out]at r10 o10
   obtain⟨Y,hY⟩:∃X,X=trA (grC (lst (O.drop l0)) (n'-l0) 15) u2:=⟨_,rfl⟩
   rw[←hY]
   rw[HF0.out]at hY
   have HYS:Hid (Y.size=17):=Lib.hid (by rw[hY,trA_size])
   have HYO:Hid (Y.all (·.oneCell')=true):=Lib.hid (by rw[hY];exact trA_one _ _ o10.one)
   have hkw9:k+2≤w9.heap.size:=HY9.out.lt
   have HYE:=Lib.hid hY
   have HZ10:=Lib.hid (HZ9.out.fr f10 HNA.out.1)
   have HY10:Hid (BoxC (w10.setRow k X) (k+1) Z 26):=Lib.hid ((HY9.out.fr f10 HNA.out.2).rowO (by omega) _)
   have HO1:=Lib.hid (HO9.out.fr f10 (fun j (e:j=p)=>by omega))
   have HO2:=Lib.hid o10;have HR10:=Lib.hid r10;have HF10:=Lib.hid (HF9.out.trans f10)
   clear r10 o10 f10 hY HGB HZ9 HY9 HO9 HF9
   simp only[Act.put]
   refine wpAny_ready (rs:=[10]) (by kernel_rfl) (by simp) ?_
   refine AllReady.cons rfl (fun K hK=>?_) AllReady.nil
   refine step_store_row rfl 26 _ _ rfl rfl k X rfl rfl 26 Z HZ10.out (szTree17 HXS.out) (by rw[HZS.out,HXS.out]) HXO.out ?_
   refine hK _ _ ?_
   clear hK K
   refine wpAny_ready (rs:=[11]) (by kernel_rfl) (by simp) ?_
   refine AllReady.cons rfl (fun K hK=>?_) AllReady.nil
   refine step_store_row rfl 26 _ _ rfl rfl (k+1) Y rfl rfl 26 Z HY10.out (szTree17 HYS.out) (by rw[HZS.out,HYS.out]) HYO.out ?_
   refine hK _ _ ?_
   clear hK K
   refine wpAny_done (by kernel_rfl) ?_ _
   simp only[List.getElem_toArray,List.getElem_cons_zero,List.getElem_cons_succ,List.setIfInBounds_toArray,List.set_cons_zero,List.set_cons_succ]
   go_wp2
   refine bodyPost_ret (v:=.tuple #[.agg X,.agg Y]) (cell_twoT rfl _ _ k (k+1) X Y HXS.out HYS.out rfl rfl (BoxC.rowO (show BoxC (w10.setRow k X) k X 26 from setRow_heap _ _ _ _ _ _ HZ10.out) (by omega) _) (setRow_heap _ _ _ _ _ _ HY10.out)) rfl ⟨u1,u2,by rw[HXE.out,HYE.out,M12.out,M13.out],?_,?_,?_,?_⟩
   ·rw[M11.out];exact BoxC.rowO (BoxC.rowO HR10.out (by omega) _) (by omega) _
   ·rw[←HK.out,M14.out];exact ownsRow_lower (own_blk HO1.out fun j hj=>(setRow_other _ _ _ _ (by have:=(own_blk_lt HO1.out j hj).1;omega)).trans (setRow_other _ _ _ _ (by have:=(own_blk_lt HO1.out j hj).1;omega))) (by omega)
   ·rw[←HK.out,M15.out];exact ownsRow_lower (own_blk HO2.out fun j hj=>(setRow_other _ _ _ _ (by have:=(own_blk_lt HO2.out j hj).1;omega)).trans (setRow_other _ _ _ _ (by have:=(own_blk_lt HO2.out j hj).1;omega))) (by omega)
   ·exact(HF10.out.from (Fr.row w10 k X) fun j hj=>.inr (by rw[←HK.out];exact Nat.le_of_eq hj.symm)).from (Fr.row _ (k+1) Y) fun j hj=>.inr (by rw[←HK.out];have:j=k+1:=hj;omega)
  ·have hR1:R.2.2≠0:=by rw[←hss];exact he
   have M11:=Lib.hid (N11.out.trans (if_pos hR1));have M12:=Lib.hid (N12.out.trans (if_pos hR1));have M13:=Lib.hid (N13.out.trans (if_pos hR1));have M14:=Lib.hid (N14.out.trans (if_pos hR1));have M15:=Lib.hid (N15.out.trans (if_pos hR1))
   rw[←hss]at M11
   have hne:(se==0)=false:=beq_eq_false_iff_ne.2 he
   have hne2:(se !=0)=true:=by simp[bne,hne]
   have HD7:=Lib.hid r7
   have HY7b:Hid (BoxC (w7.setRow k Z) (k+1) Z 26):=Lib.hid (HY7.out.rowO (by omega) _)
   clear hR1 hn' hby hnb r7 f7 hss HLN hkw6 he HG6 HZ6 HY6 HF6
   go_wp2_with (first
    |(refine wpList_buildTo rfl 26 #[] rfl (some 38) rfl Z ?_ ?_;focus(simpa[Act.eval]using HZB.out))
    |(refine wpList_buildTo rfl 26 #[] rfl (some 39) rfl Z ?_ ?_;focus(simpa[Act.eval]using HZB.out))
    |(refine wpList_store_rowTo rfl _ _ _ rfl rfl k Z rfl rfl 26 Z HZ7.out (szTree17 HZS.out) rfl HZO.out ?_)
    |(refine wpList_store_rowTo rfl _ _ _ rfl rfl (k+1) Z rfl rfl 26 Z HY7b.out (szTree17 HZS.out) rfl HZO.out ?_)
    |fail)
   have hpp:=HP.out
   refine bodyPost_ret (v:=.tuple #[.agg Z,.agg Z]) (cell_twoT rfl _ _ k (k+1) Z Z HZS.out HZS.out rfl rfl (BoxC.rowO (show BoxC (w7.setRow k Z) k Z 26 from setRow_heap _ _ _ _ _ _ HZ7.out) (by omega) _) (setRow_heap _ _ _ _ _ _ HY7b.out)) rfl ⟨.slice none 0 0,.slice none 0 0,by rw[M12.out,M13.out,HZE.out],?_,?_,?_,?_⟩
   ·rw[M11.out];exact BoxC.rowO (BoxC.rowO HD7.out (by omega) _) (by omega) _
   ·rw[M14.out];exact World.ownsRow_nil ..
   ·rw[M15.out];exact World.ownsRow_nil ..
   ·exact(HF7.out.from (Fr.row w7 k Z) fun j hj=>.inr (by rw[←HK.out];exact Nat.le_of_eq hj.symm)).from (Fr.row _ (k+1) Z) fun j hj=>.inr (by rw[←HK.out];have:j=k+1:=hj;omega)
 ·have d1:decide ((l0:Int)≤286)=false:=decN (by omega)
  have d1':decide (l0≤286)=false:=decN0 a1
  clear a1
  go_wp2_with fail
  refine(HWA.out _).mono ?_
  rintro e w5 ⟨rfl,r5,f5⟩
  rw[←hbt,←N6.out]at r5
  have HF5:=Lib.hid (HF4.out.trans f5);have HG5:=Lib.hid (HG4.out.fr (f5.mono HPS.out));have HZ5:=Lib.hid (HZ4.out.fr f5 HNA.out.1);have HY5:=Lib.hid (HY4.out.fr f5 HNA.out.2)
  have hkw5:k+2≤w5.heap.size:=HY5.out.lt
  have HSH:=Lib.hid (pshorts_any w5 p A l c g s4 r5 S HSP.out.1 (fun j hj=>by have:=HSP.out.2 j hj;omega) HG5.out hl i4 c0 hc19)
  rw[←N8.out,N7.out]at HSH
  clear r5 f5 HWA hkw5 HCS hbt
  go_wp2_with fail
  refine HSH.out.mono ?_
  rintro e w6 ⟨u,rfl,r6,o6,f6⟩
  have HF6:=Lib.hid (HF5.out.trans f6);have HG6:=Lib.hid (HG5.out.fr (f6.mono HPS.out));have HZ6:=Lib.hid (HZ5.out.fr f6 HNA.out.1);have HY6:=Lib.hid (HY5.out.fr f6 HNA.out.2)
  have hkw5:k+2≤w5.heap.size:=HY5.out.lt
  have hkw6:k+2≤w6.heap.size:=HY6.out.lt
  have HLN:=Lib.hid (plengths_any w6 p A l c g s5 r6 S HSP.out.1 (fun j hj=>by have:=HSP.out.2 j hj;omega) HG6.out hl i5 (extF 19 HH) (grC HH 19 7) u o6.one (fun e=>⟨grS HH 19 7,RiF.of_own o6 (fun j hj=>by have:=HSP.out.2 j hj;omega),grown_tree (HOK.out e)⟩) m hm400)
  rw[N9.out,N10.out]at HLN
  clear r6 o6 f6 HSH hkw5 hkw6 HG5 HZ5 HY5 HF5
  go_wp2_with fail
  refine HLN.out.mono ?_
  rintro e w7 ⟨A',n',c',rfl,hn',hby,hnb,r7,f7⟩
  have HF7:=Lib.hid (HF6.out.trans f7);have HZ7:=Lib.hid (HZ6.out.fr f7 HNA.out.1);have HY7:=Lib.hid (HY6.out.fr f7 HNA.out.2)
  have hkw6:k+2≤w6.heap.size:=HY6.out.lt
  obtain⟨ss,hss⟩:∃x,x=R.2:=⟨_,rfl⟩
  obtain⟨sa,se⟩:=ss
  rw[←hss]at r7
  have k2:w7.cell? ⟨p,2,none⟩=some (.int .i64 se):=Rdr.e r7
  by_cases he:se=0
  ·have hR0:R.2.2=0:=by rw[←hss];exact he
   have hR1:¬R.2.2≠0:=fun h=>h hR0
   have M11:=Lib.hid (N11.out.trans (if_neg hR1));have M12:=Lib.hid (N12.out.trans (if_neg hR1));have M13:=Lib.hid (N13.out.trans (if_neg hR1));have M14:=Lib.hid (N14.out.trans (if_neg hR1));have M15:=Lib.hid (N15.out.trans (if_neg hR1))
   rw[←hss]at M11
   have hlen:=HLEN.out hR0
   obtain rfl:n'=m:=hn'.trans hlen
   have hmm:=HM.out
   obtain⟨b0,o0,cur,hA',hge,hcur⟩:=hnb (by omega)
   subst hA'
   obtain⟨b0',o0',e0,hb0,hc0⟩:=hby.1.2 (by omega)
   cases e0
   have k256:=hc0 256 (by omega)
   have hcap:=hby.2.2.1
   have hcm:=hby.2.2.2
   have hx8:=hby.1.1 256
   obtain⟨x,hx⟩:∃x,x=lst O 256:=⟨_,rfl⟩
   rw[←hx]at k256 hx8 M11
   have h256:(256:Int)<(n':Int):=by omega
   have hne:(se==0)=true:=by rw[he];rfl
   have hne2:(se !=0)=false:=by simp[bne,hne]
   have HWB:=Lib.hid fun b=>pwant_any w7 p A l c (sa,se) r7 b 132
   have HBY:Hid (RdF (At p) w7 (some ⟨b0,o0,none⟩) n' (lst O)):=Lib.hid ⟨hby.1,fun b o _ e (hb:b=p)=>by
    injection e with e;injection e with q1 _ _
    have:=HP.out;omega⟩
   have HCAP:=Lib.hid hcap;have HCM:=Lib.hid hcm
   subst he
   clear hR0 hR1 hlen hn' hby hnb r7 f7 hss HLN hge hb0 hc0 hcap hcm hx hcur cur hkw6 hmm HG6 HZ6 HY6 HF6
   go_wp2_with fail
   refine(HWB.out _).mono ?_
   rintro e w8 ⟨rfl,r8,f8⟩
   have r8':Rdr w8 p A l c (wantS (sa,0) (decide (0<x)) 132):=by simpa using r8
   have HF8:=Lib.hid (HF7.out.trans f8);have HZ8:=Lib.hid (HZ7.out.fr f8 HNA.out.1);have HY8:=Lib.hid (HY7.out.fr f8 HNA.out.2);have HB8:=Lib.hid (HBY.out.fr f8)
   have HD8:=Lib.hid r8'
   clear r8 r8' f8 HWB HF7 HZ7 HY7 HBY k2 k256
   go_wp2_with fail
   obtain⟨V,hV⟩:∃V,V=w8.drew:=⟨_,rfl⟩
   have hVB:Below w8.heap.size w8 V:=by rw[hV];exact(Below.refl _ w8).drew
   have HFV:=Lib.hid (HF8.out.on hVB);have HZV:=Lib.hid (HZ8.out.below hVB HZ8.out.lt);have HYV:=Lib.hid (HY8.out.below hVB HY8.out.lt);have HBV:=Lib.hid (HB8.out.fr (Fr.of hVB))
   have HDV:=Lib.hid (BoxC.below HD8.out hVB HD8.out.lt:Rdr V p A l c (wantS (sa,0) (decide (0<x)) 132))
   have HGA:=Lib.hid (pgrow_any V p A l c _ HDV.out (some ⟨b0,o0,none⟩) l0 c' (lst O) ⟨HBV.out.1.1,fun h0=>by obtain⟨b,o,e,hb,hc⟩:=HBV.out.1.2 (by omega);exact⟨b,o,e,hb,fun j hj=>hc j (by have:=HM.out;omega)⟩⟩ (by omega) 15)
   have hl0c:l0≤c':=by have:=HCAP.out;have:=HM.out;omega
   have hl0n:l0≤n':=by have:=HM.out;omega
   obtain⟨A2,hA2⟩:∃A2,(if c'=l0 then(some ⟨b0,o0,none⟩:Option Addr)else(some (⟨b0,o0,none⟩:Addr)).map (·.add l0))=A2:=⟨_,rfl⟩
   have hA2v:A2=some ⟨b0,o0+l0,none⟩:=by rw[←hA2,if_neg (by have:=HCAP.out;have:=HM.out;omega)];show some (Addr.add ⟨b0,o0,none⟩ l0)=_;unfold Addr.add;rw[if_neg (by omega)]
   subst hA2v
   have hf0n:n'-l0=f0:=by have:=HM.out;omega
   refine wp_region_any (by kernel_rfl) ?_
   change wpAny _ _ _ _ _ _ _ (World.drew _)
   rw[←hV]
   have HA2:=Lib.hid hA2;have HF0:=Lib.hid hf0n;have HLC:=Lib.hid hl0c;have HLN:=Lib.hid hl0n
   clear hV hVB HD8 HF8 HZ8 HY8 HB8 hA2 hf0n hl0c hl0n
   refine any_float 0 (.pointer (some ⟨p,0,none⟩)) (by kernel_rfl) (by kernel_rfl) rfl rfl 46 rfl (fun _ _ _ h=>h) (by kernel_rfl) (exec_move _ rfl _ rfl) ?_
   simp only[Act.put,List.setIfInBounds_toArray,List.set_cons_zero,List.set_cons_succ]
   refine any_float 1 (.slice (some ⟨b0,o0,none⟩) n' c') (by kernel_rfl) (by kernel_rfl) rfl rfl 47 rfl (fun _ _ _ h=>h) (by kernel_rfl) (exec_move _ rfl _ rfl) ?_
   simp only[Act.put,List.setIfInBounds_toArray,List.set_cons_zero,List.set_cons_succ]
   refine any_float 2 (.int .i64 (l0:Int)) (by kernel_rfl) (by kernel_rfl) rfl rfl 48 rfl (fun _ _ _ h=>h) (by kernel_rfl) (exec_move _ rfl _ rfl) ?_
   simp only[Act.put,List.setIfInBounds_toArray,List.set_cons_zero,List.set_cons_succ]
   refine any_float 3 (.slice (some ⟨b0,o0,none⟩) l0 c') (by kernel_rfl) (by kernel_rfl) rfl rfl 49 rfl (fun _ _ _ h=>h) (by kernel_rfl) (exec_slice _ _ none (some _) rfl _ _ none (some (.int .i64 (l0:Int))) rfl rfl rfl (run_to _ _ _ _ HLC.out)) ?_
   simp only[Act.put,List.setIfInBounds_toArray,List.set_cons_zero,List.set_cons_succ]
   refine any_float 5 (.pointer (some ⟨p,0,none⟩)) (by kernel_rfl) (by kernel_rfl) rfl rfl 51 rfl (fun _ _ _ h=>h) (by kernel_rfl) (exec_move _ rfl _ rfl) ?_
   simp only[Act.put,List.setIfInBounds_toArray,List.set_cons_zero,List.set_cons_succ]
   refine any_float 6 (.slice (some ⟨b0,o0,none⟩) n' c') (by kernel_rfl) (by kernel_rfl) rfl rfl 52 rfl (fun _ _ _ h=>h) (by kernel_rfl) (exec_move _ rfl _ rfl) ?_
   simp only[Act.put,List.setIfInBounds_toArray,List.set_cons_zero,List.set_cons_succ]
   refine any_float 7 (.int .i64 (l0:Int)) (by kernel_rfl) (by kernel_rfl) rfl rfl 53 rfl (fun _ _ _ h=>h) (by kernel_rfl) (exec_move _ rfl _ rfl) ?_
   simp only[Act.put,List.setIfInBounds_toArray,List.set_cons_zero,List.set_cons_succ]
   refine any_float 8 (.slice (some ⟨b0,o0+l0,none⟩) (n'-l0) (c'-l0)) (by kernel_rfl) (by kernel_rfl) rfl rfl 54 rfl (fun _ _ _ h=>h) (by kernel_rfl) (exec_slice _ _ (some _) none rfl _ _ (some (.int .i64 (l0:Int))) none rfl rfl rfl (run_from _ _ _ _ _ HLN.out HA2.out)) ?_
   simp only[Act.put,List.setIfInBounds_toArray,List.set_cons_zero,List.set_cons_succ]
   refine wpAny_ready (rs:=[4]) (by kernel_rfl) (by simp) ?_
   refine AllReady.cons rfl (fun K hK=>?_) AllReady.nil
   refine step_call rfl 126 _ _ rfl (enters_of Tryz.func126 (by kernel_rfl) rfl) #[.pointer (some ⟨p,0,none⟩),.slice (some ⟨b0,o0,none⟩) l0 c',.int .i64 15] (by simp[Act.eval]) HGA.out ?_
   rintro e w9 ⟨u1,rfl,r9,o9,f9⟩
   refine⟨_,rfl,hK _ _ ?_⟩
   clear hK K
   have HF9:=Lib.hid (HFV.out.trans f9);have HZ9:=Lib.hid (HZV.out.fr f9 HNA.out.1);have HY9:=Lib.hid (HYV.out.fr f9 HNA.out.2)
   have HGB:=Lib.hid (pgrow_any w9 p A l c _ r9 (some ⟨b0,o0+l0,none⟩) (n'-l0) (c'-l0) (lst (O.drop l0)) (drop_rd (HBV.out.fr f9).1 HLN.out) (by omega) 15)
   have hkV:k+2≤V.heap.size:=HYV.out.lt
   obtain⟨X,hX⟩:∃X,X=trA (grC (lst O) l0 15) u1:=⟨_,rfl⟩
   rw[←hX]
   have HXS:Hid (X.size=17):=Lib.hid (by rw[hX,trA_size])
   have HXO:Hid (X.all (·.oneCell')=true):=Lib.hid (by rw[hX];exact trA_one _ _ o9.one)
   have HXE:=Lib.hid hX;have HO9:=Lib.hid o9;have HKV:=Lib.hid hkV
   clear r9 o9 f9 hX HGA HBV HFV HZV HYV hkV HDV
   simp only[Act.put,List.setIfInBounds_toArray]
   refine wpAny_ready (rs:=[9]) (by kernel_rfl) (by simp) ?_
   refine AllReady.cons rfl (fun K hK=>?_) AllReady.nil
   refine step_call rfl 126 _ _ rfl (enters_of Tryz.func126 (by kernel_rfl) rfl) #[.pointer (some ⟨p,0,none⟩),.slice (some ⟨b0,o0+l0,none⟩) (n'-l0) (c'-l0),.int .i64 15] (by simp[Act.eval]) HGB.out ?_
   rintro e w10 ⟨u2,rfl,r10,o10,f10⟩
   refine⟨_,rfl,hK _ _ ?_⟩
   clear hK K
   have hkV:=HKV.out;have hpp:=HP.out
   rw[HF0.out]at r10 o10
   obtain⟨Y,hY⟩:∃X,X=trA (grC (lst (O.drop l0)) (n'-l0) 15) u2:=⟨_,rfl⟩
   rw[←hY]
   rw[HF0.out]at hY
   have HYS:Hid (Y.size=17):=Lib.hid (by rw[hY,trA_size])
   have HYO:Hid (Y.all (·.oneCell')=true):=Lib.hid (by rw[hY];exact trA_one _ _ o10.one)
   have hkw9:k+2≤w9.heap.size:=HY9.out.lt
   have HYE:=Lib.hid hY
   have HZ10:=Lib.hid (HZ9.out.fr f10 HNA.out.1)
   have HY10:Hid (BoxC (w10.setRow k X) (k+1) Z 26):=Lib.hid ((HY9.out.fr f10 HNA.out.2).rowO (by omega) _)
   have HO1:=Lib.hid (HO9.out.fr f10 (fun j (e:j=p)=>by omega))
   have HO2:=Lib.hid o10;have HR10:=Lib.hid r10;have HF10:=Lib.hid (HF9.out.trans f10)
   clear r10 o10 f10 hY HGB HZ9 HY9 HO9 HF9
   simp only[Act.put]
   refine wpAny_ready (rs:=[10]) (by kernel_rfl) (by simp) ?_
   refine AllReady.cons rfl (fun K hK=>?_) AllReady.nil
   refine step_store_row rfl 26 _ _ rfl rfl k X rfl rfl 26 Z HZ10.out (szTree17 HXS.out) (by rw[HZS.out,HXS.out]) HXO.out ?_
   refine hK _ _ ?_
   clear hK K
   refine wpAny_ready (rs:=[11]) (by kernel_rfl) (by simp) ?_
   refine AllReady.cons rfl (fun K hK=>?_) AllReady.nil
   refine step_store_row rfl 26 _ _ rfl rfl (k+1) Y rfl rfl 26 Z HY10.out (szTree17 HYS.out) (by rw[HZS.out,HYS.out]) HYO.out ?_
   refine hK _ _ ?_
   clear hK K
   refine wpAny_done (by kernel_rfl) ?_ _
   simp only[List.getElem_toArray,List.getElem_cons_zero,List.getElem_cons_succ,List.setIfInBounds_toArray,List.set_cons_zero,List.set_cons_succ]
   go_wp2
   refine bodyPost_ret (v:=.tuple #[.agg X,.agg Y]) (cell_twoT rfl _ _ k (k+1) X Y HXS.out HYS.out rfl rfl (BoxC.rowO (show BoxC (w10.setRow k X) k X 26 from setRow_heap _ _ _ _ _ _ HZ10.out) (by omega) _) (setRow_heap _ _ _ _ _ _ HY10.out)) rfl ⟨u1,u2,by rw[HXE.out,HYE.out,M12.out,M13.out],?_,?_,?_,?_⟩
   ·rw[M11.out];exact BoxC.rowO (BoxC.rowO HR10.out (by omega) _) (by omega) _
   ·rw[←HK.out,M14.out];exact ownsRow_lower (own_blk HO1.out fun j hj=>(setRow_other _ _ _ _ (by have:=(own_blk_lt HO1.out j hj).1;omega)).trans (setRow_other _ _ _ _ (by have:=(own_blk_lt HO1.out j hj).1;omega))) (by omega)
   ·rw[←HK.out,M15.out];exact ownsRow_lower (own_blk HO2.out fun j hj=>(setRow_other _ _ _ _ (by have:=(own_blk_lt HO2.out j hj).1;omega)).trans (setRow_other _ _ _ _ (by have:=(own_blk_lt HO2.out j hj).1;omega))) (by omega)
   ·exact(HF10.out.from (Fr.row w10 k X) fun j hj=>.inr (by rw[←HK.out];exact Nat.le_of_eq hj.symm)).from (Fr.row _ (k+1) Y) fun j hj=>.inr (by rw[←HK.out];have:j=k+1:=hj;omega)
  ·have hR1:R.2.2≠0:=by rw[←hss];exact he
   have M11:=Lib.hid (N11.out.trans (if_pos hR1));have M12:=Lib.hid (N12.out.trans (if_pos hR1));have M13:=Lib.hid (N13.out.trans (if_pos hR1));have M14:=Lib.hid (N14.out.trans (if_pos hR1));have M15:=Lib.hid (N15.out.trans (if_pos hR1))
   rw[←hss]at M11
   have hne:(se==0)=false:=beq_eq_false_iff_ne.2 he
   have hne2:(se !=0)=true:=by simp[bne,hne]
   have HD7:=Lib.hid r7
   have HY7b:Hid (BoxC (w7.setRow k Z) (k+1) Z 26):=Lib.hid (HY7.out.rowO (by omega) _)
   clear hR1 hn' hby hnb r7 f7 hss HLN hkw6 he HG6 HZ6 HY6 HF6
   go_wp2_with (first
    |(refine wpList_buildTo rfl 26 #[] rfl (some 38) rfl Z ?_ ?_;focus(simpa[Act.eval]using HZB.out))
    |(refine wpList_buildTo rfl 26 #[] rfl (some 39) rfl Z ?_ ?_;focus(simpa[Act.eval]using HZB.out))
    |(refine wpList_store_rowTo rfl _ _ _ rfl rfl k Z rfl rfl 26 Z HZ7.out (szTree17 HZS.out) rfl HZO.out ?_)
    |(refine wpList_store_rowTo rfl _ _ _ rfl rfl (k+1) Z rfl rfl 26 Z HY7b.out (szTree17 HZS.out) rfl HZO.out ?_)
    |fail)
   have hpp:=HP.out
   refine bodyPost_ret (v:=.tuple #[.agg Z,.agg Z]) (cell_twoT rfl _ _ k (k+1) Z Z HZS.out HZS.out rfl rfl (BoxC.rowO (show BoxC (w7.setRow k Z) k Z 26 from setRow_heap _ _ _ _ _ _ HZ7.out) (by omega) _) (setRow_heap _ _ _ _ _ _ HY7b.out)) rfl ⟨.slice none 0 0,.slice none 0 0,by rw[M12.out,M13.out,HZE.out],?_,?_,?_,?_⟩
   ·rw[M11.out];exact BoxC.rowO (BoxC.rowO HD7.out (by omega) _) (by omega) _
   ·rw[M14.out];exact World.ownsRow_nil ..
   ·rw[M15.out];exact World.ownsRow_nil ..
   ·exact(HF7.out.from (Fr.row w7 k Z) fun j hj=>.inr (by rw[←HK.out];exact Nat.le_of_eq hj.symm)).from (Fr.row _ (k+1) Z) fun j hj=>.inr (by rw[←HK.out];have:j=k+1:=hj;omega)
end Go.Proofs.YtcmpmighjglnpaaGreat
