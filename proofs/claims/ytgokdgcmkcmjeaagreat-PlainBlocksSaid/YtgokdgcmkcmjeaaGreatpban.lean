/-
  Words and walks.
-/
import Derived.Laws.StructEq
import Derived.BigQuiet
import Derived.Test.YtgokdgcmkcmjeaaGreatpbab
import Derived.Test.YtgokdgcmkcmjeaaGreatpbad
import Derived.Test.YtgokdgcmkcmjeaaGreatpbai
import Derived.Test.YtgokdgcmkcmjeaaGreatpbam
set_option maxRecDepth 100000
set_option maxHeartbeats 16000000
namespace Go.Proofs.YtgokdgcmkcmjeaaGreat
open Go.RowKit Go.ChangeShapes Go.WideShapes Go.ChangeAt Go.Joins
theorem lbits10_any(w:World)(s:Int):Calls Tryz.prog 173 #[.int .i64 s] w fun e w'=>e=.returned (.tuple #[.int .i64 (bitV s),.int .i64 (bitE s)])∧w=w':=by
 by_cases y0:s<0
 ·skip
  have e1:bitV s=0:=by unfold bitV;rw[if_neg (by omega)]
  have e2:bitE s=2:=by unfold bitE;rw[if_neg (by omega)]
  rw[e1,e2]
  have d0:decide (s<0)=true:=decY0 y0
  clear e1 e2 y0
  go_enter Tryz.func173,Tryz.ntmps173
  go_wp2
  go_ret2
  exact⟨rfl,rfl⟩
 have d0:decide (s<0)=false:=decN0 y0
 by_cases y1:19≤s
 ·skip
  have e1:bitV s=0:=by unfold bitV;rw[if_neg (by omega)]
  have e2:bitE s=2:=by unfold bitE;rw[if_neg (by omega)]
  rw[e1,e2]
  have d1:decide (19≤s)=true:=decY0 y1
  clear e1 e2 y0 y1
  go_enter Tryz.func173,Tryz.ntmps173
  go_wp2
  go_ret2
  exact⟨rfl,rfl⟩
 have d1:decide (19≤s)=false:=decN0 y1
 by_cases y16:s=16
 ·skip
  have e1:bitV s=2:=by unfold bitV bitsR;rw[if_pos (by omega),if_pos y16];rfl
  have e2:bitE s=0:=by unfold bitE;rw[if_pos (by omega)]
  rw[e1,e2]
  have d16:(s==16)=true:=by simp[y16]
  clear e1 e2 y0 y1 y16
  go_enter Tryz.func173,Tryz.ntmps173
  go_wp2
  go_ret2
  exact⟨rfl,rfl⟩
 have d16:(s==16)=false:=by simp[y16]
 by_cases y17:s=17
 ·skip
  have e1:bitV s=3:=by unfold bitV bitsR;rw[if_pos (by omega),if_neg y16,if_pos y17];rfl
  have e2:bitE s=0:=by unfold bitE;rw[if_pos (by omega)]
  rw[e1,e2]
  have d17:(s==17)=true:=by simp[y17]
  clear e1 e2 y0 y1 y16 y17
  go_enter Tryz.func173,Tryz.ntmps173
  go_wp2
  go_ret2
  exact⟨rfl,rfl⟩
 have d17:(s==17)=false:=by simp[y17]
 by_cases y18:s=18
 ·skip
  have e1:bitV s=7:=by unfold bitV bitsR;rw[if_pos (by omega),if_neg y16,if_neg y17,if_pos y18];rfl
  have e2:bitE s=0:=by unfold bitE;rw[if_pos (by omega)]
  rw[e1,e2]
  have d18:(s==18)=true:=by simp[y18]
  clear e1 e2 y0 y1 y16 y17 y18
  go_enter Tryz.func173,Tryz.ntmps173
  go_wp2
  go_ret2
  exact⟨rfl,rfl⟩
 have d18:(s==18)=false:=by simp[y18]
 have e1:bitV s=0:=by unfold bitV bitsR;rw[if_pos (by omega),if_neg y16,if_neg y17,if_neg y18];rfl
 have e2:bitE s=0:=by unfold bitE;rw[if_pos (by omega)]
 rw[e1,e2]
 skip
 clear e1 e2 y0 y1 y16 y17 y18
 go_enter Tryz.func173,Tryz.ntmps173
 go_wp2
 go_ret2
 exact⟨rfl,rfl⟩
def mayU(s x:Int):Prop:=¬(s<0∨18<s∨x<0∨(2^bitsR s:Nat)≤x)
instance (s x:Int):Decidable (mayU s x):=by unfold mayU;infer_instance
theorem mayU_dec{s x:Int}{k p:Nat}(hs:¬(s<0∨18<s))(eb:bitsR s=k)(hp:2^k=p):decide (mayU s x)=decide (0≤x∧x<(p:Int)):=by
 apply decide_eq_decide.2
 unfold mayU
 rw[eb,hp]
 constructor<;>(intro q;omega)
theorem below_drewN{B:Nat}{a w:World}(h:Below B a w)(n:Nat):Below B a (w.drewN n):=⟨h.os,h.tape,h.output,h.size,h.block⟩
theorem may10_any(w:World)(s x:Int):Calls Tryz.prog 175 #[.agg #[.int .i64 s,.int .i64 x]] w fun e w'=>e=.returned (.bool (decide (mayU s x)))∧Below w.heap.size w w':=by
 obtain⟨M,hM⟩:∃M,M=decide (mayU s x):=⟨_,rfl⟩
 rw[←hM]
 have HM:=Lib.hid hM
 clear hM
 have HBI:=Lib.hid (fun w=>lbits10_any w s)
 have HB:=Lib.hid ((Below.refl w.heap.size w).alloc (Nat.le_refl _) (.cells #[.int .i64 s,.int .i64 x] 208))
 by_cases s0:s<0∨18<s
 ·have e1:bitE s=2:=by unfold bitE;rw[if_neg (by omega)]
  obtain rfl:M=false:=by rw[HM.out];exact decN0 (fun q=>by unfold mayU at q;omega)
  rw[e1]at HBI
  obtain⟨bv,hbv⟩:∃bv,bv=bitV s:=⟨_,rfl⟩
  rw[←hbv]at HBI
  clear HM e1 hbv s0
  go_enter Tryz.func175,Tryz.ntmps175
  go_wp2_with fail
  refine(HBI.out _).mono ?_
  rintro e w2 ⟨rfl,rfl⟩
  go_wp2
  go_quiet (fail)
  go_wp2
  go_ret
  exact⟨rfl,below_drewN HB.out _⟩
 have e1:bitE s=0:=by unfold bitE;rw[if_pos (by omega)]
 have e2:bitV s=(bitsR s:Nat):=by unfold bitV;rw[if_pos (by omega)]
 rw[e1,e2]at HBI
 clear e1 e2
 by_cases y16:s=16
 ·skip
  have eb:bitsR s=2:=by unfold bitsR;rw[if_pos y16]
  rw[eb]at HBI
  have hm:M=decide (0≤x∧x<(4:Int)):=by rw[HM.out];exact mayU_dec s0 eb rfl
  have HM2:=Lib.hid hm
  clear hm eb s0 HM y16
  by_cases x0:x<0
  ·have dx:decide (0≤x)=false:=decN0 (by omega)
   obtain rfl:M=false:=by rw[HM2.out];exact decN0 (fun q=>absurd q.1 (by omega))
   clear HM2 x0
   go_enter Tryz.func175,Tryz.ntmps175
   go_wp2_with fail
   refine(HBI.out _).mono ?_
   rintro e w2 ⟨rfl,rfl⟩
   go_wp2
   go_quiet (fail)
   go_wp2
   go_ret
   exact⟨rfl,below_drewN HB.out _⟩
  have dx:decide (0≤x)=true:=decY0 (by omega)
  obtain⟨B,hBe⟩:∃B,B=decide (x<4):=⟨_,rfl⟩
  have hmb:M=B:=by rw[HM2.out,hBe];exact decide_eq_decide.2 ⟨fun q=>q.2,fun q=>⟨by omega,q⟩⟩
  subst hmb
  have dx1:decide (x<4)=M:=hBe.symm
  clear HM2 x0 hBe
  go_enter Tryz.func175,Tryz.ntmps175
  go_wp2_with fail
  refine(HBI.out _).mono ?_
  rintro e w2 ⟨rfl,rfl⟩
  go_wp2
  go_quiet (fail)
  go_wp2
  go_ret
  exact⟨rfl,below_drewN HB.out _⟩
 by_cases y17:s=17
 ·skip
  have eb:bitsR s=3:=by unfold bitsR;rw[if_neg y16,if_pos y17]
  rw[eb]at HBI
  have hm:M=decide (0≤x∧x<(8:Int)):=by rw[HM.out];exact mayU_dec s0 eb rfl
  have HM2:=Lib.hid hm
  clear hm eb s0 HM y16 y17
  by_cases x0:x<0
  ·have dx:decide (0≤x)=false:=decN0 (by omega)
   obtain rfl:M=false:=by rw[HM2.out];exact decN0 (fun q=>absurd q.1 (by omega))
   clear HM2 x0
   go_enter Tryz.func175,Tryz.ntmps175
   go_wp2_with fail
   refine(HBI.out _).mono ?_
   rintro e w2 ⟨rfl,rfl⟩
   go_wp2
   go_quiet (fail)
   go_wp2
   go_ret
   exact⟨rfl,below_drewN HB.out _⟩
  have dx:decide (0≤x)=true:=decY0 (by omega)
  obtain⟨B,hBe⟩:∃B,B=decide (x<8):=⟨_,rfl⟩
  have hmb:M=B:=by rw[HM2.out,hBe];exact decide_eq_decide.2 ⟨fun q=>q.2,fun q=>⟨by omega,q⟩⟩
  subst hmb
  have dx1:decide (x<8)=M:=hBe.symm
  clear HM2 x0 hBe
  go_enter Tryz.func175,Tryz.ntmps175
  go_wp2_with fail
  refine(HBI.out _).mono ?_
  rintro e w2 ⟨rfl,rfl⟩
  go_wp2
  go_quiet (fail)
  go_wp2
  go_ret
  exact⟨rfl,below_drewN HB.out _⟩
 by_cases y18:s=18
 ·skip
  have eb:bitsR s=7:=by unfold bitsR;rw[if_neg y16,if_neg y17,if_pos y18]
  rw[eb]at HBI
  have hm:M=decide (0≤x∧x<(128:Int)):=by rw[HM.out];exact mayU_dec s0 eb rfl
  have HM2:=Lib.hid hm
  clear hm eb s0 HM y16 y17 y18
  by_cases x0:x<0
  ·have dx:decide (0≤x)=false:=decN0 (by omega)
   obtain rfl:M=false:=by rw[HM2.out];exact decN0 (fun q=>absurd q.1 (by omega))
   clear HM2 x0
   go_enter Tryz.func175,Tryz.ntmps175
   go_wp2_with fail
   refine(HBI.out _).mono ?_
   rintro e w2 ⟨rfl,rfl⟩
   go_wp2
   go_quiet (fail)
   go_wp2
   go_ret
   exact⟨rfl,below_drewN HB.out _⟩
  have dx:decide (0≤x)=true:=decY0 (by omega)
  obtain⟨B,hBe⟩:∃B,B=decide (x<128):=⟨_,rfl⟩
  have hmb:M=B:=by rw[HM2.out,hBe];exact decide_eq_decide.2 ⟨fun q=>q.2,fun q=>⟨by omega,q⟩⟩
  subst hmb
  have dx1:decide (x<128)=M:=hBe.symm
  clear HM2 x0 hBe
  go_enter Tryz.func175,Tryz.ntmps175
  go_wp2_with fail
  refine(HBI.out _).mono ?_
  rintro e w2 ⟨rfl,rfl⟩
  go_wp2
  go_quiet (fail)
  go_wp2
  go_ret
  exact⟨rfl,below_drewN HB.out _⟩
 have eb:bitsR s=0:=by unfold bitsR;rw[if_neg y16,if_neg y17,if_neg y18]
 rw[eb]at HBI
 have hm:M=decide (0≤x∧x<(1:Int)):=by rw[HM.out];exact mayU_dec s0 eb rfl
 have HM2:=Lib.hid hm
 clear hm eb s0 HM y16 y17 y18
 by_cases x0:x<0
 ·have dx:decide (0≤x)=false:=decN0 (by omega)
  obtain rfl:M=false:=by rw[HM2.out];exact decN0 (fun q=>absurd q.1 (by omega))
  clear HM2 x0
  go_enter Tryz.func175,Tryz.ntmps175
  go_wp2_with fail
  refine(HBI.out _).mono ?_
  rintro e w2 ⟨rfl,rfl⟩
  go_wp2
  go_quiet (fail)
  go_wp2
  go_ret
  exact⟨rfl,below_drewN HB.out _⟩
 have dx:decide (0≤x)=true:=decY0 (by omega)
 obtain⟨B,hBe⟩:∃B,B=decide (x<1):=⟨_,rfl⟩
 have hmb:M=B:=by rw[HM2.out,hBe];exact decide_eq_decide.2 ⟨fun q=>q.2,fun q=>⟨by omega,q⟩⟩
 subst hmb
 have dx1:decide (x<1)=M:=hBe.symm
 clear HM2 x0 hBe
 go_enter Tryz.func175,Tryz.ntmps175
 go_wp2_with fail
 refine(HBI.out _).mono ?_
 rintro e w2 ⟨rfl,rfl⟩
 go_wp2
 go_quiet (fail)
 go_wp2
 go_ret
 exact⟨rfl,below_drewN HB.out _⟩
end Go.Proofs.YtgokdgcmkcmjeaaGreat
namespace Go.Proofs.YtgokdgcmkcmjeaaGreat
open Go.RowKit Go.ChangeShapes Go.WideShapes Go.ChangeAt Go.Joins
def valD(s:Int)(v:Nat):Nat:=if s=16 then v else if s<16 then s.toNat else 0
theorem does10_any(w:World)(s:Int)(x v:Nat)(hx:x≤1000)(hs:0≤s∧s≤18):Calls Tryz.prog 176 #[.agg #[.int .i64 s,.int .i64 (x:Int)],.int .u8 (v:Int)] w fun e w'=>e=.returned (.tuple #[.int .u8 (valD s v:Nat),.int .i64 ((timesR s (x:Int):Nat):Int)])∧Below w.heap.size w w':=by
 have HB:=Lib.hid ((Below.refl w.heap.size w).alloc (Nat.le_refl _) (.cells #[.int .i64 s,.int .i64 (x:Int)] 208))
 by_cases y16:s=16
 ·have e1:timesR s (x:Int)=x+3:=by unfold timesR;rw[if_pos (.inl y16),Int.toNat_natCast]
  have e2:valD s v=v:=by unfold valD;rw[if_pos y16]
  rw[e1,e2]
  have d16:(s==16)=true:=by simp[y16]
  have ex:(3:Int)+(x:Int)=((x+3:Nat):Int):=by omega
  obtain⟨u,hu⟩:∃u,u=x+3:=⟨_,rfl⟩
  rw[←hu]at ex⊢
  clear e1 e2 hu hs y16
  go_enter Tryz.func176,Tryz.ntmps176
  go_wp2
  go_ret2
  exact⟨rfl,HB.out⟩
 have d16:(s==16)=false:=by simp[y16]
 by_cases y17:s=17
 ·have e1:timesR s (x:Int)=x+3:=by unfold timesR;rw[if_pos (.inr y17),Int.toNat_natCast]
  have e2:valD s v=0:=by unfold valD;rw[if_neg y16,if_neg (by omega)]
  rw[e1,e2]
  have d17:(s==17)=true:=by simp[y17]
  have ex:(3:Int)+(x:Int)=((x+3:Nat):Int):=by omega
  obtain⟨u,hu⟩:∃u,u=x+3:=⟨_,rfl⟩
  rw[←hu]at ex⊢
  clear e1 e2 hu hs y16 y17
  go_enter Tryz.func176,Tryz.ntmps176
  go_wp2
  go_ret2
  exact⟨rfl,HB.out⟩
 have d17:(s==17)=false:=by simp[y17]
 by_cases y18:s=18
 ·have e1:timesR s (x:Int)=x+11:=by unfold timesR;rw[if_neg (by omega),if_pos y18,Int.toNat_natCast]
  have e2:valD s v=0:=by unfold valD;rw[if_neg y16,if_neg (by omega)]
  rw[e1,e2]
  have d18:(s==18)=true:=by simp[y18]
  obtain⟨z,hz⟩:∃z,z=x+8:=⟨_,rfl⟩
  have ez:(x:Int)+8=(z:Int):=by omega
  have ex:(3:Int)+(z:Int)=((x+11:Nat):Int):=by omega
  obtain⟨u,hu⟩:∃u,u=x+11:=⟨_,rfl⟩
  rw[←hu]at ex⊢
  clear e1 e2 hu hs y16 y17 y18 hz
  go_enter Tryz.func176,Tryz.ntmps176
  go_wp2
  go_ret2
  exact⟨rfl,HB.out⟩
 have d18:(s==18)=false:=by simp[y18]
 have e1:timesR s (x:Int)=1:=by unfold timesR;rw[if_neg (by omega),if_neg y18]
 obtain⟨V,rfl⟩:=Int.eq_ofNat_of_zero_le hs.1
 have e2:valD (V:Int) v=V:=by unfold valD;rw[if_neg y16,if_pos (by omega),Int.toNat_natCast]
 rw[e1,e2]
 have hV:V<16:=by omega
 have hmm:(V:Int)%256=(V:Int):=by omega
 have hmw:IntKind.u8.wrap (V:Int)=(V:Int):=by rw[IntKind.wrap_u8];omega
 clear e1 e2 y16 y17 y18 hs
 go_enter Tryz.func176,Tryz.ntmps176
 go_wp2
 go_ret2
 exact⟨rfl,HB.out⟩
theorem same10_any(w:World)(K B:Nat)(A:Option Addr)(n c:Nat)(f:Nat→Nat)(a:Nat)(hk:w.cell? ⟨K,0,none⟩=some (.slice A n c))(hr:RdB w B A n f)(ha:a<n)(hn:n≤1000000):
  Calls Tryz.prog 171 #[.int .i64 (a:Int),.pointer (some ⟨K,0,none⟩)] w fun e w'=>e=.returned (.int .i64 ((ldsU f n a:Nat):Int))∧DrU w w':=by
 obtain⟨L,hL⟩:∃L,L=ldsU f n a:=⟨_,rfl⟩
 rw[←hL]
 have hL2:L=1+leadN (f a) (dropU f n (a+1)):=by rw[hL];unfold ldsU;omega
 have HR:=Lib.hid hr;have HL:=Lib.hid hL2;have HKC:=Lib.hid hk
 clear hr hL hL2 hk
 go_enter Tryz.func171,Tryz.ntmps171
 go_wp2
 go_loopw [4] (fun kv wr=>∃k:Nat,1≤k∧a+k≤n∧kv=.int .i64 (k:Int)∧Hid (L=k+leadN (f a) (dropU f n (a+k)))∧Hid (DrU w wr)) (fun kv _=>n-(intOf kv).toNat)
 case atStart=>exact⟨1,Nat.le_refl _,by omega,rfl,HL,Lib.hid (DrU.refl w)⟩
 case round=>
  obtain⟨k,hk1,hkn,rfl,HK,HD⟩:=hrel
  have e2:(a:Int)+(k:Int)=((a+k:Nat):Int):=by omega
  have ck:wr.cell? ⟨K,0,none⟩=some (.slice A n c):=by obtain⟨t,rfl⟩:=HD.out;exact HKC.out
  obtain⟨Q,hQ⟩:∃Q,Q=a+k:=⟨_,rfl⟩
  rw[←hQ]at e2
  by_cases hlt:Q<n
  ·obtain⟨b,o,rfl,_,hc⟩:=(HD.out.rd HR.out).2 (by omega)
   have c1:=hc a (by omega)
   have c2:=hc Q hlt
   have hQn:(Q:Int)<(n:Int):=by omega
   have hQd:decide ((Q:Int)<(n:Int))=true:=by simp;omega
   have hQd2:decide (Q<n)=true:=by simp;omega
   have han:(a:Int)<(n:Int):=by omega
   have hQ0:(0:Int)≤(Q:Int):=by omega
   have ha0:(0:Int)≤(a:Int):=by omega
   clear hc
   by_cases he:f Q=f a
   ·have hee:((f Q:Int)==(f a:Int))=true:=by simp[he]
    have hst:=lead_go (f:=f) (n:=n) (a:=a+k) (x:=f a) (by omega) (by rw[←hQ];exact he)
    have HST:Hid (L=(k+1)+leadN (f a) (dropU f n (a+(k+1)))):=Lib.hid (by have:=HK.out;rw[hst]at this;rw[←Nat.add_assoc];omega)
    have hfin:a+(k+1)≤n:=by omega
    obtain⟨x,hx⟩:∃x,x=f a:=⟨_,rfl⟩
    obtain⟨y,hy⟩:∃y,y=f Q:=⟨_,rfl⟩
    rw[←hx]at c1 hee
    rw[←hy]at c2 hee
    clear hst hQ he hx hy
    go_wp2
    go_quiet (fail)
    go_wp2
    go_roundw
    case rel=>exact⟨k+1,by omega,hfin,by go_num,HST,Lib.hid (HD.out.more _)⟩
    case measure=>simp[intOf];omega
   ·have hee:((f Q:Int)==(f a:Int))=false:=by simp;omega
    have hst:=lead_stop (f:=f) (n:=n) (a:=a+k) (x:=f a) (.inr (by rw[←hQ];exact he))
    have HST:Hid (L=k):=Lib.hid (by have:=HK.out;rw[hst]at this;omega)
    obtain⟨x,hx⟩:∃x,x=f a:=⟨_,rfl⟩
    obtain⟨y,hy⟩:∃y,y=f Q:=⟨_,rfl⟩
    rw[←hx]at c1 hee
    rw[←hy]at c2 hee
    clear hst hQ he hx hy
    go_wp2
    go_quiet (fail)
    go_wp2
    go_ret
    exact⟨(by rw[HST.out];rfl),HD.out.more _⟩
  ·have hQd:decide ((Q:Int)<(n:Int))=false:=by simp;omega
   have hQd2:decide (Q<n)=false:=by simp;omega
   have hQ0:(0:Int)≤(Q:Int):=by omega
   have hst:=lead_stop (f:=f) (n:=n) (a:=a+k) (x:=f a) (.inl (by omega))
   have HST:Hid (L=k):=Lib.hid (by have:=HK.out;rw[hst]at this;omega)
   have hQb:Q≤1000000:=by omega
   have hQw:IntKind.i64.wrap (Q:Int)=(Q:Int):=by rw[IntKind.wrap_i64];omega
   clear hst hQ
   go_wp2
   go_quiet (fail)
   go_wp2
   go_ret
   exact⟨(by rw[HST.out];rfl),HD.out.more _⟩
theorem next10_any(w:World)(prev:Option Nat)(x L:Nat)(kn:Bool)(hk:kn=decide (prev=some x))(hx:x<256)(h1:1≤L)(h2:L≤1000000):
  Calls Tryz.prog 172 #[.int .u8 (x:Int),.bool kn,.int .i64 (L:Int)] w fun e w'=>e=.returned (.tuple #[.agg #[.int .i64 (fstR prev x L).1.1,.int .i64 (fstR prev x L).1.2],.int .i64 ((fstR prev x L).2:Nat)])∧Below w.heap.size w w':=by
 obtain⟨R,hR⟩:∃R,R=fstR prev x L:=⟨_,rfl⟩
 rw[←hR]
 unfold fstR at hR
 obtain⟨W1,hW1⟩:∃W1,W1=w.alloc (.cells #[.int .i64 0,.int .i64 0] 208):=⟨_,rfl⟩
 have hb1:Below w.heap.size w W1:=by rw[hW1];exact(Below.refl _ _).alloc (Nat.le_refl _) _
 obtain⟨h,hh⟩:∃h,h=w.heap.size:=⟨_,rfl⟩
 have hrow:W1.heap[h]?=some (.cells #[.int .i64 0,.int .i64 0] 208 (0,0)):=by rw[hW1,hh];exact heap_alloc_new w _
 have HROW:=Lib.hid hrow;have HB1:=Lib.hid hb1;have HH:=Lib.hid hh;have HW1:=Lib.hid hW1;have HR:=Lib.hid hR;have HKN:=Lib.hid hk
 clear hrow hb1 hW1 hR hh hk
 by_cases l3:L<3
 ·have d3:decide ((L:Int)<3)=true:=by simp;omega
  have d3':decide (L<3)=true:=by simp;omega
  have hres:R=(((x:Int),0),1):=by rw[HR.out,if_neg (by omega),if_neg (by omega),if_neg (by omega)]
  subst hres
  clear l3 HR
  go_enter Tryz.func172,Tryz.ntmps172
  go_wp2_with (first
   |(rw[←HW1.out,←HH.out];refine wpList_buildTo rfl 208 #[(0,.tmp 19)] rfl (some 20) rfl #[.int .i64 (x:Int),.int .i64 0] ?_ ?_;focus(simpa[Act.eval]using built_run1 (x:Int)))
   |(refine wpList_buildTo rfl 208 #[(0,.tmp 19)] rfl (some 20) rfl #[.int .i64 (x:Int),.int .i64 0] ?_ ?_;focus(simpa[Act.eval]using built_run1 (x:Int)))
   |(refine wpList_store_rowTo rfl _ _ _ rfl rfl h #[.int .i64 (x:Int),.int .i64 0] rfl rfl 208 #[.int .i64 0,.int .i64 0] HROW.out szRun rfl (oneU _ _) ?_))
  refine bodyPost_ret ((cell_run rfl _ _ h _ rfl rfl (setRow_heap _ _ _ _ _ _ HROW.out)).trans rfl) rfl ⟨rfl,?_⟩
  exact below_rowU HB1.out (by rw[HH.out];exact Nat.le_refl _) _
 have d3:decide ((L:Int)<3)=false:=by simp;omega
 have d3':decide (L<3)=false:=by simp;omega
 by_cases x0:x=0
 ·have dx:((x:Int) !=0)=false:=by simp[x0]
  by_cases l10:L≤10
  ·have d10:decide ((L:Int)≤10)=true:=by simp;omega
   have d10':decide (L≤10)=true:=by simp;omega
   obtain⟨u,hu⟩:∃u,u=L-3:=⟨_,rfl⟩
   have eu:(L:Int)-3=(u:Int):=by omega
   have hres:R=((17,(u:Int)),L):=by rw[HR.out,if_neg (by omega),if_pos ⟨x0,by omega⟩,←hu]
   subst hres
   clear x0 hu HR
   go_enter Tryz.func172,Tryz.ntmps172
   go_wp2_with (first
    |(rw[←HW1.out,←HH.out];refine wpList_buildTo rfl 208 #[(0,.const (.int .i64 17)),(1,.tmp 32)] rfl (some 33) rfl #[.int .i64 17,.int .i64 (u:Int)] ?_ ?_;focus(simpa[Act.eval]using built_run 17 (u:Int)))
    |(refine wpList_buildTo rfl 208 #[(0,.const (.int .i64 17)),(1,.tmp 32)] rfl (some 33) rfl #[.int .i64 17,.int .i64 (u:Int)] ?_ ?_;focus(simpa[Act.eval]using built_run 17 (u:Int)))
    |(refine wpList_store_rowTo rfl _ _ _ rfl rfl h #[.int .i64 17,.int .i64 (u:Int)] rfl rfl 208 #[.int .i64 0,.int .i64 0] HROW.out szRun rfl (oneU _ _) ?_))
   refine bodyPost_ret ((cell_run rfl _ _ h _ rfl rfl (setRow_heap _ _ _ _ _ _ HROW.out)).trans rfl) rfl ⟨rfl,?_⟩
   exact below_rowU HB1.out (by rw[HH.out];exact Nat.le_refl _) _
  have d10:decide ((L:Int)≤10)=false:=by simp;omega
  have d10':decide (L≤10)=false:=by simp;omega
  by_cases l138:138<L
  ·have dd:(138:Int)<(L:Int):=by omega
   have hres:R=((18,127),138):=by rw[HR.out,if_pos ⟨x0,by omega⟩,show min L 138=138 by omega];rfl
   subst hres
   clear x0 HR
   go_enter Tryz.func172,Tryz.ntmps172
   go_wp2_with (first
    |(rw[←HW1.out,←HH.out];refine wpList_buildTo rfl 208 #[(0,.const (.int .i64 18)),(1,.tmp 39)] rfl (some 40) rfl #[.int .i64 18,.int .i64 127] ?_ ?_;focus(simpa[Act.eval]using built_run 18 127))
    |(refine wpList_buildTo rfl 208 #[(0,.const (.int .i64 18)),(1,.tmp 39)] rfl (some 40) rfl #[.int .i64 18,.int .i64 127] ?_ ?_;focus(simpa[Act.eval]using built_run 18 127))
    |(refine wpList_store_rowTo rfl _ _ _ rfl rfl h #[.int .i64 18,.int .i64 127] rfl rfl 208 #[.int .i64 0,.int .i64 0] HROW.out szRun rfl (oneU _ _) ?_))
   refine bodyPost_ret ((cell_run rfl _ _ h _ rfl rfl (setRow_heap _ _ _ _ _ _ HROW.out)).trans rfl) rfl ⟨rfl,?_⟩
   exact below_rowU HB1.out (by rw[HH.out];exact Nat.le_refl _) _
  ·have dd:¬(138:Int)<(L:Int):=by omega
   obtain⟨u1,hu1⟩:∃u,u=L-10:=⟨_,rfl⟩
   have eu1:(L:Int)-10=(u1:Int):=by omega
   obtain⟨u,hu⟩:∃u,u=L-11:=⟨_,rfl⟩
   have eu:(u1:Int)-1=(u:Int):=by omega
   have hres:R=((18,(u:Int)),L):=by rw[HR.out,if_pos ⟨x0,by omega⟩,show min L 138=L by omega,←hu]
   subst hres
   clear x0 hu hu1 HR
   go_enter Tryz.func172,Tryz.ntmps172
   go_wp2_with (first
    |(rw[←HW1.out,←HH.out];refine wpList_buildTo rfl 208 #[(0,.const (.int .i64 18)),(1,.tmp 39)] rfl (some 40) rfl #[.int .i64 18,.int .i64 (u:Int)] ?_ ?_;focus(simpa[Act.eval]using built_run 18 (u:Int)))
    |(refine wpList_buildTo rfl 208 #[(0,.const (.int .i64 18)),(1,.tmp 39)] rfl (some 40) rfl #[.int .i64 18,.int .i64 (u:Int)] ?_ ?_;focus(simpa[Act.eval]using built_run 18 (u:Int)))
    |(refine wpList_store_rowTo rfl _ _ _ rfl rfl h #[.int .i64 18,.int .i64 (u:Int)] rfl rfl 208 #[.int .i64 0,.int .i64 0] HROW.out szRun rfl (oneU _ _) ?_))
   refine bodyPost_ret ((cell_run rfl _ _ h _ rfl rfl (setRow_heap _ _ _ _ _ _ HROW.out)).trans rfl) rfl ⟨rfl,?_⟩
   exact below_rowU HB1.out (by rw[HH.out];exact Nat.le_refl _) _
 have dx:((x:Int) !=0)=true:=by simp;omega
 by_cases hkn:prev=some x
 ·obtain rfl:kn=true:=by rw[HKN.out];exact decY0 hkn
  by_cases l6:6<L
  ·have dd:(6:Int)<(L:Int):=by omega
   have hres:R=((16,3),6):=by rw[HR.out,if_neg (by omega),if_neg (by omega),if_pos ⟨x0,hkn,by omega⟩,show min L 6=6 by omega];rfl
   subst hres
   clear x0 HR hkn HKN
   go_enter Tryz.func172,Tryz.ntmps172
   go_wp2_with (first
    |(rw[←HW1.out,←HH.out];refine wpList_buildTo rfl 208 #[(0,.const (.int .i64 16)),(1,.tmp 26)] rfl (some 27) rfl #[.int .i64 16,.int .i64 3] ?_ ?_;focus(simpa[Act.eval]using built_run 16 3))
    |(refine wpList_buildTo rfl 208 #[(0,.const (.int .i64 16)),(1,.tmp 26)] rfl (some 27) rfl #[.int .i64 16,.int .i64 3] ?_ ?_;focus(simpa[Act.eval]using built_run 16 3))
    |(refine wpList_store_rowTo rfl _ _ _ rfl rfl h #[.int .i64 16,.int .i64 3] rfl rfl 208 #[.int .i64 0,.int .i64 0] HROW.out szRun rfl (oneU _ _) ?_))
   refine bodyPost_ret ((cell_run rfl _ _ h _ rfl rfl (setRow_heap _ _ _ _ _ _ HROW.out)).trans rfl) rfl ⟨rfl,?_⟩
   exact below_rowU HB1.out (by rw[HH.out];exact Nat.le_refl _) _
  ·have dd:¬(6:Int)<(L:Int):=by omega
   obtain⟨u,hu⟩:∃u,u=L-3:=⟨_,rfl⟩
   have eu:(L:Int)-3=(u:Int):=by omega
   have hres:R=((16,(u:Int)),L):=by rw[HR.out,if_neg (by omega),if_neg (by omega),if_pos ⟨x0,hkn,by omega⟩,show min L 6=L by omega,←hu]
   subst hres
   clear x0 hu HR hkn HKN
   go_enter Tryz.func172,Tryz.ntmps172
   go_wp2_with (first
    |(rw[←HW1.out,←HH.out];refine wpList_buildTo rfl 208 #[(0,.const (.int .i64 16)),(1,.tmp 26)] rfl (some 27) rfl #[.int .i64 16,.int .i64 (u:Int)] ?_ ?_;focus(simpa[Act.eval]using built_run 16 (u:Int)))
    |(refine wpList_buildTo rfl 208 #[(0,.const (.int .i64 16)),(1,.tmp 26)] rfl (some 27) rfl #[.int .i64 16,.int .i64 (u:Int)] ?_ ?_;focus(simpa[Act.eval]using built_run 16 (u:Int)))
    |(refine wpList_store_rowTo rfl _ _ _ rfl rfl h #[.int .i64 16,.int .i64 (u:Int)] rfl rfl 208 #[.int .i64 0,.int .i64 0] HROW.out szRun rfl (oneU _ _) ?_))
   refine bodyPost_ret ((cell_run rfl _ _ h _ rfl rfl (setRow_heap _ _ _ _ _ _ HROW.out)).trans rfl) rfl ⟨rfl,?_⟩
   exact below_rowU HB1.out (by rw[HH.out];exact Nat.le_refl _) _
 obtain rfl:kn=false:=by rw[HKN.out];exact decN0 hkn
 have hres:R=(((x:Int),0),1):=by rw[HR.out,if_neg (by omega),if_neg (by omega),if_neg (fun q=>hkn q.2.1)]
 subst hres
 clear x0 HR hkn HKN
 go_enter Tryz.func172,Tryz.ntmps172
 go_wp2_with (first
  |(rw[←HW1.out,←HH.out];refine wpList_buildTo rfl 208 #[(0,.tmp 19)] rfl (some 20) rfl #[.int .i64 (x:Int),.int .i64 0] ?_ ?_;focus(simpa[Act.eval]using built_run1 (x:Int)))
  |(refine wpList_buildTo rfl 208 #[(0,.tmp 19)] rfl (some 20) rfl #[.int .i64 (x:Int),.int .i64 0] ?_ ?_;focus(simpa[Act.eval]using built_run1 (x:Int)))
  |(refine wpList_store_rowTo rfl _ _ _ rfl rfl h #[.int .i64 (x:Int),.int .i64 0] rfl rfl 208 #[.int .i64 0,.int .i64 0] HROW.out szRun rfl (oneU _ _) ?_))
 refine bodyPost_ret ((cell_run rfl _ _ h _ rfl rfl (setRow_heap _ _ _ _ _ _ HROW.out)).trans rfl) rfl ⟨rfl,?_⟩
 exact below_rowU HB1.out (by rw[HH.out];exact Nat.le_refl _) _
end Go.Proofs.YtgokdgcmkcmjeaaGreat
namespace Go.Proofs.YtgokdgcmkcmjeaaGreat
open Go.RowKit
theorem step_callv{ops:Array Oper}{o:Oper}{a:Act}{w:World}{K:Act→World→Prop}{Q:Exit→Act→World→Prop}{E:Prop}(hgd:o.guard=none)(f:FuncId)(cap:Array Value)(x:Operand)(xs:Array Operand)(ts:Array TypeId)
  (ho:o.op=.call {callee:=.value x,args:=xs,argTypes:=ts}) (hv:a.eval x=.func (.func f) #[] cap) (eg:∀args w,(callFunc f args).run Tryz.prog w=.ok (.enter f args) w) (args:Array Value) (hx:xs.map a.eval++cap=args) {R:Ending→World→Prop} (hc:Calls Tryz.prog f args w R)
  (h:∀e w',R e w'→∃v,e=.returned v∧K (a.put o.dst v) w'):
  if Region.wanted o (yielded ops a.tmps)=true then Oper.wp Tryz.prog o a w K Q else E:=by
 have hw:Region.wanted o (yielded ops a.tmps)=true:=by simp[Region.wanted,hgd]
 rw[if_pos hw]
 unfold Oper.wp
 have hall:∀ρ:Operand→Value,ρ x=.func (.func f) #[] cap→xs.map ρ++cap=args→(execOp ρ o).run Tryz.prog w=.ok (.enter f args) w:=by
  intro ρ h1 h2
  simp[execOp,ho,resolve,invoke,h1,h2,go_sem,eg,Deferred.ofValue]
 rw[hall _ hv hx]
 refine hc.mono fun e w' hr=>?_
 obtain⟨v,rfl,hk⟩:=h e w' hr
 exact hk
structure BoxW (w:World) (X:Nat) (x y:Value):Prop where
 lt:X<w.heap.size
 c0:w.cell? ⟨X,0,none⟩=some x
 c1:w.cell? ⟨X,1,none⟩=some y
 f0:w.frozen? ⟨X,0,none⟩=false
 f1:w.frozen? ⟨X,1,none⟩=false
theorem BoxW.new(U:World)(x y:Value)(t:TypeId):BoxW (U.alloc (.cells #[x,y] t)) U.heap.size x y:=by
 have hn:=heap_alloc_new U (.cells #[x,y] t)
 refine⟨by simp,?_,?_,?_,?_⟩
 ·exact(cell_of_row (U.alloc (.cells #[x,y] t)) _ 0 _ t (0,0) hn).trans rfl
 ·exact(cell_of_row (U.alloc (.cells #[x,y] t)) _ 1 _ t (0,0) hn).trans rfl
 ·exact frozen_of_row (U.alloc (.cells #[x,y] t)) _ 0 _ _ hn
 ·exact frozen_of_row (U.alloc (.cells #[x,y] t)) _ 1 _ _ hn
theorem BoxW.below{w w':World}{X B:Nat}{x y:Value}(h:BoxW w X x y)(hb:Below B w w')(hB:X<B):BoxW w' X x y:=
 ⟨Nat.lt_of_lt_of_le h.lt hb.size,(hb.cell (p:=⟨X,0,none⟩) hB).trans h.c0,(hb.cell (p:=⟨X,1,none⟩) hB).trans h.c1,(hb.frozen (p:=⟨X,0,none⟩) hB).trans h.f0,(hb.frozen (p:=⟨X,1,none⟩) hB).trans h.f1⟩
theorem BoxW.set{w:World}{X:Nat}{x y:Value}(h:BoxW w X x y)(p q:Value):BoxW ((w.setCell ⟨X,0,none⟩ p).setCell ⟨X,1,none⟩ q) X p q:=by
 obtain⟨h1,h2⟩:=box_set2 (p:=p) (q:=q) h.c0 h.c1
 refine⟨by have:=h.lt;simpa[World.setCell]using this,h1,h2,?_,?_⟩
 ·simpa using h.f0
 ·simpa using h.f1
end Go.Proofs.YtgokdgcmkcmjeaaGreat
