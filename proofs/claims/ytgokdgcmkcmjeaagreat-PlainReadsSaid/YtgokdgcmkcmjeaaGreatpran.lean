/-
  Words and walks.
-/
import Derived.Laws.StructEq
import Derived.BigQuiet
import Derived.Test.YtgokdgcmkcmjeaaGreatpraa
import Derived.Test.YtgokdgcmkcmjeaaGreatprab
import Derived.Test.YtgokdgcmkcmjeaaGreatprad
import Derived.Test.YtgokdgcmkcmjeaaGreatprai
import Derived.Test.YtgokdgcmkcmjeaaGreatpram
set_option maxRecDepth 100000
set_option maxHeartbeats 16000000
namespace Go.Proofs.YtgokdgcmkcmjeaaGreat
open Go.RowKit Go.ChangeShapes Go.WideShapes Go.ChangeAt Go.Joins
theorem lbits10_any(w:World)(s:Int):Calls Tryz.prog 173 #[.int .i64 s] w fun e w'=>e=.returned (.tuple #[.int .i64 (bitV s),.int .i64 (bitE s)])∧w=w':=by
 by_cases y0:s<0
 ·skip
  have e1:bitV s=0:=by unfold bitV;rw[if_neg (by omega)]
  have e2:bitE s=2:=by unfold bitE;rw[if_neg (by omega)]
  rw[e1,e2]
  have d0:decide (s<0)=true:=decY0 y0
  clear e1 e2 y0
  go_enter Tryz.func173,Tryz.ntmps173
  go_wp2
  go_ret2
  exact⟨rfl,rfl⟩
 have d0:decide (s<0)=false:=decN0 y0
 by_cases y1:19≤s
 ·skip
  have e1:bitV s=0:=by unfold bitV;rw[if_neg (by omega)]
  have e2:bitE s=2:=by unfold bitE;rw[if_neg (by omega)]
  rw[e1,e2]
  have d1:decide (19≤s)=true:=decY0 y1
  clear e1 e2 y0 y1
  go_enter Tryz.func173,Tryz.ntmps173
  go_wp2
  go_ret2
  exact⟨rfl,rfl⟩
 have d1:decide (19≤s)=false:=decN0 y1
 by_cases y16:s=16
 ·skip
  have e1:bitV s=2:=by unfold bitV bitsR;rw[if_pos (by omega),if_pos y16];rfl
  have e2:bitE s=0:=by unfold bitE;rw[if_pos (by omega)]
  rw[e1,e2]
  have d16:(s==16)=true:=by simp[y16]
  clear e1 e2 y0 y1 y16
  go_enter Tryz.func173,Tryz.ntmps173
  go_wp2
  go_ret2
  exact⟨rfl,rfl⟩
 have d16:(s==16)=false:=by simp[y16]
 by_cases y17:s=17
 ·skip
  have e1:bitV s=3:=by unfold bitV bitsR;rw[if_pos (by omega),if_neg y16,if_pos y17];rfl
  have e2:bitE s=0:=by unfold bitE;rw[if_pos (by omega)]
  rw[e1,e2]
  have d17:(s==17)=true:=by simp[y17]
  clear e1 e2 y0 y1 y16 y17
  go_enter Tryz.func173,Tryz.ntmps173
  go_wp2
  go_ret2
  exact⟨rfl,rfl⟩
 have d17:(s==17)=false:=by simp[y17]
 by_cases y18:s=18
 ·skip
  have e1:bitV s=7:=by unfold bitV bitsR;rw[if_pos (by omega),if_neg y16,if_neg y17,if_pos y18];rfl
  have e2:bitE s=0:=by unfold bitE;rw[if_pos (by omega)]
  rw[e1,e2]
  have d18:(s==18)=true:=by simp[y18]
  clear e1 e2 y0 y1 y16 y17 y18
  go_enter Tryz.func173,Tryz.ntmps173
  go_wp2
  go_ret2
  exact⟨rfl,rfl⟩
 have d18:(s==18)=false:=by simp[y18]
 have e1:bitV s=0:=by unfold bitV bitsR;rw[if_pos (by omega),if_neg y16,if_neg y17,if_neg y18];rfl
 have e2:bitE s=0:=by unfold bitE;rw[if_pos (by omega)]
 rw[e1,e2]
 skip
 clear e1 e2 y0 y1 y16 y17 y18
 go_enter Tryz.func173,Tryz.ntmps173
 go_wp2
 go_ret2
 exact⟨rfl,rfl⟩
def mayU(s x:Int):Prop:=¬(s<0∨18<s∨x<0∨(2^bitsR s:Nat)≤x)
instance (s x:Int):Decidable (mayU s x):=by unfold mayU;infer_instance
theorem mayU_dec{s x:Int}{k p:Nat}(hs:¬(s<0∨18<s))(eb:bitsR s=k)(hp:2^k=p):decide (mayU s x)=decide (0≤x∧x<(p:Int)):=by
 apply decide_eq_decide.2
 unfold mayU
 rw[eb,hp]
 constructor<;>(intro q;omega)
theorem below_drewN{B:Nat}{a w:World}(h:Below B a w)(n:Nat):Below B a (w.drewN n):=⟨h.os,h.tape,h.output,h.size,h.block⟩
theorem may10_any(w:World)(s x:Int):Calls Tryz.prog 175 #[.agg #[.int .i64 s,.int .i64 x]] w fun e w'=>e=.returned (.bool (decide (mayU s x)))∧Below w.heap.size w w':=by
 obtain⟨M,hM⟩:∃M,M=decide (mayU s x):=⟨_,rfl⟩
 rw[←hM]
 have HM:=Lib.hid hM
 clear hM
 have HBI:=Lib.hid (fun w=>lbits10_any w s)
 have HB:=Lib.hid ((Below.refl w.heap.size w).alloc (Nat.le_refl _) (.cells #[.int .i64 s,.int .i64 x] 208))
 by_cases s0:s<0∨18<s
 ·have e1:bitE s=2:=by unfold bitE;rw[if_neg (by omega)]
  obtain rfl:M=false:=by rw[HM.out];exact decN0 (fun q=>by unfold mayU at q;omega)
  rw[e1]at HBI
  obtain⟨bv,hbv⟩:∃bv,bv=bitV s:=⟨_,rfl⟩
  rw[←hbv]at HBI
  clear HM e1 hbv s0
  go_enter Tryz.func175,Tryz.ntmps175
  go_wp2_with fail
  refine(HBI.out _).mono ?_
  rintro e w2 ⟨rfl,rfl⟩
  go_wp2
  go_quiet (fail)
  go_wp2
  go_ret
  exact⟨rfl,below_drewN HB.out _⟩
 have e1:bitE s=0:=by unfold bitE;rw[if_pos (by omega)]
 have e2:bitV s=(bitsR s:Nat):=by unfold bitV;rw[if_pos (by omega)]
 rw[e1,e2]at HBI
 clear e1 e2
 by_cases y16:s=16
 ·skip
  have eb:bitsR s=2:=by unfold bitsR;rw[if_pos y16]
  rw[eb]at HBI
  have hm:M=decide (0≤x∧x<(4:Int)):=by rw[HM.out];exact mayU_dec s0 eb rfl
  have HM2:=Lib.hid hm
  clear hm eb s0 HM y16
  by_cases x0:x<0
  ·have dx:decide (0≤x)=false:=decN0 (by omega)
   obtain rfl:M=false:=by rw[HM2.out];exact decN0 (fun q=>absurd q.1 (by omega))
   clear HM2 x0
   go_enter Tryz.func175,Tryz.ntmps175
   go_wp2_with fail
   refine(HBI.out _).mono ?_
   rintro e w2 ⟨rfl,rfl⟩
   go_wp2
   go_quiet (fail)
   go_wp2
   go_ret
   exact⟨rfl,below_drewN HB.out _⟩
  have dx:decide (0≤x)=true:=decY0 (by omega)
  obtain⟨B,hBe⟩:∃B,B=decide (x<4):=⟨_,rfl⟩
  have hmb:M=B:=by rw[HM2.out,hBe];exact decide_eq_decide.2 ⟨fun q=>q.2,fun q=>⟨by omega,q⟩⟩
  subst hmb
  have dx1:decide (x<4)=M:=hBe.symm
  clear HM2 x0 hBe
  go_enter Tryz.func175,Tryz.ntmps175
  go_wp2_with fail
  refine(HBI.out _).mono ?_
  rintro e w2 ⟨rfl,rfl⟩
  go_wp2
  go_quiet (fail)
  go_wp2
  go_ret
  exact⟨rfl,below_drewN HB.out _⟩
 by_cases y17:s=17
 ·skip
  have eb:bitsR s=3:=by unfold bitsR;rw[if_neg y16,if_pos y17]
  rw[eb]at HBI
  have hm:M=decide (0≤x∧x<(8:Int)):=by rw[HM.out];exact mayU_dec s0 eb rfl
  have HM2:=Lib.hid hm
  clear hm eb s0 HM y16 y17
  by_cases x0:x<0
  ·have dx:decide (0≤x)=false:=decN0 (by omega)
   obtain rfl:M=false:=by rw[HM2.out];exact decN0 (fun q=>absurd q.1 (by omega))
   clear HM2 x0
   go_enter Tryz.func175,Tryz.ntmps175
   go_wp2_with fail
   refine(HBI.out _).mono ?_
   rintro e w2 ⟨rfl,rfl⟩
   go_wp2
   go_quiet (fail)
   go_wp2
   go_ret
   exact⟨rfl,below_drewN HB.out _⟩
  have dx:decide (0≤x)=true:=decY0 (by omega)
  obtain⟨B,hBe⟩:∃B,B=decide (x<8):=⟨_,rfl⟩
  have hmb:M=B:=by rw[HM2.out,hBe];exact decide_eq_decide.2 ⟨fun q=>q.2,fun q=>⟨by omega,q⟩⟩
  subst hmb
  have dx1:decide (x<8)=M:=hBe.symm
  clear HM2 x0 hBe
  go_enter Tryz.func175,Tryz.ntmps175
  go_wp2_with fail
  refine(HBI.out _).mono ?_
  rintro e w2 ⟨rfl,rfl⟩
  go_wp2
  go_quiet (fail)
  go_wp2
  go_ret
  exact⟨rfl,below_drewN HB.out _⟩
 by_cases y18:s=18
 ·skip
  have eb:bitsR s=7:=by unfold bitsR;rw[if_neg y16,if_neg y17,if_pos y18]
  rw[eb]at HBI
  have hm:M=decide (0≤x∧x<(128:Int)):=by rw[HM.out];exact mayU_dec s0 eb rfl
  have HM2:=Lib.hid hm
  clear hm eb s0 HM y16 y17 y18
  by_cases x0:x<0
  ·have dx:decide (0≤x)=false:=decN0 (by omega)
   obtain rfl:M=false:=by rw[HM2.out];exact decN0 (fun q=>absurd q.1 (by omega))
   clear HM2 x0
   go_enter Tryz.func175,Tryz.ntmps175
   go_wp2_with fail
   refine(HBI.out _).mono ?_
   rintro e w2 ⟨rfl,rfl⟩
   go_wp2
   go_quiet (fail)
   go_wp2
   go_ret
   exact⟨rfl,below_drewN HB.out _⟩
  have dx:decide (0≤x)=true:=decY0 (by omega)
  obtain⟨B,hBe⟩:∃B,B=decide (x<128):=⟨_,rfl⟩
  have hmb:M=B:=by rw[HM2.out,hBe];exact decide_eq_decide.2 ⟨fun q=>q.2,fun q=>⟨by omega,q⟩⟩
  subst hmb
  have dx1:decide (x<128)=M:=hBe.symm
  clear HM2 x0 hBe
  go_enter Tryz.func175,Tryz.ntmps175
  go_wp2_with fail
  refine(HBI.out _).mono ?_
  rintro e w2 ⟨rfl,rfl⟩
  go_wp2
  go_quiet (fail)
  go_wp2
  go_ret
  exact⟨rfl,below_drewN HB.out _⟩
 have eb:bitsR s=0:=by unfold bitsR;rw[if_neg y16,if_neg y17,if_neg y18]
 rw[eb]at HBI
 have hm:M=decide (0≤x∧x<(1:Int)):=by rw[HM.out];exact mayU_dec s0 eb rfl
 have HM2:=Lib.hid hm
 clear hm eb s0 HM y16 y17 y18
 by_cases x0:x<0
 ·have dx:decide (0≤x)=false:=decN0 (by omega)
  obtain rfl:M=false:=by rw[HM2.out];exact decN0 (fun q=>absurd q.1 (by omega))
  clear HM2 x0
  go_enter Tryz.func175,Tryz.ntmps175
  go_wp2_with fail
  refine(HBI.out _).mono ?_
  rintro e w2 ⟨rfl,rfl⟩
  go_wp2
  go_quiet (fail)
  go_wp2
  go_ret
  exact⟨rfl,below_drewN HB.out _⟩
 have dx:decide (0≤x)=true:=decY0 (by omega)
 obtain⟨B,hBe⟩:∃B,B=decide (x<1):=⟨_,rfl⟩
 have hmb:M=B:=by rw[HM2.out,hBe];exact decide_eq_decide.2 ⟨fun q=>q.2,fun q=>⟨by omega,q⟩⟩
 subst hmb
 have dx1:decide (x<1)=M:=hBe.symm
 clear HM2 x0 hBe
 go_enter Tryz.func175,Tryz.ntmps175
 go_wp2_with fail
 refine(HBI.out _).mono ?_
 rintro e w2 ⟨rfl,rfl⟩
 go_wp2
 go_quiet (fail)
 go_wp2
 go_ret
 exact⟨rfl,below_drewN HB.out _⟩
end Go.Proofs.YtgokdgcmkcmjeaaGreat
namespace Go.Proofs.YtgokdgcmkcmjeaaGreat
open Go.RowKit Go.ChangeShapes Go.WideShapes Go.ChangeAt Go.Joins
def valD(s:Int)(v:Nat):Nat:=if s=16 then v else if s<16 then s.toNat else 0
theorem does10_any(w:World)(s:Int)(x v:Nat)(hx:x≤1000)(hs:0≤s∧s≤18):Calls Tryz.prog 176 #[.agg #[.int .i64 s,.int .i64 (x:Int)],.int .u8 (v:Int)] w fun e w'=>e=.returned (.tuple #[.int .u8 (valD s v:Nat),.int .i64 ((timesR s (x:Int):Nat):Int)])∧Below w.heap.size w w':=by
 have HB:=Lib.hid ((Below.refl w.heap.size w).alloc (Nat.le_refl _) (.cells #[.int .i64 s,.int .i64 (x:Int)] 208))
 by_cases y16:s=16
 ·have e1:timesR s (x:Int)=x+3:=by unfold timesR;rw[if_pos (.inl y16),Int.toNat_natCast]
  have e2:valD s v=v:=by unfold valD;rw[if_pos y16]
  rw[e1,e2]
  have d16:(s==16)=true:=by simp[y16]
  have ex:(3:Int)+(x:Int)=((x+3:Nat):Int):=by omega
  obtain⟨u,hu⟩:∃u,u=x+3:=⟨_,rfl⟩
  rw[←hu]at ex⊢
  clear e1 e2 hu hs y16
  go_enter Tryz.func176,Tryz.ntmps176
  go_wp2
  go_ret2
  exact⟨rfl,HB.out⟩
 have d16:(s==16)=false:=by simp[y16]
 by_cases y17:s=17
 ·have e1:timesR s (x:Int)=x+3:=by unfold timesR;rw[if_pos (.inr y17),Int.toNat_natCast]
  have e2:valD s v=0:=by unfold valD;rw[if_neg y16,if_neg (by omega)]
  rw[e1,e2]
  have d17:(s==17)=true:=by simp[y17]
  have ex:(3:Int)+(x:Int)=((x+3:Nat):Int):=by omega
  obtain⟨u,hu⟩:∃u,u=x+3:=⟨_,rfl⟩
  rw[←hu]at ex⊢
  clear e1 e2 hu hs y16 y17
  go_enter Tryz.func176,Tryz.ntmps176
  go_wp2
  go_ret2
  exact⟨rfl,HB.out⟩
 have d17:(s==17)=false:=by simp[y17]
 by_cases y18:s=18
 ·have e1:timesR s (x:Int)=x+11:=by unfold timesR;rw[if_neg (by omega),if_pos y18,Int.toNat_natCast]
  have e2:valD s v=0:=by unfold valD;rw[if_neg y16,if_neg (by omega)]
  rw[e1,e2]
  have d18:(s==18)=true:=by simp[y18]
  obtain⟨z,hz⟩:∃z,z=x+8:=⟨_,rfl⟩
  have ez:(x:Int)+8=(z:Int):=by omega
  have ex:(3:Int)+(z:Int)=((x+11:Nat):Int):=by omega
  obtain⟨u,hu⟩:∃u,u=x+11:=⟨_,rfl⟩
  rw[←hu]at ex⊢
  clear e1 e2 hu hs y16 y17 y18 hz
  go_enter Tryz.func176,Tryz.ntmps176
  go_wp2
  go_ret2
  exact⟨rfl,HB.out⟩
 have d18:(s==18)=false:=by simp[y18]
 have e1:timesR s (x:Int)=1:=by unfold timesR;rw[if_neg (by omega),if_neg y18]
 obtain⟨V,rfl⟩:=Int.eq_ofNat_of_zero_le hs.1
 have e2:valD (V:Int) v=V:=by unfold valD;rw[if_neg y16,if_pos (by omega),Int.toNat_natCast]
 rw[e1,e2]
 have hV:V<16:=by omega
 have hmm:(V:Int)%256=(V:Int):=by omega
 have hmw:IntKind.u8.wrap (V:Int)=(V:Int):=by rw[IntKind.wrap_u8];omega
 clear e1 e2 y16 y17 y18 hs
 go_enter Tryz.func176,Tryz.ntmps176
 go_wp2
 go_ret2
 exact⟨rfl,HB.out⟩
end Go.Proofs.YtgokdgcmkcmjeaaGreat
namespace Go.Proofs.YtgokdgcmkcmjeaaGreat
open Go.RowKit
structure BoxW (w:World) (X:Nat) (x y:Value):Prop where
 lt:X<w.heap.size
 c0:w.cell? ⟨X,0,none⟩=some x
 c1:w.cell? ⟨X,1,none⟩=some y
 f0:w.frozen? ⟨X,0,none⟩=false
 f1:w.frozen? ⟨X,1,none⟩=false
theorem BoxW.new(U:World)(x y:Value)(t:TypeId):BoxW (U.alloc (.cells #[x,y] t)) U.heap.size x y:=by
 have hn:=heap_alloc_new U (.cells #[x,y] t)
 refine⟨by simp,?_,?_,?_,?_⟩
 ·exact(cell_of_row (U.alloc (.cells #[x,y] t)) _ 0 _ t (0,0) hn).trans rfl
 ·exact(cell_of_row (U.alloc (.cells #[x,y] t)) _ 1 _ t (0,0) hn).trans rfl
 ·exact frozen_of_row (U.alloc (.cells #[x,y] t)) _ 0 _ _ hn
 ·exact frozen_of_row (U.alloc (.cells #[x,y] t)) _ 1 _ _ hn
theorem BoxW.below{w w':World}{X B:Nat}{x y:Value}(h:BoxW w X x y)(hb:Below B w w')(hB:X<B):BoxW w' X x y:=
 ⟨Nat.lt_of_lt_of_le h.lt hb.size,(hb.cell (p:=⟨X,0,none⟩) hB).trans h.c0,(hb.cell (p:=⟨X,1,none⟩) hB).trans h.c1,(hb.frozen (p:=⟨X,0,none⟩) hB).trans h.f0,(hb.frozen (p:=⟨X,1,none⟩) hB).trans h.f1⟩
end Go.Proofs.YtgokdgcmkcmjeaaGreat
