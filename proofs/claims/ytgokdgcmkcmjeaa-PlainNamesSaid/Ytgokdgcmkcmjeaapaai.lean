/-
  Words and walks.
-/
import Derived.BigRegion
import Derived.BigQuiet
import Derived.Laws.StructEq
import Derived.Test.Ytgokdgcmkcmjeaapaaa
import Derived.Test.Ytgokdgcmkcmjeaapaab
import Derived.Test.Ytgokdgcmkcmjeaapaaf
import Derived.Test.Ytgokdgcmkcmjeaapaah
set_option maxRecDepth 100000
set_option maxHeartbeats 16000000
namespace Go.Proofs.Ytgokdgcmkcmjeaa
open Go.RowKit
theorem bt_long{y:Int}{e:Ending}(h:BtOut 3 257 285 258 (lsM longL) y e):e=.returned (.tuple #[.int .i64 (lbV y),.int .i64 (lbE y)]):=by
 unfold BtOut at h
 unfold lbV lbE
 by_cases hy:257≤y∧y≤285
 ·rw[if_pos hy]at h⊢
  obtain⟨L,b,hb,rfl⟩:=h
  rw[if_pos hy,(bg_long hy hb).2]
 ·rw[if_neg hy]at h⊢
  rw[if_neg hy];exact h
theorem bt_far{y:Int}{e:Ending}(h:BtOut 1 0 29 0 (lsM farL) y e):e=.returned (.tuple #[.int .i64 (fbV y),.int .i64 (fbE y)]):=by
 unfold BtOut at h
 unfold fbV fbE
 by_cases hy:0≤y∧y≤29
 ·rw[if_pos hy]at h⊢
  obtain⟨L,b,hb,rfl⟩:=h
  rw[if_pos hy,(bg_far hy hb).2]
 ·rw[if_neg hy]at h⊢
  rw[if_neg hy];exact h
theorem nm_long{y x:Int}{e:Ending}(h:NmOut 3 257 285 258 (lsM longL) y x e):e=.returned (.tuple #[.int .i64 (loV y x),.int .i64 (loE y x)]):=by
 unfold NmOut at h
 by_cases hy:257≤y∧y≤285
 ·rw[if_pos hy]at h
  obtain⟨L,b,hb,h⟩:=h
  obtain⟨rfl,rfl⟩:=bg_long hy hb
  have ep:p2N (longX (y-257).toNat)=2^longX (y-257).toNat:=rfl
  rw[ep]at h
  rcases h with⟨h1,rfl⟩|⟨h1,h⟩
  ·have hE:loE y x=2:=by unfold loE;rw[if_pos hy,if_pos h1]
   have hV:loV y x=0:=by unfold loV;rw[if_neg (by rw[hE];decide)]
   rw[hE,hV]
  ·have hneg:¬(x<0∨((2^longX (y-257).toNat:Nat):Int)≤x):=by omega
   have hiff:((((longT (y-257).toNat:Nat):Int)+x=258∧y≠285))↔(y=284∧x=31):=by
    obtain⟨X,rfl⟩:=Int.eq_ofNat_of_zero_le h1.1
    obtain⟨i,hi⟩:∃i,i=(y-257).toNat:=⟨_,rfl⟩
    rw[←hi]at h1⊢
    have hx:X<2^longX i:=by omega
    constructor
    ·rintro⟨a,c⟩
     have h28:i<28:=by omega
     by_cases e27:i=27
     ·subst e27
      have e1:longT 27=227:=rfl
      omega
     ·exfalso
      have hn:=long_next i h28 e27
      have hr:=longs_rise.mono (i:=i+1) (27-(i+1)) (by omega)
      rw[show i+1+(27-(i+1))=27 by omega]at hr
      have e1:longT 27=227:=rfl
      omega
    ·rintro⟨a,c⟩
     have e27:i=27:=by omega
     subst e27
     have e1:longT 27=227:=rfl
     omega
   rcases h with⟨h2,rfl⟩|⟨h2,rfl⟩
   ·have hE:loE y x=90:=by unfold loE;rw[if_pos hy,if_neg hneg,if_pos (hiff.1 h2)]
    have hV:loV y x=0:=by unfold loV;rw[if_neg (by rw[hE];decide)]
    rw[hE,hV]
   ·have hE:loE y x=0:=by unfold loE;rw[if_pos hy,if_neg hneg,if_neg (fun g=>h2 (hiff.2 g))]
    have hV:loV y x=((longT (y-257).toNat:Nat):Int)+x:=by unfold loV;rw[if_pos hE]
    rw[hE,hV]
 ·rw[if_neg hy]at h
  have hE:loE y x=90:=by unfold loE;rw[if_neg hy]
  have hV:loV y x=0:=by unfold loV;rw[if_neg (by rw[hE];decide)]
  rw[hE,hV];exact h
theorem nm_far{y x:Int}{e:Ending}(h:NmOut 1 0 29 0 (lsM farL) y x e):e=.returned (.tuple #[.int .i64 (foV y x),.int .i64 (foE y x)]):=by
 unfold NmOut at h
 by_cases hy:0≤y∧y≤29
 ·rw[if_pos hy]at h
  obtain⟨L,b,hb,h⟩:=h
  obtain⟨rfl,rfl⟩:=bg_far hy hb
  have ep:p2N (farX y.toNat)=2^farX y.toNat:=rfl
  rw[ep]at h
  have hpos:1≤farT y.toNat:=by
   have h1:=fars_rise.mono (i:=0) y.toNat (by omega)
   have e0:farT 0=1:=rfl
   rw[Nat.zero_add]at h1
   omega
  rcases h with⟨h1,rfl⟩|⟨h1,h⟩
  ·have hE:foE y x=2:=by unfold foE;rw[if_pos hy,if_pos h1]
   have hV:foV y x=0:=by unfold foV;rw[if_neg (by rw[hE];decide)]
   rw[hE,hV]
  ·have hneg:¬(x<0∨((2^farX y.toNat:Nat):Int)≤x):=by omega
   rcases h with⟨h2,rfl⟩|⟨h2,rfl⟩
   ·omega
   ·have hE:foE y x=0:=by unfold foE;rw[if_pos hy,if_neg hneg]
    have hV:foV y x=((farT y.toNat:Nat):Int)+x:=by unfold foV;rw[if_pos hE]
    rw[hE,hV]
 ·rw[if_neg hy]at h
  have hE:foE y x=90:=by unfold foE;rw[if_neg hy]
  have hV:foV y x=0:=by unfold foV;rw[if_neg (by rw[hE];decide)]
  rw[hE,hV];exact h
theorem lbit9_any(w:World)(n:Int):Calls Try.prog 49 #[.int .i64 n] w fun e w'=>e=.returned (.tuple #[.int .i64 (lbV n),.int .i64 (lbE n)])∧Below w.heap.size w w':=by
 obtain⟨X,hX⟩:∃X,X=kdA 3 258 257 285 258 (lsM longL):=⟨_,rfl⟩
 have hs:=fun v=>bits9_any v 3 258 257 285 258 (lsM longL) long_ok9 n
 have hk:=longs9_any w
 rw[←hX]at hk hs
 have HM:=Lib.hid hk;have HS:=Lib.hid hs
 obtain⟨z0,hz0⟩:∃z,z=lbV n:=⟨_,rfl⟩;obtain⟨z1,hz1⟩:∃z,z=lbE n:=⟨_,rfl⟩
 have hy:∀e,BtOut 3 257 285 258 (lsM longL) n e→e=.returned (.tuple #[.int .i64 z0,.int .i64 z1]):=fun e h=>by rw[hz0,hz1];exact bt_long h
 rw[←hz0,←hz1]
 have HY:=Lib.hid hy
 clear hz0 hz1 hX hk hs hy
 go_enter Try.func49,Try.ntmps49
 go_wp2_with fail
 refine HM.out.mono ?_
 rintro e w1 ⟨rfl,hb1⟩
 have HB1:=Lib.hid hb1
 clear hb1
 go_wp2_with fail
 refine(HS.out w1).mono ?_
 rintro e w2 ⟨he,hb2⟩
 obtain rfl:=HY.out _ he
 have HB2:=Lib.hid (HB1.out.trans (hb2.mono HB1.out.size))
 clear hb2 he
 go_wp2
 go_ret2
 exact⟨rfl,HB2.out⟩
theorem fbit9_any(w:World)(n:Int):Calls Try.prog 51 #[.int .i64 n] w fun e w'=>e=.returned (.tuple #[.int .i64 (fbV n),.int .i64 (fbE n)])∧Below w.heap.size w w':=by
 obtain⟨X,hX⟩:∃X,X=kdA 1 32768 0 29 0 (lsM farL):=⟨_,rfl⟩
 have hs:=fun v=>bits9_any v 1 32768 0 29 0 (lsM farL) far_ok9 n
 have hk:=fars9_any w
 rw[←hX]at hk hs
 have HM:=Lib.hid hk;have HS:=Lib.hid hs
 obtain⟨z0,hz0⟩:∃z,z=fbV n:=⟨_,rfl⟩;obtain⟨z1,hz1⟩:∃z,z=fbE n:=⟨_,rfl⟩
 have hy:∀e,BtOut 1 0 29 0 (lsM farL) n e→e=.returned (.tuple #[.int .i64 z0,.int .i64 z1]):=fun e h=>by rw[hz0,hz1];exact bt_far h
 rw[←hz0,←hz1]
 have HY:=Lib.hid hy
 clear hz0 hz1 hX hk hs hy
 go_enter Try.func51,Try.ntmps51
 go_wp2_with fail
 refine HM.out.mono ?_
 rintro e w1 ⟨rfl,hb1⟩
 have HB1:=Lib.hid hb1
 clear hb1
 go_wp2_with fail
 refine(HS.out w1).mono ?_
 rintro e w2 ⟨he,hb2⟩
 obtain rfl:=HY.out _ he
 have HB2:=Lib.hid (HB1.out.trans (hb2.mono HB1.out.size))
 clear hb2 he
 go_wp2
 go_ret2
 exact⟨rfl,HB2.out⟩
theorem lof9_any(w:World)(n x:Int):Calls Try.prog 50 #[.int .i64 n,.int .i64 x] w fun e w'=>e=.returned (.tuple #[.int .i64 (loV n x),.int .i64 (loE n x)])∧Below w.heap.size w w':=by
 obtain⟨X,hX⟩:∃X,X=kdA 3 258 257 285 258 (lsM longL):=⟨_,rfl⟩
 have hs:=fun v=>number9_any v 3 258 257 285 258 (lsM longL) long_ok9 n x
 have hk:=longs9_any w
 rw[←hX]at hk hs
 have HM:=Lib.hid hk;have HS:=Lib.hid hs
 obtain⟨z0,hz0⟩:∃z,z=loV n x:=⟨_,rfl⟩;obtain⟨z1,hz1⟩:∃z,z=loE n x:=⟨_,rfl⟩
 have hy:∀e,NmOut 3 257 285 258 (lsM longL) n x e→e=.returned (.tuple #[.int .i64 z0,.int .i64 z1]):=fun e h=>by rw[hz0,hz1];exact nm_long h
 rw[←hz0,←hz1]
 have HY:=Lib.hid hy
 clear hz0 hz1 hX hk hs hy
 go_enter Try.func50,Try.ntmps50
 go_wp2_with fail
 refine HM.out.mono ?_
 rintro e w1 ⟨rfl,hb1⟩
 have HB1:=Lib.hid hb1
 clear hb1
 go_wp2_with fail
 refine(HS.out w1).mono ?_
 rintro e w2 ⟨he,hb2⟩
 obtain rfl:=HY.out _ he
 have HB2:=Lib.hid (HB1.out.trans (hb2.mono HB1.out.size))
 clear hb2 he
 go_wp2
 go_ret2
 exact⟨rfl,HB2.out⟩
theorem fof9_any(w:World)(n x:Int):Calls Try.prog 52 #[.int .i64 n,.int .i64 x] w fun e w'=>e=.returned (.tuple #[.int .i64 (foV n x),.int .i64 (foE n x)])∧Below w.heap.size w w':=by
 obtain⟨X,hX⟩:∃X,X=kdA 1 32768 0 29 0 (lsM farL):=⟨_,rfl⟩
 have hs:=fun v=>number9_any v 1 32768 0 29 0 (lsM farL) far_ok9 n x
 have hk:=fars9_any w
 rw[←hX]at hk hs
 have HM:=Lib.hid hk;have HS:=Lib.hid hs
 obtain⟨z0,hz0⟩:∃z,z=foV n x:=⟨_,rfl⟩;obtain⟨z1,hz1⟩:∃z,z=foE n x:=⟨_,rfl⟩
 have hy:∀e,NmOut 1 0 29 0 (lsM farL) n x e→e=.returned (.tuple #[.int .i64 z0,.int .i64 z1]):=fun e h=>by rw[hz0,hz1];exact nm_far h
 rw[←hz0,←hz1]
 have HY:=Lib.hid hy
 clear hz0 hz1 hX hk hs hy
 go_enter Try.func52,Try.ntmps52
 go_wp2_with fail
 refine HM.out.mono ?_
 rintro e w1 ⟨rfl,hb1⟩
 have HB1:=Lib.hid hb1
 clear hb1
 go_wp2_with fail
 refine(HS.out w1).mono ?_
 rintro e w2 ⟨he,hb2⟩
 obtain rfl:=HY.out _ he
 have HB2:=Lib.hid (HB1.out.trans (hb2.mono HB1.out.size))
 clear hb2 he
 go_wp2
 go_ret2
 exact⟨rfl,HB2.out⟩
end Go.Proofs.Ytgokdgcmkcmjeaa
namespace Go.Proofs.Ytgokdgcmkcmjeaa
open Go.RowKit Go.ChangeShapes Go.WideShapes Go.ChangeAt Go.Joins
theorem strR_step{N:Nat}{l:List (Int×Int)}{i:Nat}(h:i<l.length)(out:List Nat):strR N (l.drop i) out=
  if(l.getD i run0).1<0∨18<(l.getD i run0).1∨(l.getD i run0).2<0∨(2^bitsR (l.getD i run0).1:Nat)≤(l.getD i run0).2 then(8,[])else
   if((l.getD i run0).1=16∧out=[])∨N<out.length+timesR (l.getD i run0).1 (l.getD i run0).2 then(100,[])else strR N (l.drop (i+1)) (out++List.replicate (timesR (l.getD i run0).1 (l.getD i run0).2) (valR (l.getD i run0).1 out)):=by
 have e:l.drop i=l.getD i run0::l.drop (i+1):=by
  rw[List.drop_eq_getElem_cons h,List.getD_eq_getElem?_getD,List.getElem?_eq_getElem h];rfl
 rw[e]
 obtain⟨s,x⟩:=l.getD i run0
 rfl
theorem rep_one(out:List Nat)(k v:Nat):bytesL (out.length+k) (lst (out++List.replicate k v))=bytesL (out.length+k) (lst (out++List.replicate (k+1) v))∧lst (out++List.replicate (k+1) v) (out.length+k)=v:=by
 have h:=lst_one (out++List.replicate k v) v
 have e:out++List.replicate k v++[v]=out++List.replicate (k+1) v:=by rw[List.append_assoc,List.replicate_succ']
 rw[e,List.length_append,List.length_replicate]at h
 exact h
theorem bitsR_le(s:Int):bitsR s≤7:=by
 unfold bitsR
 split
 ·omega
 ·split
  ·omega
  ·split<;>omega
theorem timesR_le{s x:Int}(h:x<128):timesR s x≤139:=by
 unfold timesR
 split
 ·omega
 ·split<;>omega
theorem valR_lt{s:Int}{out:List Nat}(h:∀x∈out,x<256):valR s out<256:=by
 unfold valR
 split
 ·cases hl:out.getLast? with
  |none=>show 0<256;omega
  |some z=>exact h z (List.mem_of_getLast? hl)
 ·split<;>omega
theorem last_lst(out:List Nat):out.getLast?.getD 0=lst out (out.length-1):=by
 unfold lst
 rw[List.getLast?_eq_getElem?,List.getD_eq_getElem?_getD]
end Go.Proofs.Ytgokdgcmkcmjeaa
namespace Go.Proofs.Ytgokdgcmkcmjeaa
open Go.RowKit Go.ChangeShapes Go.WideShapes Go.ChangeAt Go.Joins
theorem lbits10_any(w:World)(s:Int):Calls Try.prog 70 #[.int .i64 s] w fun e w'=>e=.returned (.tuple #[.int .i64 (bitV s),.int .i64 (bitE s)])∧w=w':=by
 by_cases y0:s<0
 ·skip
  have e1:bitV s=0:=by unfold bitV;rw[if_neg (by omega)]
  have e2:bitE s=2:=by unfold bitE;rw[if_neg (by omega)]
  rw[e1,e2]
  have d0:decide (s<0)=true:=decY0 y0
  clear e1 e2 y0
  go_enter Try.func70,Try.ntmps70
  go_wp2
  go_ret2
  exact⟨rfl,rfl⟩
 have d0:decide (s<0)=false:=decN0 y0
 by_cases y1:19≤s
 ·skip
  have e1:bitV s=0:=by unfold bitV;rw[if_neg (by omega)]
  have e2:bitE s=2:=by unfold bitE;rw[if_neg (by omega)]
  rw[e1,e2]
  have d1:decide (19≤s)=true:=decY0 y1
  clear e1 e2 y0 y1
  go_enter Try.func70,Try.ntmps70
  go_wp2
  go_ret2
  exact⟨rfl,rfl⟩
 have d1:decide (19≤s)=false:=decN0 y1
 by_cases y16:s=16
 ·skip
  have e1:bitV s=2:=by unfold bitV bitsR;rw[if_pos (by omega),if_pos y16];rfl
  have e2:bitE s=0:=by unfold bitE;rw[if_pos (by omega)]
  rw[e1,e2]
  have d16:(s==16)=true:=by simp[y16]
  clear e1 e2 y0 y1 y16
  go_enter Try.func70,Try.ntmps70
  go_wp2
  go_ret2
  exact⟨rfl,rfl⟩
 have d16:(s==16)=false:=by simp[y16]
 by_cases y17:s=17
 ·skip
  have e1:bitV s=3:=by unfold bitV bitsR;rw[if_pos (by omega),if_neg y16,if_pos y17];rfl
  have e2:bitE s=0:=by unfold bitE;rw[if_pos (by omega)]
  rw[e1,e2]
  have d17:(s==17)=true:=by simp[y17]
  clear e1 e2 y0 y1 y16 y17
  go_enter Try.func70,Try.ntmps70
  go_wp2
  go_ret2
  exact⟨rfl,rfl⟩
 have d17:(s==17)=false:=by simp[y17]
 by_cases y18:s=18
 ·skip
  have e1:bitV s=7:=by unfold bitV bitsR;rw[if_pos (by omega),if_neg y16,if_neg y17,if_pos y18];rfl
  have e2:bitE s=0:=by unfold bitE;rw[if_pos (by omega)]
  rw[e1,e2]
  have d18:(s==18)=true:=by simp[y18]
  clear e1 e2 y0 y1 y16 y17 y18
  go_enter Try.func70,Try.ntmps70
  go_wp2
  go_ret2
  exact⟨rfl,rfl⟩
 have d18:(s==18)=false:=by simp[y18]
 have e1:bitV s=0:=by unfold bitV bitsR;rw[if_pos (by omega),if_neg y16,if_neg y17,if_neg y18];rfl
 have e2:bitE s=0:=by unfold bitE;rw[if_pos (by omega)]
 rw[e1,e2]
 skip
 clear e1 e2 y0 y1 y16 y17 y18
 go_enter Try.func70,Try.ntmps70
 go_wp2
 go_ret2
 exact⟨rfl,rfl⟩
def mayU(s x:Int):Prop:=¬(s<0∨18<s∨x<0∨(2^bitsR s:Nat)≤x)
instance (s x:Int):Decidable (mayU s x):=by unfold mayU;infer_instance
theorem mayU_dec{s x:Int}{k p:Nat}(hs:¬(s<0∨18<s))(eb:bitsR s=k)(hp:2^k=p):decide (mayU s x)=decide (0≤x∧x<(p:Int)):=by
 apply decide_eq_decide.2
 unfold mayU
 rw[eb,hp]
 constructor<;>(intro q;omega)
theorem below_drewN{B:Nat}{a w:World}(h:Below B a w)(n:Nat):Below B a (w.drewN n):=⟨h.os,h.tape,h.output,h.size,h.block⟩
theorem may10_any(w:World)(s x:Int):Calls Try.prog 71 #[.agg #[.int .i64 s,.int .i64 x]] w fun e w'=>e=.returned (.bool (decide (mayU s x)))∧Below w.heap.size w w':=by
 obtain⟨M,hM⟩:∃M,M=decide (mayU s x):=⟨_,rfl⟩
 rw[←hM]
 have HM:=Lib.hid hM
 clear hM
 have HBI:=Lib.hid (fun w=>lbits10_any w s)
 have HB:=Lib.hid ((Below.refl w.heap.size w).alloc (Nat.le_refl _) (.cells #[.int .i64 s,.int .i64 x] 100))
 by_cases s0:s<0∨18<s
 ·have e1:bitE s=2:=by unfold bitE;rw[if_neg (by omega)]
  obtain rfl:M=false:=by rw[HM.out];exact decN0 (fun q=>by unfold mayU at q;omega)
  rw[e1]at HBI
  obtain⟨bv,hbv⟩:∃bv,bv=bitV s:=⟨_,rfl⟩
  rw[←hbv]at HBI
  clear HM e1 hbv s0
  go_enter Try.func71,Try.ntmps71
  go_wp2_with fail
  refine(HBI.out _).mono ?_
  rintro e w2 ⟨rfl,rfl⟩
  go_wp2
  go_quiet (fail)
  go_wp2
  go_ret
  exact⟨rfl,below_drewN HB.out _⟩
 have e1:bitE s=0:=by unfold bitE;rw[if_pos (by omega)]
 have e2:bitV s=(bitsR s:Nat):=by unfold bitV;rw[if_pos (by omega)]
 rw[e1,e2]at HBI
 clear e1 e2
 by_cases y16:s=16
 ·skip
  have eb:bitsR s=2:=by unfold bitsR;rw[if_pos y16]
  rw[eb]at HBI
  have hm:M=decide (0≤x∧x<(4:Int)):=by rw[HM.out];exact mayU_dec s0 eb rfl
  have HM2:=Lib.hid hm
  clear hm eb s0 HM y16
  by_cases x0:x<0
  ·have dx:decide (0≤x)=false:=decN0 (by omega)
   obtain rfl:M=false:=by rw[HM2.out];exact decN0 (fun q=>absurd q.1 (by omega))
   clear HM2 x0
   go_enter Try.func71,Try.ntmps71
   go_wp2_with fail
   refine(HBI.out _).mono ?_
   rintro e w2 ⟨rfl,rfl⟩
   go_wp2
   go_quiet (fail)
   go_wp2
   go_ret
   exact⟨rfl,below_drewN HB.out _⟩
  have dx:decide (0≤x)=true:=decY0 (by omega)
  obtain⟨B,hBe⟩:∃B,B=decide (x<4):=⟨_,rfl⟩
  have hmb:M=B:=by rw[HM2.out,hBe];exact decide_eq_decide.2 ⟨fun q=>q.2,fun q=>⟨by omega,q⟩⟩
  subst hmb
  have dx1:decide (x<4)=M:=hBe.symm
  clear HM2 x0 hBe
  go_enter Try.func71,Try.ntmps71
  go_wp2_with fail
  refine(HBI.out _).mono ?_
  rintro e w2 ⟨rfl,rfl⟩
  go_wp2
  go_quiet (fail)
  go_wp2
  go_ret
  exact⟨rfl,below_drewN HB.out _⟩
 by_cases y17:s=17
 ·skip
  have eb:bitsR s=3:=by unfold bitsR;rw[if_neg y16,if_pos y17]
  rw[eb]at HBI
  have hm:M=decide (0≤x∧x<(8:Int)):=by rw[HM.out];exact mayU_dec s0 eb rfl
  have HM2:=Lib.hid hm
  clear hm eb s0 HM y16 y17
  by_cases x0:x<0
  ·have dx:decide (0≤x)=false:=decN0 (by omega)
   obtain rfl:M=false:=by rw[HM2.out];exact decN0 (fun q=>absurd q.1 (by omega))
   clear HM2 x0
   go_enter Try.func71,Try.ntmps71
   go_wp2_with fail
   refine(HBI.out _).mono ?_
   rintro e w2 ⟨rfl,rfl⟩
   go_wp2
   go_quiet (fail)
   go_wp2
   go_ret
   exact⟨rfl,below_drewN HB.out _⟩
  have dx:decide (0≤x)=true:=decY0 (by omega)
  obtain⟨B,hBe⟩:∃B,B=decide (x<8):=⟨_,rfl⟩
  have hmb:M=B:=by rw[HM2.out,hBe];exact decide_eq_decide.2 ⟨fun q=>q.2,fun q=>⟨by omega,q⟩⟩
  subst hmb
  have dx1:decide (x<8)=M:=hBe.symm
  clear HM2 x0 hBe
  go_enter Try.func71,Try.ntmps71
  go_wp2_with fail
  refine(HBI.out _).mono ?_
  rintro e w2 ⟨rfl,rfl⟩
  go_wp2
  go_quiet (fail)
  go_wp2
  go_ret
  exact⟨rfl,below_drewN HB.out _⟩
 by_cases y18:s=18
 ·skip
  have eb:bitsR s=7:=by unfold bitsR;rw[if_neg y16,if_neg y17,if_pos y18]
  rw[eb]at HBI
  have hm:M=decide (0≤x∧x<(128:Int)):=by rw[HM.out];exact mayU_dec s0 eb rfl
  have HM2:=Lib.hid hm
  clear hm eb s0 HM y16 y17 y18
  by_cases x0:x<0
  ·have dx:decide (0≤x)=false:=decN0 (by omega)
   obtain rfl:M=false:=by rw[HM2.out];exact decN0 (fun q=>absurd q.1 (by omega))
   clear HM2 x0
   go_enter Try.func71,Try.ntmps71
   go_wp2_with fail
   refine(HBI.out _).mono ?_
   rintro e w2 ⟨rfl,rfl⟩
   go_wp2
   go_quiet (fail)
   go_wp2
   go_ret
   exact⟨rfl,below_drewN HB.out _⟩
  have dx:decide (0≤x)=true:=decY0 (by omega)
  obtain⟨B,hBe⟩:∃B,B=decide (x<128):=⟨_,rfl⟩
  have hmb:M=B:=by rw[HM2.out,hBe];exact decide_eq_decide.2 ⟨fun q=>q.2,fun q=>⟨by omega,q⟩⟩
  subst hmb
  have dx1:decide (x<128)=M:=hBe.symm
  clear HM2 x0 hBe
  go_enter Try.func71,Try.ntmps71
  go_wp2_with fail
  refine(HBI.out _).mono ?_
  rintro e w2 ⟨rfl,rfl⟩
  go_wp2
  go_quiet (fail)
  go_wp2
  go_ret
  exact⟨rfl,below_drewN HB.out _⟩
 have eb:bitsR s=0:=by unfold bitsR;rw[if_neg y16,if_neg y17,if_neg y18]
 rw[eb]at HBI
 have hm:M=decide (0≤x∧x<(1:Int)):=by rw[HM.out];exact mayU_dec s0 eb rfl
 have HM2:=Lib.hid hm
 clear hm eb s0 HM y16 y17 y18
 by_cases x0:x<0
 ·have dx:decide (0≤x)=false:=decN0 (by omega)
  obtain rfl:M=false:=by rw[HM2.out];exact decN0 (fun q=>absurd q.1 (by omega))
  clear HM2 x0
  go_enter Try.func71,Try.ntmps71
  go_wp2_with fail
  refine(HBI.out _).mono ?_
  rintro e w2 ⟨rfl,rfl⟩
  go_wp2
  go_quiet (fail)
  go_wp2
  go_ret
  exact⟨rfl,below_drewN HB.out _⟩
 have dx:decide (0≤x)=true:=decY0 (by omega)
 obtain⟨B,hBe⟩:∃B,B=decide (x<1):=⟨_,rfl⟩
 have hmb:M=B:=by rw[HM2.out,hBe];exact decide_eq_decide.2 ⟨fun q=>q.2,fun q=>⟨by omega,q⟩⟩
 subst hmb
 have dx1:decide (x<1)=M:=hBe.symm
 clear HM2 x0 hBe
 go_enter Try.func71,Try.ntmps71
 go_wp2_with fail
 refine(HBI.out _).mono ?_
 rintro e w2 ⟨rfl,rfl⟩
 go_wp2
 go_quiet (fail)
 go_wp2
 go_ret
 exact⟨rfl,below_drewN HB.out _⟩
end Go.Proofs.Ytgokdgcmkcmjeaa
namespace Go.Proofs.Ytgokdgcmkcmjeaa
open Go.RowKit Go.ChangeShapes Go.WideShapes Go.ChangeAt Go.Joins
def valD(s:Int)(v:Nat):Nat:=if s=16 then v else if s<16 then s.toNat else 0
theorem does10_any(w:World)(s:Int)(x v:Nat)(hx:x≤1000)(hs:0≤s∧s≤18):Calls Try.prog 72 #[.agg #[.int .i64 s,.int .i64 (x:Int)],.int .u8 (v:Int)] w fun e w'=>e=.returned (.tuple #[.int .u8 (valD s v:Nat),.int .i64 ((timesR s (x:Int):Nat):Int)])∧Below w.heap.size w w':=by
 have HB:=Lib.hid ((Below.refl w.heap.size w).alloc (Nat.le_refl _) (.cells #[.int .i64 s,.int .i64 (x:Int)] 100))
 by_cases y16:s=16
 ·have e1:timesR s (x:Int)=x+3:=by unfold timesR;rw[if_pos (.inl y16),Int.toNat_natCast]
  have e2:valD s v=v:=by unfold valD;rw[if_pos y16]
  rw[e1,e2]
  have d16:(s==16)=true:=by simp[y16]
  have ex:(3:Int)+(x:Int)=((x+3:Nat):Int):=by omega
  obtain⟨u,hu⟩:∃u,u=x+3:=⟨_,rfl⟩
  rw[←hu]at ex⊢
  clear e1 e2 hu hs y16
  go_enter Try.func72,Try.ntmps72
  go_wp2
  go_ret2
  exact⟨rfl,HB.out⟩
 have d16:(s==16)=false:=by simp[y16]
 by_cases y17:s=17
 ·have e1:timesR s (x:Int)=x+3:=by unfold timesR;rw[if_pos (.inr y17),Int.toNat_natCast]
  have e2:valD s v=0:=by unfold valD;rw[if_neg y16,if_neg (by omega)]
  rw[e1,e2]
  have d17:(s==17)=true:=by simp[y17]
  have ex:(3:Int)+(x:Int)=((x+3:Nat):Int):=by omega
  obtain⟨u,hu⟩:∃u,u=x+3:=⟨_,rfl⟩
  rw[←hu]at ex⊢
  clear e1 e2 hu hs y16 y17
  go_enter Try.func72,Try.ntmps72
  go_wp2
  go_ret2
  exact⟨rfl,HB.out⟩
 have d17:(s==17)=false:=by simp[y17]
 by_cases y18:s=18
 ·have e1:timesR s (x:Int)=x+11:=by unfold timesR;rw[if_neg (by omega),if_pos y18,Int.toNat_natCast]
  have e2:valD s v=0:=by unfold valD;rw[if_neg y16,if_neg (by omega)]
  rw[e1,e2]
  have d18:(s==18)=true:=by simp[y18]
  obtain⟨z,hz⟩:∃z,z=x+8:=⟨_,rfl⟩
  have ez:(x:Int)+8=(z:Int):=by omega
  have ex:(3:Int)+(z:Int)=((x+11:Nat):Int):=by omega
  obtain⟨u,hu⟩:∃u,u=x+11:=⟨_,rfl⟩
  rw[←hu]at ex⊢
  clear e1 e2 hu hs y16 y17 y18 hz
  go_enter Try.func72,Try.ntmps72
  go_wp2
  go_ret2
  exact⟨rfl,HB.out⟩
 have d18:(s==18)=false:=by simp[y18]
 have e1:timesR s (x:Int)=1:=by unfold timesR;rw[if_neg (by omega),if_neg y18]
 obtain⟨V,rfl⟩:=Int.eq_ofNat_of_zero_le hs.1
 have e2:valD (V:Int) v=V:=by unfold valD;rw[if_neg y16,if_pos (by omega),Int.toNat_natCast]
 rw[e1,e2]
 have hV:V<16:=by omega
 have hmm:(V:Int)%256=(V:Int):=by omega
 have hmw:IntKind.u8.wrap (V:Int)=(V:Int):=by rw[IntKind.wrap_u8];omega
 clear e1 e2 y16 y17 y18 hs
 go_enter Try.func72,Try.ntmps72
 go_wp2
 go_ret2
 exact⟨rfl,HB.out⟩
end Go.Proofs.Ytgokdgcmkcmjeaa
namespace Go.Proofs.Ytgokdgcmkcmjeaa
open Go.RowKit
structure BoxW (w:World) (X:Nat) (x y:Value):Prop where
 lt:X<w.heap.size
 c0:w.cell? ⟨X,0,none⟩=some x
 c1:w.cell? ⟨X,1,none⟩=some y
 f0:w.frozen? ⟨X,0,none⟩=false
 f1:w.frozen? ⟨X,1,none⟩=false
theorem BoxW.new(U:World)(x y:Value)(t:TypeId):BoxW (U.alloc (.cells #[x,y] t)) U.heap.size x y:=by
 have hn:=heap_alloc_new U (.cells #[x,y] t)
 refine⟨by simp,?_,?_,?_,?_⟩
 ·exact(cell_of_row (U.alloc (.cells #[x,y] t)) _ 0 _ t (0,0) hn).trans rfl
 ·exact(cell_of_row (U.alloc (.cells #[x,y] t)) _ 1 _ t (0,0) hn).trans rfl
 ·exact frozen_of_row (U.alloc (.cells #[x,y] t)) _ 0 _ _ hn
 ·exact frozen_of_row (U.alloc (.cells #[x,y] t)) _ 1 _ _ hn
theorem BoxW.below{w w':World}{X B:Nat}{x y:Value}(h:BoxW w X x y)(hb:Below B w w')(hB:X<B):BoxW w' X x y:=
 ⟨Nat.lt_of_lt_of_le h.lt hb.size,(hb.cell (p:=⟨X,0,none⟩) hB).trans h.c0,(hb.cell (p:=⟨X,1,none⟩) hB).trans h.c1,(hb.frozen (p:=⟨X,0,none⟩) hB).trans h.f0,(hb.frozen (p:=⟨X,1,none⟩) hB).trans h.f1⟩
end Go.Proofs.Ytgokdgcmkcmjeaa
