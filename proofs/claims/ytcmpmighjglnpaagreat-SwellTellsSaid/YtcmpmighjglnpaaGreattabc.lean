/-
  The law SwellTells: THE STAGE'S THEOREM: from the beginning, in two pieces, against the relation. No condition.
-/
import Derived.Test.YtcmpmighjglnpaaGreattaag
import Derived.Test.YtcmpmighjglnpaaGreattaah
import Derived.Test.YtcmpmighjglnpaaGreattaal
import Derived.Test.YtcmpmighjglnpaaGreattaar
import Derived.Test.YtcmpmighjglnpaaGreattaat
import Derived.Test.YtcmpmighjglnpaaGreattaau
import Derived.Test.YtcmpmighjglnpaaGreattaav
import Derived.Test.YtcmpmighjglnpaaGreattaax
import Derived.Test.YtcmpmighjglnpaaGreattaba
import Derived.Test.YtcmpmighjglnpaaGreattabb
set_option maxRecDepth 100000
set_option maxHeartbeats 16000000
namespace Go.Proofs.YtcmpmighjglnpaaGreat
open Go.RowKit Go.ChangeShapes Go.WideShapes Go.ChangeAt Go.Joins
theorem byR_take{w:World}{B n c q:Nat}{A:Option Addr}{L:List Nat}(h:ByR w B A n c (lst L))(hL:BytesP L)(hq:q≤n):ByR w B A q c (lst (L.take q)):=by
 refine⟨⟨lst_lt fun x hx=>hL x (List.mem_of_mem_take hx),fun h0=>?_⟩,h.2.1,by have:=h.2.2.1;omega,h.2.2.2⟩
 obtain⟨b,o,e,hb,hc⟩:=h.1.2 (by omega)
 refine⟨b,o,e,hb,fun j hj=>?_⟩
 rw[hc j (by omega)]
 unfold lst
 rw[List.getD_eq_getElem?_getD,List.getD_eq_getElem?_getD,List.getElem?_take_of_lt hj]
theorem exec_row{o:Oper}{a:Act}{w:World}(ty:TypeId)(x:Operand)(ho:o.op=.load ty x)(g:Nat)(hx:a.eval x=.pointer (some ⟨g,0,none⟩))(cs:Array Value)(t:TypeId)(d:TypeDesc)(hg:BoxC w g cs t)(hu:Tryz.prog.underlying ty=some d)(hd:d.isRow=true)(hi:(Tryz.prog.info? ty).map (·.size)=some cs.size):
  (execOp a.eval o).run Tryz.prog w=.ok (.value (.agg cs)) w:=by
 have hS:w.rangeAt g 0 cs.toList:=rangeMid hg 0 _ fun i hi=>by rw[Nat.zero_add,Array.getElem?_toList]
 have:=run_loadVar_mid (P:=Tryz.prog) w g 0 ty cs.toList d hS hu hd (by rw[Array.length_toList];exact hi)
 rw[Array.toArray_toList]at this
 unfold execOp
 simp only[ho,hx,Instr.loadAt,Instr.sureAddr,Sem.run_bind,Sem.run_pure,Result.andThen_ok,this]
theorem exec_store{o:Oper}{a:Act}{w:World}(ty:TypeId)(x y:Operand)(ho:o.op=.store ty x y)(g:Nat)(cells:Array Value)(hx:a.eval x=.pointer (some ⟨g,0,none⟩))(hy:a.eval y=.agg cells)
  (t:TypeId) (old:Array Value) (hg:BoxC w g old t) (hi:(Tryz.prog.info? ty).map (·.size)=some cells.size) (hold:old.size=cells.size) (h1:cells.all (·.oneCell')=true):(execOp a.eval o).run Tryz.prog w=.ok .skip (w.setRow g cells):=by
 have:=run_storeVar_row (P:=Tryz.prog) w g t ty old cells hg hi hold h1
 unfold execOp
 simp[ho,hx,hy,Instr.storeAt,Instr.sureAddr,this,Result.andThen]
theorem exec_app{o:Oper}{a:Act}{w w':World}(x y:Operand)(t:TypeId)(ho:o.op=.call {callee:=.builtin .append,args:=#[x,y],argTypes:=#[t,t]})(u z v:Value)(hx:a.eval x=u)(hy:a.eval y=z)
  (hr:(Builtin.append_ #[t,t] o.type #[u,z]).run Tryz.prog w=.ok v w'):(execOp a.eval o).run Tryz.prog w=.ok (.value v) w':=by
 simp[execOp,ho,resolve,invoke,builtin,hx,hy,hr,Result.andThen]
theorem sw_over{w w':World}{base:Nat}{u:UnV}{s:Swm}{X:Array Value}{b:Nat}{v:Bool}(h:SwO w base u s)(hX:X=swA u.sw)(x:BoxC w' b X 32)(hv:s.over=v):w'.cell? ⟨b,44,none⟩=some (.bool v):=by
 obtain⟨_,_,_,_,_,_,_,c⟩:=sw_x hX x
 rw[c,h.ov,hv]
theorem quo_sw{n:Nat}(h:n≤100000):wrap64 ((wrap64 ((n:Int)+7)).tdiv 8)=(((n+7)/8:Nat):Int):=by
 have e1:wrap64 ((n:Int)+7)=((n+7:Nat):Int):=by unfold wrap64;omega
 rw[e1,show((n+7:Nat):Int).tdiv 8=(((n+7)/8:Nat):Int)from(Int.ofNat_tdiv (n+7) 8).symm]
 unfold wrap64
 omega
structure TelN (mo:Nat) (L:List Nat) (k:Nat) (Iw:List Nat) (In:Nat) (If:Int) (Pw:List Nat) (Pe:Int):Prop where
 bad1:(feedM (begM mo) (L.take k)).err≠0→If=(feedM (begM mo) (L.take k)).err∧If≠10
 over1:(feedM (begM mo) (L.take k)).err=0→(feedM (begM mo) (L.take k)).over=true→If=0∧(feedM (begM mo) (L.take k)).out=Iw∧usedM (begM mo) (L.take k) (feedM (begM mo) (L.take k))=(In+7)/8∧(feedM (begM mo) (L.take k)).made=Iw.length
 bad2:(feedM (begM mo) (L.take k)).err=0→(feedM (begM mo) (L.take k)).over=false→(feedM (nextM (begM mo) (L.take k) (feedM (begM mo) (L.take k))) (L.drop k)).err≠0→If=(feedM (nextM (begM mo) (L.take k) (feedM (begM mo) (L.take k))) (L.drop k)).err∧If≠10
 ok2:(feedM (begM mo) (L.take k)).err=0→(feedM (begM mo) (L.take k)).over=false→(feedM (nextM (begM mo) (L.take k) (feedM (begM mo) (L.take k))) (L.drop k)).err=0→
  (If=0∧(feedM (nextM (begM mo) (L.take k) (feedM (begM mo) (L.take k))) (L.drop k)).over=true∧(feedM (begM mo) (L.take k)).out++(feedM (nextM (begM mo) (L.take k) (feedM (begM mo) (L.take k))) (L.drop k)).out=Iw∧(L.take k).length+usedM (nextM (begM mo) (L.take k) (feedM (begM mo) (L.take k))) (L.drop k) (feedM (nextM (begM mo) (L.take k) (feedM (begM mo) (L.take k))) (L.drop k))=(In+7)/8∧(feedM (nextM (begM mo) (L.take k) (feedM (begM mo) (L.take k))) (L.drop k)).made=Iw.length)∨
  (If=10∧Pe=0∧(feedM (nextM (begM mo) (L.take k) (feedM (begM mo) (L.take k))) (L.drop k)).over=false∧(feedM (begM mo) (L.take k)).out++(feedM (nextM (begM mo) (L.take k) (feedM (begM mo) (L.take k))) (L.drop k)).out=Pw∧(L.take k).length+usedM (nextM (begM mo) (L.take k) (feedM (begM mo) (L.take k))) (L.drop k) (feedM (nextM (begM mo) (L.take k) (feedM (begM mo) (L.take k))) (L.drop k))=L.length)
theorem telN_of{mo k:Nat}{L:List Nat}(hl:L.length≤300)(hm:mo≤4000){Iw:List Nat}{In:Nat}{If:Int}{Pw:List Nat}{Pe:Int}(hI:inflR (lst L) L.length 0 (mo:Int)=(Iw,In,If))(hP:prefR (lst L) L.length (mo:Int)=(Pw,Pe)):TelN mo L k Iw In If Pw Pe:=by
 obtain⟨w1,w2,w3⟩:=tells_whole (b:=L) hl hm
 rw[hI]at w1 w2 w3
 rw[hP]at w3
 obtain⟨f1,f2,f3⟩:=feed_two (begM_good (by omega:mo≤131072)) (L.take k) (L.drop k)
 rw[List.take_append_drop]at f1 f2 f3
 dsimp only at w1 w2 w3 f3
 refine⟨fun h=>?_,fun h ho=>?_,fun h ho h2=>?_,fun h ho h2=>?_⟩
 ·have hq:=f1 h
  have a1:If≠0:=fun e=>h (by rw[←hq];exact(w1 e).1)
  have a2:If≠10:=fun e=>h (by rw[←hq];exact(w3 e).2.1)
  exact⟨by rw[←hq];exact(w2 a1 a2).symm,a2⟩
 ·have hq:=f2 h ho
  rw[hq]at w1 w2 w3
  have a2:If≠10:=fun e=>by have:=(w3 e).2.2.1;rw[ho]at this;cases this
  have a1:If=0:=by
   by_cases e:If=0
   ·exact e
   ·exact absurd ((w2 e a2).symm.trans h) e
  obtain⟨_,_,x1,x2,x3⟩:=w1 a1
  refine⟨a1,x1,?_,x3⟩
  rw[←x2]
  unfold usedM
  rw[ho,if_pos rfl,if_pos rfl]
 ·obtain⟨g1,_⟩:=f3 h ho
  have a1:If≠0:=fun e=>h2 (by rw[←g1];exact(w1 e).1)
  have a2:If≠10:=fun e=>h2 (by rw[←g1];exact(w3 e).2.1)
  exact⟨by rw[←g1];exact(w2 a1 a2).symm,a2⟩
 ·obtain⟨g1,g2⟩:=f3 h ho
  obtain⟨_,y1,_,y2,y3,_,y4⟩:=g2 h2
  by_cases e:If=0
  ·obtain⟨_,x0,x1,x2,x3⟩:=w1 e
   exact .inl ⟨e,by rw[←y1];exact x0,by rw[←y3];exact x1,by rw[←y4];exact x2,by rw[←y2];exact x3⟩
  ·have e2:If=10:=by
    by_cases e2:If=10
    ·exact e2
    ·exact absurd ((w2 e e2).symm.trans (g1.trans h2)) e
   obtain⟨x0,_,x1,x2,x3⟩:=w3 e2
   exact .inr ⟨e2,x0,by rw[←y1];exact x1,by rw[←y3];exact x2,by rw[←y4];exact x3⟩
theorem tells14_law(A:Option Addr)(c:Nat)(L:List Nat)(most cut:Int)(w:World)(hr:ByR w w.heap.size A L.length c (lst L))(hm1: -9223372036854775808≤most)(hm2:most≤9223372036854775807)(hc1: -9223372036854775808≤cut)(hc2:cut≤9223372036854775807):
  Calls Tryz.prog 4 #[.slice A L.length c,.int .i64 most,.int .i64 cut] w fun e w'=>e=.returned (.bool true)∧Below w.heap.size w w':=by
 obtain⟨Z,hZ⟩:∃Z,Z=swA swZ:=⟨_,rfl⟩
 have hz:∀u:World,(zeroValue 32).run Tryz.prog u=.ok (.agg Z) u:=by rw[hZ];exact(zero_of_info infoSwl).1
 have HZS:Hid (Z.size=45):=Lib.hid (by rw[hZ];exact swA_size rfl)
 have HZO:Hid (Z.all (·.oneCell')=true):=Lib.hid (by rw[hZ];exact swZ_one)
 have HZ:=Lib.hid hZ
 have hL:BytesP L:=bytes_of14 hr
 obtain⟨l,hl⟩:∃l,l=L.length:=⟨_,rfl⟩
 have hr0:∀V,Below w.heap.size w V→ByR V V.heap.size A l c (lst L):=fun V hV=>by rw[hl];exact(hr.below hV (Nat.le_refl _)).more hV.size
 have hlc:l≤c:=by rw[hl];exact hr.2.2.1
 rw[←hl]
 have HR:=Lib.hid hr0;have HL:=Lib.hid hL;have HLE:=Lib.hid hl;have HAL:=Lib.hid alive14_any
 clear hr hr0 hL hl hZ
 by_cases h1:300<l
 ·have d1:decide ((300:Int)<(l:Int))=true:=decide_eq_true (by omega)
  go_enter Tryz.func4,Tryz.ntmps4
  go_wp2_with fail
  refine(HAL.out w).mono ?_
  rintro e w1 ⟨rfl,hb⟩
  have HB:=Lib.hid hb
  clear hb
  go_wp2
  go_ret
  exact⟨rfl,HB.out⟩
 have d1:decide ((300:Int)<(l:Int))=false:=decide_eq_false (by omega)
 by_cases h2:4000<most
 ·have d2:decide ((4000:Int)<most)=true:=decide_eq_true (by omega)
  go_enter Tryz.func4,Tryz.ntmps4
  go_wp2_with fail
  refine(HAL.out w).mono ?_
  rintro e w1 ⟨rfl,hb⟩
  have HB:=Lib.hid hb
  clear hb
  go_wp2
  go_ret
  exact⟨rfl,HB.out⟩
 have d2:decide ((4000:Int)<most)=false:=decide_eq_false (by omega)
 by_cases h3:cut<0
 ·have d3:decide (cut<0)=true:=decide_eq_true (by omega)
  go_enter Tryz.func4,Tryz.ntmps4
  go_wp2_with fail
  refine(HAL.out w).mono ?_
  rintro e w1 ⟨rfl,hb⟩
  have HB:=Lib.hid hb
  clear hb
  go_wp2
  go_ret
  exact⟨rfl,HB.out⟩
 have d3:decide (cut<0)=false:=decide_eq_false (by omega)
 obtain⟨k,rfl⟩:=Int.eq_ofNat_of_zero_le (by omega:0≤cut)
 by_cases h4:l<k
 ·have d4:decide ((l:Int)<(k:Int))=true:=decide_eq_true (by omega)
  have d40:decide (l<k)=true:=decide_eq_true (by omega)
  go_enter Tryz.func4,Tryz.ntmps4
  go_wp2_with fail
  refine(HAL.out w).mono ?_
  rintro e w1 ⟨rfl,hb⟩
  have HB:=Lib.hid hb
  clear hb
  go_wp2
  go_ret
  exact⟨rfl,HB.out⟩
 have d4:decide ((l:Int)<(k:Int))=false:=decide_eq_false (by omega)
 have d40:decide (l<k)=false:=decide_eq_false (by omega)
 by_cases h5:most<0
 ·obtain⟨Xw,Xn,Xf,hI⟩:∃X p E,inflR (lst L) l 0 most=(X,p,E):=⟨_,_,_,rfl⟩
  have hf:Xf=2:=by have h:=infl_neg (g:=lst L) (l:=l) (lim:=most) (by omega) h5;rw[hI]at h;exact h
  subst hf
  obtain⟨xn,hxn⟩:∃n,n=Xw.length:=⟨_,rfl⟩
  have hnw:∀V,Calls Tryz.prog 7 #[.int .i64 most] V fun e w'=>e=.returned (.tuple #[.agg Z,.int .i64 2])∧Below V.heap.size V w':=fun V=>by rw[HZ.out];exact new_bad14 V most (.inl h5)
  have hin:∀V,Below w.heap.size w V→_:=fun V hV=>infl_as (c:=c) (HR.out V hV).1 (a:=0) (by decide) (by decide) (by omega:l≤1000000) hm1 hm2 hI hxn
  have HNW:=Lib.hid hnw;have HIN:=Lib.hid hin
  clear hnw hin hI hxn
  go_enter Tryz.func4,Tryz.ntmps4
  go_wp2_with fail
  refine(HAL.out w).mono ?_
  rintro e w1 ⟨rfl,hb⟩
  have HB:=Lib.hid hb
  clear hb
  go_wp2_with fail
  refine(HNW.out w1).mono ?_
  rintro e w2 ⟨rfl,hb⟩
  obtain⟨b2,hn⟩:∃b,b=w2.heap.size:=⟨_,rfl⟩
  obtain⟨W2,hW⟩:∃W,W=mkV w2 Z Z 32:=⟨_,rfl⟩
  have hm:Below w2.heap.size w2 W2:=by rw[hW];exact mkV_below _ _ _ _
  have hv:BoxC W2 b2 Z 32:=by rw[hW,hn];exact mkV_row _ _ _ _
  have hb2:=hb.trans (hm.mono hb.size)
  have HB:=Lib.hid (HB.out.trans (hb2.mono HB.out.size))
  have HVb2:=Lib.hid hv;have HNb2:=Lib.hid hn;have HEW2:=Lib.hid hW
  clear hb hb2 hm hv hn hW
  go_wp2_with (first
   |(refine wpList_store_rowTo rfl _ _ _ rfl rfl w2.heap.size Z rfl rfl 32 Z (heap_alloc_new w2 _) (szSwl _ HZS.out) (by first|rfl|rw[HZS.out,HZS.out]) HZO.out ?_;rw[show(w2.alloc (.cells Z 32)).setRow w2.heap.size Z=mkV w2 Z Z 32 from rfl,←HEW2.out,←HNb2.out])
   |(refine wpList_load_row rfl _ _ rfl b2 rfl _ Z (0,0) _ HVb2.out Tryz.underlying32 rfl (szSwl _ HZS.out) ?_)
   |fail)
  refine(HIN.out W2 HB.out).mono ?_
  rintro e w3 ⟨Ax,cx,rfl,-,hb⟩
  have HB:=Lib.hid (HB.out.trans (hb.mono HB.out.size))
  clear hb
  go_wp2
  go_ret
  exact⟨rfl,HB.out⟩
 obtain⟨mo,rfl⟩:=Int.eq_ofNat_of_zero_le (by omega:0≤most)
 obtain⟨Iw,In,If,hI⟩:∃X p E,inflR (lst L) L.length 0 (mo:Int)=(X,p,E):=⟨_,_,_,rfl⟩
 obtain⟨Pw,Pe,hP⟩:∃X E,prefR (lst L) L.length (mo:Int)=(X,E):=⟨_,_,rfl⟩
 have HT:=Lib.hid (telN_of (k:=k) (by rw[←HLE.out];omega) (by omega:mo≤4000) hI hP)
 rw[←HLE.out]at hI hP
 obtain⟨xn,hxn⟩:∃n,n=Iw.length:=⟨_,rfl⟩
 obtain⟨pn,hpn⟩:∃n,n=Pw.length:=⟨_,rfl⟩
 have hmo4:mo≤4000:=by omega
 have hl3:l≤300:=Nat.le_of_not_lt h1
 have hmo1:mo≤131072:=Nat.le_trans hmo4 (by decide)
 have hlk:(L.take k).length≤131072:=by rw[List.length_take,←HLE.out];exact Nat.le_trans (Nat.min_le_right _ _) (Nat.le_trans hl3 (by decide))
 have hld:(L.drop k).length≤131072:=by rw[List.length_drop,←HLE.out];exact Nat.le_trans (Nat.sub_le _ _) (Nat.le_trans hl3 (by decide))
 have HLK:=Lib.hid (And.intro hlk hld)
 have HNW:Hid (∀V,Calls Tryz.prog 7 #[.int .i64 (mo:Int)] V fun e w'=>e=.returned (.tuple #[.agg (swA (newU (mo:Int)).sw),.int .i64 0])∧Below V.heap.size V w'):=Lib.hid fun V=>new_of V mo hmo1
 have HIN:Hid (∀V,Below w.heap.size w V→Calls Tryz.prog 16 #[.slice A l c,.int .i64 0,.int .i64 (mo:Int)] V fun e w'=>∃A' c',e=.returned (.tuple #[.slice A' xn c',.int .i64 (In:Int),.int .i64 If])∧ByR w' w'.heap.size A' xn c' (lst Iw)∧Below V.heap.size V w'):=Lib.hid fun V hV=>infl_as (c:=c) (HR.out V hV).1 (a:=0) (by decide) (by decide) (by omega:l≤1000000) hm1 hm2 hI hxn
 have HPR:Hid (∀V,Below w.heap.size w V→Calls Tryz.prog 17 #[.slice A l c,.int .i64 (mo:Int)] V fun e w'=>∃A' c',e=.returned (.tuple #[.slice A' pn c',.int .i64 Pe])∧ByR w' w'.heap.size A' pn c' (lst Pw)∧Below V.heap.size V w'):=Lib.hid fun V hV=>pref_as (c:=c) (HR.out V hV).1 (by omega:l≤1000000) hm1 hm2 hP hpn
 have so0:∀W,SwO W W.heap.size (newU (mo:Int)) (begM mo):=fun W=>SwO.new W _ mo
 have g0:GoodSw (begM mo):=begM_good hmo1
 obtain⟨S1,hS1⟩:∃S,S=feedM (begM mo) (L.take k):=⟨_,rfl⟩
 obtain⟨N1,hN1⟩:∃S,S=nextM (begM mo) (L.take k) S1:=⟨_,rfl⟩
 obtain⟨S2,hS2⟩:∃S,S=feedM N1 (L.drop k):=⟨_,rfl⟩
 obtain⟨E1,hE1⟩:∃E,E=S1.err:=⟨_,rfl⟩
 obtain⟨E2,hE2⟩:∃E,E=S2.err:=⟨_,rfl⟩
 obtain⟨O1,hO1⟩:∃O,O=ansO E1 (begM mo) (L.take k):=⟨_,rfl⟩
 obtain⟨n1,hn1⟩:∃n,n=O1.length:=⟨_,rfl⟩
 obtain⟨K1,hK1⟩:∃q,q=ansU E1 (begM mo) (L.take k):=⟨_,rfl⟩
 have hT:=HT.out
 have t1:=hT.bad1;have t2:=hT.over1;have t3:=hT.bad2;have t4:=hT.ok2
 clear hT
 rw[←hS1,←hE1]at t1 t2 t3 t4
 rw[←hN1,←hS2,←hE2]at t3 t4
 have HT1:=Lib.hid t1;have HT2:=Lib.hid t2;have HT3:=Lib.hid t3;have HT4:=Lib.hid t4
 obtain⟨X0,hX0⟩:∃X,X=swA (newU (mo:Int)).sw:=⟨_,rfl⟩
 rw[←hX0]at HNW
 have HX0S:Hid (X0.size=45):=Lib.hid (by rw[hX0];exact swA_size (blkL_len ..))
 have HX0O:Hid (X0.all (·.oneCell')=true):=Lib.hid (by rw[hX0];exact(so0 w).one)
 have hE1f:fdoE (begM mo) (L.take k)=E1:=by rw[fdoE_ok rfl hlk,←hS1,hE1]
 have HF1:Hid (∀(B:Nat) (V:World),B≤V.heap.size→Below w.heap.size w V→Calls Tryz.prog 9 #[.agg X0,.slice A k c] V fun e w'=>∃X1 At ct,e=.returned (.tuple #[.agg X1,.slice At n1 ct,.int .i64 (K1:Int),.int .i64 E1])∧FeeW B w' E1 N1 O1 X1 At ct∧Below V.heap.size V w'):=Lib.hid fun B V hB hV=>by
  have h:=feedO_any (so0 V) g0 A k c (L.take k) (by rw[List.length_take,←HLE.out];omega) (byR_take (HR.out V hV) HL.out (by omega))
  rw[hE1f,←hX0]at h
  refine h.mono fun e w' h=>?_
  rw[hn1,hO1,hK1,hN1,hS1];exact h.answ hB
 have HG1:Hid (E1=0→GoodSw N1):=Lib.hid fun h=>by rw[hN1,hS1];exact next_good g0 (fun x hx=>HL.out x (List.mem_of_mem_take hx)) (by rw[←hS1,←hE1];exact h)
 have HNX:Hid (E1=0→N1.made=S1.made∧N1.over=S1.over∧N1.made=S1.out.length∧N1.most=mo):=Lib.hid fun h=>by
  obtain⟨a1,a2,_,a4⟩:=next_told g0 (b:=L.take k) (by rw[←hS1,←hE1];exact h)
  have K:=feed_kept g0 (b:=L.take k) (by rw[←hS1,←hE1];exact h)
  rw[←hS1]at a1 a2 a4 K
  rw[←hN1]at a1 a2 a4
  have a5:N1.made=S1.out.length:=a2.trans (Nat.zero_add _)
  obtain⟨o,b1,b2,_⟩:=K.told
  rw[b1,List.nil_append]at a2
  exact⟨by rw[a2,b2],a4,a5,a1⟩
 have HU1:Hid (E1=0→usedM (begM mo) (L.take k) S1≤k):=Lib.hid fun h=>by have h2:=used_le14 g0 (b:=L.take k) (by rw[←hS1,←hE1];exact h);rw[←hS1,List.length_take]at h2;exact Nat.le_trans h2 (Nat.min_le_left _ _)
 have HG0:=Lib.hid g0
 have HHO1:=Lib.hid hO1;have HHK1:=Lib.hid hK1;have HN1L:=Lib.hid hn1;have HS1:=Lib.hid hS1;have HNN1:=Lib.hid hN1;have HS2:=Lib.hid hS2;have HE2:=Lib.hid hE2;have HE1:=Lib.hid hE1;have HXN:=Lib.hid hxn;have HPN:=Lib.hid hpn
 clear t1 t2 t3 t4 hI hP hxn hpn so0 g0 hmo1 hlk hld hS1 hN1 hS2 hE1 hE2 hO1 hn1 hK1 hX0 hE1f HT
 go_enter Tryz.func4,Tryz.ntmps4
 go_wp2_with fail
 refine(HAL.out w).mono ?_
 rintro e w1 ⟨rfl,hb⟩
 have HB:=Lib.hid hb
 clear hb
 go_wp2_with fail
 refine(HNW.out w1).mono ?_
 rintro e w2 ⟨rfl,hb⟩
 obtain⟨b2,hn⟩:∃b,b=w2.heap.size:=⟨_,rfl⟩
 obtain⟨W2,hW⟩:∃W,W=mkV w2 Z X0 32:=⟨_,rfl⟩
 have hm:Below w2.heap.size w2 W2:=by rw[hW];exact mkV_below _ _ _ _
 have hv:BoxC W2 b2 X0 32:=by rw[hW,hn];exact mkV_row _ _ _ _
 have hb2:=hb.trans (hm.mono hb.size)
 have HB:=Lib.hid (HB.out.trans (hb2.mono HB.out.size))
 have HVb2:=Lib.hid hv;have HNb2:=Lib.hid hn;have HEW2:=Lib.hid hW
 clear hb hb2 hm hv hn hW
 go_wp2_with (first
  |(refine wpList_store_rowTo rfl _ _ _ rfl rfl w2.heap.size X0 rfl rfl 32 Z (heap_alloc_new w2 _) (szSwl _ HX0S.out) (by first|rfl|rw[HZS.out,HX0S.out]) HX0O.out ?_;rw[show(w2.alloc (.cells Z 32)).setRow w2.heap.size X0=mkV w2 Z X0 32 from rfl,←HEW2.out,←HNb2.out])
  |(refine wpList_load_row rfl _ _ rfl b2 rfl _ X0 (0,0) _ HVb2.out Tryz.underlying32 rfl (szSwl _ HX0S.out) ?_)
  |fail)
 refine(HIN.out W2 HB.out).mono ?_
 rintro e w3 ⟨Ax,cx,rfl,rX,hb⟩
 have HVb2:=Lib.hid (HVb2.out.below hb HVb2.out.lt)
 have HB:=Lib.hid (HB.out.trans (hb.mono HB.out.size))
 have HRX:=Lib.hid rX
 clear hb rX
 have e00:((0:Int) !=0)=false:=rfl
 go_wp2_with fail
 have HF1V:Hid (∀V,Below w3.heap.size w3 V→Calls Tryz.prog 9 #[.agg X0,.slice A k c] V fun e w'=>∃X1 At ct,e=.returned (.tuple #[.agg X1,.slice At n1 ct,.int .i64 (K1:Int),.int .i64 E1])∧FeeW w3.heap.size w' E1 N1 O1 X1 At ct∧Below V.heap.size V w'):=Lib.hid fun V hV=>HF1.out w3.heap.size V hV.size (HB.out.trans (hV.mono HB.out.size))
 have HRX3:=HRX;have HB3:=HB;have HVB2:=HVb2;have HU3:Hid (Below w3.heap.size w3 w3):=Lib.hid (Below.refl _ _)
 refine wp_region_tabg 11 [7,8,9] (tabT [fun v _=>v=.agg X0,fun v _=>v=.slice A l c,fun v _=>v=.int .i64 (k:Int),fun v _=>v=.slice A k c,fun v W=>∃X1 A4 k4,v=.tuple #[.agg X1,.slice A4 n1 k4,.int .i64 (K1:Int),.int .i64 E1]∧FeeW w3.heap.size W E1 N1 O1 X1 A4 k4,fun v W=>∃X1 A4 k4,v=.tuple #[.agg X1,.slice A4 n1 k4,.int .i64 (K1:Int),.int .i64 E1]∧FeeW w3.heap.size W E1 N1 O1 X1 A4 k4,fun v W=>∃X1 A4 k4,v=.agg X1∧FeeW w3.heap.size W E1 N1 O1 X1 A4 k4,fun v W=>∃X1 A4 k4,v=.slice A4 n1 k4∧FeeW w3.heap.size W E1 N1 O1 X1 A4 k4,fun v _=>v=.int .i64 (K1:Int),fun v _=>v=.int .i64 E1,fun v W=>∃ad,v=.pointer (some ⟨ad,0,none⟩)∧BoxC W ad Z 32∧w3.heap.size≤ad]) w3 (Below.refl _ _) (by kernel_rfl) (by kernel_rfl) (List.forall_mem_cons.2 ⟨⟨_,_,rfl,rfl,rfl,(fun _ _ _ _ h=>h),fun aa wv hb ha hS=>by obtain⟨X1,A4,k4,h1,h2⟩:=(hS 5 66 (by kernel_rfl) rfl).here;exact⟨.slice A4 n1 k4,fun w'=>by (unfold execOp;simp only[h1];go_simp),fun W hW=>⟨X1,A4,k4,rfl,h2.on hW⟩⟩⟩,(List.forall_mem_cons.2 ⟨⟨_,_,rfl,rfl,rfl,(fun _ _ _ _ h=>h),fun aa wv hb ha hS=>by obtain⟨X1,A4,k4,h1,h2⟩:=(hS 5 66 (by kernel_rfl) rfl).here;exact⟨.int .i64 (K1:Int),fun w'=>by (unfold execOp;simp only[h1];go_simp),up_eq rfl⟩⟩,(List.forall_mem_cons.2 ⟨⟨_,_,rfl,rfl,rfl,(fun _ _ _ _ h=>h),fun aa wv hb ha hS=>by obtain⟨X1,A4,k4,h1,h2⟩:=(hS 5 66 (by kernel_rfl) rfl).here;exact⟨.int .i64 E1,fun w'=>by (unfold execOp;simp only[h1];go_simp),up_eq rfl⟩⟩,(fun _ h=>by cases h)⟩)⟩)⟩) ?_ ?_
 case refine_1=>
  simp only[List.take_succ_cons,List.take_zero]
  refine TabAll.cons (fun aa wv hb ha hS Kk Qq hK=>tab_row (tab_free rfl) _ _ rfl b2 0 (show aa.eval (.tmp 8)=.pointer (some ⟨b2,0,none⟩)from((ha 8 (by kernel_rfl)).trans rfl)) X0.toList _ (rng_box (HVb2.out.below hb HVb2.out.lt)) Tryz.underlying32 rfl (by rw[Array.length_toList];exact szSwl _ HX0S.out) (up_eq (by rw[Array.toArray_toList])) hK) ?_
  refine TabAll.cons (fun aa wv hb ha hS Kk Qq hK=>tab_move (tab_free rfl) _ rfl (up_eq ((ha 0 (by kernel_rfl)).trans rfl)) hK) ?_
  refine TabAll.cons (fun aa wv hb ha hS Kk Qq hK=>tab_move (tab_free rfl) _ rfl (up_eq ((ha 2 (by kernel_rfl)).trans rfl)) hK) ?_
  refine TabAll.cons (fun aa wv hb ha hS Kk Qq hK=>tab_slice (tab_free rfl) _ _ _ _ _ rfl (.slice A l c) (.slice A k c) none (some (.int .i64 (k:Int))) none (show aa.eval (.tmp 68)=.slice A l c from(hS 1 68 (by kernel_rfl) rfl).here) rfl (congrArg some (show aa.eval (.tmp 69)=.int .i64 (k:Int)from(hS 2 69 (by kernel_rfl) rfl).here)) rfl (run_to A l c k (by omega) wv) (up_eq rfl) hK) ?_
  refine TabAll.cons (fun aa wv hb ha hS Kk Qq hK=>tab_call (tab_free rfl) 9 _ _ rfl (enters_of Tryz.func9 (by kernel_rfl) rfl) #[.agg X0,.slice A k c] (by simp[(show aa.eval (.tmp 67)=.agg X0 from(hS 0 67 (by kernel_rfl) rfl).here),(show aa.eval (.tmp 70)=.slice A k c from(hS 3 70 (by kernel_rfl) rfl).here)]) (HF1V.out wv hb) (fun ee w' ⟨X1,A4,k4,h1,h2,h3⟩=>⟨_,h1,h3,fun W hW=>⟨X1,A4,k4,rfl,h2.on hW⟩⟩) hK) ?_
  refine TabAll.cons (fun aa wv hb ha hS Kk Qq hK=>tab_move (tab_free rfl) _ rfl (hS 4 71 (by kernel_rfl) rfl) hK) ?_
  refine TabAll.cons (fun aa wv hb ha hS Kk Qq hK=>by obtain⟨X1,A4,k4,h1,h2⟩:=(hS 5 66 (by kernel_rfl) rfl).here;exact tab_extract (tab_free rfl) _ _ rfl _ (.agg X1) h1 (by go_simp) (fun W hW=>⟨X1,A4,k4,rfl,h2.on hW⟩) hK) ?_
  refine TabAll.cons (fun aa wv hb ha hS Kk Qq hK=>by obtain⟨X1,A4,k4,h1,h2⟩:=(hS 5 66 (by kernel_rfl) rfl).here;exact tab_extract (tab_free rfl) _ _ rfl _ (.slice A4 n1 k4) h1 (by go_simp) (fun W hW=>⟨X1,A4,k4,rfl,h2.on hW⟩) hK) ?_
  refine TabAll.cons (fun aa wv hb ha hS Kk Qq hK=>by obtain⟨X1,A4,k4,h1,h2⟩:=(hS 5 66 (by kernel_rfl) rfl).here;exact tab_extract (tab_free rfl) _ _ rfl _ (.int .i64 (K1:Int)) h1 (by go_simp) (up_eq rfl) hK) ?_
  refine TabAll.cons (fun aa wv hb ha hS Kk Qq hK=>by obtain⟨X1,A4,k4,h1,h2⟩:=(hS 5 66 (by kernel_rfl) rfl).here;exact tab_extract (tab_free rfl) _ _ rfl _ (.int .i64 E1) h1 (by go_simp) (up_eq rfl) hK) ?_
  refine TabAll.cons (fun aa wv hb ha hS Kk Qq hK=>by have hzz:=hz;exact tab_make (w':=wv.alloc (.cells Z 32)) (tab_free rfl) (.pointer (some ⟨wv.heap.size,0,none⟩)) (by go_simp) ((Below.refl _ _).alloc (Nat.le_refl _) _) (fun W hW=>⟨_,rfl,(BoxC.new wv Z 32).below hW (by simp),hb.size⟩) hK) ?_
  exact TabAll.nil
 intro vals wq hb5 hv
 obtain⟨X4,Aa4,ka4,e0,q0⟩:=(hv 6 72 rfl).here
 obtain⟨Xb4,A4,k4,e1,q1⟩:=(hv 7 73 rfl).here
 have e2:vals 74=.int .i64 (K1:Int):=(hv 8 74 rfl).here
 have e3:vals 75=.int .i64 E1:=(hv 9 75 rfl).here
 obtain⟨b4,e4,bx4,hl4⟩:=(hv 10 13 rfl).here
 have HX4S:Hid (X4.size=45):=Lib.hid q0.size
 have HX4O:Hid (X4.all (·.oneCell')=true):=Lib.hid q0.one
 obtain⟨W4,hW4⟩:∃W,W=wq.setRow b4 X4:=⟨_,rfl⟩
 have bu4:Below w3.heap.size w3 W4:=by rw[hW4];exact below_rowC hb5 hl4 X4
 have HQ4:Hid (FeeW w3.heap.size W4 E1 N1 O1 X4 Aa4 ka4):=Lib.hid (by rw[hW4];exact q0.box bx4 X4)
 have HO4:Hid (FeeW w3.heap.size W4 E1 N1 O1 Xb4 A4 k4):=Lib.hid (by rw[hW4];exact q1.box bx4 X4)
 have HVb4:Hid (BoxC W4 b4 X4 32):=Lib.hid (by rw[hW4];exact bx4.row X4)
 have HLOb4:Hid (w3.heap.size≤b4):=Lib.hid hl4
 have HVb2:=Lib.hid (HVb2.out.below bu4 HVb2.out.lt)
 have HB:=Lib.hid (HB.out.trans (bu4.mono HB.out.size))
 have HBX4:=Lib.hid bx4;have HW4:=Lib.hid hW4;have HBU:=Lib.hid bu4
 clear q0 q1 bx4 hl4 hW4 bu4 hb5 hv
 simp only[List.take_succ_cons,List.take_zero,List.drop_succ_cons,List.drop_zero,List.map_cons,List.map_nil,putL,Act.put,List.setIfInBounds_toArray,List.set_cons_zero,List.set_cons_succ,e0,e1,e2,e3,e4]
 clear e0 e1 e2 e3 e4
 have HRX:=Lib.hid ((HRX.out.below HBU.out (Nat.le_refl _)).more HBU.out.size)
 have HU4:Hid (Below w3.heap.size w3 W4):=HBU
 have HLT4:Hid (b4<W4.heap.size):=Lib.hid HVb4.out.lt
 go_upto_region 9 with(first
  |(refine wpList_store_rowTo rfl _ _ _ rfl rfl b4 X4 rfl rfl 32 Z HBX4.out (szSwl _ HX4S.out) (by rw[HZS.out,HX4S.out]) HX4O.out ?_;rw[←HW4.out])
  |fail)
 by_cases h0:E1≠0
 ·obtain⟨hIf,h10⟩:=HT1.out h0
  have d0:(E1==0)=false:=beq_eq_false_iff_ne.2 h0
  have z1:(If==0)=false:=by rw[hIf];exact d0
  have z2:(If !=10)=true:=by simpa using h10
  have z3:(E1==If)=true:=by rw[hIf];simp
  clear h0 h10 hIf
  go_wp2
  go_ret
  exact⟨rfl,HB.out⟩
 obtain rfl:E1=0:=by omega
 clear h0
 have hG1:=HG1.out rfl
 obtain⟨hm1',ho1',hm2',hm3'⟩:=HNX.out rfl
 obtain⟨u1,base1,hX1,so1⟩:=HQ4.out.ok rfl
 have hO1:O1=S1.out:=by rw[HHO1.out];unfold ansO;rw[if_pos rfl,HS1.out]
 have hK1:K1=usedM (begM mo) (L.take k) S1:=by rw[HHK1.out];unfold ansU;rw[if_pos rfl,HS1.out]
 cases hv1:S1.over with
 |true=>
  have c44:=swO_over so1 hX1 HVb4.out (ho1'.trans hv1)
  obtain⟨hIf,y1,y2,y3⟩:=HT2.out rfl hv1
  subst hIf
  have c1:W4.cell? ⟨b4,1,none⟩=some (.int .i64 (xn:Int)):=by obtain⟨_,h,_⟩:=sw_x hX1 HVb4.out;rw[h,so1.D,hm1',y3,HXN.out]
  have hOI:O1=Iw:=hO1.trans y1
  have hnx:n1=xn:=by rw[HN1L.out,HXN.out,hOI]
  subst hnx
  have hKI:K1=(In+7)/8:=by rw[hK1,HS1.out,←y2,HS1.out]
  obtain⟨ZS,hZS⟩:∃Z,Z=strL Iw:=⟨_,rfl⟩
  have s1:(convert 22 9 (.slice A4 n1 k4)).run Tryz.prog W4=.ok (.string ZS) W4:=by have h:=run_str (HO4.out.row).1 k4;rw[HN1L.out,hZS,←hOI];exact h
  have s2:(convert 22 9 (.slice Ax n1 cx)).run Tryz.prog W4=.ok (.string ZS) W4:=by have h:=run_str HRX.out.1 cx;rw[HN1L.out,hOI]at h⊢;rw[hZS];exact h
  have zz:(ZS.toList==ZS.toList)=true:=by simp
  have zq:((n1:Int)==(n1:Int))=true:=by simp
  have hk3:K1≤300:=by have h:=HU1.out rfl;rw[←hK1]at h;omega
  have zq2:((K1:Int)==wrap64 ((wrap64 ((In:Int)+7)).tdiv 8))=true:=by rw[quo_sw (by omega),hKI];simp
  clear hk3
  clear y1 y2 y3 hOI hZS hO1 hK1 so1 hX1 hm1' ho1' hm2' hm3' hG1 hv1 hKI
  go_wp2
  go_ret
  exact⟨rfl,HB.out⟩
 |false=>
  have c44:=swO_over so1 hX1 HVb4.out (ho1'.trans hv1)
  have hN1o:N1.over=false:=ho1'.trans hv1
  obtain⟨O2,hO2⟩:∃O,O=ansO E2 N1 (L.drop k):=⟨_,rfl⟩
  obtain⟨n2,hn2⟩:∃n,n=O2.length:=⟨_,rfl⟩
  obtain⟨K2,hK2⟩:∃q,q=ansU E2 N1 (L.drop k):=⟨_,rfl⟩
  obtain⟨N2,hN2⟩:∃S,S=nextM N1 (L.drop k) S2:=⟨_,rfl⟩
  obtain⟨A9,hA9⟩:∃B,(if c=k then A else A.map (·.add k))=B:=⟨_,rfl⟩
  have hE2f:fdoE N1 (L.drop k)=E2:=by rw[fdoE_ok hN1o HLK.out.2,HE2.out,HS2.out]
  have HF2V:Hid (∀V,Below W4.heap.size W4 V→Calls Tryz.prog 9 #[.agg X4,.slice A9 (l-k) (c-k)] V fun e w'=>∃X1 At ct,e=.returned (.tuple #[.agg X1,.slice At n2 ct,.int .i64 (K2:Int),.int .i64 E2])∧FeeW w3.heap.size w' E2 N2 O2 X1 At ct∧Below V.heap.size V w'):=Lib.hid fun V hV=>by
   have hb:=HB.out.trans (hV.mono HB.out.size)
   have h:=feedO_any (so1.on hV) hG1 A9 (l-k) (c-k) (L.drop k) (by rw[List.length_drop,←HLE.out]) ((HR.out V hb).from (by omega) hA9)
   rw[hE2f,←hX1]at h
   refine h.mono fun e w' h=>?_
   rw[hn2,hO2,hK2,hN2,HS2.out];exact h.answ (Nat.le_trans HU4.out.size hV.size)
  have hkl:k≤l:=by omega
  have HKA:=Lib.hid hA9;have HO1:=Lib.hid hO1;have HV1:=Lib.hid hv1;have HK1:=Lib.hid hK1;have HG1':=Lib.hid hG1;have HN2L:=Lib.hid hn2;have HHO2:=Lib.hid hO2;have HHK2:=Lib.hid hK2;have HNN2:=Lib.hid hN2
  have hO12:O1.length+O2.length≤4000:=by
   have q1:=hG1.made
   rw[hm3',hm2',←hO1]at q1
   by_cases h2:E2=0
   ·have he2:(feedM N1 (L.drop k)).err=0:=by rw[←HS2.out,←HE2.out];exact h2
    obtain⟨p1,p2,_⟩:=next_told hG1 he2
    have q2:=(next_good hG1 (fun x hx=>HL.out x (List.mem_of_mem_drop hx)) he2).made
    rw[p1,p2,hm3',hm2',←hO1]at q2
    rw[hO2];unfold ansO;rw[if_pos h2];omega
   ·rw[hO2];unfold ansO;rw[if_neg h2,List.length_nil];omega
  have hN2':E2=0→N2.over=S2.over∧N2.made=S2.made:=fun h2=>by
   have he2:(feedM N1 (L.drop k)).err=0:=by rw[←HS2.out,←HE2.out];exact h2
   obtain⟨_,p2,_,p4⟩:=next_told hG1 he2
   obtain⟨o,b1,b2,_⟩:=(feed_kept hG1 he2).told
   rw[←HS2.out]at p2 p4 b1 b2
   rw[←hN2]at p2 p4
   rw[b1,List.nil_append]at p2
   exact⟨p4,p2.trans b2.symm⟩
  have hK12:K1≤300∧K2≤300:=by
   refine⟨by have h:=HU1.out rfl;rw[←hK1]at h;omega,?_⟩
   rw[hK2];unfold ansU
   by_cases h2:E2=0
   ·rw[if_pos h2]
    have h:=used_le14 hG1 (b:=L.drop k) (by rw[←HS2.out,←HE2.out];exact h2)
    rw[List.length_drop,←HLE.out]at h
    omega
   ·rw[if_neg h2];exact Nat.zero_le _
  have HO12:=Lib.hid hO12;have HN2':=Lib.hid hN2'
  obtain⟨hk1,hk2⟩:=hK12
  clear hO12 hN2' hO1 hK1 hG1 hm1' ho1' hm2' hm3' so1 hX1 hv1 hN1o hO2 hn2 hK2 hN2 hA9 hE2f
  go_upto_region 10 with fail
  clear c44
  refine wp_region_tabg 11 [7,8,9] (tabT [fun v _=>v=.agg X4,fun v _=>v=.slice A l c,fun v _=>v=.int .i64 (k:Int),fun v _=>v=.slice A9 (l-k) (c-k),fun v W=>∃X1 A4 k4,v=.tuple #[.agg X1,.slice A4 n2 k4,.int .i64 (K2:Int),.int .i64 E2]∧FeeW w3.heap.size W E2 N2 O2 X1 A4 k4,fun v W=>∃X1 A4 k4,v=.tuple #[.agg X1,.slice A4 n2 k4,.int .i64 (K2:Int),.int .i64 E2]∧FeeW w3.heap.size W E2 N2 O2 X1 A4 k4,fun v W=>∃X1 A4 k4,v=.agg X1∧FeeW w3.heap.size W E2 N2 O2 X1 A4 k4,fun v W=>∃X1 A4 k4,v=.slice A4 n2 k4∧FeeW w3.heap.size W E2 N2 O2 X1 A4 k4,fun v _=>v=.int .i64 (K2:Int),fun v _=>v=.int .i64 E2,fun v W=>∃ad,v=.pointer (some ⟨ad,0,none⟩)∧BoxC W ad Z 32∧W4.heap.size≤ad]) W4 (Below.refl _ _) (by kernel_rfl) (by kernel_rfl) (List.forall_mem_cons.2 ⟨⟨_,_,rfl,rfl,rfl,(fun _ _ _ _ h=>h),fun aa wv hb ha hS=>by obtain⟨X1,A4,k4,h1,h2⟩:=(hS 5 83 (by kernel_rfl) rfl).here;exact⟨.slice A4 n2 k4,fun w'=>by (unfold execOp;simp only[h1];go_simp),fun W hW=>⟨X1,A4,k4,rfl,h2.on hW⟩⟩⟩,(List.forall_mem_cons.2 ⟨⟨_,_,rfl,rfl,rfl,(fun _ _ _ _ h=>h),fun aa wv hb ha hS=>by obtain⟨X1,A4,k4,h1,h2⟩:=(hS 5 83 (by kernel_rfl) rfl).here;exact⟨.int .i64 (K2:Int),fun w'=>by (unfold execOp;simp only[h1];go_simp),up_eq rfl⟩⟩,(List.forall_mem_cons.2 ⟨⟨_,_,rfl,rfl,rfl,(fun _ _ _ _ h=>h),fun aa wv hb ha hS=>by obtain⟨X1,A4,k4,h1,h2⟩:=(hS 5 83 (by kernel_rfl) rfl).here;exact⟨.int .i64 E2,fun w'=>by (unfold execOp;simp only[h1];go_simp),up_eq rfl⟩⟩,(fun _ h=>by cases h)⟩)⟩)⟩) ?_ ?_
  case refine_1=>
   simp only[List.take_succ_cons,List.take_zero]
   refine TabAll.cons (fun aa wv hb ha hS Kk Qq hK=>tab_row (tab_free rfl) _ _ rfl b4 0 (show aa.eval (.tmp 13)=.pointer (some ⟨b4,0,none⟩)from((ha 13 (by kernel_rfl)).trans rfl)) X4.toList _ (rng_box (HVb4.out.below hb HVb4.out.lt)) Tryz.underlying32 rfl (by rw[Array.length_toList];exact szSwl _ HX4S.out) (up_eq (by rw[Array.toArray_toList])) hK) ?_
   refine TabAll.cons (fun aa wv hb ha hS Kk Qq hK=>tab_move (tab_free rfl) _ rfl (up_eq ((ha 0 (by kernel_rfl)).trans rfl)) hK) ?_
   refine TabAll.cons (fun aa wv hb ha hS Kk Qq hK=>tab_move (tab_free rfl) _ rfl (up_eq ((ha 2 (by kernel_rfl)).trans rfl)) hK) ?_
   refine TabAll.cons (fun aa wv hb ha hS Kk Qq hK=>tab_slice (tab_free rfl) _ _ _ _ _ rfl (.slice A l c) (.slice A9 (l-k) (c-k)) (some (.int .i64 (k:Int))) none none (show aa.eval (.tmp 85)=.slice A l c from(hS 1 85 (by kernel_rfl) rfl).here) (congrArg some (show aa.eval (.tmp 86)=.int .i64 (k:Int)from(hS 2 86 (by kernel_rfl) rfl).here)) rfl rfl (run_from A A9 l c k hkl HKA.out wv) (up_eq rfl) hK) ?_
   refine TabAll.cons (fun aa wv hb ha hS Kk Qq hK=>tab_call (tab_free rfl) 9 _ _ rfl (enters_of Tryz.func9 (by kernel_rfl) rfl) #[.agg X4,.slice A9 (l-k) (c-k)] (by simp[(show aa.eval (.tmp 84)=.agg X4 from(hS 0 84 (by kernel_rfl) rfl).here),(show aa.eval (.tmp 87)=.slice A9 (l-k) (c-k)from(hS 3 87 (by kernel_rfl) rfl).here)]) (HF2V.out wv hb) (fun ee w' ⟨X1,A4,k4,h1,h2,h3⟩=>⟨_,h1,h3,fun W hW=>⟨X1,A4,k4,rfl,h2.on hW⟩⟩) hK) ?_
   refine TabAll.cons (fun aa wv hb ha hS Kk Qq hK=>tab_move (tab_free rfl) _ rfl (hS 4 88 (by kernel_rfl) rfl) hK) ?_
   refine TabAll.cons (fun aa wv hb ha hS Kk Qq hK=>by obtain⟨X1,A4,k4,h1,h2⟩:=(hS 5 83 (by kernel_rfl) rfl).here;exact tab_extract (tab_free rfl) _ _ rfl _ (.agg X1) h1 (by go_simp) (fun W hW=>⟨X1,A4,k4,rfl,h2.on hW⟩) hK) ?_
   refine TabAll.cons (fun aa wv hb ha hS Kk Qq hK=>by obtain⟨X1,A4,k4,h1,h2⟩:=(hS 5 83 (by kernel_rfl) rfl).here;exact tab_extract (tab_free rfl) _ _ rfl _ (.slice A4 n2 k4) h1 (by go_simp) (fun W hW=>⟨X1,A4,k4,rfl,h2.on hW⟩) hK) ?_
   refine TabAll.cons (fun aa wv hb ha hS Kk Qq hK=>by obtain⟨X1,A4,k4,h1,h2⟩:=(hS 5 83 (by kernel_rfl) rfl).here;exact tab_extract (tab_free rfl) _ _ rfl _ (.int .i64 (K2:Int)) h1 (by go_simp) (up_eq rfl) hK) ?_
   refine TabAll.cons (fun aa wv hb ha hS Kk Qq hK=>by obtain⟨X1,A4,k4,h1,h2⟩:=(hS 5 83 (by kernel_rfl) rfl).here;exact tab_extract (tab_free rfl) _ _ rfl _ (.int .i64 E2) h1 (by go_simp) (up_eq rfl) hK) ?_
   refine TabAll.cons (fun aa wv hb ha hS Kk Qq hK=>by have hzz:=hz;exact tab_make (w':=wv.alloc (.cells Z 32)) (tab_free rfl) (.pointer (some ⟨wv.heap.size,0,none⟩)) (by go_simp) ((Below.refl _ _).alloc (Nat.le_refl _) _) (fun W hW=>⟨_,rfl,(BoxC.new wv Z 32).below hW (by simp),hb.size⟩) hK) ?_
   exact TabAll.nil
  intro vals wq hb5 hv
  obtain⟨X5,Aa5,ka5,e0,q0⟩:=(hv 6 89 rfl).here
  obtain⟨Xb5,A5,k5,e1,q1⟩:=(hv 7 90 rfl).here
  have e2:vals 91=.int .i64 (K2:Int):=(hv 8 91 rfl).here
  have e3:vals 92=.int .i64 E2:=(hv 9 92 rfl).here
  obtain⟨b5,e4,bx4,hl4⟩:=(hv 10 17 rfl).here
  have HX5S:Hid (X5.size=45):=Lib.hid q0.size
  have HX5O:Hid (X5.all (·.oneCell')=true):=Lib.hid q0.one
  obtain⟨W5,hW4⟩:∃W,W=wq.setRow b5 X5:=⟨_,rfl⟩
  have bu4:Below W4.heap.size W4 W5:=by rw[hW4];exact below_rowC hb5 hl4 X5
  have HQ5:Hid (FeeW w3.heap.size W5 E2 N2 O2 X5 Aa5 ka5):=Lib.hid (by rw[hW4];exact q0.box bx4 X5)
  have HO5:Hid (FeeW w3.heap.size W5 E2 N2 O2 Xb5 A5 k5):=Lib.hid (by rw[hW4];exact q1.box bx4 X5)
  have HVb5:Hid (BoxC W5 b5 X5 32):=Lib.hid (by rw[hW4];exact bx4.row X5)
  have HLOb5:Hid (W4.heap.size≤b5):=Lib.hid hl4
  have HVb2:=Lib.hid (HVb2.out.below bu4 HVb2.out.lt)
  have HVb4:=Lib.hid (HVb4.out.below bu4 HVb4.out.lt)
  have HB:=Lib.hid (HB.out.trans (bu4.mono HB.out.size))
  have HBX4:=Lib.hid bx4;have HW4:=Lib.hid hW4;have HBU:=Lib.hid bu4
  clear q0 q1 bx4 hl4 hW4 bu4 hb5 hv
  simp only[List.take_succ_cons,List.take_zero,List.drop_succ_cons,List.drop_zero,List.map_cons,List.map_nil,putL,Act.put,List.setIfInBounds_toArray,List.set_cons_zero,List.set_cons_succ,e0,e1,e2,e3,e4]
  clear e0 e1 e2 e3 e4
  have HO4:=Lib.hid (HO4.out.on HBU.out)
  have HU5:Hid (Below w3.heap.size w3 W5):=Lib.hid (HU4.out.trans (HBU.out.mono HU4.out.size))
  go_upto_region 11 with(first
   |(refine wpList_store_rowTo rfl _ _ _ rfl rfl b5 X5 rfl rfl 32 Z HBX4.out (szSwl _ HX5S.out) (by rw[HZS.out,HX5S.out]) HX5O.out ?_;rw[←HW4.out])
   |fail)
  have hlt4:b4<W4.heap.size:=HLT4.out
  have hnb:b4≠b5:=by have h2:=HLOb5.out;omega
  have own1:=HO4.out.o
  rw[←HN1L.out]at own1
  obtain⟨A7,c7,W6,hrun,own6,hb6,hk6,_⟩:=run_catB_s W5.drew w3.heap.size A4 n1 k4 (lst O1) own1 A5 n2 k5 (lst O2) (lst (O1++O2)) (by rw[HN2L.out];exact HO5.out.row) (fun j hj=>by rw[lst_app];unfold cat;rw[if_pos (by rw[←HN1L.out];exact hj)]) (fun j hj=>by rw[lst_app];unfold cat;rw[if_neg (by rw[←HN1L.out];omega),←HN1L.out,Nat.add_sub_cancel_left]) (by have h:=HO12.out;rw[←HN1L.out,←HN2L.out]at h;omega) HU5.out.size
  have hbx:∀(g:Nat) (cs:Array Value),BoxC W5 g cs 32→BoxC W6 g cs 32:=fun g cs h=>(hk6 g h.lt (own_typeG own1 h (by rfl))).trans h
  have hx5:=hbx b5 X5 HVb5.out
  have hx4:=hbx b4 X4 HVb4.out
  have HX55:=Lib.hid hx5;have HX44:=Lib.hid hx4;have HRUN:=Lib.hid hrun
  clear hbx hk6 hx5 hx4
  have hwr:IntKind.i64.wrap ((K1:Int)+(K2:Int))=(K1:Int)+(K2:Int):=by rw[IntKind.wrap_i64];omega
  refine wp_region_three 3 8 (twT [fun v=>v=.agg X5,fun v=>v=.slice A4 n1 k4,fun v=>v=.slice A5 n2 k5,fun v=>v=.slice A7 (n1+n2) c7,fun v=>v=.int .i64 (K1:Int),fun v=>v=.int .i64 (K2:Int),fun v=>v=.int .i64 ((K1:Int)+(K2:Int)),fun v=>v=.int .i64 E2,fun v=>v=undef,fun v=>v=.slice A7 (n1+n2) c7,fun v=>v=.int .i64 ((K1:Int)+(K2:Int)),fun v=>v=.int .i64 E2]) W6 (W6.setRow b4 X5) (by kernel_rfl) (by kernel_rfl) ?_ ?_
  case refine_1=>
   refine ThAll.cons (fun aa wv hw ha hS Kk Qq hK=>th_val (k:=0) (s1:=3) (s2:=8) (by decide) (by decide) (tab_free rfl) (.agg X5) (exec_row _ _ rfl b5 (show aa.eval (.tmp 17)=.pointer (some ⟨b5,0,none⟩)from(ha 17 (by kernel_rfl)).trans rfl) X5 32 _ (by rcases hw with⟨h,_⟩|⟨h,_⟩|⟨_,_,_,_,h⟩;exact h▸HVb5.out;exact h▸HX55.out;exact Bool.noConfusion ((show Region.waitsFor .any _ 8 0=true by kernel_rfl).symm.trans h)) Tryz.underlying32 rfl (szSwl _ HX5S.out)) hK rfl) ?_
   refine ThAll.cons (fun aa wv hw ha hS Kk Qq hK=>th_val (k:=1) (s1:=3) (s2:=8) (by decide) (by decide) (tab_free rfl) (.slice A4 n1 k4) (by have e:=(show aa.eval (.tmp 14)=.slice A4 n1 k4 from(ha 14 (by kernel_rfl)).trans rfl);unfold execOp;simp only[e];rfl) hK rfl) ?_
   refine ThAll.cons (fun aa wv hw ha hS Kk Qq hK=>th_val (k:=2) (s1:=3) (s2:=8) (by decide) (by decide) (tab_free rfl) (.slice A5 n2 k5) (by have e:=(show aa.eval (.tmp 18)=.slice A5 n2 k5 from(ha 18 (by kernel_rfl)).trans rfl);unfold execOp;simp only[e];rfl) hK rfl) ?_
   refine ThAll.cons (fun aa wv hw ha hS Kk Qq hK=>by rcases hw with⟨h,_⟩|⟨_,h,_⟩|⟨_,h,_⟩;exact th_first (tab_free rfl) (.slice A7 (n1+n2) c7) (by rw[h];exact exec_app _ _ _ rfl _ _ _ (show aa.eval (.tmp 94)=.slice A4 n1 k4 from hS 1 94 (by kernel_rfl) rfl) (show aa.eval (.tmp 95)=.slice A5 n2 k5 from hS 2 95 (by kernel_rfl) rfl) HRUN.out) hK rfl;exact absurd rfl h;exact absurd rfl h) ?_
   refine ThAll.cons (fun aa wv hw ha hS Kk Qq hK=>th_val (k:=4) (s1:=3) (s2:=8) (by decide) (by decide) (tab_free rfl) (.int .i64 (K1:Int)) (by have e:=(show aa.eval (.tmp 15)=.int .i64 (K1:Int)from(ha 15 (by kernel_rfl)).trans rfl);unfold execOp;simp only[e];rfl) hK rfl) ?_
   refine ThAll.cons (fun aa wv hw ha hS Kk Qq hK=>th_val (k:=5) (s1:=3) (s2:=8) (by decide) (by decide) (tab_free rfl) (.int .i64 (K2:Int)) (by have e:=(show aa.eval (.tmp 19)=.int .i64 (K2:Int)from(ha 19 (by kernel_rfl)).trans rfl);unfold execOp;simp only[e];rfl) hK rfl) ?_
   refine ThAll.cons (fun aa wv hw ha hS Kk Qq hK=>th_val (k:=6) (s1:=3) (s2:=8) (by decide) (by decide) (tab_free rfl) (.int .i64 ((K1:Int)+(K2:Int))) (by have e1:=(show aa.eval (.tmp 97)=.int .i64 (K1:Int)from hS 4 97 (by kernel_rfl) rfl);have e2:=(show aa.eval (.tmp 98)=.int .i64 (K2:Int)from hS 5 98 (by kernel_rfl) rfl);unfold execOp;simp only[e1,e2];go_simp<;>exact hwr) hK rfl) ?_
   refine ThAll.cons (fun aa wv hw ha hS Kk Qq hK=>th_val (k:=7) (s1:=3) (s2:=8) (by decide) (by decide) (tab_free rfl) (.int .i64 E2) (by have e:=(show aa.eval (.tmp 20)=.int .i64 E2 from(ha 20 (by kernel_rfl)).trans rfl);unfold execOp;simp only[e];rfl) hK rfl) ?_
   refine ThAll.cons (fun aa wv hw ha hS Kk Qq hK=>by rcases hw with⟨_,h⟩|⟨h,_⟩|⟨_,_,h,_⟩;exact absurd rfl h;exact th_store (by decide) (tab_free rfl) rfl (by rw[h];exact exec_store _ _ _ rfl b4 X5 (show aa.eval (.tmp 13)=.pointer (some ⟨b4,0,none⟩)from(ha 13 (by kernel_rfl)).trans rfl) (show aa.eval (.tmp 93)=.agg X5 from hS 0 93 (by kernel_rfl) rfl) 32 X4 HX44.out (szSwl _ HX5S.out) (by rw[HX4S.out,HX5S.out]) HX5O.out) hK rfl;exact absurd rfl h) ?_
   refine ThAll.cons (fun aa wv hw ha hS Kk Qq hK=>th_val (k:=9) (s1:=3) (s2:=8) (by decide) (by decide) (tab_free rfl) (.slice A7 (n1+n2) c7) (by have e:=(show aa.eval (.tmp 96)=.slice A7 (n1+n2) c7 from hS 3 96 (by kernel_rfl) rfl);unfold execOp;simp only[e];rfl) hK rfl) ?_
   refine ThAll.cons (fun aa wv hw ha hS Kk Qq hK=>th_val (k:=10) (s1:=3) (s2:=8) (by decide) (by decide) (tab_free rfl) (.int .i64 ((K1:Int)+(K2:Int))) (by have e:=(show aa.eval (.tmp 99)=.int .i64 ((K1:Int)+(K2:Int))from hS 6 99 (by kernel_rfl) rfl);unfold execOp;simp only[e];rfl) hK rfl) ?_
   refine ThAll.cons (fun aa wv hw ha hS Kk Qq hK=>th_val (k:=11) (s1:=3) (s2:=8) (by decide) (by decide) (tab_free rfl) (.int .i64 E2) (by have e:=(show aa.eval (.tmp 100)=.int .i64 E2 from hS 7 100 (by kernel_rfl) rfl);unfold execOp;simp only[e];rfl) hK rfl) ?_
   exact ThAll.nil
  intro vals hv
  have v93:vals 93=.agg X5:=hv 0 93 rfl
  have v94:vals 94=.slice A4 n1 k4:=hv 1 94 rfl
  have v95:vals 95=.slice A5 n2 k5:=hv 2 95 rfl
  have v96:vals 96=.slice A7 (n1+n2) c7:=hv 3 96 rfl
  have v97:vals 97=.int .i64 (K1:Int):=hv 4 97 rfl
  have v98:vals 98=.int .i64 (K2:Int):=hv 5 98 rfl
  have v99:vals 99=.int .i64 ((K1:Int)+(K2:Int)):=hv 6 99 rfl
  have v100:vals 100=.int .i64 E2:=hv 7 100 rfl
  have v14:vals 14=.slice A7 (n1+n2) c7:=hv 9 14 rfl
  have v15:vals 15=.int .i64 ((K1:Int)+(K2:Int)):=hv 10 15 rfl
  have v16:vals 16=.int .i64 E2:=hv 11 16 rfl
  simp only[List.map_cons,List.map_nil,putL,Act.put,List.setIfInBounds_toArray,List.set_cons_zero,List.set_cons_succ,v93,v94,v95,v96,v97,v98,v99,v100,v14,v15,v16]
  clear v93 v94 v95 v96 v97 v98 v99 v100 v14 v15 v16 hv
  obtain⟨W7,hW7⟩:∃W,W=W6.setRow b4 X5:=⟨_,rfl⟩
  rw[←hW7]
  have hu6:Below w3.heap.size w3 W6:=HU5.out.trans (undrew hb6)
  have hu7:Below w3.heap.size w3 W7:=by rw[hW7];exact below_rowC hu6 HLOb4.out X5
  have HB7:Hid (Below w.heap.size w W7):=Lib.hid (HB3.out.trans (hu7.mono HB3.out.size))
  have HRX7:Hid (ByR W7 W7.heap.size Ax xn cx (lst Iw)):=Lib.hid ((HRX3.out.below hu7 (Nat.le_refl _)).more hu7.size)
  have HV7:Hid (BoxC W7 b4 X5 32):=Lib.hid (by rw[hW7];exact HX44.out.row X5)
  have hbin:BytesP (O1++O2):=fun x hx=>(List.mem_append.1 hx).elim (HO4.out.r.bin x) (HO5.out.r.bin x)
  have hlen:n1+n2=(O1++O2).length:=by rw[List.length_append,HN1L.out,HN2L.out]
  have HT7:Hid (ByR W7 W7.heap.size A7 (n1+n2) c7 (lst (O1++O2))):=Lib.hid (by rw[hW7];exact ByR.of_own (own_box own6 HX44.out (by decide) X5) (lst_lt hbin))
  have HHLEN:=Lib.hid hlen
  clear hu6 hu7 hbin hlen own1 own6 hb6 hrun hW7 hlt4 hnb HB
  by_cases h0:E2≠0
  ·obtain⟨hIf,h10⟩:=HT3.out rfl HV1.out h0
   have z1:(If==0)=false:=by rw[hIf];exact beq_eq_false_iff_ne.2 h0
   have z2:(If !=10)=true:=by simpa using h10
   have z3:(E2==If)=true:=by rw[hIf];simp
   clear h0 h10 hIf
   go_wp2
   go_ret
   exact⟨rfl,HB7.out⟩
  obtain rfl:E2=0:=by omega
  clear h0
  obtain⟨u2,base2,hX2,so2⟩:=HQ5.out.ok rfl
  obtain⟨p1,p2⟩:=HN2'.out rfl
  have hO1:O1=S1.out:=by rw[HHO1.out];unfold ansO;rw[if_pos rfl,HS1.out]
  have hK1:K1=usedM (begM mo) (L.take k) S1:=by rw[HHK1.out];unfold ansU;rw[if_pos rfl,HS1.out]
  have hO2:O2=S2.out:=by rw[HHO2.out];unfold ansO;rw[if_pos rfl,HS2.out]
  have hK2:K2=usedM N1 (L.drop k) S2:=by rw[HHK2.out];unfold ansU;rw[if_pos rfl,HS2.out]
  have hK1k:K1=(L.take k).length:=by rw[hK1];unfold usedM;rw[HV1.out,if_neg (by decide)]
  have h4:=HT4.out rfl HV1.out rfl
  rw[←hO1,←hO2,←hK2,←hK1k]at h4
  rcases h4 with⟨hIf,y0,y1,y2,y3⟩|⟨hIf,y0,y4,y1,y2⟩
  ·subst hIf
   have c44:=sw_over so2 hX2 HV7.out (p1.trans y0)
   have c1:W7.cell? ⟨b4,1,none⟩=some (.int .i64 (xn:Int)):=by obtain⟨_,h,_⟩:=sw_x hX2 HV7.out;rw[h,so2.D,p2,y3,HXN.out]
   obtain⟨n3,hn3⟩:∃n,n=n1+n2:=⟨_,rfl⟩
   have hnx:n3=xn:=by rw[hn3,HHLEN.out,y1,HXN.out]
   obtain⟨ZS,hZS⟩:∃Z,Z=strL Iw:=⟨_,rfl⟩
   have s1:(convert 22 9 (.slice A7 (n1+n2) c7)).run Tryz.prog W7=.ok (.string ZS) W7:=by have h:=run_str HT7.out.1 c7;rw[HHLEN.out,y1]at h⊢;rw[hZS];exact h
   have s2:(convert 22 9 (.slice Ax xn cx)).run Tryz.prog W7=.ok (.string ZS) W7:=by have h:=run_str HRX7.out.1 cx;rw[HXN.out]at h⊢;rw[hZS];exact h
   have zz:(ZS.toList==ZS.toList)=true:=by simp
   have zq:((xn:Int)==(xn:Int))=true:=by simp
   have zq2:((K1:Int)+(K2:Int)==wrap64 ((wrap64 ((In:Int)+7)).tdiv 8))=true:=by rw[quo_sw (by omega),←y2];push_cast;simp
   clear y0 y1 y2 y3 hn3 hnx hZS hO1 hO2 hK1 hK2 hK1k so2 hX2 p1 p2
   go_wp2
   go_ret
   exact⟨rfl,HB7.out⟩
  ·subst hIf
   subst y0
   have hlc2:K1+K2=l:=by rw[y2,HLE.out]
   have HY1:=Lib.hid y1;have HY4:=Lib.hid y4;have HP1:=Lib.hid p1;have HX2:=Lib.hid hX2;have HSO2:=Lib.hid so2
   clear y1 y2 y4 hO1 hO2 hK1 hK2 hK1k so2 hX2 p1 p2
   go_wp2_with fail
   refine(HPR.out W7 HB7.out).mono ?_
   rintro e w8 ⟨A8,c8,rfl,rP,hb⟩
   have HB8:=Lib.hid (HB7.out.trans (hb.mono HB7.out.size))
   have c44:=sw_over HSO2.out HX2.out (HV7.out.below hb HV7.out.lt) (HP1.out.trans HY4.out)
   obtain⟨ZS,hZS⟩:∃Z,Z=strL Pw:=⟨_,rfl⟩
   have s1:(convert 22 9 (.slice A7 (n1+n2) c7)).run Tryz.prog w8=.ok (.string ZS) w8:=by have h:=run_str ((HT7.out.below hb (Nat.le_refl _)).more hb.size).1 c7;rw[HHLEN.out,HY1.out]at h⊢;rw[hZS];exact h
   have s2:(convert 22 9 (.slice A8 pn c8)).run Tryz.prog w8=.ok (.string ZS) w8:=by have h:=run_str rP.1 c8;rw[HPN.out]at h⊢;rw[hZS];exact h
   have zz:(ZS.toList==ZS.toList)=true:=by simp
   have zq2:((K1:Int)+(K2:Int)==(l:Int))=true:=by rw[←hlc2];push_cast;simp
   clear hZS rP hb hlc2
   go_wp2
   go_ret
   exact⟨rfl,HB8.out⟩
theorem tells14_law_lifted(os:Os)(started:os.Started)(H:Type)(enc:TypeId×Value→H):
  ReturnsInHanded {} Tryz.checked os 4 .any (Rows.swellTellsSpec.pre6 enc Tryz.prog Tryz.f4 Rows.swellTellsRow.domain false) (Rows.swellTellsSpec.post enc Tryz.prog Tryz.f4 false true false false):=by
 refine returnsInHanded_of_change (C:=Tryz.checked) own started (by kernel_rfl) Tryz.func4
  (ChangeSpec.witness6 (enc:=enc) (C:=Tryz.checked) false ⟨#[],#[.slice none 0 0,.int .i64 0,.int .i64 0],[]⟩ 8 (by kernel_rfl) (by kernel_rfl) (by kernel_rfl) (by kernel_rfl)) ?_
 intro W base args ds gs before hval0 hW _ _
 have hval:∀(j:Nat) t v,Tryz.f4.params[j]?=some t→args[j]?=some v→Value.okWide Tryz.prog W .any base t v:=hval0
 have hW':=hW
 obtain⟨p,q,hA0,hV,rfl,_,_⟩:=hW
 have hA:DataW.TrodAll enc Tryz.prog W 0 (fun _=>true) true Tryz.f4.params.toList args.toList ds p:=hA0
 rw[Tryz.params4]at hA hval
 obtain⟨v0,vs0,d0,ds0,p0,q0,hargs,rfl,rfl,h0,r0⟩:=trodAll_cons hA
 obtain⟨v1,vs1,d1,ds1,p1,q1,rfl,rfl,rfl,h1,r1⟩:=trodAll_cons r0
 obtain⟨v2,vs2,d2,ds2,p2,q2,rfl,rfl,rfl,h2,r2⟩:=trodAll_cons r1
 obtain⟨rfl,rfl,rfl⟩:=trodAll_nil r2
 obtain rfl:args=#[v0,v1,v2]:=by cases args;simp_all
 obtain⟨rfl,rfl⟩:=trodVars_none hV
 have k0:=h0
 have lt0:∀x∈p0,x.block<W.heap.size:=by obtain⟨m,hm⟩:=k0;exact DataW.trod_lt m _ _ _ hm
 obtain⟨A0,len0,cap0,rfl⟩:=okWide_slice Tryz.underlying22 (hval 0 22 v0 rfl rfl)
 obtain⟨f0,hx0⟩:=open_byr h0
 obtain⟨L0,rfl,hr0⟩:=byr_list hx0
 have k1:=h1
 have lt1:∀x∈p1,x.block<W.heap.size:=by obtain⟨m,hm⟩:=k1;exact DataW.trod_lt m _ _ _ hm
 obtain⟨a1,rfl,rfl,rfl,w1⟩:=open_int Tryz.underlying3 (hval 1 3 v1 rfl rfl) h1
 have u1:=wf_i64_range w1
 have k2:=h2
 have lt2:∀x∈p2,x.block<W.heap.size:=by obtain⟨m,hm⟩:=k2;exact DataW.trod_lt m _ _ _ hm
 obtain⟨a2,rfl,rfl,rfl,w2⟩:=open_int Tryz.underlying3 (hval 2 3 v2 rfl rfl) h2
 have u2:=wf_i64_range w2
 clear hA0 hval0
 refine(tells14_law A0 cap0 L0 a1 a2 W hr0 u1.1 u1.2 u2.1 u2.2).mono fun e W' ⟨he,bel⟩=>?_
 subst he
 exact⟨_,rfl,_,_,_,[],_,[],hW',trodAll_mk1 (shut_bool Tryz.underlying4 _),(trodAll_cons_mk (Below.trod laidOut (by kernel_rfl) (of_decide_eq_true (by kernel_rfl)) k0 bel lt0) (trodAll_cons_mk (Below.trod laidOut (by kernel_rfl) (of_decide_eq_true (by kernel_rfl)) k1 bel lt1) (trodAll_cons_mk (Below.trod laidOut (by kernel_rfl) (of_decide_eq_true (by kernel_rfl)) k2 bel lt2) trodAll_mk0))),rfl,bel.frame _,fun h=>by cases h⟩
theorem tells14_law_holds:Rows.SwellTellsSaid:=
 OpenClaim.holds_of_wide 4 Tryz.f4 rfl rfl rfl rfl rfl rfl rfl ⟨rfl,rfl,rfl,rfl,rfl⟩ rfl rfl rfl rfl rfl (by kernel_rfl) Tryz.func4 (by kernel_rfl)
  (of_decide_eq_true (by kernel_rfl)) (by unfold Func.isWrapper;first|(rw[if_pos (by decide+kernel)];kernel_rfl)|(rw[if_neg (by decide+kernel)];exact⟨rfl,rfl⟩))
  (fun os started H enc _=>tells14_law_lifted os started H enc)
#print axioms tells14_law_holds
end Go.Proofs.YtcmpmighjglnpaaGreat
