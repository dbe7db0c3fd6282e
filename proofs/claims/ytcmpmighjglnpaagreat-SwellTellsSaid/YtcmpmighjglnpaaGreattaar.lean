/-
  Words and walks.
-/
import Derived.Deep.MidRow
import Derived.Deep.DeepCutAuto
import Derived.Great.BuildSlice
import Derived.Deep.WholeRow
import Derived.Test.YtcmpmighjglnpaaGreattaaa
import Derived.Test.YtcmpmighjglnpaaGreattaab
import Derived.Test.YtcmpmighjglnpaaGreattaad
import Derived.Test.YtcmpmighjglnpaaGreattaae
import Derived.Test.YtcmpmighjglnpaaGreattaah
import Derived.Test.YtcmpmighjglnpaaGreattaai
import Derived.Test.YtcmpmighjglnpaaGreattaal
import Derived.Test.YtcmpmighjglnpaaGreattaam
import Derived.Test.YtcmpmighjglnpaaGreattaaq
set_option maxRecDepth 100000
set_option maxHeartbeats 16000000
namespace Go.Proofs.YtcmpmighjglnpaaGreat
open Go.RowKit
theorem pwithin_any(w:World)(A:Option Addr)(l c:Nat)(a:Int)(_ha1: -9223372036854775808≤a)(_ha2:a≤9223372036854775807)(hl:l≤1000000):
  Calls Tryz.prog 53 #[.slice A l c,.int .i64 a] w fun e w'=>e=.returned (.int .i64 (asked13 l a))∧w=w':=by
 obtain⟨q,hq⟩:∃q,q=asked13 l a:=⟨_,rfl⟩
 rw[←hq]
 unfold asked13 at hq
 by_cases y0:131072<l
 ·rw[if_pos y0]at hq
  subst hq
  have d1:decide ((131072:Int)<(l:Int))=true:=decY (by omega)
  have d2:decide (131072<l)=true:=decY0 y0
  clear y0
  go_enter Tryz.func53,Tryz.ntmps53
  go_wp2
  go_ret
  exact⟨rfl,rfl⟩
 rw[if_neg y0]at hq
 have d1:decide ((131072:Int)<(l:Int))=false:=decN (by omega)
 have d2:decide (131072<l)=false:=decN0 y0
 have hl2:l≤131072:=by omega
 clear y0
 by_cases y1:a<0
 ·rw[if_pos (.inl y1)]at hq
  subst hq
  have d3:decide (a<0)=true:=decY y1
  go_enter Tryz.func53,Tryz.ntmps53
  go_wp2
  go_ret
  exact⟨rfl,rfl⟩
 have d3:decide (a<0)=false:=decN y1
 by_cases y2:8*(l:Int)<a
 ·rw[if_pos (.inr y2)]at hq
  subst hq
  have d4:decide (8*(l:Int)<a)=true:=decY y2
  go_enter Tryz.func53,Tryz.ntmps53
  go_wp2
  go_ret
  exact⟨rfl,rfl⟩
 ·rw[if_neg (by rintro(h|h);exact y1 h;exact y2 h)]at hq
  subst hq
  have d4:decide (8*(l:Int)<a)=false:=decN y2
  go_enter Tryz.func53,Tryz.ntmps53
  go_wp2
  go_ret
  exact⟨rfl,rfl⟩
theorem built_rdr13(A:Option Addr)(l c:Nat)(a:Nat):Tryz.prog.built 70 [(0,.slice A l c),(1,.int .i64 (a:Int))]=some (rdrA A l c (a,0)):=by kernel_rfl
theorem szRdr13{Y:Array Value}(h:Y.size=3):(Tryz.prog.info? 70).map (·.size)=some Y.size:=by rw[h];exact szRdr
theorem ofD_head{g:Nat→Nat}{L n:Nat}{base:Nat}{w':World}{u1 u2:Value}(hn:n≤8*L)(h0:(begR g L n).2.2=0)(o1:OwnS w' base u1 (hdY1 g L (n,0)))(o2:OwnS w' base u2 (hdY2 g L (n,0))):
  OfD base (begR g L n).1 (.agg (blkT (hdK g L (n,0)) (hdB g L (n,0)) (hdL g L (n,0)) (hdC1 g L (n,0)) (hdC2 g L (n,0)) u1 u2)) w'∧BlkIn (begR g L n).1:=by
 obtain⟨e1,e2,e3,e4,e5,e6,e7,e8⟩:=(head_is (g:=g) (L:=L) hn).1 h0
 rw[e2,e3,e4]
 generalize (begR g L n).1=k at e5 e6 e7 e8⊢
 by_cases k0:k.kind=0
 ·obtain⟨c1,c2,c3,c4⟩:=e7 k0
  rw[c1,c2];rw[c3]at o1;rw[c4]at o2
  refine⟨⟨u1,u2,?_,?_,?_⟩,⟨e5,e6,fun h=>absurd k0 h,fun h=>absurd k0 h⟩⟩
  ·unfold tcO;rw[if_pos k0,if_pos k0]
  ·unfold syO;rw[if_pos k0];exact o1
  ·unfold syO;rw[if_pos k0];exact o2
 ·obtain⟨c0,c1,c2,c3,c4,c5,c6⟩:=e8 k0
  rw[c1,c2];rw[c3]at o1;rw[c4]at o2
  have q1:grC k.F k.n 15=fun m=>(tcN k.F m k.n:Int):=by funext m;unfold grC;rw[if_pos c5]
  have q2:grC k.G k.m 15=fun m=>(tcN k.G m k.m:Int):=by funext m;unfold grC;rw[if_pos c6]
  have q3:grS k.F k.n 15=natsI (symL k.F k.n 15):=by unfold grS;rw[if_pos c5]
  have q4:grS k.G k.m 15=natsI (symL k.G k.m 15):=by unfold grS;rw[if_pos c6]
  rw[q3]at o1;rw[q4]at o2
  refine⟨⟨u1,u2,?_,?_,?_⟩,⟨e5,e6,fun _=>CodeOk.of c5,fun _=>CodeOk.of c6⟩⟩
  ·unfold tcO;rw[if_neg k0,if_neg k0,q1,q2]
  ·unfold syO;rw[if_neg k0];exact o1
  ·unfold syO;rw[if_neg k0];exact o2
theorem phead13_any(w:World)(A:Option Addr)(l c:Nat)(g:Nat→Nat)(hg:RdB w w.heap.size A l g)(a:Int)(ha1: -9223372036854775808≤a)(ha2:a≤9223372036854775807)(hl:l≤1000000):
  Calls Tryz.prog 59 #[.slice A l c,.int .i64 a] w fun e w'=>HeadD w.heap.size (headR g l a) e w'∧Below w.heap.size w w':=by
 obtain⟨h,hh⟩:∃h,h=w.heap.size:=⟨_,rfl⟩
 obtain⟨Z,hZ⟩:∃Z,Z=blkT 0 false 0 (fun _=>0) (fun _=>0) (.slice none 0 0) (.slice none 0 0):=⟨_,rfl⟩
 obtain⟨ZR,hZR⟩:∃Z,Z=rdrA none 0 0 (0,0):=⟨_,rfl⟩
 obtain⟨W1,hW1⟩:∃W1,W1=w.alloc (.cells Z 28):=⟨_,rfl⟩
 have hb1:Below h w W1:=by rw[hW1,hh];exact(Below.refl _ _).alloc (Nat.le_refl _) _
 have t1:BoxC W1 h Z 28:=by rw[hW1,hh];exact BoxC.new w _ _
 have s1:W1.heap.size=h+1:=by rw[hW1,hh];simp
 obtain⟨R,hR⟩:∃R,R=headR g l a:=⟨_,rfl⟩
 rw[←hR]
 obtain⟨q,hq⟩:∃q,q=asked13 l a:=⟨_,rfl⟩
 have hrr:=hR
 unfold headR at hrr
 rw[←hq]at hrr
 have hask:=pwithin_any W1 A l c a ha1 ha2 hl
 rw[←hq]at hask
 have HAS:=Lib.hid hask;have HG:=Lib.hid hg;have HT1:=Lib.hid t1;have HB1:=Lib.hid hb1;have HH:=Lib.hid hh;have HW1:=Lib.hid hW1;have HS1:=Lib.hid s1;have HRR:=Lib.hid hrr;have HQ:=Lib.hid hq;have HZE:=Lib.hid hZ
 have HZS:Hid (Z.size=37):=Lib.hid (by rw[hZ];exact blkT_size ..)
 have HZO:Hid (Z.all (·.oneCell')=true):=Lib.hid (by rw[hZ];exact blkT_one _ _ _ _ _ _ _ rfl rfl)
 have HZB:Hid (Tryz.prog.built 28 []=some Z):=Lib.hid (by rw[hZ];exact built_blkT0)
 have hzb:∀u:World,(zeroValue 28).run Tryz.prog u=.ok (.agg Z) u:=by rw[hZ];exact(zero_of_info infoBlkT).1
 have hzr:∀u:World,(zeroValue 70).run Tryz.prog u=.ok (.agg ZR) u:=by rw[hZR];exact(zero_of_info infoRdr).1
 have HZRS:Hid (ZR.size=3):=Lib.hid (by rw[hZR];rfl)
 clear hask hg t1 hb1 hh hW1 s1 hrr hq hR hZ hZR
 by_cases q0:q=0
 ·have hl3:l≤131072:=by
   have:=HQ.out;rw[q0]at this;unfold asked13 at this
   split at this
   ·omega
   ·omega
  have ha:0≤a∧a≤8*(l:Int):=by
   have:=HQ.out;rw[q0]at this;unfold asked13 at this
   rw[if_neg (by omega)]at this
   split at this
   ·omega
   ·omega
  obtain⟨n,rfl⟩:=Int.eq_ofNat_of_zero_le ha.1
  have hn8:n≤8*l:=by omega
  have HRR2:Hid (R=if(begR g l n).2.2≠0 then(blk0,0,(begR g l n).2.2)else begR g l n):=Lib.hid (by rw[HRR.out,if_neg (fun h=>h q0),Int.toNat_natCast])
  obtain⟨Y,hY⟩:∃Y,Y=rdrA A l c (n,0):=⟨_,rfl⟩
  have HYS:Hid (Y.size=3):=Lib.hid (by rw[hY];rfl)
  have HYO:Hid (Y.all (·.oneCell')=true):=Lib.hid (by rw[hY];simp[rdrA,Value.oneCell'])
  have HYB:Hid (Tryz.prog.built 70 [(0,.slice A l c),(1,.int .i64 (n:Int))]=some Y):=Lib.hid (by rw[hY];exact built_rdr13 A l c n)
  obtain⟨W2,hW2⟩:∃W,W=mkV W1 ZR Y 70:=⟨_,rfl⟩
  have hb2:Below W1.heap.size W1 W2:=by rw[hW2];exact mkV_below _ _ _ _
  have y2:Rdr W2 (h+1) A l c (n,0):=by have:=mkV_row W1 ZR Y 70;rw[HS1.out,hY]at this;rw[hW2,hY];exact this
  have HB2:=Lib.hid (HB1.out.trans (hb2.mono (by rw[HS1.out];omega)))
  have HT2:=Lib.hid (HT1.out.below hb2 HT1.out.lt)
  have hsz2:W2.heap.size=h+2:=by rw[hW2,mkV_size,HS1.out]
  have hg2:RdF (At (h+1)) W2 A l g:=by
   refine⟨(HG.out.below (HH.out▸HB2.out) (Nat.le_refl _)).more (by have:=HB2.out.size;omega),fun b o h0 e hb=>?_⟩
   obtain⟨b',o',e',hbb,_⟩:=HG.out.2 h0
   rw[e]at e';cases e'
   have:b=h+1:=hb
   have:=HH.out;omega
  have hin2:(hdQ l (n,0)).1≤8*l:=tkS_in (tkS_in hn8)
  have HHD:=Lib.hid (phead_any W2 (h+1) A l c g (n,0) y2 (At (h+1)) rfl (fun j (e:j=h+1)=>by omega) hg2 (by omega) hn8 (fun he=>(dy_len g l (hdQ l (n,0)) hin2 he).1))
  have HIS:=Lib.hid (head_is (g:=g) (L:=l) hn8)
  have HOF:=Lib.hid fun(base:Nat) (w':World) (u1 u2:Value) (h0:(begR g l n).2.2=0)=>ofD_head (base:=base) (w':=w') (u1:=u1) (u2:=u2) hn8 h0
  have HW2:=Lib.hid hW2;have HSZ2:=Lib.hid hsz2
  subst q0
  clear ha hW2 hb2 y2 hsz2 hg2 hin2 hY
  go_enter Tryz.func59,Tryz.ntmps59
  go_wp2_with (first|(rw[←HW1.out,←HH.out])|fail)
  refine HAS.out.mono ?_
  rintro e w9 ⟨rfl,rfl⟩
  go_wp2_with (first
   |(refine wpList_buildTo rfl 70 #[(0,.tmp 16),(1,.tmp 17)] rfl (some 18) rfl Y ?_ ?_;focus(simpa[Act.eval]using HYB.out))
   |(refine wpList_store_rowTo rfl _ _ _ rfl rfl W1.heap.size Y rfl rfl 70 ZR (heap_alloc_new W1 _) (szRdr13 HYS.out) (by rw[HZRS.out,HYS.out]) HYO.out ?_;change wpList _ _ _ _ _ (mkV W1 ZR Y 70);rw[←HW2.out,HS1.out])
   |fail)
  refine HHD.out.mono ?_
  rintro e w3 ⟨u1,u2,rfl,r3,o1,o2,f3⟩
  obtain⟨ss,hss⟩:∃s,s=hdS g l (n,0):=⟨_,rfl⟩
  obtain⟨sa,se⟩:=ss
  rw[←hss]at r3
  obtain⟨X,hX⟩:∃X,X=blkT (hdK g l (n,0)) (hdB g l (n,0)) (hdL g l (n,0)) (hdC1 g l (n,0)) (hdC2 g l (n,0)) u1 u2:=⟨_,rfl⟩
  rw[←hX]
  have HXS:Hid (X.size=37):=Lib.hid (by rw[hX];exact blkT_size ..)
  have HXO:Hid (X.all (·.oneCell')=true):=Lib.hid (by rw[hX];exact blkT_one _ _ _ _ _ _ _ o1.one o2.one)
  have ht3:=HT2.out.fr f3 (by show¬h=h+1;omega)
  obtain⟨W4,hW4⟩:∃W,W=w3.setRow h X:=⟨_,rfl⟩
  have x4:BoxC W4 h X 28:=by rw[hW4];exact ht3.row X
  have r4:Rdr W4 (h+1) A l c (sa,se):=by rw[hW4];exact BoxC.rowO r3 (by omega) X
  have f4:Fr (At h) w3 W4:=by rw[hW4];exact Fr.row w3 h X
  have hb4:Below h w W4:=HB2.out.trans ((f3.below (B:=h) (fun j (e:j=h+1)=>by omega) (by have:=HSZ2.out;omega)).trans (f4.below (B:=h) (fun j (e:j=h)=>by omega) (by have:=f3.size;have:=HSZ2.out;omega)))
  have p1:OwnS W4 (h+2) u1 (hdY1 g l (n,0)):=by rw[HSZ2.out]at o1;exact o1.fr f4 (fun j (e:j=h)=>by omega)
  have p2:OwnS W4 (h+2) u2 (hdY2 g l (n,0)):=by rw[HSZ2.out]at o2;exact o2.fr f4 (fun j (e:j=h)=>by omega)
  have k2:W4.cell? ⟨h+1,2,none⟩=some (.int .i64 se):=r4.e
  have HT3:=Lib.hid ht3;have HW4:=Lib.hid hW4;have HX4:=Lib.hid x4;have HR4:=Lib.hid r4;have HB4:=Lib.hid hb4;have HP1:=Lib.hid p1;have HP2:=Lib.hid p2;have HSS:=Lib.hid hss;have HXE:=Lib.hid hX
  clear r3 o1 o2 f3 hss hX ht3 hW4 x4 r4 f4 hb4 p1 p2
  by_cases he:se=0
  ·have hb0:(begR g l n).2.2=0:=by
    rcases Int.decEq (begR g l n).2.2 0 with h1|h1
    ·exfalso
     have:=HIS.out.2 h1
     rw[←HSS.out]at this
     exact h1 (this.symm.trans he)
    ·exact h1
   have hst:=(HIS.out.1 hb0).1
   rw[←HSS.out]at hst
   injection hst with hsa hse
   obtain⟨of1,of2⟩:=HOF.out (h+2) W4 u1 u2 hb0 HP1.out HP2.out
   have hRb:R=begR g l n:=by rw[HRR2.out,if_neg (fun h=>h hb0)]
   rw[←hRb]at of1 of2 hsa hb0
   rw[←HXE.out]at of1
   have d0:(se==0)=true:=by rw[he];rfl
   have d1:(se !=0)=false:=by simp[bne,d0]
   have HF:=Lib.hid of1;have HI:=Lib.hid of2;have HSA:=Lib.hid hsa;have HE0:=Lib.hid hb0
   subst he
   clear hb0 hse of1 of2 hRb hsa
   go_wp2_with (first
    |(refine wpList_store_rowTo rfl _ _ _ rfl rfl h X rfl rfl 28 Z HT3.out (szBlkT _ HXS.out) (by rw[HZS.out,HXS.out]) HXO.out ?_;rw[←HW4.out])
    |fail)
   have HX5:Hid (BoxC (W4.drew) h X 28):=Lib.hid HX4.out
   have HR5:Hid (Rdr (W4.drew) (h+1) A l c (sa,0)):=Lib.hid HR4.out
   have HR6:Hid (Rdr ((W4.drew).setRow h X) (h+1) A l c (sa,0)):=Lib.hid (BoxC.rowO HR5.out (by omega) X)
   have HX6:Hid (BoxC ((W4.drew).setRow h X) h X 28):=Lib.hid (HX5.out.row X)
   refine wp_region_two 3 (twT [fun v=>v=.agg X,fun v=>v=.pointer (some ⟨h+1,1,none⟩),fun v=>v=.int .i64 (sa:Int),fun v=>v=undef,fun v=>v=.int .i64 (sa:Int),fun v=>v=.int .i64 0]) ((W4.drew).setRow h X) (by kernel_rfl) (by kernel_rfl) ?_ ?_
   case refine_1=>
    refine TwAll.cons (fun aa wv hw ha hS Kk Qq hK=>tw_val (k:=0) (s:=3) (by decide) (tab_free rfl) (.agg X) (by have e:=(show aa.eval (.tmp 4)=.pointer (some ⟨h,0,none⟩)from((ha 4 (by kernel_rfl)).trans rfl));have hx:BoxC wv h X 28:=by {rcases hw with hw|⟨hw,_,_⟩<;>first|(rw[hw];exact HX5.out)|(rw[hw];exact HX6.out)};have hl:=run_loadVar_row (P:=Tryz.prog) wv h 28 28 X (0,0) _ hx Tryz.underlying28 rfl (szBlkT _ HXS.out);unfold execOp;simp only[e,Instr.loadAt,Instr.sureAddr,Sem.run_bind,Sem.run_pure,Result.andThen_ok,hl]) hK rfl) ?_
    refine TwAll.cons (fun aa wv hw ha hS Kk Qq hK=>tw_val (k:=1) (s:=3) (by decide) (tab_free rfl) (.pointer (some ⟨h+1,1,none⟩)) (by have e:=(show aa.eval (.tmp 8)=.pointer (some ⟨h+1,0,none⟩)from((ha 8 (by kernel_rfl)).trans rfl));unfold execOp;simp only[e];go_simp) hK rfl) ?_
    refine TwAll.cons (fun aa wv hw ha hS Kk Qq hK=>tw_val (k:=2) (s:=3) (by decide) (tab_free rfl) (.int .i64 (sa:Int)) (by have e:=(show aa.eval (.tmp 27)=.pointer (some ⟨h+1,1,none⟩)from hS 1 27 (by kernel_rfl) rfl);have hc:wv.cell? ⟨h+1,1,none⟩=some (.int .i64 (sa:Int)):=by {rcases hw with hw|⟨hw,_,_⟩<;>first|(rw[hw];exact HR5.out.a)|(rw[hw];exact HR6.out.a)};unfold execOp;simp only[e];go_simp) hK rfl) ?_
    refine TwAll.cons (fun aa wv hw ha hS Kk Qq hK=>tw_store (s:=3) (tab_free rfl) rfl (by have e1:=(show aa.eval (.tmp 4)=.pointer (some ⟨h,0,none⟩)from((ha 4 (by kernel_rfl)).trans rfl));have e2:=(show aa.eval (.tmp 26)=.agg X from hS 0 26 (by kernel_rfl) rfl);have hww:wv=W4.drew:=by {rcases hw with hw|⟨_,hw,_⟩<;>first|exact hw|exact absurd rfl hw};subst hww;have hst:=run_storeVar_row (P:=Tryz.prog) (W4.drew) h 28 28 X X HX5.out (szBlkT _ HXS.out) rfl HXO.out;unfold execOp;simp only[e1,e2,Instr.storeAt,Instr.sureAddr,Sem.run_bind,Sem.run_pure,Result.andThen_ok,hst]) hK rfl) ?_
    refine TwAll.cons (fun aa wv hw ha hS Kk Qq hK=>tw_val (k:=4) (s:=3) (by decide) (tab_free rfl) (.int .i64 (sa:Int)) (by have e:=(show aa.eval (.tmp 28)=.int .i64 (sa:Int)from hS 2 28 (by kernel_rfl) rfl);unfold execOp;simp only[e];rfl) hK rfl) ?_
    refine TwAll.cons (fun aa wv hw ha hS Kk Qq hK=>tw_val (k:=5) (s:=3) (by decide) (tab_free rfl) (.int .i64 0) (by unfold execOp;rfl) hK rfl) ?_
    exact TwAll.nil
   intro vals hv
   have e3:vals 5=.int .i64 (sa:Int):=hv 4 5 rfl
   have e4:vals 6=.int .i64 0:=hv 5 6 rfl
   clear hv
   simp only[List.map_cons,List.map_nil,putL,Act.put,List.setIfInBounds_toArray,List.set_cons_zero,List.set_cons_succ,e3,e4]
   clear e3 e4
   go_wp2
   refine bodyPost_ret (v:=.tuple #[.agg X,.int .i64 (sa:Int),.int .i64 0]) ((cell_blkT2 rfl _ _ h X HXS.out rfl HX6.out).trans rfl) rfl ⟨⟨.agg X,by rw[←HSA.out,HE0.out],?_,fun _=>HI.out⟩,?_⟩
   ·obtain⟨v1,v2,e1,q1,q2⟩:=HF.out
    refine⟨v1,v2,e1,?_,?_⟩
    ·rw[←HH.out];exact ownsRow_lower (own_blk q1 fun j hj=>(setRow_other _ _ _ _ (by have:=(own_blk_lt q1 j hj).1;omega)).trans rfl) (by omega)
    ·rw[←HH.out];exact ownsRow_lower (own_blk q2 fun j hj=>(setRow_other _ _ _ _ (by have:=(own_blk_lt q2 j hj).1;omega)).trans rfl) (by omega)
   ·rw[←HH.out];exact below_rowC (Below.drew HB4.out) (Nat.le_refl _) _
  ·have hb0:(begR g l n).2.2=se:=by
    rcases Int.decEq (begR g l n).2.2 0 with h1|h1
    ·have:=HIS.out.2 h1
     rw[←HSS.out]at this
     exact this.symm
    ·exfalso
     have:=(HIS.out.1 h1).1
     rw[←HSS.out]at this
     injection this with _ h2
     exact he h2
   have hRb:R=(blk0,0,se):=by rw[HRR2.out,hb0,if_pos he]
   have d0:(se==0)=false:=beq_eq_false_iff_ne.2 he
   have d1:(se !=0)=true:=by simp[bne,d0]
   have HRB:=Lib.hid hRb;have HE:=Lib.hid he
   clear hb0 hRb he
   go_wp2_with (first
    |(refine wpList_store_rowTo rfl _ _ _ rfl rfl h X rfl rfl 28 Z HT3.out (szBlkT _ HXS.out) (by rw[HZS.out,HXS.out]) HXO.out ?_;rw[←HW4.out])
    |fail)
   have HX5:Hid (BoxC (W4.drew) h X 28):=Lib.hid HX4.out
   have HR5:Hid (Rdr (W4.drew) (h+1) A l c (sa,se)):=Lib.hid HR4.out
   have HR6:Hid (Rdr ((W4.drew).setRow h Z) (h+1) A l c (sa,se)):=Lib.hid (BoxC.rowO HR5.out (by omega) Z)
   have HX6:Hid (BoxC ((W4.drew).setRow h Z) h Z 28):=Lib.hid (HX5.out.row Z)
   refine wp_region_two 3 (twT [fun v=>v=.agg Z,fun v=>v=.pointer (some ⟨h+1,2,none⟩),fun v=>v=.int .i64 se,fun v=>v=undef,fun v=>v=.int .i64 0,fun v=>v=.int .i64 se]) ((W4.drew).setRow h Z) (by kernel_rfl) (by kernel_rfl) ?_ ?_
   case refine_1=>
    refine TwAll.cons (fun aa wv hw ha hS Kk Qq hK=>tw_val (k:=0) (s:=3) (by decide) (tab_free rfl) (.agg Z) (by have hbz:=run_build (P:=Tryz.prog) wv 28 (#[]:Array (Nat×Value)) Z HZB.out;unfold execOp;simp only[List.map_toArray,List.map_nil,Sem.run_bind,hbz,Result.andThen_ok];rfl) hK rfl) ?_
    refine TwAll.cons (fun aa wv hw ha hS Kk Qq hK=>tw_val (k:=1) (s:=3) (by decide) (tab_free rfl) (.pointer (some ⟨h+1,2,none⟩)) (by have e:=(show aa.eval (.tmp 8)=.pointer (some ⟨h+1,0,none⟩)from((ha 8 (by kernel_rfl)).trans rfl));unfold execOp;simp only[e];go_simp) hK rfl) ?_
    refine TwAll.cons (fun aa wv hw ha hS Kk Qq hK=>tw_val (k:=2) (s:=3) (by decide) (tab_free rfl) (.int .i64 se) (by have e:=(show aa.eval (.tmp 24)=.pointer (some ⟨h+1,2,none⟩)from hS 1 24 (by kernel_rfl) rfl);have hc:wv.cell? ⟨h+1,2,none⟩=some (.int .i64 se):=by {rcases hw with hw|⟨hw,_,_⟩<;>first|(rw[hw];exact HR5.out.e)|(rw[hw];exact HR6.out.e)};unfold execOp;simp only[e];go_simp) hK rfl) ?_
    refine TwAll.cons (fun aa wv hw ha hS Kk Qq hK=>tw_store (s:=3) (tab_free rfl) rfl (by have e1:=(show aa.eval (.tmp 4)=.pointer (some ⟨h,0,none⟩)from((ha 4 (by kernel_rfl)).trans rfl));have e2:=(show aa.eval (.tmp 23)=.agg Z from hS 0 23 (by kernel_rfl) rfl);have hww:wv=W4.drew:=by {rcases hw with hw|⟨_,hw,_⟩<;>first|exact hw|exact absurd rfl hw};subst hww;have hst:=run_storeVar_row (P:=Tryz.prog) (W4.drew) h 28 28 X Z HX5.out (szBlkT _ HZS.out) (by rw[HXS.out,HZS.out]) HZO.out;unfold execOp;simp only[e1,e2,Instr.storeAt,Instr.sureAddr,Sem.run_bind,Sem.run_pure,Result.andThen_ok,hst]) hK rfl) ?_
    refine TwAll.cons (fun aa wv hw ha hS Kk Qq hK=>tw_val (k:=4) (s:=3) (by decide) (tab_free rfl) (.int .i64 0) (by unfold execOp;rfl) hK rfl) ?_
    refine TwAll.cons (fun aa wv hw ha hS Kk Qq hK=>tw_val (k:=5) (s:=3) (by decide) (tab_free rfl) (.int .i64 se) (by have e:=(show aa.eval (.tmp 25)=.int .i64 se from hS 2 25 (by kernel_rfl) rfl);unfold execOp;simp only[e];rfl) hK rfl) ?_
    exact TwAll.nil
   intro vals hv
   have e3:vals 5=.int .i64 0:=hv 4 5 rfl
   have e4:vals 6=.int .i64 se:=hv 5 6 rfl
   clear hv
   simp only[List.map_cons,List.map_nil,putL,Act.put,List.setIfInBounds_toArray,List.set_cons_zero,List.set_cons_succ,e3,e4]
   clear e3 e4
   go_wp2
   refine bodyPost_ret (v:=.tuple #[.agg Z,.int .i64 0,.int .i64 se]) ((cell_blkT2 rfl _ _ h Z HZS.out rfl HX6.out).trans rfl) rfl ⟨by rw[HZE.out];exact headD_none HRB.out HE.out,by rw[←HH.out];exact below_rowC (Below.drew HB4.out) (Nat.le_refl _) _⟩
 have d0:(q==0)=false:=beq_eq_false_iff_ne.2 q0
 have d1:(q !=0)=true:=by simp[bne,d0]
 have HR2:Hid (R=(blk0,0,q)):=Lib.hid (by rw[HRR.out,if_pos q0])
 go_enter Tryz.func59,Tryz.ntmps59
 go_wp2_with (first|(rw[←HW1.out,←HH.out])|fail)
 refine HAS.out.mono ?_
 rintro e w9 ⟨rfl,rfl⟩
 go_wp2_with (first
  |(refine wpList_buildTo rfl 28 #[] rfl (some 14) rfl Z ?_ ?_;focus(simpa[Act.eval]using HZB.out))
  |(refine wpList_store_rowTo rfl _ _ _ rfl rfl h Z rfl rfl 28 Z HT1.out (szBlkT _ HZS.out) rfl HZO.out ?_)
  |fail)
 refine bodyPost_ret ((cell_blkT2 rfl _ _ h _ HZS.out rfl (setRow_heap _ _ _ _ _ _ HT1.out)).trans rfl) rfl ⟨by rw[HZE.out];exact headD_none HR2.out q0,by rw[←HH.out];exact below_rowU13 HB1.out (Nat.le_refl _) _⟩
end Go.Proofs.YtcmpmighjglnpaaGreat
namespace Go.Proofs.YtcmpmighjglnpaaGreat
open Go.RowKit
theorem seq_any(w:World)(u v:Value)(s t:List Int)(hu:RdS w w.heap.size u s)(hv:RdS w w.heap.size v t)(hs:s.length≤1000000000)(ht:t.length≤1000000000):
  Calls Tryz.prog 76 #[u,v] w fun e w'=>e=.returned (.bool (decide (s=t)))∧Below w.heap.size w w':=by
 obtain⟨A,ca,rfl,hra,_⟩:=hu
 obtain⟨B,cb,rfl,hrb,_⟩:=hv
 have HRA:=Lib.hid hra;have HRB:=Lib.hid hrb
 clear hra hrb
 obtain⟨n1,hn1⟩:∃n,n=s.length:=⟨_,rfl⟩
 obtain⟨n2,hn2⟩:∃n,n=t.length:=⟨_,rfl⟩
 rw[←hn1]at hs⊢
 rw[←hn2]at ht⊢
 obtain⟨R,hR⟩:∃R,R=decide (s=t):=⟨_,rfl⟩
 rw[←hR]
 have HN1:=Lib.hid hn1;have HN2:=Lib.hid hn2;have HR:=Lib.hid hR
 clear hn1 hn2 hR
 by_cases hl:n1=n2
 ·subst hl
  have hnn:((n1:Int) !=(n1:Int))=false:=by simp
  have hnn2:(n1 !=n1)=false:=by simp
  go_enter Tryz.func76,Tryz.ntmps76
  go_wp2
  go_loopw [13] (fun i wr=>∃k:Nat,k≤n1∧i=.int .i64 k∧Below w.heap.size w wr∧∀j,j<k→s.getD j 0=t.getD j 0) (fun i _=>n1-(intOf i).toNat)
  case atStart=>exact⟨0,Nat.zero_le _,rfl,Below.refl _ _,fun j hj=>absurd hj (by omega)⟩
  case round=>
   obtain⟨k,hk,rfl,hb,hall⟩:=hrel
   by_cases hlt:k<n1
   ·obtain⟨b1,o1,rfl,_,hc1⟩:=(HRA.out.below hb (Nat.le_refl _)).at (k:=k) (by rw[←HN1.out];exact hlt)
    obtain⟨b2,o2,rfl,_,hc2⟩:=(HRB.out.below hb (Nat.le_refl _)).at (k:=k) (by rw[←HN2.out];exact hlt)
    have e1:=hc1 k (by rw[←HN1.out];exact hlt)
    have e2:=hc2 k (by rw[←HN2.out];exact hlt)
    obtain⟨x,hx⟩:∃x,x=s.getD k 0:=⟨_,rfl⟩
    obtain⟨y,hy⟩:∃y,y=t.getD k 0:=⟨_,rfl⟩
    rw[←hx]at e1
    rw[←hy]at e2
    have HX:=Lib.hid hx;have HY:=Lib.hid hy;have HBW:=Lib.hid hb;have HALL:=Lib.hid hall
    clear hx hy hb hall hc1 hc2
    by_cases hxy:x=y
    ·subst hxy
     have hxx:(x !=x)=false:=by simp
     go_wp2
     go_quiet (fail)
     go_wp2
     go_roundw
     case rel=>
      refine⟨k+1,by omega,by go_num,below_drawN HBW.out _,fun j hj=>?_⟩
      rcases Nat.eq_or_lt_of_le (Nat.le_of_lt_succ hj)with e|e
      ·subst e;rw[←HX.out,←HY.out]
      ·exact HALL.out j e
     case measure=>simp[intOf];omega
    ·have hxx:(x !=y)=true:=by simpa using hxy
     obtain rfl:R=false:=HR.out.trans (decide_eq_false fun h=>hxy (by rw[HX.out,HY.out,h]))
     clear HR hxy
     go_wp2
     go_quiet (fail)
     go_wp2
     go_ret
     exact⟨rfl,below_drawN HBW.out _⟩
   ·obtain rfl:k=n1:=by omega
    obtain rfl:R=true:=HR.out.trans (decide_eq_true (by
     apply List.ext_getElem (by rw[←HN1.out,←HN2.out])
     intro j h1 h2
     have:=hall j (by rw[HN1.out];exact h1)
     rw[List.getD_eq_getElem?_getD,List.getD_eq_getElem?_getD,List.getElem?_eq_getElem h1,List.getElem?_eq_getElem h2]at this
     exact this))
    have HBW:=Lib.hid hb
    clear HR hb hall hlt hk
    go_wp2
    go_ret
    exact⟨rfl,HBW.out⟩
 ·have hnn:((n1:Int) !=(n2:Int))=true:=by simp;omega
  have hnn2:(n1 !=n2)=true:=by simpa using hl
  obtain rfl:R=false:=HR.out.trans (decide_eq_false fun h=>hl (by rw[HN1.out,HN2.out,h]))
  clear HR hl
  go_enter Tryz.func76,Tryz.ntmps76
  go_wp2
  go_ret
  exact⟨rfl,Below.refl _ _⟩
theorem run_eql_cnt(w:World)(c d:Nat→Int):(binOp .eql 23 (.agg (cntV c).toArray) (.agg (cntV d).toArray)).run Tryz.prog w=.ok (.bool (sameC c d)) w:=by
 obtain⟨i,hi⟩:=Option.isSome_iff_exists.1 (show(Tryz.prog.info? 3).isSome=true by kernel_rfl)
 have hce:Tryz.prog.cellsOf 3=1:=by kernel_rfl
 have h:=run_equalIn_array (P:=Tryz.prog) w 9999 (cntV c).toArray (cntV d).toArray Tryz.underlying23 hi
 rw[hce,run_eqItems_nums w 9998 Tryz.underlying3 (cntV c).toArray (cntV d).toArray c d (List.range 16) (fun i hi=>by
  have:=List.mem_range.1 hi
  simp[cntV_get,this])]at h
 have e:(binOp .eql 23 (.agg (cntV c).toArray) (.agg (cntV d).toArray)).run Tryz.prog w=((Op.equal 23 (.agg (cntV c).toArray) (.agg (cntV d).toArray)).run Tryz.prog w).andThen fun b w'=>.ok (.bool b) w':=by
  unfold binOp
  simp
 rw[e]
 unfold Op.equal Op.maxDepth
 rw[h]
 have:(∀i∈List.range 16,c i=d i)↔sameC c d=true:=by
  rw[sameC_iff];exact⟨fun h m hm=>h m (List.mem_range.2 hm),fun h m hm=>h m (List.mem_range.1 hm)⟩
 simp only[Result.andThen_ok,this]
 cases sameC c d<;>rfl
theorem wpList_eql_at{P:Program}{ops:Array Oper}{rest:List Oper}{o:Oper}{a:Act}{w:World}{Q:Exit→Act→World→Prop}(hw:Region.wanted o (yielded ops a.tmps)=true)(ty:TypeId)(x y:Operand)(ho:o.op=.binOp .eql ty x y ty)
  (u v:Value) (b:Bool) (hx:a.eval x=u) (hy:a.eval y=v) (hg:(eqGuard .eql ty x y u v).run P w=.ok () w) (hrun:(binOp .eql ty u v).run P w=.ok (.bool b) w)
  (h:wpList P ops Q rest (a.put o.dst (.bool b)) w):wpList P ops Q (o::rest) a w:=
 wpList_on hw fun K hK=>by
  unfold Oper.wp execOp
  simp only[ho,hx,hy]
  simp[hrun,hg,Sem.run_bind]
  exact hK _ _ h
theorem tsame_any(w:World)(c d:Nat→Int)(u v:Value)(s t:List Int)(hu:RdS w w.heap.size u s)(hv:RdS w w.heap.size v t)(hs:s.length≤1000000)(ht:t.length≤1000000):
  Calls Tryz.prog 52 #[.agg (trA c u),.agg (trA d v)] w fun e w'=>e=.returned (.bool (sameT c d s t))∧Below w.heap.size w w':=by
 have hg:∀(W:World) (x y:Operand) (u v:Array Value),(eqGuard .eql 23 x y (.agg u) (.agg v)).run Tryz.prog W=.ok () W:=fun W x y u v=>by
  have h:Tryz.prog.eqGuardType Tryz.prog.depth 23=false:=by kernel_rfl
  unfold eqGuard
  simp[Sem.run_bind,h]
 have HG:=Lib.hid hg
 have hb:=((Below.refl w.heap.size w).alloc (Nat.le_refl _) (.cells (trA c u) 26)).alloc (by simp) (.cells (trA d v) 26)
 have ht1:TreA ((w.alloc (.cells (trA c u) 26)).alloc (.cells (trA d v) 26)) w.heap.size c u:=heap_alloc2_old w _ _
 have ht2:TreA ((w.alloc (.cells (trA c u) 26)).alloc (.cells (trA d v) 26)) (w.heap.size+1) d v:=heap_alloc2_new w _ _
 have hq:=seq_any _ u v s t ((hu.below hb (Nat.le_refl _)).more hb.size) ((hv.below hb (Nat.le_refl _)).more hb.size) (by omega) (by omega)
 have k1:=ht1.syms
 have k2:=ht2.syms
 have HT1:=Lib.hid ht1;have HT2:=Lib.hid ht2;have HB:=Lib.hid hb;have HQ:=Lib.hid hq
 clear hg hb ht1 ht2 hq
 cases hc:sameC c d
 ·have hr:sameT c d s t=false:=by unfold sameT;rw[hc];rfl
  rw[hr]
  have hne:=Lib.hid (show∀W:World,(binOp .eql 23 (.agg (cntV c).toArray) (.agg (cntV d).toArray)).run Tryz.prog W=.ok (.bool false) W from fun W=>by rw[run_eql_cnt,hc])
  clear hc hr
  go_enter Tryz.func52,Tryz.ntmps52
  go_wp2_with (first
   |(refine wpList_load_mid rfl _ _ rfl w.heap.size 0 rfl (cntV c) _ HT1.out.range Tryz.underlying23 rfl (by rw[cntV_length];exact szCnt) ?_)
   |(refine wpList_load_mid rfl _ _ rfl (w.heap.size+1) 0 rfl (cntV d) _ HT2.out.range Tryz.underlying23 rfl (by rw[cntV_length];exact szCnt) ?_)
   |(refine wpList_eql_at (by rfl) _ _ _ rfl _ _ _ rfl rfl (HG.out _ _ _ _ _) (hne.out _) ?_))
  go_ret
  exact⟨rfl,HB.out⟩
 ·have hr:sameT c d s t=decide (s=t):=by unfold sameT;rw[hc];rfl
  rw[hr]
  have hne:=Lib.hid (show∀W:World,(binOp .eql 23 (.agg (cntV c).toArray) (.agg (cntV d).toArray)).run Tryz.prog W=.ok (.bool true) W from fun W=>by rw[run_eql_cnt,hc])
  clear hc hr
  go_enter Tryz.func52,Tryz.ntmps52
  go_wp2_with (first
   |(refine wpList_load_mid rfl _ _ rfl w.heap.size 0 rfl (cntV c) _ HT1.out.range Tryz.underlying23 rfl (by rw[cntV_length];exact szCnt) ?_)
   |(refine wpList_load_mid rfl _ _ rfl (w.heap.size+1) 0 rfl (cntV d) _ HT2.out.range Tryz.underlying23 rfl (by rw[cntV_length];exact szCnt) ?_)
   |(refine wpList_eql_at (by rfl) _ _ _ rfl _ _ _ rfl rfl (HG.out _ _ _ _ _) (hne.out _) ?_)
   |(go_at_call 76;refine HQ.out.mono ?_;rintro e w' ⟨rfl,hb'⟩))
  go_ret
  exact⟨rfl,HB.out.trans (hb'.mono HB.out.size)⟩
end Go.Proofs.YtcmpmighjglnpaaGreat
namespace Go.Proofs.YtcmpmighjglnpaaGreat
open Go.RowKit
def blkI(kd:Nat)(last:Bool)(left:Int)(c1 c2:Nat→Int)(v1 v2:Value):Array Value:=(.int .u8 (kd:Int)::.bool last::.int .i64 left::(trL c1 v1++trL c2 v2)).toArray
theorem blkI_size(k:Nat)(b:Bool)(l:Int)(c1 c2:Nat→Int)(v1 v2:Value):(blkI k b l c1 c2 v1 v2).size=37:=by simp[blkI,trL,cntV]
theorem blkT_I(k:Nat)(b:Bool)(l:Nat)(c1 c2:Nat→Int)(v1 v2:Value):blkT k b l c1 c2 v1 v2=blkI k b (l:Int) c1 c2 v1 v2:=rfl
def emptyT(c:Nat→Int)(s:List Int):Bool:=sameT c (fun _=>0) s []
def MayI(kd:Nat)(left:Int)(c1:Nat→Int)(s1:List Int)(c2:Nat→Int)(s2:List Int):Prop:=
 (kd=0∧0≤left∧left≤65535∧emptyT c1 s1=true∧emptyT c2 s2=true)∨((kd=1∨kd=2)∧left=0∧(∃f,IsTree c1 s1 f)∧∃f,IsTree c2 s2 f)
theorem szTreeA(c:Nat→Int)(v:Value):(Tryz.prog.info? 26).map (·.size)=some (trL c v).length:=by
 rw[show(trL c v).length=17 by simp[trL,cntV]];kernel_rfl
theorem blkI_range{w:World}{b:Nat}{kd:Nat}{last:Bool}{left:Int}{c1 c2:Nat→Int}{v1 v2:Value}(h:BoxC w b (blkI kd last left c1 c2 v1 v2) 28):w.rangeAt b 3 (trL c1 v1)∧w.rangeAt b 20 (trL c2 v2):=by
 have hl:∀(c:Nat→Int) (v:Value),(trL c v).length=17:=fun c v=>by simp[trL,cntV]
 constructor
 ·intro j u hu
  have hj:j<17:=by rw[←hl c1 v1];exact(List.getElem?_eq_some_iff.1 hu).1
  rw[cell_of_row w b _ _ _ (0,0) h]
  show(blkI kd last left c1 c2 v1 v2)[3+j]?=some u
  unfold blkI
  rw[List.getElem?_toArray,Nat.add_comm 3 j]
  show((trL c1 v1++trL c2 v2):List Value)[j]?=some u
  rw[List.getElem?_append_left (by rw[hl];exact hj)];exact hu
 ·intro j u hu
  have hj:j<17:=by rw[←hl c2 v2];exact(List.getElem?_eq_some_iff.1 hu).1
  rw[cell_of_row w b _ _ _ (0,0) h]
  show(blkI kd last left c1 c2 v1 v2)[20+j]?=some u
  unfold blkI
  rw[List.getElem?_toArray,show 20+j=(j+17)+3 by omega]
  show((trL c1 v1++trL c2 v2):List Value)[j+17]?=some u
  rw[List.getElem?_append_right (by rw[hl];omega),hl,Nat.add_sub_cancel];exact hu
theorem built_treeZ:Tryz.prog.built 26 []=some (trL (fun _=>0) (.slice none 0 0)).toArray:=by kernel_rfl
theorem pempty_any(w:World)(c:Nat→Int)(v:Value)(s:List Int)(hv:RdS w w.heap.size v s)(hs:s.length≤1000000):
  Calls Tryz.prog 95 #[.agg (trL c v).toArray] w fun e w'=>e=.returned (.bool (emptyT c s))∧Below w.heap.size w w':=by
 obtain⟨b,hb⟩:∃b,b=w.heap.size:=⟨_,rfl⟩
 obtain⟨X,hX⟩:∃X,X=(trL c v).toArray:=⟨_,rfl⟩
 rw[←hX]
 have hXS:X.size=17:=by rw[hX];exact trA_size c v
 obtain⟨W1,hW1⟩:∃W1,W1=w.alloc (.cells X 26):=⟨_,rfl⟩
 have hb1:Below b w W1:=by rw[hW1,hb];exact(Below.refl _ _).alloc (Nat.le_refl _) _
 have x1:BoxC W1 b X 26:=by rw[hW1,hb];exact BoxC.new w _ _
 have hS:=tsame_any W1 c (fun _=>0) v (.slice none 0 0) s [] ((hv.below (hb▸hb1) (Nat.le_refl _)).more (hb▸hb1.size)) ⟨none,0,rfl,⟨rfl,fun h=>absurd h (by decide)⟩,fun _=>rfl,Nat.le_refl _,Nat.zero_le _⟩ hs (by decide)
 rw[show trA c v=X from hX.symm]at hS
 obtain⟨Z,hZ⟩:∃Z,Z=trA (fun _=>0) (.slice none 0 0):=⟨_,rfl⟩
 rw[←hZ]at hS
 have HZB:Hid (Tryz.prog.built 26 []=some Z):=Lib.hid (by rw[hZ];exact built_treeZ)
 have HS:=Lib.hid hS;have HX1:=Lib.hid x1;have HXS:=Lib.hid hXS;have HB1:Hid (Below w.heap.size w W1):=Lib.hid (hb▸hb1);have HW1:=Lib.hid hW1;have HB:=Lib.hid hb
 unfold emptyT
 obtain⟨r,hr⟩:∃r,r=sameT c (fun _=>0) s []:=⟨_,rfl⟩
 rw[←hr]at HS⊢
 clear hS x1 hXS hb1 hW1 hb hZ hX hv hs hr
 go_enter Tryz.func95,Tryz.ntmps95
 go_wp2_with (first
  |(rw[←HW1.out,←HB.out])
  |(refine wpList_buildTo rfl 26 #[] rfl (some 4) rfl Z ?_ ?_;focus(simpa[Act.eval]using HZB.out))
  |(refine wpList_load_row rfl _ _ rfl b rfl _ X (0,0) _ HX1.out Tryz.underlying26 rfl (szTree17 HXS.out) ?_)
  |fail)
 refine HS.out.mono ?_
 rintro e w2 ⟨rfl,hb2⟩
 have HB2:=Lib.hid (HB1.out.trans (hb2.mono HB1.out.size))
 clear hb2
 go_wp2
 go_ret
 exact⟨rfl,HB2.out⟩
theorem wpList_load_mid_on{P:Program}{ops:Array Oper}{rest:List Oper}{op:Oper}{a:Act}{w:World}{Q:Exit→Act→World→Prop}(hw:Region.wanted op (yielded ops a.tmps)=true)(ty:TypeId)(x:Operand)(ho:op.op=.load ty x)
  (b o:Nat) (hx:a.eval x=.pointer (some ⟨b,o,none⟩)) (cs:List Value) (d:TypeDesc) (hc:w.rangeAt b o cs)
  (hu:P.underlying ty=some d) (hd:d.isRow=true) (hi:(P.info? ty).map (·.size)=some cs.length)
  (h:wpList P ops Q rest (a.put op.dst (.agg cs.toArray)) w):wpList P ops Q (op::rest) a w:=
 wpList_on hw fun _ hK=>wp_load_mid ty x ho b o hx cs d hc hu hd hi (hK _ _ h)
theorem emptyF{c:Nat→Int}{s:List Int}(h:¬emptyT c s=true):emptyT c s=false:=by simpa using h
theorem pmay_any(w:World)(kd:Nat)(last:Bool)(left:Int)(c1 c2:Nat→Int)(v1 v2:Value)(s1 s2:List Int)(h1:RdS w w.heap.size v1 s1)(h2:RdS w w.heap.size v2 s2)(n1:s1.length≤1000000)(n2:s2.length≤1000000)(r:Bool)(hr:r=true↔MayI kd left c1 s1 c2 s2):
  Calls Tryz.prog 75 #[.agg (blkI kd last left c1 c2 v1 v2)] w fun e w'=>e=.returned (.bool r)∧Below w.heap.size w w':=by
 obtain⟨b,hb⟩:∃b,b=w.heap.size:=⟨_,rfl⟩
 obtain⟨X,hX⟩:∃X,X=blkI kd last left c1 c2 v1 v2:=⟨_,rfl⟩
 rw[←hX]
 obtain⟨W1,hW1⟩:∃W1,W1=w.alloc (.cells X 28):=⟨_,rfl⟩
 have hb1:Below b w W1:=by rw[hW1,hb];exact(Below.refl _ _).alloc (Nat.le_refl _) _
 have hsz:b<W1.heap.size:=by rw[hW1,World.size_alloc,hb];omega
 have x1:BoxC W1 b X 28:=by rw[hW1,hb];exact BoxC.new w _ _
 have a0:W1.cell? ⟨b,0,none⟩=some (.int .u8 (kd:Int)):=x1.cell.trans (by rw[hX];rfl)
 have a2:W1.cell? ⟨b,2,none⟩=some (.int .i64 left):=x1.cell.trans (by rw[hX];rfl)
 have hRA:∀W,Below W1.heap.size W1 W→W.rangeAt b 3 (trL c1 v1):=fun W hW=>(blkI_range (hX▸x1.below hW hsz)).1
 have hRB:∀W,Below W1.heap.size W1 W→W.rangeAt b 20 (trL c2 v2):=fun W hW=>(blkI_range (hX▸x1.below hW hsz)).2
 have hE1:=pempty_any W1 c1 v1 s1 ((h1.below (hb▸hb1) (Nat.le_refl _)).more (hb▸hb1.size)) n1
 have hE2:=fun W (hW:Below W1.heap.size W1 W)=>pempty_any W c2 v2 s2 ((((h2.below (hb▸hb1) (Nat.le_refl _)).more (hb▸hb1.size)).below hW (Nat.le_refl _)).more hW.size) n2
 have hC1:=tchk_any W1 c1 v1 s1 ((h1.below (hb▸hb1) (Nat.le_refl _)).more (hb▸hb1.size)) n1
 have hC2:=fun W (hW:Below W1.heap.size W1 W)=>tchk_any W c2 v2 s2 ((((h2.below (hb▸hb1) (Nat.le_refl _)).more (hb▸hb1.size)).below hW (Nat.le_refl _)).more hW.size) n2
 have HB1:Hid (Below w.heap.size w W1):=Lib.hid (hb▸hb1)
 have HE1:=Lib.hid hE1;have HE2:=Lib.hid hE2;have HC1:=Lib.hid hC1;have HC2:=Lib.hid hC2;have HW1:=Lib.hid hW1;have HB:=Lib.hid hb;have HRA:=Lib.hid (hRA W1 (Below.refl _ _));have HRB:=Lib.hid hRB
 clear hX hW1 hb1 hsz x1 hRA hRB hE1 hE2 hC1 hC2 hb h1 h2 n1 n2
 by_cases k0:kd=0
 ·have d0:((kd:Int)==0)=true:=by rw[k0];rfl
  by_cases y1:0≤left
  ·have e1:decide (0≤left)=true:=decide_eq_true y1
   by_cases y2:left≤65535
   ·have e2:decide (left≤65535)=true:=decide_eq_true y2
    by_cases y3:emptyT c1 s1=true
    ·rw[y3]at HE1
     obtain⟨q,hq⟩:∃q,q=emptyT c2 s2:=⟨_,rfl⟩
     rw[←hq]at HE2
     have hrq:r=q:=Bool.eq_iff_iff.2 ⟨fun h=>by
      rcases hr.1 h with⟨_,_,_,_,h5⟩|⟨h1,_⟩
      ·rw[hq];exact h5
      ·omega,fun h=>hr.2 (.inl ⟨k0,y1,y2,y3,by rw[←hq];exact h⟩)⟩
     subst hrq
     clear hr k0 y1 y2 y3 hq HC1 HC2
     go_enter Tryz.func75,Tryz.ntmps75
     go_wp2_with (first
      |(rw[←HW1.out,←HB.out])
      |(refine wpList_load_mid_on (by rfl) _ _ rfl b 3 rfl (trL c1 v1) _ HRA.out Tryz.underlying26 rfl (szTreeA _ _) ?_)
      |fail)
     refine HE1.out.mono ?_
     rintro e w2 ⟨rfl,hb2⟩
     have HB2:=Lib.hid (HB1.out.trans (hb2.mono HB1.out.size))
     have HRB2:=Lib.hid (HRB.out w2 hb2)
     have HE22:=HE2.out w2 hb2
     have HE3:=Lib.hid HE22
     clear hb2 HE2 HRB HE22
     go_wp2_with (first
      |(refine wpList_load_mid_on (by rfl) _ _ rfl b 20 rfl (trL c2 v2) _ HRB2.out Tryz.underlying26 rfl (szTreeA _ _) ?_)
      |fail)
     refine HE3.out.mono ?_
     rintro e w3 ⟨rfl,hb3⟩
     have HB3:=Lib.hid (HB2.out.trans (hb3.mono HB2.out.size))
     clear hb3 HE3 HB2
     go_wp2
     go_ret
     exact⟨rfl,HB3.out⟩
    ·have y3':=emptyF y3
     rw[y3']at HE1
     have hrq:r=false:=Bool.eq_false_iff.2 fun h=>by
      rcases hr.1 h with⟨_,_,_,h4,_⟩|⟨h1,_⟩
      ·exact y3 h4
      ·omega
     subst hrq
     clear hr k0 y1 y2 y3 y3' HC1 HC2
     go_enter Tryz.func75,Tryz.ntmps75
     go_wp2_with (first
      |(rw[←HW1.out,←HB.out])
      |(refine wpList_load_mid_on (by rfl) _ _ rfl b 3 rfl (trL c1 v1) _ HRA.out Tryz.underlying26 rfl (szTreeA _ _) ?_)
      |fail)
     refine HE1.out.mono ?_
     rintro e w2 ⟨rfl,hb2⟩
     have HB2:=Lib.hid (HB1.out.trans (hb2.mono HB1.out.size))
     clear hb2
     go_wp2
     go_ret
     exact⟨rfl,HB2.out⟩
   ·have e2:decide (left≤65535)=false:=decide_eq_false y2
    have hrq:r=false:=Bool.eq_false_iff.2 fun h=>by
     rcases hr.1 h with⟨_,_,h4,_⟩|⟨h1,_⟩
     ·exact y2 h4
     ·omega
    subst hrq
    clear hr k0 y1 y2
    go_enter Tryz.func75,Tryz.ntmps75
    go_wp2_with (first|(rw[←HW1.out,←HB.out])|fail)
    go_ret
    exact⟨rfl,HB1.out⟩
  ·have e1:decide (0≤left)=false:=decide_eq_false y1
   have hrq:r=false:=Bool.eq_false_iff.2 fun h=>by
    rcases hr.1 h with⟨_,h4,_⟩|⟨h1,_⟩
    ·exact y1 h4
    ·omega
   subst hrq
   clear hr k0 y1
   go_enter Tryz.func75,Tryz.ntmps75
   go_wp2_with (first|(rw[←HW1.out,←HB.out])|fail)
   go_ret
   exact⟨rfl,HB1.out⟩
 have d0:((kd:Int)==0)=false:=beq_eq_false_iff_ne.2 (by omega)
 by_cases k1:kd=1∨kd=2
 ·have d1:((kd:Int)==1)=true∧kd=1∨((kd:Int)==1)=false∧((kd:Int)==2)=true:=by
   rcases k1 with rfl|rfl
   ·exact .inl ⟨rfl,rfl⟩
   ·exact .inr ⟨rfl,rfl⟩
  by_cases y1:left=0
  ·subst y1
   have e1:((0:Int)==0)=true:=rfl
   by_cases y2:∃f,IsTree c1 s1 f
   ·have c1k:Calls Tryz.prog 96 #[.agg (trL c1 v1).toArray] W1 fun e w'=>e=.returned (.int .i64 0)∧Below W1.heap.size W1 w':=HC1.out.mono fun e w' h=>⟨by
     rcases h.1 with h3|h3
     ·exact h3.2
     ·exact absurd y2.choose_spec (h3.1 _),h.2⟩
    have HC1':=Lib.hid c1k
    obtain⟨q,hq⟩:∃q:Bool,(q=true↔∃f,IsTree c2 s2 f):=by
     rcases Classical.em (∃f,IsTree c2 s2 f)with h|h
     ·exact⟨true,by simp[h]⟩
     ·exact⟨false,by simp[h]⟩
    obtain⟨x,hx⟩:∃x:Int,x=if q=true then 0 else 8:=⟨_,rfl⟩
    have hxq:(x==0)=q:=by rw[hx];cases q<;>rfl
    have c2k:∀W,Below W1.heap.size W1 W→Calls Tryz.prog 96 #[.agg (trL c2 v2).toArray] W fun e w'=>e=.returned (.int .i64 x)∧Below W.heap.size W w':=fun W hW=>(HC2.out W hW).mono fun e w' h=>⟨by
     rcases h.1 with h3|h3
     ·rw[hx,if_pos (hq.2 h3.1)];exact h3.2
     ·rw[hx,if_neg (fun h4=>(h3.1 _) (hq.1 h4).choose_spec)];exact h3.2,h.2⟩
    have HC2':=Lib.hid c2k
    have hrq:r=q:=Bool.eq_iff_iff.2 ⟨fun h=>by
     rcases hr.1 h with⟨h1,_⟩|⟨_,_,_,h5⟩
     ·omega
     ·exact hq.2 h5,fun h=>hr.2 (.inr ⟨k1,rfl,y2,hq.1 h⟩)⟩
    subst hrq
    clear hr k0 k1 y2 hq hx c1k c2k HC1 HC2 HE1 HE2
    rcases d1 with⟨d1,_⟩|⟨d1,d2⟩
    ·go_enter Tryz.func75,Tryz.ntmps75
     go_wp2_with (first
      |(rw[←HW1.out,←HB.out])
      |(refine wpList_load_mid_on (by rfl) _ _ rfl b 3 rfl (trL c1 v1) _ HRA.out Tryz.underlying26 rfl (szTreeA _ _) ?_)
      |fail)
     refine HC1'.out.mono ?_
     rintro e w2 ⟨rfl,hb2⟩
     have HB2:=Lib.hid (HB1.out.trans (hb2.mono HB1.out.size))
     have HRB2:=Lib.hid (HRB.out w2 hb2)
     have HE22:=HC2'.out w2 hb2
     have HE3:=Lib.hid HE22
     clear hb2 HC2' HRB HE22
     go_wp2_with (first
      |(refine wpList_load_mid_on (by rfl) _ _ rfl b 20 rfl (trL c2 v2) _ HRB2.out Tryz.underlying26 rfl (szTreeA _ _) ?_)
      |fail)
     refine HE3.out.mono ?_
     rintro e w3 ⟨rfl,hb3⟩
     have HB3:=Lib.hid (HB2.out.trans (hb3.mono HB2.out.size))
     clear hb3 HE3 HB2
     go_wp2
     go_ret
     exact⟨rfl,HB3.out⟩
    ·go_enter Tryz.func75,Tryz.ntmps75
     go_wp2_with (first
      |(rw[←HW1.out,←HB.out])
      |(refine wpList_load_mid_on (by rfl) _ _ rfl b 3 rfl (trL c1 v1) _ HRA.out Tryz.underlying26 rfl (szTreeA _ _) ?_)
      |fail)
     refine HC1'.out.mono ?_
     rintro e w2 ⟨rfl,hb2⟩
     have HB2:=Lib.hid (HB1.out.trans (hb2.mono HB1.out.size))
     have HRB2:=Lib.hid (HRB.out w2 hb2)
     have HE22:=HC2'.out w2 hb2
     have HE3:=Lib.hid HE22
     clear hb2 HC2' HRB HE22
     go_wp2_with (first
      |(refine wpList_load_mid_on (by rfl) _ _ rfl b 20 rfl (trL c2 v2) _ HRB2.out Tryz.underlying26 rfl (szTreeA _ _) ?_)
      |fail)
     refine HE3.out.mono ?_
     rintro e w3 ⟨rfl,hb3⟩
     have HB3:=Lib.hid (HB2.out.trans (hb3.mono HB2.out.size))
     clear hb3 HE3 HB2
     go_wp2
     go_ret
     exact⟨rfl,HB3.out⟩
   ·have c1k:Calls Tryz.prog 96 #[.agg (trL c1 v1).toArray] W1 fun e w'=>e=.returned (.int .i64 8)∧Below W1.heap.size W1 w':=HC1.out.mono fun e w' h=>⟨by
     rcases h.1 with h3|h3
     ·exact absurd h3.1 y2
     ·exact h3.2,h.2⟩
    have HC1':=Lib.hid c1k
    have hx8:((8:Int)==0)=false:=rfl
    have hrq:r=false:=Bool.eq_false_iff.2 fun h=>by
     rcases hr.1 h with⟨h1,_⟩|⟨_,_,h4,_⟩
     ·omega
     ·exact y2 h4
    subst hrq
    clear hr k0 k1 y2 c1k HC1 HC2 HE1 HE2
    rcases d1 with⟨d1,_⟩|⟨d1,d2⟩
    ·go_enter Tryz.func75,Tryz.ntmps75
     go_wp2_with (first
      |(rw[←HW1.out,←HB.out])
      |(refine wpList_load_mid_on (by rfl) _ _ rfl b 3 rfl (trL c1 v1) _ HRA.out Tryz.underlying26 rfl (szTreeA _ _) ?_)
      |fail)
     refine HC1'.out.mono ?_
     rintro e w2 ⟨rfl,hb2⟩
     have HB2:=Lib.hid (HB1.out.trans (hb2.mono HB1.out.size))
     clear hb2
     go_wp2
     go_ret
     exact⟨rfl,HB2.out⟩
    ·go_enter Tryz.func75,Tryz.ntmps75
     go_wp2_with (first
      |(rw[←HW1.out,←HB.out])
      |(refine wpList_load_mid_on (by rfl) _ _ rfl b 3 rfl (trL c1 v1) _ HRA.out Tryz.underlying26 rfl (szTreeA _ _) ?_)
      |fail)
     refine HC1'.out.mono ?_
     rintro e w2 ⟨rfl,hb2⟩
     have HB2:=Lib.hid (HB1.out.trans (hb2.mono HB1.out.size))
     clear hb2
     go_wp2
     go_ret
     exact⟨rfl,HB2.out⟩
  ·have e1:(left==0)=false:=beq_eq_false_iff_ne.2 y1
   have hrq:r=false:=Bool.eq_false_iff.2 fun h=>by
    rcases hr.1 h with⟨h1,_⟩|⟨_,h4,_⟩
    ·omega
    ·exact y1 h4
   subst hrq
   clear hr k0 k1 y1
   rcases d1 with⟨d1,_⟩|⟨d1,d2⟩
   ·go_enter Tryz.func75,Tryz.ntmps75
    go_wp2_with (first|(rw[←HW1.out,←HB.out])|fail)
    go_ret
    exact⟨rfl,HB1.out⟩
   ·go_enter Tryz.func75,Tryz.ntmps75
    go_wp2_with (first|(rw[←HW1.out,←HB.out])|fail)
    go_ret
    exact⟨rfl,HB1.out⟩
 ·have d1:((kd:Int)==1)=false:=beq_eq_false_iff_ne.2 (by omega)
  have d2:((kd:Int)==2)=false:=beq_eq_false_iff_ne.2 (by omega)
  have hrq:r=false:=Bool.eq_false_iff.2 fun h=>by
   rcases hr.1 h with⟨h1,_⟩|⟨h4,_⟩
   ·omega
   ·exact k1 h4
  subst hrq
  clear hr k0 k1
  go_enter Tryz.func75,Tryz.ntmps75
  go_wp2_with (first|(rw[←HW1.out,←HB.out])|fail)
  go_ret
  exact⟨rfl,HB1.out⟩
def chkI(r:Bool):Int:=if r=true then 0 else 8
theorem pcheck13_any(w:World)(kd:Nat)(last:Bool)(left:Int)(c1 c2:Nat→Int)(v1 v2:Value)(s1 s2:List Int)(h1:RdS w w.heap.size v1 s1)(h2:RdS w w.heap.size v2 s2)(n1:s1.length≤1000000)(n2:s2.length≤1000000)(r:Bool)(hr:r=true↔MayI kd left c1 s1 c2 s2):
  Calls Tryz.prog 51 #[.agg (blkI kd last left c1 c2 v1 v2)] w fun e w'=>e=.returned (.int .i64 (chkI r))∧Below w.heap.size w w':=by
 obtain⟨b,hb⟩:∃b,b=w.heap.size:=⟨_,rfl⟩
 obtain⟨X,hX⟩:∃X,X=blkI kd last left c1 c2 v1 v2:=⟨_,rfl⟩
 have hXS:X.size=37:=by rw[hX];exact blkI_size ..
 obtain⟨W1,hW1⟩:∃W1,W1=w.alloc (.cells X 28):=⟨_,rfl⟩
 have hb1:Below b w W1:=by rw[hW1,hb];exact(Below.refl _ _).alloc (Nat.le_refl _) _
 have x1:BoxC W1 b X 28:=by rw[hW1,hb];exact BoxC.new w _ _
 have hM:=pmay_any W1 kd last left c1 c2 v1 v2 s1 s2 ((h1.below (hb▸hb1) (Nat.le_refl _)).more (hb▸hb1.size)) ((h2.below (hb▸hb1) (Nat.le_refl _)).more (hb▸hb1.size)) n1 n2 r hr
 rw[←hX]at hM⊢
 have HB1:Hid (Below w.heap.size w W1):=Lib.hid (hb▸hb1)
 have HM:=Lib.hid hM;have HX1:=Lib.hid x1;have HXS:=Lib.hid hXS;have HW1:=Lib.hid hW1;have HB:=Lib.hid hb
 clear hM hX hW1 hb1 x1 hb h1 h2 n1 n2 hXS hr
 cases r
 all_goals(
  go_enter Tryz.func51,Tryz.ntmps51
  go_wp2_with (first
   |(rw[←HW1.out,←HB.out])
   |(refine wpList_load_row rfl _ _ rfl b rfl _ X (0,0) _ HX1.out Tryz.underlying28 rfl (szBlkT X HXS.out) ?_)
   |fail)
  refine HM.out.mono ?_
  rintro e w2 ⟨rfl,hb2⟩
  have HB2:=Lib.hid (HB1.out.trans (hb2.mono HB1.out.size))
  clear hb2
  go_wp2
  go_ret
  exact⟨rfl,HB2.out⟩)
end Go.Proofs.YtcmpmighjglnpaaGreat
namespace Go.Proofs.YtcmpmighjglnpaaGreat
open Go.RowKit
structure SwV where
 M:Int
 D:Int
 I:Value
 a:Int
 B:List Value
 op:Bool
 S:Int
 W:Value
 ov:Bool
def swP(x:SwV):List Value:=[.int .i64 x.M,.int .i64 x.D,x.I,.int .i64 x.a]
def swQ(x:SwV):List Value:=[.bool x.op,.int .i64 x.S,x.W,.bool x.ov]
def swL(x:SwV):List Value:=swP x++x.B++swQ x
def swA(x:SwV):Array Value:=(swL x).toArray
def blkL(kd:Nat)(last:Bool)(left:Int)(c1 c2:Nat→Int)(v1 v2:Value):List Value:=.int .u8 (kd:Int)::.bool last::.int .i64 left::(trL c1 v1++trL c2 v2)
def blkNil:List Value:=blkL 0 false 0 (fun _=>0) (fun _=>0) (.slice none 0 0) (.slice none 0 0)
def swZ:SwV:=⟨0,0,.slice none 0 0,0,blkNil,false,0,.slice none 0 0,false⟩
theorem blkL_len(kd:Nat)(last:Bool)(left:Int)(c1 c2:Nat→Int)(v1 v2:Value):(blkL kd last left c1 c2 v1 v2).length=37:=by simp[blkL,trL,cntV]
theorem swA_size{x:SwV}(h:x.B.length=37):(swA x).size=45:=by simp[swA,swL,swP,swQ,h]
theorem infoSwl:(Tryz.prog.info? 32).map (fun i=>(i.zero,i.size))=some (some (.agg (swA swZ)),45):=by kernel_rfl
theorem infoWin14:(Tryz.prog.info? 30).map (fun i=>(i.zero,i.size))=some (some (.agg #[.int .i64 0,.slice none 0 0]),2):=by kernel_rfl
theorem szSwl(cs:Array Value)(h:cs.size=45):(Tryz.prog.info? 32).map (·.size)=some cs.size:=by rw[h];exact(zero_of_info infoSwl).2
theorem built_swZ:Tryz.prog.built 32 []=some (swA swZ):=by kernel_rfl
theorem built_blkZ:Tryz.prog.built 28 []=some blkNil.toArray:=by kernel_rfl
theorem setL_mid:∀(vs mid pre post:List Value),vs.length=mid.length→setL pre.length vs (pre++mid++post).toArray=(pre++vs++post).toArray
 |[],[],_,_,_=>by unfold setL;rfl
 |[],_::_,_,_,h=>by simp at h
 |_::_,[],_,_,h=>by simp at h
 |v::vs,m::mid,pre,post,h=>by
  have h':vs.length=mid.length:=by simpa using h
  have e:((pre++m::mid++post).toArray).setIfInBounds pre.length v=((pre++[v])++mid++post).toArray:=by
   rw[List.setIfInBounds_toArray]
   congr 1
   simp
  unfold setL
  rw[e]
  have ih:=setL_mid vs mid (pre++[v]) post h'
  rw[List.length_append]at ih
  rw[show pre.length+1=pre.length+[v].length from rfl,ih]
  simp
theorem range_mid{w:World}{b:Nat}{pre mid post:List Value}{t:TypeId}(h:BoxC w b (pre++mid++post).toArray t):w.rangeAt b pre.length mid:=by
 intro j u hu
 rw[cell_of_row w b _ _ _ (0,0) h,List.getElem?_toArray]
 have hj:j<mid.length:=(List.getElem?_eq_some_iff.1 hu).1
 rw[List.append_assoc,List.getElem?_append_right (by omega),Nat.add_sub_cancel_left,List.getElem?_append_left hj]
 exact hu
theorem sw_blk{w:World}{b:Nat}{x:SwV}(h:BoxC w b (swA x) 32):w.rangeAt b 4 x.B:=range_mid (pre:=swP x) (post:=swQ x) h
end Go.Proofs.YtcmpmighjglnpaaGreat
namespace Go.Proofs.YtcmpmighjglnpaaGreat
def dropG(g:Nat→Nat)(s j:Nat):Nat:=g (s+j)
theorem bit_drop(g:Nat→Nat)(s i:Nat):bitAt (dropG g s) i=bitAt g (8*s+i):=by
 unfold bitAt dropG
 rw[show(8*s+i)/8=s+i/8 by omega,show(8*s+i)%8=i%8 by omega]
theorem num_drop(g:Nat→Nat)(s a:Nat):∀n,numN (dropG g s) a n=numN g (8*s+a) n
 |0=>rfl
 |n+1=>by
  simp only[numN]
  rw[num_drop g s a n,bit_drop,Nat.add_assoc]
theorem bv_drop(g:Nat→Nat)(s a:Nat):∀n,bvN (dropG g s) a n=bvN g (8*s+a) n
 |0=>rfl
 |n+1=>by
  simp only[bvN]
  rw[bv_drop g s a n,bit_drop,Nat.add_assoc]
def upR{α:Type}(d:Nat)(r:α×Nat×Int):α×Nat×Int:=(r.1,if r.2.2=0 then d+r.2.1 else r.2.1,r.2.2)
theorem upR_ok{α:Type}{d:Nat}{x:α}{p:Nat}:upR d (x,p,(0:Int))=(x,d+p,0):=by unfold upR;rw[if_pos rfl]
theorem upR_err{α:Type}{d:Nat}{x:α}{p:Nat}{e:Int}(h:e≠0):upR d (x,p,e)=(x,p,e):=by unfold upR;rw[if_neg h]
theorem upR_e{α:Type}(d:Nat)(r:α×Nat×Int):(upR d r).2.2=r.2.2:=rfl
theorem upR_1{α:Type}(d:Nat)(r:α×Nat×Int):(upR d r).1=r.1:=rfl
theorem upR_p{α:Type}{d:Nat}{r:α×Nat×Int}(h:r.2.2=0):(upR d r).2.1=d+r.2.1:=if_pos h
section
variable {g:Nat→Nat} {s L:Nat}
theorem read_drop{F:Nat→Nat}{N a:Nat}(hs:s≤L):∀fuel n,readR F N g L (8*s+a) fuel n=upR (8*s) (readR F N (dropG g s) (L-s) a fuel n)
 |0,_=>by unfold readR;rw[upR_err (by decide)]
 |fuel+1,n=>by
  simp only[readR]
  rw[bv_drop]
  cases fndN F N (bvN g (8*s+a) n) n N with
  |some i=>dsimp only;rw[upR_ok,Nat.add_assoc]
  |none=>
   dsimp only
   by_cases h1:morN F N (bvN g (8*s+a) n) n N=false
   ·rw[if_pos h1,if_pos h1,upR_err (by decide)]
   ·rw[if_neg h1,if_neg h1]
    by_cases h2:8*(L-s)≤a+n
    ·rw[if_pos h2,if_pos (by omega),upR_err (by decide)]
    ·rw[if_neg h2,if_neg (by omega)]
     exact read_drop hs fuel (n+1)
theorem sh_drop(a:Nat):∀k,shR (dropG g s) a k=shR g (8*s+a) k
 |0=>rfl
 |k+1=>by
  simp only[shR]
  rw[sh_drop a k,num_drop,Nat.add_assoc]
theorem len_drop{F:Nat→Nat}{n:Nat}(hs:s≤L):∀k a out,lenR F g L n k (8*s+a) out=upR (8*s) (lenR F (dropG g s) (L-s) n k a out)
 |0,a,out=>by unfold lenR;rw[upR_ok]
 |k+1,a,out=>by
  rw[lenR_s,lenR_s]
  by_cases h0:n≤out.length
  ·rw[if_pos h0,if_pos h0,upR_ok]
  ·rw[if_neg h0,if_neg h0,read_drop hs]
   generalize readR F 19 (dropG g s) (L-s) a 17 0=R
   unfold lenG
   rw[upR_e,upR_1]
   by_cases h1:R.2.2≠0
   ·rw[if_pos h1,if_pos h1,upR_err h1]
   ·rw[if_neg h1,if_neg h1,upR_p (by omega),num_drop]
    by_cases h2:8*(L-s)<R.2.1+bitsR (R.1:Int)
    ·rw[if_pos h2,if_pos (by omega),upR_err (by decide)]
    ·rw[if_neg h2,if_neg (by omega)]
     split
     ·rw[upR_err (by decide)]
     ·rw[Nat.add_assoc];exact len_drop hs k _ _
theorem beg_drop{a:Nat}(hs:s≤L):begR g L (8*s+a)=upR (8*s) (begR (dropG g s) (L-s) a):=by
 unfold begR
 by_cases h0:8*(L-s)<a+3
 ·rw[if_pos h0,if_pos (by omega),upR_err (by decide)]
 ·rw[if_neg h0,if_neg (by omega),num_drop,Nat.add_assoc]
  generalize numN g (8*s+a) 3=v
  generalize a+3=a
  unfold begW
  by_cases h1:v/2=3
  ·rw[if_pos h1,if_pos h1,upR_err (by decide)]
  ·rw[if_neg h1,if_neg h1]
   by_cases h2:v/2=2
   ·rw[if_pos h2,if_pos h2]
    unfold dynR
    by_cases h3:8*(L-s)<a+14
    ·rw[if_pos h3,if_pos (by omega),upR_err (by decide)]
    ·rw[if_neg h3,if_neg (by omega),num_drop,Nat.add_assoc]
     generalize numN g (8*s+a) 14=x
     generalize a+14=a
     unfold dynV
     by_cases h4:286<x%32+257∨30<x/32%32+1
     ·rw[if_pos h4,if_pos h4,upR_err (by decide)]
     ·rw[if_neg h4,if_neg h4]
      by_cases h5:8*(L-s)<a+3*(x/1024+4)
      ·rw[if_pos h5,if_pos (by omega),upR_err (by decide)]
      ·rw[if_neg h5,if_neg (by omega),sh_drop,Nat.add_assoc]
       unfold dynS
       split
       ·rw[upR_err (by decide)]
       ·rw[len_drop hs]
        generalize lenR _ (dropG g s) (L-s) _ _ _ _=R
        unfold dynL
        rw[upR_e,upR_1]
        by_cases h6:R.2.2≠0
        ·rw[if_pos h6,if_pos h6,upR_err h6]
        ·rw[if_neg h6,if_neg h6,upR_p (by omega)]
         unfold dynQ
         split
         ·rw[upR_err (by decide)]
         ·rw[upR_ok]
   ·rw[if_neg h2,if_neg h2]
    by_cases h3:v/2=1
    ·rw[if_pos h3,if_pos h3,upR_ok]
    ·rw[if_neg h3,if_neg h3]
     have e:(8*s+a+7)/8*8=8*s+(a+7)/8*8:=by omega
     rw[e]
     generalize (a+7)/8*8=a
     unfold stoR
     by_cases h4:8*(L-s)<a+32
     ·rw[if_pos h4,if_pos (by omega),upR_err (by decide)]
     ·rw[if_neg h4,if_neg (by omega),num_drop]
      unfold stoV
      split
      ·rw[upR_err (by decide)]
      ·rw[upR_ok,Nat.add_assoc]
theorem ext_drop{far:Bool}{y a:Nat}(hs:s≤L):(extR far y g L (8*s+a)).1=(extR far y (dropG g s) (L-s) a).1∧(extR far y g L (8*s+a)).2.2=(extR far y (dropG g s) (L-s) a).2.2∧((extR far y (dropG g s) (L-s) a).2.2=0→(extR far y g L (8*s+a)).2.1=8*s+(extR far y (dropG g s) (L-s) a).2.1):=by
 unfold extR
 by_cases h0:extE far y≠0
 ·rw[if_pos h0,if_pos h0];exact⟨rfl,rfl,fun h=>absurd h h0⟩
 ·rw[if_neg h0,if_neg h0]
  by_cases h1:8*(L-s)<a+extB far y
  ·rw[if_pos h1,if_pos (by omega)];exact⟨rfl,rfl,fun h=>absurd h (by decide)⟩
  ·rw[if_neg h1,if_neg (by omega),num_drop];exact⟨rfl,rfl,fun _=>Nat.add_assoc ..⟩
def upN(d:Nat)(r:Tok×Bool×Nat×Int):Tok×Bool×Nat×Int:=(r.1,r.2.1,if r.2.2.2=0 then d+r.2.2.1 else r.2.2.1,r.2.2.2)
theorem upN_ok{d:Nat}{t:Tok}{b:Bool}{p:Nat}:upN d (t,b,p,(0:Int))=(t,b,d+p,0):=by unfold upN;rw[if_pos rfl]
theorem upN_err{d:Nat}{t:Tok}{b:Bool}{p:Nat}{e:Int}(h:e≠0):upN d (t,b,p,e)=(t,b,p,e):=by unfold upN;rw[if_neg h]
theorem next_drop{k:Blk13}{a:Nat}(hs:s≤L):nextR k g L (8*s+a)=upN (8*s) (nextR k (dropG g s) (L-s) a):=by
 unfold nextR
 by_cases h0:k.kind=0
 ·rw[if_pos h0,if_pos h0]
  unfold nxtS
  by_cases h1:k.left=0
  ·rw[if_pos h1,if_pos h1,upN_ok]
  ·rw[if_neg h1,if_neg h1]
   by_cases h2:8*(L-s)<a+8
   ·rw[if_pos h2,if_pos (by omega),upN_err (by decide)]
   ·rw[if_neg h2,if_neg (by omega),upN_ok,num_drop,Nat.add_assoc]
 ·rw[if_neg h0,if_neg h0,read_drop hs]
  generalize readR k.F k.n (dropG g s) (L-s) a 17 0=r
  unfold nxtA
  rw[upR_e,upR_1]
  by_cases h1:r.2.2≠0
  ·rw[if_pos h1,if_pos h1,upN_err h1]
  ·rw[if_neg h1,if_neg h1,upR_p (by omega)]
   by_cases h2:r.1<256
   ·rw[if_pos h2,if_pos h2,upN_ok]
   ·rw[if_neg h2,if_neg h2]
    by_cases h3:r.1=256
    ·rw[if_pos h3,if_pos h3,upN_ok]
    ·rw[if_neg h3,if_neg h3]
     obtain⟨x1,x2,x3⟩:=ext_drop (g:=g) (far:=false) (y:=r.1) (a:=r.2.1) hs
     generalize extR false r.1 g L (8*s+r.2.1)=x at x1 x2 x3⊢
     generalize extR false r.1 (dropG g s) (L-s) r.2.1=y at x1 x2 x3⊢
     unfold nxtB
     rw[x2]
     by_cases h4:y.2.2≠0
     ·rw[if_pos h4,if_pos h4,upN_err h4]
     ·rw[if_neg h4,if_neg h4,x3 (by omega),read_drop hs,x1]
      generalize readR k.G k.m (dropG g s) (L-s) y.2.1 17 0=q
      unfold nxtC
      rw[upR_e,upR_1]
      by_cases h5:q.2.2≠0
      ·rw[if_pos h5,if_pos h5,upN_err h5]
      ·rw[if_neg h5,if_neg h5,upR_p (by omega)]
       obtain⟨y1,y2,y3⟩:=ext_drop (g:=g) (far:=true) (y:=q.1) (a:=q.2.1) hs
       generalize extR true q.1 g L (8*s+q.2.1)=u at y1 y2 y3⊢
       generalize extR true q.1 (dropG g s) (L-s) q.2.1=v at y1 y2 y3⊢
       unfold nxtD
       rw[y2]
       by_cases h6:v.2.2≠0
       ·rw[if_pos h6,if_pos h6,upN_err h6]
       ·rw[if_neg h6,if_neg h6,upN_ok,y3 (by omega),y1]
end
end Go.Proofs.YtcmpmighjglnpaaGreat
namespace Go.Proofs.YtcmpmighjglnpaaGreat
structure TOk (T:List Tok) (M:Nat):Prop where
 may:∀t∈T,mayT t=true∧t.x<256
 plays:Plays [] T
 len:M=(T.foldl stpT []).length
structure TGo (g:Nat→Nat) (L lim:Nat) (R:List Nat×Nat×Int) (T:List Tok) (M:Nat) (q:Rz) (st:Option Blk13):Prop where
 ok:TOk T M
 room:M≤lim
 err:q.2=0
 place:q.1≤8*L
 told:toldA g L lim st (T.foldl stpT []) q.1=R
structure TBad (lim:Nat) (R:List Nat×Nat×Int) (T:List Tok) (q:Rz):Prop where
 ok:∃M,TOk T M∧M≤lim
 err:q.2≠0
 same:q.2=R.2.2
 out:T.foldl stpT []=R.1
structure TFin (lim:Nat) (R:List Nat×Nat×Int) (T:List Tok) (q:Rz):Prop where
 ok:∃M,TOk T M∧M≤lim
 err:q.2=0
 same:R.2.2=0
 place:q.1=R.2.1
 out:T.foldl stpT []=R.1
theorem foldl_app(T:List Tok)(t:Tok):(T++[t]).foldl stpT []=stpT (T.foldl stpT []) t:=by rw[List.foldl_append];rfl
theorem plays_app:∀(T:List Tok) (out:List Nat) (t:Tok),Plays out T→t.d≤((T.foldl stpT out).length:Int)→Plays out (T++[t])
 |[],_,_,_,h=>⟨h,trivial⟩
 |_::T,_,t,h,hd=>⟨h.1,plays_app T _ t h.2 hd⟩
theorem TOk.app{T:List Tok}{M:Nat}(h:TOk T M){t:Tok}(hm:mayT t=true∧t.x<256)(hd:t.d≤(M:Int)):TOk (T++[t]) (M+lenT t):=by
 refine⟨fun u hu=>?_,plays_app T [] t h.plays (by rw[←h.len];exact hd),by rw[foldl_app,len_stp,←h.len]⟩
 rcases List.mem_append.1 hu with hu|hu
 ·exact h.may u hu
 ·rw[List.mem_singleton.1 hu];exact hm
theorem lenT_pos{t:Tok}(h:mayT t=true):1≤lenT t:=by
 rcases mayT_is h with h|h
 ·unfold lenT;rw[if_pos h.1];omega
 ·unfold lenT;rw[if_neg h.1];omega
theorem fold_cnt:∀(T:List Tok) (out:List Nat),(∀t∈T,mayT t=true∧t.x<256)→out.length+T.length≤(T.foldl stpT out).length
 |[],_,_=>by simp
 |t::T,out,h=>by
  have h1:=lenT_pos (h t (by simp)).1
  have h2:=fold_cnt T (stpT out t) fun u hu=>h u (by simp[hu])
  rw[len_stp]at h2
  simp only[List.foldl_cons,List.length_cons]
  omega
theorem TOk.count{T:List Tok}{M:Nat}(h:TOk T M):T.length≤M:=by
 have:=fold_cnt T [] h.may
 rw[h.len];simpa using this
theorem ply_fold:∀(T:List Tok) (out:List Nat),(∀t∈T,mayT t=true∧t.x<256)→Plays out T→(T.foldl stpT out).length≤131072→plyR 0 T out=(0,T.foldl stpT out)
 |[],_,_,_,_=>rfl
 |t::T,out,h,hp,hl=>by
  have h2:=fold_cnt T (stpT out t) fun u hu=>h u (by simp[hu])
  simp only[List.foldl_cons]at hl⊢
  rw[len_stp]at h2
  unfold plyR
  have hd:t.d≤(out.length:Int):=hp.1
  rw[if_neg (by rw[(h t (by simp)).1];decide),if_neg (by omega),if_neg (by omega)]
  exact ply_fold T _ (fun u hu=>h u (by simp[hu])) hp.2 hl
theorem TOk.play{T:List Tok}{M:Nat}(h:TOk T M)(hM:M≤131072)(f:Nat→Nat):plyO f 0 T=(0,T.foldl stpT []):=by
 unfold plyO
 have:=h.count
 rw[if_neg (by omega)]
 have e:preL f 0=[]:=rfl
 rw[e]
 exact ply_fold T [] h.may h.plays (by rw[←h.len];exact hM)
theorem loV_rng{y x:Nat}(h:ofE false y x=0):3≤ofV false y x∧ofV false y x≤258:=lg_ok (long_here h).1
theorem foV_rng{y x:Nat}(h:ofE true y x=0):1≤ofV true y x∧ofV true y x≤32768:=by
 have:=(far_here h).1
 show 1≤foV _ _∧foV _ _≤32768
 unfold frE at this
 split at this
 ·assumption
 ·exact absurd this (by decide)
theorem ext_rng{far:Bool}{s:Nat}{g:Nat→Nat}{L a:Nat}(h:(extR far s g L a).2.2=0):if far then 1≤(extR far s g L a).1∧(extR far s g L a).1≤32768 else 3≤(extR far s g L a).1∧(extR far s g L a).1≤258:=by
 unfold extR at h⊢
 split at h
 ·rename_i h1;exact absurd h h1
 ·rename_i h1
  rw[if_neg h1]
  split at h
  ·exact absurd h (by decide)
  ·rename_i h2
   rw[if_neg h2]
   cases far
   ·exact loV_rng h
   ·exact foV_rng h
theorem next_may{k:Blk13}{g:Nat→Nat}{L a:Nat}(h:(nextR k g L a).2.2.2=0)(he:(nextR k g L a).2.1=false):mayT (nextR k g L a).1=true∧(nextR k g L a).1.x<256:=by
 have hb:∀x,mayT ⟨x,0,0⟩=true:=fun x=>decide_eq_true (.inl ⟨rfl,rfl⟩)
 unfold nextR at h he⊢
 by_cases h0:k.kind=0
 ·rw[if_pos h0]at h he⊢
  unfold nxtS at h he⊢
  by_cases h1:k.left=0
  ·rw[if_pos h1]at he;exact absurd he (show¬(true=false) by decide)
  ·rw[if_neg h1]at h he⊢
   by_cases h2:8*L<a+8
   ·rw[if_pos h2]at h;exact absurd h (by decide)
   ·rw[if_neg h2];exact⟨hb _,numN_lt g a 8⟩
 ·rw[if_neg h0]at h he⊢
  generalize readR k.F k.n g L a 17 0=r at h he⊢
  unfold nxtA at h he⊢
  by_cases h1:r.2.2≠0
  ·rw[if_pos h1]at h;exact absurd h h1
  ·rw[if_neg h1]at h he⊢
   by_cases h2:r.1<256
   ·rw[if_pos h2];exact⟨hb _,h2⟩
   ·rw[if_neg h2]at h he⊢
    by_cases h3:r.1=256
    ·rw[if_pos h3]at he;exact absurd he (show¬(true=false) by decide)
    ·rw[if_neg h3]at h he⊢
     have hx:=ext_rng (far:=false) (s:=r.1) (g:=g) (L:=L) (a:=r.2.1)
     generalize extR false r.1 g L r.2.1=x at h he hx⊢
     unfold nxtB at h he⊢
     by_cases h4:x.2.2≠0
     ·rw[if_pos h4]at h;exact absurd h h4
     ·rw[if_neg h4]at h he⊢
      generalize readR k.G k.m g L x.2.1 17 0=q at h he⊢
      unfold nxtC at h he⊢
      by_cases h5:q.2.2≠0
      ·rw[if_pos h5]at h;exact absurd h h5
      ·rw[if_neg h5]at h he⊢
       have hy:=ext_rng (far:=true) (s:=q.1) (g:=g) (L:=L) (a:=q.2.1)
       generalize extR true q.1 g L q.2.1=y at h he hy⊢
       unfold nxtD at h he⊢
       by_cases h6:y.2.2≠0
       ·rw[if_pos h6]at h;exact absurd h h6
       ·rw[if_neg h6]
        have k1:=hx (by omega)
        have k2:=hy (by omega)
        simp only[Bool.false_eq_true,if_false]at k1
        simp only[if_true]at k2
        exact⟨decide_eq_true (.inr ⟨by show¬x.1=0;omega,rfl,k1.1,k1.2,k2.1,k2.2⟩),by show 0<256;omega⟩
theorem TGo.head{g:Nat→Nat}{L lim:Nat}{R:List Nat×Nat×Int}{T:List Tok}{M a:Nat}(h:TGo g L lim R T M (a,0) none):
  ((begR g L a).2.2≠0→∀b,TBad lim R T (b,(begR g L a).2.2))∧((begR g L a).2.2=0→TGo g L lim R T M ((begR g L a).2.1,0) (some (begR g L a).1)):=by
 have ht:=h.told
 have ha:a≤8*L:=h.place
 rw[told_head ha]at ht
 constructor
 ·intro h1 b
  rw[if_pos h1]at ht
  exact⟨⟨M,h.ok,h.room⟩,h1,by rw[←ht],by rw[←ht]⟩
 ·intro h1
  rw[if_neg (fun e=>e h1)]at ht
  exact⟨h.ok,h.room,rfl,(beg_fwd h1).2,ht⟩
def bdQ(lim M:Nat)(t:Tok)(q:Rz):Rz:=wantS (wantS q (decide (t.d≤(M:Int))) 60) (decide (M+lenT t≤lim)) 140
def bdT(lim M:Nat)(T:List Tok)(t:Tok)(q:Rz):List Tok:=if(bdQ lim M t q).2=0 then T++[t]else T
theorem bdQ_in(lim M:Nat)(t:Tok)(q:Rz):(bdQ lim M t q).1=q.1:=by unfold bdQ;rw[wantS_in,wantS_in]
theorem TGo.step{g:Nat→Nat}{L lim:Nat}{R:List Nat×Nat×Int}{T:List Tok}{M a:Nat}{k:Blk13}(h:TGo g L lim R T M (a,0) (some k)):
  ((stT k g L (a,0)).2.2.2≠0→TBad lim R T (stT k g L (a,0)).2.2)∧
  ((stT k g L (a,0)).2.2.2=0→(stT k g L (a,0)).2.1=true→if k.last=true then TFin lim R T (stT k g L (a,0)).2.2 else TGo g L lim R T M (stT k g L (a,0)).2.2 none)∧
  ((stT k g L (a,0)).2.2.2=0→(stT k g L (a,0)).2.1=false→mayT (stT k g L (a,0)).1=true∧(stT k g L (a,0)).1.x<256∧a+1≤(stT k g L (a,0)).2.2.1∧(stT k g L (a,0)).2.2.1≤8*L∧
   ((bdQ lim M (stT k g L (a,0)).1 (stT k g L (a,0)).2.2).2≠0→TBad lim R (bdT lim M T (stT k g L (a,0)).1 (stT k g L (a,0)).2.2) (bdQ lim M (stT k g L (a,0)).1 (stT k g L (a,0)).2.2))∧
   ((bdQ lim M (stT k g L (a,0)).1 (stT k g L (a,0)).2.2).2=0→TGo g L lim R (bdT lim M T (stT k g L (a,0)).1 (stT k g L (a,0)).2.2) (M+lenT (stT k g L (a,0)).1) (bdQ lim M (stT k g L (a,0)).1 (stT k g L (a,0)).2.2) (some (lessK k)))):=by
 have ht:=h.told
 have ha:a≤8*L:=h.place
 rw[told_step ha]at ht
 obtain⟨s1,s2⟩:=stT_is (k:=k) (g:=g) (L:=L) (a:=a)
 have hf:=next_fwd (k:=k) (g:=g) ha
 have hm:=next_may (k:=k) (g:=g) (L:=L) (a:=a)
 by_cases h1:(nextR k g L a).2.2.2≠0
 ·rw[if_pos h1]at ht
  have e1:=s2 h1
  refine⟨fun _=>⟨⟨M,h.ok,h.room⟩,by rw[e1];exact h1,by rw[e1,←ht],by rw[←ht]⟩,fun e=>absurd (e1.symm.trans e) h1,fun e=>absurd (e1.symm.trans e) h1⟩
 ·rw[if_neg h1]at ht
  have h0:(nextR k g L a).2.2.2=0:=by omega
  have e1:=s1 h0
  obtain⟨f1,f2,f3⟩:=hf h0
  have hm0:=hm h0
  rw[e1]
  generalize nextR k g L a=N at ht f1 f2 f3 hm0⊢
  obtain⟨t,en,b,e⟩:=N
  dsimp only at ht f1 f2 f3 hm0⊢
  refine⟨fun h=>absurd rfl h,fun _ he=>?_,fun _ he=>?_⟩
  ·rw[if_pos he]at ht
   by_cases hl:k.last=true
   ·rw[if_pos hl]at ht⊢
    exact⟨⟨M,h.ok,h.room⟩,rfl,by rw[←ht],by rw[←ht],by rw[←ht]⟩
   ·rw[if_neg hl]at ht⊢
    exact⟨h.ok,h.room,rfl,f2,ht⟩
  ·subst he
   rw[if_neg (by decide)]at ht
   obtain⟨m1,m2⟩:=hm0 rfl
   refine⟨m1,m2,f3 rfl,f2,?_⟩
   rw[←h.ok.len]at ht
   unfold bdT
   by_cases d1:(M:Int)<t.d
   ·rw[if_pos d1]at ht
    have e2:bdQ lim M t (b,0)=(b,60):=by
     unfold bdQ;rw[decide_eq_false (by omega)]
     have:(wantS (b,0) false 60:Rz)=(b,60):=rfl
     rw[this,wantS_err (s:=(b,60)) (show(60:Int)≠0 by decide)]
    rw[e2,if_neg (show¬(60:Int)=0 by decide)]
    exact⟨fun _=>⟨⟨M,h.ok,h.room⟩,show(60:Int)≠0 by decide,by rw[←ht],by rw[←ht]⟩,fun e=>absurd e (show¬(60:Int)=0 by decide)⟩
   ·rw[if_neg d1]at ht
    by_cases d2:lim<M+lenT t
    ·rw[if_pos d2]at ht
     have e2:bdQ lim M t (b,0)=(b,140):=by
      unfold bdQ;rw[decide_eq_true (show t.d≤(M:Int) by omega),decide_eq_false (by omega)];rfl
     rw[e2,if_neg (show¬(140:Int)=0 by decide)]
     exact⟨fun _=>⟨⟨M,h.ok,h.room⟩,show(140:Int)≠0 by decide,by rw[←ht],by rw[←ht]⟩,fun e=>absurd e (show¬(140:Int)=0 by decide)⟩
    ·rw[if_neg d2]at ht
     have e2:bdQ lim M t (b,0)=(b,0):=by
      unfold bdQ;rw[decide_eq_true (show t.d≤(M:Int) by omega),decide_eq_true (show M+lenT t≤lim by omega)];rfl
     rw[e2,if_pos rfl]
     exact⟨fun e=>absurd rfl e,fun _=>⟨h.ok.app ⟨m1,m2⟩ (by omega),by omega,rfl,f2,by rw[foldl_app];exact ht⟩⟩
end Go.Proofs.YtcmpmighjglnpaaGreat
namespace Go.Proofs.YtcmpmighjglnpaaGreat
theorem lastN_two(S:Nat)(a b:List Nat):lastN S (lastN S a++b)=lastN S (a++b):=by
 unfold lastN
 rw[List.length_append,List.length_append,List.length_drop]
 rcases Nat.le_total S a.length with h|h
 ·rw[List.drop_append,List.drop_append,List.drop_drop,List.length_drop]
  congr 1
  ·congr 1;omega
  ·congr 1;omega
 ·rw[show a.length-S=0 by omega,List.drop_zero]
  congr 1
end Go.Proofs.YtcmpmighjglnpaaGreat
