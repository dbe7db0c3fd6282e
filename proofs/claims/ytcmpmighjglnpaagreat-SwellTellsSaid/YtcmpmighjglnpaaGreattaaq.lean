/-
  Words and walks.
-/
import Derived.StillTailTactics
import Derived.IntWalk
import Derived.Great.BuildSlice
import Derived.BigRegion
import Derived.BigQuiet
import Derived.OneCell
import Derived.Deep.MidRow
import Derived.Test.YtcmpmighjglnpaaGreattaaa
import Derived.Test.YtcmpmighjglnpaaGreattaab
import Derived.Test.YtcmpmighjglnpaaGreattaac
import Derived.Test.YtcmpmighjglnpaaGreattaad
import Derived.Test.YtcmpmighjglnpaaGreattaai
import Derived.Test.YtcmpmighjglnpaaGreattaak
import Derived.Test.YtcmpmighjglnpaaGreattaam
import Derived.Test.YtcmpmighjglnpaaGreattaan
import Derived.Test.YtcmpmighjglnpaaGreattaao
import Derived.Test.YtcmpmighjglnpaaGreattaap
set_option maxRecDepth 100000
set_option maxHeartbeats 16000000
namespace Go.Proofs.YtcmpmighjglnpaaGreat
open Go.RowKit
def hdK(g:Nat→Nat)(L:Nat)(s:Rz):Nat:=tkV g L 2 (tkS L 1 s)
def hdQ(L:Nat)(s:Rz):Rz:=tkS L 2 (tkS L 1 s)
def hdB(g:Nat→Nat)(L:Nat)(s:Rz):Bool:=((tkV g L 1 s:Nat):Int)==1
def hdL(g:Nat→Nat)(L:Nat)(s:Rz):Nat:=if hdK g L s=0 then sizV g L (hdQ L s)else 0
def hdS(g:Nat→Nat)(L:Nat)(s:Rz):Rz:=if hdK g L s=0 then sizS g L (hdQ L s)else if hdK g L s=1 then gwS fixB 32 15 (gwS fixA 288 15 (hdQ L s))else if hdK g L s=2 then dyS9 g L (hdQ L s)else keepS (hdQ L s) 130
def hdC1(g:Nat→Nat)(L:Nat)(s:Rz):Nat→Int:=if hdK g L s=1 then grC fixA 288 15 else if hdK g L s=2 then dyG1 g L (hdQ L s)else fun _=>0
def hdC2(g:Nat→Nat)(L:Nat)(s:Rz):Nat→Int:=if hdK g L s=1 then grC fixB 32 15 else if hdK g L s=2 then dyG2 g L (hdQ L s)else fun _=>0
def hdY1(g:Nat→Nat)(L:Nat)(s:Rz):List Int:=if hdK g L s=1 then grS fixA 288 15 else if hdK g L s=2 then dyY1 g L (hdQ L s)else[]
def hdY2(g:Nat→Nat)(L:Nat)(s:Rz):List Int:=if hdK g L s=1 then grS fixB 32 15 else if hdK g L s=2 then dyY2 g L (hdQ L s)else[]
theorem set_last(k:Nat)(b b':Bool)(l:Nat)(c1 c2:Nat→Int)(v1 v2:Value):(blkT k b l c1 c2 v1 v2).setIfInBounds 1 (.bool b')=blkT k b' l c1 c2 v1 v2:=by kernel_rfl
theorem set_kind(k k':Nat)(b:Bool)(l:Nat)(c1 c2:Nat→Int)(v1 v2:Value):(blkT k b l c1 c2 v1 v2).setIfInBounds 0 (.int .u8 (k':Int))=blkT k' b l c1 c2 v1 v2:=by kernel_rfl
theorem set_left(k:Nat)(b:Bool)(l l':Nat)(c1 c2:Nat→Int)(v1 v2:Value):(blkT k b l c1 c2 v1 v2).setIfInBounds 2 (.int .i64 (l':Int))=blkT k b l' c1 c2 v1 v2:=by kernel_rfl
theorem pfixed_any(w:World)(p:Nat)(A:Option Addr)(l c:Nat)(s:Rz)(h:Rdr w p A l c s):
  Calls Tryz.prog 100 #[.pointer (some ⟨p,0,none⟩)] w fun e w'=>∃u1 u2,e=.returned (.tuple #[.agg (trA (grC fixA 288 15) u1),.agg (trA (grC fixB 32 15) u2)])∧
   Rdr w' p A l c (gwS fixB 32 15 (gwS fixA 288 15 s))∧OwnS w' w.heap.size u1 (grS fixA 288 15)∧OwnS w' w.heap.size u2 (grS fixB 32 15)∧Fr (At p) w w':=
 pfixed_gen w p A l c s h fixA fixB (fun j=>by have:=fixA_le j;omega) (fun j=>by have:=fixB_le j;omega) (fun w=>(fixed_con w).mono fun e w' ⟨A1,c1,A2,c2,h1,h2,h3,_,h5⟩=>⟨A1,c1,A2,c2,h1,h2,h3,h5⟩)
theorem phead_any(w:World)(p:Nat)(A:Option Addr)(l c:Nat)(g:Nat→Nat)(s:Rz)(h:Rdr w p A l c s)(S:Nat→Prop)(hS:S p)(hSw:∀j,S j→j<w.heap.size)(hg:RdF S w A l g)(hl:l≤1000000)(hs:s.1≤8*l)(hlen:(dyR g l (hdQ l s)).2.2=0→(dyO g l (hdQ l s)).length=dyL g l (hdQ l s)+dyF g l (hdQ l s)):
  Calls Tryz.prog 81 #[.pointer (some ⟨p,0,none⟩)] w fun e w'=>∃u1 u2,e=.returned (.agg (blkT (hdK g l s) (hdB g l s) (hdL g l s) (hdC1 g l s) (hdC2 g l s) u1 u2))∧
   Rdr w' p A l c (hdS g l s)∧OwnS w' w.heap.size u1 (hdY1 g l s)∧OwnS w' w.heap.size u2 (hdY2 g l s)∧Fr (At p) w w':=by
 have hp:=h.lt
 obtain⟨k,hk⟩:∃k,k=w.heap.size:=⟨_,rfl⟩
 obtain⟨Z,hZ⟩:∃Z,Z=blkT 0 false 0 (fun _=>0) (fun _=>0) (.slice none 0 0) (.slice none 0 0):=⟨_,rfl⟩
 obtain⟨W1,hW1⟩:∃W1,W1=(w.alloc (.cells Z 28)).alloc (.cells Z 28):=⟨_,rfl⟩
 have hb1:Below k w W1:=by rw[hW1,hk];exact((Below.refl _ _).alloc (Nat.le_refl _) _).alloc (by simp) _
 have hs1:W1.heap.size=k+2:=by rw[hW1,hk];simp
 have z1:BoxC W1 k Z 28:=by rw[hW1,hk];exact(BoxC.new w _ _).old _
 have y1:BoxC W1 (k+1) Z 28:=by rw[hW1,hk];have:=BoxC.new (w.alloc (.cells Z 28)) Z 28;rwa[World.size_alloc]at this
 have HD1:=Lib.hid (BoxC.below h hb1 (by omega):Rdr W1 p A l c s)
 have HF1:=Lib.hid (Fr.of (S:=At p) (hk▸hb1))
 have hzb:∀u:World,(zeroValue 28).run Tryz.prog u=.ok (.agg Z) u:=by rw[hZ];exact(zero_of_info infoBlkT).1
 have HZS:Hid (Z.size=37):=Lib.hid (by rw[hZ];exact blkT_size ..)
 have HZE:=Lib.hid hZ
 have HW1:=Lib.hid hW1;have HK:=Lib.hid hk;have HS1:=Lib.hid hs1;have HZ1:=Lib.hid z1;have HY1:=Lib.hid y1
 have HP:Hid (p<k):=Lib.hid (by omega)
 have HSP:Hid (S p∧∀j,S j→j<k):=Lib.hid ⟨hS,by rw[hk];exact hSw⟩
 have HPS:Hid (∀j,At p j→S j):=Lib.hid fun j (e:j=p)=>e▸hS
 have HNA:Hid (¬At p k∧¬At p (k+1)):=Lib.hid ⟨by show¬k=p;omega,by show¬k+1=p;omega⟩
 have HG1:=Lib.hid (hg.fr (Fr.of (hk▸hb1)));have HG0:=Lib.hid hg
 have n1:hdK g l s=tkV g l 2 (tkS l 1 s):=rfl
 have n2:hdQ l s=tkS l 2 (tkS l 1 s):=rfl
 have n3:hdB g l s=(((tkV g l 1 s:Nat):Int)==1):=rfl
 have n4:hdL g l s=if hdK g l s=0 then sizV g l (hdQ l s)else 0:=rfl
 have n5:hdS g l s=if hdK g l s=0 then sizS g l (hdQ l s)else if hdK g l s=1 then gwS fixB 32 15 (gwS fixA 288 15 (hdQ l s))else if hdK g l s=2 then dyS9 g l (hdQ l s)else keepS (hdQ l s) 130:=rfl
 have n6:hdC1 g l s=if hdK g l s=1 then grC fixA 288 15 else if hdK g l s=2 then dyG1 g l (hdQ l s)else fun _=>0:=rfl
 have n7:hdC2 g l s=if hdK g l s=1 then grC fixB 32 15 else if hdK g l s=2 then dyG2 g l (hdQ l s)else fun _=>0:=rfl
 have n8:hdY1 g l s=if hdK g l s=1 then grS fixA 288 15 else if hdK g l s=2 then dyY1 g l (hdQ l s)else[]:=rfl
 have n9:hdY2 g l s=if hdK g l s=1 then grS fixB 32 15 else if hdK g l s=2 then dyY2 g l (hdQ l s)else[]:=rfl
 have i1:(tkS l 1 s).1≤8*l:=tkS_in hs
 have i2:(hdQ l s).1≤8*l:=tkS_in i1
 have b2:tkV g l 2 (tkS l 1 s)<4:=tkV_lt g l 2 _
 have b1:tkV g l 1 s<2:=tkV_lt g l 1 _
 obtain⟨sL,hsL⟩:∃x,x=hdL g l s:=⟨_,rfl⟩
 obtain⟨sS,hsS⟩:∃x,x=hdS g l s:=⟨_,rfl⟩
 obtain⟨C1,hC1⟩:∃x,x=hdC1 g l s:=⟨_,rfl⟩
 obtain⟨C2,hC2⟩:∃x,x=hdC2 g l s:=⟨_,rfl⟩
 obtain⟨E1,hE1⟩:∃x,x=hdY1 g l s:=⟨_,rfl⟩
 obtain⟨E2,hE2⟩:∃x,x=hdY2 g l s:=⟨_,rfl⟩
 rw[←hsL,←hsS,←hC1,←hC2,←hE1,←hE2]
 rw[←hsL]at n4;rw[←hsS]at n5;rw[←hC1]at n6;rw[←hC2]at n7;rw[←hE1]at n8;rw[←hE2]at n9
 obtain⟨lb,hlb⟩:∃x,x=hdB g l s:=⟨_,rfl⟩
 obtain⟨kd,hkd⟩:∃x,x=hdK g l s:=⟨_,rfl⟩
 rw[←hlb,←hkd]
 rw[←hlb]at n3
 rw[←hkd]at n1 n4 n5 n6 n7 n8 n9
 obtain⟨q2,hq2⟩:∃x,x=hdQ l s:=⟨_,rfl⟩
 rw[←hq2]at n2 n4 n5 n6 n7 n8 n9 i2 hlen
 obtain⟨q1,hq1⟩:∃x,x=tkS l 1 s:=⟨_,rfl⟩
 obtain⟨x1,hx1⟩:∃x,x=tkV g l 1 s:=⟨_,rfl⟩
 rw[←hq1]at n1 n2 i1 b2
 rw[←hx1]at n3 b1
 rw[←n1]at b2
 have HT1:=Lib.hid (ptake_lit W1 p A l c g s HD1.out HG1.out.1 hl hs 1 1 rfl (by omega))
 rw[←hx1,←hq1]at HT1
 have HT2:=Lib.hid fun V (r:Rdr V p A l c q1) (q:RdF S V A l g)=>ptake_lit V p A l c g q1 r q.1 hl i1 2 2 rfl (by omega)
 rw[←n1,←n2]at HT2
 have eb:((x1:Int)==1)=lb:=n3.symm
 have HLEN:=Lib.hid hlen
 have N4:=Lib.hid n4;have N5:=Lib.hid n5;have N6:=Lib.hid n6;have N7:=Lib.hid n7;have N8:=Lib.hid n8;have N9:=Lib.hid n9
 clear h hg hZ hW1 hk hb1 hs1 z1 y1 hp hS hSw n1 n2 n3 n4 n5 n6 n7 n8 n9 hlen hsL hsS hC1 hC2 hE1 hE2 hlb hkd hq2 hq1 hx1 hs i1
 go_enter Tryz.func81,Tryz.ntmps81
 go_wp2_with (first|(rw[←HW1.out,←HK.out])|fail)
 refine HT1.out.mono ?_
 rintro e w2 ⟨rfl,r2,f2⟩
 have y2:=HY1.out.fr f2 HNA.out.2
 have k1:=y2.free (i:=1)
 have k1':=y2.cell (i:=1)
 rw[show Z[1]?=some (.bool false) by rw[HZE.out];rfl]at k1'
 obtain⟨W3,hW3⟩:∃W,W=w2.setCell ⟨k+1,1,none⟩ (.bool lb):=⟨_,rfl⟩
 have y3:BoxC W3 (k+1) (blkT 0 lb 0 (fun _=>0) (fun _=>0) (.slice none 0 0) (.slice none 0 0)) 28:=by
  have:=y2.set 1 (.bool lb)
  rw[HZE.out,set_last]at this
  rw[hW3];exact this
 have ht3:Fr (At (k+1)) w2 W3:=by rw[hW3];exact Fr.cell _ _ _ _
 have hpk:¬At (k+1) p:=by have:=HP.out;show¬p=k+1;omega
 have HR3:=Lib.hid (r2.fr ht3 hpk)
 have HZ3:=Lib.hid ((HZ1.out.fr f2 HNA.out.1).fr ht3 (by show¬k=k+1;omega))
 have HF3:=Lib.hid ((HF1.out.trans f2).from ht3 fun j (e:j=k+1)=>.inr (by rw[←HK.out];omega))
 have HG3:=Lib.hid (HG0.out.fr (HF3.out.mono HPS.out))
 have HTB:=Lib.hid (HT2.out W3 HR3.out HG3.out)
 have HW3:=Lib.hid hW3;have HY3:=Lib.hid y3
 clear r2 f2 y2 hW3 y3 ht3 hpk HT1 HT2 HD1 HF1 HZ1 HY1 HG1
 go_wp2_with fail
 rw[←HW3.out]
 refine HTB.out.mono ?_
 rintro e w4 ⟨rfl,r4,f4⟩
 have y4:=HY3.out.fr f4 HNA.out.2
 have k2:=y4.free (i:=0)
 have k2':w4.cell? ⟨k+1,0,none⟩=some (.int .u8 0):=y4.cell (i:=0)
 obtain⟨W5,hW5⟩:∃W,W=w4.setCell ⟨k+1,0,none⟩ (.int .u8 (kd:Int)):=⟨_,rfl⟩
 obtain⟨X,hX⟩:∃X,X=blkT kd lb 0 (fun _=>0) (fun _=>0) (.slice none 0 0) (.slice none 0 0):=⟨_,rfl⟩
 have y5:BoxC W5 (k+1) X 28:=by
  have:=y4.set 0 (.int .u8 (kd:Int))
  rw[set_kind,←hX]at this
  rw[hW5];exact this
 have ht5:Fr (At (k+1)) w4 W5:=by rw[hW5];exact Fr.cell _ _ _ _
 have hpk:¬At (k+1) p:=by have:=HP.out;show¬p=k+1;omega
 have HR5:=Lib.hid (r4.fr ht5 hpk)
 have HZ5:=Lib.hid ((HZ3.out.fr f4 HNA.out.1).fr ht5 (by show¬k=k+1;omega))
 have HF5:=Lib.hid ((HF3.out.trans f4).from ht5 fun j (e:j=k+1)=>.inr (by rw[←HK.out];omega))
 have HG5:=Lib.hid (HG0.out.fr (HF5.out.mono HPS.out))
 have k3:W5.cell? ⟨k+1,0,none⟩=some (.int .u8 (kd:Int)):=by rw[y5.cell,hX];rfl
 have HXS:Hid (X.size=37):=Lib.hid (by rw[hX];exact blkT_size ..)
 have HW5:=Lib.hid hW5;have HY5:=Lib.hid y5;have HXE:=Lib.hid hX
 have hkd8:kd<256:=by omega
 clear r4 f4 y4 hW5 hX y5 ht5 hpk HTB HR3 HZ3 HF3 HG3 HY3 HW3
 have hks:k+2≤W5.heap.size:=HY5.out.lt
 have HKS:=Lib.hid hks
 have HFIN:Hid (∀(V:World) (Y:Array Value) (st:Rz) (u1 u2:Value),Rdr V p A l c st→BoxC V (k+1) Y 28→BoxC V k Z 28→Fr (At p) w V→Y=blkT kd lb sL C1 C2 u1 u2→st=sS→OwnS V k u1 E1→OwnS V k u2 E2→u1.oneCell'=true→u2.oneCell'=true→(∀j,u1.ownBlock=some j→j≠k)→(∀j,u2.ownBlock=some j→j≠k)→
   Y.size=37∧Y.all (·.oneCell')=true∧(∀fn:Func,fn.results=#[.cell 2 28]→∀tmps:Array Value,tmps.getD 2 undef=.pointer (some ⟨k,0,none⟩)→(results fn tmps).run Tryz.prog (V.setRow k Y)=.ok (.agg Y) (V.setRow k Y))∧
   (∃u1 u2,Ending.returned (.agg Y)=.returned (.agg (blkT kd lb sL C1 C2 u1 u2))∧Rdr (V.setRow k Y) p A l c sS∧OwnS (V.setRow k Y) w.heap.size u1 E1∧OwnS (V.setRow k Y) w.heap.size u2 E2∧Fr (At p) w (V.setRow k Y))):=Lib.hid (by
  intro V Y st u1 u2 hr hy hz hf hY hst o1 o2 v1 v2 n1 n2
  have hsz:Y.size=37:=by rw[hY];exact blkT_size ..
  refine⟨hsz,by rw[hY];exact blkT_one _ _ _ _ _ _ _ v1 v2,fun fn hfn tmps ht=>results_cell_row hfn _ _ k _ _ (0,0) _ ht (setRow_heap _ _ _ _ _ _ hz) Tryz.underlying28 rfl (szBlkT _ hsz),u1,u2,by rw[hY],?_,?_,?_,?_⟩
  ·rw[←hst];exact BoxC.rowO hr (by have:=HP.out;omega) _
  ·rw[←HK.out];exact own_blk o1 fun j hj=>setRow_other _ _ _ _ (n1 j hj)
  ·rw[←HK.out];exact own_blk o2 fun j hj=>setRow_other _ _ _ _ (n2 j hj)
  ·exact hf.from (Fr.row V k Y) fun j hj=>.inr (by rw[←HK.out];exact Nat.le_of_eq hj.symm))
 have hc4:kd=0∨kd=1∨kd=2∨kd=3:=by omega
 rcases hc4 with hc|hc|hc|hc
 ·subst hc
  have M4:=N4.out.trans (if_pos rfl);have M5:=N5.out.trans (if_pos rfl)
  have M6:=(N6.out.trans (if_neg (by omega))).trans (if_neg (by omega));have M7:=(N7.out.trans (if_neg (by omega))).trans (if_neg (by omega));have M8:=(N8.out.trans (if_neg (by omega))).trans (if_neg (by omega));have M9:=(N9.out.trans (if_neg (by omega))).trans (if_neg (by omega))
  have HSZ:=Lib.hid (psize_any W5 p A l c g q2 HR5.out S HSP.out.1 HG5.out hl i2)
  rw[←M4,←M5]at HSZ
  have HM:=Lib.hid (And.intro M6 (And.intro M7 (And.intro M8 M9)))
  clear M4 M5 M6 M7 M8 M9 N4 N5 N6 N7 N8 N9
  have HW5n:Hid (W5=w4.setCell ⟨k+1,0,none⟩ (.int .u8 0)):=Lib.hid HW5.out
  go_wp2_with fail
  rw[←HW5n.out]
  refine HSZ.out.mono ?_
  rintro e w6 ⟨rfl,r6,f6⟩
  have y6:=HY5.out.fr f6 HNA.out.2
  have k4:=y6.free (i:=2)
  have k4':w6.cell? ⟨k+1,2,none⟩=some (.int .i64 0):=by rw[y6.cell,HXE.out];rfl
  obtain⟨W7,hW7⟩:∃W,W=w6.setCell ⟨k+1,2,none⟩ (.int .i64 (sL:Int)):=⟨_,rfl⟩
  obtain⟨Y,hY⟩:∃X,X=blkT 0 lb sL (fun _=>0) (fun _=>0) (.slice none 0 0) (.slice none 0 0):=⟨_,rfl⟩
  have y7:BoxC W7 (k+1) Y 28:=by
   have:=y6.set 2 (.int .i64 (sL:Int))
   rw[HXE.out,set_left,←hY]at this
   rw[hW7];exact this
  have ht7:Fr (At (k+1)) w6 W7:=by rw[hW7];exact Fr.cell _ _ _ _
  have hpk:¬At (k+1) p:=by have:=HP.out;show¬p=k+1;omega
  have hz7:=(HZ5.out.fr f6 HNA.out.1).fr ht7 (by show¬k=k+1;omega)
  have hf7:=(HF5.out.trans f6).from ht7 fun j (e:j=k+1)=>.inr (by rw[←HK.out];omega)
  obtain⟨a1,a2,a3,a4⟩:=HFIN.out W7 Y sS (.slice none 0 0) (.slice none 0 0) (r6.fr ht7 hpk) y7 hz7 hf7 (by rw[hY,HM.out.1,HM.out.2.1]) rfl (by rw[HM.out.2.2.1];exact World.ownsRow_nil ..) (by rw[HM.out.2.2.2];exact World.ownsRow_nil ..) rfl rfl (fun j h=>by simp[Value.ownBlock]at h) (fun j h=>by simp[Value.ownBlock]at h)
  have H7:=Lib.hid y7;have Z7:=Lib.hid hz7;have A1:=Lib.hid a1;have A2:=Lib.hid a2;have A3:=Lib.hid a3;have A4:=Lib.hid a4;have HW7:=Lib.hid hW7
  clear r6 f6 y6 y7 ht7 hpk hz7 hf7 a1 a2 a3 a4 hW7 hY HSZ
  go_wp2_with (first
   |(rw[←HW7.out];refine wpList_load_row rfl _ _ rfl (k+1) rfl _ Y (0,0) _ H7.out Tryz.underlying28 rfl (szBlkT _ A1.out) ?_)
   |(refine wpList_store_rowTo rfl _ _ _ rfl rfl k Y rfl rfl 28 Z Z7.out (szBlkT _ A1.out) (by rw[HZS.out,A1.out]) A2.out ?_)
   |fail)
  exact bodyPost_ret (A3.out _ rfl _ rfl) rfl A4.out
 ·subst hc
  have M4:=N4.out.trans (if_neg (by omega))
  have M5:=(N5.out.trans (if_neg (by omega))).trans (if_pos rfl);have M6:=N6.out.trans (if_pos rfl);have M7:=N7.out.trans (if_pos rfl);have M8:=N8.out.trans (if_pos rfl);have M9:=N9.out.trans (if_pos rfl)
  have HCC:=Lib.hid (pfixed_any W5 p A l c q2 HR5.out)
  rw[←M5,←M6,←M7,←M8,←M9]at HCC
  have HM:=Lib.hid M4
  clear M4 M5 M6 M7 M8 M9 N4 N5 N6 N7 N8 N9
  have HW5n:Hid (W5=w4.setCell ⟨k+1,0,none⟩ (.int .u8 1)):=Lib.hid HW5.out
  go_wp2_with fail
  rw[←HW5n.out]
  refine HCC.out.mono ?_
  rintro e w6 ⟨u1,u2,rfl,r6,o1,o2,f6⟩
  have y6:=HY5.out.fr f6 HNA.out.2
  obtain⟨T1,hT1⟩:∃T,T=trA C1 u1:=⟨_,rfl⟩
  obtain⟨T2,hT2⟩:∃T,T=trA C2 u2:=⟨_,rfl⟩
  rw[←hT1,←hT2]
  obtain⟨W7,hW7⟩:∃W,W=w6.setCells (k+1) 3 T1.toList:=⟨_,rfl⟩
  obtain⟨W8,hW8⟩:∃W,W=W7.setCells (k+1) 20 T2.toList:=⟨_,rfl⟩
  obtain⟨Y,hY⟩:∃X,X=blkT 1 lb 0 C1 C2 u1 u2:=⟨_,rfl⟩
  have y7:BoxC W7 (k+1) (blkT 1 lb 0 C1 (fun _=>0) u1 (.slice none 0 0)) 28:=by
   have a:=y6.setCells T1.toList 3
   rw[hT1,show(trA C1 u1).toList=trL C1 u1 from rfl,HXE.out,set_longs]at a
   rw[hW7,hT1];exact a
  have y8:BoxC W8 (k+1) Y 28:=by
   have a:=y7.setCells T2.toList 20
   rw[hT2,show(trA C2 u2).toList=trL C2 u2 from rfl,set_fars,←hY]at a
   rw[hW8,hT2];exact a
  have ht8:Fr (At (k+1)) w6 W8:=by
   have h1:Below (k+1) w6 W8:=by rw[hW8,hW7];exact below_setCells (Nat.le_refl _) _ _ _ (below_setCells (Nat.le_refl _) _ _ _ (Below.refl _ _))
   exact⟨h1.os,h1.tape,h1.output,h1.size,fun j _ hj=>by rw[hW8,hW7];exact(setCells_other hj _ _ _).trans (setCells_other hj _ _ _)⟩
  have hpk:¬At (k+1) p:=by have:=HP.out;show¬p=k+1;omega
  have hz8:=(HZ5.out.fr f6 HNA.out.1).fr ht8 (by show¬k=k+1;omega)
  have hf8:=(HF5.out.trans f6).from ht8 fun j (e:j=k+1)=>.inr (by rw[←HK.out];omega)
  have hks:=HKS.out
  have hn1:∀j,u1.ownBlock=some j→k+2≤j:=fun j hj=>by have:=(own_blk_lt o1 j hj).1;omega
  have hn2:∀j,u2.ownBlock=some j→k+2≤j:=fun j hj=>by have:=(own_blk_lt o2 j hj).1;omega
  have v1:=o1.one
  have v2:=o2.one
  have p1:OwnS W8 k u1 E1:=ownsRow_lower (own_blk o1 fun j hj=>ht8.block j (own_blk_lt o1 j hj).2 (by have:=hn1 j hj;show¬j=k+1;omega)) (by omega)
  have p2:OwnS W8 k u2 E2:=ownsRow_lower (own_blk o2 fun j hj=>ht8.block j (own_blk_lt o2 j hj).2 (by have:=hn2 j hj;show¬j=k+1;omega)) (by omega)
  obtain⟨a1,a2,a3,a4⟩:=HFIN.out W8 Y sS u1 u2 (r6.fr ht8 hpk) y8 hz8 hf8 (by rw[hY,HM.out]) rfl p1 p2 v1 v2 (fun j h=>by have:=hn1 j h;omega) (fun j h=>by have:=hn2 j h;omega)
  have HTH1:Hid (w6.there (k+1) 3 T1.size):=Lib.hid (there_box y6 3 _ (by rw[hT1,trA_size,HXS.out];omega))
  have HTH2:Hid (W7.there (k+1) 20 T2.size):=Lib.hid (there_box y7 20 _ (by rw[hT2,trA_size,blkT_size];omega))
  have HS1T:Hid ((Tryz.prog.info? 26).map (·.size)=some T1.size):=Lib.hid (by rw[hT1,trA_size];exact szTree)
  have HS2T:Hid ((Tryz.prog.info? 26).map (·.size)=some T2.size):=Lib.hid (by rw[hT2,trA_size];exact szTree)
  have HO1T:Hid (T1.all (·.oneCell')=true):=Lib.hid (by rw[hT1];exact trA_one _ _ v1)
  have HO2T:Hid (T2.all (·.oneCell')=true):=Lib.hid (by rw[hT2];exact trA_one _ _ v2)
  have H8:=Lib.hid y8;have Z8:=Lib.hid hz8;have A1:=Lib.hid a1;have A2:=Lib.hid a2;have A3:=Lib.hid a3;have A4:=Lib.hid a4;have HW7:=Lib.hid hW7;have HW8:=Lib.hid hW8
  clear r6 f6 y6 y7 y8 ht8 hpk hz8 hf8 a1 a2 a3 a4 hW7 hW8 hY HCC hT1 hT2 o1 o2 hn1 hn2 v1 v2 p1 p2 hks
  go_wp2_with (first
   |(refine wpList_store_mid rfl _ _ _ rfl (k+1) 3 T1 rfl rfl HTH1.out HS1T.out HO1T.out ?_;rw[←HW7.out])
   |(refine wpList_store_mid rfl _ _ _ rfl (k+1) 20 T2 rfl rfl HTH2.out HS2T.out HO2T.out ?_;rw[←HW8.out])
   |(refine wpList_load_row rfl _ _ rfl (k+1) rfl _ Y (0,0) _ H8.out Tryz.underlying28 rfl (szBlkT _ A1.out) ?_)
   |(refine wpList_store_rowTo rfl _ _ _ rfl rfl k Y rfl rfl 28 Z Z8.out (szBlkT _ A1.out) (by rw[HZS.out,A1.out]) A2.out ?_)
   |fail)
  exact bodyPost_ret (A3.out _ rfl _ rfl) rfl A4.out
 ·subst hc
  have M4:=N4.out.trans (if_neg (by omega))
  have M5:=((N5.out.trans (if_neg (by omega))).trans (if_neg (by omega))).trans (if_pos rfl);have M6:=(N6.out.trans (if_neg (by omega))).trans (if_pos rfl);have M7:=(N7.out.trans (if_neg (by omega))).trans (if_pos rfl);have M8:=(N8.out.trans (if_neg (by omega))).trans (if_pos rfl);have M9:=(N9.out.trans (if_neg (by omega))).trans (if_pos rfl)
  have HCC:=Lib.hid (pdynamic_any W5 p A l c g q2 HR5.out S HSP.out.1 (fun j hj=>by have:=HSP.out.2 j hj;omega) HG5.out hl i2 HLEN.out)
  rw[←M5,←M6,←M7,←M8,←M9]at HCC
  have HM:=Lib.hid M4
  clear M4 M5 M6 M7 M8 M9 N4 N5 N6 N7 N8 N9
  have HW5n:Hid (W5=w4.setCell ⟨k+1,0,none⟩ (.int .u8 2)):=Lib.hid HW5.out
  go_wp2_with fail
  rw[←HW5n.out]
  refine HCC.out.mono ?_
  rintro e w6 ⟨u1,u2,rfl,r6,o1,o2,f6⟩
  have y6:=HY5.out.fr f6 HNA.out.2
  obtain⟨T1,hT1⟩:∃T,T=trA C1 u1:=⟨_,rfl⟩
  obtain⟨T2,hT2⟩:∃T,T=trA C2 u2:=⟨_,rfl⟩
  rw[←hT1,←hT2]
  obtain⟨W7,hW7⟩:∃W,W=w6.setCells (k+1) 3 T1.toList:=⟨_,rfl⟩
  obtain⟨W8,hW8⟩:∃W,W=W7.setCells (k+1) 20 T2.toList:=⟨_,rfl⟩
  obtain⟨Y,hY⟩:∃X,X=blkT 2 lb 0 C1 C2 u1 u2:=⟨_,rfl⟩
  have y7:BoxC W7 (k+1) (blkT 2 lb 0 C1 (fun _=>0) u1 (.slice none 0 0)) 28:=by
   have a:=y6.setCells T1.toList 3
   rw[hT1,show(trA C1 u1).toList=trL C1 u1 from rfl,HXE.out,set_longs]at a
   rw[hW7,hT1];exact a
  have y8:BoxC W8 (k+1) Y 28:=by
   have a:=y7.setCells T2.toList 20
   rw[hT2,show(trA C2 u2).toList=trL C2 u2 from rfl,set_fars,←hY]at a
   rw[hW8,hT2];exact a
  have ht8:Fr (At (k+1)) w6 W8:=by
   have h1:Below (k+1) w6 W8:=by rw[hW8,hW7];exact below_setCells (Nat.le_refl _) _ _ _ (below_setCells (Nat.le_refl _) _ _ _ (Below.refl _ _))
   exact⟨h1.os,h1.tape,h1.output,h1.size,fun j _ hj=>by rw[hW8,hW7];exact(setCells_other hj _ _ _).trans (setCells_other hj _ _ _)⟩
  have hpk:¬At (k+1) p:=by have:=HP.out;show¬p=k+1;omega
  have hz8:=(HZ5.out.fr f6 HNA.out.1).fr ht8 (by show¬k=k+1;omega)
  have hf8:=(HF5.out.trans f6).from ht8 fun j (e:j=k+1)=>.inr (by rw[←HK.out];omega)
  have hks:=HKS.out
  have hn1:∀j,u1.ownBlock=some j→k+2≤j:=fun j hj=>by have:=(own_blk_lt o1 j hj).1;omega
  have hn2:∀j,u2.ownBlock=some j→k+2≤j:=fun j hj=>by have:=(own_blk_lt o2 j hj).1;omega
  have v1:=o1.one
  have v2:=o2.one
  have p1:OwnS W8 k u1 E1:=ownsRow_lower (own_blk o1 fun j hj=>ht8.block j (own_blk_lt o1 j hj).2 (by have:=hn1 j hj;show¬j=k+1;omega)) (by omega)
  have p2:OwnS W8 k u2 E2:=ownsRow_lower (own_blk o2 fun j hj=>ht8.block j (own_blk_lt o2 j hj).2 (by have:=hn2 j hj;show¬j=k+1;omega)) (by omega)
  obtain⟨a1,a2,a3,a4⟩:=HFIN.out W8 Y sS u1 u2 (r6.fr ht8 hpk) y8 hz8 hf8 (by rw[hY,HM.out]) rfl p1 p2 v1 v2 (fun j h=>by have:=hn1 j h;omega) (fun j h=>by have:=hn2 j h;omega)
  have HTH1:Hid (w6.there (k+1) 3 T1.size):=Lib.hid (there_box y6 3 _ (by rw[hT1,trA_size,HXS.out];omega))
  have HTH2:Hid (W7.there (k+1) 20 T2.size):=Lib.hid (there_box y7 20 _ (by rw[hT2,trA_size,blkT_size];omega))
  have HS1T:Hid ((Tryz.prog.info? 26).map (·.size)=some T1.size):=Lib.hid (by rw[hT1,trA_size];exact szTree)
  have HS2T:Hid ((Tryz.prog.info? 26).map (·.size)=some T2.size):=Lib.hid (by rw[hT2,trA_size];exact szTree)
  have HO1T:Hid (T1.all (·.oneCell')=true):=Lib.hid (by rw[hT1];exact trA_one _ _ v1)
  have HO2T:Hid (T2.all (·.oneCell')=true):=Lib.hid (by rw[hT2];exact trA_one _ _ v2)
  have H8:=Lib.hid y8;have Z8:=Lib.hid hz8;have A1:=Lib.hid a1;have A2:=Lib.hid a2;have A3:=Lib.hid a3;have A4:=Lib.hid a4;have HW7:=Lib.hid hW7;have HW8:=Lib.hid hW8
  clear r6 f6 y6 y7 y8 ht8 hpk hz8 hf8 a1 a2 a3 a4 hW7 hW8 hY HCC hT1 hT2 o1 o2 hn1 hn2 v1 v2 p1 p2 hks
  go_wp2_with (first
   |(refine wpList_store_mid rfl _ _ _ rfl (k+1) 3 T1 rfl rfl HTH1.out HS1T.out HO1T.out ?_;rw[←HW7.out])
   |(refine wpList_store_mid rfl _ _ _ rfl (k+1) 20 T2 rfl rfl HTH2.out HS2T.out HO2T.out ?_;rw[←HW8.out])
   |(refine wpList_load_row rfl _ _ rfl (k+1) rfl _ Y (0,0) _ H8.out Tryz.underlying28 rfl (szBlkT _ A1.out) ?_)
   |(refine wpList_store_rowTo rfl _ _ _ rfl rfl k Y rfl rfl 28 Z Z8.out (szBlkT _ A1.out) (by rw[HZS.out,A1.out]) A2.out ?_)
   |fail)
  exact bodyPost_ret (A3.out _ rfl _ rfl) rfl A4.out
 ·subst hc
  have M4:=N4.out.trans (if_neg (by omega));have M5:=((N5.out.trans (if_neg (by omega))).trans (if_neg (by omega))).trans (if_neg (by omega))
  have M6:=(N6.out.trans (if_neg (by omega))).trans (if_neg (by omega));have M7:=(N7.out.trans (if_neg (by omega))).trans (if_neg (by omega));have M8:=(N8.out.trans (if_neg (by omega))).trans (if_neg (by omega));have M9:=(N9.out.trans (if_neg (by omega))).trans (if_neg (by omega))
  have HSZ:=Lib.hid (pkeep_any W5 p A l c q2 HR5.out 130)
  rw[←M5]at HSZ
  have HM:=Lib.hid (And.intro M4 (And.intro M6 (And.intro M7 (And.intro M8 M9))))
  clear M4 M5 M6 M7 M8 M9 N4 N5 N6 N7 N8 N9
  have HW5n:Hid (W5=w4.setCell ⟨k+1,0,none⟩ (.int .u8 3)):=Lib.hid HW5.out
  go_wp2_with fail
  rw[←HW5n.out]
  refine HSZ.out.mono ?_
  rintro e w6 ⟨rfl,r6,f6⟩
  have y6:=HY5.out.fr f6 HNA.out.2
  have hz6:=HZ5.out.fr f6 HNA.out.1
  have hf6:=HF5.out.trans f6
  obtain⟨a1,a2,a3,a4⟩:=HFIN.out w6 X sS (.slice none 0 0) (.slice none 0 0) r6 y6 hz6 hf6 (by rw[HXE.out,HM.out.1,HM.out.2.1,HM.out.2.2.1]) rfl (by rw[HM.out.2.2.2.1];exact World.ownsRow_nil ..) (by rw[HM.out.2.2.2.2];exact World.ownsRow_nil ..) rfl rfl (fun j h=>by simp[Value.ownBlock]at h) (fun j h=>by simp[Value.ownBlock]at h)
  have H7:=Lib.hid y6;have Z7:=Lib.hid hz6;have A1:=Lib.hid a1;have A2:=Lib.hid a2;have A3:=Lib.hid a3;have A4:=Lib.hid a4
  clear r6 f6 y6 hz6 hf6 a1 a2 a3 a4 HSZ
  go_wp2_with (first
   |(refine wpList_load_row rfl _ _ rfl (k+1) rfl _ X (0,0) _ H7.out Tryz.underlying28 rfl (szBlkT _ A1.out) ?_)
   |(refine wpList_store_rowTo rfl _ _ _ rfl rfl k X rfl rfl 28 Z Z7.out (szBlkT _ A1.out) (by rw[HZS.out,A1.out]) A2.out ?_)
   |fail)
  exact bodyPost_ret (A3.out _ rfl _ rfl) rfl A4.out
end Go.Proofs.YtcmpmighjglnpaaGreat
namespace Go.Proofs.YtcmpmighjglnpaaGreat
open Go.RowKit Go.ChangeShapes Go.WideShapes Go.ChangeAt Go.Joins
theorem fixA_check:checkE fixA 288 15=0:=by decide+kernel
theorem fixB_check:checkE fixB 32 15=0:=by decide+kernel
end Go.Proofs.YtcmpmighjglnpaaGreat
namespace Go.Proofs.YtcmpmighjglnpaaGreat
theorem pt_h13{m:Nat}(h:0<m):pt m≤16384:=by
 unfold pt
 have h1:(2:Nat)^1≤2^m:=Nat.pow_le_pow_right (by omega) h
 exact Nat.le_trans (Nat.div_le_div_left h1 (by omega)) (by decide)
theorem all_used(f:Nat→Nat):∀n,allN f n≤16384*usedN f n
 |0=>Nat.le_refl _
 |n+1=>by
  have:=all_used f n
  unfold allN usedN
  split
  ·rename_i h;have:=pt_h13 h;omega
  ·omega
theorem two_whole{f:Nat→Nat}{n:Nat}{most:Int}(h:checkE f n most=0):2≤(((grS f n most).length:Nat):Int)↔allN f n=32768:=by
 obtain⟨h1,h2,h3,h4,h5,h6⟩:=check_ok h
 have e:(grS f n most).length=usedN f n:=by
  unfold grS
  rw[if_pos h,natsI_length,symL_length,usedN_sum f n (fun j hj=>by have:=h4 j hj;omega)]
 rw[e]
 have:=all_used f n
 constructor
 ·intro h7;rcases h6 with h6|h6|h6<;>omega
 ·intro h7;omega
def Made(n:Nat)(l:List (Int×Int))(out:List Nat):Prop:=∀c,strR n (l++c) []=strR n c out
theorem made_nil(n:Nat):Made n [] []:=fun _=>rfl
theorem made_on{n:Nat}{l:List (Int×Int)}{out:List Nat}{y x:Nat}(h:Made n l out)(hy:y≤18)(hx:x<2^bitsR (y:Int))(h2:¬(((y:Int)=16∧out=[])∨n<out.length+timesR (y:Int) (x:Int))):
  Made n (l++[((y:Int),(x:Int))]) (out++List.replicate (timesR (y:Int) (x:Int)) (valR (y:Int) out)):=fun c=>by
 rw[List.append_assoc,h]
 show strR n (((y:Int),(x:Int))::c) out=_
 rw[strR,if_neg (by have:((2:Nat)^bitsR (y:Int):Nat)=(2:Nat)^bitsR (y:Int):=rfl;omega),if_neg h2]
theorem made_end{n:Nat}{l:List (Int×Int)}{out:List Nat}(h:Made n l out)(hl:out.length=n)(hn:n≤320):strO l (n:Int)=(0,out):=by
 unfold strO
 rw[if_neg (by omega),Int.toNat_natCast]
 have:=h []
 rw[List.append_nil]at this
 rw[this,strR,if_pos hl]
theorem ruE_err{F g:Nat→Nat}{L n made:Nat}{s:Rz}(h:(ruS F g L s).2≠0):ruE F g L n made s=ruS F g L s:=by unfold ruE;rw[wantS_err h,wantS_err h]
theorem lnS_made{F g:Nat→Nat}{L n:Nat}(hF:∀j,19≤j→F j=0):∀k made l s out,Made n l out→out.length=made→made≤n→s.1≤8*L→(lnS F g L n k made l s).2.2=0→n≤k+made→∃out',Made n (lnS F g L n k made l s).1 out'∧out'.length=n
 |0,made,l,s,out,hm,hl,hn,_,_,hk=>⟨out,hm,by omega⟩
 |k+1,made,l,s,out,hm,hl,hn,hs,he,hk=>by
  by_cases h0:made<n∧s.2=0
  ·rw[lnS_on h0]at he⊢
   obtain⟨a,e⟩:=s
   obtain⟨h1,rfl⟩:made<n∧e=0:=h0
   by_cases hE:(ruE F g L n made (a,0)).2=0
   ·have w1:=wantS_ok (by decide) hE
    have w2:=wantS_ok (by decide) w1.1
    have hy:ruY F g L (a,0)≤18:=by
     show(if(0:Int)≠0 then 0 else if(readR F 320 g L a 17 0).2.2≠0 then 0 else(readR F 320 g L a 17 0).1)≤18
     rw[if_neg (fun h=>h rfl)]
     split
     ·omega
     ·rename_i h2
      have hz:(readR F 320 g L a 17 0).2.2=0:=by omega
      obtain⟨kk,e1,e2,e3⟩:=read_found 17 0 hz
      have h3:=of_decide_eq_true e3
      rcases Nat.lt_or_ge (readR F 320 g L a 17 0).1 19 with h4|h4
      ·omega
      ·have:=hF _ h4;omega
    have hx:ruX F g L (a,0)<2^bitsR (ruY F g L (a,0):Int):=tkV_lt _ _ _ _
    have hno:¬(((ruY F g L (a,0):Int)=16∧out=[])∨n<out.length+timesR (ruY F g L (a,0):Int) (ruX F g L (a,0):Int)):=by
     have q1:=of_decide_eq_true w1.2
     have q2:=of_decide_eq_true w2.2
     have q3:ruT F g L (a,0)=timesR (ruY F g L (a,0):Int) (ruX F g L (a,0):Int):=rfl
     rintro(⟨r1,r2⟩|r1)
     ·subst r2
      simp at hl
      rcases q2 with q2|q2<;>omega
     ·omega
    have q1:=of_decide_eq_true w1.2
    have q3:ruT F g L (a,0)=timesR (ruY F g L (a,0):Int) (ruX F g L (a,0):Int):=rfl
    have q4:=(timesR_in (y:=ruY F g L (a,0)) (ruX_lt F g L (a,0))).1
    refine lnS_made hF k _ _ _ _ (made_on hm hy hx hno) ?_ q1 (ruE_in hs) he (by omega)
    rw[List.length_append,List.length_replicate,hl,q3]
   ·rw[lnS_end (fun h=>hE h.2)]at he
    exact absurd he hE
  ·rw[lnS_end h0]at he⊢
   have:¬made<n:=fun h=>h0 ⟨h,he⟩
   exact⟨out,hm,by omega⟩
theorem dy_len(g:Nat→Nat)(L:Nat)(s:Rz)(hs:s.1≤8*L)(h:(dyR g L s).2.2=0):(dyO g L s).length=dyL g L s+dyF g L s∧(strO (dyR g L s).1 ((dyL g L s+dyF g L s:Nat):Int)).1=0:=by
 have b1:tkV g L 5 s<32:=tkV_lt g L 5 s
 have b2:tkV g L 5 (dyS1 L s)<32:=tkV_lt g L 5 _
 have h320:dyL g L s+dyF g L s≤320:=by unfold dyL dyF;omega
 obtain⟨out,h1,h2⟩:=lnS_made (F:=extF 19 (dyH g L s)) (g:=g) (L:=L) (n:=dyL g L s+dyF g L s) (fun j hj=>extF_out _ hj) (dyL g L s+dyF g L s) 0 [] (dyS5 g L s) [] (made_nil _) rfl (Nat.zero_le _) (dyS5_in hs) h (by omega)
 have h3:=made_end h1 h2 h320
 have h4:dyO g L s=(strO (lnS (extF 19 (dyH g L s)) g L (dyL g L s+dyF g L s) (dyL g L s+dyF g L s) 0 [] (dyS5 g L s)).1 ((dyL g L s+dyF g L s:Nat):Int)).2:=rfl
 have h5:dyR g L s=lnS (extF 19 (dyH g L s)) g L (dyL g L s+dyF g L s) (dyL g L s+dyF g L s) 0 [] (dyS5 g L s):=rfl
 rw[h4,h5,h3]
 exact⟨h2,rfl⟩
theorem lnS_is{F g:Nat→Nat}{L n:Nat}:∀k made l a out,Made n l out→out.length=made→made≤n→a≤8*L→n≤k+made→
  ((lenR F g L n k a out).2.2=0→(lnS (extF 19 F) g L n k made l (a,0)).2=((lenR F g L n k a out).2.1,0)∧Made n (lnS (extF 19 F) g L n k made l (a,0)).1 (lenR F g L n k a out).1∧(lenR F g L n k a out).1.length=n)∧
  ((lenR F g L n k a out).2.2≠0→(lnS (extF 19 F) g L n k made l (a,0)).2.2=(lenR F g L n k a out).2.2)
 |0,made,l,a,out,hm,hl,hn,ha,hk=>⟨fun _=>⟨rfl,hm,by show out.length=n;omega⟩,fun h=>absurd rfl h⟩
 |k+1,made,l,a,out,hm,hl,hn,ha,hk=>by
  rw[lenR_s]
  by_cases h0:n≤out.length
  ·rw[if_pos h0,lnS_end (fun h=>by omega)]
   exact⟨fun _=>⟨rfl,hm,by show out.length=n;omega⟩,fun h=>absurd rfl h⟩
  ·rw[if_neg h0,lnS_on ⟨by omega,rfl⟩]
   have hrd:=ext_read (f:=F) (n:=19) (by omega) g L a 17 0
   have hri:=read_in (F:=F) (N:=19) (g:=g) ha
   have y0:ruY (extF 19 F) g L (a,0)=syV (readR F 19 g L a 17 0) (a,0):=by unfold ruY;rw[hrd]
   have s0:ruS1 (extF 19 F) g L (a,0)=syS (readR F 19 g L a 17 0) (a,0):=by unfold ruS1;rw[hrd]
   have x0:ruX (extF 19 F) g L (a,0)=tkV g L (bitsR (ruY (extF 19 F) g L (a,0):Int)) (ruS1 (extF 19 F) g L (a,0)):=rfl
   have e0:ruS (extF 19 F) g L (a,0)=tkS L (bitsR (ruY (extF 19 F) g L (a,0):Int)) (ruS1 (extF 19 F) g L (a,0)):=rfl
   have t0:ruT (extF 19 F) g L (a,0)=timesR (ruY (extF 19 F) g L (a,0):Int) (ruX (extF 19 F) g L (a,0):Int):=rfl
   have ee:ruE (extF 19 F) g L n made (a,0)=wantS (wantS (ruS (extF 19 F) g L (a,0)) (decide (0<made∨ruY (extF 19 F) g L (a,0)≠16)) 132) (decide (made+ruT (extF 19 F) g L (a,0)≤n)) 132:=rfl
   generalize readR F 19 g L a 17 0=r at y0 s0 hri⊢
   unfold lenG
   by_cases h1:r.2.2≠0
   ·rw[if_pos h1]
    refine⟨fun h=>absurd h h1,fun _=>?_⟩
    have e1:ruS1 (extF 19 F) g L (a,0)=(a,r.2.2):=by rw[s0];unfold syS;rw[if_neg (fun h=>h rfl),if_pos h1]
    have e2:ruS (extF 19 F) g L (a,0)=(a,r.2.2):=by rw[e0,e1];exact tkS_err h1
    have e3:ruE (extF 19 F) g L n made (a,0)=(a,r.2.2):=by rw[ruE_err (by rw[e2];exact h1),e2]
    rw[e3,lnS_end (s:=(a,r.2.2)) (fun h=>h1 h.2)]
   ·rw[if_neg h1]
    obtain⟨r1,r2,r3⟩:=hri (by omega)
    have yy:ruY (extF 19 F) g L (a,0)=r.1:=by rw[y0];unfold syV;rw[if_neg (fun h=>h rfl),if_neg h1]
    have ss:ruS1 (extF 19 F) g L (a,0)=(r.2.1,0):=by rw[s0];unfold syS;rw[if_neg (fun h=>h rfl),if_neg h1]
    rw[yy,ss,tkS_ok]at e0
    rw[yy,ss,tkV_ok]at x0
    rw[yy]at t0 ee⊢
    by_cases h2:8*L<r.2.1+bitsR (r.1:Int)
    ·rw[if_pos h2]
     rw[if_pos h2]at e0
     refine⟨fun h=>absurd h (by decide),fun _=>?_⟩
     have e3:ruE (extF 19 F) g L n made (a,0)=(r.2.1,10):=by rw[ruE_err (by rw[e0];exact(show(10:Int)≠0 by decide)),e0]
     rw[e3,lnS_end (s:=(r.2.1,10)) (fun h=>absurd h.2 (show¬(10:Int)=0 by decide))]
    ·rw[if_neg h2]
     rw[if_neg h2]at e0 x0
     rw[x0]at t0⊢
     rw[e0,t0]at ee
     rw[t0]
     by_cases h3:((r.1:Int)=16∧out=[])∨n<out.length+timesR (r.1:Int) ((numN g r.2.1 (bitsR (r.1:Int)):Nat):Int)
     ·rw[if_pos h3]
      refine⟨fun h=>absurd h (by decide),fun _=>?_⟩
      have e3:(ruE (extF 19 F) g L n made (a,0)).2=132:=by
       rw[ee]
       by_cases c1:0<made∨r.1≠16
       ·have c2:¬made+timesR (r.1:Int) ((numN g r.2.1 (bitsR (r.1:Int)):Nat):Int)≤n:=by
         rcases h3 with⟨q1,q2⟩|q
         ·subst q2;simp at hl;rcases c1 with c1|c1<;>omega
         ·omega
        rw[decide_eq_true c1,decide_eq_false c2]
        rfl
       ·rw[decide_eq_false c1]
        have:(wantS (r.2.1+bitsR (r.1:Int),0) false 132:Rz)=(r.2.1+bitsR (r.1:Int),132):=rfl
        rw[this,wantS_err (s:=(r.2.1+bitsR (r.1:Int),132)) (show(132:Int)≠0 by decide)]
      rw[lnS_end (fun h=>by rw[e3]at h;exact absurd h.2 (by decide))]
      exact e3
     ·rw[if_neg h3]
      have c1:0<made∨r.1≠16:=by
       rcases Nat.eq_zero_or_pos made with z|z
       ·right;intro e
        exact h3 (.inl ⟨by omega,List.length_eq_zero_iff.1 (by omega)⟩)
       ·exact .inl z
      have c2:made+timesR (r.1:Int) ((numN g r.2.1 (bitsR (r.1:Int)):Nat):Int)≤n:=by
       rcases Nat.lt_or_ge n (made+timesR (r.1:Int) ((numN g r.2.1 (bitsR (r.1:Int)):Nat):Int))with z|z
       ·exact absurd (.inr (by omega)) h3
       ·exact z
      have e3:ruE (extF 19 F) g L n made (a,0)=(r.2.1+bitsR (r.1:Int),0):=by rw[ee,decide_eq_true c1,decide_eq_true c2];rfl
      rw[e3]
      have hx7:numN g r.2.1 (bitsR (r.1:Int))<2^bitsR (r.1:Int):=numN_lt _ _ _
      have hx8:numN g r.2.1 (bitsR (r.1:Int))<128:=by
       have h2:(2:Nat)^(bitsR (r.1:Int))≤2^7:=Nat.pow_le_pow_right (by omega) (bitsR_le _)
       have h3:(2:Nat)^7=128:=rfl
       omega
      have q4:=(timesR_in (y:=r.1) hx8).1
      exact lnS_is k _ _ _ _ (made_on hm (by omega) hx7 h3) (by rw[List.length_append,List.length_replicate,hl]) c2 (by omega) (by omega)
theorem sizS_err{g:Nat→Nat}{L:Nat}{s:Rz}(h:s.2≠0):(sizS g L s).2=s.2:=by
 have h1:(alS s).2≠0:=h
 unfold sizS
 rw[tkS_err h1,tkS_err h1,wantS_err h1];rfl
theorem siz_is{g:Nat→Nat}{L a:Nat}{last:Bool}(_ha:a≤8*L):
  ((stoR last g L ((a+7)/8*8)).2.2=0→sizS g L (a,0)=((stoR last g L ((a+7)/8*8)).2.1,0)∧sizV g L (a,0)=(stoR last g L ((a+7)/8*8)).1.left)∧((stoR last g L ((a+7)/8*8)).2.2≠0→(sizS g L (a,0)).2=(stoR last g L ((a+7)/8*8)).2.2):=by
 have e1:sizV g L (a,0)=tkV g L 16 ((a+7)/8*8,0):=rfl
 have e2:sizS g L (a,0)=wantS (tkS L 16 (tkS L 16 ((a+7)/8*8,0))) (decide ((tkV g L 16 (tkS L 16 ((a+7)/8*8,0)):Int)=65535-(sizV g L (a,0):Int))) 131:=rfl
 generalize (a+7)/8*8=b at e1 e2⊢
 unfold stoR
 by_cases h1:8*L<b+32
 ·rw[if_pos h1]
  refine⟨fun h=>absurd h (by decide),fun _=>?_⟩
  have:(tkS L 16 (tkS L 16 (b,0))).2=10:=by
   rw[tkS_ok]
   by_cases h2:8*L<b+16
   ·rw[if_pos h2,tkS_err (s:=(b,10)) (show(10:Int)≠0 by decide)]
   ·rw[if_neg h2,tkS_ok,if_pos (by omega)]
  rw[e2,wantS_err (by rw[this];decide)]
  exact this
 ·rw[if_neg h1]
  have q1:tkS L 16 (b,0)=(b+16,0):=by rw[tkS_ok,if_neg (by omega)]
  have q2:tkS L 16 (b+16,0)=(b+32,0):=by rw[tkS_ok,if_neg (by omega)]
  have q3:tkV g L 16 (b,0)=numN g b 16:=by rw[tkV_ok,if_neg (by omega)]
  have q4:tkV g L 16 (b+16,0)=numN g (b+16) 16:=by rw[tkV_ok,if_neg (by omega)]
  rw[e1,q3]at e2⊢
  rw[q1,q2,q4]at e2
  have hs:numN g b 32=numN g b 16+2^16*numN g (b+16) 16:=numN_add g b 16 16
  have l1:numN g b 16<65536:=numN_lt g b 16
  have l2:numN g (b+16) 16<65536:=numN_lt g (b+16) 16
  have h16:(2:Nat)^16=65536:=by decide
  rw[h16]at hs
  rw[hs]
  have m1:(numN g b 16+65536*numN g (b+16) 16)%65536=numN g b 16:=by omega
  have m2:(numN g b 16+65536*numN g (b+16) 16)/65536=numN g (b+16) 16:=by omega
  unfold stoV
  rw[m1,m2]
  by_cases h3:numN g b 16+numN g (b+16) 16≠65535
  ·rw[if_pos h3]
   refine⟨fun h=>absurd h (by decide),fun _=>?_⟩
   rw[e2,decide_eq_false (by omega)];rfl
  ·rw[if_neg h3]
   refine⟨fun _=>⟨?_,rfl⟩,fun h=>absurd rfl h⟩
   rw[e2,decide_eq_true (by omega)];rfl
theorem shS_ok{L a:Nat}:∀k,a+3*k≤8*L→shS L (a,0) k=(a+3*k,0)
 |0,_=>rfl
 |k+1,h=>by unfold shS;rw[shS_ok k (by omega),tkS_ok,if_neg (by omega)];exact Prod.ext (by show a+3*k+3=a+3*(k+1);omega) rfl
theorem shS_bad{L a:Nat}(ha:a≤8*L):∀k,8*L<a+3*k→(shS L (a,0) k).2=10
 |0,h=>by omega
 |k+1,h=>by
  unfold shS
  by_cases h1:8*L<a+3*k
  ·rw[tkS_err (by rw[shS_bad ha k h1];decide)];exact shS_bad ha k h1
  ·rw[shS_ok k (by omega),tkS_ok,if_pos (by omega)]
theorem shG_ok{g:Nat→Nat}{L a:Nat}:∀k,a+3*k≤8*L→shG g L (a,0) k=shR g a k
 |0,_=>rfl
 |k+1,h=>by
  unfold shG shR
  rw[shS_ok k (by omega),shG_ok k (by omega),tkV_ok,if_neg (by omega)]
theorem keepS_0(a:Nat)(x:Int):keepS (a,0) x=(a,x):=if_pos rfl
theorem gwS_err{F:Nat→Nat}{n:Nat}{most:Int}{s:Rz}(h:s.2≠0):gwS F n most s=s:=wantS_err h _ _
theorem dy_is{g:Nat→Nat}{L a:Nat}{last:Bool}(ha:a≤8*L):
  ((dynR last g L a).2.2=0→dyS9 g L (a,0)=((dynR last g L a).2.1,0)∧(dynR last g L a).1.kind=2∧(dynR last g L a).1.last=last∧(dynR last g L a).1.left=0∧
   dyG1 g L (a,0)=grC (dynR last g L a).1.F (dynR last g L a).1.n 15∧dyG2 g L (a,0)=grC (dynR last g L a).1.G (dynR last g L a).1.m 15∧dyY1 g L (a,0)=grS (dynR last g L a).1.F (dynR last g L a).1.n 15∧dyY2 g L (a,0)=grS (dynR last g L a).1.G (dynR last g L a).1.m 15∧
   checkE (dynR last g L a).1.F (dynR last g L a).1.n 15=0∧checkE (dynR last g L a).1.G (dynR last g L a).1.m 15=0)∧
  ((dynR last g L a).2.2≠0→(dyS9 g L (a,0)).2=(dynR last g L a).2.2):=by
 have hdl:=dy_len g L (a,0) ha
 have e9:dyS9 g L (a,0)=if(dyR g L (a,0)).2.2≠0 then(dyR g L (a,0)).2 else gwS (lst ((dyO g L (a,0)).drop (dyL g L (a,0)))) (dyF g L (a,0)) 15 (gwS (lst (dyO g L (a,0))) (dyL g L (a,0)) 15 (wantS (dyR g L (a,0)).2 (decide (0<lst (dyO g L (a,0)) 256)) 132)):=rfl
 have eR:dyR g L (a,0)=lnS (extF 19 (dyH g L (a,0))) g L (dyL g L (a,0)+dyF g L (a,0)) (dyL g L (a,0)+dyF g L (a,0)) 0 [] (dyS5 g L (a,0)):=rfl
 have eO:dyO g L (a,0)=(strO (dyR g L (a,0)).1 ((dyL g L (a,0)+dyF g L (a,0):Nat):Int)).2:=rfl
 have e5:dyS5 g L (a,0)=wantS (gwS (dyH g L (a,0)) 19 7 (shS L (dyS4 g L (a,0)) (dyC g L (a,0)))) (decide (2≤(((grS (dyH g L (a,0)) 19 7).length:Nat):Int))) 132:=rfl
 have eH:dyH g L (a,0)=shG g L (dyS4 g L (a,0)) (dyC g L (a,0)):=rfl
 have e4:dyS4 g L (a,0)=wantS (tkS L 4 (tkS L 5 (tkS L 5 (a,0)))) (decide (dyL g L (a,0)≤286∧dyF g L (a,0)≤30)) 132:=rfl
 have eC:dyC g L (a,0)=tkV g L 4 (tkS L 5 (tkS L 5 (a,0)))+4:=rfl
 have eF:dyF g L (a,0)=tkV g L 5 (tkS L 5 (a,0))+1:=rfl
 have eL:dyL g L (a,0)=tkV g L 5 (a,0)+257:=rfl
 have g1:dyG1 g L (a,0)=if(dyR g L (a,0)).2.2≠0 then fun _=>0 else grC (lst (dyO g L (a,0))) (dyL g L (a,0)) 15:=rfl
 have g2:dyG2 g L (a,0)=if(dyR g L (a,0)).2.2≠0 then fun _=>0 else grC (lst ((dyO g L (a,0)).drop (dyL g L (a,0)))) (dyF g L (a,0)) 15:=rfl
 have g3:dyY1 g L (a,0)=if(dyR g L (a,0)).2.2≠0 then[]else grS (lst (dyO g L (a,0))) (dyL g L (a,0)) 15:=rfl
 have g4:dyY2 g L (a,0)=if(dyR g L (a,0)).2.2≠0 then[]else grS (lst ((dyO g L (a,0)).drop (dyL g L (a,0)))) (dyF g L (a,0)) 15:=rfl
 generalize dyG1 g L (a,0)=G1 at g1⊢
 generalize dyG2 g L (a,0)=G2 at g2⊢
 generalize dyY1 g L (a,0)=Y1 at g3⊢
 generalize dyY2 g L (a,0)=Y2 at g4⊢
 generalize dyS9 g L (a,0)=S9 at e9⊢
 generalize dyO g L (a,0)=O at eO hdl e9 g1 g2 g3 g4
 generalize dyR g L (a,0)=R at eR eO hdl e9 g1 g2 g3 g4
 generalize dyS5 g L (a,0)=s5 at e5 eR
 generalize dyH g L (a,0)=H at eH e5 eR
 generalize dyS4 g L (a,0)=s4 at e4 eH e5
 generalize dyC g L (a,0)=C at eC eH e5
 generalize dyF g L (a,0)=f0 at eF e4 eR eO hdl e9 g1 g2 g3 g4
 generalize dyL g L (a,0)=l0 at eL e4 eR eO hdl e9 g1 g2 g3 g4
 have err5:s5.2≠0→S9.2=s5.2:=fun h=>by
  have:R=([],s5):=by rw[eR,lnS_end (fun q=>h q.2)]
  rw[e9,this,if_pos h]
 have err4:s4.2≠0→S9.2=s4.2:=fun h=>by
  have hsh:∀k,shS L s4 k=s4:=fun k=>by
   induction k with
   |zero=>rfl
   |succ k ih=>unfold shS;rw[ih,tkS_err h]
  have:s5=s4:=by rw[e5,hsh,gwS_err h,wantS_err h]
  rw[err5 (by rw[this];exact h),this]
 unfold dynR
 by_cases h0:8*L<a+14
 ·rw[if_pos h0]
  refine⟨fun h=>absurd h (by decide),fun _=>?_⟩
  have ht:(tkS L 4 (tkS L 5 (tkS L 5 (a,0)))).2=10:=by
   rw[tkS_ok]
   by_cases h1:8*L<a+5
   ·rw[if_pos h1,tkS_err (s:=(a,10)) (show(10:Int)≠0 by decide),tkS_err (s:=(a,10)) (show(10:Int)≠0 by decide)]
   ·rw[if_neg h1,tkS_ok]
    by_cases h2:8*L<a+5+5
    ·rw[if_pos h2,tkS_err (s:=(a+5,10)) (show(10:Int)≠0 by decide)]
    ·rw[if_neg h2,tkS_ok,if_pos (by omega)]
  have:s4.2=10:=by rw[e4,wantS_err (by rw[ht];decide)];exact ht
  rw[err4 (by rw[this];decide),this]
 ·rw[if_neg h0]
  have t1:tkS L 5 (a,0)=(a+5,0):=by rw[tkS_ok,if_neg (by omega)]
  have t2:tkS L 5 (a+5,0)=(a+10,0):=by rw[tkS_ok,if_neg (by omega)]
  have t3:tkS L 4 (a+10,0)=(a+14,0):=by rw[tkS_ok,if_neg (by omega)]
  rw[t1,t2,t3]at e4
  rw[t1,t2,tkV_ok,if_neg (by omega)]at eC
  rw[t1,tkV_ok,if_neg (by omega)]at eF
  rw[tkV_ok,if_neg (by omega)]at eL
  have s1:numN g a 14=numN g a 5+2^5*numN g (a+5) 9:=numN_add g a 5 9
  have s2:numN g (a+5) 9=numN g (a+5) 5+2^5*numN g (a+5+5) 4:=numN_add g (a+5) 5 4
  rw[show a+5+5=a+10 by omega]at s2
  have b1:numN g a 5<32:=numN_lt g a 5
  have b2:numN g (a+5) 5<32:=numN_lt g (a+5) 5
  have b3:numN g (a+10) 4<16:=numN_lt g (a+10) 4
  have h5:(2:Nat)^5=32:=by decide
  rw[h5]at s1 s2
  have v1:numN g a 14%32+257=l0:=by omega
  have v2:numN g a 14/32%32+1=f0:=by omega
  have v3:numN g a 14/1024+4=C:=by omega
  unfold dynV
  rw[v1,v2,v3]
  by_cases h1:286<l0∨30<f0
  ·rw[if_pos h1]
   refine⟨fun h=>absurd h (by decide),fun _=>?_⟩
   have:s4.2=132:=by rw[e4,decide_eq_false (by omega)];rfl
   rw[err4 (by rw[this];decide),this]
  ·rw[if_neg h1]
   rw[decide_eq_true (show l0≤286∧f0≤30 by omega)]at e4
   have e4':s4=(a+14,0):=e4
   subst e4'
   by_cases h2:8*L<a+14+3*C
   ·rw[if_pos h2]
    refine⟨fun h=>absurd h (by decide),fun _=>?_⟩
    have hb:=shS_bad (L:=L) (a:=a+14) (by omega) C h2
    have:s5.2=10:=by rw[e5,gwS_err (by rw[hb];decide),wantS_err (by rw[hb];decide)];exact hb
    rw[err5 (by rw[this];decide),this]
   ·rw[if_neg h2]
    rw[shS_ok C (by omega)]at e5
    rw[shG_ok C (by omega)]at eH
    rw[←eH]
    unfold dynS
    by_cases h3:checkE H 19 7≠0∨allN H 19≠32768
    ·rw[if_pos h3]
     refine⟨fun h=>absurd h (by decide),fun _=>?_⟩
     have:s5.2=132:=by
      rw[e5]
      by_cases c1:checkE H 19 7=0
      ·have c2:¬2≤(((grS H 19 7).length:Nat):Int):=fun h=>by rcases h3 with h3|h3;exact h3 c1;exact h3 ((two_whole c1).1 h)
       have:gwS H 19 7 (a+14+3*C,0)=(a+14+3*C,0):=by unfold gwS;rw[decide_eq_true c1];rfl
       rw[this,decide_eq_false c2];rfl
      ·have:gwS H 19 7 (a+14+3*C,0)=(a+14+3*C,132):=by unfold gwS;rw[decide_eq_false c1];rfl
       rw[this,wantS_err (s:=(a+14+3*C,132)) (show(132:Int)≠0 by decide)]
     rw[err5 (by rw[this];decide),this]
    ·rw[if_neg h3]
     have c1:checkE H 19 7=0:=by omega
     have c2:=(two_whole c1).2 (by omega)
     have e5':s5=(a+14+3*C,0):=by
      rw[e5];unfold gwS;rw[decide_eq_true c1,decide_eq_true c2];rfl
     rw[e5']at eR
     obtain⟨k1,k2⟩:=lnS_is (F:=H) (g:=g) (L:=L) (n:=l0+f0) (l0+f0) 0 [] (a+14+3*C) [] (made_nil _) rfl (Nat.zero_le _) (by omega) (by omega)
     rw[←eR]at k1 k2
     generalize lenR H g L (l0+f0) (l0+f0) (a+14+3*C) []=T at k1 k2⊢
     unfold dynL
     by_cases h4:T.2.2≠0
     ·rw[if_pos h4]
      refine⟨fun h=>absurd h h4,fun _=>?_⟩
      have:=k2 h4
      rw[e9,if_pos (by rw[this];exact h4)]
      exact this
     ·rw[if_neg h4]
      obtain⟨j1,j2,j3⟩:=k1 (by omega)
      have hR0:¬R.2.2≠0:=by rw[j1];exact fun h=>h rfl
      rw[if_neg hR0]at e9 g1 g2 g3 g4
      have hO:O=T.1:=by rw[eO,made_end j2 j3 (by omega)]
      rw[hO]at e9 g1 g2 g3 g4
      rw[j1]at e9
      unfold dynQ
      by_cases h5:lst T.1 256=0∨checkE (lst T.1) l0 15≠0∨checkE (lst (T.1.drop l0)) f0 15≠0
      ·rw[if_pos h5]
       refine⟨fun h=>absurd h (by decide),fun _=>?_⟩
       rw[e9]
       by_cases d1:0<lst T.1 256
       ·rw[decide_eq_true d1]
        show(gwS _ _ _ (gwS _ _ _ (T.2.1,0))).2=132
        by_cases d2:checkE (lst T.1) l0 15=0
        ·have:gwS (lst T.1) l0 15 (T.2.1,0)=(T.2.1,0):=by unfold gwS;rw[decide_eq_true d2];rfl
         rw[this];unfold gwS
         rw[decide_eq_false (by rcases h5 with h5|h5|h5;omega;exact absurd d2 h5;exact h5)];rfl
        ·have:gwS (lst T.1) l0 15 (T.2.1,0)=(T.2.1,132):=by unfold gwS;rw[decide_eq_false d2];rfl
         rw[this,gwS_err (s:=(T.2.1,132)) (show(132:Int)≠0 by decide)]
       ·rw[decide_eq_false d1]
        show(gwS _ _ _ (gwS _ _ _ (T.2.1,132))).2=132
        rw[gwS_err (s:=(T.2.1,132)) (show(132:Int)≠0 by decide),gwS_err (s:=(T.2.1,132)) (show(132:Int)≠0 by decide)]
      ·rw[if_neg h5]
       have d1:0<lst T.1 256:=by omega
       have d2:checkE (lst T.1) l0 15=0:=by omega
       have d3:checkE (lst (T.1.drop l0)) f0 15=0:=by omega
       refine⟨fun _=>⟨?_,rfl,rfl,rfl,g1,g2,g3,g4,d2,d3⟩,fun h=>absurd rfl h⟩
       rw[e9,decide_eq_true d1]
       unfold gwS
       rw[decide_eq_true d2,decide_eq_true d3];rfl
theorem head_is{g:Nat→Nat}{L a:Nat}(_ha:a≤8*L):
  ((begR g L a).2.2=0→hdS g L (a,0)=((begR g L a).2.1,0)∧hdK g L (a,0)=(begR g L a).1.kind∧hdB g L (a,0)=(begR g L a).1.last∧hdL g L (a,0)=(begR g L a).1.left∧(begR g L a).1.kind≤2∧(begR g L a).1.left≤65535∧
   ((begR g L a).1.kind=0→hdC1 g L (a,0)=(fun _=>0)∧hdC2 g L (a,0)=(fun _=>0)∧hdY1 g L (a,0)=[]∧hdY2 g L (a,0)=[])∧
   ((begR g L a).1.kind≠0→(begR g L a).1.left=0∧hdC1 g L (a,0)=grC (begR g L a).1.F (begR g L a).1.n 15∧hdC2 g L (a,0)=grC (begR g L a).1.G (begR g L a).1.m 15∧hdY1 g L (a,0)=grS (begR g L a).1.F (begR g L a).1.n 15∧hdY2 g L (a,0)=grS (begR g L a).1.G (begR g L a).1.m 15∧
    checkE (begR g L a).1.F (begR g L a).1.n 15=0∧checkE (begR g L a).1.G (begR g L a).1.m 15=0))∧
  ((begR g L a).2.2≠0→(hdS g L (a,0)).2=(begR g L a).2.2):=by
 have eK:hdK g L (a,0)=tkV g L 2 (tkS L 1 (a,0)):=rfl
 have eQ:hdQ L (a,0)=tkS L 2 (tkS L 1 (a,0)):=rfl
 have eB:hdB g L (a,0)=(((tkV g L 1 (a,0):Nat):Int)==1):=rfl
 have eL:hdL g L (a,0)=if hdK g L (a,0)=0 then sizV g L (hdQ L (a,0))else 0:=rfl
 have eS:hdS g L (a,0)=if hdK g L (a,0)=0 then sizS g L (hdQ L (a,0))else if hdK g L (a,0)=1 then gwS fixB 32 15 (gwS fixA 288 15 (hdQ L (a,0)))else if hdK g L (a,0)=2 then dyS9 g L (hdQ L (a,0))else keepS (hdQ L (a,0)) 130:=rfl
 have f1:hdC1 g L (a,0)=if hdK g L (a,0)=1 then grC fixA 288 15 else if hdK g L (a,0)=2 then dyG1 g L (hdQ L (a,0))else fun _=>0:=rfl
 have f2:hdC2 g L (a,0)=if hdK g L (a,0)=1 then grC fixB 32 15 else if hdK g L (a,0)=2 then dyG2 g L (hdQ L (a,0))else fun _=>0:=rfl
 have f3:hdY1 g L (a,0)=if hdK g L (a,0)=1 then grS fixA 288 15 else if hdK g L (a,0)=2 then dyY1 g L (hdQ L (a,0))else[]:=rfl
 have f4:hdY2 g L (a,0)=if hdK g L (a,0)=1 then grS fixB 32 15 else if hdK g L (a,0)=2 then dyY2 g L (hdQ L (a,0))else[]:=rfl
 generalize hdC1 g L (a,0)=C1 at f1⊢
 generalize hdC2 g L (a,0)=C2 at f2⊢
 generalize hdY1 g L (a,0)=Y1 at f3⊢
 generalize hdY2 g L (a,0)=Y2 at f4⊢
 generalize hdS g L (a,0)=S at eS⊢
 generalize hdL g L (a,0)=l0 at eL⊢
 generalize hdB g L (a,0)=lb at eB⊢
 generalize hdQ L (a,0)=q at eQ eS eL f1 f2 f3 f4
 generalize hdK g L (a,0)=kd at eK eS eL f1 f2 f3 f4⊢
 unfold begR
 by_cases h0:8*L<a+3
 ·rw[if_pos h0]
  refine⟨fun h=>absurd h (by decide),fun _=>?_⟩
  have hq:q.2=10∧kd=0:=by
   rw[eQ,eK,tkS_ok]
   by_cases h1:8*L<a+1
   ·rw[if_pos h1,tkS_err (s:=(a,10)) (show(10:Int)≠0 by decide),tkV_err (s:=(a,10)) (show(10:Int)≠0 by decide)]
    exact⟨rfl,rfl⟩
   ·rw[if_neg h1,tkS_ok,tkV_ok,if_pos (by omega),if_pos (by omega)]
    exact⟨rfl,rfl⟩
  rw[eS,if_pos hq.2,sizS_err (by rw[hq.1];decide)]
  exact hq.1
 ·rw[if_neg h0]
  have t1:tkS L 1 (a,0)=(a+1,0):=by rw[tkS_ok,if_neg (by omega)]
  have t2:tkS L 2 (a+1,0)=(a+3,0):=by rw[tkS_ok,if_neg (by omega)]
  rw[t1,t2]at eQ
  rw[t1,tkV_ok,if_neg (by omega)]at eK
  rw[tkV_ok,if_neg (by omega)]at eB
  subst eQ
  have s1:numN g a 3=numN g a 1+2^1*numN g (a+1) 2:=numN_add g a 1 2
  have b1:numN g a 1<2:=numN_lt g a 1
  have b2:numN g (a+1) 2<4:=numN_lt g (a+1) 2
  have h2:(2:Nat)^1=2:=rfl
  rw[h2]at s1
  have v1:numN g a 3/2=kd:=by omega
  have v2:decide (numN g a 3%2=1)=lb:=by
   rw[eB]
   show _=decide ((numN g a 1:Int)=1)
   exact decide_eq_decide.2 (by omega)
  unfold begW
  rw[v1,v2]
  by_cases k3:kd=3
  ·rw[if_pos k3]
   refine⟨fun h=>absurd h (by decide),fun _=>?_⟩
   rw[eS,if_neg (by omega),if_neg (by omega),if_neg (by omega),keepS_0]
  ·rw[if_neg k3]
   by_cases k2:kd=2
   ·rw[if_pos k2]
    rw[if_neg (by omega),if_neg (by omega),if_pos k2]at eS
    rw[if_neg (by omega)]at eL
    rw[if_neg (by omega),if_pos k2]at f1 f2 f3 f4
    obtain⟨d1,d2⟩:=dy_is (g:=g) (L:=L) (a:=a+3) (last:=lb) (by omega)
    rw[←eS,←f1,←f2,←f3,←f4]at d1
    rw[←eS]at d2
    refine⟨fun h=>?_,d2⟩
    obtain⟨c1,c2,c3,c4,c5,c6,c7,c8,c9,c10⟩:=d1 h
    exact⟨c1,by omega,c3.symm,by omega,by omega,by omega,fun h=>by omega,fun _=>⟨c4,c5,c6,c7,c8,c9,c10⟩⟩
   ·rw[if_neg k2]
    by_cases k1:kd=1
    ·rw[if_pos k1]
     rw[if_neg (by omega),if_pos k1]at eS
     rw[if_neg (by omega)]at eL
     rw[if_pos k1]at f1 f2 f3 f4
     refine⟨fun _=>?_,fun h=>absurd rfl h⟩
     have hS:S=(a+3,0):=by
      rw[eS];unfold gwS;rw[decide_eq_true fixA_check,decide_eq_true fixB_check];rfl
     exact⟨hS,k1,rfl,eL,by show 1≤2;omega,by show 0≤65535;omega,fun h=>absurd h (by show¬1=0;omega),fun _=>⟨rfl,f1,f2,f3,f4,fixA_check,fixB_check⟩⟩
    ·rw[if_neg k1]
     have k0:kd=0:=by omega
     rw[if_pos k0]at eS eL
     rw[if_neg (by omega),if_neg (by omega)]at f1 f2 f3 f4
     obtain⟨d1,d2⟩:=siz_is (g:=g) (L:=L) (a:=a+3) (last:=lb) (by omega)
     rw[←eS,←eL]at d1
     rw[←eS]at d2
     refine⟨fun h=>?_,d2⟩
     obtain⟨c1,c2⟩:=d1 h
     have hk:(stoR lb g L ((a+3+7)/8*8)).1.kind=0∧(stoR lb g L ((a+3+7)/8*8)).1.last=lb∧(stoR lb g L ((a+3+7)/8*8)).1.left≤65535:=by
      unfold stoR at h⊢
      split at h
      ·exact absurd h (by decide)
      ·rename_i h3
       rw[if_neg h3]
       unfold stoV at h⊢
       split at h
       ·exact absurd h (by decide)
       ·rename_i h4
        rw[if_neg h4]
        refine⟨rfl,rfl,?_⟩
        show numN g ((a+3+7)/8*8) 32%65536≤65535
        omega
     exact⟨c1,by omega,hk.2.1.symm,c2,by omega,hk.2.2,fun _=>⟨f1,f2,f3,f4⟩,fun h=>absurd hk.1 h⟩
end Go.Proofs.YtcmpmighjglnpaaGreat
namespace Go.Proofs.YtcmpmighjglnpaaGreat
open Go.RowKit
def headR(g:Nat→Nat)(L:Nat)(a:Int):Blk13×Nat×Int:=
 if asked13 L a≠0 then(blk0,0,asked13 L a)else if(begR g L a.toNat).2.2≠0 then(blk0,0,(begR g L a.toNat).2.2)else begR g L a.toNat
theorem cell_blkT2{fn:Func}{p u v:Tmp}(h:fn.results=#[.cell p 28,.tmp u,.tmp v])(tmps:Array Value)(w:World)(g:Nat)(cs:Array Value)(hs:cs.size=37)(hp:tmps.getD p undef=.pointer (some ⟨g,0,none⟩))(ht:w.heap[g]?=some (.cells cs 28 (0,0))):
  (results fn tmps).run Tryz.prog w=.ok (.tuple #[.agg cs,tmps.getD u undef,tmps.getD v undef]) w:=by
 have hp':tmps[p]?.getD undef=.pointer (some ⟨g,0,none⟩):=by simpa using hp
 have hl:=run_loadVar_row (P:=Tryz.prog) w g 28 28 cs (0,0) _ ht Tryz.underlying28 rfl (szBlkT cs hs)
 simp[results,h,hp',asAddr,hl]
def HeadD(base:Nat)(R:Blk13×Nat×Int)(e:Ending)(w':World):Prop:=∃v,e=.returned (.tuple #[v,.int .i64 (R.2.1:Int),.int .i64 R.2.2])∧OfD base R.1 v w'∧(R.2.2=0→BlkIn R.1)
theorem ofD_none(base:Nat)(w:World):OfD base blk0 (.agg (blkT 0 false 0 (fun _=>0) (fun _=>0) (.slice none 0 0) (.slice none 0 0))) w:=⟨(.slice none 0 0),(.slice none 0 0),rfl,World.ownsRow_nil ..,World.ownsRow_nil ..⟩
theorem headD_none{base:Nat}{R:Blk13×Nat×Int}{w':World}{x:Int}(h:R=(blk0,0,x))(hx:x≠0):HeadD base R (.returned (.tuple #[.agg (blkT 0 false 0 (fun _=>0) (fun _=>0) (.slice none 0 0) (.slice none 0 0)),.int .i64 0,.int .i64 x])) w':=by
 subst h;exact⟨_,rfl,ofD_none base w',fun h=>absurd h hx⟩
theorem built_blkT0:Tryz.prog.built 28 []=some (blkT 0 false 0 (fun _=>0) (fun _=>0) (.slice none 0 0) (.slice none 0 0)):=by kernel_rfl
end Go.Proofs.YtcmpmighjglnpaaGreat
namespace Go.Proofs.YtcmpmighjglnpaaGreat
open Go.RowKit
structure TwInv (l:List Oper) (T:Nat→Value→Prop) (a0:Act) (W0 W1:World) (s:Nat) (listed:Array Bool) (a:Act) (w:World):Prop where
 size:listed.size=l.length
 tmps:a.tmps.size=a0.tmps.size
 defers:a.defers=a0.defers
 off:∀t,(∀j d,listed.getD j false=true→(l[j]?).bind (·.dst)=some d→d≠t)→a.tmps[t]?=a0.tmps[t]?
 told:∀j d,listed.getD j false=true→(l[j]?).bind (·.dst)=some d→T j (a.eval (.tmp d))
 closed:∀j oj,l[j]?=some oj→listed.getD j false=true→∀e∈oj.after,Region.binds .any e=true→listed.getD e.on false=true
 world:w=if listed.getD s false=true then W1 else W0
def TwStep(P:Program)(l:List Oper)(T:Nat→Value→Prop)(a0:Act)(W0 W1:World)(s k:Nat)(o:Oper):Prop:=
 ∀(a:Act) (w:World),(w=W0∨(w=W1∧k≠s∧Region.waitsFor .any l.toArray s k=false))→(∀t,offB l t=true→a.eval (.tmp t)=a0.eval (.tmp t))→(∀j d,Region.waitsFor .any l.toArray k j=true→(l[j]?).bind (·.dst)=some d→T j (a.eval (.tmp d)))→
  ∀(K:Act→World→Prop) (Q:Exit→Act→World→Prop),(∀v,T k v→K (a.put o.dst v) (if k=s then W1 else w))→if Region.wanted o (yielded l.toArray a.tmps)=true then Oper.wp P o a w K Q else K (a.put o.dst undef) w
def TwAll(P:Program)(l:List Oper)(T:Nat→Value→Prop)(a0:Act)(W0 W1:World)(s:Nat):Nat→List Oper→Prop
 |_,[]=>True
 |k,o::r=>TwStep P l T a0 W0 W1 s k o∧TwAll P l T a0 W0 W1 s (k+1) r
theorem TwAll.get{P:Program}{l:List Oper}{T:Nat→Value→Prop}{a0:Act}{W0 W1:World}{s:Nat}:∀{r:List Oper} {k:Nat},TwAll P l T a0 W0 W1 s k r→∀{j:Nat} {o:Oper},r[j]?=some o→TwStep P l T a0 W0 W1 s (k+j) o
 |[],_,_,_,_,h=>by cases h
 |_::_,k,hA,0,_,h=>by cases h;exact hA.1
 |_::r,k,hA,j+1,o,h=>by
  have:=TwAll.get (r:=r) hA.2 (j:=j) (by simpa using h)
  rw[show k+1+j=k+(j+1) by omega]at this
  exact this
theorem tw_any{P:Program}{Q:Exit→Act→World→Prop}{a0:Act}{W0 W1:World}{l:List Oper}{T:Nat→Value→Prop}{s:Nat}(hs:s<l.length)(hB:tabB l a0.tmps.size=true)(hstep:TwAll P l T a0 W0 W1 s 0 l)
  (hend:∀listed a w,TwInv l T a0 W0 W1 s listed a w→(∀i,i<l.length→listed.getD i false=true)→Q .normal a w):
  ∀(f:Nat) (listed:Array Bool) (a:Act) (w:World),((List.range l.length).filter fun i=> !listed.getD i false).length=f→TwInv l T a0 W0 W1 s listed a w→wpAny P .any l.toArray Q f listed a w:=by
 have hB':=hB
 simp only[tabB,Bool.and_eq_true,decide_eq_true_eq]at hB'
 obtain⟨⟨hnd,hin⟩,hlow⟩:=hB'
 have hall:∀(listed:Array Bool),listed.size=l.length→Region.ready .any l.toArray listed=[]→∀i,i<l.length→listed.getD i false=true:=fun listed hsz hr i=>by
  induction i using Nat.strongRecOn with
  |_ i ih=>
   intro hi
   cases hu:listed.getD i false with
   |true=>rfl
   |false=>
    exfalso
    have h1:=List.all_eq_true.1 hlow i (List.mem_range.2 hi)
    have hoi:l[i]?=some l[i]:=List.getElem?_eq_getElem hi
    simp only[hoi]at h1
    have:i∈Region.ready .any l.toArray listed:=mem_ready.2 ⟨getD_in (by omega) hu,l[i],by simp[hi],fun e he hb=>by
     have h2:=Array.all_eq_true_iff_forall_mem.1 h1 e he
     simp only[hb,Bool.not_true,Bool.false_or,decide_eq_true_eq]at h2
     exact ih e.on h2 (by omega)⟩
    rw[hr]at this;cases this
 intro f
 induction f with
 |zero=>
  intro listed a w hf inv
  have hup:∀i,i<l.length→listed.getD i false=true:=fun i hi=>by
   have h0:=List.length_eq_zero_iff.1 hf
   have h1:=List.filter_eq_nil_iff.1 h0 i (List.mem_range.2 hi)
   simpa using h1
  refine⟨?_,hend listed a w inv hup⟩
  apply List.eq_nil_iff_forall_not_mem.2
  intro i hi
  obtain⟨h0,o,ho,_⟩:=mem_ready.1 hi
  have hlt:i<l.length:=by have:=(Array.getElem?_eq_some_iff.1 ho).1;simpa using this
  have h1:=hup i hlt
  rw[getD_both h0]at h1;cases h1
 |succ f ih=>
  intro listed a w hf inv
  refine⟨fun h0=>hend listed a w inv (hall listed inv.size h0),fun k hk=>?_⟩
  obtain⟨h0,o,ho,hafter⟩:=mem_ready.1 hk
  have hol:l[k]?=some o:=by simpa using ho
  have hlt:k<l.length:=(List.getElem?_eq_some_iff.1 hol).1
  have hst:TwStep P l T a0 W0 W1 s k o:=by have:=hstep.get hol;rwa[Nat.zero_add]at this
  have heval:∀t,offB l t=true→a.eval (.tmp t)=a0.eval (.tmp t):=fun t ht=>by
   show a.tmps.getD t undef=a0.tmps.getD t undef
   rw[Array.getD_eq_getD_getElem?,Array.getD_eq_getD_getElem?,inv.off t (fun _ _ _ hd=>offB_is ht hd)]
  have hfacts:∀j d,Region.waitsFor .any l.toArray k j=true→(l[j]?).bind (·.dst)=some d→T j (a.eval (.tmp d)):=fun j d hw hd=>by
   obtain⟨ok,hok,e,he,hb,hon⟩:=Region.waitsFor_spec hw
   rw[ho]at hok;cases hok
   exact inv.told j d (by have:=hafter e he hb;rwa[hon]at this) hd
  have hdlt:∀d,o.dst=some d→d<a.tmps.size:=fun d hd=>by
   have h1:=List.all_eq_true.1 hin o (List.mem_of_getElem? hol)
   simp only[hd,decide_eq_true_eq]at h1
   rw[inv.tmps];exact h1
  have hw01:w=W0∨(w=W1∧k≠s∧Region.waitsFor .any l.toArray s k=false):=by
   cases hls:listed.getD s false with
   |false=>left;have:=inv.world;rw[hls]at this;simpa using this
   |true=>
    right
    refine⟨by have:=inv.world;rw[hls]at this;simpa using this,fun e=>?_,?_⟩
    ·subst e;rw[getD_both h0]at hls;cases hls
    ·cases hw:Region.waitsFor .any l.toArray s k with
     |false=>rfl
     |true=>
      exfalso
      obtain⟨os,hos,e,he,hb,hon⟩:=Region.waitsFor_spec hw
      have:=inv.closed s os (by simpa using hos) hls e he hb
      rw[hon,getD_both h0]at this;cases this
  have hgo:=hst a w hw01 heval hfacts (wpAny P .any l.toArray Q f (listed.setIfInBounds k true)) Q (fun v hv=>by
   refine ih _ _ _ ?_ ⟨by simp[inv.size],?_,?_,fun t ht=>?_,fun j d hl hd=>?_,fun j oj hj hl e he hb=>?_,?_⟩
   ·have hfe:((List.range l.length).filter fun i=> !(listed.setIfInBounds k true).getD i false)=((List.range l.length).filter fun i=> !listed.getD i false).erase k:=by
     rw[List.Nodup.erase_eq_filter (List.nodup_range.filter _),List.filter_filter]
     apply List.filter_congr
     intro x hx
     by_cases e:x=k
     ·subst e
      have:x<listed.size:=by rw[inv.size];exact hlt
      simp[this]
     ·rw[getD_set_ne false (Ne.symm e)];simp[e]
    rw[hfe,List.length_erase_of_mem (List.mem_filter.2 ⟨List.mem_range.2 hlt,by rw[getD_both h0];rfl⟩),hf];rfl
   ·unfold Act.put;cases o.dst<;>simp[inv.tmps]
   ·unfold Act.put;cases o.dst<;>exact inv.defers
   ·rw[←inv.off t (fun j d hl hd=>ht j d (getD_set_true hl) hd)]
    unfold Act.put
    cases hd:o.dst with
    |none=>rfl
    |some d=>
     have e:d≠t:=ht k d (by have:k<listed.size:=(by rw[inv.size];exact hlt);simp[this]) (by rw[hol];simpa using hd)
     simp[Array.getElem?_setIfInBounds_ne e]
   ·by_cases e:j=k
    ·subst e
     rw[hol]at hd
     have hd':o.dst=some d:=by simpa using hd
     have hlt2:=hdlt d hd'
     have he:(a.put o.dst v).eval (.tmp d)=v:=by rw[hd'];simp[Act.put,Act.eval,hlt2]
     rw[he];exact hv
    ·rw[getD_set_ne false (Ne.symm e)]at hl
     have h1:=inv.told j d hl hd
     have he:(a.put o.dst v).eval (.tmp d)=a.eval (.tmp d):=Act.eval_put fun d' hd' hx=>by
      cases hx
      cases hj:l[j]? with
      |none=>rw[hj]at hd;cases hd
      |some y=>
       rw[hj]at hd
       exact e (tab_dst hnd hj hol (by simpa using hd) hd')
     rw[he];exact h1
   ·by_cases e':j=k
    ·subst e'
     rw[hol]at hj;cases hj
     exact getD_set_true (hafter e he hb)
    ·rw[getD_set_ne false (Ne.symm e')]at hl
     exact getD_set_true (inv.closed j oj hj hl e he hb)
   ·by_cases e:k=s
    ·subst e
     have:k<listed.size:=by rw[inv.size];exact hlt
     rw[if_pos rfl];simp[this]
    ·rw[if_neg e,getD_set_ne false e];exact inv.world)
  unfold wpOp
  simp only[ho]
  split at hgo
  ·rename_i hw;rw[if_pos hw];exact .inl hgo
  ·rename_i hw;rw[if_neg hw];exact hgo
theorem wp_region_two{P:Program}{id:Nat}{Q:Exit→Act→World→Prop}{a0:Act}{w0:World}{l:List Oper}(s:Nat)(T:Nat→Value→Prop)(W1:World)(hm:P.follows .mixedOrders=true)(hs:(decide (s<l.length)&&tabB l a0.tmps.size)=true)
  (hstep:TwAll P l T a0 w0.drew W1 s 0 l)
  (hend:∀(vals:Tmp→Value),(∀j d,(l[j]?).bind (·.dst)=some d→T j (vals d))→Q .normal (putL (l.map (·.dst)) vals a0) W1):(Code.region id l.toArray true).wp P Q a0 w0:=by
 simp only[Bool.and_eq_true,decide_eq_true_eq]at hs
 obtain⟨hsl,hB⟩:=hs
 refine wp_region_any hm ?_
 have hl0:∀i,(Array.replicate l.toArray.size false).getD i false=false:=fun i=>getD_replicate_false _ _
 refine tw_any (T:=T) hsl hB hstep (fun listed a w inv hup=>?_) l.toArray.size _ _ _ ?_ ⟨by simp,rfl,rfl,fun _ _=>rfl,(fun j d h _=>by rw[hl0]at h;cases h),(fun j oj _ h=>by rw[hl0]at h;cases h),by rw[hl0];rfl⟩
 ·have ha:a=putL (l.map (·.dst)) (fun d=>a.eval (.tmp d)) a0:=by
   have ht:a.tmps=(putL (l.map (·.dst)) (fun d=>a.eval (.tmp d)) a0).tmps:=by
    apply Array.ext_getElem?
    intro t
    by_cases ht:some t∈l.map (·.dst)
    ·obtain⟨o,ho,hd⟩:=List.mem_map.1 ht
     simp only[tabB,Bool.and_eq_true,decide_eq_true_eq]at hB
     have h1:=List.all_eq_true.1 hB.1.2 o ho
     simp only[hd,decide_eq_true_eq]at h1
     rw[putL_in _ _ _ t (.inl ht) h1]
     have h2:t<a.tmps.size:=by rw[inv.tmps];exact h1
     simp[Act.eval,h2]
    ·rw[putL_out _ _ _ t ht]
     refine inv.off t (fun j d _ hd e=>ht ?_)
     cases hj:l[j]? with
     |none=>rw[hj]at hd;cases hd
     |some y=>
      rw[hj]at hd
      exact List.mem_map.2 ⟨y,List.mem_of_getElem? hj,by rw[←e];simpa using hd⟩
   have hdf:a.defers=(putL (l.map (·.dst)) (fun d=>a.eval (.tmp d)) a0).defers:=by rw[putL_defers];exact inv.defers
   cases a with
   |mk t df=>
    generalize hp:putL (l.map (·.dst)) (fun d=>(Act.mk t df).eval (.tmp d)) a0=p at*
    cases p with
    |mk t2 df2=>simp only at ht hdf;rw[ht,hdf]
  have hw:=inv.world
  rw[if_pos (hup s hsl)]at hw
  rw[ha,hw]
  refine hend _ fun j d hd=>?_
  refine inv.told j d (hup j ?_) hd
  cases hj:l[j]? with
  |none=>rw[hj]at hd;cases hd
  |some _=>exact(List.getElem?_eq_some_iff.1 hj).1
 ·rw[List.filter_eq_self.2 (fun i _=>by rw[hl0];rfl)];simp
theorem tw_val{P:Program}{l:List Oper}{o:Oper}{a:Act}{w W1:World}{s k:Nat}{T:Value→Prop}{K:Act→World→Prop}{Q:Exit→Act→World→Prop}{E:Prop}(hks:k≠s)(hw:Region.wanted o (yielded l.toArray a.tmps)=true)(v:Value)
  (hr:(execOp a.eval o).run P w=.ok (.value v) w) (hK:∀v,T v→K (a.put o.dst v) (if k=s then W1 else w)) (hT:T v):if Region.wanted o (yielded l.toArray a.tmps)=true then Oper.wp P o a w K Q else E:=by
 rw[if_pos hw]
 unfold Oper.wp
 rw[hr]
 have:=hK v hT
 rw[if_neg hks]at this
 exact this
theorem tw_store{P:Program}{l:List Oper}{o:Oper}{a:Act}{w W1:World}{s:Nat}{T:Value→Prop}{K:Act→World→Prop}{Q:Exit→Act→World→Prop}{E:Prop}(hw:Region.wanted o (yielded l.toArray a.tmps)=true)(_hd:o.dst=none)
  (hr:(execOp a.eval o).run P w=.ok .skip W1) (hK:∀v,T v→K (a.put o.dst v) (if s=s then W1 else w)) (hT:T undef):if Region.wanted o (yielded l.toArray a.tmps)=true then Oper.wp P o a w K Q else E:=by
 rw[if_pos hw]
 unfold Oper.wp
 rw[hr]
 have:=hK undef hT
 rw[if_pos rfl]at this
 exact this
theorem TwAll.nil{P:Program}{l:List Oper}{T:Nat→Value→Prop}{a0:Act}{W0 W1:World}{s k:Nat}:TwAll P l T a0 W0 W1 s k []:=trivial
theorem TwAll.cons{P:Program}{l:List Oper}{T:Nat→Value→Prop}{a0:Act}{W0 W1:World}{s k:Nat}{o:Oper}{r:List Oper}(h:TwStep P l T a0 W0 W1 s k o)(hr:TwAll P l T a0 W0 W1 s (k+1) r):TwAll P l T a0 W0 W1 s k (o::r):=⟨h,hr⟩
def twT(L:List (Value→Prop))(k:Nat):Value→Prop:=(L[k]?).getD fun _=>True
end Go.Proofs.YtcmpmighjglnpaaGreat
